/-
  Contracts for the walks, several texts in one: each part says what it proves, and under which conditions.
-/
import Derived.Test.YtbhedlobiagngaaQ1
import Derived.Test.YtbhedlobiagngaaQ4
import Derived.Test.YtbhedlobiagngaaQ2

/-! A value as a tree, how much it holds, and what it means that it lies in memory below a block number; no condition but those told. -/
namespace Go.Proofs.Ytbhedlobiagngaa
open Go.RowKit
set_option linter.unusedSimpArgs false
set_option linter.unusedVariables false

inductive Tree where
  | mk (k n : Int) (s : ByteArray) (l : List Tree) (keys : List ByteArray) : Tree

theorem Tree.ind {P : Tree → Prop} (h : ∀ k n s l ks, (∀ U ∈ l, P U) → P (.mk k n s l ks)) : ∀ T, P T
  | .mk k n s l ks => h k n s l ks (fun U _ => Tree.ind h U)
  termination_by T => SizeOf.sizeOf T
  decreasing_by
    rename_i hU
    have := List.sizeOf_lt_of_mem hU
    simp
    omega

mutual
def Tree.wt : Tree → Nat
  | .mk _ _ s l ks => s.size + (wtL l + bulkS ks)
def wtL : List Tree → Nat
  | [] => 0
  | t :: r => 1 + t.wt + wtL r
end

theorem wtL_append (a b : List Tree) : wtL (a ++ b) = wtL a + wtL b := by
  induction a with
  | nil => simp [wtL]
  | cons t r ih => simp only [List.cons_append, wtL, ih]; omega

theorem wtL_take_succ (l : List Tree) (k : Nat) (h : k < l.length) : wtL (l.take (k + 1)) = wtL (l.take k) + 1 + (l[k]).wt := by
  rw [List.take_succ_eq_append_getElem h, wtL_append]
  simp [wtL]; omega

theorem wtL_take_le (l : List Tree) (k : Nat) : wtL (l.take k) ≤ wtL l := by
  conv => rhs; rw [← List.take_append_drop k l, wtL_append]
  omega

theorem length_le_wtL (l : List Tree) : l.length ≤ wtL l := by
  induction l with
  | nil => simp
  | cons t r ih => simp only [List.length_cons, wtL]; omega

theorem wtL_take_rest (l : List Tree) (k : Nat) : wtL (l.take k) + (l.length - k) ≤ wtL l := by
  conv => rhs; rw [← List.take_append_drop k l, wtL_append]
  have := length_le_wtL (l.drop k)
  simp at this
  omega

theorem wt_le_wtL {l : List Tree} {U : Tree} (h : U ∈ l) : U.wt + 1 ≤ wtL l := by
  induction l with
  | nil => simp at h
  | cons t r ih =>
    simp only [List.mem_cons] at h
    simp only [wtL]
    rcases h with rfl | h
    · omega
    · have := ih h; omega

/-- In blocks of S the world w' is as w was. -/
def KeptIn (S : Nat → Prop) (w w' : World) : Prop := ∀ b, S b → w'.heap[b]? = w.heap[b]?
theorem KeptIn.cell {S : Nat → Prop} {w w' : World} (h : KeptIn S w w') {b : Nat} (hb : S b) (o : Nat) : w'.cell? ⟨b, o, none⟩ = w.cell? ⟨b, o, none⟩ := World.cell?_of_block (w := w) (h b hb)
theorem KeptIn.trans {S : Nat → Prop} {a b c : World} (h : KeptIn S a b) (k : KeptIn S b c) : KeptIn S a c := fun i hi => (k i hi).trans (h i hi)
theorem KeptIn.of {S : Nat → Prop} {B : Nat} {w w' : World} (hb : Below B w w') (hS : ∀ b, S b → b < B) : KeptIn S w w' := fun b h => hb.block b (hS b h)

/-- A list of texts that lies in blocks of S. -/
def ReadsB (S : Nat → Prop) (w : World) (v : Value) (xs : List Value) : Prop :=
  ∃ a cap, v = .slice a xs.length cap ∧ xs.length ≤ cap ∧ (xs = [] ∨ ∃ b off, a = some ⟨b, off, none⟩ ∧ S b ∧ ∀ k (h : k < xs.length), w.cell? ⟨b, off + k, none⟩ = some xs[k])

theorem ReadsB.reads {S : Nat → Prop} {w : World} {v : Value} {xs : List Value} (h : ReadsB S w v xs) (hS : ∀ b, S b → b < w.heap.size) : Reads w v xs := by
  obtain ⟨a, cap, hv, hc, h⟩ := h
  refine ⟨a, cap, hv, hc, ?_⟩
  rcases h with h | ⟨b, off, ha, hb, h⟩
  · exact .inl h
  · exact .inr ⟨b, off, ha, hS b hb, h⟩

theorem ReadsB.of {w : World} {v : Value} {xs : List Value} (h : Reads w v xs) : ReadsB (· < w.heap.size) w v xs := h

theorem ReadsB.keep {S : Nat → Prop} {w w' : World} {v : Value} {xs : List Value} (hb : KeptIn S w w') (h : ReadsB S w v xs) : ReadsB S w' v xs := by
  obtain ⟨a, cap, hv, hc, h⟩ := h
  refine ⟨a, cap, hv, hc, ?_⟩
  rcases h with h | ⟨b, off, ha, hlt, h⟩
  · exact .inl h
  · exact .inr ⟨b, off, ha, hlt, fun k hk => (hb.cell hlt _).trans (h k hk)⟩

theorem ReadsB.mono {S S' : Nat → Prop} {w : World} {v : Value} {xs : List Value} (hB : ∀ b, S b → S' b) (h : ReadsB S w v xs) : ReadsB S' w v xs := by
  obtain ⟨a, cap, hv, hc, h⟩ := h
  refine ⟨a, cap, hv, hc, ?_⟩
  rcases h with h | ⟨b, off, ha, hlt, h⟩
  · exact .inl h
  · exact .inr ⟨b, off, ha, hB b hlt, h⟩

def saneS (ks : List ByteArray) : Prop := ks.length ≤ maxLen ∧ ∀ s ∈ ks, s.size ≤ maxLen

/-- The value v is the tree T, all of whose memory lies in blocks of S. -/
inductive Lies (S : Nat → Prop) (w : World) : Value → Tree → Prop
  | mk (k n : Int) (s : ByteArray) (l : List Tree) (ks : List ByteArray) (a : Option Addr) (cap : Nat) (u : Value) (C : Nat → Nat → Value)
      (hs : s.size ≤ maxLen) (hl : l.length ≤ maxLen) (hk : saneS ks) (hc : l.length ≤ cap) (hu : ReadsB S w u (strsV ks))
      (ha : l = [] ∨ ∃ b off, a = some ⟨b, off, none⟩ ∧ S b ∧ ∀ i, i < l.length → ∀ j, j < 5 → w.cell? ⟨b, off + i * 5 + j, none⟩ = some (C i j))
      (hC : ∀ i (h : i < l.length), Lies S w (.agg #[C i 0, C i 1, C i 2, C i 3, C i 4]) l[i]) :
      Lies S w (.agg #[.int .i64 k, .int .i64 n, .string s, .slice a l.length cap, u]) (.mk k n s l ks)

/-- The list of values v is l. -/
def LiesL (S : Nat → Prop) (w : World) (v : Value) (l : List Tree) : Prop :=
  ∃ a cap, ∃ C : Nat → Nat → Value, v = .slice a l.length cap ∧ l.length ≤ maxLen ∧ l.length ≤ cap ∧
    (l = [] ∨ ∃ b off, a = some ⟨b, off, none⟩ ∧ S b ∧ ∀ i, i < l.length → ∀ j, j < 5 → w.cell? ⟨b, off + i * 5 + j, none⟩ = some (C i j)) ∧
    ∀ i (h : i < l.length), Lies S w (.agg #[C i 0, C i 1, C i 2, C i 3, C i 4]) l[i]

theorem Lies.out {S : Nat → Prop} {w : World} {v : Value} {k n : Int} {s : ByteArray} {l : List Tree} {ks : List ByteArray} (h : Lies S w v (.mk k n s l ks)) :
    ∃ c u, v = .agg #[.int .i64 k, .int .i64 n, .string s, c, u] ∧ s.size ≤ maxLen ∧ saneS ks ∧ LiesL S w c l ∧ ReadsB S w u (strsV ks) := by
  cases h with
  | mk k n s l ks a cap u C hs hl hk hc hu ha hC => exact ⟨_, u, rfl, hs, hk, ⟨a, cap, C, rfl, hl, hc, ha, hC⟩, hu⟩

theorem Lies.of {S : Nat → Prop} {w : World} {c u : Value} {k n : Int} {s : ByteArray} {l : List Tree} {ks : List ByteArray} (hs : s.size ≤ maxLen) (hk : saneS ks) (hl : LiesL S w c l) (hu : ReadsB S w u (strsV ks)) :
    Lies S w (.agg #[.int .i64 k, .int .i64 n, .string s, c, u]) (.mk k n s l ks) := by
  obtain ⟨a, cap, C, rfl, hl, hc, ha, hC⟩ := hl
  exact .mk k n s l ks a cap u C hs hl hk hc hu ha hC

theorem LiesL.mk_keep {S : Nat → Prop} {w w' : World} {v : Value} {l : List Tree} (hb : KeptIn S w w') (hi : ∀ U ∈ l, ∀ x, Lies S w x U → Lies S w' x U) (h : LiesL S w v l) : LiesL S w' v l := by
  obtain ⟨a, cap, C, rfl, hl, hc, ha, hC⟩ := h
  refine ⟨a, cap, C, rfl, hl, hc, ?_, fun i h => hi _ (List.getElem_mem h) _ (hC i h)⟩
  rcases ha with ha | ⟨b, off, ha, hlt, hcell⟩
  · exact .inl ha
  · exact .inr ⟨b, off, ha, hlt, fun i hi j hj => (hb.cell hlt _).trans (hcell i hi j hj)⟩

theorem Lies.keep {S : Nat → Prop} {w w' : World} (hb : KeptIn S w w') : ∀ {T : Tree} {v : Value}, Lies S w v T → Lies S w' v T := by
  have h := Tree.ind (P := fun T => ∀ v, Lies S w v T → Lies S w' v T) ?_
  · exact fun {T v} hx => h T v hx
  intro k n s l ks ih v h
  obtain ⟨c, u, rfl, hs, hk, hl, hu⟩ := h.out
  exact Lies.of hs hk (hl.mk_keep hb ih) (hu.keep hb)

theorem LiesL.keep {S : Nat → Prop} {w w' : World} {v : Value} {l : List Tree} (hb : KeptIn S w w') (h : LiesL S w v l) : LiesL S w' v l :=
  h.mk_keep hb fun U _ x hx => Lies.keep hb hx

theorem LiesL.mk_mono {S S' : Nat → Prop} {w : World} {v : Value} {l : List Tree} (hB : ∀ b, S b → S' b) (hi : ∀ U ∈ l, ∀ x, Lies S w x U → Lies S' w x U) (h : LiesL S w v l) : LiesL S' w v l := by
  obtain ⟨a, cap, C, rfl, hl, hc, ha, hC⟩ := h
  refine ⟨a, cap, C, rfl, hl, hc, ?_, fun i h => hi _ (List.getElem_mem h) _ (hC i h)⟩
  rcases ha with ha | ⟨b, off, ha, hlt, hcell⟩
  · exact .inl ha
  · exact .inr ⟨b, off, ha, hB b hlt, hcell⟩

theorem Lies.mono {S S' : Nat → Prop} {w : World} (hB : ∀ b, S b → S' b) : ∀ {T : Tree} {v : Value}, Lies S w v T → Lies S' w v T := by
  have h := Tree.ind (P := fun T => ∀ v, Lies S w v T → Lies S' w v T) ?_
  · exact fun {T v} hx => h T v hx
  intro k n s l ks ih v h
  obtain ⟨c, u, rfl, hs, hk, hl, hu⟩ := h.out
  exact Lies.of hs hk (hl.mk_mono hB ih) (hu.mono hB)

theorem LiesL.mono {S S' : Nat → Prop} {w : World} {v : Value} {l : List Tree} (hB : ∀ b, S b → S' b) (h : LiesL S w v l) : LiesL S' w v l :=
  h.mk_mono hB fun U _ x hx => Lies.mono hB hx

/-- What is at place i of a list of values: five cells, which are the tree there. -/
theorem LiesL.at {S : Nat → Prop} {w : World} {v : Value} {l : List Tree} (h : LiesL S w v l) :
    ∃ a cap, v = .slice a l.length cap ∧ l.length ≤ maxLen ∧ l.length ≤ cap ∧ (l = [] ∨ ∃ b off, a = some ⟨b, off, none⟩ ∧ S b ∧ ∀ i (h : i < l.length), ∃ c0 c1 c2 c3 c4,
      w.cell? ⟨b, off + i * 5, none⟩ = some c0 ∧ w.cell? ⟨b, off + i * 5 + 1, none⟩ = some c1 ∧ w.cell? ⟨b, off + i * 5 + 2, none⟩ = some c2 ∧ w.cell? ⟨b, off + i * 5 + 3, none⟩ = some c3 ∧ w.cell? ⟨b, off + i * 5 + 4, none⟩ = some c4 ∧
      Lies S w (.agg #[c0, c1, c2, c3, c4]) l[i]) := by
  obtain ⟨a, cap, C, rfl, hl, hc, ha, hC⟩ := h
  refine ⟨a, cap, rfl, hl, hc, ?_⟩
  rcases ha with ha | ⟨b, off, ha, hlt, hcell⟩
  · exact .inl ha
  · refine .inr ⟨b, off, ha, hlt, fun i hi => ⟨C i 0, C i 1, C i 2, C i 3, C i 4, ?_, ?_, ?_, ?_, ?_, hC i hi⟩⟩
    · simpa using hcell i hi 0 (by omega)
    · exact hcell i hi 1 (by omega)
    · exact hcell i hi 2 (by omega)
    · exact hcell i hi 3 (by omega)
    · exact hcell i hi 4 (by omega)

/-- A parameter that was put into a block of its own is still there behind a call. -/
theorem box5 {w w1 : World} {c0 c1 c2 c3 c4 : Value} {t : TypeId} (hb : Below (w.alloc (.cells #[c0, c1, c2, c3, c4] t)).heap.size (w.alloc (.cells #[c0, c1, c2, c3, c4] t)) w1) :
    w1.cell? ⟨w.heap.size, 0, none⟩ = some c0 ∧ w1.cell? ⟨w.heap.size, 1, none⟩ = some c1 ∧ w1.cell? ⟨w.heap.size, 2, none⟩ = some c2 ∧ w1.cell? ⟨w.heap.size, 3, none⟩ = some c3 ∧ w1.cell? ⟨w.heap.size, 4, none⟩ = some c4 := by
  have h : ∀ j, w1.cell? ⟨w.heap.size, j, none⟩ = (#[c0, c1, c2, c3, c4] : Array Value)[j]? := fun j => by
    rw [hb.cell (p := ⟨w.heap.size, j, none⟩) (by simp)]
    have e : (w.alloc (.cells #[c0, c1, c2, c3, c4] t)).heap[w.heap.size]? = some (.cells #[c0, c1, c2, c3, c4] t) := by show (w.heap.push _)[w.heap.size]? = _; simp
    simp only [World.cell?, e]; rfl
  exact ⟨h 0, h 1, h 2, h 3, h 4⟩

theorem heap_new (w : World) (o : Obj) : (w.alloc o).heap[w.heap.size]? = some o := by show (w.heap.push _)[w.heap.size]? = _; simp
theorem heap_old (w : World) (o : Obj) {b : Nat} (h : b < w.heap.size) : (w.alloc o).heap[b]? = w.heap[b]? := Below.heap_alloc w o b h
theorem three {w w1 : World} {A R O : Obj} (hb : Below (((w.alloc A).alloc R).alloc O).heap.size (((w.alloc A).alloc R).alloc O) w1) :
    w1.heap[w.heap.size]? = some A ∧ w1.heap[w.heap.size + 1]? = some R ∧ w1.heap[w.heap.size + 1 + 1]? = some O := by
  have s1 : (w.alloc A).heap.size = w.heap.size + 1 := by simp
  have s2 : ((w.alloc A).alloc R).heap.size = w.heap.size + 1 + 1 := by simp
  refine ⟨?_, ?_, ?_⟩
  · rw [hb.block _ (by simp; omega), heap_old _ _ (by simp; omega), heap_old _ _ (by simp), heap_new]
  · rw [hb.block _ (by simp), heap_old _ _ (by simp), ← s1, heap_new]
  · rw [hb.block _ (by simp), ← s2, heap_new]
theorem blk_cell {w : World} {b : Nat} {cs : Array Value} {t : TypeId} (h : w.heap[b]? = some (.cells cs t (0, 0))) (j : Nat) : w.cell? ⟨b, j, none⟩ = cs[j]? := cell_of_row w b j cs t (0, 0) h
theorem blk_frozen {w : World} {b : Nat} {cs : Array Value} {t : TypeId} (h : w.heap[b]? = some (.cells cs t (0, 0))) (j : Nat) : w.frozen? ⟨b, j, none⟩ = false := frozen_of_row w b j cs t h
theorem blk_set {w : World} {b : Nat} {cs : Array Value} {t : TypeId} (h : w.heap[b]? = some (.cells cs t (0, 0))) (j : Nat) (v : Value) : (w.setCell ⟨b, j, none⟩ v).heap[b]? = some (.cells (cs.setIfInBounds j v) t (0, 0)) := heap_setCell_same w b j cs t v h

#print axioms Lies.keep
end Go.Proofs.Ytbhedlobiagngaa

/-! How much a value holds, as the law's own helper reckons it: a contract for every value that lies in memory. -/
namespace Go.Proofs.Ytbhedlobiagngaa
open Go.RowKit
set_option linter.unusedSimpArgs false
set_option linter.unusedVariables false

set_option maxHeartbeats 1000000 in
set_option maxRecDepth 100000 in
theorem sizeStrsT_c (v : Value) (ss : List ByteArray) (w : World) (left : Int) (hl0 : 0 ≤ left) (hl1 : left ≤ 1048576) (hv : Reads w v (strsV ss)) (hn : ss.length ≤ maxLen) (hs : ∀ s ∈ ss, s.size ≤ maxLen) :
    Calls Try.prog 66 #[v, .int .i64 left] w fun e w' => e = .returned (.int .i64 (leftS ss left)) ∧ w = w' := by
  obtain ⟨a, cap, rfl, _, hc⟩ := reads_strs hv
  clear hv
  unfold maxLen at hn hs
  by_cases h0 : left < (ss.length : Int)
  · have hneg : left - (ss.length : Int) < 0 := by omega
    have e : leftS ss left = -1 := by rw [leftS, bulkS, if_neg (by omega)]
    rw [e]
    clear hc hs
    go_enter Try.func66, Try.ntmps66
    go_wp2
    go_ret
    exact ⟨rfl, rfl⟩
  · have hpos : ¬ (left - (ss.length : Int) < 0) := by omega
    rcases hc with rfl | ⟨b, off, rfl, hlt, hc⟩
    · go_enter Try.func66, Try.ntmps66
      go_wp2
      go_loop [1, 5] (fun vl vi => vl = .int .i64 left ∧ vi = .int .i64 0) (fun _ _ => 0)
      case atStart => exact ⟨rfl, rfl⟩
      case round =>
        obtain ⟨rfl, rfl⟩ := hrel
        go_wp2
        go_ret
        exact ⟨by rw [show leftS [] left = left by simp [leftS, bulkS, hl0]]; rfl, rfl⟩
    · go_enter Try.func66, Try.ntmps66
      go_wp2
      go_loop [1, 5] (fun vl vi => ∃ (k : Nat) (l : Int), k ≤ ss.length ∧ vi = .int .i64 (k : Int) ∧ vl = .int .i64 l ∧ 0 ≤ l ∧ l ≤ 1048576 ∧ Hid (l = left - (ss.length : Int) - (((ss.take k).map ByteArray.size).sum : Int))) (fun _ vi => ss.length - (intOf vi).toNat)
      case atStart => exact ⟨0, _, Nat.zero_le _, rfl, rfl, by omega, by omega, by show _ = _; simp⟩
      case round =>
        obtain ⟨k, l, hk, rfl, rfl, hq0, hq1, hl⟩ := hrel
        by_cases hlt' : k < ss.length
        · have hcx := hc k hlt'
          have hsk := hs ss[k] (List.getElem_mem hlt')
          have hsum := sum_take_succ ss k hlt'
          obtain ⟨t, ht⟩ : ∃ t, t = ss[k] := ⟨_, rfl⟩
          rw [← ht] at hcx hsk hsum
          have HS : Hid (((ss.take (k + 1)).map ByteArray.size).sum = ((ss.take k).map ByteArray.size).sum + t.size) := hsum
          have hki : (k : Int) < (ss.length : Int) := by omega
          clear hc hs ht hsum
          by_cases hneg : l - (t.size : Int) < 0
          · have e : leftS ss left = -1 := by
              have h1 := HS.out; have h2 := hl.out; have h3 := sum_take_le ss (k + 1)
              rw [leftS, bulkS, if_neg (by omega)]
            have HE : Hid (leftS ss left = -1) := e
            clear e
            go_wp2
            go_ret
            exact ⟨by rw [HE.out]; rfl, rfl⟩
          · go_wp2
            go_round
            case rel => exact ⟨k + 1, l - (t.size : Int), by omega, by go_num, rfl, by omega, by omega, (by show _ = _; rw [HS.out, hl.out]; omega)⟩
            case measure => simp [intOf]; omega
        · have he : k = ss.length := by omega
          subst he
          have e : leftS ss left = l := by
            have h2 := hl.out
            rw [List.take_length] at h2
            rw [leftS, bulkS, if_pos (by omega)]; omega
          have HE : Hid (leftS ss left = l) := e
          clear hc hs e
          go_wp2
          go_ret
          exact ⟨by rw [HE.out]; rfl, rfl⟩
def leftN (n : Nat) (left : Int) : Int := if (n : Int) ≤ left then left - (n : Int) else -1
theorem leftN_bad {n : Nat} {left : Int} (h : left < (n : Int)) : leftN n left = -1 := by unfold leftN; rw [if_neg (by omega)]
theorem leftN_good {n : Nat} {left : Int} (h : (n : Int) ≤ left) : leftN n left = left - (n : Int) := by unfold leftN; rw [if_pos h]
theorem leftS_N (ks : List ByteArray) (left : Int) : leftS ks left = leftN (bulkS ks) left := rfl
theorem wt_mk (k n : Int) (s : ByteArray) (l : List Tree) (ks : List ByteArray) : (Tree.mk k n s l ks).wt = s.size + (wtL l + bulkS ks) := by rw [Tree.wt]

end Go.Proofs.Ytbhedlobiagngaa

/-! A value copied into memory of its own, as the law's helper does it: a contract for every value that lies in memory and holds at most 2 to the 20. -/
namespace Go.Proofs.Ytbhedlobiagngaa
open Go.RowKit
set_option linter.unusedSimpArgs false
set_option linter.unusedVariables false

/-- The blocks from lo on, below hi. -/
def Own (lo hi : Nat) (b : Nat) : Prop := lo ≤ b ∧ b < hi
theorem Own.set {lo hi : Nat} {w : World} {g j : Nat} {v : Value} (h : g < lo) : KeptIn (Own lo hi) w (w.setCell ⟨g, j, none⟩ v) := fun b hb => Below.heap_setCell w ⟨g, j, none⟩ v b (by have := hb.1; simp; omega)
theorem Own.below {lo : Nat} {w w' : World} (h : Below w.heap.size w w') : KeptIn (Own lo w.heap.size) w w' := fun b hb => h.block b hb.2
theorem Own.mono {lo lo' hi hi' : Nat} (h1 : lo' ≤ lo) (h2 : hi ≤ hi') : ∀ b, Own lo hi b → Own lo' hi' b := fun b h => ⟨Nat.le_trans h1 h.1, Nat.lt_of_lt_of_le h.2 h2⟩

theorem readsB_of_owns {w : World} {base : Nat} {e : TypeId} {v : Value} {n : Nat} {xs : List Value} (h : w.ownsRow base e 1 v n xs) : ReadsB (Own base w.heap.size) w v xs := by
  have h0 := reads_of_owns h
  obtain ⟨a, cap, hv, hc, hx⟩ := h0
  refine ⟨a, cap, hv, hc, ?_⟩
  rcases hx with hx | ⟨b, off, rfl, hlt, hx⟩
  · exact .inl hx
  · refine .inr ⟨b, off, rfl, ⟨?_, hlt⟩, hx⟩
    rcases h.2 with ⟨hn, _⟩ | ⟨g, cap', cur, hv', hg, _⟩
    · rw [hn] at hv; simp at hv
    · rw [hv'] at hv
      simp only [Value.slice.injEq, Option.some.injEq, Addr.mk.injEq] at hv
      omega

theorem toVal_facts {w1 w2 : World} {N : Nat} {t t' : TypeId} {x o0 o1 o2 o3 o4 r0 r1 r2 r3 r4 : Value} (hR : w1.heap[N + 1]? = some (.cells #[r0, r1, r2, r3, r4] t)) (hO : w1.heap[N + 1 + 1]? = some (.cells #[o0, o1, o2, o3, o4] t'))
    (hb : Below (w1.setCell ⟨N + 1 + 1, 3, none⟩ x).heap.size (w1.setCell ⟨N + 1 + 1, 3, none⟩ x) w2) :
    (w2.cell? ⟨N + 1 + 1, 0, none⟩ = some o0 ∧ w2.cell? ⟨N + 1 + 1, 1, none⟩ = some o1 ∧ w2.cell? ⟨N + 1 + 1, 2, none⟩ = some o2 ∧ w2.cell? ⟨N + 1 + 1, 3, none⟩ = some x ∧ w2.cell? ⟨N + 1 + 1, 4, none⟩ = some o4) ∧
    (w2.cell? ⟨N + 1, 0, none⟩ = some r0 ∧ w2.cell? ⟨N + 1, 1, none⟩ = some r1 ∧ w2.cell? ⟨N + 1, 2, none⟩ = some r2 ∧ w2.cell? ⟨N + 1, 3, none⟩ = some r3 ∧ w2.cell? ⟨N + 1, 4, none⟩ = some r4) ∧
    (∀ j, w2.frozen? ⟨N + 1 + 1, j, none⟩ = false) ∧ (∀ j, w2.frozen? ⟨N + 1, j, none⟩ = false) := by
  have l1 : N + 1 < w1.heap.size := (Array.getElem?_eq_some_iff.1 hR).1
  have l2 : N + 1 + 1 < w1.heap.size := (Array.getElem?_eq_some_iff.1 hO).1
  have s1 : (w1.setCell ⟨N + 1 + 1, 3, none⟩ x).heap.size = w1.heap.size := by simp [World.setCell]
  have eO := blk_set hO 3 x
  have eR : (w1.setCell ⟨N + 1 + 1, 3, none⟩ x).heap[N + 1]? = _ := (Below.heap_setCell w1 ⟨N + 1 + 1, 3, none⟩ x (N + 1) (by simp)).trans hR
  rw [← hb.block _ (by rw [s1]; exact l2)] at eO
  rw [← hb.block _ (by rw [s1]; exact l1)] at eR
  exact ⟨⟨blk_cell eO 0, blk_cell eO 1, blk_cell eO 2, blk_cell eO 3, blk_cell eO 4⟩, ⟨blk_cell eR 0, blk_cell eR 1, blk_cell eR 2, blk_cell eR 3, blk_cell eR 4⟩, blk_frozen eO, blk_frozen eR⟩

def cellsAt (ys : List Value) (i : Nat) : Value := .agg #[ys.getD (i * 5) undef, ys.getD (i * 5 + 1) undef, ys.getD (i * 5 + 2) undef, ys.getD (i * 5 + 3) undef, ys.getD (i * 5 + 4) undef]

def set5 (ys : List Value) (i : Nat) (c0 c1 c2 c3 c4 : Value) : List Value := ((((ys.set (i * 5) c0).set (i * 5 + 1) c1).set (i * 5 + 2) c2).set (i * 5 + 3) c3).set (i * 5 + 4) c4

theorem cellsAt_same (ys : List Value) (i : Nat) (c0 c1 c2 c3 c4 : Value) (h : i * 5 + 4 < ys.length) : cellsAt (set5 ys i c0 c1 c2 c3 c4) i = .agg #[c0, c1, c2, c3, c4] := by
  simp [cellsAt, set5, List.getD_eq_getElem?_getD, List.getElem?_set, h, show i * 5 < ys.length by omega, show i * 5 + 1 < ys.length by omega, show i * 5 + 2 < ys.length by omega, show i * 5 + 3 < ys.length by omega]

theorem getD_set_ne (ys : List Value) (a b : Nat) (v : Value) (h : a ≠ b) : (ys.set a v).getD b undef = ys.getD b undef := by
  simp [List.getD_eq_getElem?_getD, List.getElem?_set, h]

theorem cellsAt_other (ys : List Value) (i j : Nat) (c0 c1 c2 c3 c4 : Value) (h : j < i) : cellsAt (set5 ys i c0 c1 c2 c3 c4) j = cellsAt ys j := by
  have e : ∀ q, q < 5 → (set5 ys i c0 c1 c2 c3 c4).getD (j * 5 + q) undef = ys.getD (j * 5 + q) undef := fun q hq => by
    unfold set5
    rw [getD_set_ne _ _ _ _ (by omega), getD_set_ne _ _ _ _ (by omega), getD_set_ne _ _ _ _ (by omega), getD_set_ne _ _ _ _ (by omega), getD_set_ne _ _ _ _ (by omega)]
  have e0 := e 0 (by omega)
  rw [Nat.add_zero] at e0
  simp only [cellsAt, e0, e 1 (by omega), e 2 (by omega), e 3 (by omega), e 4 (by omega)]

end Go.Proofs.Ytbhedlobiagngaa

/-! A list of values copied into memory of its own; with it every value: a contract for what lies in memory and holds at most 2 to the 20. -/
namespace Go.Proofs.Ytbhedlobiagngaa
open Go.RowKit
set_option linter.unusedSimpArgs false
set_option linter.unusedVariables false

/-- What lies in memory, with its two lists written out. -/
theorem Lies.parts {S : Nat → Prop} {w : World} {v : Value} {T : Tree} (h : Lies S w v T) :
    ∃ k n s a m cap a' m' cap', v = .agg #[.int .i64 k, .int .i64 n, .string s, .slice a m cap, .slice a' m' cap'] := by
  cases T with
  | mk k n s l ks =>
    obtain ⟨c, u, rfl, hs, hk, ⟨a, cap, C, rfl, _⟩, ⟨a', cap', rfl, _⟩⟩ := h.out
    exact ⟨_, _, _, _, _, _, _, _, _, rfl⟩

end Go.Proofs.Ytbhedlobiagngaa

/-! Two values that are the same tree are told so by the law's own comparison: a contract for every two that lie in memory. -/
namespace Go.Proofs.Ytbhedlobiagngaa
open Go.RowKit
set_option linter.unusedSimpArgs false
set_option linter.unusedVariables false

theorem two5 {w w1 : World} {c0 c1 c2 c3 c4 d0 d1 d2 d3 d4 : Value} {t : TypeId} (hb : Below ((w.alloc (.cells #[c0, c1, c2, c3, c4] t)).alloc (.cells #[d0, d1, d2, d3, d4] t)).heap.size ((w.alloc (.cells #[c0, c1, c2, c3, c4] t)).alloc (.cells #[d0, d1, d2, d3, d4] t)) w1) :
    w1.cell? ⟨w.heap.size, 4, none⟩ = some c4 ∧ w1.cell? ⟨w.heap.size + 1, 4, none⟩ = some d4 := by
  have s1 : (w.alloc (.cells #[c0, c1, c2, c3, c4] t)).heap.size = w.heap.size + 1 := by simp
  have h1 : w1.heap[w.heap.size]? = some (.cells #[c0, c1, c2, c3, c4] t) := by rw [hb.block _ (by simp; omega), heap_old _ _ (by simp), heap_new]
  have h2 : w1.heap[w.heap.size + 1]? = some (.cells #[d0, d1, d2, d3, d4] t) := by rw [hb.block _ (by simp), ← s1, heap_new]
  exact ⟨blk_cell h1 4, blk_cell h2 4⟩

end Go.Proofs.Ytbhedlobiagngaa

/-! Trees of values that may be written, no two rows of which are the same, and such as bear marks: what they are, and that they are kept; no condition. -/
namespace Go.Proofs.Ytbhedlobiagngaa
open Go.RowKit
set_option linter.unusedSimpArgs false
set_option linter.unusedVariables false

def Tree.kids : Tree → List Tree
  | .mk _ _ _ l _ => l
def Tree.keys : Tree → List ByteArray
  | .mk _ _ _ _ ks => ks
mutual
/-- How many marks a tree takes below its own, and a list of trees. -/
def Tree.cnt : Tree → Nat
  | .mk _ _ _ l ks => 3 + cntL l + ks.length
def cntL : List Tree → Nat
  | [] => 0
  | t :: r => t.cnt + cntL r
end
theorem cnt_eq (T : Tree) : T.cnt = 3 + cntL T.kids + T.keys.length := by
  cases T; rw [Tree.cnt]; rfl
theorem cntL_append (a b : List Tree) : cntL (a ++ b) = cntL a + cntL b := by
  induction a with
  | nil => simp [cntL]
  | cons t r ih => simp only [List.cons_append, cntL, ih]; omega
theorem cntL_take (l : List Tree) (k : Nat) (h : k < l.length) : cntL (l.take (k + 1)) = cntL (l.take k) + l[k].cnt := by
  rw [List.take_succ_eq_append_getElem h, cntL_append]; simp [cntL]
theorem cntL_take_le (l : List Tree) (k : Nat) : cntL (l.take k) ≤ cntL l := by
  conv => rhs; rw [← List.take_append_drop k l, cntL_append]
  omega

/-- From w to w' only blocks of S, and new ones, have changed. -/
structure Chg (S : Nat → Prop) (w w' : World) : Prop where
  os : w'.os = w.os
  tape : w'.tape = w.tape
  output : w'.output = w.output
  size : w.heap.size ≤ w'.heap.size
  block : ∀ b, b < w.heap.size → ¬ S b → w'.heap[b]? = w.heap[b]?
theorem Chg.refl (S : Nat → Prop) (w : World) : Chg S w w := ⟨rfl, rfl, rfl, Nat.le_refl _, fun _ _ _ => rfl⟩
theorem Chg.trans {S : Nat → Prop} {a b c : World} (h : Chg S a b) (k : Chg S b c) : Chg S a c :=
  ⟨k.os.trans h.os, k.tape.trans h.tape, k.output.trans h.output, Nat.le_trans h.size k.size, fun i hi hs => (k.block i (Nat.lt_of_lt_of_le hi h.size) hs).trans (h.block i hi hs)⟩
theorem Chg.mono {S S' : Nat → Prop} {a b : World} (h : Chg S a b) (hs : ∀ b, S b → S' b) : Chg S' a b := ⟨h.os, h.tape, h.output, h.size, fun i hi hn => h.block i hi (fun k => hn (hs i k))⟩
theorem Chg.of {S : Nat → Prop} {a b : World} (h : Below a.heap.size a b) : Chg S a b := ⟨h.os, h.tape, h.output, h.size, fun i hi _ => h.block i hi⟩
theorem Chg.kp {S R : Nat → Prop} {a b : World} (h : Chg S a b) (hr : ∀ i, R i → i < a.heap.size ∧ ¬ S i) : Kp R a b := fun i hi => h.block i (hr i hi).1 (hr i hi).2
end Go.Proofs.Ytbhedlobiagngaa

/-! Marks put into a tree of values that may be written, as the law puts them: contracts for the walks; conditions: no two rows are the same, and there are at most 2 to the 32 marks. -/
namespace Go.Proofs.Ytbhedlobiagngaa
open Go.RowKit
set_option linter.unusedSimpArgs false
set_option linter.unusedVariables false

theorem Chg.set {S : Nat → Prop} {w : World} {g j : Nat} {v : Value} (h : S g) : Chg S w (w.setCell ⟨g, j, none⟩ v) :=
  ⟨rfl, rfl, rfl, by simp [World.setCell], fun b hb hn => Below.heap_setCell w ⟨g, j, none⟩ v b (fun e => by have e' : b = g := e; subst e'; exact hn h)⟩
theorem Chg.grown {S : Nat → Prop} {w w' : World} {r : Option Nat} (h : w.grownBy w' r) (hr : ∀ g, r = some g → S g) : Chg S w w' :=
  ⟨h.os, h.tape, h.output, h.size, fun b hb hn => h.block b hb (fun e => hn (hr b e.symm))⟩
theorem rdB_in {S : Nat → Prop} {w : World} {lo : Nat} {e : TypeId} {v : Value} {n : Nat} {xs : List Value} (h : w.ownsRow lo e 1 v n xs) (hs : ∀ g, v.ownBlock = some g → S g) : RdB S w v xs := by
  obtain ⟨a, cap, hv, hc, hx⟩ := reads_of_owns h
  refine ⟨a, cap, hv, hc, ?_⟩
  rcases hx with hx | ⟨b, off, rfl, hlt, hx⟩
  · exact .inl hx
  · exact .inr ⟨b, off, rfl, hs b (by rw [hv]; rfl), hx⟩
theorem owns_sl {w : World} {lo : Nat} {e : TypeId} {sz n : Nat} {v : Value} {xs : List Value} (hg : w.ownsRow lo e sz v n xs) : ∃ q cap, v = .slice q n cap := by
  rcases hg.2 with ⟨h1, h2⟩ | ⟨g, cap, cur, h1, _⟩
  · exact ⟨none, 0, by rw [h1, h2]⟩
  · exact ⟨_, _, h1⟩
def put3 (ys : List Value) (i : Nat) (a b c : Value) : List Value := ((ys.set (i * 5) a).set (i * 5 + 1) b).set (i * 5 + 2) c
theorem put3_other {ys : List Value} {i j : Nat} {a b c : Value} (h : j < i * 5 ∨ i * 5 + 2 < j) : (put3 ys i a b c)[j]? = ys[j]? := by
  unfold put3
  rw [List.getElem?_set_ne (by omega), List.getElem?_set_ne (by omega), List.getElem?_set_ne (by omega)]
theorem put3_same {ys : List Value} {i : Nat} {a b c : Value} (h : i * 5 + 2 < ys.length) : (put3 ys i a b c)[i * 5]? = some a ∧ (put3 ys i a b c)[i * 5 + 1]? = some b ∧ (put3 ys i a b c)[i * 5 + 2]? = some c := by
  simp [put3, List.getElem?_set, h, show i * 5 < ys.length by omega, show i * 5 + 1 < ys.length by omega]

end Go.Proofs.Ytbhedlobiagngaa

/-! Copies of needs and entries, as the program makes them: contracts for the walks; conditions: they lie in memory, and hold at most 2 to the 20. -/
namespace Go.Proofs.Ytbhedlobiagngaa
open Go.RowKit
set_option linter.unusedSimpArgs false
set_option linter.unusedVariables false

/-- The cells of needs. -/
def needsV (xs : List NeedD) : List Value := xs.flatMap fun d => [.string d.n, .string d.r]
theorem needsV_length (xs : List NeedD) : (needsV xs).length = xs.length * 2 := by
  induction xs with
  | nil => rfl
  | cons d l ih => simp only [needsV, List.flatMap_cons, List.length_append, List.length_cons, List.length_nil] at *; omega
theorem needsV_append (xs ys : List NeedD) : needsV xs ++ needsV ys = needsV (xs ++ ys) := by simp [needsV]
theorem needsV_take (xs : List NeedD) (k : Nat) (h : k < xs.length) : needsV (xs.take k) ++ [.string xs[k].n, .string xs[k].r] = needsV (xs.take (k + 1)) := by
  rw [List.take_succ_eq_append_getElem h, ← needsV_append]; rfl
theorem needsV_at (xs : List NeedD) : ∀ i (h : i < xs.length), (needsV xs)[i * 2]? = some (.string xs[i].n) ∧ (needsV xs)[i * 2 + 1]? = some (.string xs[i].r) := by
  induction xs with
  | nil => intro i h; simp at h
  | cons d l ih =>
    intro i h
    have e : needsV (d :: l) = [.string d.n, .string d.r] ++ needsV l := by simp [needsV]
    cases i with
    | zero => rw [e]; simp
    | succ i =>
      have h' := ih i (by simpa using h)
      rw [e, List.getElem?_append_right (by simp; omega), List.getElem?_append_right (by simp; omega)]
      simp only [List.length_cons, List.length_nil]
      rw [show (i + 1) * 2 - (0 + 1 + 1) = i * 2 by omega, show (i + 1) * 2 + 1 - (0 + 1 + 1) = i * 2 + 1 by omega]
      simpa using h'
theorem needs_own {w : World} {lo : Nat} {v : Value} {xs : List NeedD} (h : w.ownsRow lo 105 2 v xs.length (needsV xs)) (hl : xs.length ≤ maxLen) (hs : ∀ d ∈ xs, d.n.size ≤ maxLen ∧ d.r.size ≤ maxLen) : RowOwn shNeed 105 (Ow lo w.heap.size) w v xs := by
  refine ⟨hl, needsV xs, owns_lo (Nat.zero_le _) h, owns_in h, fun i hi _ => ⟨[.string xs[i].n, .string xs[i].r], rfl, ⟨rfl, hs _ (List.getElem_mem hi)⟩, fun j hj => ?_⟩⟩
  obtain ⟨h1, h2⟩ := needsV_at xs i hi
  match j, hj with
  | 0, _ => exact h1
  | 1, _ => exact h2

theorem owns_of_belowN {w w' : World} {lo sz n : Nat} {e : TypeId} {v : Value} {xs : List Value} (h : w.ownsRow lo e sz v n xs) (hb : Below w.heap.size w w') : w'.ownsRow lo e sz v n xs := h.kept (grown_of_below hb none) (by cases hq : v.ownBlock <;> simp)
theorem cells_put {w : World} {N M : Nat} {o : Obj} (h : w.heap[N]? = some o) (hne : N ≠ M) (j : Nat) (v : Value) : (w.setCell ⟨M, j, none⟩ v).heap[N]? = some o := (Below.heap_setCell w ⟨M, j, none⟩ v N (by simpa using hne)).trans h
theorem two_src (w : World) (c0 c1 : Value) : ∀ j u, ([c0, c1] : List Value)[j]? = some u → (w.alloc (.cells #[c0, c1] 105)).cell? ((⟨w.heap.size, 0, none⟩ : Addr).add j) = some u := fun j u hu => by
  have e : ((⟨w.heap.size, 0, none⟩ : Addr).add j) = ⟨w.heap.size, j, none⟩ := by unfold Addr.add; split <;> simp_all
  rw [e, vblk_cell (vheap_new _ _) j]
  simpa using hu

end Go.Proofs.Ytbhedlobiagngaa

/-! A list of texts in blocks of its own, and what a walk leaves of it: laws for the walks; no condition. -/
namespace Go.Proofs.Ytbhedlobiagngaa
open Go.RowKit
set_option linter.unusedSimpArgs false
set_option linter.unusedVariables false

/-- A list of texts in blocks from lo up to hi. -/
def StrR (lo hi : Nat) (W : World) (u : Value) (ss : List ByteArray) : Prop := StrsOwn (Ow lo hi) W u ss ∧ hi ≤ W.heap.size
theorem StrR.chg {lo hi : Nat} {W W' : World} {u : Value} {ss : List ByteArray} {S : Nat → Prop} (h : StrR lo hi W u ss) (k : Chg S W W') (n : ∀ b, Ow lo hi b → ¬ S b) : StrR lo hi W' u ss :=
  ⟨h.1.keep (fun b hb => k.block b (Nat.lt_of_lt_of_le hb.2 h.2) (n b hb)), Nat.le_trans h.2 k.size⟩
theorem StrR.below {lo hi : Nat} {W W' : World} {u : Value} {ss : List ByteArray} (h : StrR lo hi W u ss) (k : Below W.heap.size W W') : StrR lo hi W' u ss := h.chg (Chg.of (S := fun _ => False) k) (fun _ _ => id)
theorem strR_of {lo : Nat} {W : World} {u : Value} {ss : List ByteArray} (h : W.ownsRow lo 9 1 u ss.length (strsV ss)) : StrR lo W.heap.size W u ss := ⟨⟨owns_lo (Nat.zero_le _) h, fun g hg => owns_in h g hg⟩, Nat.le_refl _⟩
theorem below_chgW {B : Nat} {S : Nat → Prop} {w W W' : World} (h : Below B w W) (k : Chg S W W') (hs : ∀ b, S b → B ≤ b) (hB : B ≤ W.heap.size) : Below B w W' :=
  ⟨k.os.trans h.os, k.tape.trans h.tape, k.output.trans h.output, Nat.le_trans h.size k.size, fun b hb => (k.block b (Nat.lt_of_lt_of_le hb hB) (fun hS => by have := hs b hS; omega)).trans (h.block b hb)⟩
end Go.Proofs.Ytbhedlobiagngaa

/-! Who uses a pack, as the program answers it: a contract for the walks; conditions: the row of packs lies in memory, and holds at most 2 to the 20. -/
namespace Go.Proofs.Ytbhedlobiagngaa
open Go.RowKit
set_option linter.unusedSimpArgs false
set_option linter.unusedVariables false

theorem cell_one_at {W : World} {n : Nat} {x : Value} {t : TypeId} (h : n = W.heap.size) : ∀ j u, [x][j]? = some u → (W.alloc (.cells #[x] t)).cell? ((⟨n, 0, none⟩ : Addr).add j) = some u := by subst h; exact cell_one_new W x t

set_option maxHeartbeats 2000000 in
set_option maxRecDepth 100000 in
theorem indexS_c (v : Value) (ss : List ByteArray) (s : ByteArray) (w : World) (hv : Reads w v (strsV ss)) (hn : ss.length ≤ 1099511627776) :
    Calls Try.prog 63 #[v, .string s] w fun e w' => (∃ r : Int, e = .returned (.int .i64 r) ∧ decide (0 ≤ r) = hasS ss s) ∧ w = w' := by
  obtain ⟨a, cap, rfl, _, hc⟩ := reads_strs hv
  clear hv
  rcases hc with rfl | ⟨b, off, rfl, hlt, hc⟩
  · go_enter Try.func63, Try.ntmps63
    go_wp2
    go_loop [8] (fun vi => vi = .int .i64 0) (fun _ => 0)
    case atStart => rfl
    case round =>
      obtain rfl := hrel
      go_wp2
      go_ret
      exact ⟨⟨-1, rfl, by simp [hasS]⟩, rfl⟩
  · go_enter Try.func63, Try.ntmps63
    go_wp2
    go_loop [8] (fun vi => ∃ k : Nat, k ≤ ss.length ∧ vi = .int .i64 (k : Int) ∧ Hid (∀ j (h : j < ss.length), j < k → ss[j] ≠ s)) (fun vi => ss.length - (intOf vi).toNat)
    case atStart => exact ⟨0, Nat.zero_le _, rfl, fun j h hj => by omega⟩
    case round =>
      obtain ⟨k, hk, rfl, hh⟩ := hrel
      by_cases hlt' : k < ss.length
      · have hcx := hc k hlt'
        obtain ⟨t, ht⟩ : ∃ t, t = ss[k] := ⟨_, rfl⟩
        rw [← ht] at hcx
        have HT : Hid (t = ss[k]) := ht
        have hki : (k : Int) < (ss.length : Int) := by omega
        clear hc ht
        go_wp2
        · have h1 : (s.toList == t.toList) = true := by assumption
          have e : s = t := bytes_eq_of_toList (by simpa using h1)
          have hm : s ∈ ss := by rw [e, HT.out]; exact List.getElem_mem hlt'
          go_ret
          exact ⟨⟨(k : Int), rfl, by rw [(hasS_iff ss s).2 hm]; simp⟩, rfl⟩
        · have h1 : (s.toList == t.toList) = false := by assumption
          have e : t ≠ s := fun e => by subst e; simp at h1
          go_round
          case rel => exact ⟨k + 1, by omega, by go_num, fun j h hj => (by
            by_cases ej : j = k
            · subst ej; rw [← HT.out]; exact e
            · exact hh.out j h (by omega))⟩
          case measure => simp [intOf]; omega
      · have he : k = ss.length := by omega
        subst he
        have hm : ¬ s ∈ ss := fun hm => by
          obtain ⟨j, hj, e⟩ := List.getElem_of_mem hm
          exact hh.out j hj hj e
        have hf : hasS ss s = false := by
          cases hq : hasS ss s with
          | false => rfl
          | true => exact absurd ((hasS_iff ss s).1 hq) hm
        have HF := hidden hf
        clear hc hf
        go_wp2
        go_ret
        exact ⟨⟨-1, rfl, by rw [HF.out]; rfl⟩, rfl⟩

theorem containsS_c (v : Value) (ss : List ByteArray) (s : ByteArray) (w : World) (hv : Reads w v (strsV ss)) (hn : ss.length ≤ 1099511627776) :
    Calls Try.prog 35 #[v, .string s] w fun e w' => e = .returned (.bool (hasS ss s)) ∧ w = w' := by
  have HI := hidden (indexS_c v ss s w hv hn)
  obtain ⟨a, cap, rfl, _, _⟩ := reads_strs hv
  clear hv
  go_enter Try.func35, Try.ntmps35
  go_wp2_with (go_at_call 63; refine HI.out.mono ?_; rintro e w1 ⟨⟨r, rfl, hr⟩, rfl⟩)
  go_ret
  exact ⟨by rw [← hr]; rfl, rfl⟩

set_option maxHeartbeats 4000000 in
set_option maxRecDepth 100000 in
theorem implUsedBy_c (S : Nat → Prop) (v : Value) (xs : List PackD) (s : ByteArray) (w : World) (hv : RowIn shPack S w v xs) (hB : ∀ b, S b → b < w.heap.size) (hw : wtRow wtPack xs ≤ 1048576) :
    Calls Try.prog 12 #[v, .string s] w fun e w' => ∃ (u : Value) (ys : List ByteArray), e = .returned u ∧ w'.ownsRow w.heap.size 9 1 u ys.length (strsV ys) ∧ risesS ys ∧ (∀ x, x ∈ ys ↔ x ∈ usersL xs s) ∧ ys.length ≤ xs.length ∧ Below w.heap.size w w' := by
  have hl2 := len_wtRow wtPack xs
  have hlen : xs.length ≤ 1048576 := by omega
  have hwe : ∀ d ∈ xs, d.uses.length ≤ 1048576 ∧ d.name.size ≤ 1048576 := fun d hd => by
    have h1 := Nat.le_trans (wt_wtRow wtPack hd) hw
    unfold wtPack bulkS at h1
    omega
  have hnm : ∀ x ∈ usersL xs s, x.size ≤ 1048576 := fun x hx => by
    obtain ⟨d, hd, _, rfl⟩ := mem_usersL.1 hx
    exact (hwe d hd).2
  have HNM := hidden hnm
  clear hl2 hw hnm
  obtain ⟨i0, hi, hz0, hz1, hz2⟩ := info_parts infoS
  obtain ⟨a, cap, rfl, hl, hc, ha⟩ := hv
  unfold maxLen at hl
  go_enter Try.func12, Try.ntmps12
  go_wp2_with fail
  go_loopw [5, 10] (fun vo vi wr => ∃ (k : Nat) (ys : List ByteArray), k ≤ xs.length ∧ vi = .int .i64 (k : Int) ∧ Hid (ys = usersL (xs.take k) s) ∧ ys.length ≤ k ∧ wr.ownsRow w.heap.size 9 1 vo ys.length (strsV ys) ∧ Below w.heap.size w wr) (fun _ vi _ => xs.length - (intOf vi).toNat)
  case atStart => exact ⟨0, [], Nat.zero_le _, rfl, rfl, Nat.le_refl _, World.ownsRow_nil _ _ _ _, Below.refl _ _⟩
  case round =>
    obtain ⟨k, ys, hk, rfl, hys, hyk, hown, hbr⟩ := hrel
    obtain ⟨qo, co, hvo⟩ := owns_slG hown
    subst hvo
    by_cases hlt' : k < xs.length
    · rcases ha with rfl | ⟨b, off, rfl, hlt, ha⟩
      · simp at hlt'
      obtain ⟨cs, hL, hcell⟩ := ha k hlt'
      have hBr : ∀ b, S b → b < wr.heap.size := fun b h => Nat.lt_of_lt_of_le (hB b h) hbr.size
      have hcell2 := hcell.keep (.of hbr hB) hlt
      replace hL := shPack.keep (.of hbr hB) hL
      have HT := hidden (usersL_take xs s k hlt')
      have hul := (hwe xs[k] (List.getElem_mem hlt')).1
      rw [← hys.out] at HT
      obtain ⟨d, hd⟩ : ∃ d, d = xs[k] := ⟨_, rfl⟩
      rw [← hd] at hL HT hul
      obtain ⟨u0, u1, u2, rfl, _, r0, p0, r1', r2'⟩ := hL
      have HC' : ∀ w1, Below wr.heap.size wr w1 → Calls Try.prog 35 #[u0, .string s] w1 fun e w' => e = .returned (.bool (hasS d.uses s)) ∧ w1 = w' := fun w1 h => containsS_c u0 d.uses s w1 ((r0.keep (.of h hBr)).reads (fun b hb => Nat.lt_of_lt_of_le (hBr b hb) h.size)) (by omega)
      have HC := hidden HC'
      clear HC'
      obtain ⟨a0, c0, eu0, _⟩ := id r0
      rw [length_strsV] at eu0
      obtain ⟨a1, c1, eu1, _⟩ := id r1'
      obtain ⟨a2, c2, eu2, _⟩ := id r2'
      subst eu0 eu1 eu2
      have e0 : wr.cell? ⟨b, off + k * 4, none⟩ = some (.string d.name) := hcell2 0 (by simp)
      have e1 : wr.cell? ⟨b, off + k * 4 + 1, none⟩ = some (.slice a0 d.uses.length c0) := hcell2 1 (by simp)
      have e2 : wr.cell? ⟨b, off + k * 4 + 2, none⟩ = some (.slice a1 d.needs.length c1) := hcell2 2 (by simp)
      have e3 : wr.cell? ⟨b, off + k * 4 + 3, none⟩ = some (.slice a2 d.cmds.length c2) := hcell2 3 (by simp)
      have hki : (k : Int) < (xs.length : Int) := by omega
      obtain ⟨t, ht⟩ : ∃ t, t = d.name := ⟨_, rfl⟩
      rw [← ht] at e0 HT
      obtain ⟨r, hr⟩ : ∃ r, r = hasS d.uses s := ⟨_, rfl⟩
      rw [← hr] at HC HT
      have hb0 : Below wr.heap.size wr (wr.alloc (.cells #[.string t, .slice a0 d.uses.length c0, .slice a1 d.needs.length c1, .slice a2 d.cmds.length c2] 33 (0, 0))) := (Below.refl _ _).alloc (Nat.le_refl _) _
      have o0 := owns_of_belowN hown hb0
      have k0 := hbr.trans (hb0.mono hbr.size)
      have kp := hbr.size
      clear ha hd ht hr hcell hcell2 r0 r1' r2' p0 hown hbr
      cases r with
      | true =>
        have HT2 : Hid (usersL (xs.take (k + 1)) s = ys ++ [t]) := HT.out
        clear HT
        go_wp2_with (first
          | (go_at_call 35; refine (HC.out _ hb0).mono ?_; rintro e w1 ⟨rfl, rfl⟩)
          | (at_builtin; refine wpList_append_own _ rfl _ _ 26 rfl w.heap.size 9 i0 (.string ⟨#[]⟩) 1 16 Try.underlying26 hi hz0 hz1 hz2 rfl (by decide) _ ys.length (strsV ys) rfl (o0.alloc _) ⟨wr.heap.size + 1, 0, none⟩ 1 1 (strsV [t]) rfl rfl (cell_one_at (by simp)) (fun u hu => by simp [strsV] at hu; subst hu; rfl) (by unfold maxLen; omega) (by omega) (by simp; omega) ?_))
        intro v2 w2 o2 gr2 hnil
        have hst : strsV ys ++ strsV [t] = strsV (ys ++ [t]) := by simp [strsV]
        rw [hst] at o2
        have hb2 : Below w.heap.size w w2 := Below.grown (k0.alloc k0.size _) gr2 (by simp; omega) (fun j hj => (o0.lt _ hj).1)
        clear gr2 hnil o0 k0 hst e0 e1 e2 e3 hb0
        go_wp2_with fail
        go_roundw
        case rel => exact ⟨k + 1, ys ++ [t], by omega, by go_num, HT2.out.symm, by simp; omega, by simpa using o2, hb2⟩
        case measure => simp [intOf]; omega
      | false =>
        have HT2 := hidden (show usersL (xs.take (k + 1)) s = ys by rw [HT.out]; simp)
        clear HT
        go_wp2_with (go_at_call 35; refine (HC.out _ hb0).mono ?_; rintro e w1 ⟨rfl, rfl⟩)
        go_roundw
        case rel => exact ⟨k + 1, ys, by omega, by go_num, HT2.out.symm, by omega, o0, k0⟩
        case measure => simp [intOf]; omega
    · have he : k = xs.length := by omega
      subst he
      have HE := hidden (show ys = usersL xs s by rw [hys.out, List.take_length])
      have HS := hidden (implSorted_c (.slice qo ys.length co) ys wr (reads_of_owns hown) (by omega) (fun x hx => HNM.out x (by rw [← HE.out]; exact hx)))
      have hbs := hbr.size
      clear ha hys
      go_wp2_with (go_at_call 36; refine HS.out.mono ?_; rintro e w1 ⟨u, rfl, o1, b1⟩)
      go_ret
      have hl9 : (sortedS ys).length ≤ ys.length := by
        unfold sortedS
        rw [List.length_map]
        have := compact_len (sortL (ys.map bytesL))
        rw [sortL_len, List.length_map] at this
        exact this
      exact ⟨u, sortedS ys, rfl, owns_lo hbr.size o1, sortedS_rises ys, fun x => by rw [sortedS_mem, HE.out], by omega, hbr.trans (b1.mono hbr.size)⟩

theorem usersL_len2 {xs : List PackD} {s : ByteArray} (hw : wtRow wtPack xs ≤ 1048576) : (sortedS (usersL xs s)).length ≤ 4294967295 := by
  have h1 := usersL_len xs s
  have h2 := len_wtRow wtPack xs
  unfold sortedS
  rw [List.length_map]
  have := compact_len (sortL ((usersL xs s).map bytesL))
  rw [sortL_len, List.length_map] at this
  omega
theorem specUsedBy_s (S : Nat → Prop) (v : Value) (xs : List PackD) (s : ByteArray) (w : World) (hv : RowIn shPack S w v xs) (hB : ∀ b, S b → b < w.heap.size) (hw : wtRow wtPack xs ≤ 1048576) (hs : s.size ≤ 1048576) :
    Calls Try.prog 17 #[v, .string s] w fun e w' => ∃ u, e = .returned u ∧ StrR w.heap.size w'.heap.size w' u (sortedS (usersL xs s)) ∧ (sortedS (usersL xs s)).length ≤ 4294967295 ∧ Below w.heap.size w w' :=
  (specUsedBy_c S v xs s w hv hB hw).mono (by
    rintro e w' ⟨u, ys, rfl, o, hr, hm, _, hb⟩
    obtain rfl : ys = sortedS (usersL xs s) := risesS_eq hr (sortedS_rises _) (fun x => by rw [hm x, sortedS_mem])
    exact ⟨u, rfl, strR_of o, usersL_len2 hw, hb⟩)
theorem implUsedBy_s (S : Nat → Prop) (v : Value) (xs : List PackD) (s : ByteArray) (w : World) (hv : RowIn shPack S w v xs) (hB : ∀ b, S b → b < w.heap.size) (hw : wtRow wtPack xs ≤ 1048576) (hs : s.size ≤ 1048576) :
    Calls Try.prog 12 #[v, .string s] w fun e w' => ∃ u, e = .returned u ∧ StrR w.heap.size w'.heap.size w' u (sortedS (usersL xs s)) ∧ (sortedS (usersL xs s)).length ≤ 4294967295 ∧ Below w.heap.size w w' :=
  (implUsedBy_c S v xs s w hv hB hw).mono (by
    rintro e w' ⟨u, ys, rfl, o, hr, hm, _, hb⟩
    obtain rfl : ys = sortedS (usersL xs s) := risesS_eq hr (sortedS_rises _) (fun x => by rw [hm x, sortedS_mem])
    exact ⟨u, rfl, strR_of o, usersL_len2 hw, hb⟩)
end Go.Proofs.Ytbhedlobiagngaa

/-! Packs in order, as the program answers it: a contract for the walks; conditions: the packs lie in memory, and hold at most 2 to the 20. -/
namespace Go.Proofs.Ytbhedlobiagngaa
open Go.RowKit Go.Maps
set_option linter.unusedSimpArgs false
set_option linter.unusedVariables false

set_option maxHeartbeats 8000000 in
set_option maxRecDepth 100000 in
theorem namesOf_c (lo mb own : Nat) (vn vu vb : Value) (us bs : List Value) (M N : List ByteArray) (U B : List (List Nat)) (vi : Value) (out : List Nat) (w : World) (C : GrC lo w mb vn vu vb us bs M N U B noX noX) (lo2 : Nat) (hi : w.ownsRow lo2 3 1 vi out.length (intsV out)) (ho : ∀ i ∈ out, i < N.length) (hl : out.length ≤ 4194304) (hN : N.length ≤ 4194304) (hs : ∀ x ∈ N, x.size ≤ 1048576) :
    Calls Try.prog 32 #[.agg #[.map (some mb), vn, .int .i64 (own : Int), vu, vb], vi] w fun e w' => ∃ u, e = .returned u ∧ w'.ownsRow w.heap.size 9 1 u out.length (strsV (out.map (nmOf N))) ∧ Below w.heap.size w w' := by
  obtain ⟨i0, hi0, hz0, hz1, hz2⟩ := info_parts infoS
  obtain ⟨qn, xn, en⟩ := owns_slG C.names
  obtain ⟨qu, nu, xu, eu⟩ : ∃ q n c, vu = .slice q n c := by obtain ⟨q, c, e⟩ := owns_slG C.ru; exact ⟨q, _, c, e⟩
  obtain ⟨qb, nb, xb, eb⟩ : ∃ q n c, vb = .slice q n c := by obtain ⟨q, c, e⟩ := owns_slG C.rb; exact ⟨q, _, c, e⟩
  subst en eu eb
  obtain ⟨qv, cv, ev⟩ := owns_slG hi
  subst ev
  have HN : Hid (∀ w1, Below w.heap.size w w1 → ∀ i (h : i < N.length), ∃ gn, qn = some ⟨gn, 0, none⟩ ∧ w1.cell? ⟨gn, i, none⟩ = some (.string N[i])) := fun w1 h1 i h => by
    have E := (C.new (r := none) (grown_of_below h1 none) (fun q e => by cases e)).names
    obtain ⟨g0, c0, e0⟩ := owns_pos E (by omega)
    injection e0 with e1 _ e3
    subst e1 e3
    exact ⟨g0, rfl, by rw [E.cellAt i (by omega)]; exact strsV_at N i h⟩
  have HV : Hid (∀ w1, Below w.heap.size w w1 → ∀ j (h : j < out.length), ∃ g0, qv = some ⟨g0, 0, none⟩ ∧ w1.cell? ⟨g0, j, none⟩ = some (.int .i64 (out[j] : Int))) := fun w1 h1 j h => by
    have E := owns_of_belowN hi h1
    obtain ⟨g0, c0, e0⟩ := owns_pos E (by omega)
    injection e0 with e1 _ e3
    subst e1 e3
    exact ⟨g0, rfl, by rw [E.cellAt j (by omega)]; exact intsV_at h⟩
  clear C hi
  have k1 : Below w.heap.size w (w.alloc (.cells #[.map (some mb), .slice qn N.length xn, .int .i64 (own : Int), .slice qu nu xu, .slice qb nb xb] 53)) := (Below.refl _ _).alloc (Nat.le_refl _) _
  have hx0 : (w.alloc (.cells #[.map (some mb), .slice qn N.length xn, .int .i64 (own : Int), .slice qu nu xu, .slice qb nb xb] 53)).heap[w.heap.size]? = some (.cells #[.map (some mb), .slice qn N.length xn, .int .i64 (own : Int), .slice qu nu xu, .slice qb nb xb] 53 (0, 0)) := vheap_new _ _
  go_enter Try.func32, Try.ntmps32
  go_wp2_with fail
  go_loopw [5, 10] (fun vo vi wr => ∃ (k : Nat) (ys : List ByteArray), k ≤ out.length ∧ vi = .int .i64 (k : Int) ∧ Hid (ys = (out.take k).map (nmOf N)) ∧ ys.length ≤ k ∧ wr.ownsRow (w.heap.size + 1) 9 1 vo ys.length (strsV ys) ∧ Hid (wr.heap[w.heap.size]? = some (.cells #[.map (some mb), .slice qn N.length xn, .int .i64 (own : Int), .slice qu nu xu, .slice qb nb xb] 53 (0, 0))) ∧ Below w.heap.size w wr) (fun _ vi _ => out.length - (intOf vi).toNat)
  case atStart => exact ⟨0, [], Nat.zero_le _, rfl, rfl, Nat.le_refl _, World.ownsRow_nil _ _ _ _, hx0, k1⟩
  case round =>
    clear k1 hx0
    obtain ⟨k, ys, hk, rfl, hys, hyk, hown, HX, hbr⟩ := hrel
    obtain ⟨qo, co, hvo⟩ := owns_slG hown
    subst hvo
    by_cases hlt' : k < out.length
    · obtain ⟨g0, e0, cj⟩ := HV.out wr hbr k hlt'
      have hoN := ho out[k] (List.getElem_mem hlt')
      obtain ⟨gn, en, cn⟩ := HN.out wr hbr out[k] hoN
      subst e0 en
      have HT : Hid ((out.take (k + 1)).map (nmOf N) = ys ++ [N[out[k]]]) := by
        show _ = _
        rw [List.take_succ_eq_append_getElem hlt', List.map_append, hys.out]
        simp [nmOf_lt hoN]
      have hsz := hs N[out[k]] (List.getElem_mem hoN)
      obtain ⟨s, hs9⟩ : ∃ s, s = N[out[k]] := ⟨_, rfl⟩
      obtain ⟨t, ht⟩ : ∃ t, t = out[k] := ⟨_, rfl⟩
      rw [← hs9] at cn HT hsz
      rw [← ht] at cj cn hoN
      have x1 : wr.cell? ⟨w.heap.size, 1, none⟩ = some (.slice (some ⟨gn, 0, none⟩) N.length xn) := vblk_cell HX.out 1
      have hki : (k : Int) < (out.length : Int) := by omega
      have hti : (t : Int) < (N.length : Int) := by omega
      have HCL := hidden (cloneB_c s wr hsz)
      have hxl := (Array.getElem?_eq_some_iff.1 HX.out).1
      clear hs9 ht hys
      go_wp2_with (first
        | (go_at_call 60; refine HCL.out.mono ?_; rintro e w1 ⟨rfl, b1⟩; have hb1 := hbr.trans (b1.mono hbr.size); have o1 := owns_of_belowN hown b1; have HX1 := hidden ((b1.block _ hxl).trans HX.out); have hz9 := hb1.size; have hz8 := b1.size; clear HCL b1 hown HX hbr x1 cj cn)
        | (at_builtin; refine wpList_append_own _ rfl _ _ 26 rfl (w.heap.size + 1) 9 i0 (.string ⟨#[]⟩) 1 16 Try.underlying26 hi0 hz0 hz1 hz2 rfl (by decide) _ ys.length (strsV ys) rfl (o1.alloc _) ⟨w1.heap.size, 0, none⟩ 1 1 (strsV [s]) rfl rfl (cell_one_new _ _ _) (fun u hu => by simp [strsV] at hu; subst hu; rfl) (by unfold maxLen; omega) (by omega) (by simp; omega) ?_))
      intro v2 w2 o2 gr2 hnil
      have hst : strsV ys ++ strsV [s] = strsV (ys ++ [s]) := by simp [strsV]
      rw [hst] at o2
      have hb2 : Below w.heap.size w w2 := Below.grown (hb1.alloc hb1.size _) gr2 (by simp; omega) (fun j hj => by have := (o1.lt _ hj).1; omega)
      have HX2 := hidden ((gr2.block w.heap.size (by simp; omega) (fun e => by have := (o1.lt _ e.symm).1; omega)).trans ((vheap_old _ _ (by omega)).trans HX1.out))
      clear gr2 hnil o1 hst HX1
      go_wp2_with fail
      go_roundw
      case rel => exact ⟨k + 1, ys ++ [s], by omega, by go_num, HT.out.symm, by simp; omega, by simpa using o2, HX2, hb2⟩
      case measure => simp [intOf]; omega
    · have he : k = out.length := by omega
      subst he
      have HE : Hid (wr.ownsRow w.heap.size 9 1 (.slice qo ys.length co) out.length (strsV (out.map (nmOf N)))) := by
        have h1 := hys.out
        rw [List.take_length] at h1
        have h2 : ys.length = out.length := by rw [h1, List.length_map]
        rw [← h1, ← h2]
        exact owns_lo (by omega) hown
      clear hown hys HN HV
      go_wp2_with fail
      go_ret
      exact ⟨_, rfl, HE.out, hbr⟩

theorem gOf_len {xs : List PackD} (hw : wtRow wtPack xs ≤ 1048576) : (gOf (plOf xs)).N.length ≤ 4194304 ∧ (∀ i, (rowAt (gOf (plOf xs)).U i).length ≤ 1099511627776 ∧ (rowAt (gOf (plOf xs)).B i).length ≤ 1099511627776) ∧ ∀ x ∈ (gOf (plOf xs)).N, x.size ≤ 1048576 := by
  have h1 := gUses_size (gNames ((plOf xs).map (·.1))) (plOf xs)
  have h2 := gNames_len ((plOf xs).map (·.1))
  have h3 := sumU_wt xs
  have h4 := len_wtRow wtPack xs
  have h5 : ((plOf xs).map (·.1)).length = xs.length := by rw [plOf_names, List.length_map]
  have hwe : ∀ d ∈ xs, d.name.size ≤ 1048576 ∧ ∀ x ∈ d.uses, x.size ≤ 1048576 := fun d hd => by
    have h1 := Nat.le_trans (wt_wtRow wtPack hd) hw
    unfold wtPack bulkS at h1
    refine ⟨by omega, fun x hx => ?_⟩
    have h2 : x.size ≤ (d.uses.map ByteArray.size).sum := List.single_le_sum_natC hx
    omega
  refine ⟨by have := h1.1; unfold gOf; omega, fun i => ?_, fun x hx => ?_⟩
  · have h6 := h1.2 i
    rw [(gNames_rows _ i).1, (gNames_rows _ i).2] at h6
    simp only [List.length_nil] at h6
    unfold gOf
    omega
  · rcases (gOf_ok (plOf xs)).2.2.2.2 x hx with h | ⟨d, hd, h⟩
    · rw [plOf_names] at h
      obtain ⟨d, hd, rfl⟩ := List.mem_map.1 h
      exact (hwe d hd).1
    · unfold plOf at hd
      obtain ⟨d', hd', rfl⟩ := List.mem_map.1 hd
      exact (hwe d' hd').2 x h

set_option maxHeartbeats 8000000 in
set_option maxRecDepth 100000 in
theorem implOrder_c (S : Nat → Prop) (v : Value) (xs : List PackD) (w : World) (hv : RowIn shPack S w v xs) (hB : ∀ b, S b → b < w.heap.size) (hw : wtRow wtPack xs ≤ 1048576) :
    Calls Try.prog 10 #[v] w fun e w' => ∃ u, e = .returned (.tuple #[u, .bool (ordPk xs).2]) ∧ w'.ownsRow w.heap.size 9 1 u (ordPk xs).1.length (strsV (ordPk xs).1) ∧ Below w.heap.size w w' := by
  have HG := hidden (graphOf_c S v xs w hv hB hw)
  obtain ⟨gl1, gl2, gl3⟩ := gOf_len hw
  obtain ⟨g1, ⟨M, hM⟩, g3, g4, g5⟩ := gOf_ok (plOf xs)
  have hownN : ownOf (plOf xs) ≤ (gOf (plOf xs)).N.length := by rw [hM, List.length_append]; unfold ownOf; omega
  have HF : Hid (∀ (out : List Nat) (ws : List Int), OrdInv (ownOf (plOf xs)) (gOf (plOf xs)).U out ws → (∀ j, j < ownOf (plOf xs) → j ∉ out → cntI (ownOf (plOf xs)) (gOf (plOf xs)).U out j ≠ 0) → ordPk xs = if out.length < xs.length then ([], false) else (out.map (nmOf (gOf (plOf xs)).N), true)) := fun out ws h1 h2 => order_final h1 h2
  obtain ⟨q0, cap0, hq0⟩ := hv.slice
  subst hq0
  obtain ⟨G, hG⟩ : ∃ G, G = gOf (plOf xs) := ⟨_, rfl⟩
  obtain ⟨own, hown⟩ : ∃ o, o = ownOf (plOf xs) := ⟨_, rfl⟩
  rw [← hG] at HG gl1 gl2 gl3 g1 hownN HF g4
  rw [← hown] at HG hownN HF g4
  have hl2 := len_wtRow wtPack xs
  have hlx : xs.length ≤ 1048576 := by omega
  obtain ⟨ans, hans⟩ : ∃ a, a = ordPk xs := ⟨_, rfl⟩
  rw [← hans] at HF ⊢
  clear hG hown hans hM g3 g5 hv hl2 hw
  go_enter Try.func10, Try.ntmps10
  go_wp2_with (go_at_call 29; refine HG.out.mono ?_; rintro e w1 ⟨mb, vn, vu, vb, us, bs, rfl, C1, b1⟩; obtain ⟨qn, nn, xn, en⟩ : ∃ q n c, vn = .slice q n c := (by obtain ⟨q, c, e⟩ := owns_slG C1.names; exact ⟨q, _, c, e⟩); obtain ⟨qu, nu, xu, eu⟩ : ∃ q n c, vu = .slice q n c := (by obtain ⟨q, c, e⟩ := owns_slG C1.ru; exact ⟨q, _, c, e⟩); obtain ⟨qb, nb, xb, eb⟩ : ∃ q n c, vb = .slice q n c := (by obtain ⟨q, c, e⟩ := owns_slG C1.rb; exact ⟨q, _, c, e⟩); subst en eu eb; have HC : Hid (∀ w2, Below w1.heap.size w1 w2 → GrC w.heap.size w2 mb (.slice qn nn xn) (.slice qu nu xu) (.slice qb nb xb) us bs G.N G.N G.U G.B noX noX) := (fun w2 h2 => C1.new (r := none) (grown_of_below h2 none) (fun q e => by cases e)); have k1 : Below w1.heap.size w1 (w1.alloc (.cells #[.map (some mb), .slice qn nn xn, .int .i64 (own : Int), .slice qu nu xu, .slice qb nb xb] 53)) := (Below.refl _ _).alloc (Nat.le_refl _) _; have hx0 : (w1.alloc (.cells #[.map (some mb), .slice qn nn xn, .int .i64 (own : Int), .slice qu nu xu, .slice qb nb xb] 53)).heap[w1.heap.size]? = some (.cells #[.map (some mb), .slice qn nn xn, .int .i64 (own : Int), .slice qu nu xu, .slice qb nb xb] 53 (0, 0)) := vheap_new _ _; clear C1)
  have hk2 : Below w.heap.size w (w1.alloc (.cells #[.map (some mb), .slice qn nn xn, .int .i64 (own : Int), .slice qu nu xu, .slice qb nb xb] 53)) := b1.trans (k1.mono b1.size)
  have x0 := vblk_cell hx0 0
  have x1 := vblk_cell hx0 1
  have x2 := vblk_cell hx0 2
  have x3 := vblk_cell hx0 3
  have x4 := vblk_cell hx0 4
  simp only [List.getElem?_toArray, List.getElem?_cons_succ, List.getElem?_cons_zero] at x0 x1 x2 x3 x4
  have HO := hidden (order_c w.heap.size mb own _ _ _ us bs G _ (HC.out _ k1) g1 (by rw [g1.u]; exact hownN) (by rw [g1.u]; exact gl1) gl2 g4)
  obtain ⟨w2, hw2⟩ : ∃ w2, w2 = w1.alloc (.cells #[.map (some mb), .slice qn nn xn, .int .i64 (own : Int), .slice qu nu xu, .slice qb nb xb] 53) := ⟨_, rfl⟩
  have hp : w1.heap.size < w2.heap.size := by rw [hw2]; simp
  rw [← hw2] at k1 hx0 hk2 x0 x1 x2 x3 x4 HO ⊢
  clear hw2
  go_wp2_with fail
  go_at_call 34
  refine HO.out.mono ?_
  rintro e w3 ⟨u3, out, ws, rfl, o3, inv3, no3, b3⟩
  obtain ⟨q3, c3, e3⟩ := owns_slG o3
  subst e3
  have HA := hidden (HF.out out ws inv3 no3)
  have hfew := inv3.few
  have hlt3 := inv3.lt
  have k3 := hk2.trans (b3.mono hk2.size)
  have C3 := HC.out w3 (k1.trans (b3.mono (by omega)))
  have hx3 := (b3.block _ hp).trans hx0
  have y0 := vblk_cell hx3 0
  have y1 := vblk_cell hx3 1
  have y2 := vblk_cell hx3 2
  have y3 := vblk_cell hx3 3
  have y4 := vblk_cell hx3 4
  simp only [List.getElem?_toArray, List.getElem?_cons_succ, List.getElem?_cons_zero] at y0 y1 y2 y3 y4
  have HNm := hidden (namesOf_c w.heap.size mb own _ _ _ us bs _ _ _ _ _ out w3 C3 _ o3 (fun i hi => by have := hlt3 i hi; omega) (by omega) gl1 gl3)
  clear x0 x1 x2 x3 x4 HO HC inv3 no3 C3 o3 b3 hx0 HF
  by_cases hlt' : out.length < xs.length
  · have hli : (out.length : Int) < (xs.length : Int) := by omega
    rw [if_pos hlt'] at HA
    go_wp2_with fail
    go_ret2
    rw [HA.out]
    exact ⟨.slice none 0 0, rfl, World.ownsRow_nil _ _ _ _, k3⟩
  · have hli : ¬ (out.length : Int) < (xs.length : Int) := by omega
    rw [if_neg hlt'] at HA
    obtain ⟨nms, hnms⟩ : ∃ n, n = out.map (nmOf G.N) := ⟨_, rfl⟩
    have hnl : nms.length = out.length := by rw [hnms, List.length_map]
    rw [← hnms] at HNm HA
    have HNL := hidden hnl
    clear hnms hnl
    go_wp2_with (go_at_call 32; refine HNm.out.mono ?_; rintro e w4 ⟨u4, rfl, o4, b4⟩)
    go_ret2
    rw [HA.out]
    exact ⟨u4, rfl, by show w4.ownsRow _ _ _ _ nms.length _; rw [HNL.out]; exact owns_lo k3.size o4, k3.trans (b4.mono k3.size)⟩
theorem ordPk_len {xs : List PackD} (hw : wtRow wtPack xs ≤ 1048576) : (ordPk xs).1.length ≤ 4294967295 := by
  have h2 := len_wtRow wtPack xs
  unfold ordPk ordR
  split
  · rename_i h
    show (ordN _ _ _).length ≤ _
    rw [h, List.length_map]
    omega
  · show (0 : Nat) ≤ _; omega
theorem implOrder_s (S : Nat → Prop) (v : Value) (xs : List PackD) (w : World) (hv : RowIn shPack S w v xs) (hB : ∀ b, S b → b < w.heap.size) (hw : wtRow wtPack xs ≤ 1048576) :
    Calls Try.prog 10 #[v] w fun e w' => ∃ u, e = .returned (.tuple #[u, .bool (ordPk xs).2]) ∧ StrR w.heap.size w'.heap.size w' u (ordPk xs).1 ∧ (ordPk xs).1.length ≤ 4294967295 ∧ Below w.heap.size w w' :=
  (implOrder_c S v xs w hv hB hw).mono (by
    rintro e w' ⟨u, rfl, o, hb⟩
    exact ⟨u, rfl, strR_of o, ordPk_len hw, hb⟩)
end Go.Proofs.Ytbhedlobiagngaa

/-! The graph of packs, as the specification makes it: a contract for the walks; conditions: the packs lie in memory, and hold at most 2 to the 20. -/
namespace Go.Proofs.Ytbhedlobiagngaa
open Go.RowKit Go.Maps
set_option linter.unusedSimpArgs false
set_option linter.unusedVariables false

/-- An append of a row that may be nil, told with where the new row lies. -/
theorem wp_append_src {P : Program} {w : World} {o : Oper} {a : Act} {K : Act → World → Prop} {Q : Exit → Act → World → Prop} (s x : Operand) (t : TypeId)
    (ho : o.op = .call { callee := .builtin .append, args := #[s, x], argTypes := #[t, t] })
    (base : Nat) (e : TypeId) (i : TypeInfo) (z : Value) (size bytes : Nat) (ht : P.underlying t = some (.slice e)) (hi : P.info? e = some i) (hz : i.zero = some z)
    (hsize : i.size = size) (hby : i.bytes = bytes) (hzs : z.cells.size = size) (hsz : 0 < size)
    (v : Value) (n : Nat) (xs : List Value) (hs : a.eval s = v) (hown : w.ownsRow base e size v n xs)
    (u : Value) (m lo : Nat) (news : List Value) (hx : a.eval x = u) (hsrc : w.ownsRow lo e size u m news) (h1 : ∀ u ∈ news, u.oneCell' = true)
    (h63 : n + m ≤ maxLen) (hbytes : (n + m) * bytes ≤ 140737488355328) (hbase : base ≤ w.heap.size)
    (h : ∀ v' w', w'.ownsRow base e size v' (n + m) (xs ++ news) → w.grownBy w' v.ownBlock → (∀ g, v'.ownBlock = some g → v.ownBlock = some g ∨ w.heap.size ≤ g) → K (a.put o.dst v') w') : o.wp P a w K Q := by
  rcases id hsrc.2 with ⟨rfl, rfl⟩ | ⟨gs, caps, cur, rfl, hgl, hgb, hcap, hmax, _⟩
  · have hn : news = [] := List.eq_nil_of_length_eq_zero (by rw [hsrc.1]; omega)
    subst hn
    have hrun := run_append_owned_none (P := P) (w := w) base t o.type e i size ht hi _ n xs hown
    unfold Oper.wp
    simp [execOp, ho, resolve, invoke, builtin, hs, hx, hrun, Result.andThen]
    refine h _ w ?_ (World.grownBy.refl _ _) (fun g hg => .inl hg)
    rw [Nat.add_zero, List.append_nil]
    exact hown
  · refine wp_append_loc s x t ho base e i z size bytes ht hi hz hsize hby hzs hsz v n xs hs hown ⟨gs, 0, none⟩ m caps news hx hsrc.1 (fun j u hu => ?_) h1 h63 hbytes hbase h
    rw [addr_addZ, hsrc.cellAt j (by rw [← hsrc.1]; exact (List.getElem?_eq_some_iff.1 hu).1)]
    exact hu
theorem infoSs : (Try.prog.info? 26).map (fun i => (i.zero, i.size, i.bytes)) = some (some (.slice none 0 0), 1, 24) := by kernel_rfl
/-- Names and lists of names that are being made. -/
structure GsC (lo : Nat) (w : World) (vn vx : Value) (vs : List Value) (ns : List ByteArray) (nx : List (List ByteArray)) : Prop where
  names : w.ownsRow lo 9 1 vn ns.length (strsV ns)
  next : w.ownsRow lo 26 1 vx nx.length vs
  each : ∀ (i : Nat) (u : Value), vs[i]? = some u → ∃ ss, nx[i]? = some ss ∧ w.ownsRow lo 9 1 u ss.length (strsV ss)
  apart : ∀ (i g : Nat) (u : Value), vs[i]? = some u → u.ownBlock = some g → vn.ownBlock ≠ some g
section
variable {lo : Nat} {w w' : World} {vn vx : Value} {vs : List Value} {ns : List ByteArray} {nx : List (List ByteArray)}
theorem GsC.kept {r : Option Nat} (h : GsC lo w vn vx vs ns nx) (hg : w.grownBy w' r) (h1 : ∀ {sz n : Nat} {e : TypeId} {v : Value} {xs : List Value}, w.ownsRow lo e sz v n xs → v.ownBlock = none ∨ v.ownBlock ≠ r) : GsC lo w' vn vx vs ns nx :=
  ⟨h.names.kept hg (h1 h.names), h.next.kept hg (h1 h.next), fun i u hu => by obtain ⟨ss, h2, h3⟩ := h.each i u hu; exact ⟨ss, h2, h3.kept hg (h1 h3)⟩, h.apart⟩
theorem GsC.new {r : Option Nat} (h : GsC lo w vn vx vs ns nx) (hg : w.grownBy w' r) (hq : ∀ q, r = some q → w.heap.size ≤ q ∨ q < lo) : GsC lo w' vn vx vs ns nx :=
  h.kept hg (fun {sz n e v xs} hv => by
    cases hb : v.ownBlock with
    | none => exact .inl rfl
    | some g => exact .inr fun e => by have h2 := hv.lt g hb; have := hq g e.symm; omega)
theorem GsC.addN {v' : Value} {s : ByteArray} (h : GsC lo w vn vx vs ns nx) (o : w'.ownsRow lo 9 1 v' (ns.length + 1) (strsV ns ++ strsV [s])) (gr : w.grownBy w' vn.ownBlock) (hl : ∀ g, v'.ownBlock = some g → vn.ownBlock = some g ∨ w.heap.size ≤ g) : GsC lo w' v' vx vs (ns ++ [s]) nx := by
  refine ⟨?_, h.next.kept gr (apart_r h.next h.names (by decide)), fun i u hu => ?_, fun i g u hu hb he => ?_⟩
  · have : strsV (ns ++ [s]) = strsV ns ++ strsV [s] := by simp [strsV]
    rw [this, List.length_append, List.length_singleton]
    exact o
  · obtain ⟨ss, h2, h3⟩ := h.each i u hu
    refine ⟨ss, h2, h3.kept gr ?_⟩
    cases hb : u.ownBlock with
    | none => exact .inl rfl
    | some g => exact .inr fun e => h.apart i g u hu hb e.symm
  · obtain ⟨ss, h2, h3⟩ := h.each i u hu
    rcases hl g he with h4 | h4
    · exact h.apart i g u hu hb h4
    · have := (h3.lt g hb).2; omega
theorem GsC.addX {v' u' : Value} {ss : List ByteArray} (h : GsC lo w vn vx vs ns nx) (hu : w.ownsRow lo 9 1 u' ss.length (strsV ss)) (hn : ∀ g, u'.ownBlock = some g → vn.ownBlock ≠ some g) (o : w'.ownsRow lo 26 1 v' (nx.length + 1) (vs ++ [u'])) (gr : w.grownBy w' vx.ownBlock) : GsC lo w' vn v' (vs ++ [u']) ns (nx ++ [ss]) := by
  have hvl : vs.length = nx.length := by have := h.next.1; omega
  refine ⟨h.names.kept gr (apart_r h.names h.next (by decide)), by rw [List.length_append, List.length_singleton]; exact o, fun i u hi => ?_, fun i g u hi hb => ?_⟩
  · rcases at_snoc hi with hi | ⟨hi', rfl⟩
    · obtain ⟨s2, h2, h3⟩ := h.each i u hi
      have hl : i < nx.length := (List.getElem?_eq_some_iff.1 h2).1
      exact ⟨s2, by rw [List.getElem?_append_left hl]; exact h2, h3.kept gr (apart_r h3 h.next (by decide))⟩
    · exact ⟨ss, by rw [hi', hvl]; simp, hu.kept gr (apart_r hu h.next (by decide))⟩
  · rcases at_snoc hi with hi | ⟨_, rfl⟩
    · exact h.apart i g u hi hb
    · exact hn g hb
/-- As the specification's functions read it. -/
theorem GsC.grIn (h : GsC lo w vn vx vs ns nx) (hl : nx.length = ns.length) (hf : ns.length ≤ 1048577) (hs : ∀ ss ∈ nx, ss.length ≤ 1048576) : GrIn (Ow lo w.heap.size) w vn vx ns nx := by
  refine ⟨rdB_owns h.names, ?_, hl, hf⟩
  obtain ⟨q, c, e⟩ := owns_slG h.next
  subst e
  rcases h.next.2 with ⟨e1, e2⟩ | ⟨g, cap, cur, e1, hb, hg, hnc, hcm, hcs, ht⟩
  · have hnil : nx = [] := List.eq_nil_of_length_eq_zero e2
    subst hnil
    injection e1 with e3 e4 e5
    subst e3 e5
    exact ⟨none, 0, rfl, by unfold maxLen; simp, by simp, .inl rfl⟩
  · injection e1 with e3 e4 e5
    subst e3 e5
    refine ⟨_, c, rfl, by omega, hnc, .inr ⟨g, 0, rfl, ⟨hb, (Array.getElem?_eq_some_iff.1 hg).1⟩, fun k hk => ?_⟩⟩
    have hkv : k < vs.length := by have := h.next.1; omega
    obtain ⟨ss, h2, h3⟩ := h.each k vs[k] (List.getElem?_eq_getElem hkv)
    have h4 : nx[k] = ss := by have := List.getElem?_eq_getElem hk; rw [this] at h2; exact Option.some.inj h2
    refine ⟨[vs[k]], ⟨vs[k], rfl, ⟨by rw [h4]; exact owns_lo (Nat.zero_le _) h3, fun g' hg' => owns_in h3 g' hg'⟩, by rw [h4]; exact hs ss (h4 ▸ List.getElem_mem hk)⟩, fun i hi => ?_⟩
    simp at hi
    subst hi
    show w.cell? ⟨g, 0 + k * 1 + 0, none⟩ = _
    rw [show 0 + k * 1 + 0 = k by omega, h.next.cellAt k (by omega)]
    exact List.getElem?_eq_getElem hkv
end

set_option maxHeartbeats 16000000 in
set_option maxRecDepth 100000 in
theorem l11Packs_c (S : Nat → Prop) (v : Value) (xs : List PackD) (w : World) (hv : RowIn shPackO S w v xs) (hB : ∀ b, S b → b < w.heap.size) (hw : wtRow wtPack xs ≤ 1048576) :
    Calls Try.prog 51 #[v] w fun e w' => ∃ vn vx, e = .returned (.agg #[vn, vx]) ∧ GrIn (Ow w.heap.size w'.heap.size) w' vn vx (xs.map (·.name)) (xs.map (·.uses)) ∧ Below w.heap.size w w' := by
  obtain ⟨iS, hiS, hzS0, hzS1, hzS2⟩ := info_parts infoS
  obtain ⟨iT, hiT, hzT0, hzT1, hzT2⟩ := info_parts infoSs
  have hl2 := len_wtRow wtPack xs
  have hlen : xs.length ≤ 1048576 := by omega
  have hwe : ∀ d ∈ xs, d.uses.length ≤ 1048576 := fun d hd => by
    have h1 := Nat.le_trans (wt_wtRow wtPack hd) hw
    unfold wtPack bulkS at h1
    omega
  obtain ⟨a, cap, rfl, hl, hc, ha⟩ := hv
  unfold maxLen at hl
  have HW0 : Hid (∀ W, W = (w.alloc (.cells #[.slice none 0 0, .slice none 0 0] 78)).alloc (.cells #[.slice none 0 0, .slice none 0 0] 78) → GsC (w.heap.size + 2) W (.slice none 0 0) (.slice none 0 0) [] [] [] ∧ W.heap[w.heap.size + 1]? = some (.cells #[.slice none 0 0, .slice none 0 0] 78 (0, 0)) ∧ W.heap[w.heap.size]? = some (.cells #[.slice none 0 0, .slice none 0 0] 78 (0, 0)) ∧ Below w.heap.size w W) := by
    intro W hW
    subst hW
    have z1 : (w.alloc (.cells #[.slice none 0 0, .slice none 0 0] 78)).heap.size = w.heap.size + 1 := by simp
    refine ⟨⟨World.ownsRow_nil _ _ _ _, World.ownsRow_nil _ _ _ _, fun i u h => (by simp at h), fun i g u h => (by simp at h)⟩, ?_, ?_, ?_⟩
    · have := vheap_new (w.alloc (.cells #[.slice none 0 0, .slice none 0 0] 78)) (.cells #[.slice none 0 0, .slice none 0 0] 78)
      rw [z1] at this
      exact this
    · rw [vheap_old _ _ (by simp), vheap_new]
    · exact (((Below.refl _ _).alloc (Nat.le_refl _) _).alloc (by simp) _)
  go_enter Try.func51, Try.ntmps51
  go_wp2_with fail
  go_loopw [4] (fun vi wr => ∃ (k : Nat) (vn vx : Value) (vs : List Value), k ≤ xs.length ∧ vi = .int .i64 (k : Int) ∧ Hid (GsC (w.heap.size + 2) wr vn vx vs ((xs.map (·.name)).take k) ((xs.map (·.uses)).take k)) ∧ Hid (wr.heap[w.heap.size + 1]? = some (.cells #[vn, vx] 78 (0, 0))) ∧ Hid (wr.heap[w.heap.size]? = some (.cells #[.slice none 0 0, .slice none 0 0] 78 (0, 0))) ∧ Below w.heap.size w wr) (fun vi _ => xs.length - (intOf vi).toNat)
  case atStart => exact ⟨0, _, _, [], Nat.zero_le _, rfl, (HW0.out _ rfl).1, (HW0.out _ rfl).2.1, (HW0.out _ rfl).2.2.1, (HW0.out _ rfl).2.2.2⟩
  case round =>
    clear HW0
    obtain ⟨k, vn, vx, vs, hk, rfl, HC, HX, HR, hbr⟩ := hrel
    obtain ⟨qn, xn, en⟩ := owns_slG HC.out.names
    obtain ⟨qx, xx, ex⟩ := owns_slG HC.out.next
    have lk1 : ((xs.map (·.name)).take k).length = k := by rw [List.length_take, List.length_map]; omega
    have lk2 : ((xs.map (·.uses)).take k).length = k := by rw [List.length_take, List.length_map]; omega
    rw [lk1] at en
    rw [lk2] at ex
    subst en ex
    by_cases hlt' : k < xs.length
    · rcases ha with rfl | ⟨b, off, rfl, hlt, ha⟩
      · simp at hlt'
      obtain ⟨cs, hL, hcell⟩ := ha k hlt'
      have HT1 : Hid ((xs.map (·.name)).take (k + 1) = (xs.map (·.name)).take k ++ [xs[k].name]) := by show _ = _; rw [List.take_succ_eq_append_getElem (by rw [List.length_map]; exact hlt'), List.getElem_map]
      have HT2 : Hid ((xs.map (·.uses)).take (k + 1) = (xs.map (·.uses)).take k ++ [xs[k].uses]) := by show _ = _; rw [List.take_succ_eq_append_getElem (by rw [List.length_map]; exact hlt'), List.getElem_map]
      have hul := hwe xs[k] (List.getElem_mem hlt')
      obtain ⟨d, hd⟩ : ∃ d, d = xs[k] := ⟨_, rfl⟩
      rw [← hd] at hL HT1 HT2 hul
      obtain ⟨u0, u1, u2, rfl, _, r0, p0, _⟩ := hL
      have HE0 : Hid (∀ W, Below w.heap.size w W → W.cell? ⟨b, off + k * 4, none⟩ = some (.string d.name)) := fun W h => (hcell.keep (.of h hB) hlt) 0 (by simp)
      have HE1 : Hid (∀ W, Below w.heap.size w W → W.cell? ⟨b, off + k * 4 + 1, none⟩ = some u0) := fun W h => (hcell.keep (.of h hB) hlt) 1 (by simp)
      have HU0 : Hid (∀ W, Below w.heap.size w W → W.ownsRow 0 9 1 u0 d.uses.length (strsV d.uses)) := fun W h => (r0.keep (.of h hB)).1
      obtain ⟨a0, c0, eu0⟩ := owns_slG r0.1
      subst eu0
      have hki : (k : Int) < (xs.length : Int) := by omega
      clear ha hd hcell r0 p0 lk1 lk2
      go_wp2_with fail
      have HK5 : Hid (∀ W : World, W.heap[w.heap.size + 1]? = some (.cells #[.slice qn k xn, .slice qx k xx] 78 (0, 0)) → Below w.heap.size w W → (fun W => W.cell? ⟨w.heap.size + 1, 0, none⟩ = some (.slice qn k xn) ∧ W.cell? ⟨b, off + k * 4, none⟩ = some (.string d.name)) W) := fun W hW hb => ⟨vblk_cell hW 0, HE0.out W hb⟩
      refine till_region (fun W => W.cell? ⟨w.heap.size + 1, 0, none⟩ = some (.slice qn k xn) ∧ W.cell? ⟨b, off + k * 4, none⟩ = some (.string d.name)) 10 (by kernel_rfl) (HK5.out _ HX.out hbr.drew) (fun hHeld => ?_)
      have D0 : GsC (w.heap.size + 2) wr.drew (.slice qn k xn) (.slice qx k xx) vs _ _ := HC.out.new (r := none) (grown_of_below (Below.refl _ _).drew none) (fun q e => by cases e)
      have X0 : wr.drew.heap[w.heap.size + 1]? = some (.cells #[.slice qn k xn, .slice qx k xx] 78 (0, 0)) := HX.out
      have R0 : wr.drew.heap[w.heap.size]? = some (.cells #[.slice none 0 0, .slice none 0 0] 78 (0, 0)) := HR.out
      have B0 : Below w.heap.size w wr.drew := hbr.drew
      clear HC HX HR hbr
      generalize wr.drew = W at hHeld D0 X0 R0 B0 ⊢
      refine till_at (k' := 11) (l' := #[false, false, false, false, false, false, false, false, false, false, false]) ?_ (by kernel_rfl) (by kernel_rfl)
      refine tv 0 hHeld (h := ?_)
      refine tu 1 hHeld (h := ?_)
      refine tv 2 hHeld (h := ?_)
      refine tv 3 hHeld (h := ?_)
      refine tv 4 hHeld (h := ?_)
      refine tv 5 hHeld (h := ?_)
      refine tu 6 hHeld (h := ?_)
      have hlW := D0.names.lt
      have hsW : w.heap.size + 2 ≤ W.heap.size := by have := (Array.getElem?_eq_some_iff.1 X0).1; omega
      refine till_ready (rs := [7]) (by kernel_rfl) (by simp) ?_
      refine AllTill.cons rfl rfl (fun K hK => ?_) AllTill.nil
      go_simp
      have B1 : Below w.heap.size w (W.alloc (.cells #[.string d.name] 9)) := B0.alloc (by omega) _
      have X1 : (W.alloc (.cells #[.string d.name] 9)).heap[w.heap.size + 1]? = some (.cells #[.slice qn k xn, .slice qx k xx] 78 (0, 0)) := (vheap_old W _ (by omega)).trans X0
      have R1 : (W.alloc (.cells #[.string d.name] 9)).heap[w.heap.size]? = some (.cells #[.slice none 0 0, .slice none 0 0] 78 (0, 0)) := (vheap_old W _ (by omega)).trans R0
      have D1 := D0.new (World.grownBy_alloc W (.cells #[.string d.name] 9) none) (fun q e => by cases e)
      have A1 : (W.alloc (.cells #[.string d.name] 9)).ownsRow (w.heap.size + 2) 9 1 (.slice (some ⟨W.heap.size, 0, none⟩) 1 1) 1 (strsV [d.name]) := World.ownsRow_lit W #[.string d.name] 1 hsW (by unfold maxLen; omega) rfl
      have hs1 : w.heap.size + 2 ≤ (W.alloc (.cells #[.string d.name] 9)).heap.size := by simp; omega
      refine hK.out _ _ (fun _ => HK5.out _ X1 B1) ?_
      clear hK K D0 X0 R0 B0 hHeld
      generalize W.heap.size = q1 at A1 ⊢
      generalize W.alloc (.cells #[.string d.name] 9) = W1 at B1 X1 R1 D1 A1 hs1 ⊢
      clear hlW hsW
      refine till_ready (rs := [8]) (by kernel_rfl) (by simp) ?_
      refine AllTill.cons rfl rfl (fun K hK => ?_) AllTill.nil
      rw [if_pos (by rfl)]
      refine wp_append_loc _ _ 26 rfl (w.heap.size + 2) 9 iS (.string ⟨#[]⟩) 1 16 Try.underlying26 hiS hzS0 hzS1 hzS2 rfl (by decide) _ _ _ rfl D1.names ⟨q1, 0, none⟩ 1 1 (strsV [d.name]) rfl rfl (A1.cells rfl) (fun u hu => by simp [strsV] at hu; subst hu; rfl) (by rw [List.length_take, List.length_map]; unfold maxLen; omega) (by rw [List.length_take, List.length_map]; omega) hs1 ?_
      intro v2 W2 o2 gr2 lc2
      have D2 := D1.addN o2 gr2 lc2
      have B2 : Below w.heap.size w W2 := Below.grown B1 gr2 (by omega) (fun j hj => by have := (D1.names.lt j hj).1; omega)
      have X2 := (gr2.block (w.heap.size + 1) (by omega) (fun e => by have := (D1.names.lt _ e.symm).1; omega)).trans X1
      have R2 := (gr2.block w.heap.size (by omega) (fun e => by have := (D1.names.lt _ e.symm).1; omega)).trans R1
      obtain ⟨y2, c2, e2⟩ := owns_slG D2.names
      rw [List.length_append, List.length_singleton, List.length_take, List.length_map, Nat.min_eq_left hk] at e2
      subst e2
      refine hK.out _ _ (fun _ => HK5.out _ X2 B2) ?_
      clear hK K D1 X1 R1 B1 A1 o2 gr2 lc2
      refine till_ready (rs := [9]) (by kernel_rfl) (by simp) ?_
      refine AllTill.cons rfl rfl (fun K hK => ?_) AllTill.nil
      go_simp
      refine hK.out _ _ (fun _ => HK5.out _ X2 B2) ?_
      clear hK K
      refine till_ready (rs := [10]) (by kernel_rfl) (by simp) ?_
      refine AllTill.cons rfl rfl (fun K hK => ?_) AllTill.nil
      have x10 := vblk_cell X2 0
      have f10 := vblk_frozen X2 0
      simp only [List.getElem?_toArray, List.getElem?_cons_succ, List.getElem?_cons_zero] at x10
      go_simp
      have X3 : (W2.setCell ⟨w.heap.size + 1, 0, none⟩ (.slice y2 (k + 1) c2)).heap[w.heap.size + 1]? = some (.cells #[(.slice y2 (k + 1) c2), .slice qx k xx] 78 (0, 0)) := heap_setCell_same W2 (w.heap.size + 1) 0 _ _ (.slice y2 (k + 1) c2) X2
      have D3 := D2.new (grown_set W2 (w.heap.size + 1) 0 (.slice y2 (k + 1) c2)) (fun q e => .inr (by have := Option.some.inj e; omega))
      have R3 := ((grown_set W2 (w.heap.size + 1) 0 (.slice y2 (k + 1) c2)).block w.heap.size (Array.getElem?_eq_some_iff.1 R2).1 (fun e => by have := Option.some.inj e; omega)).trans R2
      have B3 : Below w.heap.size w (W2.setCell ⟨w.heap.size + 1, 0, none⟩ (.slice y2 (k + 1) c2)) := Below.setCell B2 (by show _ ≤ w.heap.size + 1; omega) _
      refine hK.out _ _ (fun h => nomatch (show true = false from h)) ?_
      generalize W2.setCell ⟨w.heap.size + 1, 0, none⟩ (.slice y2 (k + 1) c2) = W3 at X3 D3 R3 B3 ⊢
      clear x10 f10 hK K D2 X2 R2 B2 HK5
      refine till_done (by kernel_rfl) ?_ _
      go_wp2_with fail
      have HK6 : Hid (∀ W : World, W.heap[w.heap.size + 1]? = some (.cells #[(.slice y2 (k + 1) c2), .slice qx k xx] 78 (0, 0)) → Below w.heap.size w W → (fun W => W.cell? ⟨w.heap.size + 1, 1, none⟩ = some (.slice qx k xx) ∧ W.cell? ⟨b, off + k * 4 + 1, none⟩ = some (.slice a0 d.uses.length c0)) W) := fun W hW hb => ⟨vblk_cell hW 1, HE1.out W hb⟩
      refine till_region (fun W => W.cell? ⟨w.heap.size + 1, 1, none⟩ = some (.slice qx k xx) ∧ W.cell? ⟨b, off + k * 4 + 1, none⟩ = some (.slice a0 d.uses.length c0)) 12 (by kernel_rfl) (HK6.out _ X3 B3.drew) (fun hHeld => ?_)
      have D0 : GsC (w.heap.size + 2) W3.drew (.slice y2 (k + 1) c2) (.slice qx k xx) vs _ _ := D3.new (r := none) (grown_of_below (Below.refl _ _).drew none) (fun q e => by cases e)
      have X0 : W3.drew.heap[w.heap.size + 1]? = some (.cells #[(.slice y2 (k + 1) c2), .slice qx k xx] 78 (0, 0)) := X3
      have R0 : W3.drew.heap[w.heap.size]? = some (.cells #[.slice none 0 0, .slice none 0 0] 78 (0, 0)) := R3
      have B0 : Below w.heap.size w W3.drew := B3.drew
      clear D3 X3 R3 B3
      generalize W3.drew = W at hHeld D0 X0 R0 B0 ⊢
      refine till_at (k' := 13) (l' := #[false, false, false, false, false, false, false, false, false, false, false, false, false]) ?_ (by kernel_rfl) (by kernel_rfl)
      refine tv 0 hHeld (h := ?_)
      refine tu 1 hHeld (h := ?_)
      refine tv 3 hHeld (h := ?_)
      refine tv 4 hHeld (h := ?_)
      refine tv 5 hHeld (h := ?_)
      refine tv 6 hHeld (h := ?_)
      refine tu 7 hHeld (h := ?_)
      have hsW : w.heap.size + 2 ≤ W.heap.size := by have := (Array.getElem?_eq_some_iff.1 X0).1; omega
      refine till_ready (rs := [2]) (by kernel_rfl) (by simp) ?_
      refine AllTill.cons rfl rfl (fun K hK => ?_) AllTill.nil
      go_simp
      have B1 : Below w.heap.size w (W.alloc (.cells #[] 9)) := B0.alloc (by omega) _
      have X1 : (W.alloc (.cells #[] 9)).heap[w.heap.size + 1]? = some (.cells #[(.slice y2 (k + 1) c2), .slice qx k xx] 78 (0, 0)) := (vheap_old W _ (by omega)).trans X0
      have R1 : (W.alloc (.cells #[] 9)).heap[w.heap.size]? = some (.cells #[.slice none 0 0, .slice none 0 0] 78 (0, 0)) := (vheap_old W _ (by omega)).trans R0
      have D1 := D0.new (World.grownBy_alloc W (.cells #[] 9) none) (fun q e => by cases e)
      have A1 : (W.alloc (.cells #[] 9)).ownsRow (w.heap.size + 2) 9 1 (.slice (some ⟨W.heap.size, 0, none⟩) 0 0) 0 [] := World.ownsRow_lit W #[] 0 hsW (by unfold maxLen; omega) rfl
      have hs1 : w.heap.size + 2 ≤ (W.alloc (.cells #[] 9)).heap.size := by simp; omega
      have nq1 : Value.ownBlock (.slice y2 (k + 1) c2) ≠ some W.heap.size := fun e => by have := (D0.names.lt _ e).2; omega
      have NE1' : ∀ (i : Nat) (u : Value), vs[i]? = some u → u.ownBlock ≠ some W.heap.size := fun i u hu e => by obtain ⟨ss, h2, h3⟩ := D0.each i u hu; have := (h3.lt _ e).2; omega
      refine hK.out _ _ (fun _ => HK6.out _ X1 B1) ?_
      clear hK K D0 X0 R0 B0 hHeld hsW
      generalize W.heap.size = q1 at A1 nq1 NE1' ⊢
      have NE1 := hidden NE1'
      clear NE1'
      generalize W.alloc (.cells #[] 9) = W1 at B1 X1 R1 D1 A1 hs1 ⊢
      refine till_ready (rs := [8]) (by kernel_rfl) (by simp) ?_
      refine AllTill.cons rfl rfl (fun K hK => ?_) AllTill.nil
      rw [if_pos (by rfl)]
      refine wp_append_src _ _ 26 rfl (w.heap.size + 2) 9 iS (.string ⟨#[]⟩) 1 16 Try.underlying26 hiS hzS0 hzS1 hzS2 rfl (by decide) _ 0 [] rfl A1 (.slice a0 d.uses.length c0) d.uses.length 0 (strsV d.uses) rfl (HU0.out _ B1) (strs_oneCell d.uses) (by unfold maxLen; omega) (by omega) hs1 ?_
      intro v3 W2 o3 gr3 lc3
      rw [Nat.zero_add, List.nil_append] at o3
      have D2 : GsC (w.heap.size + 2) W2 (.slice y2 (k + 1) c2) (.slice qx k xx) vs _ _ := ⟨D1.names.kept gr3 (.inr nq1), D1.next.kept gr3 (apart_r D1.next A1 (by decide)), fun i u hu => (by obtain ⟨ss, h2, h3⟩ := D1.each i u hu; exact ⟨ss, h2, h3.kept gr3 (.inr (fun e => NE1.out i u hu e))⟩), D1.apart⟩
      have B2 : Below w.heap.size w W2 := Below.grown B1 gr3 (by omega) (fun j hj => by have := (A1.lt j hj).1; omega)
      have X2 := (gr3.block (w.heap.size + 1) (by omega) (fun e => by have := (A1.lt _ e.symm).1; omega)).trans X1
      have R2 := (gr3.block w.heap.size (by omega) (fun e => by have := (A1.lt _ e.symm).1; omega)).trans R1
      have nv3 : ∀ g, v3.ownBlock = some g → Value.ownBlock (.slice y2 (k + 1) c2) ≠ some g := fun g hg he => by
        rcases lc3 g hg with h9 | h9
        · obtain rfl : q1 = g := Option.some.inj h9
          exact nq1 he
        · have := (D1.names.lt g he).2; omega
      obtain ⟨y3, c3, e3⟩ := owns_slG o3
      subst e3
      refine hK.out _ _ (fun _ => HK6.out _ X2 B2) ?_
      clear hK K D1 X1 R1 B1 A1 gr3 lc3 nq1 NE1 hs1
      have hsW2 : w.heap.size + 2 ≤ W2.heap.size := by have := (Array.getElem?_eq_some_iff.1 X2).1; omega
      refine till_ready (rs := [9]) (by kernel_rfl) (by simp) ?_
      refine AllTill.cons rfl rfl (fun K hK => ?_) AllTill.nil
      go_simp
      have B4 : Below w.heap.size w (W2.alloc (.cells #[.slice y3 d.uses.length c3] 26)) := B2.alloc (by omega) _
      have X4 : (W2.alloc (.cells #[.slice y3 d.uses.length c3] 26)).heap[w.heap.size + 1]? = some (.cells #[(.slice y2 (k + 1) c2), .slice qx k xx] 78 (0, 0)) := (vheap_old W2 _ (by omega)).trans X2
      have R4 : (W2.alloc (.cells #[.slice y3 d.uses.length c3] 26)).heap[w.heap.size]? = some (.cells #[.slice none 0 0, .slice none 0 0] 78 (0, 0)) := (vheap_old W2 _ (by omega)).trans R2
      have D4 := D2.new (World.grownBy_alloc W2 (.cells #[.slice y3 d.uses.length c3] 26) none) (fun q e => by cases e)
      have o4 := o3.alloc (.cells #[.slice y3 d.uses.length c3] 26)
      have A4 : (W2.alloc (.cells #[.slice y3 d.uses.length c3] 26)).ownsRow (w.heap.size + 2) 26 1 (.slice (some ⟨W2.heap.size, 0, none⟩) 1 1) 1 [.slice y3 d.uses.length c3] := World.ownsRow_lit W2 #[.slice y3 d.uses.length c3] 1 hsW2 (by unfold maxLen; omega) rfl
      have hs4 : w.heap.size + 2 ≤ (W2.alloc (.cells #[.slice y3 d.uses.length c3] 26)).heap.size := by simp; omega
      refine hK.out _ _ (fun _ => HK6.out _ X4 B4) ?_
      clear hK K D2 X2 R2 B2 o3
      generalize W2.heap.size = q4 at A4 ⊢
      generalize W2.alloc (.cells #[.slice y3 d.uses.length c3] 26) = W4 at B4 X4 R4 D4 A4 o4 hs4 ⊢
      refine till_ready (rs := [10]) (by kernel_rfl) (by simp) ?_
      refine AllTill.cons rfl rfl (fun K hK => ?_) AllTill.nil
      rw [if_pos (by rfl)]
      refine wp_append_loc _ _ 76 rfl (w.heap.size + 2) 26 iT (.slice none 0 0) 1 24 Try.underlying76 hiT hzT0 hzT1 hzT2 rfl (by decide) _ _ _ rfl D4.next ⟨q4, 0, none⟩ 1 1 [.slice y3 d.uses.length c3] rfl rfl (A4.cells rfl) (fun u hu => by simp at hu; subst hu; rfl) (by rw [List.length_take, List.length_map]; unfold maxLen; omega) (by rw [List.length_take, List.length_map]; omega) hs4 ?_
      intro v5 W5 o5 gr5 lc5
      have D5 := D4.addX o4 nv3 o5 gr5
      have B5 : Below w.heap.size w W5 := Below.grown B4 gr5 (by omega) (fun j hj => by have := (D4.next.lt j hj).1; omega)
      have X5 := (gr5.block (w.heap.size + 1) (by omega) (fun e => by have := (D4.next.lt _ e.symm).1; omega)).trans X4
      have R5 := (gr5.block w.heap.size (by omega) (fun e => by have := (D4.next.lt _ e.symm).1; omega)).trans R4
      obtain ⟨y5, c5, e5⟩ := owns_slG D5.next
      rw [List.length_append, List.length_singleton, List.length_take, List.length_map, Nat.min_eq_left hk] at e5
      subst e5
      refine hK.out _ _ (fun _ => HK6.out _ X5 B5) ?_
      clear hK K D4 X4 R4 B4 A4 o4 o5 gr5 lc5 nv3
      refine till_ready (rs := [11]) (by kernel_rfl) (by simp) ?_
      refine AllTill.cons rfl rfl (fun K hK => ?_) AllTill.nil
      go_simp
      refine hK.out _ _ (fun _ => HK6.out _ X5 B5) ?_
      clear hK K
      refine till_ready (rs := [12]) (by kernel_rfl) (by simp) ?_
      refine AllTill.cons rfl rfl (fun K hK => ?_) AllTill.nil
      have x10 := vblk_cell X5 1
      have f10 := vblk_frozen X5 1
      simp only [List.getElem?_toArray, List.getElem?_cons_succ, List.getElem?_cons_zero] at x10
      go_simp
      have X6 : (W5.setCell ⟨w.heap.size + 1, 1, none⟩ (.slice y5 (k + 1) c5)).heap[w.heap.size + 1]? = some (.cells #[(.slice y2 (k + 1) c2), (.slice y5 (k + 1) c5)] 78 (0, 0)) := heap_setCell_same W5 (w.heap.size + 1) 1 _ _ (.slice y5 (k + 1) c5) X5
      have D6 := D5.new (grown_set W5 (w.heap.size + 1) 1 (.slice y5 (k + 1) c5)) (fun q e => .inr (by have := Option.some.inj e; omega))
      have R6 := ((grown_set W5 (w.heap.size + 1) 1 (.slice y5 (k + 1) c5)).block w.heap.size (Array.getElem?_eq_some_iff.1 R5).1 (fun e => by have := Option.some.inj e; omega)).trans R5
      have B6 : Below w.heap.size w (W5.setCell ⟨w.heap.size + 1, 1, none⟩ (.slice y5 (k + 1) c5)) := Below.setCell B5 (by show _ ≤ w.heap.size + 1; omega) _
      refine hK.out _ _ (fun h => nomatch (show true = false from h)) ?_
      generalize W5.setCell ⟨w.heap.size + 1, 1, none⟩ (.slice y5 (k + 1) c5) = W6 at X6 D6 R6 B6 ⊢
      clear x10 f10 hK K D5 X5 R5 B5 HK6
      rw [← HT1.out, ← HT2.out] at D6
      have HD6 := hidden D6
      have HX6 := hidden X6
      have HR6 := hidden R6
      clear D6 X6 R6
      refine till_done (by kernel_rfl) ?_ _
      go_wp2_with fail
      go_roundw
      case rel => exact ⟨k + 1, _, _, _, by omega, by go_num, HD6, HX6, HR6, B6⟩
      case measure => simp [intOf]; omega
    · have he : k = xs.length := by omega
      subst he
      have hx := HX.out
      have hr := HR.out
      have c0 : wr.cell? ⟨w.heap.size + 1, 0, none⟩ = some (.slice qn xs.length xn) := vblk_cell hx 0
      have c1 : wr.cell? ⟨w.heap.size + 1, 1, none⟩ = some (.slice qx xs.length xx) := vblk_cell hx 1
      have r0 : wr.cell? ⟨w.heap.size, 0, none⟩ = some (.slice none 0 0) := vblk_cell hr 0
      have r1 : wr.cell? ⟨w.heap.size, 1, none⟩ = some (.slice none 0 0) := vblk_cell hr 1
      have fz := vblk_frozen hr
      have HD : Hid (GsC (w.heap.size + 2) ((wr.setCell ⟨w.heap.size, 0, none⟩ (.slice qn xs.length xn)).setCell ⟨w.heap.size, 1, none⟩ (.slice qx xs.length xx)) (.slice qn xs.length xn) (.slice qx xs.length xx) vs (xs.map (·.name)) (xs.map (·.uses))) := by
        have h1 := HC.out
        rw [show (xs.map (·.name)).take xs.length = xs.map (·.name) by rw [← List.length_map (f := fun d : PackD => d.name), List.take_length], show (xs.map (·.uses)).take xs.length = xs.map (·.uses) by rw [← List.length_map (f := fun d : PackD => d.uses), List.take_length]] at h1
        exact (h1.new (grown_set wr w.heap.size 0 _) (fun q e => .inr (by have := Option.some.inj e; omega))).new (grown_set _ w.heap.size 1 _) (fun q e => .inr (by have := Option.some.inj e; omega))
      have HB2 : Hid (Below w.heap.size w ((wr.setCell ⟨w.heap.size, 0, none⟩ (.slice qn xs.length xn)).setCell ⟨w.heap.size, 1, none⟩ (.slice qx xs.length xx))) := Below.setCell (Below.setCell hbr (Nat.le_refl _) _) (Nat.le_refl _) _
      have HX2 : Hid (((wr.setCell ⟨w.heap.size, 0, none⟩ (.slice qn xs.length xn)).setCell ⟨w.heap.size, 1, none⟩ (.slice qx xs.length xx)).heap[w.heap.size]? = some (.cells #[.slice qn xs.length xn, .slice qx xs.length xx] 78 (0, 0))) := heap_setCell_same _ w.heap.size 1 _ _ _ (heap_setCell_same wr w.heap.size 0 _ _ _ hr)
      clear HC HX HR hbr ha hx hr
      go_wp2_with fail
      have F1 := HD.out
      have F2 := HB2.out
      have F3 := HX2.out
      generalize ((wr.setCell ⟨w.heap.size, 0, none⟩ (.slice qn xs.length xn)).setCell ⟨w.heap.size, 1, none⟩ (.slice qx xs.length xx)) = W9 at F1 F2 F3 ⊢
      have o0 := vblk_cell F3 0
      have o1 := vblk_cell F3 1
      simp only [List.getElem?_toArray, List.getElem?_cons_succ, List.getElem?_cons_zero] at o0 o1
      clear HD HB2 HX2 c0 c1 r0 r1 fz
      have HI : Hid (GrIn (Ow w.heap.size W9.heap.size) W9 (.slice qn xs.length xn) (.slice qx xs.length xx) (xs.map (·.name)) (xs.map (·.uses))) := (F1.grIn (by simp) (by rw [List.length_map]; omega) (fun ss hs => by obtain ⟨d, hd, rfl⟩ := List.mem_map.1 hs; exact hwe d hd)).mono (Ow.mono (by omega) (Nat.le_refl _))
      refine bodyPost_ret (v := .agg #[.slice qn xs.length xn, .slice qx xs.length xx]) (by simp [results, Try.results51, go_sem, o0, o1]) rfl ⟨_, _, rfl, HI.out, F2⟩
end Go.Proofs.Ytbhedlobiagngaa
