/-
  Contracts for the walks, several texts in one: each part says what it proves, and under which conditions.
-/
import Derived.Deep.RegionHeld
import Derived.Test.YtiadcebolcdhbaaQ1
import Derived.Test.YtiadcebolcdhbaaQ2
import Derived.Test.YtiadcebolcdhbaaQ4

/-! A value as a tree, how much it holds, and what it means that it lies in memory below a block number; no condition but those told. -/
namespace Go.Proofs.Ytiadcebolcdhbaa
open Go.RowKit
set_option linter.unusedSimpArgs false
set_option linter.unusedVariables false

inductive Tree where
  | mk (k n : Int) (s : ByteArray) (l : List Tree) (keys : List ByteArray) : Tree

theorem Tree.ind {P : Tree → Prop} (h : ∀ k n s l ks, (∀ U ∈ l, P U) → P (.mk k n s l ks)) : ∀ T, P T
  | .mk k n s l ks => h k n s l ks (fun U _ => Tree.ind h U)
  termination_by T => SizeOf.sizeOf T
  decreasing_by
    rename_i hU
    have := List.sizeOf_lt_of_mem hU
    simp
    omega

mutual
def Tree.wt : Tree → Nat
  | .mk _ _ s l ks => s.size + (wtL l + bulkS ks)
def wtL : List Tree → Nat
  | [] => 0
  | t :: r => 1 + t.wt + wtL r
end

theorem wtL_append (a b : List Tree) : wtL (a ++ b) = wtL a + wtL b := by
  induction a with
  | nil => simp [wtL]
  | cons t r ih => simp only [List.cons_append, wtL, ih]; omega

theorem wtL_take_succ (l : List Tree) (k : Nat) (h : k < l.length) : wtL (l.take (k + 1)) = wtL (l.take k) + 1 + (l[k]).wt := by
  rw [List.take_succ_eq_append_getElem h, wtL_append]
  simp [wtL]; omega

theorem wtL_take_le (l : List Tree) (k : Nat) : wtL (l.take k) ≤ wtL l := by
  conv => rhs; rw [← List.take_append_drop k l, wtL_append]
  omega

theorem length_le_wtL (l : List Tree) : l.length ≤ wtL l := by
  induction l with
  | nil => simp
  | cons t r ih => simp only [List.length_cons, wtL]; omega

theorem wtL_take_rest (l : List Tree) (k : Nat) : wtL (l.take k) + (l.length - k) ≤ wtL l := by
  conv => rhs; rw [← List.take_append_drop k l, wtL_append]
  have := length_le_wtL (l.drop k)
  simp at this
  omega

theorem wt_le_wtL {l : List Tree} {U : Tree} (h : U ∈ l) : U.wt + 1 ≤ wtL l := by
  induction l with
  | nil => simp at h
  | cons t r ih =>
    simp only [List.mem_cons] at h
    simp only [wtL]
    rcases h with rfl | h
    · omega
    · have := ih h; omega

/-- In blocks of S the world w' is as w was. -/
def KeptIn (S : Nat → Prop) (w w' : World) : Prop := ∀ b, S b → w'.heap[b]? = w.heap[b]?
theorem KeptIn.cell {S : Nat → Prop} {w w' : World} (h : KeptIn S w w') {b : Nat} (hb : S b) (o : Nat) : w'.cell? ⟨b, o, none⟩ = w.cell? ⟨b, o, none⟩ := World.cell?_of_block (w := w) (h b hb)
theorem KeptIn.trans {S : Nat → Prop} {a b c : World} (h : KeptIn S a b) (k : KeptIn S b c) : KeptIn S a c := fun i hi => (k i hi).trans (h i hi)
theorem KeptIn.of {S : Nat → Prop} {B : Nat} {w w' : World} (hb : Below B w w') (hS : ∀ b, S b → b < B) : KeptIn S w w' := fun b h => hb.block b (hS b h)

/-- A list of texts that lies in blocks of S. -/
def ReadsB (S : Nat → Prop) (w : World) (v : Value) (xs : List Value) : Prop :=
  ∃ a cap, v = .slice a xs.length cap ∧ xs.length ≤ cap ∧ (xs = [] ∨ ∃ b off, a = some ⟨b, off, none⟩ ∧ S b ∧ ∀ k (h : k < xs.length), w.cell? ⟨b, off + k, none⟩ = some xs[k])

theorem ReadsB.reads {S : Nat → Prop} {w : World} {v : Value} {xs : List Value} (h : ReadsB S w v xs) (hS : ∀ b, S b → b < w.heap.size) : Reads w v xs := by
  obtain ⟨a, cap, hv, hc, h⟩ := h
  refine ⟨a, cap, hv, hc, ?_⟩
  rcases h with h | ⟨b, off, ha, hb, h⟩
  · exact .inl h
  · exact .inr ⟨b, off, ha, hS b hb, h⟩

theorem ReadsB.of {w : World} {v : Value} {xs : List Value} (h : Reads w v xs) : ReadsB (· < w.heap.size) w v xs := h

theorem ReadsB.keep {S : Nat → Prop} {w w' : World} {v : Value} {xs : List Value} (hb : KeptIn S w w') (h : ReadsB S w v xs) : ReadsB S w' v xs := by
  obtain ⟨a, cap, hv, hc, h⟩ := h
  refine ⟨a, cap, hv, hc, ?_⟩
  rcases h with h | ⟨b, off, ha, hlt, h⟩
  · exact .inl h
  · exact .inr ⟨b, off, ha, hlt, fun k hk => (hb.cell hlt _).trans (h k hk)⟩

theorem ReadsB.mono {S S' : Nat → Prop} {w : World} {v : Value} {xs : List Value} (hB : ∀ b, S b → S' b) (h : ReadsB S w v xs) : ReadsB S' w v xs := by
  obtain ⟨a, cap, hv, hc, h⟩ := h
  refine ⟨a, cap, hv, hc, ?_⟩
  rcases h with h | ⟨b, off, ha, hlt, h⟩
  · exact .inl h
  · exact .inr ⟨b, off, ha, hB b hlt, h⟩

def saneS (ks : List ByteArray) : Prop := ks.length ≤ maxLen ∧ ∀ s ∈ ks, s.size ≤ maxLen

/-- The value v is the tree T, all of whose memory lies in blocks of S. -/
inductive Lies (S : Nat → Prop) (w : World) : Value → Tree → Prop
  | mk (k n : Int) (s : ByteArray) (l : List Tree) (ks : List ByteArray) (a : Option Addr) (cap : Nat) (u : Value) (C : Nat → Nat → Value)
      (hs : s.size ≤ maxLen) (hl : l.length ≤ maxLen) (hk : saneS ks) (hc : l.length ≤ cap) (hu : ReadsB S w u (strsV ks))
      (ha : l = [] ∨ ∃ b off, a = some ⟨b, off, none⟩ ∧ S b ∧ ∀ i, i < l.length → ∀ j, j < 5 → w.cell? ⟨b, off + i * 5 + j, none⟩ = some (C i j))
      (hC : ∀ i (h : i < l.length), Lies S w (.agg #[C i 0, C i 1, C i 2, C i 3, C i 4]) l[i]) :
      Lies S w (.agg #[.int .i64 k, .int .i64 n, .string s, .slice a l.length cap, u]) (.mk k n s l ks)

/-- The list of values v is l. -/
def LiesL (S : Nat → Prop) (w : World) (v : Value) (l : List Tree) : Prop :=
  ∃ a cap, ∃ C : Nat → Nat → Value, v = .slice a l.length cap ∧ l.length ≤ maxLen ∧ l.length ≤ cap ∧
    (l = [] ∨ ∃ b off, a = some ⟨b, off, none⟩ ∧ S b ∧ ∀ i, i < l.length → ∀ j, j < 5 → w.cell? ⟨b, off + i * 5 + j, none⟩ = some (C i j)) ∧
    ∀ i (h : i < l.length), Lies S w (.agg #[C i 0, C i 1, C i 2, C i 3, C i 4]) l[i]

theorem Lies.out {S : Nat → Prop} {w : World} {v : Value} {k n : Int} {s : ByteArray} {l : List Tree} {ks : List ByteArray} (h : Lies S w v (.mk k n s l ks)) :
    ∃ c u, v = .agg #[.int .i64 k, .int .i64 n, .string s, c, u] ∧ s.size ≤ maxLen ∧ saneS ks ∧ LiesL S w c l ∧ ReadsB S w u (strsV ks) := by
  cases h with
  | mk k n s l ks a cap u C hs hl hk hc hu ha hC => exact ⟨_, u, rfl, hs, hk, ⟨a, cap, C, rfl, hl, hc, ha, hC⟩, hu⟩

theorem Lies.of {S : Nat → Prop} {w : World} {c u : Value} {k n : Int} {s : ByteArray} {l : List Tree} {ks : List ByteArray} (hs : s.size ≤ maxLen) (hk : saneS ks) (hl : LiesL S w c l) (hu : ReadsB S w u (strsV ks)) :
    Lies S w (.agg #[.int .i64 k, .int .i64 n, .string s, c, u]) (.mk k n s l ks) := by
  obtain ⟨a, cap, C, rfl, hl, hc, ha, hC⟩ := hl
  exact .mk k n s l ks a cap u C hs hl hk hc hu ha hC

theorem LiesL.mk_keep {S : Nat → Prop} {w w' : World} {v : Value} {l : List Tree} (hb : KeptIn S w w') (hi : ∀ U ∈ l, ∀ x, Lies S w x U → Lies S w' x U) (h : LiesL S w v l) : LiesL S w' v l := by
  obtain ⟨a, cap, C, rfl, hl, hc, ha, hC⟩ := h
  refine ⟨a, cap, C, rfl, hl, hc, ?_, fun i h => hi _ (List.getElem_mem h) _ (hC i h)⟩
  rcases ha with ha | ⟨b, off, ha, hlt, hcell⟩
  · exact .inl ha
  · exact .inr ⟨b, off, ha, hlt, fun i hi j hj => (hb.cell hlt _).trans (hcell i hi j hj)⟩

theorem Lies.keep {S : Nat → Prop} {w w' : World} (hb : KeptIn S w w') : ∀ {T : Tree} {v : Value}, Lies S w v T → Lies S w' v T := by
  have h := Tree.ind (P := fun T => ∀ v, Lies S w v T → Lies S w' v T) ?_
  · exact fun {T v} hx => h T v hx
  intro k n s l ks ih v h
  obtain ⟨c, u, rfl, hs, hk, hl, hu⟩ := h.out
  exact Lies.of hs hk (hl.mk_keep hb ih) (hu.keep hb)

theorem LiesL.keep {S : Nat → Prop} {w w' : World} {v : Value} {l : List Tree} (hb : KeptIn S w w') (h : LiesL S w v l) : LiesL S w' v l :=
  h.mk_keep hb fun U _ x hx => Lies.keep hb hx

theorem LiesL.mk_mono {S S' : Nat → Prop} {w : World} {v : Value} {l : List Tree} (hB : ∀ b, S b → S' b) (hi : ∀ U ∈ l, ∀ x, Lies S w x U → Lies S' w x U) (h : LiesL S w v l) : LiesL S' w v l := by
  obtain ⟨a, cap, C, rfl, hl, hc, ha, hC⟩ := h
  refine ⟨a, cap, C, rfl, hl, hc, ?_, fun i h => hi _ (List.getElem_mem h) _ (hC i h)⟩
  rcases ha with ha | ⟨b, off, ha, hlt, hcell⟩
  · exact .inl ha
  · exact .inr ⟨b, off, ha, hB b hlt, hcell⟩

theorem Lies.mono {S S' : Nat → Prop} {w : World} (hB : ∀ b, S b → S' b) : ∀ {T : Tree} {v : Value}, Lies S w v T → Lies S' w v T := by
  have h := Tree.ind (P := fun T => ∀ v, Lies S w v T → Lies S' w v T) ?_
  · exact fun {T v} hx => h T v hx
  intro k n s l ks ih v h
  obtain ⟨c, u, rfl, hs, hk, hl, hu⟩ := h.out
  exact Lies.of hs hk (hl.mk_mono hB ih) (hu.mono hB)

theorem LiesL.mono {S S' : Nat → Prop} {w : World} {v : Value} {l : List Tree} (hB : ∀ b, S b → S' b) (h : LiesL S w v l) : LiesL S' w v l :=
  h.mk_mono hB fun U _ x hx => Lies.mono hB hx

/-- What is at place i of a list of values: five cells, which are the tree there. -/
theorem LiesL.at {S : Nat → Prop} {w : World} {v : Value} {l : List Tree} (h : LiesL S w v l) :
    ∃ a cap, v = .slice a l.length cap ∧ l.length ≤ maxLen ∧ l.length ≤ cap ∧ (l = [] ∨ ∃ b off, a = some ⟨b, off, none⟩ ∧ S b ∧ ∀ i (h : i < l.length), ∃ c0 c1 c2 c3 c4,
      w.cell? ⟨b, off + i * 5, none⟩ = some c0 ∧ w.cell? ⟨b, off + i * 5 + 1, none⟩ = some c1 ∧ w.cell? ⟨b, off + i * 5 + 2, none⟩ = some c2 ∧ w.cell? ⟨b, off + i * 5 + 3, none⟩ = some c3 ∧ w.cell? ⟨b, off + i * 5 + 4, none⟩ = some c4 ∧
      Lies S w (.agg #[c0, c1, c2, c3, c4]) l[i]) := by
  obtain ⟨a, cap, C, rfl, hl, hc, ha, hC⟩ := h
  refine ⟨a, cap, rfl, hl, hc, ?_⟩
  rcases ha with ha | ⟨b, off, ha, hlt, hcell⟩
  · exact .inl ha
  · refine .inr ⟨b, off, ha, hlt, fun i hi => ⟨C i 0, C i 1, C i 2, C i 3, C i 4, ?_, ?_, ?_, ?_, ?_, hC i hi⟩⟩
    · simpa using hcell i hi 0 (by omega)
    · exact hcell i hi 1 (by omega)
    · exact hcell i hi 2 (by omega)
    · exact hcell i hi 3 (by omega)
    · exact hcell i hi 4 (by omega)

/-- A parameter that was put into a block of its own is still there behind a call. -/
theorem box5 {w w1 : World} {c0 c1 c2 c3 c4 : Value} {t : TypeId} (hb : Below (w.alloc (.cells #[c0, c1, c2, c3, c4] t)).heap.size (w.alloc (.cells #[c0, c1, c2, c3, c4] t)) w1) :
    w1.cell? ⟨w.heap.size, 0, none⟩ = some c0 ∧ w1.cell? ⟨w.heap.size, 1, none⟩ = some c1 ∧ w1.cell? ⟨w.heap.size, 2, none⟩ = some c2 ∧ w1.cell? ⟨w.heap.size, 3, none⟩ = some c3 ∧ w1.cell? ⟨w.heap.size, 4, none⟩ = some c4 := by
  have h : ∀ j, w1.cell? ⟨w.heap.size, j, none⟩ = (#[c0, c1, c2, c3, c4] : Array Value)[j]? := fun j => by
    rw [hb.cell (p := ⟨w.heap.size, j, none⟩) (by simp)]
    have e : (w.alloc (.cells #[c0, c1, c2, c3, c4] t)).heap[w.heap.size]? = some (.cells #[c0, c1, c2, c3, c4] t) := by show (w.heap.push _)[w.heap.size]? = _; simp
    simp only [World.cell?, e]; rfl
  exact ⟨h 0, h 1, h 2, h 3, h 4⟩

theorem heap_new (w : World) (o : Obj) : (w.alloc o).heap[w.heap.size]? = some o := by show (w.heap.push _)[w.heap.size]? = _; simp
theorem heap_old (w : World) (o : Obj) {b : Nat} (h : b < w.heap.size) : (w.alloc o).heap[b]? = w.heap[b]? := Below.heap_alloc w o b h
theorem three {w w1 : World} {A R O : Obj} (hb : Below (((w.alloc A).alloc R).alloc O).heap.size (((w.alloc A).alloc R).alloc O) w1) :
    w1.heap[w.heap.size]? = some A ∧ w1.heap[w.heap.size + 1]? = some R ∧ w1.heap[w.heap.size + 1 + 1]? = some O := by
  have s1 : (w.alloc A).heap.size = w.heap.size + 1 := by simp
  have s2 : ((w.alloc A).alloc R).heap.size = w.heap.size + 1 + 1 := by simp
  refine ⟨?_, ?_, ?_⟩
  · rw [hb.block _ (by simp; omega), heap_old _ _ (by simp; omega), heap_old _ _ (by simp), heap_new]
  · rw [hb.block _ (by simp), heap_old _ _ (by simp), ← s1, heap_new]
  · rw [hb.block _ (by simp), ← s2, heap_new]
theorem blk_cell {w : World} {b : Nat} {cs : Array Value} {t : TypeId} (h : w.heap[b]? = some (.cells cs t (0, 0))) (j : Nat) : w.cell? ⟨b, j, none⟩ = cs[j]? := cell_of_row w b j cs t (0, 0) h
theorem blk_frozen {w : World} {b : Nat} {cs : Array Value} {t : TypeId} (h : w.heap[b]? = some (.cells cs t (0, 0))) (j : Nat) : w.frozen? ⟨b, j, none⟩ = false := frozen_of_row w b j cs t h
theorem blk_set {w : World} {b : Nat} {cs : Array Value} {t : TypeId} (h : w.heap[b]? = some (.cells cs t (0, 0))) (j : Nat) (v : Value) : (w.setCell ⟨b, j, none⟩ v).heap[b]? = some (.cells (cs.setIfInBounds j v) t (0, 0)) := heap_setCell_same w b j cs t v h

#print axioms Lies.keep
end Go.Proofs.Ytiadcebolcdhbaa

/-! How much a value holds, as the law's own helper reckons it: a contract for every value that lies in memory. -/
namespace Go.Proofs.Ytiadcebolcdhbaa
open Go.RowKit
set_option linter.unusedSimpArgs false
set_option linter.unusedVariables false

set_option maxHeartbeats 1000000 in
set_option maxRecDepth 100000 in
theorem sizeStrsT_c (v : Value) (ss : List ByteArray) (w : World) (left : Int) (hl0 : 0 ≤ left) (hl1 : left ≤ 1048576) (hv : Reads w v (strsV ss)) (hn : ss.length ≤ maxLen) (hs : ∀ s ∈ ss, s.size ≤ maxLen) :
    Calls Try.prog 60 #[v, .int .i64 left] w fun e w' => e = .returned (.int .i64 (leftS ss left)) ∧ w = w' := by
  obtain ⟨a, cap, rfl, _, hc⟩ := reads_strs hv
  clear hv
  unfold maxLen at hn hs
  by_cases h0 : left < (ss.length : Int)
  · have hneg : left - (ss.length : Int) < 0 := by omega
    have e : leftS ss left = -1 := by rw [leftS, bulkS, if_neg (by omega)]
    rw [e]
    clear hc hs
    go_enter Try.func60, Try.ntmps60
    go_wp2
    go_ret
    exact ⟨rfl, rfl⟩
  · have hpos : ¬ (left - (ss.length : Int) < 0) := by omega
    rcases hc with rfl | ⟨b, off, rfl, hlt, hc⟩
    · go_enter Try.func60, Try.ntmps60
      go_wp2
      go_loop [1, 5] (fun vl vi => vl = .int .i64 left ∧ vi = .int .i64 0) (fun _ _ => 0)
      case atStart => exact ⟨rfl, rfl⟩
      case round =>
        obtain ⟨rfl, rfl⟩ := hrel
        go_wp2
        go_ret
        exact ⟨by rw [show leftS [] left = left by simp [leftS, bulkS, hl0]]; rfl, rfl⟩
    · go_enter Try.func60, Try.ntmps60
      go_wp2
      go_loop [1, 5] (fun vl vi => ∃ (k : Nat) (l : Int), k ≤ ss.length ∧ vi = .int .i64 (k : Int) ∧ vl = .int .i64 l ∧ 0 ≤ l ∧ l ≤ 1048576 ∧ Hid (l = left - (ss.length : Int) - (((ss.take k).map ByteArray.size).sum : Int))) (fun _ vi => ss.length - (intOf vi).toNat)
      case atStart => exact ⟨0, _, Nat.zero_le _, rfl, rfl, by omega, by omega, by show _ = _; simp⟩
      case round =>
        obtain ⟨k, l, hk, rfl, rfl, hq0, hq1, hl⟩ := hrel
        by_cases hlt' : k < ss.length
        · have hcx := hc k hlt'
          have hsk := hs ss[k] (List.getElem_mem hlt')
          have hsum := sum_take_succ ss k hlt'
          obtain ⟨t, ht⟩ : ∃ t, t = ss[k] := ⟨_, rfl⟩
          rw [← ht] at hcx hsk hsum
          have HS : Hid (((ss.take (k + 1)).map ByteArray.size).sum = ((ss.take k).map ByteArray.size).sum + t.size) := hsum
          have hki : (k : Int) < (ss.length : Int) := by omega
          clear hc hs ht hsum
          by_cases hneg : l - (t.size : Int) < 0
          · have e : leftS ss left = -1 := by
              have h1 := HS.out; have h2 := hl.out; have h3 := sum_take_le ss (k + 1)
              rw [leftS, bulkS, if_neg (by omega)]
            have HE : Hid (leftS ss left = -1) := e
            clear e
            go_wp2
            go_ret
            exact ⟨by rw [HE.out]; rfl, rfl⟩
          · go_wp2
            go_round
            case rel => exact ⟨k + 1, l - (t.size : Int), by omega, by go_num, rfl, by omega, by omega, (by show _ = _; rw [HS.out, hl.out]; omega)⟩
            case measure => simp [intOf]; omega
        · have he : k = ss.length := by omega
          subst he
          have e : leftS ss left = l := by
            have h2 := hl.out
            rw [List.take_length] at h2
            rw [leftS, bulkS, if_pos (by omega)]; omega
          have HE : Hid (leftS ss left = l) := e
          clear hc hs e
          go_wp2
          go_ret
          exact ⟨by rw [HE.out]; rfl, rfl⟩
def leftN (n : Nat) (left : Int) : Int := if (n : Int) ≤ left then left - (n : Int) else -1
theorem leftN_bad {n : Nat} {left : Int} (h : left < (n : Int)) : leftN n left = -1 := by unfold leftN; rw [if_neg (by omega)]
theorem leftN_good {n : Nat} {left : Int} (h : (n : Int) ≤ left) : leftN n left = left - (n : Int) := by unfold leftN; rw [if_pos h]
theorem leftS_N (ks : List ByteArray) (left : Int) : leftS ks left = leftN (bulkS ks) left := rfl
theorem wt_mk (k n : Int) (s : ByteArray) (l : List Tree) (ks : List ByteArray) : (Tree.mk k n s l ks).wt = s.size + (wtL l + bulkS ks) := by rw [Tree.wt]

end Go.Proofs.Ytiadcebolcdhbaa

/-! A value copied into memory of its own, as the law's helper does it: a contract for every value that lies in memory and holds at most 2 to the 20. -/
namespace Go.Proofs.Ytiadcebolcdhbaa
open Go.RowKit
set_option linter.unusedSimpArgs false
set_option linter.unusedVariables false

/-- The blocks from lo on, below hi. -/
def Own (lo hi : Nat) (b : Nat) : Prop := lo ≤ b ∧ b < hi
theorem Own.set {lo hi : Nat} {w : World} {g j : Nat} {v : Value} (h : g < lo) : KeptIn (Own lo hi) w (w.setCell ⟨g, j, none⟩ v) := fun b hb => Below.heap_setCell w ⟨g, j, none⟩ v b (by have := hb.1; simp; omega)
theorem Own.below {lo : Nat} {w w' : World} (h : Below w.heap.size w w') : KeptIn (Own lo w.heap.size) w w' := fun b hb => h.block b hb.2
theorem Own.mono {lo lo' hi hi' : Nat} (h1 : lo' ≤ lo) (h2 : hi ≤ hi') : ∀ b, Own lo hi b → Own lo' hi' b := fun b h => ⟨Nat.le_trans h1 h.1, Nat.lt_of_lt_of_le h.2 h2⟩

theorem readsB_of_owns {w : World} {base : Nat} {e : TypeId} {v : Value} {n : Nat} {xs : List Value} (h : w.ownsRow base e 1 v n xs) : ReadsB (Own base w.heap.size) w v xs := by
  have h0 := reads_of_owns h
  obtain ⟨a, cap, hv, hc, hx⟩ := h0
  refine ⟨a, cap, hv, hc, ?_⟩
  rcases hx with hx | ⟨b, off, rfl, hlt, hx⟩
  · exact .inl hx
  · refine .inr ⟨b, off, rfl, ⟨?_, hlt⟩, hx⟩
    rcases h.2 with ⟨hn, _⟩ | ⟨g, cap', cur, hv', hg, _⟩
    · rw [hn] at hv; simp at hv
    · rw [hv'] at hv
      simp only [Value.slice.injEq, Option.some.injEq, Addr.mk.injEq] at hv
      omega

theorem toVal_facts {w1 w2 : World} {N : Nat} {t t' : TypeId} {x o0 o1 o2 o3 o4 r0 r1 r2 r3 r4 : Value} (hR : w1.heap[N + 1]? = some (.cells #[r0, r1, r2, r3, r4] t)) (hO : w1.heap[N + 1 + 1]? = some (.cells #[o0, o1, o2, o3, o4] t'))
    (hb : Below (w1.setCell ⟨N + 1 + 1, 3, none⟩ x).heap.size (w1.setCell ⟨N + 1 + 1, 3, none⟩ x) w2) :
    (w2.cell? ⟨N + 1 + 1, 0, none⟩ = some o0 ∧ w2.cell? ⟨N + 1 + 1, 1, none⟩ = some o1 ∧ w2.cell? ⟨N + 1 + 1, 2, none⟩ = some o2 ∧ w2.cell? ⟨N + 1 + 1, 3, none⟩ = some x ∧ w2.cell? ⟨N + 1 + 1, 4, none⟩ = some o4) ∧
    (w2.cell? ⟨N + 1, 0, none⟩ = some r0 ∧ w2.cell? ⟨N + 1, 1, none⟩ = some r1 ∧ w2.cell? ⟨N + 1, 2, none⟩ = some r2 ∧ w2.cell? ⟨N + 1, 3, none⟩ = some r3 ∧ w2.cell? ⟨N + 1, 4, none⟩ = some r4) ∧
    (∀ j, w2.frozen? ⟨N + 1 + 1, j, none⟩ = false) ∧ (∀ j, w2.frozen? ⟨N + 1, j, none⟩ = false) := by
  have l1 : N + 1 < w1.heap.size := (Array.getElem?_eq_some_iff.1 hR).1
  have l2 : N + 1 + 1 < w1.heap.size := (Array.getElem?_eq_some_iff.1 hO).1
  have s1 : (w1.setCell ⟨N + 1 + 1, 3, none⟩ x).heap.size = w1.heap.size := by simp [World.setCell]
  have eO := blk_set hO 3 x
  have eR : (w1.setCell ⟨N + 1 + 1, 3, none⟩ x).heap[N + 1]? = _ := (Below.heap_setCell w1 ⟨N + 1 + 1, 3, none⟩ x (N + 1) (by simp)).trans hR
  rw [← hb.block _ (by rw [s1]; exact l2)] at eO
  rw [← hb.block _ (by rw [s1]; exact l1)] at eR
  exact ⟨⟨blk_cell eO 0, blk_cell eO 1, blk_cell eO 2, blk_cell eO 3, blk_cell eO 4⟩, ⟨blk_cell eR 0, blk_cell eR 1, blk_cell eR 2, blk_cell eR 3, blk_cell eR 4⟩, blk_frozen eO, blk_frozen eR⟩

theorem infoVal : (Try.prog.info? 50).map (fun i => (i.zero, i.size, i.bytes)) = some (some (.agg #[.int .i64 0, .int .i64 0, .string ⟨#[]⟩, .slice none 0 0, .slice none 0 0]), 5, 80) := by kernel_rfl

def cellsAt (ys : List Value) (i : Nat) : Value := .agg #[ys.getD (i * 5) undef, ys.getD (i * 5 + 1) undef, ys.getD (i * 5 + 2) undef, ys.getD (i * 5 + 3) undef, ys.getD (i * 5 + 4) undef]

def set5 (ys : List Value) (i : Nat) (c0 c1 c2 c3 c4 : Value) : List Value := ((((ys.set (i * 5) c0).set (i * 5 + 1) c1).set (i * 5 + 2) c2).set (i * 5 + 3) c3).set (i * 5 + 4) c4

theorem cellsAt_same (ys : List Value) (i : Nat) (c0 c1 c2 c3 c4 : Value) (h : i * 5 + 4 < ys.length) : cellsAt (set5 ys i c0 c1 c2 c3 c4) i = .agg #[c0, c1, c2, c3, c4] := by
  simp [cellsAt, set5, List.getD_eq_getElem?_getD, List.getElem?_set, h, show i * 5 < ys.length by omega, show i * 5 + 1 < ys.length by omega, show i * 5 + 2 < ys.length by omega, show i * 5 + 3 < ys.length by omega]

theorem getD_set_ne (ys : List Value) (a b : Nat) (v : Value) (h : a ≠ b) : (ys.set a v).getD b undef = ys.getD b undef := by
  simp [List.getD_eq_getElem?_getD, List.getElem?_set, h]

theorem cellsAt_other (ys : List Value) (i j : Nat) (c0 c1 c2 c3 c4 : Value) (h : j < i) : cellsAt (set5 ys i c0 c1 c2 c3 c4) j = cellsAt ys j := by
  have e : ∀ q, q < 5 → (set5 ys i c0 c1 c2 c3 c4).getD (j * 5 + q) undef = ys.getD (j * 5 + q) undef := fun q hq => by
    unfold set5
    rw [getD_set_ne _ _ _ _ (by omega), getD_set_ne _ _ _ _ (by omega), getD_set_ne _ _ _ _ (by omega), getD_set_ne _ _ _ _ (by omega), getD_set_ne _ _ _ _ (by omega)]
  have e0 := e 0 (by omega)
  rw [Nat.add_zero] at e0
  simp only [cellsAt, e0, e 1 (by omega), e 2 (by omega), e 3 (by omega), e 4 (by omega)]

theorem liesL_of_owns {w : World} {lo g n : Nat} {ys : List Value} {l : List Tree} (hg : w.ownsRow lo 50 5 (.slice (some ⟨g, 0, none⟩) n n) n ys) (hn : n = l.length) (hl : l.length ≤ maxLen) (hlo : lo ≤ g)
    (h : ∀ i (h : i < l.length), Lies (Own lo w.heap.size) w (cellsAt ys i) l[i]) : LiesL (Own lo w.heap.size) w (.slice (some ⟨g, 0, none⟩) l.length l.length) l := by
  subst hn
  refine ⟨_, _, fun i j => ys.getD (i * 5 + j) undef, rfl, hl, Nat.le_refl _, ?_, fun i hi => h i hi⟩
  have hlen := hg.1
  by_cases h0 : l = []
  · exact .inl h0
  · have hpos : 0 < l.length := List.length_pos_iff.2 h0
    refine .inr ⟨g, 0, rfl, ⟨hlo, ?_⟩, fun i hi j hj => ?_⟩
    · have := hg.cellAt 0 (by omega)
      have h2 : w.cell? ⟨g, 0, none⟩ = some (ys.getD 0 undef) := by rw [this]; simp [List.getD_eq_getElem?_getD, show 0 < ys.length by omega]
      exact World.block_lt_of_cell? w _ h2
    · rw [Nat.zero_add, hg.cellAt _ (by omega)]
      simp [List.getD_eq_getElem?_getD, show i * 5 + j < ys.length by omega]

end Go.Proofs.Ytiadcebolcdhbaa

/-! A list of values copied into memory of its own; with it every value: a contract for what lies in memory and holds at most 2 to the 20. -/
namespace Go.Proofs.Ytiadcebolcdhbaa
open Go.RowKit
set_option linter.unusedSimpArgs false
set_option linter.unusedVariables false

/-- What lies in memory, with its two lists written out. -/
theorem Lies.parts {S : Nat → Prop} {w : World} {v : Value} {T : Tree} (h : Lies S w v T) :
    ∃ k n s a m cap a' m' cap', v = .agg #[.int .i64 k, .int .i64 n, .string s, .slice a m cap, .slice a' m' cap'] := by
  cases T with
  | mk k n s l ks =>
    obtain ⟨c, u, rfl, hs, hk, ⟨a, cap, C, rfl, _⟩, ⟨a', cap', rfl, _⟩⟩ := h.out
    exact ⟨_, _, _, _, _, _, _, _, _, rfl⟩

end Go.Proofs.Ytiadcebolcdhbaa

/-! Two values that are the same tree are told so by the law's own comparison: a contract for every two that lie in memory. -/
namespace Go.Proofs.Ytiadcebolcdhbaa
open Go.RowKit
set_option linter.unusedSimpArgs false
set_option linter.unusedVariables false

def EqC (T : Tree) : Prop := ∀ (S S' : Nat → Prop) (v u : Value) (w : World), Lies S w v T → Lies S' w u T → (∀ b, S b → b < w.heap.size) → (∀ b, S' b → b < w.heap.size) → T.wt ≤ 1048576 →
  Calls Try.prog 28 #[v, u] w fun e w' => e = .returned (.bool true) ∧ Below w.heap.size w w'
def EqLC (l : List Tree) : Prop := ∀ (S S' : Nat → Prop) (v u : Value) (w : World), LiesL S w v l → LiesL S' w u l → (∀ b, S b → b < w.heap.size) → (∀ b, S' b → b < w.heap.size) → wtL l ≤ 1048576 →
  Calls Try.prog 66 #[v, u] w fun e w' => e = .returned (.bool true) ∧ Below w.heap.size w w'

theorem two5 {w w1 : World} {c0 c1 c2 c3 c4 d0 d1 d2 d3 d4 : Value} {t : TypeId} (hb : Below ((w.alloc (.cells #[c0, c1, c2, c3, c4] t)).alloc (.cells #[d0, d1, d2, d3, d4] t)).heap.size ((w.alloc (.cells #[c0, c1, c2, c3, c4] t)).alloc (.cells #[d0, d1, d2, d3, d4] t)) w1) :
    w1.cell? ⟨w.heap.size, 4, none⟩ = some c4 ∧ w1.cell? ⟨w.heap.size + 1, 4, none⟩ = some d4 := by
  have s1 : (w.alloc (.cells #[c0, c1, c2, c3, c4] t)).heap.size = w.heap.size + 1 := by simp
  have h1 : w1.heap[w.heap.size]? = some (.cells #[c0, c1, c2, c3, c4] t) := by rw [hb.block _ (by simp; omega), heap_old _ _ (by simp), heap_new]
  have h2 : w1.heap[w.heap.size + 1]? = some (.cells #[d0, d1, d2, d3, d4] t) := by rw [hb.block _ (by simp), ← s1, heap_new]
  exact ⟨blk_cell h1 4, blk_cell h2 4⟩

set_option maxHeartbeats 2000000 in
set_option maxRecDepth 100000 in
theorem eqVal_step (k n : Int) (s : ByteArray) (l : List Tree) (ks : List ByteArray) (ih : EqLC l) : EqC (.mk k n s l ks) := by
  intro S S' v u w hv hv' hB hB' hw
  rw [wt_mk] at hw
  obtain ⟨c, u, rfl, hs, hk, hl, hu⟩ := hv.out
  obtain ⟨c', u', rfl, _, _, hl', hu'⟩ := hv'.out
  clear hv hv'
  have hwl : wtL l ≤ 1048576 := by omega
  have hkn : ks.length ≤ 1099511627776 := by unfold bulkS at hw; omega
  have hb2 : ∀ A R, Below w.heap.size w ((w.alloc A).alloc R) := fun A R => ((Below.refl _ _).alloc (Nat.le_refl _) _).alloc (by simp) _
  have hlA : ∀ A R, LiesL S ((w.alloc A).alloc R) c l := fun A R => hl.keep (.of (hb2 A R) hB)
  have hlA' : ∀ A R, LiesL S' ((w.alloc A).alloc R) c' l := fun A R => hl'.keep (.of (hb2 A R) hB')
  have huA : ∀ w1, Below w.heap.size w w1 → Reads w1 u (strsV ks) := fun w1 h1 => (hu.keep (.of h1 hB)).reads (fun b h => Nat.lt_of_lt_of_le (hB b h) h1.size)
  have huA' : ∀ w1, Below w.heap.size w w1 → Reads w1 u' (strsV ks) := fun w1 h1 => (hu'.keep (.of h1 hB')).reads (fun b h => Nat.lt_of_lt_of_le (hB' b h) h1.size)
  have hBA : ∀ A R b, S b → b < ((w.alloc A).alloc R).heap.size := fun A R b h => Nat.lt_of_lt_of_le (hB b h) (hb2 A R).size
  have hBA' : ∀ A R b, S' b → b < ((w.alloc A).alloc R).heap.size := fun A R b h => Nat.lt_of_lt_of_le (hB' b h) (hb2 A R).size
  go_enter Try.func28, Try.ntmps28
  go_wp2_with (first
    | (go_at_call 66; refine (ih S S' c c' _ (hlA _ _) (hlA' _ _) (hBA _ _) (hBA' _ _) hwl).mono ?_; rintro e w1 ⟨rfl, hb1⟩; obtain ⟨x4, y4⟩ := two5 hb1)
    | (go_at_call 67; refine (eqStrs_c u u' ks ks _ (huA _ ((hb2 _ _).trans (hb1.mono (by simp; omega)))) (huA' _ ((hb2 _ _).trans (hb1.mono (by simp; omega)))) hkn).mono ?_; rintro e w3 ⟨rfl, hb3⟩; rw [decide_eq_true (rfl : ks = ks)]))
  go_ret
  exact ⟨rfl, ((hb2 _ _).trans (hb1.mono (by simp; omega))).trans (hb3.mono (by have := hb1.size; simp at this; omega))⟩

set_option maxHeartbeats 2000000 in
set_option maxRecDepth 100000 in
theorem eqValS_step (l : List Tree) (ih : ∀ U ∈ l, EqC U) : EqLC l := by
  intro S S' v u w hv hv' hB hB' hw
  obtain ⟨a, cap, rfl, hl, hc, ha⟩ := hv.at
  obtain ⟨a', cap', rfl, _, hc', ha'⟩ := hv'.at
  unfold maxLen at hl
  go_enter Try.func66, Try.ntmps66
  go_wp2_with fail
  go_loopw [5] (fun vi wr => ∃ k : Nat, k ≤ l.length ∧ vi = .int .i64 (k : Int) ∧ Below w.heap.size w wr) (fun vi _ => l.length - (intOf vi).toNat)
  case atStart => exact ⟨0, Nat.zero_le _, rfl, Below.refl _ _⟩
  case round =>
    obtain ⟨k, hk, rfl, hbr⟩ := hrel
    by_cases hlt' : k < l.length
    · rcases ha with rfl | ⟨b, off, rfl, hlt, ha⟩
      · simp at hlt'
      rcases ha' with rfl | ⟨b', off', rfl, hlt3, ha'⟩
      · simp at hlt'
      obtain ⟨c0, c1, c2, c3, c4, e0, e1, e2, e3, e4, hT⟩ := ha k hlt'
      obtain ⟨d0, d1, d2, d3, d4, g0, g1, g2, g3, g4, hT2⟩ := ha' k hlt'
      have hlt2 : b < w.heap.size := hB b hlt
      have hlt4 : b' < w.heap.size := hB' b' hlt3
      rw [← hbr.cell (by simpa using hlt2)] at e0 e1 e2 e3 e4
      rw [← hbr.cell (by simpa using hlt4)] at g0 g1 g2 g3 g4
      have ihk := ih _ (List.getElem_mem hlt')
      have hwt : (l[k]).wt ≤ 1048576 := by have := wt_le_wtL (List.getElem_mem hlt'); omega
      obtain ⟨U, hU⟩ : ∃ U, U = l[k] := ⟨_, rfl⟩
      rw [← hU] at hT hT2 ihk hwt
      have hki : (k : Int) < (l.length : Int) := by omega
      have hBr : ∀ b, S b → b < wr.heap.size := fun b h => Nat.lt_of_lt_of_le (hB b h) hbr.size
      have hBr' : ∀ b, S' b → b < wr.heap.size := fun b h => Nat.lt_of_lt_of_le (hB' b h) hbr.size
      have hT3 : Lies S wr.drew _ U := (hT.keep (.of hbr.drew hB))
      have hT4 : Lies S' wr.drew _ U := (hT2.keep (.of hbr.drew hB'))
      clear ha ha' ih hU hT hT2 hv hv'
      go_wp2_with fail
      go_region_with (go_at_call 28; refine (ihk S S' _ _ wr.drew hT3 hT4 hBr hBr' hwt).mono ?_; rintro e w2 ⟨rfl, hb2⟩)
      all_goals go_wp2_with fail
      all_goals go_roundw
      all_goals first
        | exact ⟨k + 1, by omega, by go_num, hbr.drew.trans (hb2.mono hbr.size)⟩
        | (simp [intOf]; omega)
    · have he : k = l.length := by omega
      subst he
      clear ha ha'
      go_wp2_with fail
      go_ret
      exact ⟨rfl, hbr⟩

theorem eqVal_all : ∀ T, EqC T := by
  refine Tree.ind ?_
  intro k n s l ks ih
  exact eqVal_step k n s l ks (eqValS_step l ih)
#print axioms eqVal_all
end Go.Proofs.Ytiadcebolcdhbaa

/-! Trees of values that may be written, no two rows of which are the same, and such as bear marks: what they are, and that they are kept; no condition. -/
namespace Go.Proofs.Ytiadcebolcdhbaa
open Go.RowKit
set_option linter.unusedSimpArgs false
set_option linter.unusedVariables false

def Tree.kids : Tree → List Tree
  | .mk _ _ _ l _ => l
def Tree.keys : Tree → List ByteArray
  | .mk _ _ _ _ ks => ks
mutual
/-- How many marks a tree takes below its own, and a list of trees. -/
def Tree.cnt : Tree → Nat
  | .mk _ _ _ l ks => 3 + cntL l + ks.length
def cntL : List Tree → Nat
  | [] => 0
  | t :: r => t.cnt + cntL r
end
theorem cnt_eq (T : Tree) : T.cnt = 3 + cntL T.kids + T.keys.length := by
  cases T; rw [Tree.cnt]; rfl
theorem cntL_append (a b : List Tree) : cntL (a ++ b) = cntL a + cntL b := by
  induction a with
  | nil => simp [cntL]
  | cons t r ih => simp only [List.cons_append, cntL, ih]; omega
theorem cntL_take (l : List Tree) (k : Nat) (h : k < l.length) : cntL (l.take (k + 1)) = cntL (l.take k) + l[k].cnt := by
  rw [List.take_succ_eq_append_getElem h, cntL_append]; simp [cntL]
theorem cntL_take_le (l : List Tree) (k : Nat) : cntL (l.take k) ≤ cntL l := by
  conv => rhs; rw [← List.take_append_drop k l, cntL_append]
  omega

/-- Rows of values that may be written: their blocks lie in S, no two of them are the same. -/
inductive OwnL (w : World) : (Nat → Prop) → Value → List Tree → Prop
  | mk (S : Nat → Prop) (v : Value) (l : List Tree) (ys : List Value) (C U : Nat → Value) (B K : Nat → Nat → Prop)
      (hrow : w.ownsRow 0 50 5 v l.length ys)
      (hg : ∀ g, v.ownBlock = some g → S g ∧ ∀ i, ¬ B i g ∧ ¬ K i g)
      (hc : ∀ i, i < l.length → (∃ c0 c1 c2, ys[i * 5]? = some c0 ∧ ys[i * 5 + 1]? = some c1 ∧ ys[i * 5 + 2]? = some c2) ∧ ys[i * 5 + 3]? = some (C i) ∧ ys[i * 5 + 4]? = some (U i))
      (hB : ∀ i b, B i b → S b) (hK : ∀ i b, K i b → S b)
      (hBB : ∀ i j b, i ≠ j → B i b → ¬ B j b) (hBK : ∀ i j b, B i b → ¬ K j b) (hKK : ∀ i j b, i ≠ j → K i b → ¬ K j b)
      (hC : ∀ i (h : i < l.length), OwnL w (B i) (C i) l[i].kids)
      (hU : ∀ i (h : i < l.length), ∃ xs, w.ownsRow 0 9 1 (U i) l[i].keys.length xs ∧ ∀ g, (U i).ownBlock = some g → K i g) : OwnL w S v l

/-- Rows of values that bear the marks from k on. -/
inductive MarkL (w : World) (S : Nat → Prop) : Nat → Value → List Tree → Prop
  | mk (k : Nat) (v : Value) (l : List Tree) (ys : List Value) (C U : Nat → Value)
      (hrow : w.ownsRow 0 50 5 v l.length ys) (hg : ∀ g, v.ownBlock = some g → S g)
      (hc : ∀ i, i < l.length → ys[i * 5]? = some (.int .i64 ((k + cntL (l.take i) : Nat) : Int)) ∧ ys[i * 5 + 1]? = some (.int .i64 ((k + cntL (l.take i) + 1 : Nat) : Int)) ∧ ys[i * 5 + 2]? = some (.string (markStr (k + cntL (l.take i) + 2))) ∧ ys[i * 5 + 3]? = some (C i) ∧ ys[i * 5 + 4]? = some (U i))
      (hC : ∀ i (h : i < l.length), MarkL w S (k + cntL (l.take i) + 3) (C i) l[i].kids)
      (hU : ∀ i (h : i < l.length), RdB S w (U i) (strsV (marksS (k + cntL (l.take i) + 3 + cntL l[i].kids) l[i].keys.length))) : MarkL w S k v l

theorem OwnL.keep {S : Nat → Prop} {w w' : World} {v : Value} {l : List Tree} (h : OwnL w S v l) : Kp S w w' → OwnL w' S v l := by
  induction h with
  | mk S v l ys C U B K hrow hg hc hB hK hBB hBK hKK hC hU ih =>
    intro hk
    refine .mk S v l ys C U B K (owns_kept hk (fun g h => (hg g h).1) hrow) hg hc hB hK hBB hBK hKK (fun i h => ih i h (fun b hb => hk b (hB i b hb))) (fun i h => ?_)
    obtain ⟨xs, h1, h2⟩ := hU i h
    exact ⟨xs, owns_kept hk (fun g h => hK i g (h2 g h)) h1, h2⟩
theorem MarkL.keep {S : Nat → Prop} {w w' : World} {k : Nat} {v : Value} {l : List Tree} (h : MarkL w S k v l) : Kp S w w' → MarkL w' S k v l := by
  induction h with
  | mk k v l ys C U hrow hg hc hC hU ih =>
    intro hk
    exact .mk k v l ys C U (owns_kept hk hg hrow) hg hc (fun i h => ih i h hk) (fun i h => (hU i h).keep hk)
theorem MarkL.mono {S : Nat → Prop} {w : World} {k : Nat} {v : Value} {l : List Tree} (h : MarkL w S k v l) : ∀ {S' : Nat → Prop}, (∀ b, S b → S' b) → MarkL w S' k v l := by
  induction h with
  | mk k v l ys C U hrow hg hc hC hU ih =>
    intro S' hs
    exact .mk k v l ys C U hrow (fun g h => hs g (hg g h)) hc (fun i h => ih i h hs) (fun i h => (hU i h).mono hs)
theorem OwnL.slice {S : Nat → Prop} {w : World} {v : Value} {l : List Tree} (h : OwnL w S v l) : ∃ q cap, v = .slice q l.length cap := by
  cases h with
  | mk S v l ys C U B K hrow =>
    rcases hrow.2 with ⟨h1, h2⟩ | ⟨g, cap, cur, h1, _⟩
    · exact ⟨none, 0, by rw [h1, h2]⟩
    · exact ⟨_, _, h1⟩
theorem MarkL.slice {S : Nat → Prop} {w : World} {k : Nat} {v : Value} {l : List Tree} (h : MarkL w S k v l) : ∃ q cap, v = .slice q l.length cap := by
  cases h with
  | mk k v l ys C U hrow =>
    rcases hrow.2 with ⟨h1, h2⟩ | ⟨g, cap, cur, h1, _⟩
    · exact ⟨none, 0, by rw [h1, h2]⟩
    · exact ⟨_, _, h1⟩

/-- From w to w' only blocks of S, and new ones, have changed. -/
structure Chg (S : Nat → Prop) (w w' : World) : Prop where
  os : w'.os = w.os
  tape : w'.tape = w.tape
  output : w'.output = w.output
  size : w.heap.size ≤ w'.heap.size
  block : ∀ b, b < w.heap.size → ¬ S b → w'.heap[b]? = w.heap[b]?
theorem Chg.refl (S : Nat → Prop) (w : World) : Chg S w w := ⟨rfl, rfl, rfl, Nat.le_refl _, fun _ _ _ => rfl⟩
theorem Chg.trans {S : Nat → Prop} {a b c : World} (h : Chg S a b) (k : Chg S b c) : Chg S a c :=
  ⟨k.os.trans h.os, k.tape.trans h.tape, k.output.trans h.output, Nat.le_trans h.size k.size, fun i hi hs => (k.block i (Nat.lt_of_lt_of_le hi h.size) hs).trans (h.block i hi hs)⟩
theorem Chg.mono {S S' : Nat → Prop} {a b : World} (h : Chg S a b) (hs : ∀ b, S b → S' b) : Chg S' a b := ⟨h.os, h.tape, h.output, h.size, fun i hi hn => h.block i hi (fun k => hn (hs i k))⟩
theorem Chg.of {S : Nat → Prop} {a b : World} (h : Below a.heap.size a b) : Chg S a b := ⟨h.os, h.tape, h.output, h.size, fun i hi _ => h.block i hi⟩
theorem Chg.kp {S R : Nat → Prop} {a b : World} (h : Chg S a b) (hr : ∀ i, R i → i < a.heap.size ∧ ¬ S i) : Kp R a b := fun i hi => h.block i (hr i hi).1 (hr i hi).2
end Go.Proofs.Ytiadcebolcdhbaa

/-! Marks put into a tree of values that may be written, as the law puts them: contracts for the walks; conditions: no two rows are the same, and there are at most 2 to the 32 marks. -/
namespace Go.Proofs.Ytiadcebolcdhbaa
open Go.RowKit
set_option linter.unusedSimpArgs false
set_option linter.unusedVariables false

def MarkC (l : List Tree) : Prop := ∀ (S : Nat → Prop) (v : Value) (w : World) (k : Nat), OwnL w S v l → (∀ b, S b → b < w.heap.size) → 1 ≤ k → k + cntL l ≤ 4294967296 →
  Calls Try.prog 69 #[v, .int .i64 (k : Int)] w fun e w' => e = .returned (.int .i64 ((k + cntL l : Nat) : Int)) ∧ MarkL w' S k v l ∧ Chg S w w'

/-- What is done, and what is left, when the elements below i bear their marks. -/
structure MInv (w : World) (l : List Tree) (k : Nat) (C U : Nat → Value) (B K : Nat → Nat → Prop) (ys : List Value) (i : Nat) : Prop where
  at34 : ∀ j, j < l.length → ys[j * 5 + 3]? = some (C j) ∧ ys[j * 5 + 4]? = some (U j)
  at012 : ∀ j, j < l.length → i ≤ j → ∃ c0 c1 c2, ys[j * 5]? = some c0 ∧ ys[j * 5 + 1]? = some c1 ∧ ys[j * 5 + 2]? = some c2
  done : ∀ j, j < l.length → j < i → ys[j * 5]? = some (.int .i64 ((k + cntL (l.take j) : Nat) : Int)) ∧ ys[j * 5 + 1]? = some (.int .i64 ((k + cntL (l.take j) + 1 : Nat) : Int)) ∧ ys[j * 5 + 2]? = some (.string (markStr (k + cntL (l.take j) + 2)))
  doneC : ∀ j (h : j < l.length), j < i → MarkL w (B j) (k + cntL (l.take j) + 3) (C j) l[j].kids
  doneU : ∀ j (h : j < l.length), j < i → RdB (K j) w (U j) (strsV (marksS (k + cntL (l.take j) + 3 + cntL l[j].kids) l[j].keys.length))
  leftC : ∀ j (h : j < l.length), i ≤ j → OwnL w (B j) (C j) l[j].kids
  leftU : ∀ j (h : j < l.length), i ≤ j → ∃ xs, w.ownsRow 0 9 1 (U j) l[j].keys.length xs ∧ ∀ g, (U j).ownBlock = some g → K j g

theorem Chg.set {S : Nat → Prop} {w : World} {g j : Nat} {v : Value} (h : S g) : Chg S w (w.setCell ⟨g, j, none⟩ v) :=
  ⟨rfl, rfl, rfl, by simp [World.setCell], fun b hb hn => Below.heap_setCell w ⟨g, j, none⟩ v b (fun e => by have e' : b = g := e; subst e'; exact hn h)⟩
theorem Chg.grown {S : Nat → Prop} {w w' : World} {r : Option Nat} (h : w.grownBy w' r) (hr : ∀ g, r = some g → S g) : Chg S w w' :=
  ⟨h.os, h.tape, h.output, h.size, fun b hb hn => h.block b hb (fun e => hn (hr b e.symm))⟩
theorem rdB_in {S : Nat → Prop} {w : World} {lo : Nat} {e : TypeId} {v : Value} {n : Nat} {xs : List Value} (h : w.ownsRow lo e 1 v n xs) (hs : ∀ g, v.ownBlock = some g → S g) : RdB S w v xs := by
  obtain ⟨a, cap, hv, hc, hx⟩ := reads_of_owns h
  refine ⟨a, cap, hv, hc, ?_⟩
  rcases hx with hx | ⟨b, off, rfl, hlt, hx⟩
  · exact .inl hx
  · exact .inr ⟨b, off, rfl, hs b (by rw [hv]; rfl), hx⟩
theorem owns_sl {w : World} {lo : Nat} {e : TypeId} {sz n : Nat} {v : Value} {xs : List Value} (hg : w.ownsRow lo e sz v n xs) : ∃ q cap, v = .slice q n cap := by
  rcases hg.2 with ⟨h1, h2⟩ | ⟨g, cap, cur, h1, _⟩
  · exact ⟨none, 0, by rw [h1, h2]⟩
  · exact ⟨_, _, h1⟩
def put3 (ys : List Value) (i : Nat) (a b c : Value) : List Value := ((ys.set (i * 5) a).set (i * 5 + 1) b).set (i * 5 + 2) c
theorem put3_other {ys : List Value} {i j : Nat} {a b c : Value} (h : j < i * 5 ∨ i * 5 + 2 < j) : (put3 ys i a b c)[j]? = ys[j]? := by
  unfold put3
  rw [List.getElem?_set_ne (by omega), List.getElem?_set_ne (by omega), List.getElem?_set_ne (by omega)]
theorem put3_same {ys : List Value} {i : Nat} {a b c : Value} (h : i * 5 + 2 < ys.length) : (put3 ys i a b c)[i * 5]? = some a ∧ (put3 ys i a b c)[i * 5 + 1]? = some b ∧ (put3 ys i a b c)[i * 5 + 2]? = some c := by
  simp [put3, List.getElem?_set, h, show i * 5 < ys.length by omega, show i * 5 + 1 < ys.length by omega]

set_option maxHeartbeats 1000000 in
theorem MInv.step {w w' : World} {l : List Tree} {k m : Nat} {C U : Nat → Value} {B K : Nat → Nat → Prop} {ys : List Value} {i : Nat} (h : MInv w l k C U B K ys i) (hi : i < l.length) (hm : m = k + cntL (l.take i)) (hy : i * 5 + 2 < ys.length)
    (hK : ∀ R : Nat → Prop, (∀ j, j ≠ i → (∀ b, R b → B j b) ∨ (∀ b, R b → K j b) → Kp R w w'))
    (hC : MarkL w' (B i) (m + 3) (C i) l[i].kids) (hU : RdB (K i) w' (U i) (strsV (marksS (m + 3 + cntL l[i].kids) l[i].keys.length))) :
    MInv w' l k C U B K (put3 ys i (.int .i64 (m : Int)) (.int .i64 ((m : Int) + 1)) (.string (markStr (m + 2)))) (i + 1) := by
  subst hm
  refine ⟨fun j hj => ?_, fun j hj hij => ?_, fun j hj hij => ?_, fun j hj hij => ?_, fun j hj hij => ?_, fun j hj hij => ?_, fun j hj hij => ?_⟩
  · have := h.at34 j hj
    by_cases e : j = i
    · subst e; rw [put3_other (by omega), put3_other (by omega)]; exact this
    · by_cases e2 : j < i
      · rw [put3_other (by omega), put3_other (by omega)]; exact this
      · rw [put3_other (by omega), put3_other (by omega)]; exact this
  · obtain ⟨c0, c1, c2, h0, h1, h2⟩ := h.at012 j hj (by omega)
    exact ⟨c0, c1, c2, by rw [put3_other (by omega)]; exact h0, by rw [put3_other (by omega)]; exact h1, by rw [put3_other (by omega)]; exact h2⟩
  · by_cases e : j = i
    · subst e
      obtain ⟨a, b, c⟩ := put3_same (a := (.int .i64 ((k + cntL (l.take j) : Nat) : Int))) (b := (.int .i64 (((k + cntL (l.take j) : Nat) : Int) + 1))) (c := (.string (markStr (k + cntL (l.take j) + 2)))) hy
      exact ⟨a, by rw [b]; simp, c⟩
    · have := h.done j hj (by omega)
      rw [put3_other (by omega), put3_other (by omega), put3_other (by omega)]; exact this
  · by_cases e : j = i
    · subst e; exact hC
    · exact (h.doneC j hj (by omega)).keep (hK _ j e (.inl fun b hb => hb))
  · by_cases e : j = i
    · subst e; exact hU
    · exact (h.doneU j hj (by omega)).keep (hK _ j e (.inr fun b hb => hb))
  · exact (h.leftC j hj (by omega)).keep (hK _ j (by omega) (.inl fun b hb => hb))
  · obtain ⟨xs, a, b⟩ := h.leftU j hj (by omega)
    exact ⟨xs, owns_kept (hK _ j (by omega) (.inr fun b hb => hb)) b a, b⟩

set_option maxHeartbeats 4000000 in
set_option maxRecDepth 100000 in
theorem markValS_step (l : List Tree) (ih : ∀ U ∈ l, MarkC U.kids) : MarkC l := by
  intro S v w k h hS h1 h2
  cases h with
  | mk _ _ _ ys0 C U B K hrow hg hc hB hK hBB hBK hKK hC hU =>
  rcases id hrow.2 with ⟨rfl, hn0⟩ | ⟨g, cap, cur, rfl, _, hgb, hcap, hmax, _⟩
  · have hl0 : l = [] := List.eq_nil_of_length_eq_zero hn0
    subst hl0
    have HM : Hid (MarkL w S k (.slice none 0 0) []) := .mk k _ [] ys0 C U hrow (fun g h => (hg g h).1) (fun i hi => by simp at hi) (fun i hi => by simp at hi) (fun i hi => by simp at hi)
    clear hC hU hc ih hrow hg hB hK hBB hBK hKK
    go_enter Try.func69, Try.ntmps69
    go_wp2_with fail
    go_loopw [1, 5] (fun vk vi wr => vk = .int .i64 (k : Int) ∧ vi = .int .i64 0 ∧ wr = w) (fun _ _ _ => 0)
    case atStart => exact ⟨rfl, rfl, rfl⟩
    case round =>
      obtain ⟨rfl, rfl, rfl⟩ := hrel
      go_wp2_with fail
      go_ret
      exact ⟨by simp [cntL], HM.out, Chg.refl _ _⟩
  · have hSg := (hg g rfl).1
    have hNg := (hg g rfl).2
    unfold maxLen at hmax
    have HI : Hid (MInv w l k C U B K ys0 0) := ⟨fun j hj => (hc j hj).2, fun j hj _ => (hc j hj).1, fun j hj h => by omega, fun j hj h => by omega, fun j hj h => by omega, fun j hj _ => hC j hj, fun j hj _ => hU j hj⟩
    clear hC hU hc hg hgb
    go_enter Try.func69, Try.ntmps69
    go_wp2_with fail
    go_loopw [1, 5] (fun vk vi wr => ∃ (i m : Nat) (ys : List Value), i ≤ l.length ∧ vi = .int .i64 (i : Int) ∧ vk = .int .i64 (m : Int) ∧ Hid (m = k + cntL (l.take i)) ∧ wr.ownsRow 0 50 5 (.slice (some ⟨g, 0, none⟩) l.length cap) l.length ys ∧ Hid (MInv wr l k C U B K ys i) ∧ Chg S w wr) (fun _ vi _ => l.length - (intOf vi).toNat)
    case atStart => exact ⟨0, k, ys0, Nat.zero_le _, rfl, rfl, by show _ = _; simp [cntL], hrow, HI.out, Chg.refl _ _⟩
    case round =>
      obtain ⟨i, m, ys, hi, rfl, rfl, hm, hown, hinv, hchg⟩ := hrel
      by_cases hlt : i < l.length
      · have hlen := hown.1
        obtain ⟨c0, c1, c2, y0, y1, y2⟩ := hinv.out.at012 i hlt (Nat.le_refl _)
        obtain ⟨y3, y4⟩ := hinv.out.at34 i hlt
        have hcl : cntL (l.take i) + l[i].cnt ≤ cntL l := by rw [← cntL_take l i hlt]; exact cntL_take_le _ _
        have hce := cnt_eq l[i]
        have hm2 : m + 3 ≤ 4294967296 := by have := hm.out; omega
        have hm1 : 1 ≤ m := by have := hm.out; omega
        have d0 := (hown.cellAt (i * 5) (by omega)).trans y0
        have d1 := (hown.cellAt (i * 5 + 1) (by omega)).trans y1
        have fz := hown.frozenAt
        have hki : (i : Int) < (l.length : Int) := by omega
        have HO := hidden hown
        have HCL : Hid (cntL (l.take i) + l[i].cnt ≤ cntL l ∧ l[i].cnt = 3 + cntL l[i].kids + l[i].keys.length) := ⟨hcl, hce⟩
        have HY : Hid (ys[i * 5 + 2]? = some c2 ∧ ys[i * 5 + 3]? = some (C i) ∧ ys[i * 5 + 4]? = some (U i)) := ⟨y2, y3, y4⟩
        clear hcl hce y0 y1 y2 y3 y4 hown HI hrow
        go_wp2_with fail
        have HMT : Hid (∀ w1, Calls Try.prog 76 #[.int .i64 ((m : Int) + 1 + 1)] w1 fun e w' => e = .returned (.string (markStr (m + 2))) ∧ Below w1.heap.size w1 w') := fun w1 => by
          have := markText_c (m + 2) w1 (by omega) (by omega)
          rw [show ((m + 2 : Nat) : Int) = (m : Int) + 1 + 1 by omega] at this
          exact this
        go_at_call 76
        refine (HMT.out _).mono ?_
        rintro e w1 ⟨rfl, b1⟩
        clear HMT d0 d1 fz
        have r0 := ((HO.out.stored (i * 5) (.int .i64 (m : Int))).1.stored (i * 5 + 1) (.int .i64 ((m : Int) + 1))).1
        have r1 := r0.kept (grown_of_below b1 none) (by simp [Value.ownBlock])
        have d2 : w1.cell? ⟨g, i * 5 + 2, none⟩ = some c2 := (r1.cellAt (i * 5 + 2) (by omega)).trans (by rw [List.getElem?_set_ne (by omega), List.getElem?_set_ne (by omega)]; exact HY.out.1)
        have d3 : w1.cell? ⟨g, i * 5 + 3, none⟩ = some (C i) := (r1.cellAt (i * 5 + 3) (by omega)).trans (by rw [List.getElem?_set_ne (by omega), List.getElem?_set_ne (by omega)]; exact HY.out.2.1)
        have f1 := r1.frozenAt
        have r2 := (r1.stored (i * 5 + 2) (.string (markStr (m + 2)))).1
        have OC := hinv.out.leftC i hlt (Nat.le_refl _)
        obtain ⟨qc, cc, ec⟩ := OC.slice
        obtain ⟨xu, OU, hku⟩ := hinv.out.leftU i hlt (Nat.le_refl _)
        obtain ⟨qu, cu, eu⟩ := owns_sl OU
        have hgw : g < wr.heap.size := Nat.lt_of_lt_of_le (hS g hSg) hchg.size
        obtain ⟨W2, hW2⟩ : ∃ W, W = w1.setCell ⟨g, i * 5 + 2, none⟩ (.string (markStr (m + 2))) := ⟨_, rfl⟩
        have hs0 : ((wr.setCell ⟨g, i * 5, none⟩ (.int .i64 (m : Int))).setCell ⟨g, i * 5 + 1, none⟩ (.int .i64 ((m : Int) + 1))).heap.size = wr.heap.size := by simp [World.setCell]
        have hs1 : wr.heap.size ≤ w1.heap.size := by have := b1.size; rw [hs0] at this; exact this
        have hs2 : W2.heap.size = w1.heap.size := by rw [hW2]; simp [World.setCell]
        have hK2 : ∀ R : Nat → Prop, (∀ b, R b → S b ∧ b ≠ g) → Kp R wr W2 := fun R hR => by
          rw [hW2]
          have hn : ¬ R g := fun h => (hR g h).2 rfl
          exact (((Kp.set hn).trans (Kp.set hn)).trans (Kp.of b1 (fun b hb => by rw [hs0]; exact Nat.lt_of_lt_of_le (hS b (hR b hb).1) hchg.size))).trans (Kp.set hn)
        have hC2 : Chg S wr W2 := by
          rw [hW2]
          exact (((Chg.set hSg).trans (Chg.set hSg)).trans (Chg.of b1)).trans (Chg.set hSg)
        have OC2 := OC.keep (hK2 (B i) (fun b hb => ⟨hB i b hb, fun e => (hNg i).1 (e ▸ hb)⟩))
        have OU2 := owns_kept (hK2 (K i) (fun b hb => ⟨hK i b hb, fun e => (hNg i).2 (e ▸ hb)⟩)) hku OU
        have hBs : ∀ b, B i b → b < W2.heap.size := fun b hb => by rw [hs2]; exact Nat.lt_of_lt_of_le (Nat.lt_of_lt_of_le (hS b (hB i b hb)) hchg.size) hs1
        have hKs : ∀ b, K i b → b < W2.heap.size := fun b hb => by rw [hs2]; exact Nat.lt_of_lt_of_le (Nat.lt_of_lt_of_le (hS b (hK i b hb)) hchg.size) hs1
        have hgs : g < W2.heap.size := by rw [hs2]; exact Nat.lt_of_lt_of_le hgw hs1
        have HC := ih l[i] (List.getElem_mem hlt) (B i) (C i) W2 (m + 3) OC2 hBs (by omega) (by have := HCL.out; have := hm.out; omega)
        rw [show ((m + 3 : Nat) : Int) = (m : Int) + 1 + 1 + 1 by omega] at HC
        rw [hW2] at HC
        rw [ec] at HC d3
        obtain ⟨p, hp⟩ : ∃ p, p = m + 3 + cntL l[i].kids := ⟨_, rfl⟩
        rw [← hp] at HC
        have HP := hidden hp
        have HEC := hidden ec
        have HEU := hidden eu
        have hsz : ∀ b, S b → b < W2.heap.size := fun b hb => by rw [hs2]; exact Nat.lt_of_lt_of_le (Nat.lt_of_lt_of_le (hS b hb) hchg.size) hs1
        have HC2 := hidden HC
        clear hp ec eu
        have HB1 := hidden b1
        have r2' : W2.ownsRow 0 50 5 (.slice (some ⟨g, 0, none⟩) l.length cap) l.length (put3 ys i (.int .i64 (m : Int)) (.int .i64 ((m : Int) + 1)) (.string (markStr (m + 2)))) := by rw [hW2]; exact r2
        have HK2 := hidden hK2
        have HCH2 := hidden hC2
        have HR2 := hidden r2'
        have HW2 := hidden hW2
        have HOU2 := hidden OU2
        clear HC b1 r0 r1 r2 r2' hK2 hC2 OC OC2 OU OU2 hW2 hs0 hs2
        go_wp2_with fail
        go_at_call 69
        refine HC2.out.mono ?_
        rintro e w3 ⟨rfl, MK, ch3'⟩
        have ch3 : Chg (B i) W2 w3 := by rw [HW2.out]; exact ch3'
        have r3 := owns_kept (S := fun b => b = g) (ch3.kp (fun b hb => ⟨hb ▸ hgs, hb ▸ (hNg i).1⟩)) (fun g' h => by simp [Value.ownBlock] at h; exact h.symm) HR2.out
        have d4 : w3.cell? ⟨g, i * 5 + 4, none⟩ = some (.slice qu l[i].keys.length cu) := (r3.cellAt (i * 5 + 4) (by omega)).trans (by rw [put3_other (by omega), ← HEU.out]; exact HY.out.2.2)
        have OU3 := owns_kept (ch3.kp (fun b hb => ⟨hKs b hb, fun h => hBK i i b h hb⟩)) hku HOU2.out
        have HMS := markStrs_c (U i) 0 l[i].keys.length xu p w3 OU3 (by have := HP.out; omega) (by have := HP.out; have := HCL.out; have := hm.out; omega) (by have := HCL.out; omega) (Nat.zero_le _)
        rw [HEU.out] at HMS
        have HMS2 := hidden HMS
        have HR3 := hidden r3
        have hpb : p ≤ 4294967296 := by have := HP.out; have := HCL.out; have := hm.out; omega
        have hkb : l[i].keys.length ≤ 4294967296 := by have := HCL.out; omega
        clear HMS ch3' OU3 HC2 d2 d3 f1 r3
        go_wp2_with fail
        go_at_call 68
        refine HMS2.out.mono ?_
        rintro e w4 ⟨rfl, r4u, gr4⟩
        clear HMS2 d4
        go_wp2_with fail
        rw [← HEU.out] at r4u gr4
        have ch4 := Chg.grown (S := K i) gr4 hku
        have hsz3 : ∀ b, S b → b < w3.heap.size := fun b hb => Nat.lt_of_lt_of_le (hsz b hb) ch3.size
        have r4 := owns_kept (S := fun b => b = g) (ch4.kp (fun b hb => ⟨hb ▸ hsz3 g hSg, hb ▸ (hNg i).2⟩)) (fun g' h => by simp [Value.ownBlock] at h; exact h.symm) HR3.out
        have hK4 : ∀ R : Nat → Prop, (∀ j, j ≠ i → (∀ b, R b → B j b) ∨ (∀ b, R b → K j b) → Kp R wr w4) := fun R j hj h => by
          have hR : ∀ b, R b → S b ∧ b ≠ g ∧ ¬ B i b ∧ ¬ K i b := by
            intro b hb
            rcases h with h | h
            · exact ⟨hB j b (h b hb), fun e => (hNg j).1 (e ▸ h b hb), fun k => hBB j i b hj (h b hb) k, fun k => hBK j i b (h b hb) k⟩
            · exact ⟨hK j b (h b hb), fun e => (hNg j).2 (e ▸ h b hb), fun k => hBK i j b k (h b hb), fun k => hKK j i b hj (h b hb) k⟩
          exact ((HK2.out R (fun b hb => ⟨(hR b hb).1, (hR b hb).2.1⟩)).trans (ch3.kp (fun b hb => ⟨hsz b (hR b hb).1, (hR b hb).2.2.1⟩))).trans (ch4.kp (fun b hb => ⟨hsz3 b (hR b hb).1, (hR b hb).2.2.2⟩))
        have MK4 : MarkL w4 (B i) (m + 3) (C i) l[i].kids := by
          rw [HEC.out]
          exact MK.keep (ch4.kp (fun b hb => ⟨hsz3 b (hB i b hb), hBK i i b hb⟩))
        have RU4 : RdB (K i) w4 (U i) (strsV (marksS (m + 3 + cntL l[i].kids) l[i].keys.length)) := by
          rw [← HP.out]; exact rdB_in r4u hku
        have INV := hinv.out.step hlt hm.out (by omega) hK4 MK4 RU4
        have CHG := hchg.trans (HCH2.out.trans ((ch3.mono (hB i)).trans (ch4.mono (hK i))))
        have HPM : p + l[i].keys.length = k + cntL (l.take (i + 1)) := by rw [cntL_take l i hlt, HP.out, hm.out]; have := HCL.out.2; omega
        go_roundw
        case rel => exact ⟨i + 1, p + l[i].keys.length, _, by omega, by go_num, by simp, HPM, r4, INV, CHG⟩
        case measure => simp [intOf]; omega
      · have he : i = l.length := by omega
        subst he
        have hmm : m = k + cntL l := by have := hm.out; rw [List.take_length] at this; exact this
        have HML : Hid (MarkL wr S k (.slice (some ⟨g, 0, none⟩) l.length cap) l) := .mk k _ l ys C U hown (fun g' h => by simp [Value.ownBlock] at h; exact h ▸ hSg) (fun i hi => by obtain ⟨a, b, c⟩ := hinv.out.done i hi hi; obtain ⟨d, e⟩ := hinv.out.at34 i hi; exact ⟨a, b, c, d, e⟩) (fun i h => (hinv.out.doneC i h h).mono (hB i)) (fun i h => (hinv.out.doneU i h h).mono (hK i))
        have HMM := hidden hmm
        clear hown hinv hmm HI hrow
        go_wp2_with fail
        go_ret
        exact ⟨by rw [← HMM.out]; rfl, HML.out, hchg⟩
theorem markValS_all : ∀ T : Tree, MarkC T.kids := by
  refine Tree.ind (fun k n s l ks ih => ?_)
  exact markValS_step l ih
theorem markValS_c (l : List Tree) : MarkC l := markValS_step l (fun U _ => markValS_all U)
end Go.Proofs.Ytiadcebolcdhbaa

/-! Entries that lie in memory: what they are: no condition. -/
namespace Go.Proofs.Ytiadcebolcdhbaa
open Go.RowKit
set_option linter.unusedSimpArgs false
set_option linter.unusedVariables false

structure EntryD where
  name : ByteArray
  vA : Int
  vB : Int
  vC : Int
  vP : List ByteArray
  needs : List NeedD
def wtEntry (d : EntryD) : Nat := d.name.size + bulkS d.vP + wtRow wtNeed d.needs
def shEntry : Sh EntryD where
  n := 6
  lies S w cs d := ∃ u0 u1, cs = [.string d.name, .int .i64 d.vA, .int .i64 d.vB, .int .i64 d.vC, u0, u1] ∧ d.name.size ≤ maxLen ∧ RdB S w u0 (strsV d.vP) ∧ saneP d.vP ∧ RowIn shNeed S w u1 d.needs
  keep hk h := by obtain ⟨u0, u1, h0, h1, h2, h3, h4⟩ := h; exact ⟨u0, u1, h0, h1, h2.keep hk, h3, h4.keep hk⟩
  mono hS h := by obtain ⟨u0, u1, h0, h1, h2, h3, h4⟩ := h; exact ⟨u0, u1, h0, h1, h2.mono hS, h3, h4.mono hS⟩
def shEntryO : Sh EntryD where
  n := 6
  lies S w cs d := ∃ u0 u1, cs = [.string d.name, .int .i64 d.vA, .int .i64 d.vB, .int .i64 d.vC, u0, u1] ∧ d.name.size ≤ maxLen ∧ StrsOwn S w u0 d.vP ∧ saneP d.vP ∧ RowOwn shNeed 154 S w u1 d.needs
  keep hk h := by obtain ⟨u0, u1, h0, h1, h2, h3, h4⟩ := h; exact ⟨u0, u1, h0, h1, h2.keep hk, h3, h4.keep hk⟩
  mono hS h := by obtain ⟨u0, u1, h0, h1, h2, h3, h4⟩ := h; exact ⟨u0, u1, h0, h1, h2.mono hS, h3, h4.mono hS⟩
theorem liesEntry_plain {S : Nat → Prop} {w : World} {cs : List Value} {d : EntryD} (h : shEntryO.lies S w cs d) : shEntry.lies S w cs d := by
  obtain ⟨u0, u1, e0, s_name, r0, p0, r1⟩ := h
  exact ⟨u0, u1, e0, s_name, r0.plain, p0, r1.plain⟩
end Go.Proofs.Ytiadcebolcdhbaa

/-! Copies in memory of their own, as the law makes them: contracts for the walks; condition: what is copied holds at most 2 to the 20. -/
namespace Go.Proofs.Ytiadcebolcdhbaa
open Go.RowKit
set_option linter.unusedSimpArgs false
set_option linter.unusedVariables false

end Go.Proofs.Ytiadcebolcdhbaa

/-! Copies of versions, needs and entries, as the program makes them: contracts for the walks; conditions: they lie in memory, and hold at most 2 to the 20. -/
namespace Go.Proofs.Ytiadcebolcdhbaa
open Go.RowKit
set_option linter.unusedSimpArgs false
set_option linter.unusedVariables false

/-- A block of another type than a row's is not the row's. -/
theorem row_box {w : World} {lo sz n g : Nat} {e t : TypeId} {v : Value} {xs : List Value} {cs : Array Value} {fz : Nat × Nat} (h : w.ownsRow lo e sz v n xs) (hb : w.heap[g]? = some (.cells cs t fz)) (hne : e ≠ t) : v.ownBlock ≠ some g := fun he => by
  rcases h.2 with ⟨rfl, _⟩ | ⟨g', cap, cur, rfl, _, hg, _⟩
  · simp [Value.ownBlock] at he
  · simp [Value.ownBlock] at he
    subst he
    rw [hg] at hb
    simp at hb
    exact hne hb.2.1
theorem box_grown {w w' : World} {row : Option Nat} {g : Nat} {o : Obj} (hb : w.heap[g]? = some o) (hg : w.grownBy w' row) (hne : row ≠ some g) : w'.heap[g]? = some o :=
  (hg.block g (Array.getElem?_eq_some_iff.1 hb).1 (fun e => hne e.symm)).trans hb
theorem box_below {w w' : World} {g : Nat} {o : Obj} (hb : w.heap[g]? = some o) (h : Below w.heap.size w w') : w'.heap[g]? = some o :=
  (h.block g (Array.getElem?_eq_some_iff.1 hb).1).trans hb
theorem row_put {w : World} {lo sz n g j : Nat} {e t : TypeId} {v x : Value} {xs : List Value} {cs : Array Value} {fz : Nat × Nat} (h : w.ownsRow lo e sz v n xs) (hb : w.heap[g]? = some (.cells cs t fz)) (hne : e ≠ t) : (w.setCell ⟨g, j, none⟩ x).ownsRow lo e sz v n xs :=
  owns_kept (S := fun b => b ≠ g) (Kp.set (by simp)) (fun b hb' => by rintro rfl; exact row_box h hb hne hb') h
theorem List.single_le_sum_natC {ss : List ByteArray} {t : ByteArray} (h : t ∈ ss) : t.size ≤ (ss.map ByteArray.size).sum := by
  induction ss with
  | nil => simp at h
  | cons a l ih =>
    simp only [List.map_cons, List.sum_cons]
    rcases List.mem_cons.1 h with rfl | h
    · omega
    · have := ih h; omega
theorem two_boxes {w : World} (A R : Obj) : ((w.alloc A).alloc R).heap[w.heap.size]? = some A ∧ ((w.alloc A).alloc R).heap[w.heap.size + 1]? = some R := by
  have s1 : (w.alloc A).heap.size = w.heap.size + 1 := by simp
  refine ⟨?_, ?_⟩
  · rw [vheap_old _ _ (by simp), vheap_new]
  · rw [← s1, vheap_new]

end Go.Proofs.Ytiadcebolcdhbaa

/-! Copies of needs and entries, as the program makes them: contracts for the walks; conditions: they lie in memory, and hold at most 2 to the 20. -/
namespace Go.Proofs.Ytiadcebolcdhbaa
open Go.RowKit
set_option linter.unusedSimpArgs false
set_option linter.unusedVariables false

/-- The cells of needs. -/
def needsV (xs : List NeedD) : List Value := xs.flatMap fun d => [.string d.n, .string d.r]
theorem needsV_length (xs : List NeedD) : (needsV xs).length = xs.length * 2 := by
  induction xs with
  | nil => rfl
  | cons d l ih => simp only [needsV, List.flatMap_cons, List.length_append, List.length_cons, List.length_nil] at *; omega
theorem needsV_append (xs ys : List NeedD) : needsV xs ++ needsV ys = needsV (xs ++ ys) := by simp [needsV]
theorem needsV_take (xs : List NeedD) (k : Nat) (h : k < xs.length) : needsV (xs.take k) ++ [.string xs[k].n, .string xs[k].r] = needsV (xs.take (k + 1)) := by
  rw [List.take_succ_eq_append_getElem h, ← needsV_append]; rfl
theorem needsV_at (xs : List NeedD) : ∀ i (h : i < xs.length), (needsV xs)[i * 2]? = some (.string xs[i].n) ∧ (needsV xs)[i * 2 + 1]? = some (.string xs[i].r) := by
  induction xs with
  | nil => intro i h; simp at h
  | cons d l ih =>
    intro i h
    have e : needsV (d :: l) = [.string d.n, .string d.r] ++ needsV l := by simp [needsV]
    cases i with
    | zero => rw [e]; simp
    | succ i =>
      have h' := ih i (by simpa using h)
      rw [e, List.getElem?_append_right (by simp; omega), List.getElem?_append_right (by simp; omega)]
      simp only [List.length_cons, List.length_nil]
      rw [show (i + 1) * 2 - (0 + 1 + 1) = i * 2 by omega, show (i + 1) * 2 + 1 - (0 + 1 + 1) = i * 2 + 1 by omega]
      simpa using h'
theorem needs_own {w : World} {lo : Nat} {v : Value} {xs : List NeedD} (h : w.ownsRow lo 154 2 v xs.length (needsV xs)) (hl : xs.length ≤ maxLen) (hs : ∀ d ∈ xs, d.n.size ≤ maxLen ∧ d.r.size ≤ maxLen) : RowOwn shNeed 154 (Ow lo w.heap.size) w v xs := by
  refine ⟨hl, needsV xs, owns_lo (Nat.zero_le _) h, owns_in h, fun i hi _ => ⟨[.string xs[i].n, .string xs[i].r], rfl, ⟨rfl, hs _ (List.getElem_mem hi)⟩, fun j hj => ?_⟩⟩
  obtain ⟨h1, h2⟩ := needsV_at xs i hi
  match j, hj with
  | 0, _ => exact h1
  | 1, _ => exact h2

theorem owns_of_belowN {w w' : World} {lo sz n : Nat} {e : TypeId} {v : Value} {xs : List Value} (h : w.ownsRow lo e sz v n xs) (hb : Below w.heap.size w w') : w'.ownsRow lo e sz v n xs := h.kept (grown_of_below hb none) (by cases hq : v.ownBlock <;> simp)
theorem cells_put {w : World} {N M : Nat} {o : Obj} (h : w.heap[N]? = some o) (hne : N ≠ M) (j : Nat) (v : Value) : (w.setCell ⟨M, j, none⟩ v).heap[N]? = some o := (Below.heap_setCell w ⟨M, j, none⟩ v N (by simpa using hne)).trans h
theorem two_src (w : World) (c0 c1 : Value) : ∀ j u, ([c0, c1] : List Value)[j]? = some u → (w.alloc (.cells #[c0, c1] 154)).cell? ((⟨w.heap.size, 0, none⟩ : Addr).add j) = some u := fun j u hu => by
  have e : ((⟨w.heap.size, 0, none⟩ : Addr).add j) = ⟨w.heap.size, j, none⟩ := by unfold Addr.add; split <;> simp_all
  rw [e, vblk_cell (vheap_new _ _) j]
  simpa using hu

end Go.Proofs.Ytiadcebolcdhbaa

/-! A list of texts in blocks of its own, and what a walk leaves of it: laws for the walks; no condition. -/
namespace Go.Proofs.Ytiadcebolcdhbaa
open Go.RowKit
set_option linter.unusedSimpArgs false
set_option linter.unusedVariables false

/-- A list of texts in blocks from lo up to hi. -/
def StrR (lo hi : Nat) (W : World) (u : Value) (ss : List ByteArray) : Prop := StrsOwn (Ow lo hi) W u ss ∧ hi ≤ W.heap.size
theorem StrR.chg {lo hi : Nat} {W W' : World} {u : Value} {ss : List ByteArray} {S : Nat → Prop} (h : StrR lo hi W u ss) (k : Chg S W W') (n : ∀ b, Ow lo hi b → ¬ S b) : StrR lo hi W' u ss :=
  ⟨h.1.keep (fun b hb => k.block b (Nat.lt_of_lt_of_le hb.2 h.2) (n b hb)), Nat.le_trans h.2 k.size⟩
theorem StrR.below {lo hi : Nat} {W W' : World} {u : Value} {ss : List ByteArray} (h : StrR lo hi W u ss) (k : Below W.heap.size W W') : StrR lo hi W' u ss := h.chg (Chg.of (S := fun _ => False) k) (fun _ _ => id)
theorem strR_of {lo : Nat} {W : World} {u : Value} {ss : List ByteArray} (h : W.ownsRow lo 9 1 u ss.length (strsV ss)) : StrR lo W.heap.size W u ss := ⟨⟨owns_lo (Nat.zero_le _) h, fun g hg => owns_in h g hg⟩, Nat.le_refl _⟩
theorem below_chgW {B : Nat} {S : Nat → Prop} {w W W' : World} (h : Below B w W) (k : Chg S W W') (hs : ∀ b, S b → B ≤ b) (hB : B ≤ W.heap.size) : Below B w W' :=
  ⟨k.os.trans h.os, k.tape.trans h.tape, k.output.trans h.output, Nat.le_trans h.size k.size, fun b hb => (k.block b (Nat.lt_of_lt_of_le hb hB) (fun hS => by have := hs b hS; omega)).trans (h.block b hb)⟩
end Go.Proofs.Ytiadcebolcdhbaa

/-! Copies of packs, and of rows of them, in memory of their own, as the law makes them: contracts for the walks; condition: what is copied holds at most 2 to the 20. -/
namespace Go.Proofs.Ytiadcebolcdhbaa
open Go.RowKit
set_option linter.unusedSimpArgs false
set_option linter.unusedVariables false

set_option maxHeartbeats 2000000 in
set_option maxRecDepth 100000 in
theorem infoPack : (Try.prog.info? 33).map (fun i => (i.zero, i.size, i.bytes)) = some (some (.agg #[.string ⟨#[]⟩, .slice none 0 0, .slice none 0 0, .slice none 0 0]), 4, 88) := by kernel_rfl
end Go.Proofs.Ytiadcebolcdhbaa

/-! Marks put into a pack that may be written, as the law puts them: contracts for the walks; conditions: its rows lie in memory and may be written, and there are at most 2 to the 32 marks. -/
namespace Go.Proofs.Ytiadcebolcdhbaa
open Go.RowKit
set_option linter.unusedSimpArgs false
set_option linter.unusedVariables false

/-- A row that may be written stays one where another row is written over, be it the same. -/
theorem owns_over {w w' : World} {lo lo' sz n n' : Nat} {e : TypeId} {v v' : Value} {xs xs' ys : List Value} (h : w.ownsRow lo e sz v n xs) (h0 : w.ownsRow lo' e sz v' n' xs') (h1 : w'.ownsRow lo' e sz v' n' ys) (hg : w.grownBy w' v'.ownBlock) (hs : 0 < sz) : ∃ zs, w'.ownsRow lo e sz v n zs := by
  by_cases hne : v.ownBlock = none ∨ v.ownBlock ≠ v'.ownBlock
  · exact ⟨xs, h.kept hg hne⟩
  · have he : v.ownBlock = v'.ownBlock := by
      by_cases k : v.ownBlock = v'.ownBlock
      · exact k
      · exact absurd (.inr k) hne
    have hn : v.ownBlock ≠ none := fun k => hne (.inl k)
    rcases h.2 with ⟨rfl, _⟩ | ⟨g, cap, cur, rfl, hlo, hgb, hc, hm, hz, ht⟩
    · exact absurd rfl hn
    rcases h0.2 with ⟨rfl, _⟩ | ⟨g0, cap0, cur0, rfl, _, hgb0, hc0, hm0, hz0, _⟩
    · exact absurd he (by simp [Value.ownBlock])
    simp [Value.ownBlock] at he
    subst he
    rcases h1.2 with ⟨hx, _⟩ | ⟨g1, cap1, cur1, hx, _, hgb1, hc1, hm1, hz1, _⟩
    · simp at hx
    · simp only [Value.slice.injEq, Option.some.injEq, Addr.mk.injEq, and_true, true_and] at hx
      obtain ⟨rfl, rfl⟩ := hx
      rw [hgb] at hgb0
      have hcur : cur = cur0 := by simpa using hgb0
      subst hcur
      have hcap : cap = cap0 := by
        have : cap * sz = cap0 * sz := by omega
        exact Nat.eq_of_mul_eq_mul_right hs this
      subst hcap
      refine ⟨cur1.toList.take (n * sz), ?_, .inr ⟨g, cap, cur1, rfl, hlo, hgb1, hc, hm, hz1, rfl⟩⟩
      have hle : n * sz ≤ cap * sz := Nat.mul_le_mul_right _ hc
      rw [List.length_take, Array.length_toList, hz1]
      exact Nat.min_eq_left hle

/-- The rows of a row of commands: each may be written. -/
def CmdRows (w : World) (S : Nat → Prop) (ys : List Value) (ns : List Nat) : Prop := ∀ i (h : i < ns.length), ∃ u xs, ys[i * 2 + 1]? = some u ∧ w.ownsRow 0 9 1 u ns[i] xs ∧ ∀ g, u.ownBlock = some g → S g
theorem CmdRows.set0 {w : World} {S : Nat → Prop} {ys : List Value} {ns : List Nat} (h : CmdRows w S ys ns) (i : Nat) (v : Value) : CmdRows w S (ys.set (i * 2) v) ns := fun j hj => by
  obtain ⟨u, xs, h1, h2, h3⟩ := h j hj
  exact ⟨u, xs, by rw [List.getElem?_set_ne (by omega)]; exact h1, h2, h3⟩
theorem CmdRows.below {w w' : World} {S : Nat → Prop} {ys : List Value} {ns : List Nat} (h : CmdRows w S ys ns) (hb : Below w.heap.size w w') : CmdRows w' S ys ns := fun j hj => by
  obtain ⟨u, xs, h1, h2, h3⟩ := h j hj
  exact ⟨u, xs, h1, owns_kept (S := fun b => b < w.heap.size) (.of hb (fun b h => h)) (fun g h => (owns_in h2 g h).2) h2, h3⟩
/-- A store into a row of commands touches no row of texts. -/
theorem CmdRows.store {w : World} {S : Nat → Prop} {ys : List Value} {ns : List Nat} {g j n cap : Nat} {zs : List Value} {x : Value} (h : CmdRows w S ys ns) (hg : w.ownsRow 0 141 2 (.slice (some ⟨g, 0, none⟩) n cap) n zs) : CmdRows (w.setCell ⟨g, j, none⟩ x) S ys ns := fun i hi => by
  obtain ⟨u, xs, h1, h2, h3⟩ := h i hi
  refine ⟨u, xs, h1, owns_kept (S := fun b => b ≠ g) (Kp.set (fun k => k rfl)) (fun g' hg' => ?_) h2, h3⟩
  rintro rfl
  rcases h2.2 with ⟨rfl, _⟩ | ⟨g2, c2, cur2, rfl, _, hb2, _⟩
  · simp [Value.ownBlock] at hg'
  · simp [Value.ownBlock] at hg'
    subst hg'
    rcases hg.2 with ⟨hx, _⟩ | ⟨g3, c3, cur3, hx, _, hb3, _⟩
    · simp at hx
    · simp only [Value.slice.injEq, Option.some.injEq, Addr.mk.injEq, and_true, true_and] at hx
      obtain ⟨rfl, rfl⟩ := hx
      rw [hb2] at hb3
      simp at hb3

theorem owns_apart {w : World} {lo lo' sz sz' n n' : Nat} {e e' : TypeId} {v v' : Value} {xs xs' : List Value} (h : w.ownsRow lo e sz v n xs) (h' : w.ownsRow lo' e' sz' v' n' xs') (hne : e ≠ e') : v.ownBlock = none ∨ v.ownBlock ≠ v'.ownBlock := by
  rcases h.2 with ⟨rfl, _⟩ | ⟨g, c, cur, rfl, _, hb, _⟩
  · exact .inl rfl
  · right
    intro k
    rcases h'.2 with ⟨rfl, _⟩ | ⟨g', c', cur', rfl, _, hb', _⟩
    · simp [Value.ownBlock] at k
    · simp [Value.ownBlock] at k
      subst k
      rw [hb] at hb'
      simp at hb'
      exact hne hb'.2
theorem cmdRows_of {S : Nat → Prop} {w : World} {ys : List Value} {xs : List CmdD} (h : Laid shCmdO S w ys xs xs.length) : CmdRows w S ys (xs.map fun c => c.acts.length) := fun i hi => by
  have hi' : i < xs.length := by simpa using hi
  obtain ⟨cs, h1, ⟨u, rfl, _, h2, _⟩, h3⟩ := h i hi' hi'
  exact ⟨u, _, h3 1 (by simp), by simpa using h2.1, h2.2⟩
theorem cmds_sum (xs : List CmdD) : (xs.map fun c => c.acts.length).length + (xs.map fun c => c.acts.length).sum ≤ wtRow wtCmd xs := by
  induction xs with
  | nil => simp [wtRow]
  | cons x xs ih =>
    have e : wtRow wtCmd (x :: xs) = (1 + wtCmd x) + wtRow wtCmd xs := by simp [wtRow]
    rw [e]
    simp only [List.map_cons, List.length_cons, List.sum_cons]
    have : x.acts.length ≤ wtCmd x := by unfold wtCmd bulkS; omega
    omega

end Go.Proofs.Ytiadcebolcdhbaa

/-! Marks put into rows of needs, and found again, as the law does it: contracts for the walks; conditions: the rows lie in memory, may be written, and there are at most 2 to the 32 marks. -/
namespace Go.Proofs.Ytiadcebolcdhbaa
open Go.RowKit
set_option linter.unusedSimpArgs false
set_option linter.unusedVariables false

end Go.Proofs.Ytiadcebolcdhbaa

/-! Marks put into rows of packs, as the law puts them: a contract for the walks; conditions: the rows lie in memory, may be written, and there are at most 2 to the 32 marks. -/
namespace Go.Proofs.Ytiadcebolcdhbaa
open Go.RowKit
set_option linter.unusedSimpArgs false
set_option linter.unusedVariables false

/-- What stays where marks are put into texts, and into rows of commands. -/
structure InvC (I : World → Prop) : Prop where
  below : ∀ w w', I w → Below w.heap.size w w' → I w'
  cmd : ∀ w g i n cap zs x, I w → w.ownsRow 0 141 2 (.slice (some ⟨g, 0, none⟩) n cap) n zs → I (w.setCell ⟨g, i * 2, none⟩ (.string x))
  strs : ∀ w w' u n z z', I w → w.ownsRow 0 9 1 u n z → w'.ownsRow 0 9 1 u n z' → w.grownBy w' u.ownBlock → I w'

theorem own_putP {w : World} {lo lo' sz sz' n n' g j cap : Nat} {e e' : TypeId} {u x : Value} {zs ys : List Value} (h : w.ownsRow lo e sz u n zs) (hg : w.ownsRow lo' e' sz' (.slice (some ⟨g, 0, none⟩) n' cap) n' ys) (hne : e ≠ e') : (w.setCell ⟨g, j, none⟩ x).ownsRow lo e sz u n zs := by
  refine owns_kept (S := fun b => b ≠ g) (Kp.set (fun k => k rfl)) (fun g' hg' => ?_) h
  rintro rfl
  rcases owns_apart h hg hne with k | k
  · rw [k] at hg'; cases hg'
  · exact k (by rw [hg']; rfl)
theorem owns_setAny {w : World} {lo sz n : Nat} {e : TypeId} {u : Value} {zs : List Value} (h : w.ownsRow lo e sz u n zs) (g j : Nat) (x : Value) : ∃ zs', (w.setCell ⟨g, j, none⟩ x).ownsRow lo e sz u n zs' ∧ (zs' = zs ∨ zs' = zs.set j x) := by
  by_cases hg : u.ownBlock = some g
  · rcases id h.2 with ⟨rfl, _⟩ | ⟨g2, c2, cur2, rfl, _⟩
    · simp [Value.ownBlock] at hg
    · simp [Value.ownBlock] at hg
      subst hg
      exact ⟨_, (h.stored j x).1, .inr rfl⟩
  · exact ⟨zs, owns_kept (S := fun b => b ≠ g) (Kp.set (fun k => k rfl)) (fun g' hg' => by rintro rfl; exact hg hg') h, .inl rfl⟩
theorem CmdRows.put {w : World} {S : Nat → Prop} {ys : List Value} {ns : List Nat} {lo' sz' n' g j cap : Nat} {e' : TypeId} {zs : List Value} {x : Value} (h : CmdRows w S ys ns) (hg : w.ownsRow lo' e' sz' (.slice (some ⟨g, 0, none⟩) n' cap) n' zs) (hne : 9 ≠ e') : CmdRows (w.setCell ⟨g, j, none⟩ x) S ys ns := fun i hi => by
  obtain ⟨u, xs, h1, h2, h3⟩ := h i hi
  exact ⟨u, xs, h1, own_putP h2 hg hne, h3⟩
theorem CmdRows.overS {w w' : World} {S : Nat → Prop} {ys : List Value} {ns : List Nat} {u : Value} {n : Nat} {z z' : List Value} (h : CmdRows w S ys ns) (h0 : w.ownsRow 0 9 1 u n z) (h1 : w'.ownsRow 0 9 1 u n z') (hg : w.grownBy w' u.ownBlock) : CmdRows w' S ys ns := fun i hi => by
  obtain ⟨u', xs', a1, a2, a3⟩ := h i hi
  obtain ⟨zs', a4⟩ := owns_over a2 h0 h1 hg (by omega)
  exact ⟨u', zs', a1, a4, a3⟩
theorem CmdRows.overN {w w' : World} {S : Nat → Prop} {ys : List Value} {ns : List Nat} {u : Value} {n : Nat} {z : List Value} (h : CmdRows w S ys ns) (h0 : w.ownsRow 0 154 2 u n z) (hg : w.grownBy w' u.ownBlock) : CmdRows w' S ys ns := fun i hi => by
  obtain ⟨u', xs', a1, a2, a3⟩ := h i hi
  exact ⟨u', xs', a1, a2.kept hg (owns_apart a2 h0 (by decide)), a3⟩
/-- The rows of a row of packs: each may be written. -/
def PackRows (w : World) (S : Nat → Prop) (ys : List Value) (xs : List PackD) : Prop := ∀ i (h : i < xs.length), ∃ u0 u1 u2 z0 z1 z2, ys[i * 4 + 1]? = some u0 ∧ ys[i * 4 + 2]? = some u1 ∧ ys[i * 4 + 3]? = some u2 ∧ w.ownsRow 0 9 1 u0 xs[i].uses.length z0 ∧ (∀ g, u0.ownBlock = some g → S g) ∧ w.ownsRow 0 154 2 u1 xs[i].needs.length z1 ∧ (∀ g, u1.ownBlock = some g → S g) ∧ w.ownsRow 0 141 2 u2 xs[i].cmds.length z2 ∧ (∀ g, u2.ownBlock = some g → S g) ∧ CmdRows w S z2 (xs[i].cmds.map fun c => c.acts.length)
theorem PackRows.set {w : World} {S : Nat → Prop} {ys : List Value} {xs : List PackD} (h : PackRows w S ys xs) (i : Nat) (v : Value) : PackRows w S (ys.set (i * 4) v) xs := fun j hj => by
  obtain ⟨u0, u1, u2, z0, z1, z2, h1, h2, h3, h4⟩ := h j hj
  exact ⟨u0, u1, u2, z0, z1, z2, by rw [List.getElem?_set_ne (by omega)]; exact h1, by rw [List.getElem?_set_ne (by omega)]; exact h2, by rw [List.getElem?_set_ne (by omega)]; exact h3, h4⟩
theorem owns_belowP {w w' : World} {lo sz n : Nat} {e : TypeId} {u : Value} {zs : List Value} (h : w.ownsRow lo e sz u n zs) (hb : Below w.heap.size w w') : w'.ownsRow lo e sz u n zs := owns_kept (S := fun b => b < w.heap.size) (.of hb (fun b h => h)) (fun g hg => (owns_in h g hg).2) h
theorem PackRows.below {w w' : World} {S : Nat → Prop} {ys : List Value} {xs : List PackD} (h : PackRows w S ys xs) (hb : Below w.heap.size w w') : PackRows w' S ys xs := fun j hj => by
  obtain ⟨u0, u1, u2, z0, z1, z2, h1, h2, h3, a0, i0, a1, i1, a2, i2, c⟩ := h j hj
  exact ⟨u0, u1, u2, z0, z1, z2, h1, h2, h3, owns_belowP a0 hb, i0, owns_belowP a1 hb, i1, owns_belowP a2 hb, i2, c.below hb⟩
theorem PackRows.store {w : World} {S : Nat → Prop} {ys : List Value} {xs : List PackD} {g j n cap : Nat} {zs : List Value} {x : Value} (h : PackRows w S ys xs) (hg : w.ownsRow 0 33 4 (.slice (some ⟨g, 0, none⟩) n cap) n zs) : PackRows (w.setCell ⟨g, j, none⟩ x) S ys xs := fun i hi => by
  obtain ⟨u0, u1, u2, z0, z1, z2, h1, h2, h3, a0, i0, a1, i1, a2, i2, c⟩ := h i hi
  exact ⟨u0, u1, u2, z0, z1, z2, h1, h2, h3, own_putP a0 hg (by decide), i0, own_putP a1 hg (by decide), i1, own_putP a2 hg (by decide), i2, c.put hg (by decide)⟩
theorem PackRows.cmd {w : World} {S : Nat → Prop} {ys : List Value} {xs : List PackD} {g i n cap : Nat} {zs : List Value} {x : ByteArray} (h : PackRows w S ys xs) (hg : w.ownsRow 0 141 2 (.slice (some ⟨g, 0, none⟩) n cap) n zs) : PackRows (w.setCell ⟨g, i * 2, none⟩ (.string x)) S ys xs := fun j hj => by
  obtain ⟨u0, u1, u2, z0, z1, z2, h1, h2, h3, a0, i0, a1, i1, a2, i2, c⟩ := h j hj
  obtain ⟨z3, a3, hz⟩ := owns_setAny a2 g (i * 2) (.string x)
  refine ⟨u0, u1, u2, z0, z1, z3, h1, h2, h3, own_putP a0 hg (by decide), i0, own_putP a1 hg (by decide), i1, a3, i2, ?_⟩
  rcases hz with rfl | rfl
  · exact c.store hg
  · exact (c.store hg).set0 i _
theorem PackRows.overS {w w' : World} {S : Nat → Prop} {ys : List Value} {xs : List PackD} {u : Value} {n : Nat} {z z' : List Value} (h : PackRows w S ys xs) (h0 : w.ownsRow 0 9 1 u n z) (h1 : w'.ownsRow 0 9 1 u n z') (hg : w.grownBy w' u.ownBlock) : PackRows w' S ys xs := fun i hi => by
  obtain ⟨u0, u1, u2, z0, z1, z2, e1, e2, e3, a0, i0, a1, i1, a2, i2, c⟩ := h i hi
  obtain ⟨z9, a9⟩ := owns_over a0 h0 h1 hg (by omega)
  exact ⟨u0, u1, u2, z9, z1, z2, e1, e2, e3, a9, i0, a1.kept hg (owns_apart a1 h0 (by decide)), i1, a2.kept hg (owns_apart a2 h0 (by decide)), i2, c.overS h0 h1 hg⟩
theorem PackRows.overN {w w' : World} {S : Nat → Prop} {ys : List Value} {xs : List PackD} {u : Value} {n : Nat} {z z' : List Value} (h : PackRows w S ys xs) (h0 : w.ownsRow 0 154 2 u n z) (h1 : w'.ownsRow 0 154 2 u n z') (hg : w.grownBy w' u.ownBlock) : PackRows w' S ys xs := fun i hi => by
  obtain ⟨u0, u1, u2, z0, z1, z2, e1, e2, e3, a0, i0, a1, i1, a2, i2, c⟩ := h i hi
  obtain ⟨z9, a9⟩ := owns_over a1 h0 h1 hg (by omega)
  exact ⟨u0, u1, u2, z0, z9, z2, e1, e2, e3, a0.kept hg (owns_apart a0 h0 (by decide)), i0, a9, i1, a2.kept hg (owns_apart a2 h0 (by decide)), i2, c.overN h0 hg⟩
theorem packRows_of {S : Nat → Prop} {w : World} {ys : List Value} {xs : List PackD} (h : Laid shPackO S w ys xs xs.length) : PackRows w S ys xs := fun i hi => by
  obtain ⟨cs, h1, ⟨u0, u1, u2, rfl, _, r0, _, r1, r2⟩, h4⟩ := h i hi hi
  obtain ⟨_, y1, o1, in1, _⟩ := r1
  obtain ⟨_, y2, o2, in2, la2⟩ := r2
  exact ⟨u0, u1, u2, _, _, _, h4 1 (by simp), h4 2 (by simp), h4 3 (by simp), r0.1, r0.2, o1, in1, o2, in2, cmdRows_of la2⟩
/-- A row of packs, and the rows in it. -/
def InPack (S : Nat → Prop) (v : Value) (ys : List Value) (xs : List PackD) (w : World) : Prop := w.ownsRow 0 33 4 v xs.length ys ∧ PackRows w S ys xs
theorem inPack_inv (S : Nat → Prop) (v : Value) (ys : List Value) (xs : List PackD) : InvC (InPack S v ys xs) where
  below w w' h hb := ⟨owns_belowP h.1 hb, h.2.below hb⟩
  cmd w g i n cap zs x h hg := ⟨own_putP h.1 hg (by decide), h.2.cmd hg⟩
  strs w w' u n z z' h h0 h1 hg := ⟨h.1.kept hg (owns_apart h.1 h0 (by decide)), h.2.overS h0 h1 hg⟩
def cntK (d : PackD) : Nat := 1 + d.uses.length + d.needs.length * 2 + ((d.cmds.map fun c => c.acts.length).length + (d.cmds.map fun c => c.acts.length).sum)
def cntKs (xs : List PackD) : Nat := (xs.map cntK).sum
theorem cntKs_take (xs : List PackD) (i : Nat) (h : i < xs.length) : cntKs (xs.take (i + 1)) = cntKs (xs.take i) + cntK xs[i] := by
  unfold cntKs
  rw [List.take_succ_eq_append_getElem h, List.map_append, List.sum_append]; simp
theorem cntKs_le (xs : List PackD) (i : Nat) : cntKs (xs.take i) ≤ cntKs xs := by
  unfold cntKs
  conv => rhs; rw [← List.take_append_drop i xs, List.map_append, List.sum_append]
  omega
theorem cntK_wt (d : PackD) : cntK d ≤ 4 * (1 + wtPack d) := by
  have h1 := len_wtRow wtNeed d.needs
  have h2 := cmds_sum d.cmds
  unfold cntK wtPack bulkS
  omega
theorem cntKs_wt : ∀ xs : List PackD, cntKs xs ≤ 4 * wtRow wtPack xs
  | [] => by simp [cntKs]
  | d :: xs => by
    have h1 := cntKs_wt xs
    have h2 := cntK_wt d
    have e1 : cntKs (d :: xs) = cntK d + cntKs xs := by simp [cntKs]
    have e2 : wtRow wtPack (d :: xs) = (1 + wtPack d) + wtRow wtPack xs := by simp [wtRow]
    omega

end Go.Proofs.Ytiadcebolcdhbaa

/-! Marks put into rows of rules, as the law puts them: a contract for the walks; conditions: the rows lie in memory, may be written, and there are at most 2 to the 32 marks. -/
namespace Go.Proofs.Ytiadcebolcdhbaa
open Go.RowKit
set_option linter.unusedSimpArgs false
set_option linter.unusedVariables false

def lenR (d : RuleD) (r : Nat) : Nat := if r = 1 then d.on.length else if r = 2 then d.ins.length else d.envs.length
/-- The rows of a row of rules: each may be written. -/
def RuleRows (w : World) (S : Nat → Prop) (ys : List Value) (xs : List RuleD) : Prop := ∀ i (h : i < xs.length) r, 1 ≤ r → r ≤ 3 → ∃ u z, ys[i * 5 + r]? = some u ∧ w.ownsRow 0 9 1 u (lenR xs[i] r) z ∧ (∀ g, u.ownBlock = some g → S g)
theorem RuleRows.set {w : World} {S : Nat → Prop} {ys : List Value} {xs : List RuleD} (h : RuleRows w S ys xs) (i r : Nat) (hr : r = 0 ∨ r = 4) (v : Value) : RuleRows w S (ys.set (i * 5 + r) v) xs := fun j hj r' h1 h3 => by
  obtain ⟨u0, z0, a1, a3⟩ := h j hj r' h1 h3
  exact ⟨u0, z0, by rw [List.getElem?_set_ne (by omega)]; exact a1, a3⟩
theorem RuleRows.below {w w' : World} {S : Nat → Prop} {ys : List Value} {xs : List RuleD} (h : RuleRows w S ys xs) (hb : Below w.heap.size w w') : RuleRows w' S ys xs := fun j hj r' h1 h3 => by
  obtain ⟨u0, z0, a1, a3, a4⟩ := h j hj r' h1 h3
  exact ⟨u0, z0, a1, owns_kept (S := fun b => b < w.heap.size) (.of hb (fun b h => h)) (fun g h => (owns_in a3 g h).2) a3, a4⟩
theorem RuleRows.store {w : World} {S : Nat → Prop} {ys : List Value} {xs : List RuleD} {g j n cap : Nat} {zs : List Value} {x : Value} (h : RuleRows w S ys xs) (hg : w.ownsRow 0 52 5 (.slice (some ⟨g, 0, none⟩) n cap) n zs) : RuleRows (w.setCell ⟨g, j, none⟩ x) S ys xs := fun i hi r' h1 h3 => by
  obtain ⟨u0, z0, a1, a3, a4⟩ := h i hi r' h1 h3
  exact ⟨u0, z0, a1, own_putP a3 hg (by decide), a4⟩
theorem RuleRows.overS {w w' : World} {S : Nat → Prop} {ys : List Value} {xs : List RuleD} {u : Value} {n : Nat} {z z' : List Value} (h : RuleRows w S ys xs) (h0 : w.ownsRow 0 9 1 u n z) (h1 : w'.ownsRow 0 9 1 u n z') (hg : w.grownBy w' u.ownBlock) : RuleRows w' S ys xs := fun i hi r' hr1 hr3 => by
  obtain ⟨u0, z0, a1, a3, a4⟩ := h i hi r' hr1 hr3
  obtain ⟨z2, a7⟩ := owns_over a3 h0 h1 hg (by omega)
  exact ⟨u0, z2, a1, a7, a4⟩
theorem ruleRows_of {S : Nat → Prop} {w : World} {ys : List Value} {xs : List RuleD} (h : Laid shRuleO S w ys xs xs.length) : RuleRows w S ys xs := fun i hi r h1 h3 => by
  obtain ⟨cs, _, ⟨u0, u1, u2, rfl, _, a0, _, a1, _, a2, _⟩, h4⟩ := h i hi hi
  have hr : r = 1 ∨ r = 2 ∨ r = 3 := by omega
  rcases hr with rfl | rfl | rfl
  · exact ⟨u0, _, h4 1 (by simp), a0.1, a0.2⟩
  · exact ⟨u1, _, h4 2 (by simp), a1.1, a1.2⟩
  · exact ⟨u2, _, h4 3 (by simp), a2.1, a2.2⟩
def cntR (d : RuleD) : Nat := 2 + d.on.length + d.ins.length + d.envs.length
def cntRs (xs : List RuleD) : Nat := (xs.map cntR).sum
theorem cntRs_take (xs : List RuleD) (i : Nat) (h : i < xs.length) : cntRs (xs.take (i + 1)) = cntRs (xs.take i) + cntR xs[i] := by
  unfold cntRs
  rw [List.take_succ_eq_append_getElem h, List.map_append, List.sum_append]; simp
theorem cntRs_le (xs : List RuleD) (i : Nat) : cntRs (xs.take i) ≤ cntRs xs := by
  unfold cntRs
  conv => rhs; rw [← List.take_append_drop i xs, List.map_append, List.sum_append]
  omega
theorem cntR_wt (d : RuleD) : cntR d ≤ 4 * (1 + wtRule d) := by
  unfold cntR wtRule bulkS
  omega
theorem cntRs_wt : ∀ xs : List RuleD, cntRs xs ≤ 4 * wtRow wtRule xs
  | [] => by simp [cntRs]
  | d :: xs => by
    have h1 := cntRs_wt xs
    have h2 := cntR_wt d
    have e1 : cntRs (d :: xs) = cntR d + cntRs xs := by simp [cntRs]
    have e2 : wtRow wtRule (d :: xs) = (1 + wtRule d) + wtRow wtRule xs := by simp [wtRow]
    omega

set_option maxHeartbeats 8000000 in
set_option maxRecDepth 100000 in
theorem markRuleS_c (S : Nat → Prop) (v : Value) (xs : List RuleD) (k : Nat) (w : World) (hv : RowOwn shRuleO 52 S w v xs) (h1 : 1 ≤ k) (h2 : k + cntRs xs ≤ 4294967296) :
    Calls Try.prog 35 #[v, .int .i64 (k : Int)] w fun e w' => e = .returned (.int .i64 ((k + cntRs xs : Nat) : Int)) ∧ Chg S w w' := by
  obtain ⟨_, zs, hv, hg, hld⟩ := hv
  have hr := ruleRows_of hld
  clear hld
  have hv : w.ownsRow 0 52 5 v xs.length zs := hv
  rcases id hv.2 with ⟨rfl, hn0⟩ | ⟨g, cap, cur, rfl, _, hgb, hcap, hmax, _⟩
  · have hns : xs = [] := List.eq_nil_of_length_eq_zero hn0
    subst hns
    clear hv hg hr
    go_enter Try.func35, Try.ntmps35
    go_wp2_with fail
    go_loopw [1, 5] (fun vk vi wr => vk = .int .i64 (k : Int) ∧ vi = .int .i64 0 ∧ wr = w) (fun _ _ _ => 0)
    case atStart => exact ⟨rfl, rfl, rfl⟩
    case round =>
      obtain ⟨rfl, rfl, rfl⟩ := hrel
      go_wp2_with fail
      go_ret
      exact ⟨by simp [cntRs], Chg.refl _ _⟩
  · have hSg := hg g rfl
    unfold maxLen at hmax
    clear hgb hg
    go_enter Try.func35, Try.ntmps35
    go_wp2_with fail
    go_loopw [1, 5] (fun vk vi wr => ∃ (i m : Nat) (ys : List Value), i ≤ xs.length ∧ vi = .int .i64 (i : Int) ∧ vk = .int .i64 (m : Int) ∧ Hid (m = k + cntRs (xs.take i)) ∧ wr.ownsRow 0 52 5 (.slice (some ⟨g, 0, none⟩) xs.length cap) xs.length ys ∧ Hid (RuleRows wr S ys xs) ∧ Chg S w wr) (fun _ vi _ => xs.length - (intOf vi).toNat)
    case atStart => exact ⟨0, k, zs, Nat.zero_le _, rfl, rfl, by show _ = _; simp [cntRs], hv, hr, Chg.refl _ _⟩
    case round =>
      obtain ⟨i, m, ys, hi, rfl, rfl, hm, hown, hrr, hchg⟩ := hrel
      by_cases hlt : i < xs.length
      · have hlen := hown.1
        have hts := cntRs_take xs i hlt
        have htl := cntRs_le xs (i + 1)
        obtain ⟨P, hP⟩ : ∃ P, P = lenR xs[i] 1 := ⟨_, rfl⟩
        obtain ⟨P2, hP2⟩ : ∃ P, P = lenR xs[i] 2 := ⟨_, rfl⟩
        obtain ⟨P3, hP3⟩ : ∃ P, P = lenR xs[i] 3 := ⟨_, rfl⟩
        have hcr : cntR xs[i] = 2 + P + P2 + P3 := by rw [hP, hP2, hP3]; rfl
        have HTS : Hid (cntRs (xs.take (i + 1)) = cntRs (xs.take i) + (2 + P + P2 + P3) ∧ cntRs (xs.take (i + 1)) ≤ cntRs xs) := ⟨by rw [← hcr]; exact hts, htl⟩
        have HP := hidden hP
        have HP2 := hidden hP2
        have HP3 := hidden hP3
        have hm2 : m + 2 + P + P2 + P3 ≤ 4294967296 := by have := hm.out; have := HTS.out; omega
        have hm1 : 1 ≤ m := by have := hm.out; omega
        obtain ⟨K1, hK1⟩ : ∃ K, K = m + 1 + P := ⟨_, rfl⟩
        obtain ⟨K2, hK2⟩ : ∃ K, K = K1 + P2 := ⟨_, rfl⟩
        obtain ⟨K3, hK3⟩ : ∃ K, K = K2 + P3 := ⟨_, rfl⟩
        have hKb : K3 + 1 ≤ 4294967296 := by omega
        have hki : (i : Int) < (xs.length : Int) := by omega
        have HO := hidden hown
        have HM1 := hidden (fun w1 => markText_c m w1 (by omega) (by omega))
        have HN1 : Hid (∀ W u z, W.ownsRow 0 9 1 u P z → Calls Try.prog 68 #[u, .int .i64 ((m : Int) + 1)] W fun e w' => e = .returned (.int .i64 (K1 : Int)) ∧ (∃ z', w'.ownsRow 0 9 1 u P z') ∧ W.grownBy w' u.ownBlock) := fun W u z h => by
          have h9 := markStrs_c u 0 P z (m + 1) W h (by omega) (by omega) (by omega) (Nat.zero_le _)
          rw [show ((m + 1 : Nat) : Int) = (m : Int) + 1 by omega, show (m : Int) + 1 + (P : Int) = (K1 : Int) by omega] at h9
          exact h9.mono fun e w' ⟨a, b, c⟩ => ⟨a, ⟨_, b⟩, c⟩
        have HN2 : Hid (∀ W u z, W.ownsRow 0 9 1 u P2 z → Calls Try.prog 68 #[u, .int .i64 (K1 : Int)] W fun e w' => e = .returned (.int .i64 (K2 : Int)) ∧ (∃ z', w'.ownsRow 0 9 1 u P2 z') ∧ W.grownBy w' u.ownBlock) := fun W u z h => by
          have h9 := markStrs_c u 0 P2 z K1 W h (by omega) (by omega) (by omega) (Nat.zero_le _)
          rw [show (K1 : Int) + (P2 : Int) = (K2 : Int) by omega] at h9
          exact h9.mono fun e w' ⟨a, b, c⟩ => ⟨a, ⟨_, b⟩, c⟩
        have HN3 : Hid (∀ W u z, W.ownsRow 0 9 1 u P3 z → Calls Try.prog 68 #[u, .int .i64 (K2 : Int)] W fun e w' => e = .returned (.int .i64 (K3 : Int)) ∧ (∃ z', w'.ownsRow 0 9 1 u P3 z') ∧ W.grownBy w' u.ownBlock) := fun W u z h => by
          have h9 := markStrs_c u 0 P3 z K2 W h (by omega) (by omega) (by omega) (Nat.zero_le _)
          rw [show (K2 : Int) + (P3 : Int) = (K3 : Int) by omega] at h9
          exact h9.mono fun e w' ⟨a, b, c⟩ => ⟨a, ⟨_, b⟩, c⟩
        have HKK : Hid (K3 + 1 = m + (2 + P + P2 + P3)) := by show _ = _; omega
        clear hown hv hr hts htl hP hP2 hP3 hcr hK1 hK2 hK3
        go_wp2_with fail
        go_at_call 76
        refine (HM1.out _).mono ?_
        rintro e w1 ⟨rfl, b1⟩
        have r1 := HO.out.kept (grown_of_below b1 none) (by simp [Value.ownBlock])
        have f1 := r1.frozenAt
        obtain ⟨c0, d0⟩ : ∃ x, w1.cell? ⟨g, i * 5, none⟩ = some x := ⟨ys.getD (i * 5) undef, by rw [r1.cellAt _ (by omega)]; simp [List.getD_eq_getElem?_getD, show i * 5 < ys.length by omega]⟩
        have q1 := hrr.out.below b1
        have s0 := (r1.stored (i * 5) (.string (markStr m))).1
        have q2 := (q1.store (j := i * 5) (x := .string (markStr m)) r1).set i 0 (.inl rfl) (.string (markStr m))
        rw [Nat.add_zero] at q2
        obtain ⟨zs1, hzs1⟩ : ∃ z, z = ys.set (i * 5) (.string (markStr m)) := ⟨_, rfl⟩
        rw [← hzs1] at s0 q2
        have hzl : zs1.length = xs.length * 5 := s0.1
        have CH1 : Chg S wr (w1.setCell ⟨g, i * 5, none⟩ (.string (markStr m))) := (Chg.of b1).trans (Chg.set hSg)
        obtain ⟨u0, z0, hu1, hu3, hu4⟩ := q2 i hlt 1 (by omega) (by omega)
        rw [← HP.out] at hu3
        have d1 : w1.cell? ⟨g, i * 5 + 1, none⟩ = some u0 := by
          rw [r1.cellAt _ (by omega)]
          rw [hzs1, List.getElem?_set_ne (by omega)] at hu1
          exact hu1
        obtain ⟨qu, cu, eu⟩ := owns_sliceP hu3
        have HMS := hidden (HN1.out _ _ _ hu3)
        subst eu
        have HR2 := hidden s0
        have HQ2 := hidden q2
        have HU2 := hidden hu3
        have HU4 := hidden hu4
        have HCH1 := hidden CH1
        have HZS := hidden hzs1
        clear r1 s0 q1 q2 hu1 hu3 hu4 CH1 hzs1
        go_wp2_with fail
        go_at_call 68
        refine HMS.out.mono ?_
        rintro e w2 ⟨rfl, ⟨z9, y2⟩, g2⟩
        have r3 := HR2.out.kept g2 (owns_apart HR2.out HU2.out (by decide))
        have q6 := HQ2.out.overS HU2.out y2 g2
        have HCH2 := hidden (HCH1.out.trans (Chg.grown g2 HU4.out))
        clear y2 g2 HMS HR2 HQ2 HU2 HU4 HCH1 d0 d1 f1
        obtain ⟨u1, z1, hu1, hu3, hu4⟩ := q6 i hlt 2 (by omega) (by omega)
        rw [← HP2.out] at hu3
        have d1 : w2.cell? ⟨g, i * 5 + 2, none⟩ = some u1 := by
          rw [r3.cellAt _ (by omega)]
          exact hu1
        obtain ⟨qu1, cu1, eu⟩ := owns_sliceP hu3
        have HMS := hidden (HN2.out _ _ _ hu3)
        subst eu
        have HR2 := hidden r3
        have HQ2 := hidden q6
        have HU2 := hidden hu3
        have HU4 := hidden hu4
        clear r3 q6 hu1 hu3 hu4
        go_wp2_with fail
        go_at_call 68
        refine HMS.out.mono ?_
        rintro e w3 ⟨rfl, ⟨z8, y2⟩, g2⟩
        have r3 := HR2.out.kept g2 (owns_apart HR2.out HU2.out (by decide))
        have q6 := HQ2.out.overS HU2.out y2 g2
        have HCH3 := hidden (HCH2.out.trans (Chg.grown g2 HU4.out))
        clear y2 g2 HMS HR2 HQ2 HU2 HU4 HCH2 d1
        obtain ⟨u2, z2, hu1, hu3, hu4⟩ := q6 i hlt 3 (by omega) (by omega)
        rw [← HP3.out] at hu3
        have d1 : w3.cell? ⟨g, i * 5 + 3, none⟩ = some u2 := by
          rw [r3.cellAt _ (by omega)]
          exact hu1
        obtain ⟨qu2, cu2, eu⟩ := owns_sliceP hu3
        have HMS := hidden (HN3.out _ _ _ hu3)
        subst eu
        have HR2 := hidden r3
        have HQ2 := hidden q6
        have HU2 := hidden hu3
        have HU4 := hidden hu4
        clear r3 q6 hu1 hu3 hu4
        go_wp2_with fail
        go_at_call 68
        refine HMS.out.mono ?_
        rintro e w4 ⟨rfl, ⟨z7, y2⟩, g2⟩
        have r3 := HR2.out.kept g2 (owns_apart HR2.out HU2.out (by decide))
        have q6 := HQ2.out.overS HU2.out y2 g2
        have HCH4 := hidden (HCH3.out.trans (Chg.grown g2 HU4.out))
        clear y2 g2 HMS HR2 HQ2 HU2 HU4 HCH3 d1
        have f1 := r3.frozenAt
        obtain ⟨c4, d4⟩ : ∃ x, w4.cell? ⟨g, i * 5 + 4, none⟩ = some x := ⟨zs1.getD (i * 5 + 4) undef, by rw [r3.cellAt _ (by omega)]; simp [List.getD_eq_getElem?_getD, show i * 5 + 4 < zs1.length by omega]⟩
        have HEND : Hid (∀ x, (w4.setCell ⟨g, i * 5 + 4, none⟩ x).ownsRow 0 52 5 (.slice (some ⟨g, 0, none⟩) xs.length cap) xs.length (zs1.set (i * 5 + 4) x) ∧ RuleRows (w4.setCell ⟨g, i * 5 + 4, none⟩ x) S (zs1.set (i * 5 + 4) x) xs ∧ Chg S wr (w4.setCell ⟨g, i * 5 + 4, none⟩ x)) := fun x =>
          ⟨(r3.stored (i * 5 + 4) x).1, (q6.store (j := i * 5 + 4) (x := x) r3).set i 4 (.inr rfl) x, HCH4.out.trans (Chg.set hSg)⟩
        clear r3 q6
        go_wp2_with fail
        go_roundw
        case rel => exact ⟨i + 1, K3 + 1, _, by omega, by go_num, by go_num, (by show _ = _; have := hm.out; have := HTS.out; have := HKK.out; omega), (HEND.out _).1, (HEND.out _).2.1, hchg.trans (HEND.out _).2.2⟩
        case measure => simp [intOf]; omega
      · have he : i = xs.length := by omega
        subst he
        have hmm : m = k + cntRs xs := by have := hm.out; rw [List.take_length] at this; exact this
        have HMM := hidden hmm
        clear hown hv hr hrr hmm
        go_wp2_with fail
        go_ret
        exact ⟨by rw [← HMM.out]; rfl, hchg⟩
end Go.Proofs.Ytiadcebolcdhbaa

/-! A rule that was answered, in memory of its own, and marks put into it: contracts for the walks; conditions: it holds at most 2 to the 20. -/
namespace Go.Proofs.Ytiadcebolcdhbaa
open Go.RowKit
set_option linter.unusedSimpArgs false
set_option linter.unusedVariables false

/-- Two lists do not share a block. -/
def Ap (a b : Value) : Prop := ∀ g, a.ownBlock = some g → b.ownBlock ≠ some g
theorem Ap.symm {a b : Value} (h : Ap a b) : Ap b a := fun g hg k => h g k hg
theorem Ap.ne {a b : Value} (h : Ap a b) : b.ownBlock = none ∨ b.ownBlock ≠ a.ownBlock := by
  cases hb : b.ownBlock with
  | none => exact .inl rfl
  | some g => exact .inr fun k => h g k.symm hb
theorem Ap.lo {lo hi lo' hi' : Nat} {a b : Value} (ha : ∀ g, a.ownBlock = some g → Ow lo hi g) (hb : ∀ g, b.ownBlock = some g → Ow lo' hi' g) (h : hi ≤ lo') : Ap a b := fun g h1 h2 => by
  have := (ha g h1).2; have := (hb g h2).1; omega
theorem Ap.nil {b : Value} : Ap (.slice none 0 0) b := fun g h => by simp [Value.ownBlock] at h
/-- The lists of a rule that was answered. -/
structure Rec3 (lo hi : Nat) (W : World) (u0 u1 u2 : Value) (d : RuleD) : Prop where
  a0 : StrR lo hi W u0 d.on
  a1 : StrR lo hi W u1 d.ins
  a2 : StrR lo hi W u2 d.envs
  s01 : Ap u0 u1
  s02 : Ap u0 u2
  s12 : Ap u1 u2
  sn : d.task.size ≤ maxLen ∧ saneP d.on ∧ saneP d.ins ∧ saneP d.envs
theorem Rec3.below {lo hi : Nat} {W W' : World} {u0 u1 u2 : Value} {d : RuleD} (h : Rec3 lo hi W u0 u1 u2 d) (k : Below W.heap.size W W') : Rec3 lo hi W' u0 u1 u2 d := ⟨h.a0.below k, h.a1.below k, h.a2.below k, h.s01, h.s02, h.s12, h.sn⟩
theorem Rec3.chg {lo hi : Nat} {W W' : World} {u0 u1 u2 : Value} {d : RuleD} {S : Nat → Prop} (h : Rec3 lo hi W u0 u1 u2 d) (k : Chg S W W') (n : ∀ b, Ow lo hi b → ¬ S b) : Rec3 lo hi W' u0 u1 u2 d := ⟨h.a0.chg k n, h.a1.chg k n, h.a2.chg k n, h.s01, h.s02, h.s12, h.sn⟩
theorem Rec3.lies {lo hi : Nat} {W : World} {u0 u1 u2 : Value} {d : RuleD} (h : Rec3 lo hi W u0 u1 u2 d) : shRule.lies (Ow lo hi) W [.string d.task, u0, u1, u2, .bool d.keep] d := ⟨u0, u1, u2, rfl, h.sn.1, h.a0.1.plain, h.sn.2.1, h.a1.1.plain, h.sn.2.2.1, h.a2.1.plain, h.sn.2.2.2⟩
theorem Rec3.slices {lo hi : Nat} {W : World} {u0 u1 u2 : Value} {d : RuleD} (h : Rec3 lo hi W u0 u1 u2 d) : ∃ q0 c0 q1 c1 q2 c2, u0 = .slice q0 d.on.length c0 ∧ u1 = .slice q1 d.ins.length c1 ∧ u2 = .slice q2 d.envs.length c2 := by
  obtain ⟨q0, c0, e0⟩ := h.a0.1.slice
  obtain ⟨q1, c1, e1⟩ := h.a1.1.slice
  obtain ⟨q2, c2, e2⟩ := h.a2.1.slice
  exact ⟨q0, c0, q1, c1, q2, c2, e0, e1, e2⟩
/-- The marks that were put into it. -/
structure RecM (D : Nat → Prop) (W : World) (u0 u1 u2 : Value) (d : RuleD) : Prop where
  m0 : W.ownsRow 0 9 1 u0 d.on.length (strsV (marksS 1 d.on.length))
  m1 : W.ownsRow 0 9 1 u1 d.ins.length (strsV (marksS (1 + d.on.length) d.ins.length))
  m2 : W.ownsRow 0 9 1 u2 d.envs.length (strsV (marksS (1 + d.on.length + d.ins.length) d.envs.length))
  b0 : ∀ g, u0.ownBlock = some g → D g
  b1 : ∀ g, u1.ownBlock = some g → D g
  b2 : ∀ g, u2.ownBlock = some g → D g
theorem RecM.keep {D : Nat → Prop} {W W' : World} {u0 u1 u2 : Value} {d : RuleD} (h : RecM D W u0 u1 u2 d) (k : Kp D W W') : RecM D W' u0 u1 u2 d := ⟨owns_kept k h.b0 h.m0, owns_kept k h.b1 h.m1, owns_kept k h.b2 h.m2, h.b0, h.b1, h.b2⟩
theorem lens_wt {d : RuleD} (h : wtRule d ≤ 1048576) : d.on.length ≤ 1048576 ∧ d.ins.length ≤ 1048576 ∧ d.envs.length ≤ 1048576 := by
  unfold wtRule bulkS at h; omega

set_option maxHeartbeats 2000000 in
set_option maxRecDepth 100000 in
theorem markRule_c (lo hi : Nat) (u0 u1 u2 : Value) (d : RuleD) (w : World) (h : Rec3 lo hi w u0 u1 u2 d) (hw : wtRule d ≤ 1048576) :
    Calls Try.prog 30 #[.agg #[.string d.task, u0, u1, u2, .bool d.keep], .int .i64 1] w fun e w' => e = .returned (.int .i64 ((1 + d.on.length + d.ins.length + d.envs.length : Nat) : Int)) ∧ RecM (Ow lo hi) w' u0 u1 u2 d ∧ Chg (Ow lo hi) w w' := by
  obtain ⟨l0, l1, l2⟩ := lens_wt hw
  obtain ⟨q0, c0, q1, c1, q2, c2, e0, e1, e2⟩ := h.slices
  have H0 : Hid (∀ W z, W.ownsRow 0 9 1 u0 d.on.length z → Calls Try.prog 68 #[u0, .int .i64 1] W fun e w' => e = .returned (.int .i64 ((1 + d.on.length : Nat) : Int)) ∧ w'.ownsRow 0 9 1 u0 d.on.length (strsV (marksS 1 d.on.length)) ∧ W.grownBy w' u0.ownBlock) := fun W z a => by
    have h9 := markStrs_c u0 0 d.on.length z 1 W a (Nat.le_refl _) (by omega) (by omega) (Nat.zero_le _)
    rw [show ((1 : Nat) : Int) + (d.on.length : Int) = ((1 + d.on.length : Nat) : Int) by omega] at h9
    exact h9
  have H1 : Hid (∀ W z, W.ownsRow 0 9 1 u1 d.ins.length z → Calls Try.prog 68 #[u1, .int .i64 ((1 + d.on.length : Nat) : Int)] W fun e w' => e = .returned (.int .i64 ((1 + d.on.length + d.ins.length : Nat) : Int)) ∧ w'.ownsRow 0 9 1 u1 d.ins.length (strsV (marksS (1 + d.on.length) d.ins.length)) ∧ W.grownBy w' u1.ownBlock) := fun W z a => by
    have h9 := markStrs_c u1 0 d.ins.length z (1 + d.on.length) W a (by omega) (by omega) (by omega) (Nat.zero_le _)
    rw [show ((1 + d.on.length : Nat) : Int) + (d.ins.length : Int) = ((1 + d.on.length + d.ins.length : Nat) : Int) by omega] at h9
    exact h9
  have H2 : Hid (∀ W z, W.ownsRow 0 9 1 u2 d.envs.length z → Calls Try.prog 68 #[u2, .int .i64 ((1 + d.on.length + d.ins.length : Nat) : Int)] W fun e w' => e = .returned (.int .i64 ((1 + d.on.length + d.ins.length + d.envs.length : Nat) : Int)) ∧ w'.ownsRow 0 9 1 u2 d.envs.length (strsV (marksS (1 + d.on.length + d.ins.length) d.envs.length)) ∧ W.grownBy w' u2.ownBlock) := fun W z a => by
    have h9 := markStrs_c u2 0 d.envs.length z (1 + d.on.length + d.ins.length) W a (by omega) (by omega) (by omega) (Nat.zero_le _)
    rw [show ((1 + d.on.length + d.ins.length : Nat) : Int) + (d.envs.length : Int) = ((1 + d.on.length + d.ins.length + d.envs.length : Nat) : Int) by omega] at h9
    exact h9
  have HR := hidden h
  obtain ⟨K1, hK1⟩ : ∃ K, K = 1 + d.on.length := ⟨_, rfl⟩
  obtain ⟨K2, hK2⟩ : ∃ K, K = 1 + d.on.length + d.ins.length := ⟨_, rfl⟩
  obtain ⟨K3, hK3⟩ : ∃ K, K = 1 + d.on.length + d.ins.length + d.envs.length := ⟨_, rfl⟩
  have HM : Hid (∀ W, W.ownsRow 0 9 1 u0 d.on.length (strsV (marksS 1 d.on.length)) → W.ownsRow 0 9 1 u1 d.ins.length (strsV (marksS K1 d.ins.length)) → W.ownsRow 0 9 1 u2 d.envs.length (strsV (marksS K2 d.envs.length)) → RecM (Ow lo hi) W u0 u1 u2 d) := fun W a b c => by
    rw [hK1] at b; rw [hK2] at c
    exact ⟨a, b, c, h.a0.1.2, h.a1.1.2, h.a2.1.2⟩
  simp only [← hK3] at H2 ⊢
  simp only [← hK2] at H1 H2
  simp only [← hK1] at H0 H1
  have hlt : hi ≤ w.heap.size := h.a0.2
  have hbx : ∀ o, Below w.heap.size w (w.alloc o) := fun o => (Below.refl _ _).alloc (Nat.le_refl _) _
  obtain ⟨t, ht⟩ : ∃ t, t = d.task := ⟨_, rfl⟩
  obtain ⟨kp, hkp⟩ : ∃ t, t = d.keep := ⟨_, rfl⟩
  obtain ⟨n0, hn0⟩ : ∃ t, t = d.on.length := ⟨_, rfl⟩
  obtain ⟨n1, hn1⟩ : ∃ t, t = d.ins.length := ⟨_, rfl⟩
  obtain ⟨n2, hn2⟩ : ∃ t, t = d.envs.length := ⟨_, rfl⟩
  have o0 := h.a0.1.1
  have o1 := h.a1.1.1
  have o2 := h.a2.1.1
  rw [← hn0] at e0 H0 HM o0
  rw [← hn1] at e1 H1 HM o1
  rw [← hn2] at e2 H2 HM o2
  rw [← ht, ← hkp]
  obtain ⟨z0, hz0⟩ : ∃ z, z = strsV d.on := ⟨_, rfl⟩
  obtain ⟨z1, hz1⟩ : ∃ z, z = strsV d.ins := ⟨_, rfl⟩
  obtain ⟨z2, hz2⟩ : ∃ z, z = strsV d.envs := ⟨_, rfl⟩
  rw [← hz0] at o0
  rw [← hz1] at o1
  rw [← hz2] at o2
  clear h hK1 hK2 hK3 l0 l1 l2 hw ht hkp hn0 hn1 hn2 hz0 hz1 hz2
  subst e0 e1 e2
  have hA0 : (w.alloc (.cells #[.string t, .slice q0 n0 c0, .slice q1 n1 c1, .slice q2 n2 c2, .bool kp] 52 (0, 0))).heap[w.heap.size]? = some (.cells #[.string t, .slice q0 n0 c0, .slice q1 n1 c1, .slice q2 n2 c2, .bool kp] 52 (0, 0)) := vheap_new _ _
  have HO := hidden (And.intro (owns_of_belowN o0 (hbx (.cells #[.string t, .slice q0 n0 c0, .slice q1 n1 c1, .slice q2 n2 c2, .bool kp] 52 (0, 0)))) (And.intro (owns_of_belowN o1 (hbx (.cells #[.string t, .slice q0 n0 c0, .slice q1 n1 c1, .slice q2 n2 c2, .bool kp] 52 (0, 0)))) (owns_of_belowN o2 (hbx (.cells #[.string t, .slice q0 n0 c0, .slice q1 n1 c1, .slice q2 n2 c2, .bool kp] 52 (0, 0))))))
  have hlo0 := HR.out.a0.1.2
  have hlo1 := HR.out.a1.1.2
  have hlo2 := HR.out.a2.1.2
  have HS := hidden (And.intro HR.out.s01 (And.intro HR.out.s02 HR.out.s12))
  have HL := hidden (And.intro hlo0 (And.intro hlo1 hlo2))
  clear o0 o1 o2 HR hlo0 hlo1 hlo2
  go_enter Try.func30, Try.ntmps30
  go_wp2_with fail
  go_at_call 68
  refine (H0.out _ _ HO.out.1).mono ?_
  rintro e w1 ⟨rfl, r0, g1⟩
  have hA1 := (g1.block w.heap.size (by simp) (fun e => by have := (HL.out.1 _ e.symm).2; omega)).trans hA0
  have x0 := vblk_cell hA1 0
  have x1 := vblk_cell hA1 1
  have x2 := vblk_cell hA1 2
  have x3 := vblk_cell hA1 3
  have x4 := vblk_cell hA1 4
  simp only [List.getElem?_toArray, List.getElem?_cons_succ, List.getElem?_cons_zero] at x0 x1 x2 x3 x4
  have HO1 := hidden (And.intro r0 (And.intro (HO.out.2.1.kept g1 HS.out.1.ne) (HO.out.2.2.kept g1 HS.out.2.1.ne)))
  have HC1 := hidden ((Chg.of (hbx (.cells #[.string t, .slice q0 n0 c0, .slice q1 n1 c1, .slice q2 n2 c2, .bool kp] 52 (0, 0)))).trans (Chg.grown g1 HL.out.1))
  have hz1 : w.heap.size < w1.heap.size := (Array.getElem?_eq_some_iff.1 hA1).1
  clear r0 g1 hA0 HO H0
  go_wp2_with fail
  go_at_call 68
  refine (H1.out _ _ HO1.out.2.1).mono ?_
  rintro e w2 ⟨rfl, r1, g2⟩
  have hA2 := (g2.block w.heap.size hz1 (fun e => by have := (HL.out.2.1 _ e.symm).2; omega)).trans hA1
  clear x0 x1 x2 x3 x4
  have x0 := vblk_cell hA2 0
  have x1 := vblk_cell hA2 1
  have x2 := vblk_cell hA2 2
  have x3 := vblk_cell hA2 3
  have x4 := vblk_cell hA2 4
  simp only [List.getElem?_toArray, List.getElem?_cons_succ, List.getElem?_cons_zero] at x0 x1 x2 x3 x4
  have HO2 := hidden (And.intro (HO1.out.1.kept g2 HS.out.1.symm.ne) (And.intro r1 (HO1.out.2.2.kept g2 HS.out.2.2.ne)))
  have HC2 := hidden (HC1.out.trans (Chg.grown g2 HL.out.2.1))
  clear r1 g2 hA1 HO1 H1 HC1
  go_wp2_with fail
  go_at_call 68
  refine (H2.out _ _ HO2.out.2.2).mono ?_
  rintro e w3 ⟨rfl, r2, g3⟩
  have HF := hidden (And.intro (HM.out _ (HO2.out.1.kept g3 HS.out.2.1.symm.ne) (HO2.out.2.1.kept g3 HS.out.2.2.symm.ne) r2) (HC2.out.trans (Chg.grown g3 HL.out.2.2)))
  clear r2 g3 hA2 HO2 H2 HC2 x0 x1 x2 x3 x4
  go_wp2_with fail
  go_ret
  exact ⟨rfl, HF.out.1, HF.out.2⟩

set_option maxHeartbeats 2000000 in
set_option maxRecDepth 100000 in
theorem heldRule_c (D : Nat → Prop) (u0 u1 u2 : Value) (d : RuleD) (w : World) (h : RecM D w u0 u1 u2 d) (hw : wtRule d ≤ 1048576) :
    Calls Try.prog 36 #[.agg #[.string d.task, u0, u1, u2, .bool d.keep], .int .i64 1] w fun e w' => e = .returned (.int .i64 ((1 + d.on.length + d.ins.length + d.envs.length : Nat) : Int)) ∧ Below w.heap.size w w' := by
  obtain ⟨l0, l1, l2⟩ := lens_wt hw
  have hbx : ∀ o, Below w.heap.size w (w.alloc o) := fun o => (Below.refl _ _).alloc (Nat.le_refl _) _
  have H0 : Hid (∀ W, Below w.heap.size w W → Calls Try.prog 71 #[u0, .int .i64 1] W fun e w' => e = .returned (.int .i64 ((1 + d.on.length : Nat) : Int)) ∧ Below W.heap.size W w') := fun W k => by
    have h9 := heldStrs_c u0 d.on.length 1 W (reads_of_owns (owns_of_belowN h.m0 k)) (Nat.le_refl _) (by omega) (by omega)
    rw [show ((1 : Nat) : Int) + (d.on.length : Int) = ((1 + d.on.length : Nat) : Int) by omega] at h9
    exact h9
  have H1 : Hid (∀ W, Below w.heap.size w W → Calls Try.prog 71 #[u1, .int .i64 ((1 + d.on.length : Nat) : Int)] W fun e w' => e = .returned (.int .i64 ((1 + d.on.length + d.ins.length : Nat) : Int)) ∧ Below W.heap.size W w') := fun W k => by
    have h9 := heldStrs_c u1 d.ins.length (1 + d.on.length) W (reads_of_owns (owns_of_belowN h.m1 k)) (by omega) (by omega) (by omega)
    rw [show ((1 + d.on.length : Nat) : Int) + (d.ins.length : Int) = ((1 + d.on.length + d.ins.length : Nat) : Int) by omega] at h9
    exact h9
  have H2 : Hid (∀ W, Below w.heap.size w W → Calls Try.prog 71 #[u2, .int .i64 ((1 + d.on.length + d.ins.length : Nat) : Int)] W fun e w' => e = .returned (.int .i64 ((1 + d.on.length + d.ins.length + d.envs.length : Nat) : Int)) ∧ Below W.heap.size W w') := fun W k => by
    have h9 := heldStrs_c u2 d.envs.length (1 + d.on.length + d.ins.length) W (reads_of_owns (owns_of_belowN h.m2 k)) (by omega) (by omega) (by omega)
    rw [show ((1 + d.on.length + d.ins.length : Nat) : Int) + (d.envs.length : Int) = ((1 + d.on.length + d.ins.length + d.envs.length : Nat) : Int) by omega] at h9
    exact h9
  obtain ⟨q0, c0, e0⟩ := owns_sliceP h.m0
  obtain ⟨q1, c1, e1⟩ := owns_sliceP h.m1
  obtain ⟨q2, c2, e2⟩ := owns_sliceP h.m2
  obtain ⟨K1, hK1⟩ : ∃ K, K = 1 + d.on.length := ⟨_, rfl⟩
  obtain ⟨K2, hK2⟩ : ∃ K, K = 1 + d.on.length + d.ins.length := ⟨_, rfl⟩
  obtain ⟨K3, hK3⟩ : ∃ K, K = 1 + d.on.length + d.ins.length + d.envs.length := ⟨_, rfl⟩
  simp only [← hK3] at H2 ⊢
  simp only [← hK2] at H1 H2
  simp only [← hK1] at H0 H1
  have g1 : ¬ (K1 : Int) < 0 := by omega
  have g2 : ¬ (K2 : Int) < 0 := by omega
  have g3 : ¬ (K3 : Int) < 0 := by omega
  obtain ⟨t, ht⟩ : ∃ t, t = d.task := ⟨_, rfl⟩
  obtain ⟨kp, hkp⟩ : ∃ t, t = d.keep := ⟨_, rfl⟩
  obtain ⟨n0, hn0⟩ : ∃ t, t = d.on.length := ⟨_, rfl⟩
  obtain ⟨n1, hn1⟩ : ∃ t, t = d.ins.length := ⟨_, rfl⟩
  obtain ⟨n2, hn2⟩ : ∃ t, t = d.envs.length := ⟨_, rfl⟩
  rw [← hn0] at e0
  rw [← hn1] at e1
  rw [← hn2] at e2
  rw [← ht, ← hkp]
  clear h hK1 hK2 hK3 l0 l1 l2 hw ht hkp hn0 hn1 hn2
  subst e0 e1 e2
  have hA0 : (w.alloc (.cells #[.string t, .slice q0 n0 c0, .slice q1 n1 c1, .slice q2 n2 c2, .bool kp] 52 (0, 0))).heap[w.heap.size]? = some (.cells #[.string t, .slice q0 n0 c0, .slice q1 n1 c1, .slice q2 n2 c2, .bool kp] 52 (0, 0)) := vheap_new _ _
  have k0 := hbx (.cells #[.string t, .slice q0 n0 c0, .slice q1 n1 c1, .slice q2 n2 c2, .bool kp] 52 (0, 0))
  go_enter Try.func36, Try.ntmps36
  go_wp2_with fail
  go_at_call 71
  refine (H0.out _ k0).mono ?_
  rintro e w1 ⟨rfl, b1⟩
  have hA1 := box_below hA0 b1
  have k1 := k0.trans (b1.mono k0.size)
  have x0 := vblk_cell hA1 0
  have x1 := vblk_cell hA1 1
  have x2 := vblk_cell hA1 2
  have x3 := vblk_cell hA1 3
  have x4 := vblk_cell hA1 4
  simp only [List.getElem?_toArray, List.getElem?_cons_succ, List.getElem?_cons_zero] at x0 x1 x2 x3 x4
  clear b1 hA0 H0 k0
  go_wp2_with fail
  go_at_call 71
  refine (H1.out _ k1).mono ?_
  rintro e w2 ⟨rfl, b2⟩
  have hA2 := box_below hA1 b2
  have k2 := k1.trans (b2.mono k1.size)
  clear x0 x1 x2 x3 x4
  have x0 := vblk_cell hA2 0
  have x1 := vblk_cell hA2 1
  have x2 := vblk_cell hA2 2
  have x3 := vblk_cell hA2 3
  have x4 := vblk_cell hA2 4
  simp only [List.getElem?_toArray, List.getElem?_cons_succ, List.getElem?_cons_zero] at x0 x1 x2 x3 x4
  clear b2 hA1 H1 k1
  go_wp2_with fail
  go_at_call 71
  refine (H2.out _ k2).mono ?_
  rintro e w3 ⟨rfl, b3⟩
  have k3 := k2.trans (b3.mono k2.size)
  go_wp2_with fail
  go_ret
  exact ⟨rfl, k3⟩
end Go.Proofs.Ytiadcebolcdhbaa
