/-
  Contracts for the walks, several texts in one: each part says what it proves, and under which conditions.
-/
import Derived.Test.YtkijckpkojcdcaaDoorQ1

/-! A value as a tree, how much it holds, and what it means that it lies in memory below a block number; no condition but those told. -/
namespace Go.Proofs.YtkijckpkojcdcaaDoor
open Go.RowKit
set_option linter.unusedSimpArgs false
set_option linter.unusedVariables false

inductive Tree where
  | mk (k n : Int) (s : ByteArray) (l : List Tree) (keys : List ByteArray) : Tree

theorem Tree.ind {P : Tree → Prop} (h : ∀ k n s l ks, (∀ U ∈ l, P U) → P (.mk k n s l ks)) : ∀ T, P T
  | .mk k n s l ks => h k n s l ks (fun U _ => Tree.ind h U)
  termination_by T => SizeOf.sizeOf T
  decreasing_by
    rename_i hU
    have := List.sizeOf_lt_of_mem hU
    simp
    omega

mutual
def Tree.wt : Tree → Nat
  | .mk _ _ s l ks => s.size + (wtL l + bulkS ks)
def wtL : List Tree → Nat
  | [] => 0
  | t :: r => 1 + t.wt + wtL r
end

theorem wtL_append (a b : List Tree) : wtL (a ++ b) = wtL a + wtL b := by
  induction a with
  | nil => simp [wtL]
  | cons t r ih => simp only [List.cons_append, wtL, ih]; omega

theorem wtL_take_succ (l : List Tree) (k : Nat) (h : k < l.length) : wtL (l.take (k + 1)) = wtL (l.take k) + 1 + (l[k]).wt := by
  rw [List.take_succ_eq_append_getElem h, wtL_append]
  simp [wtL]; omega

theorem wtL_take_le (l : List Tree) (k : Nat) : wtL (l.take k) ≤ wtL l := by
  conv => rhs; rw [← List.take_append_drop k l, wtL_append]
  omega

theorem length_le_wtL (l : List Tree) : l.length ≤ wtL l := by
  induction l with
  | nil => simp
  | cons t r ih => simp only [List.length_cons, wtL]; omega

theorem wtL_take_rest (l : List Tree) (k : Nat) : wtL (l.take k) + (l.length - k) ≤ wtL l := by
  conv => rhs; rw [← List.take_append_drop k l, wtL_append]
  have := length_le_wtL (l.drop k)
  simp at this
  omega

theorem wt_le_wtL {l : List Tree} {U : Tree} (h : U ∈ l) : U.wt + 1 ≤ wtL l := by
  induction l with
  | nil => simp at h
  | cons t r ih =>
    simp only [List.mem_cons] at h
    simp only [wtL]
    rcases h with rfl | h
    · omega
    · have := ih h; omega

/-- In blocks of S the world w' is as w was. -/
def KeptIn (S : Nat → Prop) (w w' : World) : Prop := ∀ b, S b → w'.heap[b]? = w.heap[b]?
theorem KeptIn.cell {S : Nat → Prop} {w w' : World} (h : KeptIn S w w') {b : Nat} (hb : S b) (o : Nat) : w'.cell? ⟨b, o, none⟩ = w.cell? ⟨b, o, none⟩ := World.cell?_of_block (w := w) (h b hb)
theorem KeptIn.trans {S : Nat → Prop} {a b c : World} (h : KeptIn S a b) (k : KeptIn S b c) : KeptIn S a c := fun i hi => (k i hi).trans (h i hi)
theorem KeptIn.of {S : Nat → Prop} {B : Nat} {w w' : World} (hb : Below B w w') (hS : ∀ b, S b → b < B) : KeptIn S w w' := fun b h => hb.block b (hS b h)

/-- A list of texts that lies in blocks of S. -/
def ReadsB (S : Nat → Prop) (w : World) (v : Value) (xs : List Value) : Prop :=
  ∃ a cap, v = .slice a xs.length cap ∧ xs.length ≤ cap ∧ (xs = [] ∨ ∃ b off, a = some ⟨b, off, none⟩ ∧ S b ∧ ∀ k (h : k < xs.length), w.cell? ⟨b, off + k, none⟩ = some xs[k])

theorem ReadsB.reads {S : Nat → Prop} {w : World} {v : Value} {xs : List Value} (h : ReadsB S w v xs) (hS : ∀ b, S b → b < w.heap.size) : Reads w v xs := by
  obtain ⟨a, cap, hv, hc, h⟩ := h
  refine ⟨a, cap, hv, hc, ?_⟩
  rcases h with h | ⟨b, off, ha, hb, h⟩
  · exact .inl h
  · exact .inr ⟨b, off, ha, hS b hb, h⟩

theorem ReadsB.of {w : World} {v : Value} {xs : List Value} (h : Reads w v xs) : ReadsB (· < w.heap.size) w v xs := h

theorem ReadsB.keep {S : Nat → Prop} {w w' : World} {v : Value} {xs : List Value} (hb : KeptIn S w w') (h : ReadsB S w v xs) : ReadsB S w' v xs := by
  obtain ⟨a, cap, hv, hc, h⟩ := h
  refine ⟨a, cap, hv, hc, ?_⟩
  rcases h with h | ⟨b, off, ha, hlt, h⟩
  · exact .inl h
  · exact .inr ⟨b, off, ha, hlt, fun k hk => (hb.cell hlt _).trans (h k hk)⟩

theorem ReadsB.mono {S S' : Nat → Prop} {w : World} {v : Value} {xs : List Value} (hB : ∀ b, S b → S' b) (h : ReadsB S w v xs) : ReadsB S' w v xs := by
  obtain ⟨a, cap, hv, hc, h⟩ := h
  refine ⟨a, cap, hv, hc, ?_⟩
  rcases h with h | ⟨b, off, ha, hlt, h⟩
  · exact .inl h
  · exact .inr ⟨b, off, ha, hB b hlt, h⟩

def saneS (ks : List ByteArray) : Prop := ks.length ≤ maxLen ∧ ∀ s ∈ ks, s.size ≤ maxLen

/-- The value v is the tree T, all of whose memory lies in blocks of S. -/
inductive Lies (S : Nat → Prop) (w : World) : Value → Tree → Prop
  | mk (k n : Int) (s : ByteArray) (l : List Tree) (ks : List ByteArray) (a : Option Addr) (cap : Nat) (u : Value) (C : Nat → Nat → Value)
      (hs : s.size ≤ maxLen) (hl : l.length ≤ maxLen) (hk : saneS ks) (hc : l.length ≤ cap) (hu : ReadsB S w u (strsV ks))
      (ha : l = [] ∨ ∃ b off, a = some ⟨b, off, none⟩ ∧ S b ∧ ∀ i, i < l.length → ∀ j, j < 5 → w.cell? ⟨b, off + i * 5 + j, none⟩ = some (C i j))
      (hC : ∀ i (h : i < l.length), Lies S w (.agg #[C i 0, C i 1, C i 2, C i 3, C i 4]) l[i]) :
      Lies S w (.agg #[.int .i64 k, .int .i64 n, .string s, .slice a l.length cap, u]) (.mk k n s l ks)

/-- The list of values v is l. -/
def LiesL (S : Nat → Prop) (w : World) (v : Value) (l : List Tree) : Prop :=
  ∃ a cap, ∃ C : Nat → Nat → Value, v = .slice a l.length cap ∧ l.length ≤ maxLen ∧ l.length ≤ cap ∧
    (l = [] ∨ ∃ b off, a = some ⟨b, off, none⟩ ∧ S b ∧ ∀ i, i < l.length → ∀ j, j < 5 → w.cell? ⟨b, off + i * 5 + j, none⟩ = some (C i j)) ∧
    ∀ i (h : i < l.length), Lies S w (.agg #[C i 0, C i 1, C i 2, C i 3, C i 4]) l[i]

theorem Lies.out {S : Nat → Prop} {w : World} {v : Value} {k n : Int} {s : ByteArray} {l : List Tree} {ks : List ByteArray} (h : Lies S w v (.mk k n s l ks)) :
    ∃ c u, v = .agg #[.int .i64 k, .int .i64 n, .string s, c, u] ∧ s.size ≤ maxLen ∧ saneS ks ∧ LiesL S w c l ∧ ReadsB S w u (strsV ks) := by
  cases h with
  | mk k n s l ks a cap u C hs hl hk hc hu ha hC => exact ⟨_, u, rfl, hs, hk, ⟨a, cap, C, rfl, hl, hc, ha, hC⟩, hu⟩

theorem Lies.of {S : Nat → Prop} {w : World} {c u : Value} {k n : Int} {s : ByteArray} {l : List Tree} {ks : List ByteArray} (hs : s.size ≤ maxLen) (hk : saneS ks) (hl : LiesL S w c l) (hu : ReadsB S w u (strsV ks)) :
    Lies S w (.agg #[.int .i64 k, .int .i64 n, .string s, c, u]) (.mk k n s l ks) := by
  obtain ⟨a, cap, C, rfl, hl, hc, ha, hC⟩ := hl
  exact .mk k n s l ks a cap u C hs hl hk hc hu ha hC

theorem LiesL.mk_keep {S : Nat → Prop} {w w' : World} {v : Value} {l : List Tree} (hb : KeptIn S w w') (hi : ∀ U ∈ l, ∀ x, Lies S w x U → Lies S w' x U) (h : LiesL S w v l) : LiesL S w' v l := by
  obtain ⟨a, cap, C, rfl, hl, hc, ha, hC⟩ := h
  refine ⟨a, cap, C, rfl, hl, hc, ?_, fun i h => hi _ (List.getElem_mem h) _ (hC i h)⟩
  rcases ha with ha | ⟨b, off, ha, hlt, hcell⟩
  · exact .inl ha
  · exact .inr ⟨b, off, ha, hlt, fun i hi j hj => (hb.cell hlt _).trans (hcell i hi j hj)⟩

theorem Lies.keep {S : Nat → Prop} {w w' : World} (hb : KeptIn S w w') : ∀ {T : Tree} {v : Value}, Lies S w v T → Lies S w' v T := by
  have h := Tree.ind (P := fun T => ∀ v, Lies S w v T → Lies S w' v T) ?_
  · exact fun {T v} hx => h T v hx
  intro k n s l ks ih v h
  obtain ⟨c, u, rfl, hs, hk, hl, hu⟩ := h.out
  exact Lies.of hs hk (hl.mk_keep hb ih) (hu.keep hb)

theorem LiesL.keep {S : Nat → Prop} {w w' : World} {v : Value} {l : List Tree} (hb : KeptIn S w w') (h : LiesL S w v l) : LiesL S w' v l :=
  h.mk_keep hb fun U _ x hx => Lies.keep hb hx

theorem LiesL.mk_mono {S S' : Nat → Prop} {w : World} {v : Value} {l : List Tree} (hB : ∀ b, S b → S' b) (hi : ∀ U ∈ l, ∀ x, Lies S w x U → Lies S' w x U) (h : LiesL S w v l) : LiesL S' w v l := by
  obtain ⟨a, cap, C, rfl, hl, hc, ha, hC⟩ := h
  refine ⟨a, cap, C, rfl, hl, hc, ?_, fun i h => hi _ (List.getElem_mem h) _ (hC i h)⟩
  rcases ha with ha | ⟨b, off, ha, hlt, hcell⟩
  · exact .inl ha
  · exact .inr ⟨b, off, ha, hB b hlt, hcell⟩

theorem Lies.mono {S S' : Nat → Prop} {w : World} (hB : ∀ b, S b → S' b) : ∀ {T : Tree} {v : Value}, Lies S w v T → Lies S' w v T := by
  have h := Tree.ind (P := fun T => ∀ v, Lies S w v T → Lies S' w v T) ?_
  · exact fun {T v} hx => h T v hx
  intro k n s l ks ih v h
  obtain ⟨c, u, rfl, hs, hk, hl, hu⟩ := h.out
  exact Lies.of hs hk (hl.mk_mono hB ih) (hu.mono hB)

theorem LiesL.mono {S S' : Nat → Prop} {w : World} {v : Value} {l : List Tree} (hB : ∀ b, S b → S' b) (h : LiesL S w v l) : LiesL S' w v l :=
  h.mk_mono hB fun U _ x hx => Lies.mono hB hx

/-- What is at place i of a list of values: five cells, which are the tree there. -/
theorem LiesL.at {S : Nat → Prop} {w : World} {v : Value} {l : List Tree} (h : LiesL S w v l) :
    ∃ a cap, v = .slice a l.length cap ∧ l.length ≤ maxLen ∧ l.length ≤ cap ∧ (l = [] ∨ ∃ b off, a = some ⟨b, off, none⟩ ∧ S b ∧ ∀ i (h : i < l.length), ∃ c0 c1 c2 c3 c4,
      w.cell? ⟨b, off + i * 5, none⟩ = some c0 ∧ w.cell? ⟨b, off + i * 5 + 1, none⟩ = some c1 ∧ w.cell? ⟨b, off + i * 5 + 2, none⟩ = some c2 ∧ w.cell? ⟨b, off + i * 5 + 3, none⟩ = some c3 ∧ w.cell? ⟨b, off + i * 5 + 4, none⟩ = some c4 ∧
      Lies S w (.agg #[c0, c1, c2, c3, c4]) l[i]) := by
  obtain ⟨a, cap, C, rfl, hl, hc, ha, hC⟩ := h
  refine ⟨a, cap, rfl, hl, hc, ?_⟩
  rcases ha with ha | ⟨b, off, ha, hlt, hcell⟩
  · exact .inl ha
  · refine .inr ⟨b, off, ha, hlt, fun i hi => ⟨C i 0, C i 1, C i 2, C i 3, C i 4, ?_, ?_, ?_, ?_, ?_, hC i hi⟩⟩
    · simpa using hcell i hi 0 (by omega)
    · exact hcell i hi 1 (by omega)
    · exact hcell i hi 2 (by omega)
    · exact hcell i hi 3 (by omega)
    · exact hcell i hi 4 (by omega)

/-- A parameter that was put into a block of its own is still there behind a call. -/
theorem box5 {w w1 : World} {c0 c1 c2 c3 c4 : Value} {t : TypeId} (hb : Below (w.alloc (.cells #[c0, c1, c2, c3, c4] t)).heap.size (w.alloc (.cells #[c0, c1, c2, c3, c4] t)) w1) :
    w1.cell? ⟨w.heap.size, 0, none⟩ = some c0 ∧ w1.cell? ⟨w.heap.size, 1, none⟩ = some c1 ∧ w1.cell? ⟨w.heap.size, 2, none⟩ = some c2 ∧ w1.cell? ⟨w.heap.size, 3, none⟩ = some c3 ∧ w1.cell? ⟨w.heap.size, 4, none⟩ = some c4 := by
  have h : ∀ j, w1.cell? ⟨w.heap.size, j, none⟩ = (#[c0, c1, c2, c3, c4] : Array Value)[j]? := fun j => by
    rw [hb.cell (p := ⟨w.heap.size, j, none⟩) (by simp)]
    have e : (w.alloc (.cells #[c0, c1, c2, c3, c4] t)).heap[w.heap.size]? = some (.cells #[c0, c1, c2, c3, c4] t) := by show (w.heap.push _)[w.heap.size]? = _; simp
    simp only [World.cell?, e]; rfl
  exact ⟨h 0, h 1, h 2, h 3, h 4⟩

theorem heap_new (w : World) (o : Obj) : (w.alloc o).heap[w.heap.size]? = some o := by show (w.heap.push _)[w.heap.size]? = _; simp
theorem heap_old (w : World) (o : Obj) {b : Nat} (h : b < w.heap.size) : (w.alloc o).heap[b]? = w.heap[b]? := Below.heap_alloc w o b h
theorem three {w w1 : World} {A R O : Obj} (hb : Below (((w.alloc A).alloc R).alloc O).heap.size (((w.alloc A).alloc R).alloc O) w1) :
    w1.heap[w.heap.size]? = some A ∧ w1.heap[w.heap.size + 1]? = some R ∧ w1.heap[w.heap.size + 1 + 1]? = some O := by
  have s1 : (w.alloc A).heap.size = w.heap.size + 1 := by simp
  have s2 : ((w.alloc A).alloc R).heap.size = w.heap.size + 1 + 1 := by simp
  refine ⟨?_, ?_, ?_⟩
  · rw [hb.block _ (by simp; omega), heap_old _ _ (by simp; omega), heap_old _ _ (by simp), heap_new]
  · rw [hb.block _ (by simp), heap_old _ _ (by simp), ← s1, heap_new]
  · rw [hb.block _ (by simp), ← s2, heap_new]
theorem blk_cell {w : World} {b : Nat} {cs : Array Value} {t : TypeId} (h : w.heap[b]? = some (.cells cs t (0, 0))) (j : Nat) : w.cell? ⟨b, j, none⟩ = cs[j]? := cell_of_row w b j cs t (0, 0) h
theorem blk_frozen {w : World} {b : Nat} {cs : Array Value} {t : TypeId} (h : w.heap[b]? = some (.cells cs t (0, 0))) (j : Nat) : w.frozen? ⟨b, j, none⟩ = false := frozen_of_row w b j cs t h
theorem blk_set {w : World} {b : Nat} {cs : Array Value} {t : TypeId} (h : w.heap[b]? = some (.cells cs t (0, 0))) (j : Nat) (v : Value) : (w.setCell ⟨b, j, none⟩ v).heap[b]? = some (.cells (cs.setIfInBounds j v) t (0, 0)) := heap_setCell_same w b j cs t v h

#print axioms Lies.keep
end Go.Proofs.YtkijckpkojcdcaaDoor

/-! How much a value holds, as the law's own helper reckons it: a contract for every value that lies in memory. -/
namespace Go.Proofs.YtkijckpkojcdcaaDoor
open Go.RowKit
set_option linter.unusedSimpArgs false
set_option linter.unusedVariables false

set_option maxHeartbeats 1000000 in
set_option maxRecDepth 100000 in
theorem sizeStrsT_c (v : Value) (ss : List ByteArray) (w : World) (left : Int) (hl0 : 0 ≤ left) (hl1 : left ≤ 1048576) (hv : Reads w v (strsV ss)) (hn : ss.length ≤ maxLen) (hs : ∀ s ∈ ss, s.size ≤ maxLen) :
    Calls Tryd.prog 24 #[v, .int .i64 left] w fun e w' => e = .returned (.int .i64 (leftS ss left)) ∧ w = w' := by
  obtain ⟨a, cap, rfl, _, hc⟩ := reads_strs hv
  clear hv
  unfold maxLen at hn hs
  by_cases h0 : left < (ss.length : Int)
  · have hneg : left - (ss.length : Int) < 0 := by omega
    have e : leftS ss left = -1 := by rw [leftS, bulkS, if_neg (by omega)]
    rw [e]
    clear hc hs
    go_enter Tryd.func24, Tryd.ntmps24
    go_wp2
    go_ret
    exact ⟨rfl, rfl⟩
  · have hpos : ¬ (left - (ss.length : Int) < 0) := by omega
    rcases hc with rfl | ⟨b, off, rfl, hlt, hc⟩
    · go_enter Tryd.func24, Tryd.ntmps24
      go_wp2
      go_loop [1, 5] (fun vl vi => vl = .int .i64 left ∧ vi = .int .i64 0) (fun _ _ => 0)
      case atStart => exact ⟨rfl, rfl⟩
      case round =>
        obtain ⟨rfl, rfl⟩ := hrel
        go_wp2
        go_ret
        exact ⟨by rw [show leftS [] left = left by simp [leftS, bulkS, hl0]]; rfl, rfl⟩
    · go_enter Tryd.func24, Tryd.ntmps24
      go_wp2
      go_loop [1, 5] (fun vl vi => ∃ (k : Nat) (l : Int), k ≤ ss.length ∧ vi = .int .i64 (k : Int) ∧ vl = .int .i64 l ∧ 0 ≤ l ∧ l ≤ 1048576 ∧ Hid (l = left - (ss.length : Int) - (((ss.take k).map ByteArray.size).sum : Int))) (fun _ vi => ss.length - (intOf vi).toNat)
      case atStart => exact ⟨0, _, Nat.zero_le _, rfl, rfl, by omega, by omega, by show _ = _; simp⟩
      case round =>
        obtain ⟨k, l, hk, rfl, rfl, hq0, hq1, hl⟩ := hrel
        by_cases hlt' : k < ss.length
        · have hcx := hc k hlt'
          have hsk := hs ss[k] (List.getElem_mem hlt')
          have hsum := sum_take_succ ss k hlt'
          obtain ⟨t, ht⟩ : ∃ t, t = ss[k] := ⟨_, rfl⟩
          rw [← ht] at hcx hsk hsum
          have HS : Hid (((ss.take (k + 1)).map ByteArray.size).sum = ((ss.take k).map ByteArray.size).sum + t.size) := hsum
          have hki : (k : Int) < (ss.length : Int) := by omega
          clear hc hs ht hsum
          by_cases hneg : l - (t.size : Int) < 0
          · have e : leftS ss left = -1 := by
              have h1 := HS.out; have h2 := hl.out; have h3 := sum_take_le ss (k + 1)
              rw [leftS, bulkS, if_neg (by omega)]
            have HE : Hid (leftS ss left = -1) := e
            clear e
            go_wp2
            go_ret
            exact ⟨by rw [HE.out]; rfl, rfl⟩
          · go_wp2
            go_round
            case rel => exact ⟨k + 1, l - (t.size : Int), by omega, by go_num, rfl, by omega, by omega, (by show _ = _; rw [HS.out, hl.out]; omega)⟩
            case measure => simp [intOf]; omega
        · have he : k = ss.length := by omega
          subst he
          have e : leftS ss left = l := by
            have h2 := hl.out
            rw [List.take_length] at h2
            rw [leftS, bulkS, if_pos (by omega)]; omega
          have HE : Hid (leftS ss left = l) := e
          clear hc hs e
          go_wp2
          go_ret
          exact ⟨by rw [HE.out]; rfl, rfl⟩
def leftN (n : Nat) (left : Int) : Int := if (n : Int) ≤ left then left - (n : Int) else -1
theorem leftN_bad {n : Nat} {left : Int} (h : left < (n : Int)) : leftN n left = -1 := by unfold leftN; rw [if_neg (by omega)]
theorem leftN_good {n : Nat} {left : Int} (h : (n : Int) ≤ left) : leftN n left = left - (n : Int) := by unfold leftN; rw [if_pos h]
theorem leftS_N (ks : List ByteArray) (left : Int) : leftS ks left = leftN (bulkS ks) left := rfl
theorem wt_mk (k n : Int) (s : ByteArray) (l : List Tree) (ks : List ByteArray) : (Tree.mk k n s l ks).wt = s.size + (wtL l + bulkS ks) := by rw [Tree.wt]

def SzC (T : Tree) : Prop := ∀ (S : Nat → Prop) (v : Value) (w : World) (left : Int), Lies S w v T → (∀ b, S b → b < w.heap.size) → 0 ≤ left → left ≤ 1048576 →
  Calls Tryd.prog 5 #[v, .int .i64 left] w fun e w' => e = .returned (.int .i64 (leftN T.wt left)) ∧ Below w.heap.size w w'
def SzLC (l : List Tree) : Prop := ∀ (S : Nat → Prop) (v : Value) (w : World) (left : Int), LiesL S w v l → (∀ b, S b → b < w.heap.size) → 0 ≤ left → left ≤ 1048576 →
  Calls Tryd.prog 23 #[v, .int .i64 left] w fun e w' => e = .returned (.int .i64 (leftN (wtL l) left)) ∧ Below w.heap.size w w'

set_option maxHeartbeats 2000000 in
set_option maxRecDepth 100000 in
theorem szVal_step (k n : Int) (s : ByteArray) (l : List Tree) (ks : List ByteArray) (ih : SzLC l) : SzC (.mk k n s l ks) := by
  intro S v w left hv hB h0 h1
  obtain ⟨c, u, rfl, hs, hk, hl, hu⟩ := hv.out
  clear hv
  unfold maxLen at hs
  have hbx : ∀ o, Below w.heap.size w (w.alloc o) := fun o => (Below.refl _ _).alloc (Nat.le_refl _) _
  by_cases hneg : left - (s.size : Int) < 0
  · have e : leftN (Tree.mk k n s l ks).wt left = -1 := leftN_bad (by rw [wt_mk]; omega)
    rw [e]
    go_enter Tryd.func5, Tryd.ntmps5
    go_wp2_with fail
    go_ret
    exact ⟨rfl, hbx _⟩
  · obtain ⟨p, hp⟩ : ∃ p, p = leftN (wtL l) (left - (s.size : Int)) := ⟨_, rfl⟩
    have hpb : p ≤ 1048576 := by unfold leftN at hp; split at hp <;> omega
    have HP : Hid (p = leftN (wtL l) (left - (s.size : Int))) := hp
    clear hp
    have hlA : ∀ o, LiesL S (w.alloc o) c l := fun o => hl.keep (.of (hbx _) hB)
    have huA : ∀ w1, Below w.heap.size w w1 → Reads w1 u (strsV ks) := fun w1 h1 => (hu.keep (.of h1 hB)).reads (fun b h => Nat.lt_of_lt_of_le (hB b h) h1.size)
    have hBA : ∀ o b, S b → b < (w.alloc o).heap.size := fun o b h => Nat.lt_of_lt_of_le (hB b h) (hbx o).size
    by_cases hpn : p < 0
    · have e : leftN (Tree.mk k n s l ks).wt left = -1 := by
        have := HP.out
        refine leftN_bad ?_
        rw [wt_mk]
        by_cases hh : ((wtL l : Nat) : Int) ≤ left - (s.size : Int)
        · rw [leftN_good hh] at this; omega
        · omega
      have HE : Hid (leftN (Tree.mk k n s l ks).wt left = -1) := e
      clear e
      go_enter Tryd.func5, Tryd.ntmps5
      go_wp2_with (go_at_call 23; refine (ih S c _ (left - (s.size : Int)) (hlA _) (hBA _) (by omega) (by omega)).mono ?_; rintro e w1 ⟨rfl, hb1⟩; rw [← HP.out])
      go_ret
      exact ⟨by rw [HE.out]; rfl, (hbx _).trans (hb1.mono (by simp))⟩
    · have e : leftN (Tree.mk k n s l ks).wt left = leftS ks p := by
        have := HP.out
        rw [leftS_N]
        by_cases hh : ((wtL l : Nat) : Int) ≤ left - (s.size : Int)
        · rw [leftN_good hh] at this
          by_cases h2 : ((bulkS ks : Nat) : Int) ≤ p
          · rw [leftN_good h2, leftN_good (by rw [wt_mk]; omega), wt_mk]; omega
          · rw [leftN_bad (n := (Tree.mk k n s l ks).wt) (by rw [wt_mk]; omega), leftN_bad (by omega)]
        · rw [leftN_bad (by omega)] at this; omega
      have HE : Hid (leftN (Tree.mk k n s l ks).wt left = leftS ks p) := e
      obtain ⟨q, hq⟩ : ∃ q, q = leftS ks p := ⟨_, rfl⟩
      have HQ : Hid (q = leftS ks p) := hq
      clear e hq
      go_enter Tryd.func5, Tryd.ntmps5
      go_wp2_with (first
        | (go_at_call 23; refine (ih S c _ (left - (s.size : Int)) (hlA _) (hBA _) (by omega) (by omega)).mono ?_; rintro e w1 ⟨rfl, hb1⟩; rw [← HP.out]; obtain ⟨x0, x1, x2, x3, x4⟩ := box5 hb1)
        | (go_at_call 24; refine (sizeStrsT_c u ks _ p (by omega) (by omega) (huA _ ((hbx _).trans (hb1.mono (by simp)))) hk.1 hk.2).mono ?_; rintro e w2 ⟨rfl, rfl⟩; rw [← HQ.out]))
      · go_ret
        have hq : q = -1 := by
          have := HQ.out
          rw [leftS_N] at this
          by_cases h2 : ((bulkS ks : Nat) : Int) ≤ p
          · rw [leftN_good h2] at this; omega
          · rw [leftN_bad (by omega)] at this; exact this
        exact ⟨by rw [HE.out, ← HQ.out, hq]; rfl, (hbx _).trans (hb1.mono (by simp))⟩
      · go_ret
        exact ⟨by rw [HE.out, ← HQ.out]; rfl, (hbx _).trans (hb1.mono (by simp))⟩

set_option maxHeartbeats 2000000 in
set_option maxRecDepth 100000 in
theorem szValS_step (l : List Tree) (ih : ∀ U ∈ l, SzC U) : SzLC l := by
  intro S v w left hv hB h0 h1
  obtain ⟨a, cap, rfl, hl, hc, ha⟩ := hv.at
  unfold maxLen at hl
  by_cases hneg : left - (l.length : Int) < 0
  · have e : leftN (wtL l) left = -1 := leftN_bad (by have := length_le_wtL l; omega)
    rw [e]
    go_enter Tryd.func23, Tryd.ntmps23
    go_wp2_with fail
    go_ret
    exact ⟨rfl, Below.refl _ _⟩
  · rcases ha with rfl | ⟨b, off, rfl, hlt, ha⟩
    · have e : leftN (wtL []) left = left := by rw [leftN_good (by simpa [wtL] using h0)]; simp [wtL]
      rw [e]
      go_enter Tryd.func23, Tryd.ntmps23
      go_wp2_with fail
      go_loop [1, 5] (fun vl vi => vl = .int .i64 left ∧ vi = .int .i64 0) (fun _ _ => 0)
      case atStart => exact ⟨by simp, rfl⟩
      case round =>
        obtain ⟨rfl, rfl⟩ := hrel
        go_wp2_with fail
        go_ret
        exact ⟨rfl, Below.refl _ _⟩
    · go_enter Tryd.func23, Tryd.ntmps23
      go_wp2_with fail
      go_loopw [1, 5] (fun vl vi wr => ∃ (k : Nat) (q : Int), k ≤ l.length ∧ vi = .int .i64 (k : Int) ∧ vl = .int .i64 q ∧ 0 ≤ q ∧ q ≤ 1048576 ∧ Hid (q = left - (l.length : Int) - (wtL (l.take k) : Int) + (k : Int)) ∧ Below w.heap.size w wr) (fun _ vi _ => l.length - (intOf vi).toNat)
      case atStart => exact ⟨0, _, Nat.zero_le _, rfl, rfl, by omega, by omega, by show _ = _; simp [wtL], Below.refl _ _⟩
      case round =>
        obtain ⟨k, q, hk, rfl, rfl, hq0, hq1, hq, hbr⟩ := hrel
        by_cases hlt' : k < l.length
        · obtain ⟨c0, c1, c2, c3, c4, e0, e1, e2, e3, e4, hT⟩ := ha k hlt'
          have hlt2 : b < w.heap.size := hB b hlt
          rw [← hbr.cell (by simpa using hlt2)] at e0 e1 e2 e3 e4
          have ihk := ih _ (List.getElem_mem hlt')
          have hwt := wtL_take_succ l k hlt'
          obtain ⟨U, hU⟩ : ∃ U, U = l[k] := ⟨_, rfl⟩
          rw [← hU] at hT ihk hwt
          have HW : Hid (wtL (l.take (k + 1)) = wtL (l.take k) + 1 + U.wt) := hwt
          have hki : (k : Int) < (l.length : Int) := by omega
          have hT' := hT.keep (.of hbr hB)
          have hBr : ∀ b, S b → b < wr.heap.size := fun b h => Nat.lt_of_lt_of_le (hB b h) hbr.size
          obtain ⟨p, hp⟩ : ∃ p, p = leftN U.wt q := ⟨_, rfl⟩
          have HP : Hid (p = leftN U.wt q) := hp
          clear ha ih hwt hU hT hp hv
          by_cases hpn : p < 0
          · go_wp2_with (go_at_call 5; refine (ihk S _ _ q hT' hBr hq0 hq1).mono ?_; rintro e w1 ⟨rfl, hb1⟩; rw [← HP.out])
            go_ret
            have e : leftN (wtL l) left = -1 := by
              have h2 := HP.out; have h3 := hq.out; have h4 := HW.out; have h5 := wtL_take_rest l (k + 1)
              refine leftN_bad ?_
              by_cases h6 : (U.wt : Int) ≤ q
              · rw [leftN_good h6] at h2; omega
              · omega
            exact ⟨by rw [e]; rfl, hbr.trans (hb1.mono hbr.size)⟩
          · go_wp2_with (go_at_call 5; refine (ihk S _ _ q hT' hBr hq0 hq1).mono ?_; rintro e w1 ⟨rfl, hb1⟩; rw [← HP.out])
            go_roundw
            case rel =>
              have h2 := HP.out; have h3 := hq.out; have h4 := HW.out
              have h6 : (U.wt : Int) ≤ q := by
                by_cases h6 : (U.wt : Int) ≤ q
                · exact h6
                · rw [leftN_bad (by omega)] at h2; omega
              rw [leftN_good h6] at h2
              exact ⟨k + 1, p, by omega, by go_num, rfl, by omega, by omega, (by show _ = _; omega), hbr.trans (hb1.mono hbr.size)⟩
            case measure => simp [intOf]; omega
        · have he : k = l.length := by omega
          subst he
          clear ha
          go_wp2_with fail
          go_ret
          have e : leftN (wtL l) left = q := by
            have h3 := hq.out
            rw [List.take_length] at h3
            rw [leftN_good (by omega)]; omega
          exact ⟨by rw [e]; rfl, hbr⟩

theorem szVal_all : ∀ T, SzC T := by
  refine Tree.ind ?_
  intro k n s l ks ih
  exact szVal_step k n s l ks (szValS_step l ih)
#print axioms szVal_all
end Go.Proofs.YtkijckpkojcdcaaDoor

/-! A value copied into memory of its own, as the law's helper does it: a contract for every value that lies in memory and holds at most 2 to the 20. -/
namespace Go.Proofs.YtkijckpkojcdcaaDoor
open Go.RowKit
set_option linter.unusedSimpArgs false
set_option linter.unusedVariables false

/-- The blocks from lo on, below hi. -/
def Own (lo hi : Nat) (b : Nat) : Prop := lo ≤ b ∧ b < hi
theorem Own.set {lo hi : Nat} {w : World} {g j : Nat} {v : Value} (h : g < lo) : KeptIn (Own lo hi) w (w.setCell ⟨g, j, none⟩ v) := fun b hb => Below.heap_setCell w ⟨g, j, none⟩ v b (by have := hb.1; simp; omega)
theorem Own.below {lo : Nat} {w w' : World} (h : Below w.heap.size w w') : KeptIn (Own lo w.heap.size) w w' := fun b hb => h.block b hb.2
theorem Own.mono {lo lo' hi hi' : Nat} (h1 : lo' ≤ lo) (h2 : hi ≤ hi') : ∀ b, Own lo hi b → Own lo' hi' b := fun b h => ⟨Nat.le_trans h1 h.1, Nat.lt_of_lt_of_le h.2 h2⟩

def ToC (T : Tree) : Prop := ∀ (S : Nat → Prop) (v : Value) (w : World), Lies S w v T → (∀ b, S b → b < w.heap.size) → T.wt ≤ 1048576 →
  Calls Tryd.prog 7 #[v] w fun e w' => ∃ x, e = .returned x ∧ Lies (Own w.heap.size w'.heap.size) w' x T ∧ Below w.heap.size w w'
def ToLC (l : List Tree) : Prop := ∀ (S : Nat → Prop) (v : Value) (w : World), LiesL S w v l → (∀ b, S b → b < w.heap.size) → wtL l ≤ 1048576 →
  Calls Tryd.prog 27 #[v] w fun e w' => ∃ g, e = .returned (.slice (some ⟨g, 0, none⟩) l.length l.length) ∧ LiesL (Own w.heap.size w'.heap.size) w' (.slice (some ⟨g, 0, none⟩) l.length l.length) l ∧ Below w.heap.size w w'

theorem readsB_of_owns {w : World} {base : Nat} {e : TypeId} {v : Value} {n : Nat} {xs : List Value} (h : w.ownsRow base e 1 v n xs) : ReadsB (Own base w.heap.size) w v xs := by
  have h0 := reads_of_owns h
  obtain ⟨a, cap, hv, hc, hx⟩ := h0
  refine ⟨a, cap, hv, hc, ?_⟩
  rcases hx with hx | ⟨b, off, rfl, hlt, hx⟩
  · exact .inl hx
  · refine .inr ⟨b, off, rfl, ⟨?_, hlt⟩, hx⟩
    rcases h.2 with ⟨hn, _⟩ | ⟨g, cap', cur, hv', hg, _⟩
    · rw [hn] at hv; simp at hv
    · rw [hv'] at hv
      simp only [Value.slice.injEq, Option.some.injEq, Addr.mk.injEq] at hv
      omega

theorem toVal_facts {w1 w2 : World} {N : Nat} {t t' : TypeId} {x o0 o1 o2 o3 o4 r0 r1 r2 r3 r4 : Value} (hR : w1.heap[N + 1]? = some (.cells #[r0, r1, r2, r3, r4] t)) (hO : w1.heap[N + 1 + 1]? = some (.cells #[o0, o1, o2, o3, o4] t'))
    (hb : Below (w1.setCell ⟨N + 1 + 1, 3, none⟩ x).heap.size (w1.setCell ⟨N + 1 + 1, 3, none⟩ x) w2) :
    (w2.cell? ⟨N + 1 + 1, 0, none⟩ = some o0 ∧ w2.cell? ⟨N + 1 + 1, 1, none⟩ = some o1 ∧ w2.cell? ⟨N + 1 + 1, 2, none⟩ = some o2 ∧ w2.cell? ⟨N + 1 + 1, 3, none⟩ = some x ∧ w2.cell? ⟨N + 1 + 1, 4, none⟩ = some o4) ∧
    (w2.cell? ⟨N + 1, 0, none⟩ = some r0 ∧ w2.cell? ⟨N + 1, 1, none⟩ = some r1 ∧ w2.cell? ⟨N + 1, 2, none⟩ = some r2 ∧ w2.cell? ⟨N + 1, 3, none⟩ = some r3 ∧ w2.cell? ⟨N + 1, 4, none⟩ = some r4) ∧
    (∀ j, w2.frozen? ⟨N + 1 + 1, j, none⟩ = false) ∧ (∀ j, w2.frozen? ⟨N + 1, j, none⟩ = false) := by
  have l1 : N + 1 < w1.heap.size := (Array.getElem?_eq_some_iff.1 hR).1
  have l2 : N + 1 + 1 < w1.heap.size := (Array.getElem?_eq_some_iff.1 hO).1
  have s1 : (w1.setCell ⟨N + 1 + 1, 3, none⟩ x).heap.size = w1.heap.size := by simp [World.setCell]
  have eO := blk_set hO 3 x
  have eR : (w1.setCell ⟨N + 1 + 1, 3, none⟩ x).heap[N + 1]? = _ := (Below.heap_setCell w1 ⟨N + 1 + 1, 3, none⟩ x (N + 1) (by simp)).trans hR
  rw [← hb.block _ (by rw [s1]; exact l2)] at eO
  rw [← hb.block _ (by rw [s1]; exact l1)] at eR
  exact ⟨⟨blk_cell eO 0, blk_cell eO 1, blk_cell eO 2, blk_cell eO 3, blk_cell eO 4⟩, ⟨blk_cell eR 0, blk_cell eR 1, blk_cell eR 2, blk_cell eR 3, blk_cell eR 4⟩, blk_frozen eO, blk_frozen eR⟩

set_option maxHeartbeats 2000000 in
set_option maxRecDepth 100000 in
theorem toVal_step (k n : Int) (s : ByteArray) (l : List Tree) (ks : List ByteArray) (ih : ToLC l) : ToC (.mk k n s l ks) := by
  intro S v w hv hB hw
  rw [wt_mk] at hw
  obtain ⟨c, u, rfl, hs, hk, hl, hu⟩ := hv.out
  clear hv
  have hwl : wtL l ≤ 1048576 := by omega
  have hkn : ks.length ≤ 1099511627776 := by unfold bulkS at hw; omega
  have hb3 : ∀ A R O, Below w.heap.size w (((w.alloc A).alloc R).alloc O) := fun A R O => (((Below.refl _ _).alloc (Nat.le_refl _) _).alloc (by simp) _).alloc (by simp; omega) _
  have hlA : ∀ A R O, LiesL S (((w.alloc A).alloc R).alloc O) c l := fun A R O => hl.keep (.of (hb3 A R O) hB)
  have huA : ∀ w1, Below w.heap.size w w1 → Reads w1 u (strsV ks) := fun w1 h1 => (hu.keep (.of h1 hB)).reads (fun b h => Nat.lt_of_lt_of_le (hB b h) h1.size)
  have hBA : ∀ A R O b, S b → b < (((w.alloc A).alloc R).alloc O).heap.size := fun A R O b h => Nat.lt_of_lt_of_le (hB b h) (hb3 A R O).size
  go_enter Tryd.func7, Tryd.ntmps7
  go_wp2_with (first
    | (go_at_call 27; refine (ih S c _ (hlA _ _ _) (hBA _ _ _) hwl).mono ?_; rintro e w1 ⟨g, rfl, hL, hb1⟩; obtain ⟨hA, hR, hO⟩ := three hb1; have ca := blk_cell hA; have co := blk_cell hO; have fo := blk_frozen hO; have a4 := ca 4; have o3 := co 3; have f3 := fo 3; clear ca co fo; simp only [List.getElem?_toArray, List.getElem?_cons_succ, List.getElem?_cons_zero] at a4 o3)
    | (go_at_call 28; refine (toStrs_c u ks _ (huA _ (((hb3 _ _ _).trans (hb1.mono (by simp; omega))).setCell (by simp; omega) _)) hkn).mono ?_; rintro e w2 ⟨g2, rfl, hM, hb2⟩; obtain ⟨⟨p0, p1, p2, p3, p4⟩, ⟨q0, q1, q2, q3, q4⟩, fO, fR⟩ := toVal_facts hR hO hb2))
  have hz2 : ∀ a v, (w2.setCell a v).heap.size = w2.heap.size := fun a v => by simp [World.setCell]
  have s3 : ∀ A R O, (((w.alloc A).alloc R).alloc O).heap.size = w.heap.size + 1 + 1 + 1 := fun A R O => by simp
  rw [s3] at hb1 hL
  have z1 : ∀ a v, (w1.setCell a v).heap.size = w1.heap.size := fun a v => by simp [World.setCell]
  have hN : w.heap.size + 1 + 1 + 1 ≤ w1.heap.size := by have := hb1.size; rw [s3] at this; exact this
  have hN2 : w1.heap.size ≤ w2.heap.size := by have := hb2.size; rw [z1] at this; exact this
  have k1 : KeptIn (Own (w.heap.size + 1 + 1 + 1) w1.heap.size) w1 w2 := (Own.set (by omega)).trans (.of hb2 fun b hb => by rw [z1]; exact hb.2)
  have hM' := readsB_of_owns hM
  rw [z1] at hM'
  refine bodyPost_ret (v := .agg #[.int .i64 k, .int .i64 n, .string s, .slice (some ⟨g, 0, none⟩) l.length l.length, .slice (some ⟨g2, 0, none⟩) ks.length ks.length]) (by simp [results, Tryd.results7, go_sem, p0, p1, p2, p3, p4, q0, q1, q2, q3, q4]) rfl ⟨_, rfl, ?_, ?_⟩
  · refine Lies.mono (S := Own (w.heap.size + 1 + 1 + 1) w2.heap.size) (Own.mono (by omega) (by simp [World.setCell])) ?_
    refine Lies.keep (w := w2) ?_ (Lies.of hs hk ((hL.keep k1).mono (Own.mono (Nat.le_refl _) hN2)) (hM'.mono (Own.mono hN (Nat.le_refl _))))
    refine KeptIn.trans (KeptIn.trans (KeptIn.trans (KeptIn.trans (KeptIn.trans (Own.set ?_) (Own.set ?_)) (Own.set ?_)) (Own.set ?_)) (Own.set ?_)) (Own.set ?_) <;> omega
  · have b1 := ((hb3 _ _ _).trans (hb1.mono (by omega)))
    have b2 := (b1.setCell (p := ⟨w.heap.size + 1 + 1, 3, none⟩) (by simp; omega) (.slice (some ⟨g, 0, none⟩) l.length l.length)).trans (hb2.mono (by rw [z1]; omega))
    refine Below.setCell (Below.setCell (Below.setCell (Below.setCell (Below.setCell (Below.setCell b2 ?_ _) ?_ _) ?_ _) ?_ _) ?_ _) ?_ _ <;> simp <;> omega

theorem infoVal : (Tryd.prog.info? 30).map (fun i => (i.zero, i.size, i.bytes)) = some (some (.agg #[.int .i64 0, .int .i64 0, .string ⟨#[]⟩, .slice none 0 0, .slice none 0 0]), 5, 80) := by kernel_rfl

def cellsAt (ys : List Value) (i : Nat) : Value := .agg #[ys.getD (i * 5) undef, ys.getD (i * 5 + 1) undef, ys.getD (i * 5 + 2) undef, ys.getD (i * 5 + 3) undef, ys.getD (i * 5 + 4) undef]

def set5 (ys : List Value) (i : Nat) (c0 c1 c2 c3 c4 : Value) : List Value := ((((ys.set (i * 5) c0).set (i * 5 + 1) c1).set (i * 5 + 2) c2).set (i * 5 + 3) c3).set (i * 5 + 4) c4

theorem cellsAt_same (ys : List Value) (i : Nat) (c0 c1 c2 c3 c4 : Value) (h : i * 5 + 4 < ys.length) : cellsAt (set5 ys i c0 c1 c2 c3 c4) i = .agg #[c0, c1, c2, c3, c4] := by
  simp [cellsAt, set5, List.getD_eq_getElem?_getD, List.getElem?_set, h, show i * 5 < ys.length by omega, show i * 5 + 1 < ys.length by omega, show i * 5 + 2 < ys.length by omega, show i * 5 + 3 < ys.length by omega]

theorem getD_set_ne (ys : List Value) (a b : Nat) (v : Value) (h : a ≠ b) : (ys.set a v).getD b undef = ys.getD b undef := by
  simp [List.getD_eq_getElem?_getD, List.getElem?_set, h]

theorem cellsAt_other (ys : List Value) (i j : Nat) (c0 c1 c2 c3 c4 : Value) (h : j < i) : cellsAt (set5 ys i c0 c1 c2 c3 c4) j = cellsAt ys j := by
  have e : ∀ q, q < 5 → (set5 ys i c0 c1 c2 c3 c4).getD (j * 5 + q) undef = ys.getD (j * 5 + q) undef := fun q hq => by
    unfold set5
    rw [getD_set_ne _ _ _ _ (by omega), getD_set_ne _ _ _ _ (by omega), getD_set_ne _ _ _ _ (by omega), getD_set_ne _ _ _ _ (by omega), getD_set_ne _ _ _ _ (by omega)]
  have e0 := e 0 (by omega)
  rw [Nat.add_zero] at e0
  simp only [cellsAt, e0, e 1 (by omega), e 2 (by omega), e 3 (by omega), e 4 (by omega)]

theorem liesL_of_owns {w : World} {lo g n : Nat} {ys : List Value} {l : List Tree} (hg : w.ownsRow lo 30 5 (.slice (some ⟨g, 0, none⟩) n n) n ys) (hn : n = l.length) (hl : l.length ≤ maxLen) (hlo : lo ≤ g)
    (h : ∀ i (h : i < l.length), Lies (Own lo w.heap.size) w (cellsAt ys i) l[i]) : LiesL (Own lo w.heap.size) w (.slice (some ⟨g, 0, none⟩) l.length l.length) l := by
  subst hn
  refine ⟨_, _, fun i j => ys.getD (i * 5 + j) undef, rfl, hl, Nat.le_refl _, ?_, fun i hi => h i hi⟩
  have hlen := hg.1
  by_cases h0 : l = []
  · exact .inl h0
  · have hpos : 0 < l.length := List.length_pos_iff.2 h0
    refine .inr ⟨g, 0, rfl, ⟨hlo, ?_⟩, fun i hi j hj => ?_⟩
    · have := hg.cellAt 0 (by omega)
      have h2 : w.cell? ⟨g, 0, none⟩ = some (ys.getD 0 undef) := by rw [this]; simp [List.getD_eq_getElem?_getD, show 0 < ys.length by omega]
      exact World.block_lt_of_cell? w _ h2
    · rw [Nat.zero_add, hg.cellAt _ (by omega)]
      simp [List.getD_eq_getElem?_getD, show i * 5 + j < ys.length by omega]

end Go.Proofs.YtkijckpkojcdcaaDoor

/-! A list of values copied into memory of its own; with it every value: a contract for what lies in memory and holds at most 2 to the 20. -/
namespace Go.Proofs.YtkijckpkojcdcaaDoor
open Go.RowKit
set_option linter.unusedSimpArgs false
set_option linter.unusedVariables false

/-- What lies in memory, with its two lists written out. -/
theorem Lies.parts {S : Nat → Prop} {w : World} {v : Value} {T : Tree} (h : Lies S w v T) :
    ∃ k n s a m cap a' m' cap', v = .agg #[.int .i64 k, .int .i64 n, .string s, .slice a m cap, .slice a' m' cap'] := by
  cases T with
  | mk k n s l ks =>
    obtain ⟨c, u, rfl, hs, hk, ⟨a, cap, C, rfl, _⟩, ⟨a', cap', rfl, _⟩⟩ := h.out
    exact ⟨_, _, _, _, _, _, _, _, _, rfl⟩

set_option maxHeartbeats 2000000 in
set_option maxRecDepth 100000 in
theorem toValS_step (l : List Tree) (ih : ∀ U ∈ l, ToC U) : ToLC l := by
  intro S v w hv hB hw
  obtain ⟨a, cap, rfl, hl, hc, ha⟩ := hv.at
  have hn := length_le_wtL l
  have hlm : l.length ≤ maxLen := hl
  unfold maxLen at hl
  obtain ⟨i0, hi, hz0, hz1, hz2⟩ := info_parts infoVal
  go_enter Tryd.func27, Tryd.ntmps27
  go_wp2_with (first
    | (at_make; refine wpList_make_full _ rfl _ _ 28 rfl w.heap.size 30 i0 _ 5 Tryd.underlying28 hi hz0 hz1 _ _ _ _ l.length rfl rfl rfl rfl (by rw [hz2]; omega) (by unfold maxLen; omega) (Nat.le_refl _) ?_))
  intro w1 hown hgrow
  have hb1 := below_of_grown hgrow
  have hs1 : w.heap.size + 1 ≤ w1.heap.size := by
    rcases hown.2 with ⟨h, _⟩ | ⟨g, cap, cur, h, _, hg, _⟩
    · simp at h
    · simp at h
      have := (Array.getElem?_eq_some_iff.1 hg).1
      omega
  obtain ⟨ys1, hown1⟩ : ∃ ys, w1.ownsRow w.heap.size 30 5 (.slice (some ⟨w.heap.size, 0, none⟩) l.length l.length) l.length ys := ⟨_, hown⟩
  clear hgrow hown
  go_wp2_with fail
  go_loopw [4] (fun vi wr => ∃ (k : Nat) (ys : List Value), k ≤ l.length ∧ vi = .int .i64 (k : Int) ∧ wr.ownsRow w.heap.size 30 5 (.slice (some ⟨w.heap.size, 0, none⟩) l.length l.length) l.length ys ∧ Hid (∀ i (h : i < l.length), i < k → Lies (Own (w.heap.size + 1) wr.heap.size) wr (cellsAt ys i) l[i]) ∧ Below w.heap.size w wr ∧ w.heap.size + 1 ≤ wr.heap.size) (fun vi _ => l.length - (intOf vi).toNat)
  case atStart => exact ⟨0, ys1, Nat.zero_le _, rfl, hown1, (fun i h h0 => by omega), hb1, hs1⟩
  case round =>
    obtain ⟨k, ys, hk, rfl, hownr, hy, hbr, hsr⟩ := hrel
    by_cases hlt' : k < l.length
    · rcases ha with rfl | ⟨b, off, rfl, hlt, ha⟩
      · simp at hlt'
      obtain ⟨c0, c1, c2, c3, c4, e0, e1, e2, e3, e4, hT⟩ := ha k hlt'
      have hlt2 : b < w.heap.size := hB b hlt
      rw [← hbr.cell (by simpa using hlt2)] at e0 e1 e2 e3 e4
      have ihk := ih _ (List.getElem_mem hlt')
      have hwt : (l[k]).wt ≤ 1048576 := by have := wt_le_wtL (List.getElem_mem hlt'); omega
      obtain ⟨U, hU⟩ : ∃ U, U = l[k] := ⟨_, rfl⟩
      rw [← hU] at hT ihk hwt
      have HU : Hid (U = l[k]) := hU
      have hki : (k : Int) < (l.length : Int) := by omega
      have hT' := hT.keep (.of hbr hB)
      have hBr : ∀ b, S b → b < wr.heap.size := fun b h => Nat.lt_of_lt_of_le (hB b h) hbr.size
      have hown2 : ∀ w2, Below wr.heap.size wr w2 → w2.ownsRow w.heap.size 30 5 (.slice (some ⟨w.heap.size, 0, none⟩) l.length l.length) l.length ys := fun w2 h2 => hownr.kept (grown_of_below h2 none) (by simp [Value.ownBlock])
      have hlen := hownr.1
      have hcl : ∀ w2, Below wr.heap.size wr w2 → ∀ j, j < 5 → ∃ x, w2.cell? ⟨w.heap.size, k * 5 + j, none⟩ = some x := fun w2 h2 j hj => ⟨ys.getD (k * 5 + j) undef, by rw [(hown2 w2 h2).cellAt _ (by omega)]; simp [List.getD_eq_getElem?_getD, show k * 5 + j < ys.length by omega]⟩
      have hfr : ∀ w2, Below wr.heap.size wr w2 → ∀ j, w2.frozen? ⟨w.heap.size, j, none⟩ = false := fun w2 h2 j => (hown2 w2 h2).frozenAt j
      have HC : Hid (∀ w2, Below wr.heap.size wr w2 → ∀ j, j < 5 → ∃ x, w2.cell? ⟨w.heap.size, k * 5 + j, none⟩ = some x) := hcl
      have HF : Hid (∀ w2, Below wr.heap.size wr w2 → ∀ j, w2.frozen? ⟨w.heap.size, j, none⟩ = false) := hfr
      have HO : Hid (∀ w2, Below wr.heap.size wr w2 → w2.ownsRow w.heap.size 30 5 (.slice (some ⟨w.heap.size, 0, none⟩) l.length l.length) l.length ys) := hown2
      clear ha ih hU hT hv hcl hfr hown2 hi hz0 hz1 hz2 hown1 hb1
      go_wp2_with (go_at_call 7; refine (ihk S _ _ hT' hBr hwt).mono ?_; rintro e w2 ⟨x, rfl, hX, hb2⟩; obtain ⟨k9, n9, s9, a9, m9, q9, a8, m8, q8, rfl⟩ := hX.parts; obtain ⟨y0, d0⟩ := HC.out w2 hb2 0 (by omega); obtain ⟨y1, d1⟩ := HC.out w2 hb2 1 (by omega); obtain ⟨y2, d2⟩ := HC.out w2 hb2 2 (by omega); obtain ⟨y3, d3⟩ := HC.out w2 hb2 3 (by omega); obtain ⟨y4, d4⟩ := HC.out w2 hb2 4 (by omega); rw [Nat.add_zero] at d0; have f9 := HF.out w2 hb2)
      go_roundw
      case rel =>
        have hz : ∀ c0 c1 c2 c3 c4 : Value, (((((w2.setCell ⟨w.heap.size, k * 5, none⟩ c0).setCell ⟨w.heap.size, k * 5 + 1, none⟩ c1).setCell ⟨w.heap.size, k * 5 + 2, none⟩ c2).setCell ⟨w.heap.size, k * 5 + 3, none⟩ c3).setCell ⟨w.heap.size, k * 5 + 4, none⟩ c4).heap.size = w2.heap.size := fun _ _ _ _ _ => by simp [World.setCell]
        have hk5 : ∀ c0 c1 c2 c3 c4 : Value, KeptIn (Own (w.heap.size + 1) w2.heap.size) w2 (((((w2.setCell ⟨w.heap.size, k * 5, none⟩ c0).setCell ⟨w.heap.size, k * 5 + 1, none⟩ c1).setCell ⟨w.heap.size, k * 5 + 2, none⟩ c2).setCell ⟨w.heap.size, k * 5 + 3, none⟩ c3).setCell ⟨w.heap.size, k * 5 + 4, none⟩ c4) := fun _ _ _ _ _ => by
          refine KeptIn.trans (KeptIn.trans (KeptIn.trans (KeptIn.trans (Own.set ?_) (Own.set ?_)) (Own.set ?_)) (Own.set ?_)) (Own.set ?_) <;> omega
        refine ⟨k + 1, set5 ys k (.int .i64 k9) (.int .i64 n9) (.string s9) (.slice a9 m9 q9) (.slice a8 m8 q8), by omega, by go_num, (((((HO.out w2 hb2).stored (k * 5) _).1.stored (k * 5 + 1) _).1.stored (k * 5 + 2) _).1.stored (k * 5 + 3) _).1.stored (k * 5 + 4) _ |>.1, fun i h h1 => ?_, ?_, ?_⟩
        · rw [hz]
          refine Lies.keep (hk5 _ _ _ _ _) ?_
          by_cases hik : i = k
          · subst hik
            rw [cellsAt_same _ _ _ _ _ _ _ (by omega), ← HU.out]
            exact hX.mono (Own.mono (by omega) (Nat.le_refl _))
          · rw [cellsAt_other _ _ _ _ _ _ _ _ (by omega)]
            exact ((hy.out i h (by omega)).keep (Own.below hb2)).mono (Own.mono (Nat.le_refl _) hb2.size)
        · have b2 := hbr.trans (hb2.mono (by omega))
          refine Below.setCell (Below.setCell (Below.setCell (Below.setCell (Below.setCell b2 ?_ _) ?_ _) ?_ _) ?_ _) ?_ _ <;> simp
        · rw [hz]; have := hb2.size; omega
      case measure => simp [intOf]; omega
    · have he : k = l.length := by omega
      subst he
      clear ha
      go_wp2_with fail
      go_ret
      refine ⟨_, rfl, ?_, hbr⟩
      exact liesL_of_owns hownr rfl hlm (Nat.le_refl _) fun i h => (hy.out i h h).mono (Own.mono (by omega) (Nat.le_refl _))

theorem toVal_all : ∀ T, ToC T := by
  refine Tree.ind ?_
  intro k n s l ks ih
  exact toVal_step k n s l ks (toValS_step l ih)
#print axioms toVal_all
end Go.Proofs.YtkijckpkojcdcaaDoor

/-! Two values that are the same tree are told so by the law's own comparison: a contract for every two that lie in memory. -/
namespace Go.Proofs.YtkijckpkojcdcaaDoor
open Go.RowKit
set_option linter.unusedSimpArgs false
set_option linter.unusedVariables false

def EqC (T : Tree) : Prop := ∀ (S S' : Nat → Prop) (v u : Value) (w : World), Lies S w v T → Lies S' w u T → (∀ b, S b → b < w.heap.size) → (∀ b, S' b → b < w.heap.size) → T.wt ≤ 1048576 →
  Calls Tryd.prog 9 #[v, u] w fun e w' => e = .returned (.bool true) ∧ Below w.heap.size w w'
def EqLC (l : List Tree) : Prop := ∀ (S S' : Nat → Prop) (v u : Value) (w : World), LiesL S w v l → LiesL S' w u l → (∀ b, S b → b < w.heap.size) → (∀ b, S' b → b < w.heap.size) → wtL l ≤ 1048576 →
  Calls Tryd.prog 31 #[v, u] w fun e w' => e = .returned (.bool true) ∧ Below w.heap.size w w'

theorem two5 {w w1 : World} {c0 c1 c2 c3 c4 d0 d1 d2 d3 d4 : Value} {t : TypeId} (hb : Below ((w.alloc (.cells #[c0, c1, c2, c3, c4] t)).alloc (.cells #[d0, d1, d2, d3, d4] t)).heap.size ((w.alloc (.cells #[c0, c1, c2, c3, c4] t)).alloc (.cells #[d0, d1, d2, d3, d4] t)) w1) :
    w1.cell? ⟨w.heap.size, 4, none⟩ = some c4 ∧ w1.cell? ⟨w.heap.size + 1, 4, none⟩ = some d4 := by
  have s1 : (w.alloc (.cells #[c0, c1, c2, c3, c4] t)).heap.size = w.heap.size + 1 := by simp
  have h1 : w1.heap[w.heap.size]? = some (.cells #[c0, c1, c2, c3, c4] t) := by rw [hb.block _ (by simp; omega), heap_old _ _ (by simp), heap_new]
  have h2 : w1.heap[w.heap.size + 1]? = some (.cells #[d0, d1, d2, d3, d4] t) := by rw [hb.block _ (by simp), ← s1, heap_new]
  exact ⟨blk_cell h1 4, blk_cell h2 4⟩

set_option maxHeartbeats 2000000 in
set_option maxRecDepth 100000 in
theorem eqVal_step (k n : Int) (s : ByteArray) (l : List Tree) (ks : List ByteArray) (ih : EqLC l) : EqC (.mk k n s l ks) := by
  intro S S' v u w hv hv' hB hB' hw
  rw [wt_mk] at hw
  obtain ⟨c, u, rfl, hs, hk, hl, hu⟩ := hv.out
  obtain ⟨c', u', rfl, _, _, hl', hu'⟩ := hv'.out
  clear hv hv'
  have hwl : wtL l ≤ 1048576 := by omega
  have hkn : ks.length ≤ 1099511627776 := by unfold bulkS at hw; omega
  have hb2 : ∀ A R, Below w.heap.size w ((w.alloc A).alloc R) := fun A R => ((Below.refl _ _).alloc (Nat.le_refl _) _).alloc (by simp) _
  have hlA : ∀ A R, LiesL S ((w.alloc A).alloc R) c l := fun A R => hl.keep (.of (hb2 A R) hB)
  have hlA' : ∀ A R, LiesL S' ((w.alloc A).alloc R) c' l := fun A R => hl'.keep (.of (hb2 A R) hB')
  have huA : ∀ w1, Below w.heap.size w w1 → Reads w1 u (strsV ks) := fun w1 h1 => (hu.keep (.of h1 hB)).reads (fun b h => Nat.lt_of_lt_of_le (hB b h) h1.size)
  have huA' : ∀ w1, Below w.heap.size w w1 → Reads w1 u' (strsV ks) := fun w1 h1 => (hu'.keep (.of h1 hB')).reads (fun b h => Nat.lt_of_lt_of_le (hB' b h) h1.size)
  have hBA : ∀ A R b, S b → b < ((w.alloc A).alloc R).heap.size := fun A R b h => Nat.lt_of_lt_of_le (hB b h) (hb2 A R).size
  have hBA' : ∀ A R b, S' b → b < ((w.alloc A).alloc R).heap.size := fun A R b h => Nat.lt_of_lt_of_le (hB' b h) (hb2 A R).size
  go_enter Tryd.func9, Tryd.ntmps9
  go_wp2_with (first
    | (go_at_call 31; refine (ih S S' c c' _ (hlA _ _) (hlA' _ _) (hBA _ _) (hBA' _ _) hwl).mono ?_; rintro e w1 ⟨rfl, hb1⟩; obtain ⟨x4, y4⟩ := two5 hb1)
    | (go_at_call 32; refine (eqStrs_c u u' ks ks _ (huA _ ((hb2 _ _).trans (hb1.mono (by simp; omega)))) (huA' _ ((hb2 _ _).trans (hb1.mono (by simp; omega)))) hkn).mono ?_; rintro e w3 ⟨rfl, hb3⟩; rw [decide_eq_true (rfl : ks = ks)]))
  go_ret
  exact ⟨rfl, ((hb2 _ _).trans (hb1.mono (by simp; omega))).trans (hb3.mono (by have := hb1.size; simp at this; omega))⟩

set_option maxHeartbeats 2000000 in
set_option maxRecDepth 100000 in
theorem eqValS_step (l : List Tree) (ih : ∀ U ∈ l, EqC U) : EqLC l := by
  intro S S' v u w hv hv' hB hB' hw
  obtain ⟨a, cap, rfl, hl, hc, ha⟩ := hv.at
  obtain ⟨a', cap', rfl, _, hc', ha'⟩ := hv'.at
  unfold maxLen at hl
  go_enter Tryd.func31, Tryd.ntmps31
  go_wp2_with fail
  go_loopw [5] (fun vi wr => ∃ k : Nat, k ≤ l.length ∧ vi = .int .i64 (k : Int) ∧ Below w.heap.size w wr) (fun vi _ => l.length - (intOf vi).toNat)
  case atStart => exact ⟨0, Nat.zero_le _, rfl, Below.refl _ _⟩
  case round =>
    obtain ⟨k, hk, rfl, hbr⟩ := hrel
    by_cases hlt' : k < l.length
    · rcases ha with rfl | ⟨b, off, rfl, hlt, ha⟩
      · simp at hlt'
      rcases ha' with rfl | ⟨b', off', rfl, hlt3, ha'⟩
      · simp at hlt'
      obtain ⟨c0, c1, c2, c3, c4, e0, e1, e2, e3, e4, hT⟩ := ha k hlt'
      obtain ⟨d0, d1, d2, d3, d4, g0, g1, g2, g3, g4, hT2⟩ := ha' k hlt'
      have hlt2 : b < w.heap.size := hB b hlt
      have hlt4 : b' < w.heap.size := hB' b' hlt3
      rw [← hbr.cell (by simpa using hlt2)] at e0 e1 e2 e3 e4
      rw [← hbr.cell (by simpa using hlt4)] at g0 g1 g2 g3 g4
      have ihk := ih _ (List.getElem_mem hlt')
      have hwt : (l[k]).wt ≤ 1048576 := by have := wt_le_wtL (List.getElem_mem hlt'); omega
      obtain ⟨U, hU⟩ : ∃ U, U = l[k] := ⟨_, rfl⟩
      rw [← hU] at hT hT2 ihk hwt
      have hki : (k : Int) < (l.length : Int) := by omega
      have hBr : ∀ b, S b → b < wr.heap.size := fun b h => Nat.lt_of_lt_of_le (hB b h) hbr.size
      have hBr' : ∀ b, S' b → b < wr.heap.size := fun b h => Nat.lt_of_lt_of_le (hB' b h) hbr.size
      have hT3 : Lies S wr.drew _ U := (hT.keep (.of hbr.drew hB))
      have hT4 : Lies S' wr.drew _ U := (hT2.keep (.of hbr.drew hB'))
      clear ha ha' ih hU hT hT2 hv hv'
      go_wp2_with fail
      go_region_with (go_at_call 9; refine (ihk S S' _ _ wr.drew hT3 hT4 hBr hBr' hwt).mono ?_; rintro e w2 ⟨rfl, hb2⟩)
      all_goals go_wp2_with fail
      all_goals go_roundw
      all_goals first
        | exact ⟨k + 1, by omega, by go_num, hbr.drew.trans (hb2.mono hbr.size)⟩
        | (simp [intOf]; omega)
    · have he : k = l.length := by omega
      subst he
      clear ha ha'
      go_wp2_with fail
      go_ret
      exact ⟨rfl, hbr⟩

theorem eqVal_all : ∀ T, EqC T := by
  refine Tree.ind ?_
  intro k n s l ks ih
  exact eqVal_step k n s l ks (eqValS_step l ih)
#print axioms eqVal_all
end Go.Proofs.YtkijckpkojcdcaaDoor

/-! Trees of values that may be written, no two rows of which are the same, and such as bear marks: what they are, and that they are kept; no condition. -/
namespace Go.Proofs.YtkijckpkojcdcaaDoor
open Go.RowKit
set_option linter.unusedSimpArgs false
set_option linter.unusedVariables false

def Tree.kids : Tree → List Tree
  | .mk _ _ _ l _ => l
def Tree.keys : Tree → List ByteArray
  | .mk _ _ _ _ ks => ks
mutual
/-- How many marks a tree takes below its own, and a list of trees. -/
def Tree.cnt : Tree → Nat
  | .mk _ _ _ l ks => 3 + cntL l + ks.length
def cntL : List Tree → Nat
  | [] => 0
  | t :: r => t.cnt + cntL r
end
theorem cnt_eq (T : Tree) : T.cnt = 3 + cntL T.kids + T.keys.length := by
  cases T; rw [Tree.cnt]; rfl
theorem cntL_append (a b : List Tree) : cntL (a ++ b) = cntL a + cntL b := by
  induction a with
  | nil => simp [cntL]
  | cons t r ih => simp only [List.cons_append, cntL, ih]; omega
theorem cntL_take (l : List Tree) (k : Nat) (h : k < l.length) : cntL (l.take (k + 1)) = cntL (l.take k) + l[k].cnt := by
  rw [List.take_succ_eq_append_getElem h, cntL_append]; simp [cntL]
theorem cntL_take_le (l : List Tree) (k : Nat) : cntL (l.take k) ≤ cntL l := by
  conv => rhs; rw [← List.take_append_drop k l, cntL_append]
  omega

/-- Rows of values that may be written: their blocks lie in S, no two of them are the same. -/
inductive OwnL (w : World) : (Nat → Prop) → Value → List Tree → Prop
  | mk (S : Nat → Prop) (v : Value) (l : List Tree) (ys : List Value) (C U : Nat → Value) (B K : Nat → Nat → Prop)
      (hrow : w.ownsRow 0 30 5 v l.length ys)
      (hg : ∀ g, v.ownBlock = some g → S g ∧ ∀ i, ¬ B i g ∧ ¬ K i g)
      (hc : ∀ i, i < l.length → (∃ c0 c1 c2, ys[i * 5]? = some c0 ∧ ys[i * 5 + 1]? = some c1 ∧ ys[i * 5 + 2]? = some c2) ∧ ys[i * 5 + 3]? = some (C i) ∧ ys[i * 5 + 4]? = some (U i))
      (hB : ∀ i b, B i b → S b) (hK : ∀ i b, K i b → S b)
      (hBB : ∀ i j b, i ≠ j → B i b → ¬ B j b) (hBK : ∀ i j b, B i b → ¬ K j b) (hKK : ∀ i j b, i ≠ j → K i b → ¬ K j b)
      (hC : ∀ i (h : i < l.length), OwnL w (B i) (C i) l[i].kids)
      (hU : ∀ i (h : i < l.length), ∃ xs, w.ownsRow 0 9 1 (U i) l[i].keys.length xs ∧ ∀ g, (U i).ownBlock = some g → K i g) : OwnL w S v l

/-- Rows of values that bear the marks from k on. -/
inductive MarkL (w : World) (S : Nat → Prop) : Nat → Value → List Tree → Prop
  | mk (k : Nat) (v : Value) (l : List Tree) (ys : List Value) (C U : Nat → Value)
      (hrow : w.ownsRow 0 30 5 v l.length ys) (hg : ∀ g, v.ownBlock = some g → S g)
      (hc : ∀ i, i < l.length → ys[i * 5]? = some (.int .i64 ((k + cntL (l.take i) : Nat) : Int)) ∧ ys[i * 5 + 1]? = some (.int .i64 ((k + cntL (l.take i) + 1 : Nat) : Int)) ∧ ys[i * 5 + 2]? = some (.string (markStr (k + cntL (l.take i) + 2))) ∧ ys[i * 5 + 3]? = some (C i) ∧ ys[i * 5 + 4]? = some (U i))
      (hC : ∀ i (h : i < l.length), MarkL w S (k + cntL (l.take i) + 3) (C i) l[i].kids)
      (hU : ∀ i (h : i < l.length), RdB S w (U i) (strsV (marksS (k + cntL (l.take i) + 3 + cntL l[i].kids) l[i].keys.length))) : MarkL w S k v l

theorem OwnL.keep {S : Nat → Prop} {w w' : World} {v : Value} {l : List Tree} (h : OwnL w S v l) : Kp S w w' → OwnL w' S v l := by
  induction h with
  | mk S v l ys C U B K hrow hg hc hB hK hBB hBK hKK hC hU ih =>
    intro hk
    refine .mk S v l ys C U B K (owns_kept hk (fun g h => (hg g h).1) hrow) hg hc hB hK hBB hBK hKK (fun i h => ih i h (fun b hb => hk b (hB i b hb))) (fun i h => ?_)
    obtain ⟨xs, h1, h2⟩ := hU i h
    exact ⟨xs, owns_kept hk (fun g h => hK i g (h2 g h)) h1, h2⟩
theorem MarkL.keep {S : Nat → Prop} {w w' : World} {k : Nat} {v : Value} {l : List Tree} (h : MarkL w S k v l) : Kp S w w' → MarkL w' S k v l := by
  induction h with
  | mk k v l ys C U hrow hg hc hC hU ih =>
    intro hk
    exact .mk k v l ys C U (owns_kept hk hg hrow) hg hc (fun i h => ih i h hk) (fun i h => (hU i h).keep hk)
theorem MarkL.mono {S : Nat → Prop} {w : World} {k : Nat} {v : Value} {l : List Tree} (h : MarkL w S k v l) : ∀ {S' : Nat → Prop}, (∀ b, S b → S' b) → MarkL w S' k v l := by
  induction h with
  | mk k v l ys C U hrow hg hc hC hU ih =>
    intro S' hs
    exact .mk k v l ys C U hrow (fun g h => hs g (hg g h)) hc (fun i h => ih i h hs) (fun i h => (hU i h).mono hs)
theorem OwnL.slice {S : Nat → Prop} {w : World} {v : Value} {l : List Tree} (h : OwnL w S v l) : ∃ q cap, v = .slice q l.length cap := by
  cases h with
  | mk S v l ys C U B K hrow =>
    rcases hrow.2 with ⟨h1, h2⟩ | ⟨g, cap, cur, h1, _⟩
    · exact ⟨none, 0, by rw [h1, h2]⟩
    · exact ⟨_, _, h1⟩
theorem MarkL.slice {S : Nat → Prop} {w : World} {k : Nat} {v : Value} {l : List Tree} (h : MarkL w S k v l) : ∃ q cap, v = .slice q l.length cap := by
  cases h with
  | mk k v l ys C U hrow =>
    rcases hrow.2 with ⟨h1, h2⟩ | ⟨g, cap, cur, h1, _⟩
    · exact ⟨none, 0, by rw [h1, h2]⟩
    · exact ⟨_, _, h1⟩

/-- From w to w' only blocks of S, and new ones, have changed. -/
structure Chg (S : Nat → Prop) (w w' : World) : Prop where
  os : w'.os = w.os
  tape : w'.tape = w.tape
  output : w'.output = w.output
  size : w.heap.size ≤ w'.heap.size
  block : ∀ b, b < w.heap.size → ¬ S b → w'.heap[b]? = w.heap[b]?
theorem Chg.refl (S : Nat → Prop) (w : World) : Chg S w w := ⟨rfl, rfl, rfl, Nat.le_refl _, fun _ _ _ => rfl⟩
theorem Chg.trans {S : Nat → Prop} {a b c : World} (h : Chg S a b) (k : Chg S b c) : Chg S a c :=
  ⟨k.os.trans h.os, k.tape.trans h.tape, k.output.trans h.output, Nat.le_trans h.size k.size, fun i hi hs => (k.block i (Nat.lt_of_lt_of_le hi h.size) hs).trans (h.block i hi hs)⟩
theorem Chg.mono {S S' : Nat → Prop} {a b : World} (h : Chg S a b) (hs : ∀ b, S b → S' b) : Chg S' a b := ⟨h.os, h.tape, h.output, h.size, fun i hi hn => h.block i hi (fun k => hn (hs i k))⟩
theorem Chg.of {S : Nat → Prop} {a b : World} (h : Below a.heap.size a b) : Chg S a b := ⟨h.os, h.tape, h.output, h.size, fun i hi _ => h.block i hi⟩
theorem Chg.kp {S R : Nat → Prop} {a b : World} (h : Chg S a b) (hr : ∀ i, R i → i < a.heap.size ∧ ¬ S i) : Kp R a b := fun i hi => h.block i (hr i hi).1 (hr i hi).2
end Go.Proofs.YtkijckpkojcdcaaDoor
