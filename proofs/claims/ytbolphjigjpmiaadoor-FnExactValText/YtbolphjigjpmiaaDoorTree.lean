/-
  A value as a tree, how much it holds, and what it means that it lies in memory below a block number; no condition but those told.
-/
import Derived.Test.YtbolphjigjpmiaaDoorStrs
namespace Go.Proofs.YtbolphjigjpmiaaDoor
open Go.RowKit
set_option linter.unusedSimpArgs false
set_option linter.unusedVariables false

inductive Tree where
  | mk (k n : Int) (s : ByteArray) (l : List Tree) (keys : List ByteArray) : Tree

theorem Tree.ind {P : Tree → Prop} (h : ∀ k n s l ks, (∀ U ∈ l, P U) → P (.mk k n s l ks)) : ∀ T, P T
  | .mk k n s l ks => h k n s l ks (fun U _ => Tree.ind h U)
  termination_by T => SizeOf.sizeOf T
  decreasing_by
    rename_i hU
    have := List.sizeOf_lt_of_mem hU
    simp
    omega

mutual
def Tree.wt : Tree → Nat
  | .mk _ _ s l ks => s.size + (wtL l + bulkS ks)
def wtL : List Tree → Nat
  | [] => 0
  | t :: r => 1 + t.wt + wtL r
end

theorem wtL_append (a b : List Tree) : wtL (a ++ b) = wtL a + wtL b := by
  induction a with
  | nil => simp [wtL]
  | cons t r ih => simp only [List.cons_append, wtL, ih]; omega

theorem wtL_take_succ (l : List Tree) (k : Nat) (h : k < l.length) : wtL (l.take (k + 1)) = wtL (l.take k) + 1 + (l[k]).wt := by
  rw [List.take_succ_eq_append_getElem h, wtL_append]
  simp [wtL]; omega

theorem wtL_take_le (l : List Tree) (k : Nat) : wtL (l.take k) ≤ wtL l := by
  conv => rhs; rw [← List.take_append_drop k l, wtL_append]
  omega

theorem length_le_wtL (l : List Tree) : l.length ≤ wtL l := by
  induction l with
  | nil => simp
  | cons t r ih => simp only [List.length_cons, wtL]; omega

theorem wtL_take_rest (l : List Tree) (k : Nat) : wtL (l.take k) + (l.length - k) ≤ wtL l := by
  conv => rhs; rw [← List.take_append_drop k l, wtL_append]
  have := length_le_wtL (l.drop k)
  simp at this
  omega

theorem wt_le_wtL {l : List Tree} {U : Tree} (h : U ∈ l) : U.wt + 1 ≤ wtL l := by
  induction l with
  | nil => simp at h
  | cons t r ih =>
    simp only [List.mem_cons] at h
    simp only [wtL]
    rcases h with rfl | h
    · omega
    · have := ih h; omega

/-- In blocks of S the world w' is as w was. -/
def KeptIn (S : Nat → Prop) (w w' : World) : Prop := ∀ b, S b → w'.heap[b]? = w.heap[b]?
theorem KeptIn.cell {S : Nat → Prop} {w w' : World} (h : KeptIn S w w') {b : Nat} (hb : S b) (o : Nat) : w'.cell? ⟨b, o, none⟩ = w.cell? ⟨b, o, none⟩ := World.cell?_of_block (w := w) (h b hb)
theorem KeptIn.trans {S : Nat → Prop} {a b c : World} (h : KeptIn S a b) (k : KeptIn S b c) : KeptIn S a c := fun i hi => (k i hi).trans (h i hi)
theorem KeptIn.of {S : Nat → Prop} {B : Nat} {w w' : World} (hb : Below B w w') (hS : ∀ b, S b → b < B) : KeptIn S w w' := fun b h => hb.block b (hS b h)

/-- A list of texts that lies in blocks of S. -/
def ReadsB (S : Nat → Prop) (w : World) (v : Value) (xs : List Value) : Prop :=
  ∃ a cap, v = .slice a xs.length cap ∧ xs.length ≤ cap ∧ (xs = [] ∨ ∃ b off, a = some ⟨b, off, none⟩ ∧ S b ∧ ∀ k (h : k < xs.length), w.cell? ⟨b, off + k, none⟩ = some xs[k])

theorem ReadsB.reads {S : Nat → Prop} {w : World} {v : Value} {xs : List Value} (h : ReadsB S w v xs) (hS : ∀ b, S b → b < w.heap.size) : Reads w v xs := by
  obtain ⟨a, cap, hv, hc, h⟩ := h
  refine ⟨a, cap, hv, hc, ?_⟩
  rcases h with h | ⟨b, off, ha, hb, h⟩
  · exact .inl h
  · exact .inr ⟨b, off, ha, hS b hb, h⟩

theorem ReadsB.of {w : World} {v : Value} {xs : List Value} (h : Reads w v xs) : ReadsB (· < w.heap.size) w v xs := h

theorem ReadsB.keep {S : Nat → Prop} {w w' : World} {v : Value} {xs : List Value} (hb : KeptIn S w w') (h : ReadsB S w v xs) : ReadsB S w' v xs := by
  obtain ⟨a, cap, hv, hc, h⟩ := h
  refine ⟨a, cap, hv, hc, ?_⟩
  rcases h with h | ⟨b, off, ha, hlt, h⟩
  · exact .inl h
  · exact .inr ⟨b, off, ha, hlt, fun k hk => (hb.cell hlt _).trans (h k hk)⟩

theorem ReadsB.mono {S S' : Nat → Prop} {w : World} {v : Value} {xs : List Value} (hB : ∀ b, S b → S' b) (h : ReadsB S w v xs) : ReadsB S' w v xs := by
  obtain ⟨a, cap, hv, hc, h⟩ := h
  refine ⟨a, cap, hv, hc, ?_⟩
  rcases h with h | ⟨b, off, ha, hlt, h⟩
  · exact .inl h
  · exact .inr ⟨b, off, ha, hB b hlt, h⟩

def saneS (ks : List ByteArray) : Prop := ks.length ≤ maxLen ∧ ∀ s ∈ ks, s.size ≤ maxLen

/-- The value v is the tree T, all of whose memory lies in blocks of S. -/
inductive Lies (S : Nat → Prop) (w : World) : Value → Tree → Prop
  | mk (k n : Int) (s : ByteArray) (l : List Tree) (ks : List ByteArray) (a : Option Addr) (cap : Nat) (u : Value) (C : Nat → Nat → Value)
      (hs : s.size ≤ maxLen) (hl : l.length ≤ maxLen) (hk : saneS ks) (hc : l.length ≤ cap) (hu : ReadsB S w u (strsV ks))
      (ha : l = [] ∨ ∃ b off, a = some ⟨b, off, none⟩ ∧ S b ∧ ∀ i, i < l.length → ∀ j, j < 5 → w.cell? ⟨b, off + i * 5 + j, none⟩ = some (C i j))
      (hC : ∀ i (h : i < l.length), Lies S w (.agg #[C i 0, C i 1, C i 2, C i 3, C i 4]) l[i]) :
      Lies S w (.agg #[.int .i64 k, .int .i64 n, .string s, .slice a l.length cap, u]) (.mk k n s l ks)

/-- The list of values v is l. -/
def LiesL (S : Nat → Prop) (w : World) (v : Value) (l : List Tree) : Prop :=
  ∃ a cap, ∃ C : Nat → Nat → Value, v = .slice a l.length cap ∧ l.length ≤ maxLen ∧ l.length ≤ cap ∧
    (l = [] ∨ ∃ b off, a = some ⟨b, off, none⟩ ∧ S b ∧ ∀ i, i < l.length → ∀ j, j < 5 → w.cell? ⟨b, off + i * 5 + j, none⟩ = some (C i j)) ∧
    ∀ i (h : i < l.length), Lies S w (.agg #[C i 0, C i 1, C i 2, C i 3, C i 4]) l[i]

theorem Lies.out {S : Nat → Prop} {w : World} {v : Value} {k n : Int} {s : ByteArray} {l : List Tree} {ks : List ByteArray} (h : Lies S w v (.mk k n s l ks)) :
    ∃ c u, v = .agg #[.int .i64 k, .int .i64 n, .string s, c, u] ∧ s.size ≤ maxLen ∧ saneS ks ∧ LiesL S w c l ∧ ReadsB S w u (strsV ks) := by
  cases h with
  | mk k n s l ks a cap u C hs hl hk hc hu ha hC => exact ⟨_, u, rfl, hs, hk, ⟨a, cap, C, rfl, hl, hc, ha, hC⟩, hu⟩

theorem Lies.of {S : Nat → Prop} {w : World} {c u : Value} {k n : Int} {s : ByteArray} {l : List Tree} {ks : List ByteArray} (hs : s.size ≤ maxLen) (hk : saneS ks) (hl : LiesL S w c l) (hu : ReadsB S w u (strsV ks)) :
    Lies S w (.agg #[.int .i64 k, .int .i64 n, .string s, c, u]) (.mk k n s l ks) := by
  obtain ⟨a, cap, C, rfl, hl, hc, ha, hC⟩ := hl
  exact .mk k n s l ks a cap u C hs hl hk hc hu ha hC

theorem LiesL.mk_keep {S : Nat → Prop} {w w' : World} {v : Value} {l : List Tree} (hb : KeptIn S w w') (hi : ∀ U ∈ l, ∀ x, Lies S w x U → Lies S w' x U) (h : LiesL S w v l) : LiesL S w' v l := by
  obtain ⟨a, cap, C, rfl, hl, hc, ha, hC⟩ := h
  refine ⟨a, cap, C, rfl, hl, hc, ?_, fun i h => hi _ (List.getElem_mem h) _ (hC i h)⟩
  rcases ha with ha | ⟨b, off, ha, hlt, hcell⟩
  · exact .inl ha
  · exact .inr ⟨b, off, ha, hlt, fun i hi j hj => (hb.cell hlt _).trans (hcell i hi j hj)⟩

theorem Lies.keep {S : Nat → Prop} {w w' : World} (hb : KeptIn S w w') : ∀ {T : Tree} {v : Value}, Lies S w v T → Lies S w' v T := by
  have h := Tree.ind (P := fun T => ∀ v, Lies S w v T → Lies S w' v T) ?_
  · exact fun {T v} hx => h T v hx
  intro k n s l ks ih v h
  obtain ⟨c, u, rfl, hs, hk, hl, hu⟩ := h.out
  exact Lies.of hs hk (hl.mk_keep hb ih) (hu.keep hb)

theorem LiesL.keep {S : Nat → Prop} {w w' : World} {v : Value} {l : List Tree} (hb : KeptIn S w w') (h : LiesL S w v l) : LiesL S w' v l :=
  h.mk_keep hb fun U _ x hx => Lies.keep hb hx

theorem LiesL.mk_mono {S S' : Nat → Prop} {w : World} {v : Value} {l : List Tree} (hB : ∀ b, S b → S' b) (hi : ∀ U ∈ l, ∀ x, Lies S w x U → Lies S' w x U) (h : LiesL S w v l) : LiesL S' w v l := by
  obtain ⟨a, cap, C, rfl, hl, hc, ha, hC⟩ := h
  refine ⟨a, cap, C, rfl, hl, hc, ?_, fun i h => hi _ (List.getElem_mem h) _ (hC i h)⟩
  rcases ha with ha | ⟨b, off, ha, hlt, hcell⟩
  · exact .inl ha
  · exact .inr ⟨b, off, ha, hB b hlt, hcell⟩

theorem Lies.mono {S S' : Nat → Prop} {w : World} (hB : ∀ b, S b → S' b) : ∀ {T : Tree} {v : Value}, Lies S w v T → Lies S' w v T := by
  have h := Tree.ind (P := fun T => ∀ v, Lies S w v T → Lies S' w v T) ?_
  · exact fun {T v} hx => h T v hx
  intro k n s l ks ih v h
  obtain ⟨c, u, rfl, hs, hk, hl, hu⟩ := h.out
  exact Lies.of hs hk (hl.mk_mono hB ih) (hu.mono hB)

theorem LiesL.mono {S S' : Nat → Prop} {w : World} {v : Value} {l : List Tree} (hB : ∀ b, S b → S' b) (h : LiesL S w v l) : LiesL S' w v l :=
  h.mk_mono hB fun U _ x hx => Lies.mono hB hx

/-- What is at place i of a list of values: five cells, which are the tree there. -/
theorem LiesL.at {S : Nat → Prop} {w : World} {v : Value} {l : List Tree} (h : LiesL S w v l) :
    ∃ a cap, v = .slice a l.length cap ∧ l.length ≤ maxLen ∧ l.length ≤ cap ∧ (l = [] ∨ ∃ b off, a = some ⟨b, off, none⟩ ∧ S b ∧ ∀ i (h : i < l.length), ∃ c0 c1 c2 c3 c4,
      w.cell? ⟨b, off + i * 5, none⟩ = some c0 ∧ w.cell? ⟨b, off + i * 5 + 1, none⟩ = some c1 ∧ w.cell? ⟨b, off + i * 5 + 2, none⟩ = some c2 ∧ w.cell? ⟨b, off + i * 5 + 3, none⟩ = some c3 ∧ w.cell? ⟨b, off + i * 5 + 4, none⟩ = some c4 ∧
      Lies S w (.agg #[c0, c1, c2, c3, c4]) l[i]) := by
  obtain ⟨a, cap, C, rfl, hl, hc, ha, hC⟩ := h
  refine ⟨a, cap, rfl, hl, hc, ?_⟩
  rcases ha with ha | ⟨b, off, ha, hlt, hcell⟩
  · exact .inl ha
  · refine .inr ⟨b, off, ha, hlt, fun i hi => ⟨C i 0, C i 1, C i 2, C i 3, C i 4, ?_, ?_, ?_, ?_, ?_, hC i hi⟩⟩
    · simpa using hcell i hi 0 (by omega)
    · exact hcell i hi 1 (by omega)
    · exact hcell i hi 2 (by omega)
    · exact hcell i hi 3 (by omega)
    · exact hcell i hi 4 (by omega)

/-- A parameter that was put into a block of its own is still there behind a call. -/
theorem box5 {w w1 : World} {c0 c1 c2 c3 c4 : Value} {t : TypeId} (hb : Below (w.alloc (.cells #[c0, c1, c2, c3, c4] t)).heap.size (w.alloc (.cells #[c0, c1, c2, c3, c4] t)) w1) :
    w1.cell? ⟨w.heap.size, 0, none⟩ = some c0 ∧ w1.cell? ⟨w.heap.size, 1, none⟩ = some c1 ∧ w1.cell? ⟨w.heap.size, 2, none⟩ = some c2 ∧ w1.cell? ⟨w.heap.size, 3, none⟩ = some c3 ∧ w1.cell? ⟨w.heap.size, 4, none⟩ = some c4 := by
  have h : ∀ j, w1.cell? ⟨w.heap.size, j, none⟩ = (#[c0, c1, c2, c3, c4] : Array Value)[j]? := fun j => by
    rw [hb.cell (p := ⟨w.heap.size, j, none⟩) (by simp)]
    have e : (w.alloc (.cells #[c0, c1, c2, c3, c4] t)).heap[w.heap.size]? = some (.cells #[c0, c1, c2, c3, c4] t) := by show (w.heap.push _)[w.heap.size]? = _; simp
    simp only [World.cell?, e]; rfl
  exact ⟨h 0, h 1, h 2, h 3, h 4⟩

theorem heap_new (w : World) (o : Obj) : (w.alloc o).heap[w.heap.size]? = some o := by show (w.heap.push _)[w.heap.size]? = _; simp
theorem heap_old (w : World) (o : Obj) {b : Nat} (h : b < w.heap.size) : (w.alloc o).heap[b]? = w.heap[b]? := Below.heap_alloc w o b h
theorem three {w w1 : World} {A R O : Obj} (hb : Below (((w.alloc A).alloc R).alloc O).heap.size (((w.alloc A).alloc R).alloc O) w1) :
    w1.heap[w.heap.size]? = some A ∧ w1.heap[w.heap.size + 1]? = some R ∧ w1.heap[w.heap.size + 1 + 1]? = some O := by
  have s1 : (w.alloc A).heap.size = w.heap.size + 1 := by simp
  have s2 : ((w.alloc A).alloc R).heap.size = w.heap.size + 1 + 1 := by simp
  refine ⟨?_, ?_, ?_⟩
  · rw [hb.block _ (by simp; omega), heap_old _ _ (by simp; omega), heap_old _ _ (by simp), heap_new]
  · rw [hb.block _ (by simp), heap_old _ _ (by simp), ← s1, heap_new]
  · rw [hb.block _ (by simp), ← s2, heap_new]
theorem blk_cell {w : World} {b : Nat} {cs : Array Value} {t : TypeId} (h : w.heap[b]? = some (.cells cs t (0, 0))) (j : Nat) : w.cell? ⟨b, j, none⟩ = cs[j]? := cell_of_row w b j cs t (0, 0) h
theorem blk_frozen {w : World} {b : Nat} {cs : Array Value} {t : TypeId} (h : w.heap[b]? = some (.cells cs t (0, 0))) (j : Nat) : w.frozen? ⟨b, j, none⟩ = false := frozen_of_row w b j cs t h
theorem blk_set {w : World} {b : Nat} {cs : Array Value} {t : TypeId} (h : w.heap[b]? = some (.cells cs t (0, 0))) (j : Nat) (v : Value) : (w.setCell ⟨b, j, none⟩ v).heap[b]? = some (.cells (cs.setIfInBounds j v) t (0, 0)) := heap_setCell_same w b j cs t v h

#print axioms Lies.keep
end Go.Proofs.YtbolphjigjpmiaaDoor
