/-
  Contracts for the walks, several texts in one: each part says what it proves, and under which conditions.
-/
import Derived.Deep.RegionHeld
import Derived.Test.YtiadcebolcdhbaaQ1

/-! Rows of structs that lie in memory: what an element's cells are is handed in; that they are kept, copied cell by cell, and how much they hold; no condition. -/
namespace Go.Proofs.Ytiadcebolcdhbaa
open Go.RowKit
set_option linter.unusedSimpArgs false
set_option linter.unusedVariables false

theorem hidden {p : Prop} (h : p) : Hid p := h

/-- An element of a row: how many cells, and when these are it, what it refers to lying in blocks of a set. -/
structure Sh (α : Type) where
  n : Nat
  lies : (Nat → Prop) → World → List Value → α → Prop
  keep : ∀ {S : Nat → Prop} {w w' : World} {cs : List Value} {x : α}, Kp S w w' → lies S w cs x → lies S w' cs x
  mono : ∀ {S S' : Nat → Prop} {w : World} {cs : List Value} {x : α}, (∀ b, S b → S' b) → lies S w cs x → lies S' w cs x

/-- From place j of block b on lie these cells. -/
def CellsAt (w : World) (b j : Nat) (cs : List Value) : Prop := ∀ i (h : i < cs.length), w.cell? ⟨b, j + i, none⟩ = some cs[i]
theorem CellsAt.keep {S : Nat → Prop} {w w' : World} {b j : Nat} {cs : List Value} (hk : Kp S w w') (hb : S b) (h : CellsAt w b j cs) : CellsAt w' b j cs := fun i hi => (hk.cell hb _).trans (h i hi)

/-- The row v is xs. -/
def RowIn {α : Type} (sh : Sh α) (S : Nat → Prop) (w : World) (v : Value) (xs : List α) : Prop :=
  ∃ q cap, v = .slice q xs.length cap ∧ xs.length ≤ maxLen ∧ xs.length ≤ cap ∧ (xs = [] ∨ ∃ (b off : Nat), q = some ⟨b, off, none⟩ ∧ S b ∧ ∀ k (h : k < xs.length), ∃ cs, sh.lies S w cs xs[k] ∧ CellsAt w b (off + k * sh.n) cs)
theorem RowIn.keep {α : Type} {sh : Sh α} {S : Nat → Prop} {w w' : World} {v : Value} {xs : List α} (hk : Kp S w w') (h : RowIn sh S w v xs) : RowIn sh S w' v xs := by
  obtain ⟨q, cap, hv, hm, hc, h⟩ := h
  refine ⟨q, cap, hv, hm, hc, ?_⟩
  rcases h with h | ⟨b, off, hq, hb, h⟩
  · exact .inl h
  · exact .inr ⟨b, off, hq, hb, fun k hh => by obtain ⟨cs, h1, h2⟩ := h k hh; exact ⟨cs, sh.keep hk h1, h2.keep hk hb⟩⟩
theorem RowIn.mono {α : Type} {sh : Sh α} {S S' : Nat → Prop} {w : World} {v : Value} {xs : List α} (hS : ∀ b, S b → S' b) (h : RowIn sh S w v xs) : RowIn sh S' w v xs := by
  obtain ⟨q, cap, hv, hm, hc, h⟩ := h
  refine ⟨q, cap, hv, hm, hc, ?_⟩
  rcases h with h | ⟨b, off, hq, hb, h⟩
  · exact .inl h
  · exact .inr ⟨b, off, hq, hS b hb, fun k hh => by obtain ⟨cs, h1, h2⟩ := h k hh; exact ⟨cs, sh.mono hS h1, h2⟩⟩
theorem RowIn.below {α : Type} {sh : Sh α} {w w' : World} {v : Value} {xs : List α} (h : RowIn sh (· < w.heap.size) w v xs) (hb : Below w.heap.size w w') : RowIn sh (· < w'.heap.size) w' v xs :=
  (h.keep (.of hb (fun b h => h))).mono (fun b h => Nat.lt_of_lt_of_le h hb.size)
theorem RowIn.as {α : Type} {sh sh' : Sh α} {S : Nat → Prop} {w : World} {v : Value} {xs : List α} (hn : sh.n = sh'.n) (hl : ∀ S w cs x, sh.lies S w cs x → sh'.lies S w cs x) (h : RowIn sh S w v xs) : RowIn sh' S w v xs := by
  obtain ⟨q, cap, hv, hm, hc, h⟩ := h
  refine ⟨q, cap, hv, hm, hc, ?_⟩
  rcases h with h | ⟨b, off, hq, hb, h⟩
  · exact .inl h
  · exact .inr ⟨b, off, hq, hb, fun k hh => by obtain ⟨cs, h1, h2⟩ := h k hh; exact ⟨cs, hl _ _ _ _ h1, by rw [← hn]; exact h2⟩⟩
theorem RowIn.len {α : Type} {sh : Sh α} {S : Nat → Prop} {w : World} {v : Value} {xs : List α} (h : RowIn sh S w v xs) : xs.length ≤ maxLen := by
  obtain ⟨q, cap, hv, hm, hc, h⟩ := h; exact hm
theorem RowIn.slice {α : Type} {sh : Sh α} {S : Nat → Prop} {w : World} {v : Value} {xs : List α} (h : RowIn sh S w v xs) : ∃ q cap, v = .slice q xs.length cap := by
  obtain ⟨q, cap, hv, hm, hc, h⟩ := h; exact ⟨q, cap, hv⟩
theorem RowIn.at {α : Type} {sh : Sh α} {S : Nat → Prop} {w : World} {v : Value} {xs : List α} (h : RowIn sh S w v xs) {k : Nat} (hk : k < xs.length) : ∃ cs, sh.lies S w cs xs[k] := by
  obtain ⟨q, cap, hv, hm, hc, h⟩ := h
  rcases h with rfl | ⟨b, off, hq, hb, h⟩
  · simp at hk
  · obtain ⟨cs, h1, _⟩ := h k hk; exact ⟨cs, h1⟩

/-- The elements below k lie in the cells ys of a row. -/
def Laid {α : Type} (sh : Sh α) (S : Nat → Prop) (w : World) (ys : List Value) (xs : List α) (k : Nat) : Prop :=
  ∀ i (h : i < xs.length), i < k → ∃ cs, cs.length = sh.n ∧ sh.lies S w cs xs[i] ∧ ∀ j (hj : j < cs.length), ys[i * sh.n + j]? = some cs[j]
/-- The row v is xs, and may be written. -/
def RowOwn {α : Type} (sh : Sh α) (t : TypeId) (S : Nat → Prop) (w : World) (v : Value) (xs : List α) : Prop :=
  xs.length ≤ maxLen ∧ ∃ ys, w.ownsRow 0 t sh.n v xs.length ys ∧ (∀ g, v.ownBlock = some g → S g) ∧ Laid sh S w ys xs xs.length
theorem owns_lo {w : World} {lo lo' : Nat} {e : TypeId} {sz n : Nat} {v : Value} {xs : List Value} (h : lo' ≤ lo) (hg : w.ownsRow lo e sz v n xs) : w.ownsRow lo' e sz v n xs := by
  refine ⟨hg.1, ?_⟩
  rcases hg.2 with h1 | ⟨g, cap, cur, h1, h2, h3⟩
  · exact .inl h1
  · exact .inr ⟨g, cap, cur, h1, by omega, h3⟩
theorem owns_kept {S : Nat → Prop} {w w' : World} {lo : Nat} {e : TypeId} {sz n : Nat} {v : Value} {xs : List Value} (hk : Kp S w w') (hS : ∀ g, v.ownBlock = some g → S g) (hg : w.ownsRow lo e sz v n xs) : w'.ownsRow lo e sz v n xs := by
  refine ⟨hg.1, ?_⟩
  rcases hg.2 with h1 | ⟨g, cap, cur, h1, h2, h3, h4⟩
  · exact .inl h1
  · exact .inr ⟨g, cap, cur, h1, h2, (hk g (hS g (by rw [h1]; rfl))).trans h3, h4⟩
theorem owns_in {w : World} {lo : Nat} {e : TypeId} {sz n : Nat} {v : Value} {xs : List Value} (hg : w.ownsRow lo e sz v n xs) : ∀ g, v.ownBlock = some g → Ow lo w.heap.size g := fun g h => by
  rcases hg.2 with ⟨h1, _⟩ | ⟨g', cap, cur, h1, h2, h3, h4⟩
  · rw [h1] at h; simp [Value.ownBlock] at h
  · rw [h1] at h; simp [Value.ownBlock] at h; subst h
    exact ⟨h2, (Array.getElem?_eq_some_iff.1 h3).1⟩
theorem Laid.keep {α : Type} {sh : Sh α} {S : Nat → Prop} {w w' : World} {ys : List Value} {xs : List α} {k : Nat} (hk : Kp S w w') (h : Laid sh S w ys xs k) : Laid sh S w' ys xs k := fun i hi hik => by
  obtain ⟨cs, h1, h2, h3⟩ := h i hi hik; exact ⟨cs, h1, sh.keep hk h2, h3⟩
theorem Laid.mono {α : Type} {sh : Sh α} {S S' : Nat → Prop} {w : World} {ys : List Value} {xs : List α} {k : Nat} (hS : ∀ b, S b → S' b) (h : Laid sh S w ys xs k) : Laid sh S' w ys xs k := fun i hi hik => by
  obtain ⟨cs, h1, h2, h3⟩ := h i hi hik; exact ⟨cs, h1, sh.mono hS h2, h3⟩
theorem RowOwn.keep {α : Type} {sh : Sh α} {t : TypeId} {S : Nat → Prop} {w w' : World} {v : Value} {xs : List α} (hk : Kp S w w') (h : RowOwn sh t S w v xs) : RowOwn sh t S w' v xs := by
  obtain ⟨h0, ys, h1, h2, h3⟩ := h
  exact ⟨h0, ys, owns_kept hk h2 h1, h2, h3.keep hk⟩
theorem RowOwn.mono {α : Type} {sh : Sh α} {t : TypeId} {S S' : Nat → Prop} {w : World} {v : Value} {xs : List α} (hS : ∀ b, S b → S' b) (h : RowOwn sh t S w v xs) : RowOwn sh t S' w v xs := by
  obtain ⟨h0, ys, h1, h2, h3⟩ := h
  exact ⟨h0, ys, h1, fun g hg => hS g (h2 g hg), h3.mono hS⟩
theorem RowOwn.plain {α : Type} {sh : Sh α} {t : TypeId} {S : Nat → Prop} {w : World} {v : Value} {xs : List α} (h : RowOwn sh t S w v xs) : RowIn sh S w v xs := by
  obtain ⟨hm, ys, h1, h2, h3⟩ := h
  rcases id h1.2 with ⟨rfl, h0⟩ | ⟨g, cap, cur, rfl, _, hg, hc, _⟩
  · exact ⟨none, 0, by rw [h0], hm, by omega, .inl (List.eq_nil_of_length_eq_zero h0)⟩
  · refine ⟨_, _, rfl, hm, hc, .inr ⟨g, 0, rfl, h2 g rfl, fun k hk => ?_⟩⟩
    obtain ⟨cs, e1, e2, e3⟩ := h3 k hk hk
    refine ⟨cs, e2, fun i hi => ?_⟩
    have hlt : k * sh.n + i < xs.length * sh.n := by
      have : (k + 1) * sh.n ≤ xs.length * sh.n := Nat.mul_le_mul_right _ hk
      rw [Nat.add_mul, Nat.one_mul] at this
      omega
    rw [Nat.zero_add, h1.cellAt _ hlt]
    exact e3 i hi

/-- Cells put one behind the other, from place j on. -/
def putL (ys : List Value) (j : Nat) : List Value → List Value
  | [] => ys
  | c :: cs => putL (ys.set j c) (j + 1) cs
def setW (w : World) (g j : Nat) : List Value → World
  | [] => w
  | c :: cs => setW (w.setCell ⟨g, j, none⟩ c) g (j + 1) cs
theorem putL_length (cs : List Value) : ∀ (ys : List Value) (j : Nat), (putL ys j cs).length = ys.length := by
  induction cs with
  | nil => intro ys j; rfl
  | cons c cs ih => intro ys j; show (putL (ys.set j c) (j + 1) cs).length = _; rw [ih]; simp
theorem putL_out (cs : List Value) : ∀ (ys : List Value) (j i : Nat), (i < j ∨ j + cs.length ≤ i) → (putL ys j cs)[i]? = ys[i]? := by
  induction cs with
  | nil => intro ys j i h; rfl
  | cons c cs ih =>
    intro ys j i h
    show (putL (ys.set j c) (j + 1) cs)[i]? = _
    simp at h
    rw [ih _ _ _ (by omega), List.getElem?_set_ne (by omega)]
theorem putL_in (cs : List Value) : ∀ (ys : List Value) (j i : Nat), j + cs.length ≤ ys.length → i < cs.length → (putL ys j cs)[j + i]? = cs[i]? := by
  induction cs with
  | nil => intro ys j i h hi; simp at hi
  | cons c cs ih =>
    intro ys j i h hi
    show (putL (ys.set j c) (j + 1) cs)[j + i]? = _
    simp at h hi
    cases i with
    | zero => rw [putL_out _ _ _ _ (by omega)]; simp [List.getElem?_set, show j < ys.length by omega]
    | succ i => rw [show j + (i + 1) = (j + 1) + i by omega, ih _ _ _ (by simp; omega) (by omega)]; simp
theorem setW_size (cs : List Value) : ∀ (w : World) (g j : Nat), (setW w g j cs).heap.size = w.heap.size := by
  induction cs with
  | nil => intro w g j; rfl
  | cons c cs ih => intro w g j; show (setW (w.setCell ⟨g, j, none⟩ c) g (j + 1) cs).heap.size = _; rw [ih]; simp [World.setCell]
theorem setW_kp {S : Nat → Prop} {g : Nat} (hg : ¬ S g) (cs : List Value) : ∀ (w : World) (j : Nat), Kp S w (setW w g j cs) := by
  induction cs with
  | nil => intro w j b hb; rfl
  | cons c cs ih => intro w j; exact (Kp.set hg).trans (ih _ _)
theorem setW_below {B g : Nat} (hg : B ≤ g) (cs : List Value) : ∀ (w w0 : World) (j : Nat), Below B w0 w → Below B w0 (setW w g j cs) := by
  induction cs with
  | nil => intro w w0 j h; exact h
  | cons c cs ih => intro w w0 j h; exact ih _ _ _ (Below.setCell h hg _)
theorem setW_owns {lo g n cap sz : Nat} {t : TypeId} (cs : List Value) : ∀ (w : World) (ys : List Value) (j : Nat), w.ownsRow lo t sz (.slice (some ⟨g, 0, none⟩) n cap) n ys → (setW w g j cs).ownsRow lo t sz (.slice (some ⟨g, 0, none⟩) n cap) n (putL ys j cs) := by
  induction cs with
  | nil => intro w ys j h; exact h
  | cons c cs ih => intro w ys j h; exact ih _ _ _ (h.stored j c).1

theorem Laid.step {α : Type} {sh : Sh α} {lo : Nat} {w w2 : World} {ys : List Value} {xs : List α} {k : Nat} (h : Laid sh (Ow lo w.heap.size) w ys xs k) (hk : k < xs.length) (hy : ys.length = xs.length * sh.n) (hb : Below w.heap.size w w2) {g : Nat} (hg : g < lo) {cs : List Value}
    (hn : cs.length = sh.n) (hu : sh.lies (Ow lo w2.heap.size) w2 cs xs[k]) : Laid sh (Ow lo (setW w2 g (k * sh.n) cs).heap.size) (setW w2 g (k * sh.n) cs) (putL ys (k * sh.n) cs) xs (k + 1) := fun i hi hik => by
  rw [setW_size]
  have hle : (k + 1) * sh.n ≤ xs.length * sh.n := Nat.mul_le_mul_right _ hk
  rw [Nat.add_mul, Nat.one_mul] at hle
  by_cases e : i = k
  · subst e
    refine ⟨cs, hn, sh.keep (setW_kp (Ow.not hg) _ _ _) hu, fun j hj => ?_⟩
    rw [putL_in _ _ _ _ (by omega) hj, List.getElem?_eq_getElem]
  · obtain ⟨cs', h1, h2, h3⟩ := h i hi (by omega)
    refine ⟨cs', h1, sh.keep (setW_kp (Ow.not hg) _ _ _) (sh.mono (Ow.mono (Nat.le_refl _) hb.size) (sh.keep (Ow.below hb) h2)), fun j hj => ?_⟩
    have hle2 : (i + 1) * sh.n ≤ k * sh.n := Nat.mul_le_mul_right _ (by omega)
    rw [Nat.add_mul, Nat.one_mul] at hle2
    rw [putL_out _ _ _ _ (by omega)]
    exact h3 j hj
theorem rowOwn_of {α : Type} {sh : Sh α} {t : TypeId} {w : World} {lo g : Nat} {ys : List Value} {xs : List α} (hg : w.ownsRow lo t sh.n (.slice (some ⟨g, 0, none⟩) xs.length xs.length) xs.length ys) (hl : xs.length ≤ maxLen)
    (h : Laid sh (Ow (lo + 1) w.heap.size) w ys xs xs.length) : RowOwn sh t (Ow lo w.heap.size) w (.slice (some ⟨g, 0, none⟩) xs.length xs.length) xs :=
  ⟨hl, ys, owns_lo (Nat.zero_le _) hg, owns_in hg, h.mono (Ow.mono (by omega) (Nat.le_refl _))⟩

/-- How much a row holds, as the law counts it. -/
def wtRow {α : Type} (f : α → Nat) (xs : List α) : Nat := (xs.map fun x => 1 + f x).sum
theorem wtRow_take {α : Type} (f : α → Nat) (xs : List α) (k : Nat) (h : k < xs.length) : wtRow f (xs.take (k + 1)) = wtRow f (xs.take k) + (1 + f xs[k]) := by
  rw [wtRow, wtRow, List.take_succ_eq_append_getElem h]; simp only [List.map_append, List.sum_append, List.map_cons, List.map_nil, List.sum_cons, List.sum_nil, Nat.add_zero]
theorem wtRow_split {α : Type} (f : α → Nat) (xs : List α) (k : Nat) : wtRow f xs = wtRow f (xs.take k) + wtRow f (xs.drop k) := by
  rw [wtRow, wtRow, wtRow, ← List.sum_append, ← List.map_append, List.take_append_drop]
theorem len_wtRow {α : Type} (f : α → Nat) (xs : List α) : xs.length ≤ wtRow f xs := by
  induction xs with
  | nil => simp [wtRow]
  | cons d ds ih => simp [wtRow] at ih ⊢; omega
theorem wt_wtRow {α : Type} (f : α → Nat) {xs : List α} {x : α} (h : x ∈ xs) : f x ≤ wtRow f xs := by
  induction xs with
  | nil => simp at h
  | cons y xs ih =>
    simp [wtRow] at ih ⊢
    rcases List.mem_cons.1 h with rfl | h
    · omega
    · have := ih h; omega
theorem leftW_seq {a b : Nat} {left : Int} (h : 0 ≤ leftW a left) : leftW b (leftW a left) = leftW (a + b) left := by
  have ha : (a : Int) ≤ left := by
    by_cases h2 : (a : Int) ≤ left
    · exact h2
    · rw [leftW_bad h2] at h; omega
  rw [leftW_good ha]
  by_cases h2 : (b : Int) ≤ left - (a : Int)
  · rw [leftW_good h2, leftW_good (by omega)]; omega
  · rw [leftW_bad h2, leftW_bad (by omega)]
theorem leftW_neg {a b : Nat} {left : Int} (hl : 0 ≤ left) (h : leftW a left < 0) : leftW (a + b) left = -1 := by
  unfold leftW at h ⊢
  split at h
  · omega
  · rw [if_neg (by omega)]
theorem leftW_one {a : Nat} {left : Int} (h : leftW a left < 0) : leftW a left = -1 := by
  unfold leftW at h ⊢
  split at h
  · omega
  · rw [if_neg (by assumption)]
theorem leftW_le {a : Nat} {left : Int} (h : left ≤ 1048576) : leftW a left ≤ 1048576 := by
  unfold leftW; split <;> omega
theorem leftS_eqW (ss : List ByteArray) (left : Int) : leftS ss left = leftW (bulkS ss) left := rfl

/-- A parameter that was put into a block of its own is still there behind a call. -/
theorem boxAt {w w1 : World} {o : Obj} (hb : Below (w.alloc o).heap.size (w.alloc o) w1) : w1.heap[w.heap.size]? = some o := by
  rw [hb.block _ (by simp), vheap_new]
end Go.Proofs.Ytiadcebolcdhbaa

/-! Trees of values that may be written, no two rows of which are the same, and such as bear marks: what they are, and that they are kept; no condition. -/
namespace Go.Proofs.Ytiadcebolcdhbaa
open Go.RowKit
set_option linter.unusedSimpArgs false
set_option linter.unusedVariables false

def Tree.kids : Tree → List Tree
  | .mk _ _ _ l _ => l
def Tree.keys : Tree → List ByteArray
  | .mk _ _ _ _ ks => ks
mutual
/-- How many marks a tree takes below its own, and a list of trees. -/
def Tree.cnt : Tree → Nat
  | .mk _ _ _ l ks => 3 + cntL l + ks.length
def cntL : List Tree → Nat
  | [] => 0
  | t :: r => t.cnt + cntL r
end
theorem cnt_eq (T : Tree) : T.cnt = 3 + cntL T.kids + T.keys.length := by
  cases T; rw [Tree.cnt]; rfl
theorem cntL_append (a b : List Tree) : cntL (a ++ b) = cntL a + cntL b := by
  induction a with
  | nil => simp [cntL]
  | cons t r ih => simp only [List.cons_append, cntL, ih]; omega
theorem cntL_take (l : List Tree) (k : Nat) (h : k < l.length) : cntL (l.take (k + 1)) = cntL (l.take k) + l[k].cnt := by
  rw [List.take_succ_eq_append_getElem h, cntL_append]; simp [cntL]
theorem cntL_take_le (l : List Tree) (k : Nat) : cntL (l.take k) ≤ cntL l := by
  conv => rhs; rw [← List.take_append_drop k l, cntL_append]
  omega

/-- Rows of values that may be written: their blocks lie in S, no two of them are the same. -/
inductive OwnL (w : World) : (Nat → Prop) → Value → List Tree → Prop
  | mk (S : Nat → Prop) (v : Value) (l : List Tree) (ys : List Value) (C U : Nat → Value) (B K : Nat → Nat → Prop)
      (hrow : w.ownsRow 0 50 5 v l.length ys)
      (hg : ∀ g, v.ownBlock = some g → S g ∧ ∀ i, ¬ B i g ∧ ¬ K i g)
      (hc : ∀ i, i < l.length → (∃ c0 c1 c2, ys[i * 5]? = some c0 ∧ ys[i * 5 + 1]? = some c1 ∧ ys[i * 5 + 2]? = some c2) ∧ ys[i * 5 + 3]? = some (C i) ∧ ys[i * 5 + 4]? = some (U i))
      (hB : ∀ i b, B i b → S b) (hK : ∀ i b, K i b → S b)
      (hBB : ∀ i j b, i ≠ j → B i b → ¬ B j b) (hBK : ∀ i j b, B i b → ¬ K j b) (hKK : ∀ i j b, i ≠ j → K i b → ¬ K j b)
      (hC : ∀ i (h : i < l.length), OwnL w (B i) (C i) l[i].kids)
      (hU : ∀ i (h : i < l.length), ∃ xs, w.ownsRow 0 9 1 (U i) l[i].keys.length xs ∧ ∀ g, (U i).ownBlock = some g → K i g) : OwnL w S v l

/-- Rows of values that bear the marks from k on. -/
inductive MarkL (w : World) (S : Nat → Prop) : Nat → Value → List Tree → Prop
  | mk (k : Nat) (v : Value) (l : List Tree) (ys : List Value) (C U : Nat → Value)
      (hrow : w.ownsRow 0 50 5 v l.length ys) (hg : ∀ g, v.ownBlock = some g → S g)
      (hc : ∀ i, i < l.length → ys[i * 5]? = some (.int .i64 ((k + cntL (l.take i) : Nat) : Int)) ∧ ys[i * 5 + 1]? = some (.int .i64 ((k + cntL (l.take i) + 1 : Nat) : Int)) ∧ ys[i * 5 + 2]? = some (.string (markStr (k + cntL (l.take i) + 2))) ∧ ys[i * 5 + 3]? = some (C i) ∧ ys[i * 5 + 4]? = some (U i))
      (hC : ∀ i (h : i < l.length), MarkL w S (k + cntL (l.take i) + 3) (C i) l[i].kids)
      (hU : ∀ i (h : i < l.length), RdB S w (U i) (strsV (marksS (k + cntL (l.take i) + 3 + cntL l[i].kids) l[i].keys.length))) : MarkL w S k v l

theorem OwnL.keep {S : Nat → Prop} {w w' : World} {v : Value} {l : List Tree} (h : OwnL w S v l) : Kp S w w' → OwnL w' S v l := by
  induction h with
  | mk S v l ys C U B K hrow hg hc hB hK hBB hBK hKK hC hU ih =>
    intro hk
    refine .mk S v l ys C U B K (owns_kept hk (fun g h => (hg g h).1) hrow) hg hc hB hK hBB hBK hKK (fun i h => ih i h (fun b hb => hk b (hB i b hb))) (fun i h => ?_)
    obtain ⟨xs, h1, h2⟩ := hU i h
    exact ⟨xs, owns_kept hk (fun g h => hK i g (h2 g h)) h1, h2⟩
theorem MarkL.keep {S : Nat → Prop} {w w' : World} {k : Nat} {v : Value} {l : List Tree} (h : MarkL w S k v l) : Kp S w w' → MarkL w' S k v l := by
  induction h with
  | mk k v l ys C U hrow hg hc hC hU ih =>
    intro hk
    exact .mk k v l ys C U (owns_kept hk hg hrow) hg hc (fun i h => ih i h hk) (fun i h => (hU i h).keep hk)
theorem MarkL.mono {S : Nat → Prop} {w : World} {k : Nat} {v : Value} {l : List Tree} (h : MarkL w S k v l) : ∀ {S' : Nat → Prop}, (∀ b, S b → S' b) → MarkL w S' k v l := by
  induction h with
  | mk k v l ys C U hrow hg hc hC hU ih =>
    intro S' hs
    exact .mk k v l ys C U hrow (fun g h => hs g (hg g h)) hc (fun i h => ih i h hs) (fun i h => (hU i h).mono hs)
theorem OwnL.slice {S : Nat → Prop} {w : World} {v : Value} {l : List Tree} (h : OwnL w S v l) : ∃ q cap, v = .slice q l.length cap := by
  cases h with
  | mk S v l ys C U B K hrow =>
    rcases hrow.2 with ⟨h1, h2⟩ | ⟨g, cap, cur, h1, _⟩
    · exact ⟨none, 0, by rw [h1, h2]⟩
    · exact ⟨_, _, h1⟩
theorem MarkL.slice {S : Nat → Prop} {w : World} {k : Nat} {v : Value} {l : List Tree} (h : MarkL w S k v l) : ∃ q cap, v = .slice q l.length cap := by
  cases h with
  | mk k v l ys C U hrow =>
    rcases hrow.2 with ⟨h1, h2⟩ | ⟨g, cap, cur, h1, _⟩
    · exact ⟨none, 0, by rw [h1, h2]⟩
    · exact ⟨_, _, h1⟩

/-- From w to w' only blocks of S, and new ones, have changed. -/
structure Chg (S : Nat → Prop) (w w' : World) : Prop where
  os : w'.os = w.os
  tape : w'.tape = w.tape
  output : w'.output = w.output
  size : w.heap.size ≤ w'.heap.size
  block : ∀ b, b < w.heap.size → ¬ S b → w'.heap[b]? = w.heap[b]?
theorem Chg.refl (S : Nat → Prop) (w : World) : Chg S w w := ⟨rfl, rfl, rfl, Nat.le_refl _, fun _ _ _ => rfl⟩
theorem Chg.trans {S : Nat → Prop} {a b c : World} (h : Chg S a b) (k : Chg S b c) : Chg S a c :=
  ⟨k.os.trans h.os, k.tape.trans h.tape, k.output.trans h.output, Nat.le_trans h.size k.size, fun i hi hs => (k.block i (Nat.lt_of_lt_of_le hi h.size) hs).trans (h.block i hi hs)⟩
theorem Chg.mono {S S' : Nat → Prop} {a b : World} (h : Chg S a b) (hs : ∀ b, S b → S' b) : Chg S' a b := ⟨h.os, h.tape, h.output, h.size, fun i hi hn => h.block i hi (fun k => hn (hs i k))⟩
theorem Chg.of {S : Nat → Prop} {a b : World} (h : Below a.heap.size a b) : Chg S a b := ⟨h.os, h.tape, h.output, h.size, fun i hi _ => h.block i hi⟩
theorem Chg.kp {S R : Nat → Prop} {a b : World} (h : Chg S a b) (hr : ∀ i, R i → i < a.heap.size ∧ ¬ S i) : Kp R a b := fun i hi => h.block i (hr i hi).1 (hr i hi).2
end Go.Proofs.Ytiadcebolcdhbaa

/-! Marks put into a tree of values that may be written, as the law puts them: contracts for the walks; conditions: no two rows are the same, and there are at most 2 to the 32 marks. -/
namespace Go.Proofs.Ytiadcebolcdhbaa
open Go.RowKit
set_option linter.unusedSimpArgs false
set_option linter.unusedVariables false

def MarkC (l : List Tree) : Prop := ∀ (S : Nat → Prop) (v : Value) (w : World) (k : Nat), OwnL w S v l → (∀ b, S b → b < w.heap.size) → 1 ≤ k → k + cntL l ≤ 4294967296 →
  Calls Try.prog 69 #[v, .int .i64 (k : Int)] w fun e w' => e = .returned (.int .i64 ((k + cntL l : Nat) : Int)) ∧ MarkL w' S k v l ∧ Chg S w w'

/-- What is done, and what is left, when the elements below i bear their marks. -/
structure MInv (w : World) (l : List Tree) (k : Nat) (C U : Nat → Value) (B K : Nat → Nat → Prop) (ys : List Value) (i : Nat) : Prop where
  at34 : ∀ j, j < l.length → ys[j * 5 + 3]? = some (C j) ∧ ys[j * 5 + 4]? = some (U j)
  at012 : ∀ j, j < l.length → i ≤ j → ∃ c0 c1 c2, ys[j * 5]? = some c0 ∧ ys[j * 5 + 1]? = some c1 ∧ ys[j * 5 + 2]? = some c2
  done : ∀ j, j < l.length → j < i → ys[j * 5]? = some (.int .i64 ((k + cntL (l.take j) : Nat) : Int)) ∧ ys[j * 5 + 1]? = some (.int .i64 ((k + cntL (l.take j) + 1 : Nat) : Int)) ∧ ys[j * 5 + 2]? = some (.string (markStr (k + cntL (l.take j) + 2)))
  doneC : ∀ j (h : j < l.length), j < i → MarkL w (B j) (k + cntL (l.take j) + 3) (C j) l[j].kids
  doneU : ∀ j (h : j < l.length), j < i → RdB (K j) w (U j) (strsV (marksS (k + cntL (l.take j) + 3 + cntL l[j].kids) l[j].keys.length))
  leftC : ∀ j (h : j < l.length), i ≤ j → OwnL w (B j) (C j) l[j].kids
  leftU : ∀ j (h : j < l.length), i ≤ j → ∃ xs, w.ownsRow 0 9 1 (U j) l[j].keys.length xs ∧ ∀ g, (U j).ownBlock = some g → K j g

theorem Chg.set {S : Nat → Prop} {w : World} {g j : Nat} {v : Value} (h : S g) : Chg S w (w.setCell ⟨g, j, none⟩ v) :=
  ⟨rfl, rfl, rfl, by simp [World.setCell], fun b hb hn => Below.heap_setCell w ⟨g, j, none⟩ v b (fun e => by have e' : b = g := e; subst e'; exact hn h)⟩
theorem Chg.grown {S : Nat → Prop} {w w' : World} {r : Option Nat} (h : w.grownBy w' r) (hr : ∀ g, r = some g → S g) : Chg S w w' :=
  ⟨h.os, h.tape, h.output, h.size, fun b hb hn => h.block b hb (fun e => hn (hr b e.symm))⟩
theorem rdB_in {S : Nat → Prop} {w : World} {lo : Nat} {e : TypeId} {v : Value} {n : Nat} {xs : List Value} (h : w.ownsRow lo e 1 v n xs) (hs : ∀ g, v.ownBlock = some g → S g) : RdB S w v xs := by
  obtain ⟨a, cap, hv, hc, hx⟩ := reads_of_owns h
  refine ⟨a, cap, hv, hc, ?_⟩
  rcases hx with hx | ⟨b, off, rfl, hlt, hx⟩
  · exact .inl hx
  · exact .inr ⟨b, off, rfl, hs b (by rw [hv]; rfl), hx⟩
theorem owns_sl {w : World} {lo : Nat} {e : TypeId} {sz n : Nat} {v : Value} {xs : List Value} (hg : w.ownsRow lo e sz v n xs) : ∃ q cap, v = .slice q n cap := by
  rcases hg.2 with ⟨h1, h2⟩ | ⟨g, cap, cur, h1, _⟩
  · exact ⟨none, 0, by rw [h1, h2]⟩
  · exact ⟨_, _, h1⟩
def put3 (ys : List Value) (i : Nat) (a b c : Value) : List Value := ((ys.set (i * 5) a).set (i * 5 + 1) b).set (i * 5 + 2) c
theorem put3_other {ys : List Value} {i j : Nat} {a b c : Value} (h : j < i * 5 ∨ i * 5 + 2 < j) : (put3 ys i a b c)[j]? = ys[j]? := by
  unfold put3
  rw [List.getElem?_set_ne (by omega), List.getElem?_set_ne (by omega), List.getElem?_set_ne (by omega)]
theorem put3_same {ys : List Value} {i : Nat} {a b c : Value} (h : i * 5 + 2 < ys.length) : (put3 ys i a b c)[i * 5]? = some a ∧ (put3 ys i a b c)[i * 5 + 1]? = some b ∧ (put3 ys i a b c)[i * 5 + 2]? = some c := by
  simp [put3, List.getElem?_set, h, show i * 5 < ys.length by omega, show i * 5 + 1 < ys.length by omega]

set_option maxHeartbeats 1000000 in
theorem MInv.step {w w' : World} {l : List Tree} {k m : Nat} {C U : Nat → Value} {B K : Nat → Nat → Prop} {ys : List Value} {i : Nat} (h : MInv w l k C U B K ys i) (hi : i < l.length) (hm : m = k + cntL (l.take i)) (hy : i * 5 + 2 < ys.length)
    (hK : ∀ R : Nat → Prop, (∀ j, j ≠ i → (∀ b, R b → B j b) ∨ (∀ b, R b → K j b) → Kp R w w'))
    (hC : MarkL w' (B i) (m + 3) (C i) l[i].kids) (hU : RdB (K i) w' (U i) (strsV (marksS (m + 3 + cntL l[i].kids) l[i].keys.length))) :
    MInv w' l k C U B K (put3 ys i (.int .i64 (m : Int)) (.int .i64 ((m : Int) + 1)) (.string (markStr (m + 2)))) (i + 1) := by
  subst hm
  refine ⟨fun j hj => ?_, fun j hj hij => ?_, fun j hj hij => ?_, fun j hj hij => ?_, fun j hj hij => ?_, fun j hj hij => ?_, fun j hj hij => ?_⟩
  · have := h.at34 j hj
    by_cases e : j = i
    · subst e; rw [put3_other (by omega), put3_other (by omega)]; exact this
    · by_cases e2 : j < i
      · rw [put3_other (by omega), put3_other (by omega)]; exact this
      · rw [put3_other (by omega), put3_other (by omega)]; exact this
  · obtain ⟨c0, c1, c2, h0, h1, h2⟩ := h.at012 j hj (by omega)
    exact ⟨c0, c1, c2, by rw [put3_other (by omega)]; exact h0, by rw [put3_other (by omega)]; exact h1, by rw [put3_other (by omega)]; exact h2⟩
  · by_cases e : j = i
    · subst e
      obtain ⟨a, b, c⟩ := put3_same (a := (.int .i64 ((k + cntL (l.take j) : Nat) : Int))) (b := (.int .i64 (((k + cntL (l.take j) : Nat) : Int) + 1))) (c := (.string (markStr (k + cntL (l.take j) + 2)))) hy
      exact ⟨a, by rw [b]; simp, c⟩
    · have := h.done j hj (by omega)
      rw [put3_other (by omega), put3_other (by omega), put3_other (by omega)]; exact this
  · by_cases e : j = i
    · subst e; exact hC
    · exact (h.doneC j hj (by omega)).keep (hK _ j e (.inl fun b hb => hb))
  · by_cases e : j = i
    · subst e; exact hU
    · exact (h.doneU j hj (by omega)).keep (hK _ j e (.inr fun b hb => hb))
  · exact (h.leftC j hj (by omega)).keep (hK _ j (by omega) (.inl fun b hb => hb))
  · obtain ⟨xs, a, b⟩ := h.leftU j hj (by omega)
    exact ⟨xs, owns_kept (hK _ j (by omega) (.inr fun b hb => hb)) b a, b⟩

set_option maxHeartbeats 4000000 in
set_option maxRecDepth 100000 in
theorem markValS_step (l : List Tree) (ih : ∀ U ∈ l, MarkC U.kids) : MarkC l := by
  intro S v w k h hS h1 h2
  cases h with
  | mk _ _ _ ys0 C U B K hrow hg hc hB hK hBB hBK hKK hC hU =>
  rcases id hrow.2 with ⟨rfl, hn0⟩ | ⟨g, cap, cur, rfl, _, hgb, hcap, hmax, _⟩
  · have hl0 : l = [] := List.eq_nil_of_length_eq_zero hn0
    subst hl0
    have HM : Hid (MarkL w S k (.slice none 0 0) []) := .mk k _ [] ys0 C U hrow (fun g h => (hg g h).1) (fun i hi => by simp at hi) (fun i hi => by simp at hi) (fun i hi => by simp at hi)
    clear hC hU hc ih hrow hg hB hK hBB hBK hKK
    go_enter Try.func69, Try.ntmps69
    go_wp2_with fail
    go_loopw [1, 5] (fun vk vi wr => vk = .int .i64 (k : Int) ∧ vi = .int .i64 0 ∧ wr = w) (fun _ _ _ => 0)
    case atStart => exact ⟨rfl, rfl, rfl⟩
    case round =>
      obtain ⟨rfl, rfl, rfl⟩ := hrel
      go_wp2_with fail
      go_ret
      exact ⟨by simp [cntL], HM.out, Chg.refl _ _⟩
  · have hSg := (hg g rfl).1
    have hNg := (hg g rfl).2
    unfold maxLen at hmax
    have HI : Hid (MInv w l k C U B K ys0 0) := ⟨fun j hj => (hc j hj).2, fun j hj _ => (hc j hj).1, fun j hj h => by omega, fun j hj h => by omega, fun j hj h => by omega, fun j hj _ => hC j hj, fun j hj _ => hU j hj⟩
    clear hC hU hc hg hgb
    go_enter Try.func69, Try.ntmps69
    go_wp2_with fail
    go_loopw [1, 5] (fun vk vi wr => ∃ (i m : Nat) (ys : List Value), i ≤ l.length ∧ vi = .int .i64 (i : Int) ∧ vk = .int .i64 (m : Int) ∧ Hid (m = k + cntL (l.take i)) ∧ wr.ownsRow 0 50 5 (.slice (some ⟨g, 0, none⟩) l.length cap) l.length ys ∧ Hid (MInv wr l k C U B K ys i) ∧ Chg S w wr) (fun _ vi _ => l.length - (intOf vi).toNat)
    case atStart => exact ⟨0, k, ys0, Nat.zero_le _, rfl, rfl, by show _ = _; simp [cntL], hrow, HI.out, Chg.refl _ _⟩
    case round =>
      obtain ⟨i, m, ys, hi, rfl, rfl, hm, hown, hinv, hchg⟩ := hrel
      by_cases hlt : i < l.length
      · have hlen := hown.1
        obtain ⟨c0, c1, c2, y0, y1, y2⟩ := hinv.out.at012 i hlt (Nat.le_refl _)
        obtain ⟨y3, y4⟩ := hinv.out.at34 i hlt
        have hcl : cntL (l.take i) + l[i].cnt ≤ cntL l := by rw [← cntL_take l i hlt]; exact cntL_take_le _ _
        have hce := cnt_eq l[i]
        have hm2 : m + 3 ≤ 4294967296 := by have := hm.out; omega
        have hm1 : 1 ≤ m := by have := hm.out; omega
        have d0 := (hown.cellAt (i * 5) (by omega)).trans y0
        have d1 := (hown.cellAt (i * 5 + 1) (by omega)).trans y1
        have fz := hown.frozenAt
        have hki : (i : Int) < (l.length : Int) := by omega
        have HO := hidden hown
        have HCL : Hid (cntL (l.take i) + l[i].cnt ≤ cntL l ∧ l[i].cnt = 3 + cntL l[i].kids + l[i].keys.length) := ⟨hcl, hce⟩
        have HY : Hid (ys[i * 5 + 2]? = some c2 ∧ ys[i * 5 + 3]? = some (C i) ∧ ys[i * 5 + 4]? = some (U i)) := ⟨y2, y3, y4⟩
        clear hcl hce y0 y1 y2 y3 y4 hown HI hrow
        go_wp2_with fail
        have HMT : Hid (∀ w1, Calls Try.prog 76 #[.int .i64 ((m : Int) + 1 + 1)] w1 fun e w' => e = .returned (.string (markStr (m + 2))) ∧ Below w1.heap.size w1 w') := fun w1 => by
          have := markText_c (m + 2) w1 (by omega) (by omega)
          rw [show ((m + 2 : Nat) : Int) = (m : Int) + 1 + 1 by omega] at this
          exact this
        go_at_call 76
        refine (HMT.out _).mono ?_
        rintro e w1 ⟨rfl, b1⟩
        clear HMT d0 d1 fz
        have r0 := ((HO.out.stored (i * 5) (.int .i64 (m : Int))).1.stored (i * 5 + 1) (.int .i64 ((m : Int) + 1))).1
        have r1 := r0.kept (grown_of_below b1 none) (by simp [Value.ownBlock])
        have d2 : w1.cell? ⟨g, i * 5 + 2, none⟩ = some c2 := (r1.cellAt (i * 5 + 2) (by omega)).trans (by rw [List.getElem?_set_ne (by omega), List.getElem?_set_ne (by omega)]; exact HY.out.1)
        have d3 : w1.cell? ⟨g, i * 5 + 3, none⟩ = some (C i) := (r1.cellAt (i * 5 + 3) (by omega)).trans (by rw [List.getElem?_set_ne (by omega), List.getElem?_set_ne (by omega)]; exact HY.out.2.1)
        have f1 := r1.frozenAt
        have r2 := (r1.stored (i * 5 + 2) (.string (markStr (m + 2)))).1
        have OC := hinv.out.leftC i hlt (Nat.le_refl _)
        obtain ⟨qc, cc, ec⟩ := OC.slice
        obtain ⟨xu, OU, hku⟩ := hinv.out.leftU i hlt (Nat.le_refl _)
        obtain ⟨qu, cu, eu⟩ := owns_sl OU
        have hgw : g < wr.heap.size := Nat.lt_of_lt_of_le (hS g hSg) hchg.size
        obtain ⟨W2, hW2⟩ : ∃ W, W = w1.setCell ⟨g, i * 5 + 2, none⟩ (.string (markStr (m + 2))) := ⟨_, rfl⟩
        have hs0 : ((wr.setCell ⟨g, i * 5, none⟩ (.int .i64 (m : Int))).setCell ⟨g, i * 5 + 1, none⟩ (.int .i64 ((m : Int) + 1))).heap.size = wr.heap.size := by simp [World.setCell]
        have hs1 : wr.heap.size ≤ w1.heap.size := by have := b1.size; rw [hs0] at this; exact this
        have hs2 : W2.heap.size = w1.heap.size := by rw [hW2]; simp [World.setCell]
        have hK2 : ∀ R : Nat → Prop, (∀ b, R b → S b ∧ b ≠ g) → Kp R wr W2 := fun R hR => by
          rw [hW2]
          have hn : ¬ R g := fun h => (hR g h).2 rfl
          exact (((Kp.set hn).trans (Kp.set hn)).trans (Kp.of b1 (fun b hb => by rw [hs0]; exact Nat.lt_of_lt_of_le (hS b (hR b hb).1) hchg.size))).trans (Kp.set hn)
        have hC2 : Chg S wr W2 := by
          rw [hW2]
          exact (((Chg.set hSg).trans (Chg.set hSg)).trans (Chg.of b1)).trans (Chg.set hSg)
        have OC2 := OC.keep (hK2 (B i) (fun b hb => ⟨hB i b hb, fun e => (hNg i).1 (e ▸ hb)⟩))
        have OU2 := owns_kept (hK2 (K i) (fun b hb => ⟨hK i b hb, fun e => (hNg i).2 (e ▸ hb)⟩)) hku OU
        have hBs : ∀ b, B i b → b < W2.heap.size := fun b hb => by rw [hs2]; exact Nat.lt_of_lt_of_le (Nat.lt_of_lt_of_le (hS b (hB i b hb)) hchg.size) hs1
        have hKs : ∀ b, K i b → b < W2.heap.size := fun b hb => by rw [hs2]; exact Nat.lt_of_lt_of_le (Nat.lt_of_lt_of_le (hS b (hK i b hb)) hchg.size) hs1
        have hgs : g < W2.heap.size := by rw [hs2]; exact Nat.lt_of_lt_of_le hgw hs1
        have HC := ih l[i] (List.getElem_mem hlt) (B i) (C i) W2 (m + 3) OC2 hBs (by omega) (by have := HCL.out; have := hm.out; omega)
        rw [show ((m + 3 : Nat) : Int) = (m : Int) + 1 + 1 + 1 by omega] at HC
        rw [hW2] at HC
        rw [ec] at HC d3
        obtain ⟨p, hp⟩ : ∃ p, p = m + 3 + cntL l[i].kids := ⟨_, rfl⟩
        rw [← hp] at HC
        have HP := hidden hp
        have HEC := hidden ec
        have HEU := hidden eu
        have hsz : ∀ b, S b → b < W2.heap.size := fun b hb => by rw [hs2]; exact Nat.lt_of_lt_of_le (Nat.lt_of_lt_of_le (hS b hb) hchg.size) hs1
        have HC2 := hidden HC
        clear hp ec eu
        have HB1 := hidden b1
        have r2' : W2.ownsRow 0 50 5 (.slice (some ⟨g, 0, none⟩) l.length cap) l.length (put3 ys i (.int .i64 (m : Int)) (.int .i64 ((m : Int) + 1)) (.string (markStr (m + 2)))) := by rw [hW2]; exact r2
        have HK2 := hidden hK2
        have HCH2 := hidden hC2
        have HR2 := hidden r2'
        have HW2 := hidden hW2
        have HOU2 := hidden OU2
        clear HC b1 r0 r1 r2 r2' hK2 hC2 OC OC2 OU OU2 hW2 hs0 hs2
        go_wp2_with fail
        go_at_call 69
        refine HC2.out.mono ?_
        rintro e w3 ⟨rfl, MK, ch3'⟩
        have ch3 : Chg (B i) W2 w3 := by rw [HW2.out]; exact ch3'
        have r3 := owns_kept (S := fun b => b = g) (ch3.kp (fun b hb => ⟨hb ▸ hgs, hb ▸ (hNg i).1⟩)) (fun g' h => by simp [Value.ownBlock] at h; exact h.symm) HR2.out
        have d4 : w3.cell? ⟨g, i * 5 + 4, none⟩ = some (.slice qu l[i].keys.length cu) := (r3.cellAt (i * 5 + 4) (by omega)).trans (by rw [put3_other (by omega), ← HEU.out]; exact HY.out.2.2)
        have OU3 := owns_kept (ch3.kp (fun b hb => ⟨hKs b hb, fun h => hBK i i b h hb⟩)) hku HOU2.out
        have HMS := markStrs_c (U i) 0 l[i].keys.length xu p w3 OU3 (by have := HP.out; omega) (by have := HP.out; have := HCL.out; have := hm.out; omega) (by have := HCL.out; omega) (Nat.zero_le _)
        rw [HEU.out] at HMS
        have HMS2 := hidden HMS
        have HR3 := hidden r3
        have hpb : p ≤ 4294967296 := by have := HP.out; have := HCL.out; have := hm.out; omega
        have hkb : l[i].keys.length ≤ 4294967296 := by have := HCL.out; omega
        clear HMS ch3' OU3 HC2 d2 d3 f1 r3
        go_wp2_with fail
        go_at_call 68
        refine HMS2.out.mono ?_
        rintro e w4 ⟨rfl, r4u, gr4⟩
        clear HMS2 d4
        go_wp2_with fail
        rw [← HEU.out] at r4u gr4
        have ch4 := Chg.grown (S := K i) gr4 hku
        have hsz3 : ∀ b, S b → b < w3.heap.size := fun b hb => Nat.lt_of_lt_of_le (hsz b hb) ch3.size
        have r4 := owns_kept (S := fun b => b = g) (ch4.kp (fun b hb => ⟨hb ▸ hsz3 g hSg, hb ▸ (hNg i).2⟩)) (fun g' h => by simp [Value.ownBlock] at h; exact h.symm) HR3.out
        have hK4 : ∀ R : Nat → Prop, (∀ j, j ≠ i → (∀ b, R b → B j b) ∨ (∀ b, R b → K j b) → Kp R wr w4) := fun R j hj h => by
          have hR : ∀ b, R b → S b ∧ b ≠ g ∧ ¬ B i b ∧ ¬ K i b := by
            intro b hb
            rcases h with h | h
            · exact ⟨hB j b (h b hb), fun e => (hNg j).1 (e ▸ h b hb), fun k => hBB j i b hj (h b hb) k, fun k => hBK j i b (h b hb) k⟩
            · exact ⟨hK j b (h b hb), fun e => (hNg j).2 (e ▸ h b hb), fun k => hBK i j b k (h b hb), fun k => hKK j i b hj (h b hb) k⟩
          exact ((HK2.out R (fun b hb => ⟨(hR b hb).1, (hR b hb).2.1⟩)).trans (ch3.kp (fun b hb => ⟨hsz b (hR b hb).1, (hR b hb).2.2.1⟩))).trans (ch4.kp (fun b hb => ⟨hsz3 b (hR b hb).1, (hR b hb).2.2.2⟩))
        have MK4 : MarkL w4 (B i) (m + 3) (C i) l[i].kids := by
          rw [HEC.out]
          exact MK.keep (ch4.kp (fun b hb => ⟨hsz3 b (hB i b hb), hBK i i b hb⟩))
        have RU4 : RdB (K i) w4 (U i) (strsV (marksS (m + 3 + cntL l[i].kids) l[i].keys.length)) := by
          rw [← HP.out]; exact rdB_in r4u hku
        have INV := hinv.out.step hlt hm.out (by omega) hK4 MK4 RU4
        have CHG := hchg.trans (HCH2.out.trans ((ch3.mono (hB i)).trans (ch4.mono (hK i))))
        have HPM : p + l[i].keys.length = k + cntL (l.take (i + 1)) := by rw [cntL_take l i hlt, HP.out, hm.out]; have := HCL.out.2; omega
        go_roundw
        case rel => exact ⟨i + 1, p + l[i].keys.length, _, by omega, by go_num, by simp, HPM, r4, INV, CHG⟩
        case measure => simp [intOf]; omega
      · have he : i = l.length := by omega
        subst he
        have hmm : m = k + cntL l := by have := hm.out; rw [List.take_length] at this; exact this
        have HML : Hid (MarkL wr S k (.slice (some ⟨g, 0, none⟩) l.length cap) l) := .mk k _ l ys C U hown (fun g' h => by simp [Value.ownBlock] at h; exact h ▸ hSg) (fun i hi => by obtain ⟨a, b, c⟩ := hinv.out.done i hi hi; obtain ⟨d, e⟩ := hinv.out.at34 i hi; exact ⟨a, b, c, d, e⟩) (fun i h => (hinv.out.doneC i h h).mono (hB i)) (fun i h => (hinv.out.doneU i h h).mono (hK i))
        have HMM := hidden hmm
        clear hown hinv hmm HI hrow
        go_wp2_with fail
        go_ret
        exact ⟨by rw [← HMM.out]; rfl, HML.out, hchg⟩
theorem markValS_all : ∀ T : Tree, MarkC T.kids := by
  refine Tree.ind (fun k n s l ks ih => ?_)
  exact markValS_step l ih
theorem markValS_c (l : List Tree) : MarkC l := markValS_step l (fun U _ => markValS_all U)
end Go.Proofs.Ytiadcebolcdhbaa

/-! Marks that a tree of values bears, found again as the law looks for them; marks put into a value and found again: contracts for the walks; conditions: there are at most 2 to the 32 marks. -/
namespace Go.Proofs.Ytiadcebolcdhbaa
open Go.RowKit
set_option linter.unusedSimpArgs false
set_option linter.unusedVariables false

def HeldC (l : List Tree) : Prop := ∀ (S : Nat → Prop) (v : Value) (w : World) (k : Nat), MarkL w S k v l → (∀ b, S b → b < w.heap.size) → 1 ≤ k → k + cntL l ≤ 4294967296 →
  Calls Try.prog 70 #[v, .int .i64 (k : Int)] w fun e w' => e = .returned (.int .i64 ((k + cntL l : Nat) : Int)) ∧ Below w.heap.size w w'

set_option maxHeartbeats 4000000 in
set_option maxRecDepth 100000 in
theorem heldValS_step (l : List Tree) (ih : ∀ U ∈ l, HeldC U.kids) : HeldC l := by
  intro S v w k h hS h1 h2
  cases h with
  | mk _ _ _ ys C U hrow hg hc hC hU =>
  rcases id hrow.2 with ⟨rfl, hn0⟩ | ⟨g, cap, cur, rfl, _, hgb, hcap, hmax, _⟩
  · have hl0 : l = [] := List.eq_nil_of_length_eq_zero hn0
    subst hl0
    clear hC hU hc ih hrow hg
    go_enter Try.func70, Try.ntmps70
    go_wp2_with fail
    go_loopw [1, 5] (fun vk vi wr => vk = .int .i64 (k : Int) ∧ vi = .int .i64 0 ∧ wr = w) (fun _ _ _ => 0)
    case atStart => exact ⟨rfl, rfl, rfl⟩
    case round =>
      obtain ⟨rfl, rfl, rfl⟩ := hrel
      go_wp2_with fail
      go_ret
      exact ⟨by simp [cntL], Below.refl _ _⟩
  · have hSg := hg g rfl
    have hgl := hS g hSg
    have hlen := hrow.1
    unfold maxLen at hmax
    have HCE : Hid (∀ i, i < l.length → w.cell? ⟨g, i * 5, none⟩ = some (.int .i64 ((k + cntL (l.take i) : Nat) : Int)) ∧ w.cell? ⟨g, i * 5 + 1, none⟩ = some (.int .i64 ((k + cntL (l.take i) + 1 : Nat) : Int)) ∧ w.cell? ⟨g, i * 5 + 2, none⟩ = some (.string (markStr (k + cntL (l.take i) + 2))) ∧ w.cell? ⟨g, i * 5 + 3, none⟩ = some (C i) ∧ w.cell? ⟨g, i * 5 + 4, none⟩ = some (U i)) := fun i hi => by
      obtain ⟨a, b, c, d, e⟩ := hc i hi
      exact ⟨(hrow.cellAt _ (by omega)).trans a, (hrow.cellAt _ (by omega)).trans b, (hrow.cellAt _ (by omega)).trans c, (hrow.cellAt _ (by omega)).trans d, (hrow.cellAt _ (by omega)).trans e⟩
    clear hc hg hgb hrow
    go_enter Try.func70, Try.ntmps70
    go_wp2_with fail
    go_loopw [1, 5] (fun vk vi wr => ∃ (i m : Nat), i ≤ l.length ∧ vi = .int .i64 (i : Int) ∧ vk = .int .i64 (m : Int) ∧ Hid (m = k + cntL (l.take i)) ∧ Below w.heap.size w wr) (fun _ vi _ => l.length - (intOf vi).toNat)
    case atStart => exact ⟨0, k, Nat.zero_le _, rfl, rfl, by show _ = _; simp [cntL], Below.refl _ _⟩
    case round =>
      obtain ⟨i, m, hi, rfl, rfl, hm, hbr⟩ := hrel
      by_cases hlt : i < l.length
      · obtain ⟨x0, x1, x2, x3, x4⟩ := HCE.out i hlt
        rw [← hm.out] at x0 x1 x2
        have e0 : wr.cell? ⟨g, i * 5, none⟩ = some (.int .i64 (m : Int)) := (hbr.cell (by simpa using hgl)).trans x0
        have e1 : wr.cell? ⟨g, i * 5 + 1, none⟩ = some (.int .i64 ((m : Int) + 1)) := (hbr.cell (by simpa using hgl)).trans (x1.trans (by simp))
        have KEEP : Hid (∀ w', Below wr.heap.size wr w' → w'.cell? ⟨g, i * 5 + 2, none⟩ = some (.string (markStr (m + 2)))) := fun w' h => (h.cell (by simpa using Nat.lt_of_lt_of_le hgl hbr.size)).trans ((hbr.cell (by simpa using hgl)).trans x2)
        have E3 : Hid (∀ w', Below wr.heap.size wr w' → w'.cell? ⟨g, i * 5 + 3, none⟩ = some (C i)) := fun w' h => (h.cell (by simpa using Nat.lt_of_lt_of_le hgl hbr.size)).trans ((hbr.cell (by simpa using hgl)).trans x3)
        have E4 : Hid (∀ w', Below wr.heap.size wr w' → w'.cell? ⟨g, i * 5 + 4, none⟩ = some (U i)) := fun w' h => (h.cell (by simpa using Nat.lt_of_lt_of_le hgl hbr.size)).trans ((hbr.cell (by simpa using hgl)).trans x4)
        have hcl : cntL (l.take i) + l[i].cnt ≤ cntL l := by rw [← cntL_take l i hlt]; exact cntL_take_le _ _
        have hce := cnt_eq l[i]
        have HCL : Hid (cntL (l.take i) + l[i].cnt ≤ cntL l ∧ l[i].cnt = 3 + cntL l[i].kids + l[i].keys.length) := ⟨hcl, hce⟩
        have hm2 : m + 3 ≤ 4294967296 := by have := hm.out; omega
        have hm1 : 1 ≤ m := by have := hm.out; omega
        have hki : (i : Int) < (l.length : Int) := by omega
        obtain ⟨p, hp⟩ : ∃ p, p = m + 3 + cntL l[i].kids := ⟨_, rfl⟩
        have HP := hidden hp
        have hpb : p ≤ 4294967296 := by have := HP.out; have := hm.out; omega
        have hkb : l[i].keys.length ≤ 4294967296 := by omega
        have HPM : Hid (p + l[i].keys.length = k + cntL (l.take (i + 1))) := by show _ = _; rw [cntL_take l i hlt, HP.out, hm.out]; omega
        have HMT : Hid (∀ w1, Calls Try.prog 76 #[.int .i64 ((m : Int) + 1 + 1)] w1 fun e w' => e = .returned (.string (markStr (m + 2))) ∧ Below w1.heap.size w1 w') := fun w1 => by
          have := markText_c (m + 2) w1 (by omega) (by omega)
          rw [show ((m + 2 : Nat) : Int) = (m : Int) + 1 + 1 by omega] at this
          exact this
        obtain ⟨qc, cc, ec⟩ := (hC i hlt).slice
        have HRU : ∀ w', Below w.heap.size w w' → Reads w' (U i) (strsV (marksS p l[i].keys.length)) := fun w' h => by
          have := ((hU i hlt).keep (.of h hS)).reads (fun b hb => Nat.lt_of_lt_of_le (hS b hb) h.size)
          rw [← hm.out, ← hp] at this
          exact this
        obtain ⟨qu, cu, eu, _⟩ := reads_strs (HRU w (Below.refl _ _))
        rw [length_marksS] at eu
        have HC2 : Hid (∀ w', Below wr.heap.size wr w' → Calls Try.prog 70 #[.slice qc l[i].kids.length cc, .int .i64 ((m : Int) + 1 + 1 + 1)] w' fun e w2 => e = .returned (.int .i64 (p : Int)) ∧ Below w'.heap.size w' w2) := fun w' h => by
          have hb2 : Below w.heap.size w w' := hbr.trans (h.mono hbr.size)
          have hk0 := hC i hlt
          rw [← hm.out] at hk0
          have := ih l[i] (List.getElem_mem hlt) S (C i) w' (m + 3) (hk0.keep (.of hb2 hS)) (fun b hb => Nat.lt_of_lt_of_le (hS b hb) hb2.size) (by omega) (by omega)
          rw [show ((m + 3 : Nat) : Int) = (m : Int) + 1 + 1 + 1 by omega, ← hp, ec] at this
          exact this
        have HU2 : Hid (∀ w', Below wr.heap.size wr w' → Calls Try.prog 71 #[.slice qu l[i].keys.length cu, .int .i64 (p : Int)] w' fun e w2 => e = .returned (.int .i64 ((p : Int) + (l[i].keys.length : Int))) ∧ Below w'.heap.size w' w2) := fun w' h => by
          have := heldStrs_c (U i) l[i].keys.length p w' (HRU w' (hbr.trans (h.mono hbr.size))) (by omega) (by omega) hkb
          rw [eu] at this
          exact this
        have E3' : Hid (∀ w', Below wr.heap.size wr w' → w'.cell? ⟨g, i * 5 + 3, none⟩ = some (.slice qc l[i].kids.length cc)) := fun w' h => by rw [← ec]; exact E3.out w' h
        have E4' : Hid (∀ w', Below wr.heap.size wr w' → w'.cell? ⟨g, i * 5 + 4, none⟩ = some (.slice qu l[i].keys.length cu)) := fun w' h => by rw [← eu]; exact E4.out w' h
        have hd0 : Below wr.heap.size wr wr.drew := (Below.refl _ _).drew
        clear x0 x1 x2 x3 x4 E3 E4 HRU ec eu hp hcl hce hC hU HCE ih
        go_wp2_with fail
        refine wp_region_held_drew (S := (fun w' => w'.cell? ⟨g, i * 5 + 2, none⟩ = some (.string (markStr (m + 2))))) (by kernel_rfl) ?SR10 (fun hHeld => ?_)
        case SR10 => (first | (with_reducible exact KEEP.out _ hd1) | (with_reducible exact KEEP.out _ hd0))
        refine wpAnyH_take (i := 0) (oi := _) (v := ?vR10) rfl (by kernel_rfl) (by kernel_rfl) (by kernel_rfl) (fun _ _ _ h => h) (Or.inl ⟨by rfl, ?yR10⟩) hHeld ?_
        case yR10 => (intro w hSw; (try dsimp only at hSw); go_simp <;> with_reducible rfl)
        try simp only [Act.put, List.getElem_toArray, List.getElem_cons_zero, List.getElem_cons_succ, List.setIfInBounds_toArray, List.set_cons_zero, List.set_cons_succ]
        refine wpAnyH_take (i := 1) (oi := _) (v := ?vR11) rfl (by kernel_rfl) (by kernel_rfl) (by kernel_rfl) (fun _ _ _ h => h) (Or.inl ⟨by rfl, ?yR11⟩) hHeld ?_
        case yR11 => (intro w hSw; (try dsimp only at hSw); go_simp <;> with_reducible rfl)
        try simp only [Act.put, List.getElem_toArray, List.getElem_cons_zero, List.getElem_cons_succ, List.setIfInBounds_toArray, List.set_cons_zero, List.set_cons_succ]
        refine wpAnyH_take (i := 2) (oi := _) (v := ?vR12) rfl (by kernel_rfl) (by kernel_rfl) (by kernel_rfl) (fun _ _ _ h => h) (Or.inl ⟨by rfl, ?yR12⟩) hHeld ?_
        case yR12 => (intro w hSw; (try dsimp only at hSw); go_simp <;> with_reducible rfl)
        try simp only [Act.put, List.getElem_toArray, List.getElem_cons_zero, List.getElem_cons_succ, List.setIfInBounds_toArray, List.set_cons_zero, List.set_cons_succ]
        refine wpAnyH_take (i := 3) (oi := _) (v := ?vR13) rfl (by kernel_rfl) (by kernel_rfl) (by kernel_rfl) (fun _ _ _ h => h) (Or.inl ⟨by rfl, ?yR13⟩) hHeld ?_
        case yR13 => (intro w hSw; (try dsimp only at hSw); go_simp <;> with_reducible rfl)
        try simp only [Act.put, List.getElem_toArray, List.getElem_cons_zero, List.getElem_cons_succ, List.setIfInBounds_toArray, List.set_cons_zero, List.set_cons_succ]
        refine wpAnyH_take (i := 4) (oi := _) (v := ?vR14) rfl (by kernel_rfl) (by kernel_rfl) (by kernel_rfl) (fun _ _ _ h => h) (Or.inl ⟨by rfl, ?yR14⟩) hHeld ?_
        case yR14 => (intro w hSw; (try dsimp only at hSw); go_simp <;> with_reducible rfl)
        try simp only [Act.put, List.getElem_toArray, List.getElem_cons_zero, List.getElem_cons_succ, List.setIfInBounds_toArray, List.set_cons_zero, List.set_cons_succ]
        refine wpAnyH_take (i := 5) (oi := _) (v := ?vR15) rfl (by kernel_rfl) (by kernel_rfl) (by kernel_rfl) (fun _ _ _ h => h) (Or.inl ⟨by rfl, ?yR15⟩) hHeld ?_
        case yR15 => (intro w hSw; (try dsimp only at hSw); go_simp <;> with_reducible rfl)
        try simp only [Act.put, List.getElem_toArray, List.getElem_cons_zero, List.getElem_cons_succ, List.setIfInBounds_toArray, List.set_cons_zero, List.set_cons_succ]
        refine wpAnyH_ready (rs := [6]) (by kernel_rfl) (by simp) ?_
        refine AllReadyH.cons rfl (fun K hK => ?_) AllReadyH.nil
        go_simp
        go_wp2_with (go_at_call 76; refine (HMT.out _).mono ?_; rintro e w1 ⟨rfl, b1⟩; have hd1 : Below wr.heap.size wr w1 := hd0.trans (b1.mono hd0.size))
        clear hHeld
        refine hK.out _ _ ?SR17 (fun hHeld => ?_)
        case SR17 => ((try dsimp only); first | (with_reducible exact KEEP.out _ hd1) | (with_reducible exact KEEP.out _ hd0))
        clear hK K
        refine wpAnyH_take (i := 7) (oi := _) (v := ?vR17) rfl (by kernel_rfl) (by kernel_rfl) (by kernel_rfl) (fun _ _ _ h => h) (Or.inl ⟨by rfl, ?yR17⟩) hHeld ?_
        case yR17 => (intro w hSw; (try dsimp only at hSw); go_simp <;> with_reducible rfl)
        try simp only [Act.put, List.getElem_toArray, List.getElem_cons_zero, List.getElem_cons_succ, List.setIfInBounds_toArray, List.set_cons_zero, List.set_cons_succ]
        refine wpAnyH_done (by kernel_rfl) ?_ _
        have z3 := E3'.out _ hd1
        go_wp2_with fail
        go_at_call 70
        refine (HC2.out _ hd1).mono ?_
        rintro e w2 ⟨rfl, b2⟩
        have hd2 : Below wr.heap.size wr w2 := hd1.trans (b2.mono hd1.size)
        have z4 := E4'.out _ hd2
        go_wp2_with fail
        go_at_call 71
        refine (HU2.out _ hd2).mono ?_
        rintro e w3 ⟨rfl, b3⟩
        have hd3 : Below wr.heap.size wr w3 := hd2.trans (b3.mono hd2.size)
        go_wp2_with fail
        go_roundw
        case rel => exact ⟨i + 1, p + l[i].keys.length, by omega, by go_num, by simp, HPM.out, hbr.trans (hd3.mono hbr.size)⟩
        case measure => simp [intOf]; omega
      · have he : i = l.length := by omega
        subst he
        have hmm : m = k + cntL l := by have := hm.out; rw [List.take_length] at this; exact this
        have HMM := hidden hmm
        clear hmm hC hU HCE
        go_wp2_with fail
        go_ret
        exact ⟨by rw [← HMM.out]; rfl, hbr⟩
theorem heldValS_all : ∀ T : Tree, HeldC T.kids := by
  refine Tree.ind (fun k n s l ks ih => ?_)
  exact heldValS_step l ih
theorem heldValS_c (l : List Tree) : HeldC l := heldValS_step l (fun U _ => heldValS_all U)
end Go.Proofs.Ytiadcebolcdhbaa

/-! Marks put into a value that may be written, and found again, as the law does it: contracts for the walks; conditions: no two rows are the same, and there are at most 2 to the 32 marks. -/
namespace Go.Proofs.Ytiadcebolcdhbaa
open Go.RowKit
set_option linter.unusedSimpArgs false
set_option linter.unusedVariables false

/-- A value's list and keys that may be written: in blocks of B, and of K, which have none in common. -/
structure OwnV (w : World) (B K : Nat → Prop) (c u : Value) (l : List Tree) (n : Nat) : Prop where
  list : OwnL w B c l
  keys : ∃ xs, w.ownsRow 0 9 1 u n xs
  inK : ∀ g, u.ownBlock = some g → K g
  apart : ∀ b, B b → ¬ K b
/-- A value's list and keys that bear the marks from k on. -/
structure MarkV (w : World) (S : Nat → Prop) (k : Nat) (c u : Value) (l : List Tree) (n : Nat) : Prop where
  list : MarkL w S k c l
  keys : RdB S w u (strsV (marksS (k + cntL l) n))
theorem MarkV.keep {w w' : World} {S : Nat → Prop} {k : Nat} {c u : Value} {l : List Tree} {n : Nat} (h : MarkV w S k c u l n) (hk : Kp S w w') : MarkV w' S k c u l n := ⟨h.list.keep hk, h.keys.keep hk⟩
theorem OwnV.keep {w w' : World} {B K : Nat → Prop} {c u : Value} {l : List Tree} {n : Nat} (h : OwnV w B K c u l n) (hk : Kp (fun b => B b ∨ K b) w w') : OwnV w' B K c u l n := by
  obtain ⟨xs, hx⟩ := h.keys
  exact ⟨h.list.keep (fun b hb => hk b (.inl hb)), ⟨xs, owns_kept (S := K) (fun b hb => hk b (.inr hb)) h.inK hx⟩, h.inK, h.apart⟩

set_option maxHeartbeats 2000000 in
set_option maxRecDepth 100000 in
theorem markVal_c (a n0 : Int) (s : ByteArray) (c u : Value) (l : List Tree) (n k : Nat) (B K : Nat → Prop) (w : World) (h : OwnV w B K c u l n) (hB : ∀ b, B b ∨ K b → b < w.heap.size) (h1 : 1 ≤ k) (h2 : k + cntL l + n ≤ 4294967296) :
    Calls Try.prog 31 #[.agg #[.int .i64 a, .int .i64 n0, .string s, c, u], .int .i64 (k : Int)] w fun e w' => e = .returned (.int .i64 ((k + cntL l + n : Nat) : Int)) ∧ MarkV w' (fun b => B b ∨ K b) k c u l n ∧ Chg (fun b => B b ∨ K b) w w' := by
  obtain ⟨hl, ⟨xs, hx⟩, hin, hap⟩ := h
  obtain ⟨qc, cc, rfl⟩ := hl.slice
  obtain ⟨qu, cu, rfl⟩ := owns_sl hx
  have hbx : ∀ o, Below w.heap.size w (w.alloc o) := fun o => (Below.refl _ _).alloc (Nat.le_refl _) _
  obtain ⟨p, hp⟩ : ∃ p, p = k + cntL l := ⟨_, rfl⟩
  have HP := hidden hp
  have HM : Hid (∀ o, Calls Try.prog 69 #[.slice qc l.length cc, .int .i64 (k : Int)] (w.alloc o) fun e w' => e = .returned (.int .i64 (p : Int)) ∧ MarkL w' B k (.slice qc l.length cc) l ∧ Chg B (w.alloc o) w') := fun o => by
    rw [hp]
    exact markValS_c l B _ (w.alloc o) k (hl.keep (.of (hbx o) (fun b hb => hB b (.inl hb)))) (fun b hb => Nat.lt_of_lt_of_le (hB b (.inl hb)) (hbx o).size) h1 (by omega)
  have HX := hidden hx
  clear hl hx hp
  have hBl : ∀ b, B b → b < w.heap.size := fun b hb => hB b (.inl hb)
  have hKl : ∀ b, K b → b < w.heap.size := fun b hb => hB b (.inr hb)
  go_enter Try.func31, Try.ntmps31
  go_wp2_with fail
  go_at_call 69
  refine (HM.out _).mono ?_
  rintro e w1 ⟨rfl, M1, ch1⟩
  have hbox := (ch1.block w.heap.size (by simp) (fun h => by have := hBl _ h; omega)).trans (vheap_new w _)
  have x4 := vblk_cell hbox 4
  simp only [List.getElem?_toArray, List.getElem?_cons_succ, List.getElem?_cons_zero] at x4
  have hs1 : w.heap.size + 1 ≤ w1.heap.size := by have := ch1.size; simpa using this
  have kK : Kp K w w1 := fun b hb => (ch1.block b (by have := hKl b hb; simp; omega) (fun h => hap b h hb)).trans (vheap_old w _ (hKl b hb))
  have X1 := owns_kept kK hin HX.out
  have hpb : p ≤ 4294967296 := by have := HP.out; omega
  have HS := hidden (markStrs_c _ 0 n xs p w1 X1 (by have := HP.out; omega) hpb (by omega) (Nat.zero_le _))
  have hnb : n ≤ 4294967296 := by omega
  go_wp2_with fail
  go_at_call 68
  refine HS.out.mono ?_
  rintro e w2 ⟨rfl, X2, g2⟩
  go_wp2_with fail
  go_ret
  have ch2 := Chg.grown (S := K) g2 hin
  refine ⟨by rw [← HP.out]; simp, ⟨(M1.keep (ch2.kp (fun b hb => ⟨by have := hBl b hb; omega, hap b hb⟩))).mono (fun b hb => .inl hb), by rw [← HP.out]; exact (rdB_in X2 hin).mono (fun b hb => .inr hb)⟩, ?_⟩
  exact (Chg.of (hbx _)).trans ((ch1.mono (fun b hb => .inl hb)).trans (ch2.mono (fun b hb => .inr hb)))

set_option maxHeartbeats 2000000 in
set_option maxRecDepth 100000 in
theorem heldVal_c (a n0 : Int) (s : ByteArray) (c u : Value) (l : List Tree) (n k : Nat) (S : Nat → Prop) (w : World) (h : MarkV w S k c u l n) (hS : ∀ b, S b → b < w.heap.size) (h1 : 1 ≤ k) (h2 : k + cntL l + n ≤ 4294967296) :
    Calls Try.prog 32 #[.agg #[.int .i64 a, .int .i64 n0, .string s, c, u], .int .i64 (k : Int)] w fun e w' => e = .returned (.int .i64 ((k + cntL l + n : Nat) : Int)) ∧ Below w.heap.size w w' := by
  obtain ⟨hl, hx⟩ := h
  obtain ⟨qc, cc, rfl⟩ := hl.slice
  have hbx : ∀ o, Below w.heap.size w (w.alloc o) := fun o => (Below.refl _ _).alloc (Nat.le_refl _) _
  obtain ⟨p, hp⟩ : ∃ p, p = k + cntL l := ⟨_, rfl⟩
  have HP := hidden hp
  rw [← hp] at hx
  have HM : Hid (∀ o, Calls Try.prog 70 #[.slice qc l.length cc, .int .i64 (k : Int)] (w.alloc o) fun e w' => e = .returned (.int .i64 (p : Int)) ∧ Below (w.alloc o).heap.size (w.alloc o) w') := fun o => by
    rw [hp]
    exact heldValS_c l S _ (w.alloc o) k (hl.keep (.of (hbx o) hS)) (fun b hb => Nat.lt_of_lt_of_le (hS b hb) (hbx o).size) h1 (by omega)
  have hpb : p ≤ 4294967296 := by omega
  have hp1 : 1 ≤ p := by omega
  have hnb : n ≤ 4294967296 := by omega
  have HX : Hid (∀ w', Below w.heap.size w w' → Calls Try.prog 71 #[u, .int .i64 (p : Int)] w' fun e w2 => e = .returned (.int .i64 ((p : Int) + (n : Int))) ∧ Below w'.heap.size w' w2) := fun w' hb =>
    heldStrs_c u n p w' ((hx.keep (.of hb hS)).reads (fun b h => Nat.lt_of_lt_of_le (hS b h) hb.size)) hp1 hpb hnb
  obtain ⟨qu, cu, eu, _⟩ := hx
  rw [length_strsV, length_marksS] at eu
  subst eu
  clear hl hp
  go_enter Try.func32, Try.ntmps32
  go_wp2_with fail
  go_at_call 70
  refine (HM.out _).mono ?_
  rintro e w1 ⟨rfl, b1⟩
  have hbox := boxAt b1
  have x4 := vblk_cell hbox 4
  simp only [List.getElem?_toArray, List.getElem?_cons_succ, List.getElem?_cons_zero] at x4
  have k1 : Below w.heap.size w w1 := (hbx _).trans (b1.mono (hbx _).size)
  go_wp2_with fail
  go_at_call 71
  refine (HX.out _ k1).mono ?_
  rintro e w2 ⟨rfl, b2⟩
  go_wp2_with fail
  go_ret
  exact ⟨by rw [← HP.out]; simp, k1.trans (b2.mono k1.size)⟩
end Go.Proofs.Ytiadcebolcdhbaa

/-! A text, and a list of texts, told as values: the program's and the specification's: contracts for the walks; condition: the texts hold at most 2 to the 20. -/
namespace Go.Proofs.Ytiadcebolcdhbaa
open Go.RowKit
set_option linter.unusedSimpArgs false
set_option linter.unusedVariables false

/-- The cells of a text as a value. -/
def textV (s : ByteArray) : List Value := [.int .i64 3, .int .i64 0, .string s, .slice none 0 0, .slice none 0 0]

set_option maxHeartbeats 1000000 in
set_option maxRecDepth 100000 in
theorem valOfText_c (s : ByteArray) (hs : s.size ≤ 1048576) (w : World) :
    Calls Try.prog 105 #[.string s] w fun e w' => e = .returned (.agg (textV s).toArray) ∧ Below w.heap.size w w' := by
  have hbx : ∀ o, Below w.heap.size w (w.alloc o) := fun o => (Below.refl _ _).alloc (Nat.le_refl _) _
  have HC := hidden (fun w1 => clone_c s w1 hs)
  go_enter Try.func105, Try.ntmps105
  go_wp2_with fail
  go_at_call 74
  refine (HC.out _).mono ?_
  rintro e w1 ⟨rfl, b1⟩
  have hx := boxAt b1
  have x0 := vblk_cell hx 0
  have x1 := vblk_cell hx 1
  have x2 := vblk_cell hx 2
  have x3 := vblk_cell hx 3
  have x4 := vblk_cell hx 4
  have fx := vblk_frozen hx
  simp only [List.getElem?_toArray, List.getElem?_cons_succ, List.getElem?_cons_zero] at x0 x1 x2 x3 x4
  go_wp2_with fail
  refine bodyPost_ret (v := .agg (textV s).toArray) (by simp [textV, results, Try.results105, go_sem, x0, x1, x2, x3, x4]) rfl ⟨rfl, ?_⟩
  (repeat (refine Below.setCell ?_ (by simp) _))
  exact (hbx _).trans (b1.mono (hbx _).size)

set_option maxHeartbeats 1000000 in
set_option maxRecDepth 100000 in
theorem textVal_c (s : ByteArray) (w : World) :
    Calls Try.prog 104 #[.string s] w fun e w' => e = .returned (.agg (textV s).toArray) ∧ Below w.heap.size w w' := by
  have hbx : ∀ o, Below w.heap.size w (w.alloc o) := fun o => (Below.refl _ _).alloc (Nat.le_refl _) _
  go_enter Try.func104, Try.ntmps104
  go_wp2_with fail
  refine bodyPost_ret (v := .agg (textV s).toArray) (by simp [textV, results, Try.results104, go_sem]) rfl ⟨rfl, ?_⟩
  (repeat (refine Below.setCell ?_ (by simp) _))
  exact hbx _
end Go.Proofs.Ytiadcebolcdhbaa

/-! A list of texts told as a value, by the program: a contract for the walks; condition: the texts hold at most 2 to the 20. -/
namespace Go.Proofs.Ytiadcebolcdhbaa
open Go.RowKit
set_option linter.unusedSimpArgs false
set_option linter.unusedVariables false

/-- The cells of texts as values, one behind the other. -/
def textsV (ss : List ByteArray) : List Value := ss.flatMap textV
theorem textsV_length (ss : List ByteArray) : (textsV ss).length = ss.length * 5 := by
  induction ss with
  | nil => rfl
  | cons s ss ih => simp only [textsV, List.flatMap_cons, List.length_append] at ih ⊢; rw [ih]; simp [textV]; omega
theorem textsV_take (ss : List ByteArray) (k : Nat) (h : k < ss.length) : textsV (ss.take (k + 1)) = textsV (ss.take k) ++ textV ss[k] := by
  rw [List.take_succ_eq_append_getElem h]; unfold textsV; rw [List.flatMap_append]; simp
theorem List.single_le_sum_nat {ss : List ByteArray} {t : ByteArray} (h : t ∈ ss) : t.size ≤ (ss.map ByteArray.size).sum := by
  induction ss with
  | nil => simp at h
  | cons s ss ih =>
    rcases List.mem_cons.1 h with rfl | h
    · simp
    · have := ih h; simp; omega
theorem wpAny_at2 {P : Program} {md : Region.Mode} {ops : Array Oper} {Q : Exit → Act → World → Prop} {S : World → Prop} {f f' : Nat} {l l' : Array Bool} {a : Act} {w : World} (h : wpAnyH P md ops Q S f' l' a w) (hf : f' = f) (hl : l' = l) : wpAnyH P md ops Q S f l a w := by
  subst hf hl; exact h
theorem as_phi2 {P : Program} {md : Region.Mode} {ops : Array Oper} {Q : Exit → Act → World → Prop} {S : World → Prop} {f : Nat} {l : Array Bool} {a : Act} {w : World} (h : ∀ Φ, Φ = wpAnyH P md ops Q S → wpAnyH P md ops Q S f l a w) : wpAnyH P md ops Q S f l a w := h _ rfl
def boxL (c : Value) : Obj := .cells #[.int .i64 4, .int .i64 0, .string ⟨#[]⟩, c, .slice none 0 0] 50 (0, 0)

set_option maxHeartbeats 8000000 in
set_option maxRecDepth 100000 in
theorem valOfTexts_c (v : Value) (ss : List ByteArray) (w : World) (hv : Reads w v (strsV ss)) (hs : bulkS ss ≤ 1048576) :
    Calls Try.prog 64 #[v] w fun e w' => ∃ c, e = .returned (.agg #[.int .i64 4, .int .i64 0, .string ⟨#[]⟩, c, .slice none 0 0]) ∧ w'.ownsRow w.heap.size 50 5 c ss.length (textsV ss) ∧ Below w.heap.size w w' := by
  obtain ⟨a, cap, rfl, _, ha⟩ := reads_strs hv
  have hl : ss.length ≤ 1048576 := by unfold bulkS at hs; omega
  have hbx : ∀ o o', Below w.heap.size w ((w.alloc o).alloc o') := fun o o' => ((Below.refl _ _).alloc (Nat.le_refl _) _).alloc (by simp) _
  clear hv
  go_enter Try.func64, Try.ntmps64
  go_wp2_with fail
  go_loopw [9] (fun vi wr => ∃ (k : Nat) (c : Value), k ≤ ss.length ∧ vi = .int .i64 (k : Int) ∧ wr.heap[w.heap.size]? = some (.cells #[.int .i64 0, .int .i64 0, .string ⟨#[]⟩, .slice none 0 0, .slice none 0 0] 50 (0, 0)) ∧ wr.heap[w.heap.size + 1]? = some (boxL c) ∧ wr.ownsRow (w.heap.size + 2) 50 5 c k (textsV (ss.take k)) ∧ Below w.heap.size w wr) (fun vi _ => ss.length - (intOf vi).toNat)
  case atStart =>
    refine ⟨0, .slice none 0 0, Nat.zero_le _, rfl, ?_, ?_, ?_, hbx _ _⟩
    · rw [vheap_old _ _ (by simp), vheap_new]
    · have := vheap_new (w.alloc (.cells #[.int .i64 0, .int .i64 0, .string ⟨#[]⟩, .slice none 0 0, .slice none 0 0] 50)) (boxL (.slice none 0 0))
      rw [show (w.alloc (.cells #[.int .i64 0, .int .i64 0, .string ⟨#[]⟩, .slice none 0 0, .slice none 0 0] 50)).heap.size = w.heap.size + 1 by simp] at this
      exact this
    · exact ⟨rfl, .inl ⟨rfl, rfl⟩⟩
  case round =>
    obtain ⟨k, c, hk, rfl, hR, hO, hrow, hbr⟩ := hrel
    by_cases hlt : k < ss.length
    · rcases ha with rfl | ⟨b, off, rfl, hltb, ha⟩
      · simp at hlt
      have e0 : wr.cell? ⟨b, off + k, none⟩ = some (.string ss[k]) := (hbr.cell (by simpa using hltb)).trans (ha k hlt)
      have hki : (k : Int) < (ss.length : Int) := by omega
      obtain ⟨t, ht⟩ : ∃ t, t = ss[k] := ⟨_, rfl⟩
      rw [← ht] at e0
      have hts : t.size ≤ 1048576 := by
        have h1 := List.getElem_mem hlt
        rw [← ht] at h1
        have h2 : t.size ≤ (ss.map ByteArray.size).sum := List.single_le_sum_nat h1
        unfold bulkS at hs; omega
      have HTK := hidden (textsV_take ss k hlt)
      rw [← ht] at HTK
      have HT := hidden (fun w1 => valOfText_c t hts w1)
      clear ht ha
      go_wp2_with fail
      obtain ⟨i0, hi, hz0, hz1, hz2⟩ := info_parts infoVal
      refine wp_region_held_drew (S := fun _ => True) (by kernel_rfl) True.intro (fun hHeld => ?_)
      refine wpAnyH_take (i := 0) (oi := _) (v := ?vT1) rfl (by kernel_rfl) (by kernel_rfl) (by kernel_rfl) (fun _ _ _ h => h) (Or.inl ⟨by rfl, ?yT1⟩) hHeld ?_
      case yT1 => (intro w hSw; (try dsimp only at hSw); go_simp <;> with_reducible rfl)
      try simp only [Act.put, List.getElem_toArray, List.getElem_cons_zero, List.getElem_cons_succ, List.setIfInBounds_toArray, List.set_cons_zero, List.set_cons_succ]
      refine wpAnyH_take (i := 2) (oi := _) (v := ?vT2) rfl (by kernel_rfl) (by kernel_rfl) (by kernel_rfl) (fun _ _ _ h => h) (Or.inl ⟨by rfl, ?yT2⟩) hHeld ?_
      case yT2 => (intro w hSw; (try dsimp only at hSw); go_simp <;> with_reducible rfl)
      try simp only [Act.put, List.getElem_toArray, List.getElem_cons_zero, List.getElem_cons_succ, List.setIfInBounds_toArray, List.set_cons_zero, List.set_cons_succ]
      refine as_phi2 (fun Φ hΦ => ?_)
      have N12 : Hid (∀ (W : World) (hO : W.heap[w.heap.size + 1]? = some (boxL c)) (hrow : W.ownsRow (w.heap.size + 2) 50 5 c k (textsV (ss.take k))) (hb : Below wr.heap.size wr W) (bb : Nat) (hbb : W.ownsRow 0 50 5 (.slice (some ⟨bb, 0, none⟩) 1 1) 1 (textV t)), Φ 3 #[true, true, true, true, true, false, false, false] { tmps := #[.slice (some ⟨b, off, none⟩) ss.length cap, undef, .pointer (some ⟨w.heap.size, 0, none⟩), .pointer (some ⟨w.heap.size + 1, 0, none⟩), undef, .string t, .agg #[.int .i64 4, .int .i64 0, .string ⟨#[]⟩, .slice none 0 0, .slice none 0 0], .slice (some ⟨b, off, none⟩) ss.length cap, .int .i64 (ss.length : Int), .int .i64 (k : Int), .bool true, .pointer (some ⟨b, off + k, none⟩), .string t, .pointer (some ⟨w.heap.size + 1, 3, none⟩), c, .string t, .agg (textV t).toArray, .slice (some ⟨bb, 0, none⟩) 1 1, u18, u19, u20, undef], defers := [] } W) := by
        intro W hO hrow hb bb hbb
        rw [hΦ]
        have hHeld : True := True.intro
        refine wpAnyH_ready (rs := [5]) (by kernel_rfl) (by simp) ?_
        refine AllReadyH.cons rfl (fun K hK => ?_) AllReadyH.nil
        rw [if_pos (by rfl)]
        have hb2 : w.heap.size + 2 ≤ W.heap.size := by have := (Array.getElem?_eq_some_iff.1 hO).1; omega
        refine wp_append_own _ _ _ 48 rfl (w.heap.size + 2) 50 i0 (.agg #[.int .i64 0, .int .i64 0, .string ⟨#[]⟩, .slice none 0 0, .slice none 0 0]) 5 80 Try.underlying48 hi hz0 hz1 hz2 rfl (by decide) c k _ rfl hrow ⟨bb, 0, none⟩ 1 1 (textV t) rfl (by rfl) (fun j u hj => ?_) (by simp [textV, Value.oneCell']) (by unfold maxLen; omega) (by omega) hb2 ?_
        · have hj5 : j < 5 := by
            have := (List.getElem?_eq_some_iff.1 hj).1
            simpa [textV] using this
          have := (hbb.cellAt j (by omega)).trans hj
          have e : ((⟨bb, 0, none⟩ : Addr).add j) = ⟨bb, j, none⟩ := by unfold Addr.add; split <;> simp_all
          rw [e]; exact this
        intro c' W1 hrow1 gr1 _
        obtain ⟨q', cap', ec'⟩ := owns_sl hrow1
        subst ec'
        have hne : c.ownBlock ≠ some (w.heap.size + 1) := fun e => by have := (owns_in hrow _ e).1; omega
        have hO1 := (gr1.block _ (Array.getElem?_eq_some_iff.1 hO).1 (fun e => hne e.symm)).trans hO
        have hbw : Below w.heap.size w W1 := Below.grown (hbr.trans (hb.mono hbr.size)) gr1 (Nat.le_trans hbr.size hb.size) (fun j hj => by have := (owns_in hrow _ hj).1; omega)
        clear hHeld
        refine hK.out _ _ True.intro (fun hHeld => ?_)
        clear hK K
        try simp only [Act.put, List.getElem_toArray, List.getElem_cons_zero, List.getElem_cons_succ, List.setIfInBounds_toArray, List.set_cons_zero, List.set_cons_succ]
        refine wpAnyH_take (i := 6) (oi := _) (v := ?vT3) rfl (by kernel_rfl) (by kernel_rfl) (by kernel_rfl) (fun _ _ _ h => h) (Or.inl ⟨by rfl, ?yT3⟩) hHeld ?_
        case yT3 => (intro w hSw; (try dsimp only at hSw); go_simp <;> with_reducible rfl)
        try simp only [Act.put, List.getElem_toArray, List.getElem_cons_zero, List.getElem_cons_succ, List.setIfInBounds_toArray, List.set_cons_zero, List.set_cons_succ]
        have x3 := vblk_cell hO1 3
        have fx := vblk_frozen hO1
        simp only [List.getElem?_toArray, List.getElem?_cons_succ, List.getElem?_cons_zero] at x3
        refine wpAnyH_ready (rs := [7]) (by kernel_rfl) (by simp) ?_
        refine AllReadyH.cons rfl (fun K hK => ?_) AllReadyH.nil
        go_simp
        clear hHeld
        refine hK.out _ _ True.intro (fun hHeld => ?_)
        clear hK K
        try simp only [Act.put, List.getElem_toArray, List.getElem_cons_zero, List.getElem_cons_succ, List.setIfInBounds_toArray, List.set_cons_zero, List.set_cons_succ]
        refine wpAnyH_done (by kernel_rfl) ?_ _
        clear hHeld
        have hR1 : W1.heap[w.heap.size]? = _ := (gr1.block w.heap.size (by omega) (fun e => by have := (owns_in hrow _ e.symm).1; omega)).trans ((hb.block w.heap.size (by have := (Array.getElem?_eq_some_iff.1 hR).1; exact this)).trans hR)
        have hR2 := (Below.heap_setCell W1 ⟨w.heap.size + 1, 3, none⟩ (.slice q' (k + 1) cap') w.heap.size (by simp)).trans hR1
        have hO2 := heap_setCell_same W1 (w.heap.size + 1) 3 _ _ (.slice q' (k + 1) cap') hO1
        have hrow2 := owns_kept (S := fun b => w.heap.size + 2 ≤ b) (Kp.set (g := w.heap.size + 1) (j := 3) (v := .slice q' (k + 1) cap') (by omega)) (fun g h => (owns_in hrow1 g h).1) hrow1
        rw [← HTK.out] at hrow2
        have hbw2 := Below.setCell hbw (p := ⟨w.heap.size + 1, 3, none⟩) (by simp) (.slice q' (k + 1) cap')
        have HF := hidden (And.intro hR2 (And.intro hO2 (And.intro hrow2 hbw2)))
        clear hR1 hR2 hO2 hrow2 hbw2 hrow1 gr1 hO1 x3 fx hbb hO hrow hb hbw
        go_wp2_with fail
        go_roundw
        case rel => exact ⟨k + 1, _, by omega, by go_num, HF.out.1, HF.out.2.1, HF.out.2.2.1, HF.out.2.2.2⟩
        case measure => simp [intOf]; omega
      have N02 : Hid (∀ (W : World) (hO : W.heap[w.heap.size + 1]? = some (boxL c)) (hrow : W.ownsRow (w.heap.size + 2) 50 5 c k (textsV (ss.take k))) (hb : Below wr.heap.size wr W) (bb : Nat) (hbb : W.ownsRow 0 50 5 (.slice (some ⟨bb, 0, none⟩) 1 1) 1 (textV t)), Φ 4 #[true, false, true, true, true, false, false, false] { tmps := #[.slice (some ⟨b, off, none⟩) ss.length cap, undef, .pointer (some ⟨w.heap.size, 0, none⟩), .pointer (some ⟨w.heap.size + 1, 0, none⟩), undef, .string t, .agg #[.int .i64 4, .int .i64 0, .string ⟨#[]⟩, .slice none 0 0, .slice none 0 0], .slice (some ⟨b, off, none⟩) ss.length cap, .int .i64 (ss.length : Int), .int .i64 (k : Int), .bool true, .pointer (some ⟨b, off + k, none⟩), .string t, .pointer (some ⟨w.heap.size + 1, 3, none⟩), u14, .string t, .agg (textV t).toArray, .slice (some ⟨bb, 0, none⟩) 1 1, u18, u19, u20, undef], defers := [] } W) := by
        intro W hO hrow hb bb hbb
        rw [hΦ]
        have hHeld : True := True.intro
        refine wpAnyH_ready (rs := [1]) (by kernel_rfl) (by simp) ?_
        refine AllReadyH.cons rfl (fun K hK => ?_) AllReadyH.nil
        have x3 := vblk_cell hO 3
        simp only [List.getElem?_toArray, List.getElem?_cons_succ, List.getElem?_cons_zero] at x3
        go_simp
        clear hHeld
        refine hK.out _ _ True.intro (fun hHeld => ?_)
        clear hK K
        try simp only [Act.put, List.getElem_toArray, List.getElem_cons_zero, List.getElem_cons_succ, List.setIfInBounds_toArray, List.set_cons_zero, List.set_cons_succ]
        have h := N12.out W hO hrow hb bb hbb
        rw [hΦ] at h
        exact wpAny_at2 h (by kernel_rfl) (by kernel_rfl)
      have N11 : Hid (∀ (W : World) (hO : W.heap[w.heap.size + 1]? = some (boxL c)) (hrow : W.ownsRow (w.heap.size + 2) 50 5 c k (textsV (ss.take k))) (hb : Below wr.heap.size wr W), Φ 4 #[true, true, true, true, false, false, false, false] { tmps := #[.slice (some ⟨b, off, none⟩) ss.length cap, undef, .pointer (some ⟨w.heap.size, 0, none⟩), .pointer (some ⟨w.heap.size + 1, 0, none⟩), undef, .string t, .agg #[.int .i64 4, .int .i64 0, .string ⟨#[]⟩, .slice none 0 0, .slice none 0 0], .slice (some ⟨b, off, none⟩) ss.length cap, .int .i64 (ss.length : Int), .int .i64 (k : Int), .bool true, .pointer (some ⟨b, off + k, none⟩), .string t, .pointer (some ⟨w.heap.size + 1, 3, none⟩), c, .string t, .agg (textV t).toArray, u17, u18, u19, u20, undef], defers := [] } W) := by
        intro W hO hrow hb
        rw [hΦ]
        have hHeld : True := True.intro
        refine wpAnyH_ready (rs := [4]) (by kernel_rfl) (by simp) ?_
        refine AllReadyH.cons rfl (fun K hK => ?_) AllReadyH.nil
        unfold textV
        go_simp
        have ka : Below W.heap.size W (W.alloc (.cells (textV t).toArray 50)) := (Below.refl _ _).alloc (Nat.le_refl _) _
        have hbb : (W.alloc (.cells (textV t).toArray 50)).ownsRow 0 50 5 (.slice (some ⟨W.heap.size, 0, none⟩) 1 1) 1 (textV t) := owns_lo (Nat.zero_le _) (World.ownsRow_lit W (textV t).toArray 1 (Nat.le_refl _) (by unfold maxLen; omega) rfl)
        have hO := (ka.block _ (Array.getElem?_eq_some_iff.1 hO).1).trans hO
        have hrow := hrow.kept (grown_of_below ka none) (by cases hq : c.ownBlock <;> simp)
        have hb := hb.trans (ka.mono hb.size)
        obtain ⟨bb, hbbe⟩ : ∃ q, q = W.heap.size := ⟨_, rfl⟩
        rw [← hbbe] at hbb
        try rw [← hbbe]
        clear hHeld
        refine hK.out _ (W.alloc (.cells (textV t).toArray 50)) True.intro (fun hHeld => ?_)
        clear hK K
        try simp only [Act.put, List.getElem_toArray, List.getElem_cons_zero, List.getElem_cons_succ, List.setIfInBounds_toArray, List.set_cons_zero, List.set_cons_succ]
        have h := N12.out (W.alloc (.cells (textV t).toArray 50)) hO hrow hb bb hbb
        rw [hΦ] at h
        exact wpAny_at2 h (by kernel_rfl) (by kernel_rfl)
      have N01 : Hid (∀ (W : World) (hO : W.heap[w.heap.size + 1]? = some (boxL c)) (hrow : W.ownsRow (w.heap.size + 2) 50 5 c k (textsV (ss.take k))) (hb : Below wr.heap.size wr W), Φ 5 #[true, false, true, true, false, false, false, false] { tmps := #[.slice (some ⟨b, off, none⟩) ss.length cap, undef, .pointer (some ⟨w.heap.size, 0, none⟩), .pointer (some ⟨w.heap.size + 1, 0, none⟩), undef, .string t, .agg #[.int .i64 4, .int .i64 0, .string ⟨#[]⟩, .slice none 0 0, .slice none 0 0], .slice (some ⟨b, off, none⟩) ss.length cap, .int .i64 (ss.length : Int), .int .i64 (k : Int), .bool true, .pointer (some ⟨b, off + k, none⟩), .string t, .pointer (some ⟨w.heap.size + 1, 3, none⟩), u14, .string t, .agg (textV t).toArray, u17, u18, u19, u20, undef], defers := [] } W) := by
        intro W hO hrow hb
        rw [hΦ]
        have hHeld : True := True.intro
        refine wpAnyH_ready (rs := [1, 4]) (by kernel_rfl) (by simp) ?_
        refine AllReadyH.cons rfl (fun K hK => ?_) (AllReadyH.cons rfl (fun K hK => ?_) AllReadyH.nil)
        · have x3 := vblk_cell hO 3
          simp only [List.getElem?_toArray, List.getElem?_cons_succ, List.getElem?_cons_zero] at x3
          go_simp
          clear hHeld
          refine hK.out _ _ True.intro (fun hHeld => ?_)
          clear hK K
          try simp only [Act.put, List.getElem_toArray, List.getElem_cons_zero, List.getElem_cons_succ, List.setIfInBounds_toArray, List.set_cons_zero, List.set_cons_succ]
          have h := N11.out W hO hrow hb
          rw [hΦ] at h
          exact wpAny_at2 h (by kernel_rfl) (by kernel_rfl)
        · unfold textV
          go_simp
          have ka : Below W.heap.size W (W.alloc (.cells (textV t).toArray 50)) := (Below.refl _ _).alloc (Nat.le_refl _) _
          have hbb : (W.alloc (.cells (textV t).toArray 50)).ownsRow 0 50 5 (.slice (some ⟨W.heap.size, 0, none⟩) 1 1) 1 (textV t) := owns_lo (Nat.zero_le _) (World.ownsRow_lit W (textV t).toArray 1 (Nat.le_refl _) (by unfold maxLen; omega) rfl)
          have hO := (ka.block _ (Array.getElem?_eq_some_iff.1 hO).1).trans hO
          have hrow := hrow.kept (grown_of_below ka none) (by cases hq : c.ownBlock <;> simp)
          have hb := hb.trans (ka.mono hb.size)
          obtain ⟨bb, hbbe⟩ : ∃ q, q = W.heap.size := ⟨_, rfl⟩
          rw [← hbbe] at hbb
          try rw [← hbbe]
          clear hHeld
          refine hK.out _ (W.alloc (.cells (textV t).toArray 50)) True.intro (fun hHeld => ?_)
          clear hK K
          try simp only [Act.put, List.getElem_toArray, List.getElem_cons_zero, List.getElem_cons_succ, List.setIfInBounds_toArray, List.set_cons_zero, List.set_cons_succ]
          have h := N02.out (W.alloc (.cells (textV t).toArray 50)) hO hrow hb bb hbb
          rw [hΦ] at h
          exact wpAny_at2 h (by kernel_rfl) (by kernel_rfl)
      have N10 : Hid (∀ (W : World) (hO : W.heap[w.heap.size + 1]? = some (boxL c)) (hrow : W.ownsRow (w.heap.size + 2) 50 5 c k (textsV (ss.take k))) (hb : Below wr.heap.size wr W), Φ 5 #[true, true, true, false, false, false, false, false] { tmps := #[.slice (some ⟨b, off, none⟩) ss.length cap, undef, .pointer (some ⟨w.heap.size, 0, none⟩), .pointer (some ⟨w.heap.size + 1, 0, none⟩), undef, .string t, .agg #[.int .i64 4, .int .i64 0, .string ⟨#[]⟩, .slice none 0 0, .slice none 0 0], .slice (some ⟨b, off, none⟩) ss.length cap, .int .i64 (ss.length : Int), .int .i64 (k : Int), .bool true, .pointer (some ⟨b, off + k, none⟩), .string t, .pointer (some ⟨w.heap.size + 1, 3, none⟩), c, .string t, u16, u17, u18, u19, u20, undef], defers := [] } W) := by
        intro W hO hrow hb
        rw [hΦ]
        have hHeld : True := True.intro
        refine wpAnyH_ready (rs := [3]) (by kernel_rfl) (by simp) ?_
        refine AllReadyH.cons rfl (fun K hK => ?_) AllReadyH.nil
        go_simp
        go_wp2_with (go_at_call 105; refine (HT.out _).mono ?_; rintro e W1 ⟨rfl, b1⟩)
        have hO := (b1.block _ (Array.getElem?_eq_some_iff.1 hO).1).trans hO
        have hrow := hrow.kept (grown_of_below b1 none) (by cases hq : c.ownBlock <;> simp)
        have hb := hb.trans (b1.mono hb.size)
        clear hHeld
        refine hK.out _ _ True.intro (fun hHeld => ?_)
        clear hK K
        try simp only [Act.put, List.getElem_toArray, List.getElem_cons_zero, List.getElem_cons_succ, List.setIfInBounds_toArray, List.set_cons_zero, List.set_cons_succ]
        have h := N11.out W1 hO hrow hb
        rw [hΦ] at h
        exact wpAny_at2 h (by kernel_rfl) (by kernel_rfl)
      have N00 : Hid (∀ (W : World) (hO : W.heap[w.heap.size + 1]? = some (boxL c)) (hrow : W.ownsRow (w.heap.size + 2) 50 5 c k (textsV (ss.take k))) (hb : Below wr.heap.size wr W), Φ 6 #[true, false, true, false, false, false, false, false] { tmps := #[.slice (some ⟨b, off, none⟩) ss.length cap, undef, .pointer (some ⟨w.heap.size, 0, none⟩), .pointer (some ⟨w.heap.size + 1, 0, none⟩), undef, .string t, .agg #[.int .i64 4, .int .i64 0, .string ⟨#[]⟩, .slice none 0 0, .slice none 0 0], .slice (some ⟨b, off, none⟩) ss.length cap, .int .i64 (ss.length : Int), .int .i64 (k : Int), .bool true, .pointer (some ⟨b, off + k, none⟩), .string t, .pointer (some ⟨w.heap.size + 1, 3, none⟩), u14, .string t, u16, u17, u18, u19, u20, undef], defers := [] } W) := by
        intro W hO hrow hb
        rw [hΦ]
        have hHeld : True := True.intro
        refine wpAnyH_ready (rs := [1, 3]) (by kernel_rfl) (by simp) ?_
        refine AllReadyH.cons rfl (fun K hK => ?_) (AllReadyH.cons rfl (fun K hK => ?_) AllReadyH.nil)
        · have x3 := vblk_cell hO 3
          simp only [List.getElem?_toArray, List.getElem?_cons_succ, List.getElem?_cons_zero] at x3
          go_simp
          clear hHeld
          refine hK.out _ _ True.intro (fun hHeld => ?_)
          clear hK K
          try simp only [Act.put, List.getElem_toArray, List.getElem_cons_zero, List.getElem_cons_succ, List.setIfInBounds_toArray, List.set_cons_zero, List.set_cons_succ]
          have h := N10.out W hO hrow hb
          rw [hΦ] at h
          exact wpAny_at2 h (by kernel_rfl) (by kernel_rfl)
        · go_simp
          go_wp2_with (go_at_call 105; refine (HT.out _).mono ?_; rintro e W1 ⟨rfl, b1⟩)
          have hO := (b1.block _ (Array.getElem?_eq_some_iff.1 hO).1).trans hO
          have hrow := hrow.kept (grown_of_below b1 none) (by cases hq : c.ownBlock <;> simp)
          have hb := hb.trans (b1.mono hb.size)
          clear hHeld
          refine hK.out _ _ True.intro (fun hHeld => ?_)
          clear hK K
          try simp only [Act.put, List.getElem_toArray, List.getElem_cons_zero, List.getElem_cons_succ, List.setIfInBounds_toArray, List.set_cons_zero, List.set_cons_succ]
          have h := N01.out W1 hO hrow hb
          rw [hΦ] at h
          exact wpAny_at2 h (by kernel_rfl) (by kernel_rfl)
      have h := N00.out wr.drew hO (show wr.drew.ownsRow _ _ _ _ _ _ from hrow) (Below.refl _ _).drew
      rw [hΦ] at h
      exact wpAny_at2 h (by kernel_rfl) (by kernel_rfl)
    · have he : k = ss.length := by omega
      subst he
      rw [List.take_length] at hrow
      obtain ⟨qc, cc, ec⟩ := owns_sl hrow
      subst ec
      have x0 := vblk_cell hO 0
      have x1 := vblk_cell hO 1
      have x2 := vblk_cell hO 2
      have x3 := vblk_cell hO 3
      have x4 := vblk_cell hO 4
      have y0 := vblk_cell hR 0
      have y1 := vblk_cell hR 1
      have y2 := vblk_cell hR 2
      have y3 := vblk_cell hR 3
      have y4 := vblk_cell hR 4
      have fy := vblk_frozen hR
      simp only [List.getElem?_toArray, List.getElem?_cons_succ, List.getElem?_cons_zero] at x0 x1 x2 x3 x4 y0 y1 y2 y3 y4
      have HRW := hidden hrow
      clear ha hO hR hrow
      go_wp2_with fail
      refine bodyPost_ret (v := .agg #[.int .i64 4, .int .i64 0, .string ⟨#[]⟩, .slice qc ss.length cc, .slice none 0 0]) (by simp [results, Try.results64, go_sem, x0, x1, x2, x3, x4, y0, y1, y2, y3, y4]) rfl ⟨_, rfl, ?_, ?_⟩
      · refine owns_lo (lo := w.heap.size + 2) (by omega) (owns_kept (S := fun b => w.heap.size + 2 ≤ b) ?_ (fun g h => (owns_in HRW.out g h).1) HRW.out)
        (repeat (refine Kp.trans ?_ (Kp.set (by omega))))
        exact fun b hb => rfl
      · (repeat (refine Below.setCell ?_ (by simp) _))
        exact hbr
end Go.Proofs.Ytiadcebolcdhbaa
