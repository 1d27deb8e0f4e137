/-
  Rows of structs that lie in memory: what an element's cells are is handed in; that they are kept, copied cell by cell, and how much they hold; no condition.
-/
import Derived.Test.YtbolphjigjpmiaaDoorKeep
namespace Go.Proofs.YtbolphjigjpmiaaDoor
open Go.RowKit
set_option linter.unusedSimpArgs false
set_option linter.unusedVariables false

theorem hidden {p : Prop} (h : p) : Hid p := h

/-- An element of a row: how many cells, and when these are it, what it refers to lying in blocks of a set. -/
structure Sh (α : Type) where
  n : Nat
  lies : (Nat → Prop) → World → List Value → α → Prop
  keep : ∀ {S : Nat → Prop} {w w' : World} {cs : List Value} {x : α}, Kp S w w' → lies S w cs x → lies S w' cs x
  mono : ∀ {S S' : Nat → Prop} {w : World} {cs : List Value} {x : α}, (∀ b, S b → S' b) → lies S w cs x → lies S' w cs x

/-- From place j of block b on lie these cells. -/
def CellsAt (w : World) (b j : Nat) (cs : List Value) : Prop := ∀ i (h : i < cs.length), w.cell? ⟨b, j + i, none⟩ = some cs[i]
theorem CellsAt.keep {S : Nat → Prop} {w w' : World} {b j : Nat} {cs : List Value} (hk : Kp S w w') (hb : S b) (h : CellsAt w b j cs) : CellsAt w' b j cs := fun i hi => (hk.cell hb _).trans (h i hi)

/-- The row v is xs. -/
def RowIn {α : Type} (sh : Sh α) (S : Nat → Prop) (w : World) (v : Value) (xs : List α) : Prop :=
  ∃ q cap, v = .slice q xs.length cap ∧ xs.length ≤ maxLen ∧ xs.length ≤ cap ∧ (xs = [] ∨ ∃ (b off : Nat), q = some ⟨b, off, none⟩ ∧ S b ∧ ∀ k (h : k < xs.length), ∃ cs, sh.lies S w cs xs[k] ∧ CellsAt w b (off + k * sh.n) cs)
theorem RowIn.keep {α : Type} {sh : Sh α} {S : Nat → Prop} {w w' : World} {v : Value} {xs : List α} (hk : Kp S w w') (h : RowIn sh S w v xs) : RowIn sh S w' v xs := by
  obtain ⟨q, cap, hv, hm, hc, h⟩ := h
  refine ⟨q, cap, hv, hm, hc, ?_⟩
  rcases h with h | ⟨b, off, hq, hb, h⟩
  · exact .inl h
  · exact .inr ⟨b, off, hq, hb, fun k hh => by obtain ⟨cs, h1, h2⟩ := h k hh; exact ⟨cs, sh.keep hk h1, h2.keep hk hb⟩⟩
theorem RowIn.mono {α : Type} {sh : Sh α} {S S' : Nat → Prop} {w : World} {v : Value} {xs : List α} (hS : ∀ b, S b → S' b) (h : RowIn sh S w v xs) : RowIn sh S' w v xs := by
  obtain ⟨q, cap, hv, hm, hc, h⟩ := h
  refine ⟨q, cap, hv, hm, hc, ?_⟩
  rcases h with h | ⟨b, off, hq, hb, h⟩
  · exact .inl h
  · exact .inr ⟨b, off, hq, hS b hb, fun k hh => by obtain ⟨cs, h1, h2⟩ := h k hh; exact ⟨cs, sh.mono hS h1, h2⟩⟩
theorem RowIn.below {α : Type} {sh : Sh α} {w w' : World} {v : Value} {xs : List α} (h : RowIn sh (· < w.heap.size) w v xs) (hb : Below w.heap.size w w') : RowIn sh (· < w'.heap.size) w' v xs :=
  (h.keep (.of hb (fun b h => h))).mono (fun b h => Nat.lt_of_lt_of_le h hb.size)
theorem RowIn.as {α : Type} {sh sh' : Sh α} {S : Nat → Prop} {w : World} {v : Value} {xs : List α} (hn : sh.n = sh'.n) (hl : ∀ S w cs x, sh.lies S w cs x → sh'.lies S w cs x) (h : RowIn sh S w v xs) : RowIn sh' S w v xs := by
  obtain ⟨q, cap, hv, hm, hc, h⟩ := h
  refine ⟨q, cap, hv, hm, hc, ?_⟩
  rcases h with h | ⟨b, off, hq, hb, h⟩
  · exact .inl h
  · exact .inr ⟨b, off, hq, hb, fun k hh => by obtain ⟨cs, h1, h2⟩ := h k hh; exact ⟨cs, hl _ _ _ _ h1, by rw [← hn]; exact h2⟩⟩
theorem RowIn.len {α : Type} {sh : Sh α} {S : Nat → Prop} {w : World} {v : Value} {xs : List α} (h : RowIn sh S w v xs) : xs.length ≤ maxLen := by
  obtain ⟨q, cap, hv, hm, hc, h⟩ := h; exact hm
theorem RowIn.slice {α : Type} {sh : Sh α} {S : Nat → Prop} {w : World} {v : Value} {xs : List α} (h : RowIn sh S w v xs) : ∃ q cap, v = .slice q xs.length cap := by
  obtain ⟨q, cap, hv, hm, hc, h⟩ := h; exact ⟨q, cap, hv⟩
theorem RowIn.at {α : Type} {sh : Sh α} {S : Nat → Prop} {w : World} {v : Value} {xs : List α} (h : RowIn sh S w v xs) {k : Nat} (hk : k < xs.length) : ∃ cs, sh.lies S w cs xs[k] := by
  obtain ⟨q, cap, hv, hm, hc, h⟩ := h
  rcases h with rfl | ⟨b, off, hq, hb, h⟩
  · simp at hk
  · obtain ⟨cs, h1, _⟩ := h k hk; exact ⟨cs, h1⟩

/-- The elements below k lie in the cells ys of a row. -/
def Laid {α : Type} (sh : Sh α) (S : Nat → Prop) (w : World) (ys : List Value) (xs : List α) (k : Nat) : Prop :=
  ∀ i (h : i < xs.length), i < k → ∃ cs, cs.length = sh.n ∧ sh.lies S w cs xs[i] ∧ ∀ j (hj : j < cs.length), ys[i * sh.n + j]? = some cs[j]
/-- The row v is xs, and may be written. -/
def RowOwn {α : Type} (sh : Sh α) (t : TypeId) (S : Nat → Prop) (w : World) (v : Value) (xs : List α) : Prop :=
  xs.length ≤ maxLen ∧ ∃ ys, w.ownsRow 0 t sh.n v xs.length ys ∧ (∀ g, v.ownBlock = some g → S g) ∧ Laid sh S w ys xs xs.length
theorem owns_lo {w : World} {lo lo' : Nat} {e : TypeId} {sz n : Nat} {v : Value} {xs : List Value} (h : lo' ≤ lo) (hg : w.ownsRow lo e sz v n xs) : w.ownsRow lo' e sz v n xs := by
  refine ⟨hg.1, ?_⟩
  rcases hg.2 with h1 | ⟨g, cap, cur, h1, h2, h3⟩
  · exact .inl h1
  · exact .inr ⟨g, cap, cur, h1, by omega, h3⟩
theorem owns_kept {S : Nat → Prop} {w w' : World} {lo : Nat} {e : TypeId} {sz n : Nat} {v : Value} {xs : List Value} (hk : Kp S w w') (hS : ∀ g, v.ownBlock = some g → S g) (hg : w.ownsRow lo e sz v n xs) : w'.ownsRow lo e sz v n xs := by
  refine ⟨hg.1, ?_⟩
  rcases hg.2 with h1 | ⟨g, cap, cur, h1, h2, h3, h4⟩
  · exact .inl h1
  · exact .inr ⟨g, cap, cur, h1, h2, (hk g (hS g (by rw [h1]; rfl))).trans h3, h4⟩
theorem owns_in {w : World} {lo : Nat} {e : TypeId} {sz n : Nat} {v : Value} {xs : List Value} (hg : w.ownsRow lo e sz v n xs) : ∀ g, v.ownBlock = some g → Ow lo w.heap.size g := fun g h => by
  rcases hg.2 with ⟨h1, _⟩ | ⟨g', cap, cur, h1, h2, h3, h4⟩
  · rw [h1] at h; simp [Value.ownBlock] at h
  · rw [h1] at h; simp [Value.ownBlock] at h; subst h
    exact ⟨h2, (Array.getElem?_eq_some_iff.1 h3).1⟩
theorem Laid.keep {α : Type} {sh : Sh α} {S : Nat → Prop} {w w' : World} {ys : List Value} {xs : List α} {k : Nat} (hk : Kp S w w') (h : Laid sh S w ys xs k) : Laid sh S w' ys xs k := fun i hi hik => by
  obtain ⟨cs, h1, h2, h3⟩ := h i hi hik; exact ⟨cs, h1, sh.keep hk h2, h3⟩
theorem Laid.mono {α : Type} {sh : Sh α} {S S' : Nat → Prop} {w : World} {ys : List Value} {xs : List α} {k : Nat} (hS : ∀ b, S b → S' b) (h : Laid sh S w ys xs k) : Laid sh S' w ys xs k := fun i hi hik => by
  obtain ⟨cs, h1, h2, h3⟩ := h i hi hik; exact ⟨cs, h1, sh.mono hS h2, h3⟩
theorem RowOwn.keep {α : Type} {sh : Sh α} {t : TypeId} {S : Nat → Prop} {w w' : World} {v : Value} {xs : List α} (hk : Kp S w w') (h : RowOwn sh t S w v xs) : RowOwn sh t S w' v xs := by
  obtain ⟨h0, ys, h1, h2, h3⟩ := h
  exact ⟨h0, ys, owns_kept hk h2 h1, h2, h3.keep hk⟩
theorem RowOwn.mono {α : Type} {sh : Sh α} {t : TypeId} {S S' : Nat → Prop} {w : World} {v : Value} {xs : List α} (hS : ∀ b, S b → S' b) (h : RowOwn sh t S w v xs) : RowOwn sh t S' w v xs := by
  obtain ⟨h0, ys, h1, h2, h3⟩ := h
  exact ⟨h0, ys, h1, fun g hg => hS g (h2 g hg), h3.mono hS⟩
theorem RowOwn.plain {α : Type} {sh : Sh α} {t : TypeId} {S : Nat → Prop} {w : World} {v : Value} {xs : List α} (h : RowOwn sh t S w v xs) : RowIn sh S w v xs := by
  obtain ⟨hm, ys, h1, h2, h3⟩ := h
  rcases id h1.2 with ⟨rfl, h0⟩ | ⟨g, cap, cur, rfl, _, hg, hc, _⟩
  · exact ⟨none, 0, by rw [h0], hm, by omega, .inl (List.eq_nil_of_length_eq_zero h0)⟩
  · refine ⟨_, _, rfl, hm, hc, .inr ⟨g, 0, rfl, h2 g rfl, fun k hk => ?_⟩⟩
    obtain ⟨cs, e1, e2, e3⟩ := h3 k hk hk
    refine ⟨cs, e2, fun i hi => ?_⟩
    have hlt : k * sh.n + i < xs.length * sh.n := by
      have : (k + 1) * sh.n ≤ xs.length * sh.n := Nat.mul_le_mul_right _ hk
      rw [Nat.add_mul, Nat.one_mul] at this
      omega
    rw [Nat.zero_add, h1.cellAt _ hlt]
    exact e3 i hi

/-- Cells put one behind the other, from place j on. -/
def putL (ys : List Value) (j : Nat) : List Value → List Value
  | [] => ys
  | c :: cs => putL (ys.set j c) (j + 1) cs
def setW (w : World) (g j : Nat) : List Value → World
  | [] => w
  | c :: cs => setW (w.setCell ⟨g, j, none⟩ c) g (j + 1) cs
theorem putL_length (cs : List Value) : ∀ (ys : List Value) (j : Nat), (putL ys j cs).length = ys.length := by
  induction cs with
  | nil => intro ys j; rfl
  | cons c cs ih => intro ys j; show (putL (ys.set j c) (j + 1) cs).length = _; rw [ih]; simp
theorem putL_out (cs : List Value) : ∀ (ys : List Value) (j i : Nat), (i < j ∨ j + cs.length ≤ i) → (putL ys j cs)[i]? = ys[i]? := by
  induction cs with
  | nil => intro ys j i h; rfl
  | cons c cs ih =>
    intro ys j i h
    show (putL (ys.set j c) (j + 1) cs)[i]? = _
    simp at h
    rw [ih _ _ _ (by omega), List.getElem?_set_ne (by omega)]
theorem putL_in (cs : List Value) : ∀ (ys : List Value) (j i : Nat), j + cs.length ≤ ys.length → i < cs.length → (putL ys j cs)[j + i]? = cs[i]? := by
  induction cs with
  | nil => intro ys j i h hi; simp at hi
  | cons c cs ih =>
    intro ys j i h hi
    show (putL (ys.set j c) (j + 1) cs)[j + i]? = _
    simp at h hi
    cases i with
    | zero => rw [putL_out _ _ _ _ (by omega)]; simp [List.getElem?_set, show j < ys.length by omega]
    | succ i => rw [show j + (i + 1) = (j + 1) + i by omega, ih _ _ _ (by simp; omega) (by omega)]; simp
theorem setW_size (cs : List Value) : ∀ (w : World) (g j : Nat), (setW w g j cs).heap.size = w.heap.size := by
  induction cs with
  | nil => intro w g j; rfl
  | cons c cs ih => intro w g j; show (setW (w.setCell ⟨g, j, none⟩ c) g (j + 1) cs).heap.size = _; rw [ih]; simp [World.setCell]
theorem setW_kp {S : Nat → Prop} {g : Nat} (hg : ¬ S g) (cs : List Value) : ∀ (w : World) (j : Nat), Kp S w (setW w g j cs) := by
  induction cs with
  | nil => intro w j b hb; rfl
  | cons c cs ih => intro w j; exact (Kp.set hg).trans (ih _ _)
theorem setW_below {B g : Nat} (hg : B ≤ g) (cs : List Value) : ∀ (w w0 : World) (j : Nat), Below B w0 w → Below B w0 (setW w g j cs) := by
  induction cs with
  | nil => intro w w0 j h; exact h
  | cons c cs ih => intro w w0 j h; exact ih _ _ _ (Below.setCell h hg _)
theorem setW_owns {lo g n cap sz : Nat} {t : TypeId} (cs : List Value) : ∀ (w : World) (ys : List Value) (j : Nat), w.ownsRow lo t sz (.slice (some ⟨g, 0, none⟩) n cap) n ys → (setW w g j cs).ownsRow lo t sz (.slice (some ⟨g, 0, none⟩) n cap) n (putL ys j cs) := by
  induction cs with
  | nil => intro w ys j h; exact h
  | cons c cs ih => intro w ys j h; exact ih _ _ _ (h.stored j c).1

theorem Laid.step {α : Type} {sh : Sh α} {lo : Nat} {w w2 : World} {ys : List Value} {xs : List α} {k : Nat} (h : Laid sh (Ow lo w.heap.size) w ys xs k) (hk : k < xs.length) (hy : ys.length = xs.length * sh.n) (hb : Below w.heap.size w w2) {g : Nat} (hg : g < lo) {cs : List Value}
    (hn : cs.length = sh.n) (hu : sh.lies (Ow lo w2.heap.size) w2 cs xs[k]) : Laid sh (Ow lo (setW w2 g (k * sh.n) cs).heap.size) (setW w2 g (k * sh.n) cs) (putL ys (k * sh.n) cs) xs (k + 1) := fun i hi hik => by
  rw [setW_size]
  have hle : (k + 1) * sh.n ≤ xs.length * sh.n := Nat.mul_le_mul_right _ hk
  rw [Nat.add_mul, Nat.one_mul] at hle
  by_cases e : i = k
  · subst e
    refine ⟨cs, hn, sh.keep (setW_kp (Ow.not hg) _ _ _) hu, fun j hj => ?_⟩
    rw [putL_in _ _ _ _ (by omega) hj, List.getElem?_eq_getElem]
  · obtain ⟨cs', h1, h2, h3⟩ := h i hi (by omega)
    refine ⟨cs', h1, sh.keep (setW_kp (Ow.not hg) _ _ _) (sh.mono (Ow.mono (Nat.le_refl _) hb.size) (sh.keep (Ow.below hb) h2)), fun j hj => ?_⟩
    have hle2 : (i + 1) * sh.n ≤ k * sh.n := Nat.mul_le_mul_right _ (by omega)
    rw [Nat.add_mul, Nat.one_mul] at hle2
    rw [putL_out _ _ _ _ (by omega)]
    exact h3 j hj
theorem rowOwn_of {α : Type} {sh : Sh α} {t : TypeId} {w : World} {lo g : Nat} {ys : List Value} {xs : List α} (hg : w.ownsRow lo t sh.n (.slice (some ⟨g, 0, none⟩) xs.length xs.length) xs.length ys) (hl : xs.length ≤ maxLen)
    (h : Laid sh (Ow (lo + 1) w.heap.size) w ys xs xs.length) : RowOwn sh t (Ow lo w.heap.size) w (.slice (some ⟨g, 0, none⟩) xs.length xs.length) xs :=
  ⟨hl, ys, owns_lo (Nat.zero_le _) hg, owns_in hg, h.mono (Ow.mono (by omega) (Nat.le_refl _))⟩

/-- How much a row holds, as the law counts it. -/
def wtRow {α : Type} (f : α → Nat) (xs : List α) : Nat := (xs.map fun x => 1 + f x).sum
theorem wtRow_take {α : Type} (f : α → Nat) (xs : List α) (k : Nat) (h : k < xs.length) : wtRow f (xs.take (k + 1)) = wtRow f (xs.take k) + (1 + f xs[k]) := by
  rw [wtRow, wtRow, List.take_succ_eq_append_getElem h]; simp only [List.map_append, List.sum_append, List.map_cons, List.map_nil, List.sum_cons, List.sum_nil, Nat.add_zero]
theorem wtRow_split {α : Type} (f : α → Nat) (xs : List α) (k : Nat) : wtRow f xs = wtRow f (xs.take k) + wtRow f (xs.drop k) := by
  rw [wtRow, wtRow, wtRow, ← List.sum_append, ← List.map_append, List.take_append_drop]
theorem len_wtRow {α : Type} (f : α → Nat) (xs : List α) : xs.length ≤ wtRow f xs := by
  induction xs with
  | nil => simp [wtRow]
  | cons d ds ih => simp [wtRow] at ih ⊢; omega
theorem wt_wtRow {α : Type} (f : α → Nat) {xs : List α} {x : α} (h : x ∈ xs) : f x ≤ wtRow f xs := by
  induction xs with
  | nil => simp at h
  | cons y xs ih =>
    simp [wtRow] at ih ⊢
    rcases List.mem_cons.1 h with rfl | h
    · omega
    · have := ih h; omega
theorem leftW_seq {a b : Nat} {left : Int} (h : 0 ≤ leftW a left) : leftW b (leftW a left) = leftW (a + b) left := by
  have ha : (a : Int) ≤ left := by
    by_cases h2 : (a : Int) ≤ left
    · exact h2
    · rw [leftW_bad h2] at h; omega
  rw [leftW_good ha]
  by_cases h2 : (b : Int) ≤ left - (a : Int)
  · rw [leftW_good h2, leftW_good (by omega)]; omega
  · rw [leftW_bad h2, leftW_bad (by omega)]
theorem leftW_neg {a b : Nat} {left : Int} (hl : 0 ≤ left) (h : leftW a left < 0) : leftW (a + b) left = -1 := by
  unfold leftW at h ⊢
  split at h
  · omega
  · rw [if_neg (by omega)]
theorem leftW_one {a : Nat} {left : Int} (h : leftW a left < 0) : leftW a left = -1 := by
  unfold leftW at h ⊢
  split at h
  · omega
  · rw [if_neg (by assumption)]
theorem leftW_le {a : Nat} {left : Int} (h : left ≤ 1048576) : leftW a left ≤ 1048576 := by
  unfold leftW; split <;> omega
theorem leftS_eqW (ss : List ByteArray) (left : Int) : leftS ss left = leftW (bulkS ss) left := rfl

/-- A parameter that was put into a block of its own is still there behind a call. -/
theorem boxAt {w w1 : World} {o : Obj} (hb : Below (w.alloc o).heap.size (w.alloc o) w1) : w1.heap[w.heap.size]? = some o := by
  rw [hb.block _ (by simp), vheap_new]
end Go.Proofs.YtbolphjigjpmiaaDoor
