/-
  Contracts for the walks, several texts in one: each part says what it proves, and under which conditions.
-/
import Derived.WalkMore
import Derived.ScopeJumps
import Derived.Deep.RegionHeld
import Derived.Deep.RegionWith
import Derived.Handy
import Derived.Laws.IdiomStrings
import Derived.Test.YtdiopkegaeliaaaDoorQ1

/-! Rows of structs that lie in memory: what an element's cells are is handed in; that they are kept, copied cell by cell, and how much they hold; no condition. -/
namespace Go.Proofs.YtdiopkegaeliaaaDoor
open Go.RowKit
set_option linter.unusedSimpArgs false
set_option linter.unusedVariables false

theorem hidden {p : Prop} (h : p) : Hid p := h

/-- An element of a row: how many cells, and when these are it, what it refers to lying in blocks of a set. -/
structure Sh (α : Type) where
  n : Nat
  lies : (Nat → Prop) → World → List Value → α → Prop
  keep : ∀ {S : Nat → Prop} {w w' : World} {cs : List Value} {x : α}, Kp S w w' → lies S w cs x → lies S w' cs x
  mono : ∀ {S S' : Nat → Prop} {w : World} {cs : List Value} {x : α}, (∀ b, S b → S' b) → lies S w cs x → lies S' w cs x

/-- From place j of block b on lie these cells. -/
def CellsAt (w : World) (b j : Nat) (cs : List Value) : Prop := ∀ i (h : i < cs.length), w.cell? ⟨b, j + i, none⟩ = some cs[i]
theorem CellsAt.keep {S : Nat → Prop} {w w' : World} {b j : Nat} {cs : List Value} (hk : Kp S w w') (hb : S b) (h : CellsAt w b j cs) : CellsAt w' b j cs := fun i hi => (hk.cell hb _).trans (h i hi)

/-- The row v is xs. -/
def RowIn {α : Type} (sh : Sh α) (S : Nat → Prop) (w : World) (v : Value) (xs : List α) : Prop :=
  ∃ q cap, v = .slice q xs.length cap ∧ xs.length ≤ maxLen ∧ xs.length ≤ cap ∧ (xs = [] ∨ ∃ (b off : Nat), q = some ⟨b, off, none⟩ ∧ S b ∧ ∀ k (h : k < xs.length), ∃ cs, sh.lies S w cs xs[k] ∧ CellsAt w b (off + k * sh.n) cs)
theorem RowIn.keep {α : Type} {sh : Sh α} {S : Nat → Prop} {w w' : World} {v : Value} {xs : List α} (hk : Kp S w w') (h : RowIn sh S w v xs) : RowIn sh S w' v xs := by
  obtain ⟨q, cap, hv, hm, hc, h⟩ := h
  refine ⟨q, cap, hv, hm, hc, ?_⟩
  rcases h with h | ⟨b, off, hq, hb, h⟩
  · exact .inl h
  · exact .inr ⟨b, off, hq, hb, fun k hh => by obtain ⟨cs, h1, h2⟩ := h k hh; exact ⟨cs, sh.keep hk h1, h2.keep hk hb⟩⟩
theorem RowIn.mono {α : Type} {sh : Sh α} {S S' : Nat → Prop} {w : World} {v : Value} {xs : List α} (hS : ∀ b, S b → S' b) (h : RowIn sh S w v xs) : RowIn sh S' w v xs := by
  obtain ⟨q, cap, hv, hm, hc, h⟩ := h
  refine ⟨q, cap, hv, hm, hc, ?_⟩
  rcases h with h | ⟨b, off, hq, hb, h⟩
  · exact .inl h
  · exact .inr ⟨b, off, hq, hS b hb, fun k hh => by obtain ⟨cs, h1, h2⟩ := h k hh; exact ⟨cs, sh.mono hS h1, h2⟩⟩
theorem RowIn.below {α : Type} {sh : Sh α} {w w' : World} {v : Value} {xs : List α} (h : RowIn sh (· < w.heap.size) w v xs) (hb : Below w.heap.size w w') : RowIn sh (· < w'.heap.size) w' v xs :=
  (h.keep (.of hb (fun b h => h))).mono (fun b h => Nat.lt_of_lt_of_le h hb.size)
theorem RowIn.as {α : Type} {sh sh' : Sh α} {S : Nat → Prop} {w : World} {v : Value} {xs : List α} (hn : sh.n = sh'.n) (hl : ∀ S w cs x, sh.lies S w cs x → sh'.lies S w cs x) (h : RowIn sh S w v xs) : RowIn sh' S w v xs := by
  obtain ⟨q, cap, hv, hm, hc, h⟩ := h
  refine ⟨q, cap, hv, hm, hc, ?_⟩
  rcases h with h | ⟨b, off, hq, hb, h⟩
  · exact .inl h
  · exact .inr ⟨b, off, hq, hb, fun k hh => by obtain ⟨cs, h1, h2⟩ := h k hh; exact ⟨cs, hl _ _ _ _ h1, by rw [← hn]; exact h2⟩⟩
theorem RowIn.len {α : Type} {sh : Sh α} {S : Nat → Prop} {w : World} {v : Value} {xs : List α} (h : RowIn sh S w v xs) : xs.length ≤ maxLen := by
  obtain ⟨q, cap, hv, hm, hc, h⟩ := h; exact hm
theorem RowIn.slice {α : Type} {sh : Sh α} {S : Nat → Prop} {w : World} {v : Value} {xs : List α} (h : RowIn sh S w v xs) : ∃ q cap, v = .slice q xs.length cap := by
  obtain ⟨q, cap, hv, hm, hc, h⟩ := h; exact ⟨q, cap, hv⟩
theorem RowIn.at {α : Type} {sh : Sh α} {S : Nat → Prop} {w : World} {v : Value} {xs : List α} (h : RowIn sh S w v xs) {k : Nat} (hk : k < xs.length) : ∃ cs, sh.lies S w cs xs[k] := by
  obtain ⟨q, cap, hv, hm, hc, h⟩ := h
  rcases h with rfl | ⟨b, off, hq, hb, h⟩
  · simp at hk
  · obtain ⟨cs, h1, _⟩ := h k hk; exact ⟨cs, h1⟩

/-- The elements below k lie in the cells ys of a row. -/
def Laid {α : Type} (sh : Sh α) (S : Nat → Prop) (w : World) (ys : List Value) (xs : List α) (k : Nat) : Prop :=
  ∀ i (h : i < xs.length), i < k → ∃ cs, cs.length = sh.n ∧ sh.lies S w cs xs[i] ∧ ∀ j (hj : j < cs.length), ys[i * sh.n + j]? = some cs[j]
/-- The row v is xs, and may be written. -/
def RowOwn {α : Type} (sh : Sh α) (t : TypeId) (S : Nat → Prop) (w : World) (v : Value) (xs : List α) : Prop :=
  xs.length ≤ maxLen ∧ ∃ ys, w.ownsRow 0 t sh.n v xs.length ys ∧ (∀ g, v.ownBlock = some g → S g) ∧ Laid sh S w ys xs xs.length
theorem owns_lo {w : World} {lo lo' : Nat} {e : TypeId} {sz n : Nat} {v : Value} {xs : List Value} (h : lo' ≤ lo) (hg : w.ownsRow lo e sz v n xs) : w.ownsRow lo' e sz v n xs := by
  refine ⟨hg.1, ?_⟩
  rcases hg.2 with h1 | ⟨g, cap, cur, h1, h2, h3⟩
  · exact .inl h1
  · exact .inr ⟨g, cap, cur, h1, by omega, h3⟩
theorem owns_kept {S : Nat → Prop} {w w' : World} {lo : Nat} {e : TypeId} {sz n : Nat} {v : Value} {xs : List Value} (hk : Kp S w w') (hS : ∀ g, v.ownBlock = some g → S g) (hg : w.ownsRow lo e sz v n xs) : w'.ownsRow lo e sz v n xs := by
  refine ⟨hg.1, ?_⟩
  rcases hg.2 with h1 | ⟨g, cap, cur, h1, h2, h3, h4⟩
  · exact .inl h1
  · exact .inr ⟨g, cap, cur, h1, h2, (hk g (hS g (by rw [h1]; rfl))).trans h3, h4⟩
theorem owns_in {w : World} {lo : Nat} {e : TypeId} {sz n : Nat} {v : Value} {xs : List Value} (hg : w.ownsRow lo e sz v n xs) : ∀ g, v.ownBlock = some g → Ow lo w.heap.size g := fun g h => by
  rcases hg.2 with ⟨h1, _⟩ | ⟨g', cap, cur, h1, h2, h3, h4⟩
  · rw [h1] at h; simp [Value.ownBlock] at h
  · rw [h1] at h; simp [Value.ownBlock] at h; subst h
    exact ⟨h2, (Array.getElem?_eq_some_iff.1 h3).1⟩
theorem Laid.keep {α : Type} {sh : Sh α} {S : Nat → Prop} {w w' : World} {ys : List Value} {xs : List α} {k : Nat} (hk : Kp S w w') (h : Laid sh S w ys xs k) : Laid sh S w' ys xs k := fun i hi hik => by
  obtain ⟨cs, h1, h2, h3⟩ := h i hi hik; exact ⟨cs, h1, sh.keep hk h2, h3⟩
theorem Laid.mono {α : Type} {sh : Sh α} {S S' : Nat → Prop} {w : World} {ys : List Value} {xs : List α} {k : Nat} (hS : ∀ b, S b → S' b) (h : Laid sh S w ys xs k) : Laid sh S' w ys xs k := fun i hi hik => by
  obtain ⟨cs, h1, h2, h3⟩ := h i hi hik; exact ⟨cs, h1, sh.mono hS h2, h3⟩
theorem RowOwn.keep {α : Type} {sh : Sh α} {t : TypeId} {S : Nat → Prop} {w w' : World} {v : Value} {xs : List α} (hk : Kp S w w') (h : RowOwn sh t S w v xs) : RowOwn sh t S w' v xs := by
  obtain ⟨h0, ys, h1, h2, h3⟩ := h
  exact ⟨h0, ys, owns_kept hk h2 h1, h2, h3.keep hk⟩
theorem RowOwn.mono {α : Type} {sh : Sh α} {t : TypeId} {S S' : Nat → Prop} {w : World} {v : Value} {xs : List α} (hS : ∀ b, S b → S' b) (h : RowOwn sh t S w v xs) : RowOwn sh t S' w v xs := by
  obtain ⟨h0, ys, h1, h2, h3⟩ := h
  exact ⟨h0, ys, h1, fun g hg => hS g (h2 g hg), h3.mono hS⟩
theorem RowOwn.plain {α : Type} {sh : Sh α} {t : TypeId} {S : Nat → Prop} {w : World} {v : Value} {xs : List α} (h : RowOwn sh t S w v xs) : RowIn sh S w v xs := by
  obtain ⟨hm, ys, h1, h2, h3⟩ := h
  rcases id h1.2 with ⟨rfl, h0⟩ | ⟨g, cap, cur, rfl, _, hg, hc, _⟩
  · exact ⟨none, 0, by rw [h0], hm, by omega, .inl (List.eq_nil_of_length_eq_zero h0)⟩
  · refine ⟨_, _, rfl, hm, hc, .inr ⟨g, 0, rfl, h2 g rfl, fun k hk => ?_⟩⟩
    obtain ⟨cs, e1, e2, e3⟩ := h3 k hk hk
    refine ⟨cs, e2, fun i hi => ?_⟩
    have hlt : k * sh.n + i < xs.length * sh.n := by
      have : (k + 1) * sh.n ≤ xs.length * sh.n := Nat.mul_le_mul_right _ hk
      rw [Nat.add_mul, Nat.one_mul] at this
      omega
    rw [Nat.zero_add, h1.cellAt _ hlt]
    exact e3 i hi

/-- Cells put one behind the other, from place j on. -/
def putL (ys : List Value) (j : Nat) : List Value → List Value
  | [] => ys
  | c :: cs => putL (ys.set j c) (j + 1) cs
def setW (w : World) (g j : Nat) : List Value → World
  | [] => w
  | c :: cs => setW (w.setCell ⟨g, j, none⟩ c) g (j + 1) cs
theorem putL_length (cs : List Value) : ∀ (ys : List Value) (j : Nat), (putL ys j cs).length = ys.length := by
  induction cs with
  | nil => intro ys j; rfl
  | cons c cs ih => intro ys j; show (putL (ys.set j c) (j + 1) cs).length = _; rw [ih]; simp
theorem putL_out (cs : List Value) : ∀ (ys : List Value) (j i : Nat), (i < j ∨ j + cs.length ≤ i) → (putL ys j cs)[i]? = ys[i]? := by
  induction cs with
  | nil => intro ys j i h; rfl
  | cons c cs ih =>
    intro ys j i h
    show (putL (ys.set j c) (j + 1) cs)[i]? = _
    simp at h
    rw [ih _ _ _ (by omega), List.getElem?_set_ne (by omega)]
theorem putL_in (cs : List Value) : ∀ (ys : List Value) (j i : Nat), j + cs.length ≤ ys.length → i < cs.length → (putL ys j cs)[j + i]? = cs[i]? := by
  induction cs with
  | nil => intro ys j i h hi; simp at hi
  | cons c cs ih =>
    intro ys j i h hi
    show (putL (ys.set j c) (j + 1) cs)[j + i]? = _
    simp at h hi
    cases i with
    | zero => rw [putL_out _ _ _ _ (by omega)]; simp [List.getElem?_set, show j < ys.length by omega]
    | succ i => rw [show j + (i + 1) = (j + 1) + i by omega, ih _ _ _ (by simp; omega) (by omega)]; simp
theorem setW_size (cs : List Value) : ∀ (w : World) (g j : Nat), (setW w g j cs).heap.size = w.heap.size := by
  induction cs with
  | nil => intro w g j; rfl
  | cons c cs ih => intro w g j; show (setW (w.setCell ⟨g, j, none⟩ c) g (j + 1) cs).heap.size = _; rw [ih]; simp [World.setCell]
theorem setW_kp {S : Nat → Prop} {g : Nat} (hg : ¬ S g) (cs : List Value) : ∀ (w : World) (j : Nat), Kp S w (setW w g j cs) := by
  induction cs with
  | nil => intro w j b hb; rfl
  | cons c cs ih => intro w j; exact (Kp.set hg).trans (ih _ _)
theorem setW_below {B g : Nat} (hg : B ≤ g) (cs : List Value) : ∀ (w w0 : World) (j : Nat), Below B w0 w → Below B w0 (setW w g j cs) := by
  induction cs with
  | nil => intro w w0 j h; exact h
  | cons c cs ih => intro w w0 j h; exact ih _ _ _ (Below.setCell h hg _)
theorem setW_owns {lo g n cap sz : Nat} {t : TypeId} (cs : List Value) : ∀ (w : World) (ys : List Value) (j : Nat), w.ownsRow lo t sz (.slice (some ⟨g, 0, none⟩) n cap) n ys → (setW w g j cs).ownsRow lo t sz (.slice (some ⟨g, 0, none⟩) n cap) n (putL ys j cs) := by
  induction cs with
  | nil => intro w ys j h; exact h
  | cons c cs ih => intro w ys j h; exact ih _ _ _ (h.stored j c).1

theorem Laid.step {α : Type} {sh : Sh α} {lo : Nat} {w w2 : World} {ys : List Value} {xs : List α} {k : Nat} (h : Laid sh (Ow lo w.heap.size) w ys xs k) (hk : k < xs.length) (hy : ys.length = xs.length * sh.n) (hb : Below w.heap.size w w2) {g : Nat} (hg : g < lo) {cs : List Value}
    (hn : cs.length = sh.n) (hu : sh.lies (Ow lo w2.heap.size) w2 cs xs[k]) : Laid sh (Ow lo (setW w2 g (k * sh.n) cs).heap.size) (setW w2 g (k * sh.n) cs) (putL ys (k * sh.n) cs) xs (k + 1) := fun i hi hik => by
  rw [setW_size]
  have hle : (k + 1) * sh.n ≤ xs.length * sh.n := Nat.mul_le_mul_right _ hk
  rw [Nat.add_mul, Nat.one_mul] at hle
  by_cases e : i = k
  · subst e
    refine ⟨cs, hn, sh.keep (setW_kp (Ow.not hg) _ _ _) hu, fun j hj => ?_⟩
    rw [putL_in _ _ _ _ (by omega) hj, List.getElem?_eq_getElem]
  · obtain ⟨cs', h1, h2, h3⟩ := h i hi (by omega)
    refine ⟨cs', h1, sh.keep (setW_kp (Ow.not hg) _ _ _) (sh.mono (Ow.mono (Nat.le_refl _) hb.size) (sh.keep (Ow.below hb) h2)), fun j hj => ?_⟩
    have hle2 : (i + 1) * sh.n ≤ k * sh.n := Nat.mul_le_mul_right _ (by omega)
    rw [Nat.add_mul, Nat.one_mul] at hle2
    rw [putL_out _ _ _ _ (by omega)]
    exact h3 j hj
theorem rowOwn_of {α : Type} {sh : Sh α} {t : TypeId} {w : World} {lo g : Nat} {ys : List Value} {xs : List α} (hg : w.ownsRow lo t sh.n (.slice (some ⟨g, 0, none⟩) xs.length xs.length) xs.length ys) (hl : xs.length ≤ maxLen)
    (h : Laid sh (Ow (lo + 1) w.heap.size) w ys xs xs.length) : RowOwn sh t (Ow lo w.heap.size) w (.slice (some ⟨g, 0, none⟩) xs.length xs.length) xs :=
  ⟨hl, ys, owns_lo (Nat.zero_le _) hg, owns_in hg, h.mono (Ow.mono (by omega) (Nat.le_refl _))⟩

/-- How much a row holds, as the law counts it. -/
def wtRow {α : Type} (f : α → Nat) (xs : List α) : Nat := (xs.map fun x => 1 + f x).sum
theorem wtRow_take {α : Type} (f : α → Nat) (xs : List α) (k : Nat) (h : k < xs.length) : wtRow f (xs.take (k + 1)) = wtRow f (xs.take k) + (1 + f xs[k]) := by
  rw [wtRow, wtRow, List.take_succ_eq_append_getElem h]; simp only [List.map_append, List.sum_append, List.map_cons, List.map_nil, List.sum_cons, List.sum_nil, Nat.add_zero]
theorem wtRow_split {α : Type} (f : α → Nat) (xs : List α) (k : Nat) : wtRow f xs = wtRow f (xs.take k) + wtRow f (xs.drop k) := by
  rw [wtRow, wtRow, wtRow, ← List.sum_append, ← List.map_append, List.take_append_drop]
theorem len_wtRow {α : Type} (f : α → Nat) (xs : List α) : xs.length ≤ wtRow f xs := by
  induction xs with
  | nil => simp [wtRow]
  | cons d ds ih => simp [wtRow] at ih ⊢; omega
theorem wt_wtRow {α : Type} (f : α → Nat) {xs : List α} {x : α} (h : x ∈ xs) : f x ≤ wtRow f xs := by
  induction xs with
  | nil => simp at h
  | cons y xs ih =>
    simp [wtRow] at ih ⊢
    rcases List.mem_cons.1 h with rfl | h
    · omega
    · have := ih h; omega
theorem leftW_seq {a b : Nat} {left : Int} (h : 0 ≤ leftW a left) : leftW b (leftW a left) = leftW (a + b) left := by
  have ha : (a : Int) ≤ left := by
    by_cases h2 : (a : Int) ≤ left
    · exact h2
    · rw [leftW_bad h2] at h; omega
  rw [leftW_good ha]
  by_cases h2 : (b : Int) ≤ left - (a : Int)
  · rw [leftW_good h2, leftW_good (by omega)]; omega
  · rw [leftW_bad h2, leftW_bad (by omega)]
theorem leftW_neg {a b : Nat} {left : Int} (hl : 0 ≤ left) (h : leftW a left < 0) : leftW (a + b) left = -1 := by
  unfold leftW at h ⊢
  split at h
  · omega
  · rw [if_neg (by omega)]
theorem leftW_one {a : Nat} {left : Int} (h : leftW a left < 0) : leftW a left = -1 := by
  unfold leftW at h ⊢
  split at h
  · omega
  · rw [if_neg (by assumption)]
theorem leftW_le {a : Nat} {left : Int} (h : left ≤ 1048576) : leftW a left ≤ 1048576 := by
  unfold leftW; split <;> omega
theorem leftS_eqW (ss : List ByteArray) (left : Int) : leftS ss left = leftW (bulkS ss) left := rfl

/-- A parameter that was put into a block of its own is still there behind a call. -/
theorem boxAt {w w1 : World} {o : Obj} (hb : Below (w.alloc o).heap.size (w.alloc o) w1) : w1.heap[w.heap.size]? = some o := by
  rw [hb.block _ (by simp), vheap_new]
end Go.Proofs.YtdiopkegaeliaaaDoor

/-! Whether a text is a filter, as the specification asks it: contracts for the walks; condition: a text has at most 2 to the 20 bytes. -/
namespace Go.Proofs.YtdiopkegaeliaaaDoor
open Go.RowKit
set_option linter.unusedSimpArgs false
set_option linter.unusedVariables false

set_option maxHeartbeats 2000000 in
set_option maxRecDepth 100000 in
theorem head14_c (s p : ByteArray) (hs : s.size ≤ 1048576) (hp : p.size ≤ 1048576) (w : World) :
    Calls Tryd.prog 9 #[.string s, .string p] w fun e w' => e = .returned (.bool (hpB s p)) ∧ w = w' := by
  by_cases h : p.size ≤ s.size
  · have h' : (p.size : Int) ≤ (s.size : Int) := by omega
    have hr : ((s.extract 0 p.size).toList == p.toList) = hpB s p := by rw [← hp_raw, decide_eq_true h, Bool.true_and]
    obtain ⟨r, hr2⟩ : ∃ r, r = hpB s p := ⟨_, rfl⟩
    rw [← hr2] at hr ⊢
    clear hr2
    go_enter Tryd.func9, Tryd.ntmps9
    go_wp2_with fail
    go_ret
    exact ⟨by first | rfl | (rw [← hr]; rfl) | simp [hr], rfl⟩
  · have h' : ¬ (p.size : Int) ≤ (s.size : Int) := by omega
    have hr : hpB s p = false := by rw [← hp_raw, decide_eq_false h, Bool.false_and]
    rw [hr]
    clear hr
    go_enter Tryd.func9, Tryd.ntmps9
    go_wp2_with fail
    go_ret
    exact ⟨rfl, rfl⟩

set_option maxHeartbeats 2000000 in
set_option maxRecDepth 100000 in
theorem tail14_c (s p : ByteArray) (hs : s.size ≤ 1048576) (hp : p.size ≤ 1048576) (w : World) :
    Calls Tryd.prog 10 #[.string s, .string p] w fun e w' => e = .returned (.bool (hsB s p)) ∧ w = w' := by
  by_cases h : p.size ≤ s.size
  · have h' : (p.size : Int) ≤ (s.size : Int) := by omega
    have hr : ((s.extract (s.size - p.size) s.size).toList == p.toList) = hsB s p := by rw [← hs_raw, decide_eq_true h, Bool.true_and]
    have hsub : wrap64 ((s.size : Int) - (p.size : Int)) = ((s.size - p.size : Nat) : Int) := by unfold wrap64; omega
    obtain ⟨r, hr2⟩ : ∃ r, r = hsB s p := ⟨_, rfl⟩
    rw [← hr2] at hr ⊢
    clear hr2
    go_enter Tryd.func10, Tryd.ntmps10
    go_wp2_with fail
    go_ret
    exact ⟨by first | rfl | (rw [← hr]; rfl) | simp [hr], rfl⟩
  · have h' : ¬ (p.size : Int) ≤ (s.size : Int) := by omega
    have hr : hsB s p = false := by rw [← hs_raw, decide_eq_false h, Bool.false_and]
    rw [hr]
    clear hr
    go_enter Tryd.func10, Tryd.ntmps10
    go_wp2_with fail
    go_ret
    exact ⟨rfl, rfl⟩

theorem name_alikeF (a b : ByteArray) : (a.toList == b.toList) = decide (a = b) := by
  by_cases h : a = b
  · subst h; simp
  · rw [decide_eq_false h]
    cases hh : (a.toList == b.toList) with
    | false => rfl
    | true => exact absurd (bytes_eq_of_toList (by simpa using hh)) h
theorem splitGo_piece (s : ByteArray) (c : Int) : ∀ n i b, ∀ x ∈ splitGo s c n i b, x.size ≤ s.size := fun n => by
  induction n with
  | zero => intro i b x hx; simp [splitGo] at hx; subst hx; rw [ByteArray.size_extract]; omega
  | succ n ih =>
    intro i b x hx
    rw [splitGo] at hx
    split at hx
    · rcases List.mem_cons.1 hx with rfl | hx
      · rw [ByteArray.size_extract]; omega
      · exact ih _ _ x hx
    · exact ih _ _ x hx

set_option maxHeartbeats 4000000 in
set_option maxRecDepth 100000 in
theorem one14_step (s : ByteArray) (R : Bool) (hs : s.size ≤ 1048576) (hrec : ∀ t, outF s = some t → ∀ w, Calls Tryd.prog 7 #[.string t] w fun e w' => e = .returned (.bool R) ∧ w = w') (hleaf : outF s = none → leafB s = R) (w : World) :
    Calls Tryd.prog 7 #[.string s] w fun e w' => e = .returned (.bool R) ∧ w = w' := by
  have H1 := hidden (head14_c s bangT hs (by decide) w)
  have H2 := hidden (head14_c s dotsT hs (by decide) w)
  have H3 := hidden (tail14_c s dotsT hs (by decide) w)
  have hu : outF s = if hpB s bangT = true then some (s.extract 1 s.size) else if hpB s dotsT = true then some (s.extract 3 s.size) else if hsB s dotsT = true then some (s.extract 0 (s.size - 3)) else none := rfl
  unfold bangT at H1
  unfold dotsT at H2 H3
  by_cases h1 : hpB s bangT = true
  · rw [if_pos h1] at hu
    have hr := hidden (hrec _ hu w)
    have hl := hp_le h1
    have h2 : bangT.size = 1 := rfl
    have hl' : (1 : Int) ≤ (s.size : Int) := by omega
    rw [show hpB s ⟨#[33]⟩ = true from h1] at H1
    clear hrec hleaf H2 H3 h1 hu h2 hl
    go_enter Tryd.func7, Tryd.ntmps7
    go_wp2_with fail
    go_at_call 9
    refine H1.out.mono ?_
    rintro e w1 ⟨rfl, rfl⟩
    clear H1
    go_wp2_with fail
    go_at_call 7
    refine hr.out.mono ?_
    rintro e w1 ⟨rfl, rfl⟩
    go_wp2_with fail
    go_ret
    exact ⟨rfl, rfl⟩
  rw [if_neg h1] at hu
  rw [show hpB s ⟨#[33]⟩ = false from (by simpa using h1 : hpB s bangT = false)] at H1
  by_cases h2 : hpB s dotsT = true
  · rw [if_pos h2] at hu
    have hr := hidden (hrec _ hu w)
    have hl := hp_le h2
    have h3 : dotsT.size = 3 := rfl
    have hl' : (3 : Int) ≤ (s.size : Int) := by omega
    rw [show hpB s ⟨#[46, 46, 46]⟩ = true from h2] at H2
    clear hrec hleaf H3 h1 h2 hu h3 hl
    go_enter Tryd.func7, Tryd.ntmps7
    go_wp2_with fail
    go_at_call 9
    refine H1.out.mono ?_
    rintro e w1 ⟨rfl, rfl⟩
    clear H1
    go_wp2_with fail
    go_at_call 9
    refine H2.out.mono ?_
    rintro e w1 ⟨rfl, rfl⟩
    clear H2
    go_wp2_with fail
    go_at_call 7
    refine hr.out.mono ?_
    rintro e w1 ⟨rfl, rfl⟩
    go_wp2_with fail
    go_ret
    exact ⟨rfl, rfl⟩
  rw [if_neg h2] at hu
  rw [show hpB s ⟨#[46, 46, 46]⟩ = false from (by simpa using h2 : hpB s dotsT = false)] at H2
  by_cases h3 : hsB s dotsT = true
  · rw [if_pos h3] at hu
    have hr := hidden (hrec _ hu w)
    have hl := hs_le h3
    have h4 : dotsT.size = 3 := rfl
    have hl' : (3 : Int) ≤ (s.size : Int) := by omega
    have hsub : wrap64 ((s.size : Int) - 3) = ((s.size - 3 : Nat) : Int) := by unfold wrap64; omega
    rw [show hsB s ⟨#[46, 46, 46]⟩ = true from h3] at H3
    clear hrec hleaf h1 h2 h3 hu h4 hl
    go_enter Tryd.func7, Tryd.ntmps7
    go_wp2_with fail
    go_at_call 9
    refine H1.out.mono ?_
    rintro e w1 ⟨rfl, rfl⟩
    clear H1
    go_wp2_with fail
    go_at_call 9
    refine H2.out.mono ?_
    rintro e w1 ⟨rfl, rfl⟩
    clear H2
    go_wp2_with fail
    go_at_call 10
    refine H3.out.mono ?_
    rintro e w1 ⟨rfl, rfl⟩
    clear H3
    go_wp2_with fail
    go_at_call 7
    refine hr.out.mono ?_
    rintro e w1 ⟨rfl, rfl⟩
    go_wp2_with fail
    go_ret
    exact ⟨rfl, rfl⟩
  rw [if_neg h3] at hu
  rw [show hsB s ⟨#[46, 46, 46]⟩ = false from (by simpa using h3 : hsB s dotsT = false)] at H3
  have hR := hleaf hu
  have HP := hidden (piece6_c s hs w)
  have hal : (s.toList == sinceT.toList) = decide (s = sinceT) := name_alikeF s sinceT
  rw [show sinceT.toList = [91, 115, 105, 110, 99, 101, 93] by decide +kernel] at hal
  unfold leafB at hR
  obtain ⟨pb, hpb⟩ : ∃ p, p = pieceB s := ⟨_, rfl⟩
  rw [← hpb] at hR HP
  obtain ⟨sb, hsb⟩ : ∃ p, p = decide (s = sinceT) := ⟨_, rfl⟩
  rw [← hsb] at hR hal
  clear hrec hleaf h1 h2 h3 hu hpb hsb
  cases sb with
  | true =>
    have hR2 : R = true := by rw [← hR]; rfl
    subst hR2
    clear hR HP
    go_enter Tryd.func7, Tryd.ntmps7
    go_wp2_with fail
    go_at_call 9
    refine H1.out.mono ?_
    rintro e w1 ⟨rfl, rfl⟩
    clear H1
    go_wp2_with fail
    go_at_call 9
    refine H2.out.mono ?_
    rintro e w1 ⟨rfl, rfl⟩
    clear H2
    go_wp2_with fail
    go_at_call 10
    refine H3.out.mono ?_
    rintro e w1 ⟨rfl, rfl⟩
    clear H3
    go_wp2_with fail
    go_ret
    exact ⟨rfl, rfl⟩
  | false =>
    rw [Bool.false_or] at hR
    cases pb with
    | false =>
      have hR2 : R = false := by rw [← hR]; rfl
      subst hR2
      clear hR
      go_enter Tryd.func7, Tryd.ntmps7
      go_wp2_with fail
      go_at_call 9
      refine H1.out.mono ?_
      rintro e w1 ⟨rfl, rfl⟩
      clear H1
      go_wp2_with fail
      go_at_call 9
      refine H2.out.mono ?_
      rintro e w1 ⟨rfl, rfl⟩
      clear H2
      go_wp2_with fail
      go_at_call 10
      refine H3.out.mono ?_
      rintro e w1 ⟨rfl, rfl⟩
      clear H3
      go_wp2_with fail
      go_at_call 11
      refine HP.out.mono ?_
      rintro e w1 ⟨rfl, rfl⟩
      go_wp2_with fail
      go_ret
      exact ⟨rfl, rfl⟩
    | true =>
      rw [Bool.true_and] at hR
      have hR9 := hidden hR
      clear hR
      go_enter Tryd.func7, Tryd.ntmps7
      go_wp2_with fail
      go_at_call 9
      refine H1.out.mono ?_
      rintro e w1 ⟨rfl, rfl⟩
      clear H1
      go_wp2_with fail
      go_at_call 9
      refine H2.out.mono ?_
      rintro e w1 ⟨rfl, rfl⟩
      clear H2
      go_wp2_with fail
      go_at_call 10
      refine H3.out.mono ?_
      rintro e w1 ⟨rfl, rfl⟩
      clear H3
      go_wp2_with fail
      go_at_call 11
      refine HP.out.mono ?_
      rintro e w1 ⟨rfl, rfl⟩
      go_wp2_with fail
      go_ret
      have hdi : decide ((s.size : Int) ≤ 20) = decide (s.size ≤ 20) := by rw [decide_eq_decide]; omega
      exact ⟨by rw [← hR9.out, ← hdi]; rfl, rfl⟩

theorem one14_c : ∀ (f : Nat) (s : ByteArray), s.size ≤ f → s.size ≤ 1048576 → ∀ w, Calls Tryd.prog 7 #[.string s] w fun e w' => e = .returned (.bool (oneG f s)) ∧ w = w'
  | 0, s, hf, hs => fun w => one14_step s _ hs (fun t h => by have := outF_lt h; omega) (fun h => (oneG_none h).symm) w
  | f + 1, s, hf, hs => fun w => one14_step s _ hs (fun t h => by
      have h1 := outF_lt h
      rw [oneG_some hf h]
      exact one14_c f t (by omega) (by omega)) (fun h => (oneG_none h).symm) w

set_option maxHeartbeats 4000000 in
set_option maxRecDepth 100000 in
theorem specFilter_c (s : ByteArray) (hs : s.size ≤ 1048576) (w : World) :
    Calls Tryd.prog 4 #[.string s] w fun e w' => e = .returned (.bool (filtB s)) ∧ Below w.heap.size w w' := by
  have HS := hidden (specSplit_c s 32 w hs)
  have hln := splitGo_len s 32 s.size 0 0
  have hpc : ∀ x ∈ splitS s 32, x.size ≤ 1048576 := fun x hx => Nat.le_trans (splitGo_piece s 32 s.size 0 0 x hx) hs
  have HF : Hid (filtB s = (decide ((splitS s 32).length ≤ 4) && (splitS s 32).all oneB)) := rfl
  have hl : (splitS s 32).length ≤ 1048577 := by unfold splitS; omega
  obtain ⟨L, hL⟩ : ∃ L, L = splitS s 32 := ⟨_, rfl⟩
  obtain ⟨R, hR⟩ : ∃ R, R = filtB s := ⟨_, rfl⟩
  rw [← hL] at HS hpc HF hl
  rw [← hR] at HF ⊢
  clear hL hR hln
  go_enter Tryd.func4, Tryd.ntmps4
  go_wp2_with fail
  go_at_call 6
  refine HS.out.mono ?_
  rintro e w1 ⟨v, rfl, o1, b1⟩
  obtain ⟨q, cap, rfl, _, hc⟩ := reads_strs (reads_of_owns o1)
  clear HS o1
  go_wp2_with fail
  go_loopw [4] (fun vi wr => ∃ k : Nat, k ≤ L.length ∧ vi = .int .i64 (k : Int) ∧ Hid (∀ i (hi : i < L.length), i < k → oneB L[i] = true) ∧ wr = w1) (fun vi _ => L.length - (intOf vi).toNat)
  case atStart => exact ⟨0, Nat.zero_le _, rfl, (fun i hi h => by omega), rfl⟩
  case round =>
    obtain ⟨k, hk, rfl, hall, rfl⟩ := hrel
    by_cases hlt' : k < L.length
    · rcases hc with rfl | ⟨b0, off, rfl, hlt, hc⟩
      · simp at hlt'
      have e0 := hc k hlt'
      have hsk := hpc L[k] (List.getElem_mem hlt')
      have HO := hidden (one14_c L[k].size L[k] (Nat.le_refl _) hsk wr)
      have HY : Hid (oneB L[k] = true → ∀ i (hi : i < L.length), i < k + 1 → oneB L[i] = true) := fun h i hi hik => by
        by_cases e : i = k
        · subst e; exact h
        · exact hall.out i hi (by omega)
      have HN : Hid (oneB L[k] = false → R = false) := fun h => by
        rw [HF.out]
        have : L.all oneB = false := by
          cases hq : L.all oneB with
          | false => rfl
          | true => have := List.all_eq_true.1 hq _ (List.getElem_mem hlt'); rw [h] at this; cases this
        rw [this, Bool.and_false]
      have hki : (k : Int) < (L.length : Int) := by omega
      obtain ⟨r, hr⟩ : ∃ r, r = oneB L[k] := ⟨_, rfl⟩
      rw [← hr] at HY HN
      have hO2 : Hid (Calls Tryd.prog 7 #[.string L[k]] wr fun e w' => e = .returned (.bool r) ∧ wr = w') := by
        rw [hr]; exact HO.out
      obtain ⟨t, ht⟩ : ∃ t, t = L[k] := ⟨_, rfl⟩
      rw [← ht] at e0 hO2
      clear hc ht hr HO hall hsk hpc HF
      cases r with
      | true =>
        have HY2 := hidden (HY.out rfl)
        clear HY HN
        go_wp2_with fail
        go_at_call 7
        refine hO2.out.mono ?_
        rintro e w2 ⟨rfl, rfl⟩
        go_wp2_with fail
        go_roundw
        case rel => exact ⟨k + 1, by omega, by go_num, HY2.out, by first | rfl | trivial⟩
        case measure => simp [intOf]; omega
      | false =>
        have HN2 := HN.out rfl
        subst HN2
        clear HY HN
        go_wp2_with fail
        go_at_call 7
        refine hO2.out.mono ?_
        rintro e w2 ⟨rfl, rfl⟩
        go_wp2_with fail
        go_ret
        exact ⟨rfl, b1⟩
    · have he : k = L.length := by omega
      subst he
      have hR : R = decide (L.length ≤ 4) := by
        rw [HF.out]
        have : L.all oneB = true := List.all_eq_true.2 fun x hx => by
          obtain ⟨i, hi, rfl⟩ := List.mem_iff_getElem.1 hx
          exact hall.out i hi hi
        rw [this, Bool.and_true]
      have HR := hidden hR
      clear hc hall HF hpc hR
      go_wp2_with fail
      go_ret
      have hdi : decide ((L.length : Int) ≤ 4) = decide (L.length ≤ 4) := by rw [decide_eq_decide]; omega
      exact ⟨by rw [HR.out, ← hdi]; rfl, b1⟩
end Go.Proofs.YtdiopkegaeliaaaDoor

/-! A scope in which the run jumps to several labels: what holds at every jump, label by label, and a measure that every pass from a label lowers; no condition (a law for the walks, after the library's for one label). -/
namespace Go.Proofs.YtdiopkegaeliaaaDoor
set_option linter.unusedSimpArgs false
set_option linter.unusedVariables false

/-- As Q; by a goto to label l: J l. -/
def jumpsTo (J : Nat → Act → World → Prop) (Q : Exit → Act → World → Prop) : Exit → Act → World → Prop
  | .goto l, a, w => J l a w
  | e, a, w => Q e a w

section
variable {P : Program} {a : Act} {w : World} {Q : Exit → Act → World → Prop}

theorem jumpsTo_normal {J : Nat → Act → World → Prop} : jumpsTo J Q .normal a w = Q .normal a w := rfl
theorem jumpsTo_ret {J : Nat → Act → World → Prop} : jumpsTo J Q .ret a w = Q .ret a w := rfl
theorem jumpsTo_goto {J : Nat → Act → World → Prop} {l : Nat} : jumpsTo J Q (.goto l) a w = J l a w := rfl
theorem jumpsTo_exit {J : Nat → Act → World → Prop} {l : Nat} : jumpsTo J Q (.exit l) a w = Q (.exit l) a w := rfl

theorem jumpsTo_mono {J J' : Nat → Act → World → Prop} {Q' : Exit → Act → World → Prop} (hJ : ∀ l a w, J l a w → J' l a w) (hQ : ∀ e a w, Q e a w → Q' e a w) : ∀ e a w, jumpsTo J Q e a w → jumpsTo J' Q' e a w
  | .goto l, a, w, h => hJ l a w h
  | .normal, a, w, h => hQ _ a w h
  | .exit _, a, w, h => hQ _ a w h
  | .ret, a, w, h => hQ _ a w h
  | .panic _, a, w, h => hQ _ a w h
  | .outgrown, a, w, h => hQ _ a w h

theorem wp_scope_labels {c : Code} (R : Nat → Code) (J : Nat → Act → World → Prop) (μ : Nat → Act → World → Nat) (hf : ∀ l a w, J l a w → findLabel c l = some (R l))
    (first : c.wp P (jumpsTo J Q) a w)
    (pass : ∀ l a w, J l a w → (R l).wp P (jumpsTo (fun l' a' w' => J l' a' w' ∧ μ l' a' w' < μ l a w) Q) a w) : (Code.scope c).wp P Q a w := by
  intro b k cs
  have key : ∀ n l a w, μ l a w = n → J l a w → ∃ e a' w', Q e a' w' ∧ Arrives P (lone (b.at a (.code (R l) :: .inScope c :: k)) cs w) b k cs e a' w' := by
    intro n
    induction n using Nat.strongRecOn with
    | _ n ih =>
      intro l a w hn hJ
      obtain ⟨e, a₁, w₁, hq, harr⟩ := pass l a w hJ b (.inScope c :: k) cs
      cases e with
      | normal => exact ⟨.normal, a₁, w₁, hq, Steps.trans harr (.one step_inScope)⟩
      | exit id => exact ⟨.exit id, a₁, w₁, hq, fun k' hk => harr k' (by simp [exitTo, hk])⟩
      | goto l' =>
        obtain ⟨hJ', hlt⟩ := hq
        obtain ⟨e₂, a₂, w₂, hq₂, harr₂⟩ := ih _ (by omega) l' a₁ w₁ rfl hJ'
        exact ⟨e₂, a₂, w₂, hq₂, .of_steps (harr _ (by simp [gotoIn, hf l' a₁ w₁ hJ'])) harr₂⟩
      | ret => exact ⟨_, a₁, w₁, hq, harr⟩
      | panic ch => exact ⟨_, a₁, w₁, hq, harr⟩
      | outgrown => exact ⟨_, a₁, w₁, hq, harr⟩
  obtain ⟨e, a₁, w₁, hq, harr⟩ := first b (.inScope c :: k) cs
  cases e with
  | normal => exact ⟨.normal, a₁, w₁, hq, .head step_scope (Steps.trans harr (.one step_inScope))⟩
  | exit id => exact ⟨.exit id, a₁, w₁, hq, fun k' hk => .head step_scope (harr k' (by simp [exitTo, hk]))⟩
  | goto l' =>
    obtain ⟨e₂, a₂, w₂, hq₂, harr₂⟩ := key _ l' a₁ w₁ rfl hq
    exact ⟨e₂, a₂, w₂, hq₂, .of_steps (.head step_scope (harr _ (by simp [gotoIn, hf l' a₁ w₁ hq]))) harr₂⟩
  | ret => exact ⟨_, a₁, w₁, hq, .of_steps (.one step_scope) harr⟩
  | panic ch => exact ⟨_, a₁, w₁, hq, .of_steps (.one step_scope) harr⟩
  | outgrown => exact ⟨_, a₁, w₁, hq, .of_steps (.one step_scope) harr⟩
/-- From label l, where J l holds, the rest r runs; each jump lowers the number. -/
def Pass (P : Program) (Q : Exit → Act → World → Prop) (J : Nat → Nat → Act → World → Prop) (l : Nat) (r : Code) : Prop :=
  ∀ n a w, J l n a w → ∀ H : Nat → Act → World → Prop, (∀ l' n' a' w', n' < n → J l' n' a' w' → H l' a' w') → r.wp P (jumpsTo H Q) a w

theorem pass_skip {J : Nat → Nat → Act → World → Prop} {l : Nat} {r : Code} (h : Pass P Q J l r) : Pass P Q J l (Code.skip.seq r) := fun n a w hJ H hH =>
  wp_seq (wp_skip (h n a w hJ H hH))

theorem wp_scope_three {c ra rb rc : Code} (A B C : Nat) (J : Nat → Nat → Act → World → Prop) (ha : findLabel c A = some (Code.skip.seq ra)) (hb : findLabel c B = some (Code.skip.seq rb)) (hc : findLabel c C = some (Code.skip.seq rc))
    (hl : ∀ l n a w, J l n a w → l = A ∨ l = B ∨ l = C) (pa : Pass P Q J A ra) (pb : Pass P Q J A ra → Pass P Q J B rb) (pc : Pass P Q J A ra → Pass P Q J B rb → Pass P Q J C rc)
    (first : Pass P Q J A ra → Pass P Q J B rb → Pass P Q J C rc → ∀ H : Nat → Act → World → Prop, (∀ l n a w, J l n a w → H l a w) → c.wp P (jumpsTo H Q) a w) : (Code.scope c).wp P Q a w := by
  have pb' := pb pa
  have pc' := pc pa pb'
  have hf : ∀ l n a w, J l n a w → ∃ r, findLabel c l = some r ∧ Pass P Q J l r := fun l n a w h => by
    rcases hl l n a w h with rfl | rfl | rfl
    · exact ⟨_, ha, pass_skip pa⟩
    · exact ⟨_, hb, pass_skip pb'⟩
    · exact ⟨_, hc, pass_skip pc'⟩
  intro b k cs
  have key : ∀ n l r a w, findLabel c l = some r → Pass P Q J l r → J l n a w → ∃ e a' w', Q e a' w' ∧ Arrives P (lone (b.at a (.code r :: .inScope c :: k)) cs w) b k cs e a' w' := by
    intro n
    induction n using Nat.strongRecOn with
    | _ n ih =>
      intro l r a w hr hp hJ
      obtain ⟨e, a₁, w₁, hq, harr⟩ := hp n a w hJ (fun l' a' w' => ∃ n', n' < n ∧ J l' n' a' w') (fun l' n' a' w' h1 h2 => ⟨n', h1, h2⟩) b (.inScope c :: k) cs
      cases e with
      | normal => exact ⟨.normal, a₁, w₁, hq, Steps.trans harr (.one step_inScope)⟩
      | exit id => exact ⟨.exit id, a₁, w₁, hq, fun k' hk => harr k' (by simp [exitTo, hk])⟩
      | goto l' =>
        obtain ⟨n', hlt, hJ'⟩ := hq
        obtain ⟨r', hr', hp'⟩ := hf l' n' a₁ w₁ hJ'
        obtain ⟨e₂, a₂, w₂, hq₂, harr₂⟩ := ih n' hlt l' r' a₁ w₁ hr' hp' hJ'
        exact ⟨e₂, a₂, w₂, hq₂, .of_steps (harr _ (by simp [gotoIn, hr'])) harr₂⟩
      | ret => exact ⟨_, a₁, w₁, hq, harr⟩
      | panic ch => exact ⟨_, a₁, w₁, hq, harr⟩
      | outgrown => exact ⟨_, a₁, w₁, hq, harr⟩
  obtain ⟨e, a₁, w₁, hq, harr⟩ := first pa pb' pc' (fun l a w => ∃ n, J l n a w) (fun l n a w h => ⟨n, h⟩) b (.inScope c :: k) cs
  cases e with
  | normal => exact ⟨.normal, a₁, w₁, hq, .head step_scope (Steps.trans harr (.one step_inScope))⟩
  | exit id => exact ⟨.exit id, a₁, w₁, hq, fun k' hk => .head step_scope (harr k' (by simp [exitTo, hk]))⟩
  | goto l' =>
    obtain ⟨n', hJ'⟩ := hq
    obtain ⟨r', hr', hp'⟩ := hf l' n' a₁ w₁ hJ'
    obtain ⟨e₂, a₂, w₂, hq₂, harr₂⟩ := key n' l' r' a₁ w₁ hr' hp' hJ'
    exact ⟨e₂, a₂, w₂, hq₂, .of_steps (.head step_scope (harr _ (by simp [gotoIn, hr']))) harr₂⟩
  | ret => exact ⟨_, a₁, w₁, hq, .of_steps (.one step_scope) harr⟩
  | panic ch => exact ⟨_, a₁, w₁, hq, .of_steps (.one step_scope) harr⟩
  | outgrown => exact ⟨_, a₁, w₁, hq, .of_steps (.one step_scope) harr⟩
end
end Go.Proofs.YtdiopkegaeliaaaDoor

/-! Files, and lists of files, that lie in memory; how much they hold, copies of them, and whether two are alike, as the law's helpers work it out: contracts for the walks; conditions as each says. -/
namespace Go.Proofs.YtdiopkegaeliaaaDoor
open Go.RowKit
set_option linter.unusedSimpArgs false
set_option linter.unusedVariables false

structure FileD where
  p : ByteArray
  t : ByteArray

def saneF (f : FileD) : Prop := f.p.size ≤ maxLen ∧ f.t.size ≤ maxLen

/-- The two cells from place j on in block b are the file f. -/
def FileAt (w : World) (b j : Nat) (f : FileD) : Prop := w.cell? ⟨b, j, none⟩ = some (.string f.p) ∧ w.cell? ⟨b, j + 1, none⟩ = some (.string f.t)

/-- The list of files v is fs. -/
def FilesIn (S : Nat → Prop) (w : World) (v : Value) (fs : List FileD) : Prop :=
  ∃ q cap, v = .slice q fs.length cap ∧ fs.length ≤ maxLen ∧ fs.length ≤ cap ∧ (∀ f ∈ fs, saneF f) ∧ (fs = [] ∨ ∃ (b off : Nat), q = some ⟨b, off, none⟩ ∧ S b ∧ ∀ k (h : k < fs.length), FileAt w b (off + k * 2) fs[k])
theorem FilesIn.keep {S : Nat → Prop} {w w' : World} {v : Value} {fs : List FileD} (hk : Kp S w w') (h : FilesIn S w v fs) : FilesIn S w' v fs := by
  obtain ⟨q, cap, hv, hm, hc, hs, h⟩ := h
  refine ⟨q, cap, hv, hm, hc, hs, ?_⟩
  rcases h with h | ⟨b, off, hq, hb, h⟩
  · exact .inl h
  · exact .inr ⟨b, off, hq, hb, fun k hh => ⟨(hk.cell hb _).trans (h k hh).1, (hk.cell hb _).trans (h k hh).2⟩⟩
theorem FilesIn.mono {S S' : Nat → Prop} {w : World} {v : Value} {fs : List FileD} (hS : ∀ b, S b → S' b) (h : FilesIn S w v fs) : FilesIn S' w v fs := by
  obtain ⟨q, cap, hv, hm, hc, hs, h⟩ := h
  refine ⟨q, cap, hv, hm, hc, hs, ?_⟩
  rcases h with h | ⟨b, off, hq, hb, h⟩
  · exact .inl h
  · exact .inr ⟨b, off, hq, hS b hb, h⟩
theorem FilesIn.below {w w' : World} {v : Value} {fs : List FileD} (h : FilesIn (· < w.heap.size) w v fs) (hb : Below w.heap.size w w') : FilesIn (· < w'.heap.size) w' v fs :=
  (h.keep (.of hb (fun b h => h))).mono (fun b h => Nat.lt_of_lt_of_le h hb.size)

/-- How much a file, and a list of them, holds, as the law counts it. -/
def wt1 (f : FileD) : Nat := f.p.size + f.t.size
def wtF (fs : List FileD) : Nat := (fs.map fun f => 1 + wt1 f).sum
theorem wtF_take (fs : List FileD) (k : Nat) (h : k < fs.length) : wtF (fs.take (k + 1)) = wtF (fs.take k) + (1 + wt1 fs[k]) := by
  rw [wtF, wtF, List.take_succ_eq_append_getElem h]; simp only [List.map_append, List.sum_append, List.map_cons, List.map_nil, List.sum_cons, List.sum_nil, Nat.add_zero]
theorem wtF_split (fs : List FileD) (k : Nat) : wtF fs = wtF (fs.take k) + wtF (fs.drop k) := by
  rw [wtF, wtF, wtF, ← List.sum_append, ← List.map_append, List.take_append_drop]
theorem len_wtF (fs : List FileD) : fs.length ≤ wtF fs := by
  induction fs with
  | nil => simp [wtF]
  | cons d ds ih => simp [wtF] at ih ⊢; omega
theorem wt1_wtF {fs : List FileD} {f : FileD} (h : f ∈ fs) : wt1 f ≤ wtF fs := by
  induction fs with
  | nil => simp at h
  | cons x fs ih =>
    simp [wtF] at ih ⊢
    rcases List.mem_cons.1 h with rfl | h
    · omega
    · have := ih h; omega

/-- The cells of a list of files. -/
def cellsF (fs : List FileD) : List Value := fs.flatMap fun f => [.string f.p, .string f.t]
theorem cellsF_length (fs : List FileD) : (cellsF fs).length = fs.length * 2 := by
  induction fs with
  | nil => rfl
  | cons f fs ih => simp only [cellsF, List.flatMap_cons, List.length_append, List.length_cons, List.length_nil] at ih ⊢; omega
theorem cellsF_append (a b : List FileD) : cellsF (a ++ b) = cellsF a ++ cellsF b := by simp [cellsF]
theorem cellsF_at (fs : List FileD) : ∀ (k : Nat) (h : k < fs.length), (cellsF fs)[k * 2]? = some (.string fs[k].p) ∧ (cellsF fs)[k * 2 + 1]? = some (.string fs[k].t) := by
  induction fs with
  | nil => intro k h; simp at h
  | cons f fs ih =>
    intro k h
    cases k with
    | zero => simp [cellsF]
    | succ k =>
      have := ih k (by simpa using h)
      have e : cellsF (f :: fs) = [.string f.p, .string f.t] ++ cellsF fs := by simp [cellsF]
      rw [e, List.getElem?_append_right (by simp; omega), List.getElem?_append_right (by simp; omega)]
      simp only [List.length_cons, List.length_nil, List.getElem_cons_succ]
      rw [show (k + 1) * 2 - (0 + 1 + 1) = k * 2 by omega, show (k + 1) * 2 + 1 - (0 + 1 + 1) = k * 2 + 1 by omega]
      exact this

theorem filesIn_owns {w : World} {lo n : Nat} {e : TypeId} {v : Value} {fs : List FileD} (hg : w.ownsRow lo e 2 v n (cellsF fs)) (hs : ∀ f ∈ fs, saneF f) : FilesIn (Ow lo w.heap.size) w v fs := by
  have hlen := hg.1
  rw [cellsF_length] at hlen
  have hn : n = fs.length := by omega
  subst hn
  rcases hg.2 with ⟨rfl, h0⟩ | ⟨g, cap, cur, rfl, hlo, hg', hcap, hmax, _⟩
  · refine ⟨_, _, by rw [h0], by rw [h0]; exact Nat.zero_le _, by omega, hs, .inl (List.eq_nil_of_length_eq_zero h0)⟩
  · have hgl := (Array.getElem?_eq_some_iff.1 hg').1
    refine ⟨_, _, rfl, by omega, hcap, hs, .inr ⟨g, 0, rfl, ⟨hlo, hgl⟩, fun k hk => ?_⟩⟩
    obtain ⟨h1, h2⟩ := cellsF_at fs k hk
    rw [Nat.zero_add]
    exact ⟨(hg.cellAt _ (by omega)).trans h1, (hg.cellAt _ (by omega)).trans h2⟩

theorem set2_step {ys : List Value} {fs : List FileD} {k : Nat} (hk : k < fs.length) (h : ys.length = fs.length * 2 ∧ ∀ j, j < k * 2 → ys[j]? = (cellsF fs)[j]?) :
    ((ys.set (k * 2) (.string fs[k].p)).set (k * 2 + 1) (.string fs[k].t)).length = fs.length * 2 ∧ ∀ j, j < (k + 1) * 2 → ((ys.set (k * 2) (.string fs[k].p)).set (k * 2 + 1) (.string fs[k].t))[j]? = (cellsF fs)[j]? := by
  refine ⟨by simp [h.1], fun j hj => ?_⟩
  obtain ⟨h1, h2⟩ := cellsF_at fs k hk
  by_cases e1 : j = k * 2 + 1
  · subst e1
    rw [h2, List.getElem?_set_self (by simp [h.1]; omega)]
  · rw [List.getElem?_set_ne (by omega)]
    by_cases e0 : j = k * 2
    · subst e0
      rw [h1, List.getElem?_set_self (by omega)]
    · rw [List.getElem?_set_ne (by omega)]
      exact h.2 j (by omega)

end Go.Proofs.YtdiopkegaeliaaaDoor

/-! Files copied, one and a list of them, the program's: contracts for the walks; conditions: the list lies in memory, its texts have at most 2 to the 20 bytes. -/
namespace Go.Proofs.YtdiopkegaeliaaaDoor
open Go.RowKit
set_option linter.unusedSimpArgs false
set_option linter.unusedVariables false

theorem cell_two_c (w : World) (v u : Value) (t : TypeId) : ∀ j x, ([v, u] : List Value)[j]? = some x → (w.alloc (.cells #[v, u] t)).cell? ((⟨w.heap.size, 0, none⟩ : Addr).add j) = some x := fun j x hj => by
  have h2 : j < 2 := by have := (List.getElem?_eq_some_iff.1 hj).1; simpa using this
  have e : ((⟨w.heap.size, 0, none⟩ : Addr).add j) = ⟨w.heap.size, j, none⟩ := by unfold Addr.add; split <;> simp_all
  rw [e, vblk_cell (vheap_new _ _) j]
  match j, h2 with
  | 0, _ => simpa using hj
  | 1, _ => simpa using hj

theorem owns2_below {w w' : World} {base : Nat} {e : TypeId} {v : Value} {n : Nat} {xs : List Value} (h : w.ownsRow base e 2 v n xs) (b : Below w.heap.size w w') : w'.ownsRow base e 2 v n xs := by
  rcases h.2 with ⟨rfl, rfl⟩ | ⟨g, cap, cur, rfl, hg, hh, _⟩
  · exact ⟨h.1, .inl ⟨rfl, rfl⟩⟩
  · exact h.kept (grown_of_below b none) (by simp [Value.ownBlock])

end Go.Proofs.YtdiopkegaeliaaaDoor

/-! Signs that lie in memory, and what one sign answers of a byte (the program's): contracts for the walks; conditions as each says. -/
namespace Go.Proofs.YtdiopkegaeliaaaDoor
open Go.RowKit
set_option linter.unusedSimpArgs false
set_option linter.unusedVariables false

def takesS (g : Sgn) (c : Int) : Bool := (g.set.any fun u => (u.toNat : Int) == c) != g.nt
def sgnV (g : Sgn) : Value := .agg #[.bool g.many, .bool g.nt, .string ⟨g.set.toArray⟩]

/-- The three cells from place j on in block b are the sign g. -/
def SgnAt (w : World) (b j : Nat) (g : Sgn) : Prop := w.cell? ⟨b, j, none⟩ = some (.bool g.many) ∧ w.cell? ⟨b, j + 1, none⟩ = some (.bool g.nt) ∧ w.cell? ⟨b, j + 2, none⟩ = some (.string ⟨g.set.toArray⟩)
/-- The list of signs v is gs. -/
def SgnsIn (S : Nat → Prop) (w : World) (v : Value) (gs : List Sgn) : Prop :=
  ∃ q cap, v = .slice q gs.length cap ∧ gs.length ≤ 12 ∧ gs.length ≤ cap ∧ (gs = [] ∨ ∃ (b off : Nat), q = some ⟨b, off, none⟩ ∧ S b ∧ ∀ k (h : k < gs.length), SgnAt w b (off + k * 3) gs[k])
theorem SgnsIn.keep {S : Nat → Prop} {w w' : World} {v : Value} {gs : List Sgn} (hk : Kp S w w') (h : SgnsIn S w v gs) : SgnsIn S w' v gs := by
  obtain ⟨q, cap, hv, hm, hc, h⟩ := h
  refine ⟨q, cap, hv, hm, hc, ?_⟩
  rcases h with h | ⟨b, off, hq, hb, h⟩
  · exact .inl h
  · exact .inr ⟨b, off, hq, hb, fun k hh => ⟨(hk.cell hb _).trans (h k hh).1, (hk.cell hb _).trans (h k hh).2.1, (hk.cell hb _).trans (h k hh).2.2⟩⟩
theorem SgnsIn.mono {S S' : Nat → Prop} {w : World} {v : Value} {gs : List Sgn} (hS : ∀ b, S b → S' b) (h : SgnsIn S w v gs) : SgnsIn S' w v gs := by
  obtain ⟨q, cap, hv, hm, hc, h⟩ := h
  refine ⟨q, cap, hv, hm, hc, ?_⟩
  rcases h with h | ⟨b, off, hq, hb, h⟩
  · exact .inl h
  · exact .inr ⟨b, off, hq, hS b hb, h⟩

theorem sgnMany_c (m n : Bool) (x : ByteArray) (w : World) :
    Calls Tryd.prog 89 #[.agg #[.bool m, .bool n, .string x]] w fun e w' => e = .returned (.bool m) ∧ Below w.heap.size w w' := by
  have hbx : ∀ o, Below w.heap.size w (w.alloc o) := fun o => (Below.refl _ _).alloc (Nat.le_refl _) _
  go_enter Tryd.func89, Tryd.ntmps89
  go_wp2_with fail
  go_ret
  exact ⟨rfl, hbx _⟩

theorem indexByte_any (l : List UInt8) (c : Int) (h0 : 0 ≤ c) (h1 : c ≤ 255) : decide (0 ≤ Lib.indexByte l c.toNat.toUInt8) = l.any (fun u => (u.toNat : Int) == c) := by
  have hcn : ∀ u : UInt8, ((u.toNat : Int) == c) = true ↔ u = c.toNat.toUInt8 := fun u => by
    have hu := u.toNat_lt
    rw [beq_iff_eq]
    constructor
    · intro e
      have : u.toNat = c.toNat := by omega
      rw [← this]; simp
    · intro e
      subst e
      simp [UInt8.toNat_ofNat']
      omega
  have hge := Lib.indexByte_ge l c.toNat.toUInt8
  by_cases hm : Lib.indexByte l c.toNat.toUInt8 = -1
  · rw [hm]
    have : l.any (fun u => (u.toNat : Int) == c) = false := by
      rw [List.any_eq_false]
      intro u hu hc
      obtain ⟨k, hk, he⟩ := List.getElem_of_mem hu
      have h2 := Lib.indexByte_none hm k
      rw [List.getElem?_eq_getElem hk, he, (hcn u).1 hc] at h2
      exact h2 rfl
    rw [this]; rfl
  · obtain ⟨k, hk⟩ := Int.eq_ofNat_of_zero_le (show 0 ≤ Lib.indexByte l c.toNat.toUInt8 by omega)
    obtain ⟨hh, hbef⟩ := Lib.indexByte_some hk
    have : l.any (fun u => (u.toNat : Int) == c) = true := by
      rw [List.any_eq_true]
      exact ⟨_, List.mem_of_getElem? hh, (hcn _).2 rfl⟩
    rw [this, hk]
    exact decide_eq_true (by omega)

set_option maxHeartbeats 1000000 in
theorem sgnTakes_c (m n : Bool) (x : List UInt8) (c : Int) (h0 : 0 ≤ c) (h1 : c ≤ 255) (w : World) :
    Calls Tryd.prog 88 #[.agg #[.bool m, .bool n, .string ⟨x.toArray⟩], .int .u8 c] w fun e w' => e = .returned (.bool (takesS ⟨m, n, x⟩ c)) ∧ Below w.heap.size w w' := by
  have hbx : ∀ o, Below w.heap.size w (w.alloc o) := fun o => (Below.refl _ _).alloc (Nat.le_refl _) _
  have hbA : ∀ t, (w.alloc (.cells #[.bool m, .bool n, .string ⟨x.toArray⟩] t)).heap[w.heap.size]? = some (.cells #[.bool m, .bool n, .string ⟨x.toArray⟩] t (0, 0)) := fun t => vheap_new _ _
  have hi := indexByte_any x c h0 h1
  obtain ⟨r, hr⟩ : ∃ r, r = Lib.indexByte x c.toNat.toUInt8 := ⟨_, rfl⟩
  have HR : Hid (takesS ⟨m, n, x⟩ c = (decide (0 ≤ r) != n)) := by show _ = _; unfold takesS; rw [← hi, hr]
  have hc := fun w => Tryd.strings_IndexByte ⟨x.toArray⟩ c w
  simp only [← hr] at hc
  clear hi hr
  go_enter Tryd.func88, Tryd.ntmps88
  go_wp2_with fail
  go_region_with (go_at_call 61; refine (hc _).mono ?_; rintro e w1 ⟨rfl, rfl⟩)
  all_goals go_wp2_with fail
  all_goals go_ret
  all_goals exact ⟨by rw [HR.out]; rfl, (hbx _).drew⟩
end Go.Proofs.YtdiopkegaeliaaaDoor

/-! Signs gone through by bytes, the program's: the answer is as if all ways were tried; a contract for the walks; conditions: both lists lie in memory, at most 12 signs, at most 2 to the 20 bytes. -/
namespace Go.Proofs.YtdiopkegaeliaaaDoor
open Go.RowKit
set_option linter.unusedSimpArgs false
set_option linter.unusedVariables false

/-- The frame of the run through signs: its five words, the scratch forgotten. -/
def FrS (q : Option Addr) (L cap : Nat) (a : Option Addr) (N cap2 : Nat) (x5 x6 x7 x8 x9 : Value) (f : Act) : Prop :=
  ∃ (u10 u11 u12 u13 u14 u15 u16 u17 u18 u19 u20 u21 u22 u23 u24 u25 u26 u27 u28 u29 u30 u31 u32 u33 u34 u35 u36 u37 u38 u39 u40 u41 u42 u43 u44 u45 u46 u47 u48 u49 u50 u51 u52 u53 u54 u55 u56 u57 u58 u59 u60 u61 u62 u63 u64 u65 u66 u67 u68 u69 u70 u71 u72 u73 u74 : Value), f = { tmps := #[.slice q L cap, .slice a N cap2, undef, undef, .bool false, x5, x6, x7, x8, x9, u10, u11, u12, u13, u14, u15, u16, u17, u18, u19, u20, u21, u22, u23, u24, u25, u26, u27, u28, u29, u30, u31, u32, u33, u34, u35, u36, u37, u38, u39, u40, u41, u42, u43, u44, u45, u46, u47, u48, u49, u50, u51, u52, u53, u54, u55, u56, u57, u58, u59, u60, u61, u62, u63, u64, u65, u66, u67, u68, u69, u70, u71, u72, u73, u74], defers := [] }

theorem FrS.elim {C : Act → Prop} {q : Option Addr} {L cap : Nat} {a : Option Addr} {N cap2 : Nat} {x5 x6 x7 x8 x9 : Value} {f : Act} (h : FrS q L cap a N cap2 x5 x6 x7 x8 x9 f)
    (k : ∀ (u10 u11 u12 u13 u14 u15 u16 u17 u18 u19 u20 u21 u22 u23 u24 u25 u26 u27 u28 u29 u30 u31 u32 u33 u34 u35 u36 u37 u38 u39 u40 u41 u42 u43 u44 u45 u46 u47 u48 u49 u50 u51 u52 u53 u54 u55 u56 u57 u58 u59 u60 u61 u62 u63 u64 u65 u66 u67 u68 u69 u70 u71 u72 u73 u74 : Value), C { tmps := #[.slice q L cap, .slice a N cap2, undef, undef, .bool false, x5, x6, x7, x8, x9, u10, u11, u12, u13, u14, u15, u16, u17, u18, u19, u20, u21, u22, u23, u24, u25, u26, u27, u28, u29, u30, u31, u32, u33, u34, u35, u36, u37, u38, u39, u40, u41, u42, u43, u44, u45, u46, u47, u48, u49, u50, u51, u52, u53, u54, u55, u56, u57, u58, u59, u60, u61, u62, u63, u64, u65, u66, u67, u68, u69, u70, u71, u72, u73, u74], defers := [] }) : C f :=
  Exists.elim h fun u10 h => Exists.elim h fun u11 h => Exists.elim h fun u12 h => Exists.elim h fun u13 h => Exists.elim h fun u14 h => Exists.elim h fun u15 h => Exists.elim h fun u16 h => Exists.elim h fun u17 h => Exists.elim h fun u18 h => Exists.elim h fun u19 h => Exists.elim h fun u20 h => Exists.elim h fun u21 h => Exists.elim h fun u22 h => Exists.elim h fun u23 h => Exists.elim h fun u24 h => Exists.elim h fun u25 h => Exists.elim h fun u26 h => Exists.elim h fun u27 h => Exists.elim h fun u28 h => Exists.elim h fun u29 h => Exists.elim h fun u30 h => Exists.elim h fun u31 h => Exists.elim h fun u32 h => Exists.elim h fun u33 h => Exists.elim h fun u34 h => Exists.elim h fun u35 h => Exists.elim h fun u36 h => Exists.elim h fun u37 h => Exists.elim h fun u38 h => Exists.elim h fun u39 h => Exists.elim h fun u40 h => Exists.elim h fun u41 h => Exists.elim h fun u42 h => Exists.elim h fun u43 h => Exists.elim h fun u44 h => Exists.elim h fun u45 h => Exists.elim h fun u46 h => Exists.elim h fun u47 h => Exists.elim h fun u48 h => Exists.elim h fun u49 h => Exists.elim h fun u50 h => Exists.elim h fun u51 h => Exists.elim h fun u52 h => Exists.elim h fun u53 h => Exists.elim h fun u54 h => Exists.elim h fun u55 h => Exists.elim h fun u56 h => Exists.elim h fun u57 h => Exists.elim h fun u58 h => Exists.elim h fun u59 h => Exists.elim h fun u60 h => Exists.elim h fun u61 h => Exists.elim h fun u62 h => Exists.elim h fun u63 h => Exists.elim h fun u64 h => Exists.elim h fun u65 h => Exists.elim h fun u66 h => Exists.elim h fun u67 h => Exists.elim h fun u68 h => Exists.elim h fun u69 h => Exists.elim h fun u70 h => Exists.elim h fun u71 h => Exists.elim h fun u72 h => Exists.elim h fun u73 h => Exists.elim h fun u74 h => Eq.mpr (congrArg C h) (k u10 u11 u12 u13 u14 u15 u16 u17 u18 u19 u20 u21 u22 u23 u24 u25 u26 u27 u28 u29 u30 u31 u32 u33 u34 u35 u36 u37 u38 u39 u40 u41 u42 u43 u44 u45 u46 u47 u48 u49 u50 u51 u52 u53 u54 u55 u56 u57 u58 u59 u60 u61 u62 u63 u64 u65 u66 u67 u68 u69 u70 u71 u72 u73 u74)

theorem inv_le {α β : Type} {many : α → Bool} {takes : α → β → Bool} {ps : List α} {xs : List β} {s t b tk : Nat} {seen : Bool} (h : Inv many takes ps xs s t b tk seen) : s ≤ ps.length ∧ t ≤ xs.length ∧ b ≤ s ∧ tk ≤ t := by
  obtain ⟨h1, h2, h3, h4, _⟩ := h
  exact ⟨h1, h2, h3, by omega⟩

/-- What holds at the three labels (0: many, 1: look, 2: back). -/
def JS (w : World) (q : Option Addr) (gs : List Sgn) (cap : Nat) (a : Option Addr) (zs : List Int) (cap2 : Nat) (l n : Nat) (f : Act) (wr : World) : Prop :=
  ∃ (s t b tk : Nat) (seen : Bool) (x5 x6 x7 x8 : Value), FrS q gs.length cap a zs.length cap2 x5 x6 x7 x8 (.bool seen) f ∧ x5 = .int .i64 (s : Int) ∧ x6 = .int .i64 (t : Int) ∧ x7 = .int .i64 (b : Int) ∧ x8 = .int .i64 (tk : Int) ∧
    Inv Sgn.many takesS gs zs s t b tk seen ∧ Below w.heap.size w wr ∧
    ((l = 1 ∧ n = 2 * goM gs.length zs.length s b tk + 1) ∨ (l = 0 ∧ n = 2 * goM gs.length zs.length s b tk ∧ ∃ g, gs[s]? = some g ∧ g.many = true) ∨ (l = 2 ∧ n = 2 * goM gs.length zs.length s b tk ∧ F2 Sgn.many takesS gs zs s t = false))

set_option maxHeartbeats 4000000 in
set_option maxRecDepth 100000 in
theorem goSigns_c (S : Nat → Prop) (v u : Value) (gs : List Sgn) (zs : List Int) (w : World) (hv : SgnsIn S w v gs) (hB : ∀ b, S b → b < w.heap.size) (hu : Reads w u (bytesV zs)) (hz : ∀ c ∈ zs, 0 ≤ c ∧ c ≤ 255) (hn : zs.length ≤ 1048576) :
    Calls Tryd.prog 87 #[v, u] w fun e w' => e = .returned (.bool (fullG Sgn.many takesS gs zs)) ∧ Below w.heap.size w w' := by
  obtain ⟨q, cap, rfl, hL, hcap, hq⟩ := hv
  obtain ⟨a, cap2, rfl, hcap2, hc2⟩ := reads_bytes hu
  have HV : Hid (∀ w1, Below w.heap.size w w1 → ∀ k (h : k < gs.length), ∃ b off, q = some ⟨b, off, none⟩ ∧ b < w1.heap.size ∧ SgnAt w1 b (off + k * 3) gs[k]) := fun w1 hb k h => by
    rcases hq with rfl | ⟨b, off, rfl, hS, hc⟩
    · simp at h
    · have hlt := hB b hS
      obtain ⟨e0, e1, e2⟩ := hc k h
      exact ⟨b, off, rfl, Nat.lt_of_lt_of_le hlt hb.size, (hb.cell (by simpa using hlt)).trans e0, (hb.cell (by simpa using hlt)).trans e1, (hb.cell (by simpa using hlt)).trans e2⟩
  have HU : Hid (∀ w1, Below w.heap.size w w1 → ∀ k (h : k < zs.length), ∃ b off, a = some ⟨b, off, none⟩ ∧ b < w1.heap.size ∧ w1.cell? ⟨b, off + k, none⟩ = some (.int .u8 zs[k])) := fun w1 hb k h => by
    rcases hc2 with rfl | ⟨b, off, rfl, hlt, hc⟩
    · simp at h
    · refine ⟨b, off, rfl, Nat.lt_of_lt_of_le hlt hb.size, (hb.cell (by simpa using hlt)).trans ?_⟩
      rw [hc k h]; simp [List.getD_eq_getElem?_getD, h]
  have HZ : Hid (∀ c ∈ zs, 0 ≤ c ∧ c ≤ 255) := hz
  clear hq hc2 hu hz
  go_enter Tryd.func87, Tryd.ntmps87
  go_wp2_with fail
  refine wp_scope_three 0 2 1 (JS w q gs cap a zs cap2) rfl rfl rfl ?hl ?pa ?pb ?pc ?first
  case hl =>
    rintro l n f wr ⟨_, _, _, _, _, _, _, _, _, _, _, _, _, _, _, _, h⟩
    rcases h with ⟨h, _⟩ | ⟨h, _⟩ | ⟨h, _⟩
    · exact .inr (.inr h)
    · exact .inl h
    · exact .inr (.inl h)
  case pa =>
    rintro n f wr ⟨s, t, b, tk, seen, x5, x6, x7, x8, hfr, rfl, rfl, rfl, rfl, hinv, hbr, hcase⟩ H hH
    refine FrS.elim (C := fun f => Code.wp _ _ _ f wr) hfr ?_
    clear hfr
    intro u10 u11 u12 u13 u14 u15 u16 u17 u18 u19 u20 u21 u22 u23 u24 u25 u26 u27 u28 u29 u30 u31 u32 u33 u34 u35 u36 u37 u38 u39 u40 u41 u42 u43 u44 u45 u46 u47 u48 u49 u50 u51 u52 u53 u54 u55 u56 u57 u58 u59 u60 u61 u62 u63 u64 u65 u66 u67 u68 u69 u70 u71 u72 u73 u74
    have HH : Hid (∀ l' n' a' w', n' < n → JS w q gs cap a zs cap2 l' n' a' w' → H l' a' w') := hH
    obtain ⟨hs1, ht1, hb1, hk1⟩ := inv_le hinv
    have HI : Hid (Inv Sgn.many takesS gs zs s t b tk seen) := hinv
    clear hH hinv
    rcases hcase with ⟨h, _⟩ | ⟨_, hnn, g, hg, hgm⟩ | ⟨h, _⟩
    · cases h
    · have hsL : s < gs.length := (List.getElem?_eq_some_iff.1 hg).1
      have HJ := inv_many HI.out hg hgm
      have HN : Hid (n = 2 * goM gs.length zs.length s b tk) := hnn
      have HG : Hid (Inv Sgn.many takesS gs zs (s + 1) t (s + 1) t true) := HJ
      clear hnn hg hgm HJ
      go_wp2_with fail
      go_step3
      show H 1 _ _
      exact HH.out 1 (2 * goM gs.length zs.length (s + 1) (s + 1) t + 1) _ _ (by have h1 := HN.out; have h2 := goM_many (L := gs.length) (n := zs.length) (tk := tk) (t := t) hb1 hsL; omega) ⟨s + 1, t, s + 1, t, true, _, _, _, _, ⟨_, _, _, _, _, _, _, _, _, _, _, _, _, _, _, _, _, _, _, _, _, _, _, _, _, _, _, _, _, _, _, _, _, _, _, _, _, _, _, _, _, _, _, _, _, _, _, _, _, _, _, _, _, _, _, _, _, _, _, _, _, _, _, _, _, rfl⟩, by go_num, by go_num, by go_num, by go_num, HG.out, hbr, .inl ⟨rfl, rfl⟩⟩
    · cases h
  case pb =>
    intro _
    rintro n f wr ⟨s, t, b, tk, seen, x5, x6, x7, x8, hfr, rfl, rfl, rfl, rfl, hinv, hbr, hcase⟩ H hH
    refine FrS.elim (C := fun f => Code.wp _ _ _ f wr) hfr ?_
    clear hfr
    intro u10 u11 u12 u13 u14 u15 u16 u17 u18 u19 u20 u21 u22 u23 u24 u25 u26 u27 u28 u29 u30 u31 u32 u33 u34 u35 u36 u37 u38 u39 u40 u41 u42 u43 u44 u45 u46 u47 u48 u49 u50 u51 u52 u53 u54 u55 u56 u57 u58 u59 u60 u61 u62 u63 u64 u65 u66 u67 u68 u69 u70 u71 u72 u73 u74
    have HH : Hid (∀ l' n' a' w', n' < n → JS w q gs cap a zs cap2 l' n' a' w' → H l' a' w') := hH
    obtain ⟨hs1, ht1, hb1, hk1⟩ := inv_le hinv
    have HI : Hid (Inv Sgn.many takesS gs zs s t b tk seen) := hinv
    clear hH hinv
    rcases hcase with ⟨h, _⟩ | ⟨h, _⟩ | ⟨_, hnn, hF⟩
    · cases h
    · cases h
    · have HN : Hid (n = 2 * goM gs.length zs.length s b tk) := hnn
      have HF : Hid (F2 Sgn.many takesS gs zs s t = false) := hF
      clear hnn hF
      cases seen with
      | false =>
        go_wp2_with fail
        rw [jumpsTo_ret]
        go_ret
        exact ⟨by rw [inv_false HI.out HF.out (.inl rfl)]; rfl, hbr⟩
      | true =>
        by_cases hk : tk = zs.length
        · have hk' : ((tk : Int) == (zs.length : Int)) = true := by rw [beq_iff_eq]; omega
          have HE : Hid (fullG Sgn.many takesS gs zs = false) := inv_false HI.out HF.out (.inr hk)
          clear hk
          go_wp2_with fail
          rw [jumpsTo_ret]
          go_ret
          exact ⟨by rw [HE.out]; rfl, hbr⟩
        · have hk' : ((tk : Int) == (zs.length : Int)) = false := by rw [beq_eq_false_iff_ne]; omega
          have hkl : tk < zs.length := by omega
          have HG : Hid (Inv Sgn.many takesS gs zs b (tk + 1) b (tk + 1) true) := inv_back HI.out HF.out rfl hkl
          clear hk
          go_wp2_with fail
          go_step3
          show H 1 _ _
          exact HH.out 1 (2 * goM gs.length zs.length b b (tk + 1) + 1) _ _ (by have h1 := HN.out; have h2 := goM_back (L := gs.length) (s := s) (b := b) hkl; omega) ⟨b, tk + 1, b, tk + 1, true, _, _, _, _, ⟨_, _, _, _, _, _, _, _, _, _, _, _, _, _, _, _, _, _, _, _, _, _, _, _, _, _, _, _, _, _, _, _, _, _, _, _, _, _, _, _, _, _, _, _, _, _, _, _, _, _, _, _, _, _, _, _, _, _, _, _, _, _, _, _, _, rfl⟩, by go_num, by go_num, by go_num, by go_num, HG.out, hbr, .inl ⟨rfl, rfl⟩⟩
  case pc =>
    intro _ _
    rintro n f wr ⟨s, t, b, tk, seen, x5, x6, x7, x8, hfr, rfl, rfl, rfl, rfl, hinv, hbr, hcase⟩ H hH
    refine FrS.elim (C := fun f => Code.wp _ _ _ f wr) hfr ?_
    clear hfr
    intro u10 u11 u12 u13 u14 u15 u16 u17 u18 u19 u20 u21 u22 u23 u24 u25 u26 u27 u28 u29 u30 u31 u32 u33 u34 u35 u36 u37 u38 u39 u40 u41 u42 u43 u44 u45 u46 u47 u48 u49 u50 u51 u52 u53 u54 u55 u56 u57 u58 u59 u60 u61 u62 u63 u64 u65 u66 u67 u68 u69 u70 u71 u72 u73 u74
    have HH : Hid (∀ l' n' a' w', n' < n → JS w q gs cap a zs cap2 l' n' a' w' → H l' a' w') := hH
    obtain ⟨hs1, ht1, hb1, hk1⟩ := inv_le hinv
    have HI : Hid (Inv Sgn.many takesS gs zs s t b tk seen) := hinv
    clear hH hinv
    rcases hcase with ⟨_, hnn⟩ | ⟨h, _⟩ | ⟨h, _⟩
    rotate_left
    · cases h
    · cases h
    have HN : Hid (n = 2 * goM gs.length zs.length s b tk + 1) := hnn
    clear hnn
    by_cases hsL : s < gs.length
    · obtain ⟨bs, off, rfl, hbs, e0, e1, e2⟩ := HV.out wr hbr s hsL
      have hg : gs[s]? = some gs[s] := List.getElem?_eq_getElem hsL
      have hsi : (s : Int) < (gs.length : Int) := by omega
      have hse : ((s : Int) == (gs.length : Int)) = false := by rw [beq_eq_false_iff_ne]; omega
      obtain ⟨g, hge⟩ : ∃ g, g = gs[s] := ⟨_, rfl⟩
      rw [← hge] at e0 e1 e2 hg
      obtain ⟨g0, g1, g2⟩ := g
      dsimp only at e0 e1 e2
      have HGS : Hid (gs[s]? = some ⟨g0, g1, g2⟩) := hg
      clear hge hg
      cases g0 with
      | true =>
        go_wp2_with (go_at_call 89; refine (sgnMany_c _ _ _ _).mono ?_; rintro e w1 ⟨rfl, b1⟩; have k1 := hbr.trans (b1.mono hbr.size))
        go_step3
        show H 0 _ _
        exact HH.out 0 (2 * goM gs.length zs.length s b tk) _ _ (by have h1 := HN.out; omega) ⟨s, t, b, tk, seen, _, _, _, _, ⟨_, _, _, _, _, _, _, _, _, _, _, _, _, _, _, _, _, _, _, _, _, _, _, _, _, _, _, _, _, _, _, _, _, _, _, _, _, _, _, _, _, _, _, _, _, _, _, _, _, _, _, _, _, _, _, _, _, _, _, _, _, _, _, _, _, rfl⟩, by go_num, by go_num, by go_num, by go_num, HI.out, k1, .inr (.inl ⟨rfl, rfl, _, HGS.out, rfl⟩)⟩
      | false =>
        by_cases ht : t = zs.length
        · have hte : ((t : Int) == (zs.length : Int)) = true := by rw [beq_iff_eq]; omega
          have HF : Hid (F2 Sgn.many takesS gs zs s t = false) := F2_stop_none HGS.out rfl ht
          clear ht
          go_wp2_with (go_at_call 89; refine (sgnMany_c _ _ _ _).mono ?_; rintro e w1 ⟨rfl, b1⟩; have k1 := hbr.trans (b1.mono hbr.size))
          go_quiet (fail)
          go_wp2_with fail
          go_step3
          show H 2 _ _
          exact HH.out 2 (2 * goM gs.length zs.length s b tk) _ _ (by have h1 := HN.out; omega) ⟨s, t, b, tk, seen, _, _, _, _, ⟨_, _, _, _, _, _, _, _, _, _, _, _, _, _, _, _, _, _, _, _, _, _, _, _, _, _, _, _, _, _, _, _, _, _, _, _, _, _, _, _, _, _, _, _, _, _, _, _, _, _, _, _, _, _, _, _, _, _, _, _, _, _, _, _, _, rfl⟩, by go_num, by go_num, by go_num, by go_num, HI.out, below_drewN' k1 _, .inr (.inr ⟨rfl, rfl, HF.out⟩)⟩
        · have hte : ((t : Int) == (zs.length : Int)) = false := by rw [beq_eq_false_iff_ne]; omega
          have htl : t < zs.length := by omega
          have hti : (t : Int) < (zs.length : Int) := by omega
          obtain ⟨bz, offz, rfl, hbz, f0⟩ := HU.out wr hbr t htl
          have hx : zs[t]? = some zs[t] := List.getElem?_eq_getElem htl
          obtain ⟨hc0, hc1⟩ := HZ.out _ (List.getElem_mem htl)
          obtain ⟨c, hce⟩ : ∃ c, c = zs[t] := ⟨_, rfl⟩
          rw [← hce] at f0 hx hc0 hc1
          have HX : Hid (zs[t]? = some c) := hx
          have HT := fun w => sgnTakes_c false g1 g2 c hc0 hc1 w
          obtain ⟨r, hr⟩ : ∃ r, r = takesS ⟨false, g1, g2⟩ c := ⟨_, rfl⟩
          simp only [← hr] at HT
          have HR : Hid (takesS ⟨false, g1, g2⟩ c = r) := hr.symm
          have HT : Hid (∀ w, Calls Tryd.prog 88 #[.agg #[.bool false, .bool g1, .string ⟨g2.toArray⟩], .int .u8 c] w fun e w' => e = .returned (.bool r) ∧ Below w.heap.size w w') := HT
          have KEEPW : Hid (∀ w1 w2, Below wr.heap.size wr w1 → Below w1.heap.size w1 w2 → w2.cell? ⟨bs, off + s * 3, none⟩ = some (.bool false) ∧ w2.cell? ⟨bs, off + s * 3 + 1, none⟩ = some (.bool g1) ∧ w2.cell? ⟨bs, off + s * 3 + 2, none⟩ = some (.string ⟨g2.toArray⟩) ∧ w2.cell? ⟨bz, offz + t, none⟩ = some (.int .u8 c)) := fun w1 w2 h1 h2 => by
            have h := h1.trans (h2.mono h1.size)
            exact ⟨(h.cell (by simpa using hbs)).trans e0, (h.cell (by simpa using hbs)).trans e1, (h.cell (by simpa using hbs)).trans e2, (h.cell (by simpa using hbz)).trans f0⟩
          clear hce hx hr ht f0
          go_wp2_with (go_at_call 89; refine (sgnMany_c _ _ _ _).mono ?_; rintro e w1 ⟨rfl, b1⟩; have k1 := hbr.trans (b1.mono hbr.size))
          have KEEP : Hid (∀ w2, Below w1.heap.size w1 w2 → w2.cell? ⟨bs, off + s * 3, none⟩ = some (.bool false) ∧ w2.cell? ⟨bs, off + s * 3 + 1, none⟩ = some (.bool g1) ∧ w2.cell? ⟨bs, off + s * 3 + 2, none⟩ = some (.string ⟨g2.toArray⟩) ∧ w2.cell? ⟨bz, offz + t, none⟩ = some (.int .u8 c)) := fun w2 h => KEEPW.out w1 w2 b1 h
          have hd0 : Below w1.heap.size w1 w1.drew := (Below.refl _ _).drew
          clear e0 e1 e2 KEEPW
          have k2 : Hid (∀ w2, Below w1.heap.size w1 w2 → Below w.heap.size w w2) := fun w2 h => k1.trans (h.mono k1.size)
          cases r with
          | true =>
            refine wp_region_held_drew (S := (fun w' => w'.cell? ⟨bs, off + s * 3, none⟩ = some (.bool false) ∧ w'.cell? ⟨bs, off + s * 3 + 1, none⟩ = some (.bool g1) ∧ w'.cell? ⟨bs, off + s * 3 + 2, none⟩ = some (.string ⟨g2.toArray⟩) ∧ w'.cell? ⟨bz, offz + t, none⟩ = some (.int .u8 c))) (by kernel_rfl) ?SR10 (fun hHeld => ?_)
            case SR10 => (first | (with_reducible exact KEEP.out _ hd0) | (with_reducible exact KEEP.out _ hd1))
            refine wpAnyH_take (i := 0) (oi := _) (v := ?vR10) rfl (by kernel_rfl) (by kernel_rfl) (by kernel_rfl) (fun _ _ _ h => h) (Or.inl ⟨by rfl, ?yR10⟩) hHeld ?_
            case yR10 => (intro w hSw; (try dsimp only at hSw); go_simp <;> with_reducible rfl)
            try simp only [Act.put, List.getElem_toArray, List.getElem_cons_zero, List.getElem_cons_succ, List.setIfInBounds_toArray, List.set_cons_zero, List.set_cons_succ]
            refine wpAnyH_take (i := 1) (oi := _) (v := ?vR11) rfl (by kernel_rfl) (by kernel_rfl) (by kernel_rfl) (fun _ _ _ h => h) (Or.inl ⟨by rfl, ?yR11⟩) hHeld ?_
            case yR11 => (intro w hSw; (try dsimp only at hSw); go_simp <;> with_reducible rfl)
            try simp only [Act.put, List.getElem_toArray, List.getElem_cons_zero, List.getElem_cons_succ, List.setIfInBounds_toArray, List.set_cons_zero, List.set_cons_succ]
            refine wpAnyH_take (i := 2) (oi := _) (v := ?vR12) rfl (by kernel_rfl) (by kernel_rfl) (by kernel_rfl) (fun _ _ _ h => h) (Or.inl ⟨by rfl, ?yR12⟩) hHeld ?_
            case yR12 => (intro w hSw; (try dsimp only at hSw); go_simp <;> with_reducible rfl)
            try simp only [Act.put, List.getElem_toArray, List.getElem_cons_zero, List.getElem_cons_succ, List.setIfInBounds_toArray, List.set_cons_zero, List.set_cons_succ]
            refine wpAnyH_take (i := 3) (oi := _) (v := ?vR13) rfl (by kernel_rfl) (by kernel_rfl) (by kernel_rfl) (fun _ _ _ h => h) (Or.inl ⟨by rfl, ?yR13⟩) hHeld ?_
            case yR13 => (intro w hSw; (try dsimp only at hSw); go_simp <;> with_reducible rfl)
            try simp only [Act.put, List.getElem_toArray, List.getElem_cons_zero, List.getElem_cons_succ, List.setIfInBounds_toArray, List.set_cons_zero, List.set_cons_succ]
            refine wpAnyH_take (i := 4) (oi := _) (v := ?vR14) rfl (by kernel_rfl) (by kernel_rfl) (by kernel_rfl) (fun _ _ _ h => h) (Or.inl ⟨by rfl, ?yR14⟩) hHeld ?_
            case yR14 => (intro w hSw; (try dsimp only at hSw); go_simp <;> with_reducible rfl)
            try simp only [Act.put, List.getElem_toArray, List.getElem_cons_zero, List.getElem_cons_succ, List.setIfInBounds_toArray, List.set_cons_zero, List.set_cons_succ]
            refine wpAnyH_take (i := 5) (oi := _) (v := ?vR15) rfl (by kernel_rfl) (by kernel_rfl) (by kernel_rfl) (fun _ _ _ h => h) (Or.inl ⟨by rfl, ?yR15⟩) hHeld ?_
            case yR15 => (intro w hSw; (try dsimp only at hSw); go_simp <;> with_reducible rfl)
            try simp only [Act.put, List.getElem_toArray, List.getElem_cons_zero, List.getElem_cons_succ, List.setIfInBounds_toArray, List.set_cons_zero, List.set_cons_succ]
            refine wpAnyH_take (i := 6) (oi := _) (v := ?vR16) rfl (by kernel_rfl) (by kernel_rfl) (by kernel_rfl) (fun _ _ _ h => h) (Or.inl ⟨by rfl, ?yR16⟩) hHeld ?_
            case yR16 => (intro w hSw; (try dsimp only at hSw); go_simp <;> with_reducible rfl)
            try simp only [Act.put, List.getElem_toArray, List.getElem_cons_zero, List.getElem_cons_succ, List.setIfInBounds_toArray, List.set_cons_zero, List.set_cons_succ]
            refine wpAnyH_take (i := 7) (oi := _) (v := ?vR17) rfl (by kernel_rfl) (by kernel_rfl) (by kernel_rfl) (fun _ _ _ h => h) (Or.inl ⟨by rfl, ?yR17⟩) hHeld ?_
            case yR17 => (intro w hSw; (try dsimp only at hSw); go_simp <;> with_reducible rfl)
            try simp only [Act.put, List.getElem_toArray, List.getElem_cons_zero, List.getElem_cons_succ, List.setIfInBounds_toArray, List.set_cons_zero, List.set_cons_succ]
            refine wpAnyH_take (i := 8) (oi := _) (v := ?vR18) rfl (by kernel_rfl) (by kernel_rfl) (by kernel_rfl) (fun _ _ _ h => h) (Or.inl ⟨by rfl, ?yR18⟩) hHeld ?_
            case yR18 => (intro w hSw; (try dsimp only at hSw); go_simp <;> with_reducible rfl)
            try simp only [Act.put, List.getElem_toArray, List.getElem_cons_zero, List.getElem_cons_succ, List.setIfInBounds_toArray, List.set_cons_zero, List.set_cons_succ]
            refine wpAnyH_take (i := 9) (oi := _) (v := ?vR19) rfl (by kernel_rfl) (by kernel_rfl) (by kernel_rfl) (fun _ _ _ h => h) (Or.inl ⟨by rfl, ?yR19⟩) hHeld ?_
            case yR19 => (intro w hSw; (try dsimp only at hSw); go_simp <;> with_reducible rfl)
            try simp only [Act.put, List.getElem_toArray, List.getElem_cons_zero, List.getElem_cons_succ, List.setIfInBounds_toArray, List.set_cons_zero, List.set_cons_succ]
            refine wpAnyH_take (i := 10) (oi := _) (v := ?vR110) rfl (by kernel_rfl) (by kernel_rfl) (by kernel_rfl) (fun _ _ _ h => h) (Or.inl ⟨by rfl, ?yR110⟩) hHeld ?_
            case yR110 => (intro w hSw; (try dsimp only at hSw); go_simp <;> with_reducible rfl)
            try simp only [Act.put, List.getElem_toArray, List.getElem_cons_zero, List.getElem_cons_succ, List.setIfInBounds_toArray, List.set_cons_zero, List.set_cons_succ]
            refine wpAnyH_take (i := 11) (oi := _) (v := ?vR111) rfl (by kernel_rfl) (by kernel_rfl) (by kernel_rfl) (fun _ _ _ h => h) (Or.inl ⟨by rfl, ?yR111⟩) hHeld ?_
            case yR111 => (intro w hSw; (try dsimp only at hSw); go_simp <;> with_reducible rfl)
            try simp only [Act.put, List.getElem_toArray, List.getElem_cons_zero, List.getElem_cons_succ, List.setIfInBounds_toArray, List.set_cons_zero, List.set_cons_succ]
            refine wpAnyH_take (i := 12) (oi := _) (v := ?vR112) rfl (by kernel_rfl) (by kernel_rfl) (by kernel_rfl) (fun _ _ _ h => h) (Or.inl ⟨by rfl, ?yR112⟩) hHeld ?_
            case yR112 => (intro w hSw; (try dsimp only at hSw); go_simp <;> with_reducible rfl)
            try simp only [Act.put, List.getElem_toArray, List.getElem_cons_zero, List.getElem_cons_succ, List.setIfInBounds_toArray, List.set_cons_zero, List.set_cons_succ]
            refine wpAnyH_take (i := 13) (oi := _) (v := ?vR113) rfl (by kernel_rfl) (by kernel_rfl) (by kernel_rfl) (fun _ _ _ h => h) (Or.inl ⟨by rfl, ?yR113⟩) hHeld ?_
            case yR113 => (intro w hSw; (try dsimp only at hSw); go_simp <;> with_reducible rfl)
            try simp only [Act.put, List.getElem_toArray, List.getElem_cons_zero, List.getElem_cons_succ, List.setIfInBounds_toArray, List.set_cons_zero, List.set_cons_succ]
            refine wpAnyH_take (i := 14) (oi := _) (v := ?vR114) rfl (by kernel_rfl) (by kernel_rfl) (by kernel_rfl) (fun _ _ _ h => h) (Or.inl ⟨by rfl, ?yR114⟩) hHeld ?_
            case yR114 => (intro w hSw; (try dsimp only at hSw); go_simp <;> with_reducible rfl)
            try simp only [Act.put, List.getElem_toArray, List.getElem_cons_zero, List.getElem_cons_succ, List.setIfInBounds_toArray, List.set_cons_zero, List.set_cons_succ]
            refine wpAnyH_take (i := 15) (oi := _) (v := ?vR115) rfl (by kernel_rfl) (by kernel_rfl) (by kernel_rfl) (fun _ _ _ h => h) (Or.inl ⟨by rfl, ?yR115⟩) hHeld ?_
            case yR115 => (intro w hSw; (try dsimp only at hSw); go_simp <;> with_reducible rfl)
            try simp only [Act.put, List.getElem_toArray, List.getElem_cons_zero, List.getElem_cons_succ, List.setIfInBounds_toArray, List.set_cons_zero, List.set_cons_succ]
            refine wpAnyH_take (i := 16) (oi := _) (v := ?vR116) rfl (by kernel_rfl) (by kernel_rfl) (by kernel_rfl) (fun _ _ _ h => h) (Or.inl ⟨by rfl, ?yR116⟩) hHeld ?_
            case yR116 => (intro w hSw; (try dsimp only at hSw); go_simp <;> with_reducible rfl)
            try simp only [Act.put, List.getElem_toArray, List.getElem_cons_zero, List.getElem_cons_succ, List.setIfInBounds_toArray, List.set_cons_zero, List.set_cons_succ]
            refine wpAnyH_take (i := 17) (oi := _) (v := ?vR117) rfl (by kernel_rfl) (by kernel_rfl) (by kernel_rfl) (fun _ _ _ h => h) (Or.inl ⟨by rfl, ?yR117⟩) hHeld ?_
            case yR117 => (intro w hSw; (try dsimp only at hSw); go_simp <;> with_reducible rfl)
            try simp only [Act.put, List.getElem_toArray, List.getElem_cons_zero, List.getElem_cons_succ, List.setIfInBounds_toArray, List.set_cons_zero, List.set_cons_succ]
            refine wpAnyH_take (i := 18) (oi := _) (v := ?vR118) rfl (by kernel_rfl) (by kernel_rfl) (by kernel_rfl) (fun _ _ _ h => h) (Or.inl ⟨by rfl, ?yR118⟩) hHeld ?_
            case yR118 => (intro w hSw; (try dsimp only at hSw); go_simp <;> with_reducible rfl)
            try simp only [Act.put, List.getElem_toArray, List.getElem_cons_zero, List.getElem_cons_succ, List.setIfInBounds_toArray, List.set_cons_zero, List.set_cons_succ]
            refine wpAnyH_take (i := 19) (oi := _) (v := ?vR119) rfl (by kernel_rfl) (by kernel_rfl) (by kernel_rfl) (fun _ _ _ h => h) (Or.inl ⟨by rfl, ?yR119⟩) hHeld ?_
            case yR119 => (intro w hSw; (try dsimp only at hSw); go_simp <;> with_reducible rfl)
            try simp only [Act.put, List.getElem_toArray, List.getElem_cons_zero, List.getElem_cons_succ, List.setIfInBounds_toArray, List.set_cons_zero, List.set_cons_succ]
            refine wpAnyH_ready (rs := [20]) (by kernel_rfl) (by simp) ?_
            refine AllReadyH.cons rfl (fun K hK => ?_) AllReadyH.nil
            go_simp
            go_wp2_with (go_at_call 88; refine (HT.out _).mono ?_; rintro e w2 ⟨rfl, b2⟩; have hd1 : Below w1.heap.size w1 w2 := hd0.trans (b2.mono hd0.size))
            clear hHeld
            refine hK.out _ _ ?SR121 (fun hHeld => ?_)
            case SR121 => ((try dsimp only); first | (with_reducible exact KEEP.out _ hd0) | (with_reducible exact KEEP.out _ hd1))
            clear hK K
            refine wpAnyH_take (i := 21) (oi := _) (v := ?vR121) rfl (by kernel_rfl) (by kernel_rfl) (by kernel_rfl) (fun _ _ _ h => h) (Or.inl ⟨by rfl, ?yR121⟩) hHeld ?_
            case yR121 => (intro w hSw; (try dsimp only at hSw); go_simp <;> with_reducible rfl)
            try simp only [Act.put, List.getElem_toArray, List.getElem_cons_zero, List.getElem_cons_succ, List.setIfInBounds_toArray, List.set_cons_zero, List.set_cons_succ]
            refine wpAnyH_take (i := 22) (oi := _) (v := ?vR122) rfl (by kernel_rfl) (by kernel_rfl) (by kernel_rfl) (fun _ _ _ h => h) (Or.inl ⟨by rfl, ?yR122⟩) hHeld ?_
            case yR122 => (intro w hSw; (try dsimp only at hSw); go_simp <;> with_reducible rfl)
            try simp only [Act.put, List.getElem_toArray, List.getElem_cons_zero, List.getElem_cons_succ, List.setIfInBounds_toArray, List.set_cons_zero, List.set_cons_succ]
            refine wpAnyH_done (by kernel_rfl) ?_ _
            go_wp2_with fail
            go_step3
            show H 1 _ _
            exact HH.out 1 (2 * goM gs.length zs.length (s + 1) b tk + 1) _ _ (by have h1 := HN.out; have h2 := goM_next (n := zs.length) (b := b) (tk := tk) hsL; omega) ⟨s + 1, t + 1, b, tk, seen, _, _, _, _, ⟨_, _, _, _, _, _, _, _, _, _, _, _, _, _, _, _, _, _, _, _, _, _, _, _, _, _, _, _, _, _, _, _, _, _, _, _, _, _, _, _, _, _, _, _, _, _, _, _, _, _, _, _, _, _, _, _, _, _, _, _, _, _, _, _, _, rfl⟩, by go_num, by go_num, by go_num, by go_num, inv_next HI.out HGS.out rfl HX.out HR.out, k2.out _ hd1, .inl ⟨rfl, rfl⟩⟩
          | false =>
            refine wp_region_held_drew (S := (fun w' => w'.cell? ⟨bs, off + s * 3, none⟩ = some (.bool false) ∧ w'.cell? ⟨bs, off + s * 3 + 1, none⟩ = some (.bool g1) ∧ w'.cell? ⟨bs, off + s * 3 + 2, none⟩ = some (.string ⟨g2.toArray⟩) ∧ w'.cell? ⟨bz, offz + t, none⟩ = some (.int .u8 c))) (by kernel_rfl) ?SR20 (fun hHeld => ?_)
            case SR20 => (first | (with_reducible exact KEEP.out _ hd0) | (with_reducible exact KEEP.out _ hd1))
            refine wpAnyH_take (i := 0) (oi := _) (v := ?vR20) rfl (by kernel_rfl) (by kernel_rfl) (by kernel_rfl) (fun _ _ _ h => h) (Or.inl ⟨by rfl, ?yR20⟩) hHeld ?_
            case yR20 => (intro w hSw; (try dsimp only at hSw); go_simp <;> with_reducible rfl)
            try simp only [Act.put, List.getElem_toArray, List.getElem_cons_zero, List.getElem_cons_succ, List.setIfInBounds_toArray, List.set_cons_zero, List.set_cons_succ]
            refine wpAnyH_take (i := 1) (oi := _) (v := ?vR21) rfl (by kernel_rfl) (by kernel_rfl) (by kernel_rfl) (fun _ _ _ h => h) (Or.inl ⟨by rfl, ?yR21⟩) hHeld ?_
            case yR21 => (intro w hSw; (try dsimp only at hSw); go_simp <;> with_reducible rfl)
            try simp only [Act.put, List.getElem_toArray, List.getElem_cons_zero, List.getElem_cons_succ, List.setIfInBounds_toArray, List.set_cons_zero, List.set_cons_succ]
            refine wpAnyH_take (i := 2) (oi := _) (v := ?vR22) rfl (by kernel_rfl) (by kernel_rfl) (by kernel_rfl) (fun _ _ _ h => h) (Or.inl ⟨by rfl, ?yR22⟩) hHeld ?_
            case yR22 => (intro w hSw; (try dsimp only at hSw); go_simp <;> with_reducible rfl)
            try simp only [Act.put, List.getElem_toArray, List.getElem_cons_zero, List.getElem_cons_succ, List.setIfInBounds_toArray, List.set_cons_zero, List.set_cons_succ]
            refine wpAnyH_take (i := 3) (oi := _) (v := ?vR23) rfl (by kernel_rfl) (by kernel_rfl) (by kernel_rfl) (fun _ _ _ h => h) (Or.inl ⟨by rfl, ?yR23⟩) hHeld ?_
            case yR23 => (intro w hSw; (try dsimp only at hSw); go_simp <;> with_reducible rfl)
            try simp only [Act.put, List.getElem_toArray, List.getElem_cons_zero, List.getElem_cons_succ, List.setIfInBounds_toArray, List.set_cons_zero, List.set_cons_succ]
            refine wpAnyH_take (i := 4) (oi := _) (v := ?vR24) rfl (by kernel_rfl) (by kernel_rfl) (by kernel_rfl) (fun _ _ _ h => h) (Or.inl ⟨by rfl, ?yR24⟩) hHeld ?_
            case yR24 => (intro w hSw; (try dsimp only at hSw); go_simp <;> with_reducible rfl)
            try simp only [Act.put, List.getElem_toArray, List.getElem_cons_zero, List.getElem_cons_succ, List.setIfInBounds_toArray, List.set_cons_zero, List.set_cons_succ]
            refine wpAnyH_take (i := 5) (oi := _) (v := ?vR25) rfl (by kernel_rfl) (by kernel_rfl) (by kernel_rfl) (fun _ _ _ h => h) (Or.inl ⟨by rfl, ?yR25⟩) hHeld ?_
            case yR25 => (intro w hSw; (try dsimp only at hSw); go_simp <;> with_reducible rfl)
            try simp only [Act.put, List.getElem_toArray, List.getElem_cons_zero, List.getElem_cons_succ, List.setIfInBounds_toArray, List.set_cons_zero, List.set_cons_succ]
            refine wpAnyH_take (i := 6) (oi := _) (v := ?vR26) rfl (by kernel_rfl) (by kernel_rfl) (by kernel_rfl) (fun _ _ _ h => h) (Or.inl ⟨by rfl, ?yR26⟩) hHeld ?_
            case yR26 => (intro w hSw; (try dsimp only at hSw); go_simp <;> with_reducible rfl)
            try simp only [Act.put, List.getElem_toArray, List.getElem_cons_zero, List.getElem_cons_succ, List.setIfInBounds_toArray, List.set_cons_zero, List.set_cons_succ]
            refine wpAnyH_take (i := 7) (oi := _) (v := ?vR27) rfl (by kernel_rfl) (by kernel_rfl) (by kernel_rfl) (fun _ _ _ h => h) (Or.inl ⟨by rfl, ?yR27⟩) hHeld ?_
            case yR27 => (intro w hSw; (try dsimp only at hSw); go_simp <;> with_reducible rfl)
            try simp only [Act.put, List.getElem_toArray, List.getElem_cons_zero, List.getElem_cons_succ, List.setIfInBounds_toArray, List.set_cons_zero, List.set_cons_succ]
            refine wpAnyH_take (i := 8) (oi := _) (v := ?vR28) rfl (by kernel_rfl) (by kernel_rfl) (by kernel_rfl) (fun _ _ _ h => h) (Or.inl ⟨by rfl, ?yR28⟩) hHeld ?_
            case yR28 => (intro w hSw; (try dsimp only at hSw); go_simp <;> with_reducible rfl)
            try simp only [Act.put, List.getElem_toArray, List.getElem_cons_zero, List.getElem_cons_succ, List.setIfInBounds_toArray, List.set_cons_zero, List.set_cons_succ]
            refine wpAnyH_take (i := 9) (oi := _) (v := ?vR29) rfl (by kernel_rfl) (by kernel_rfl) (by kernel_rfl) (fun _ _ _ h => h) (Or.inl ⟨by rfl, ?yR29⟩) hHeld ?_
            case yR29 => (intro w hSw; (try dsimp only at hSw); go_simp <;> with_reducible rfl)
            try simp only [Act.put, List.getElem_toArray, List.getElem_cons_zero, List.getElem_cons_succ, List.setIfInBounds_toArray, List.set_cons_zero, List.set_cons_succ]
            refine wpAnyH_take (i := 10) (oi := _) (v := ?vR210) rfl (by kernel_rfl) (by kernel_rfl) (by kernel_rfl) (fun _ _ _ h => h) (Or.inl ⟨by rfl, ?yR210⟩) hHeld ?_
            case yR210 => (intro w hSw; (try dsimp only at hSw); go_simp <;> with_reducible rfl)
            try simp only [Act.put, List.getElem_toArray, List.getElem_cons_zero, List.getElem_cons_succ, List.setIfInBounds_toArray, List.set_cons_zero, List.set_cons_succ]
            refine wpAnyH_take (i := 11) (oi := _) (v := ?vR211) rfl (by kernel_rfl) (by kernel_rfl) (by kernel_rfl) (fun _ _ _ h => h) (Or.inl ⟨by rfl, ?yR211⟩) hHeld ?_
            case yR211 => (intro w hSw; (try dsimp only at hSw); go_simp <;> with_reducible rfl)
            try simp only [Act.put, List.getElem_toArray, List.getElem_cons_zero, List.getElem_cons_succ, List.setIfInBounds_toArray, List.set_cons_zero, List.set_cons_succ]
            refine wpAnyH_take (i := 12) (oi := _) (v := ?vR212) rfl (by kernel_rfl) (by kernel_rfl) (by kernel_rfl) (fun _ _ _ h => h) (Or.inl ⟨by rfl, ?yR212⟩) hHeld ?_
            case yR212 => (intro w hSw; (try dsimp only at hSw); go_simp <;> with_reducible rfl)
            try simp only [Act.put, List.getElem_toArray, List.getElem_cons_zero, List.getElem_cons_succ, List.setIfInBounds_toArray, List.set_cons_zero, List.set_cons_succ]
            refine wpAnyH_take (i := 13) (oi := _) (v := ?vR213) rfl (by kernel_rfl) (by kernel_rfl) (by kernel_rfl) (fun _ _ _ h => h) (Or.inl ⟨by rfl, ?yR213⟩) hHeld ?_
            case yR213 => (intro w hSw; (try dsimp only at hSw); go_simp <;> with_reducible rfl)
            try simp only [Act.put, List.getElem_toArray, List.getElem_cons_zero, List.getElem_cons_succ, List.setIfInBounds_toArray, List.set_cons_zero, List.set_cons_succ]
            refine wpAnyH_take (i := 14) (oi := _) (v := ?vR214) rfl (by kernel_rfl) (by kernel_rfl) (by kernel_rfl) (fun _ _ _ h => h) (Or.inl ⟨by rfl, ?yR214⟩) hHeld ?_
            case yR214 => (intro w hSw; (try dsimp only at hSw); go_simp <;> with_reducible rfl)
            try simp only [Act.put, List.getElem_toArray, List.getElem_cons_zero, List.getElem_cons_succ, List.setIfInBounds_toArray, List.set_cons_zero, List.set_cons_succ]
            refine wpAnyH_take (i := 15) (oi := _) (v := ?vR215) rfl (by kernel_rfl) (by kernel_rfl) (by kernel_rfl) (fun _ _ _ h => h) (Or.inl ⟨by rfl, ?yR215⟩) hHeld ?_
            case yR215 => (intro w hSw; (try dsimp only at hSw); go_simp <;> with_reducible rfl)
            try simp only [Act.put, List.getElem_toArray, List.getElem_cons_zero, List.getElem_cons_succ, List.setIfInBounds_toArray, List.set_cons_zero, List.set_cons_succ]
            refine wpAnyH_take (i := 16) (oi := _) (v := ?vR216) rfl (by kernel_rfl) (by kernel_rfl) (by kernel_rfl) (fun _ _ _ h => h) (Or.inl ⟨by rfl, ?yR216⟩) hHeld ?_
            case yR216 => (intro w hSw; (try dsimp only at hSw); go_simp <;> with_reducible rfl)
            try simp only [Act.put, List.getElem_toArray, List.getElem_cons_zero, List.getElem_cons_succ, List.setIfInBounds_toArray, List.set_cons_zero, List.set_cons_succ]
            refine wpAnyH_take (i := 17) (oi := _) (v := ?vR217) rfl (by kernel_rfl) (by kernel_rfl) (by kernel_rfl) (fun _ _ _ h => h) (Or.inl ⟨by rfl, ?yR217⟩) hHeld ?_
            case yR217 => (intro w hSw; (try dsimp only at hSw); go_simp <;> with_reducible rfl)
            try simp only [Act.put, List.getElem_toArray, List.getElem_cons_zero, List.getElem_cons_succ, List.setIfInBounds_toArray, List.set_cons_zero, List.set_cons_succ]
            refine wpAnyH_take (i := 18) (oi := _) (v := ?vR218) rfl (by kernel_rfl) (by kernel_rfl) (by kernel_rfl) (fun _ _ _ h => h) (Or.inl ⟨by rfl, ?yR218⟩) hHeld ?_
            case yR218 => (intro w hSw; (try dsimp only at hSw); go_simp <;> with_reducible rfl)
            try simp only [Act.put, List.getElem_toArray, List.getElem_cons_zero, List.getElem_cons_succ, List.setIfInBounds_toArray, List.set_cons_zero, List.set_cons_succ]
            refine wpAnyH_take (i := 19) (oi := _) (v := ?vR219) rfl (by kernel_rfl) (by kernel_rfl) (by kernel_rfl) (fun _ _ _ h => h) (Or.inl ⟨by rfl, ?yR219⟩) hHeld ?_
            case yR219 => (intro w hSw; (try dsimp only at hSw); go_simp <;> with_reducible rfl)
            try simp only [Act.put, List.getElem_toArray, List.getElem_cons_zero, List.getElem_cons_succ, List.setIfInBounds_toArray, List.set_cons_zero, List.set_cons_succ]
            refine wpAnyH_ready (rs := [20]) (by kernel_rfl) (by simp) ?_
            refine AllReadyH.cons rfl (fun K hK => ?_) AllReadyH.nil
            go_simp
            go_wp2_with (go_at_call 88; refine (HT.out _).mono ?_; rintro e w2 ⟨rfl, b2⟩; have hd1 : Below w1.heap.size w1 w2 := hd0.trans (b2.mono hd0.size))
            clear hHeld
            refine hK.out _ _ ?SR221 (fun hHeld => ?_)
            case SR221 => ((try dsimp only); first | (with_reducible exact KEEP.out _ hd0) | (with_reducible exact KEEP.out _ hd1))
            clear hK K
            refine wpAnyH_take (i := 21) (oi := _) (v := ?vR221) rfl (by kernel_rfl) (by kernel_rfl) (by kernel_rfl) (fun _ _ _ h => h) (Or.inl ⟨by rfl, ?yR221⟩) hHeld ?_
            case yR221 => (intro w hSw; (try dsimp only at hSw); go_simp <;> with_reducible rfl)
            try simp only [Act.put, List.getElem_toArray, List.getElem_cons_zero, List.getElem_cons_succ, List.setIfInBounds_toArray, List.set_cons_zero, List.set_cons_succ]
            refine wpAnyH_take (i := 22) (oi := _) (v := ?vR222) rfl (by kernel_rfl) (by kernel_rfl) (by kernel_rfl) (fun _ _ _ h => h) (Or.inl ⟨by rfl, ?yR222⟩) hHeld ?_
            case yR222 => (intro w hSw; (try dsimp only at hSw); go_simp <;> with_reducible rfl)
            try simp only [Act.put, List.getElem_toArray, List.getElem_cons_zero, List.getElem_cons_succ, List.setIfInBounds_toArray, List.set_cons_zero, List.set_cons_succ]
            refine wpAnyH_done (by kernel_rfl) ?_ _
            go_wp2_with fail
            go_step3
            show H 2 _ _
            exact HH.out 2 (2 * goM gs.length zs.length s b tk) _ _ (by have h1 := HN.out; omega) ⟨s, t, b, tk, seen, _, _, _, _, ⟨_, _, _, _, _, _, _, _, _, _, _, _, _, _, _, _, _, _, _, _, _, _, _, _, _, _, _, _, _, _, _, _, _, _, _, _, _, _, _, _, _, _, _, _, _, _, _, _, _, _, _, _, _, _, _, _, _, _, _, _, _, _, _, _, _, rfl⟩, by go_num, by go_num, by go_num, by go_num, HI.out, k2.out _ hd1, .inr (.inr ⟨rfl, rfl, F2_stop_not HGS.out rfl HX.out HR.out⟩)⟩
    · have hse : s = gs.length := by omega
      have hsi : ¬ (s : Int) < (gs.length : Int) := by omega
      have hse' : ((s : Int) == (gs.length : Int)) = true := by rw [beq_iff_eq]; omega
      by_cases ht : t = zs.length
      · have hte : ((t : Int) == (zs.length : Int)) = true := by rw [beq_iff_eq]; omega
        have HE : Hid (fullG Sgn.many takesS gs zs = true) := inv_true HI.out hse ht
        clear hse ht hsL
        go_wp2_with fail
        rw [jumpsTo_ret]
        go_ret
        exact ⟨by rw [HE.out]; rfl, hbr⟩
      · have hte : ((t : Int) == (zs.length : Int)) = false := by rw [beq_eq_false_iff_ne]; omega
        have HF : Hid (F2 Sgn.many takesS gs zs s t = false) := F2_stop_end hse ht1 ht
        clear hse ht hsL
        go_wp2_with fail
        go_quiet (fail)
        go_wp2_with fail
        go_step3
        show H 2 _ _
        exact HH.out 2 (2 * goM gs.length zs.length s b tk) _ _ (by have h1 := HN.out; omega) ⟨s, t, b, tk, seen, _, _, _, _, ⟨_, _, _, _, _, _, _, _, _, _, _, _, _, _, _, _, _, _, _, _, _, _, _, _, _, _, _, _, _, _, _, _, _, _, _, _, _, _, _, _, _, _, _, _, _, _, _, _, _, _, _, _, _, _, _, _, _, _, _, _, _, _, _, _, _, rfl⟩, by go_num, by go_num, by go_num, by go_num, HI.out, below_drewN' hbr _, .inr (.inr ⟨rfl, rfl, HF.out⟩)⟩
  case first =>
    intro pa pb pc H hH
    go_wp2_with fail
    go_step3
    go_step
    go_step
    exact pc _ _ _ ⟨0, 0, 0, 0, false, _, _, _, _, ⟨_, _, _, _, _, _, _, _, _, _, _, _, _, _, _, _, _, _, _, _, _, _, _, _, _, _, _, _, _, _, _, _, _, _, _, _, _, _, _, _, _, _, _, _, _, _, _, _, _, _, _, _, _, _, _, _, _, _, _, _, _, _, _, _, _, rfl⟩, rfl, rfl, rfl, rfl, inv_start, Below.refl _ _, .inl ⟨rfl, rfl⟩⟩ H (fun l' n' a' w' _ h => hH l' n' a' w' h)
end Go.Proofs.YtdiopkegaeliaaaDoor

/-! Pieces that lie in memory, and what one piece answers of a name (the program's): contracts for the walks; conditions as each says. -/
namespace Go.Proofs.YtdiopkegaeliaaaDoor
open Go.RowKit
set_option linter.unusedSimpArgs false
set_option linter.unusedVariables false

def intsOf (y : ByteArray) : List Int := y.data.toList.map fun u => (u.toNat : Int)
theorem intsOf_len (y : ByteArray) : (intsOf y).length = y.size := by unfold intsOf; rw [List.length_map, len_list]
theorem intsOf_in (y : ByteArray) : ∀ c ∈ intsOf y, 0 ≤ c ∧ c ≤ 255 := fun c h => by
  obtain ⟨u, _, rfl⟩ := List.mem_map.1 h
  exact ⟨byte0 u, byte255 u⟩
def manyT (x : ByteArray) : Bool := x.toList == [42, 42]
def takesT (x y : ByteArray) : Bool := fullG Sgn.many takesS (sgnsOf x) (intsOf y)

/-- The two cells from place j on in block b are the piece that is read off x. -/
def PceAt (S : Nat → Prop) (w : World) (b j : Nat) (x : ByteArray) : Prop := w.cell? ⟨b, j, none⟩ = some (.bool (manyT x)) ∧ ∃ v, w.cell? ⟨b, j + 1, none⟩ = some v ∧ SgnsIn S w v (sgnsOf x)
/-- The list of pieces v is what is read off xs. -/
def PcsIn (S : Nat → Prop) (w : World) (v : Value) (xs : List ByteArray) : Prop :=
  ∃ q cap, v = .slice q xs.length cap ∧ xs.length ≤ 4 ∧ xs.length ≤ cap ∧ (xs = [] ∨ ∃ (b off : Nat), q = some ⟨b, off, none⟩ ∧ S b ∧ ∀ k (h : k < xs.length), PceAt S w b (off + k * 2) xs[k])

theorem pceMany_c (m : Bool) (v : Value) (w : World) :
    Calls Tryd.prog 86 #[.agg #[.bool m, v]] w fun e w' => e = .returned (.bool m) ∧ Below w.heap.size w w' := by
  have hbx : ∀ o, Below w.heap.size w (w.alloc o) := fun o => (Below.refl _ _).alloc (Nat.le_refl _) _
  go_enter Tryd.func86, Tryd.ntmps86
  go_wp2_with fail
  go_ret
  exact ⟨rfl, hbx _⟩

theorem bytes_new (w : World) (y : ByteArray) (C : Nat) (t : TypeId) (z : Nat × Nat) (hC : y.size ≤ C) :
    Reads (w.alloc (.cells (bytesRow y C) t z)) (.slice (some ⟨w.heap.size, 0, none⟩) y.size C) (bytesV (intsOf y)) := by
  refine ⟨some ⟨w.heap.size, 0, none⟩, C, by rw [length_bytesV, intsOf_len], by rw [length_bytesV, intsOf_len]; exact hC, .inr ⟨w.heap.size, 0, rfl, by simp, fun k hk => ?_⟩⟩
  rw [length_bytesV, intsOf_len] at hk
  have hh : (w.alloc (.cells (bytesRow y C) t z)).heap[w.heap.size]? = some (.cells (bytesRow y C) t z) := vheap_new _ _
  rw [Nat.zero_add, cell_of_row _ _ k _ _ _ hh]
  unfold bytesRow
  have h1 : k < y.data.size := hk
  rw [Array.getElem?_append_left (by simpa using h1)]
  simp only [bytesV, intsOf, List.getElem_map, Array.getElem?_map, Array.getElem?_eq_getElem h1, Option.map_some, Array.getElem_toList]

set_option maxHeartbeats 1000000 in
set_option maxRecDepth 100000 in
theorem pceTakes_c (S : Nat → Prop) (m : Bool) (v : Value) (gs : List Sgn) (y : ByteArray) (w : World) (hv : SgnsIn S w v gs) (hB : ∀ b, S b → b < w.heap.size) (hy : y.size ≤ 1048576) :
    Calls Tryd.prog 85 #[.agg #[.bool m, v], .string y] w fun e w' => e = .returned (.bool (fullG Sgn.many takesS gs (intsOf y))) ∧ Below w.heap.size w w' := by
  have hconv := run_bytes_of_string (w.alloc (.cells #[.bool m, v] 70)) 9 85 5 y Tryd.underlying9 Tryd.underlying85 Tryd.underlying5
  obtain ⟨C, hC⟩ : ∃ C, C = grownCap (w.alloc (.cells #[.bool m, v] 70)) y.size 0 5 := ⟨_, rfl⟩
  have hCy : y.size ≤ C := by rw [hC]; exact grownCap_ge _ _ _ _
  rw [← hC] at hconv
  have hb1 : Below w.heap.size w (w.alloc (.cells #[.bool m, v] 70)) := (Below.refl _ _).alloc (Nat.le_refl _) _
  have hr : Reads ((w.alloc (.cells #[.bool m, v] 70)).drew.alloc (.cells (bytesRow y C) 5 ((bytesRow y C).size, (bytesRow y C).size + 1))) (.slice (some ⟨(w.alloc (.cells #[.bool m, v] 70)).heap.size, 0, none⟩) y.size C) (bytesV (intsOf y)) := bytes_new (w.alloc (.cells #[.bool m, v] 70)).drew y C 5 ((bytesRow y C).size, (bytesRow y C).size + 1) hCy
  obtain ⟨u, hu⟩ : ∃ u, u = Value.slice (some ⟨(w.alloc (.cells #[.bool m, v] 70)).heap.size, 0, none⟩) y.size C := ⟨_, rfl⟩
  rw [← hu] at hconv hr
  have hb2 : Below w.heap.size w ((w.alloc (.cells #[.bool m, v] 70)).drew.alloc (.cells (bytesRow y C) 5 ((bytesRow y C).size, (bytesRow y C).size + 1))) := hb1.drew.alloc hb1.size _
  obtain ⟨W, hW⟩ : ∃ W, W = (w.alloc (.cells #[.bool m, v] 70)).drew.alloc (.cells (bytesRow y C) 5 ((bytesRow y C).size, (bytesRow y C).size + 1)) := ⟨_, rfl⟩
  rw [← hW] at hconv hb2 hr
  have hgo := goSigns_c S v u gs (intsOf y) W (hv.keep (.of hb2 hB)) (fun b h => Nat.lt_of_lt_of_le (hB b h) hb2.size) hr (intsOf_in y) (by rw [intsOf_len]; exact hy)
  clear hW hC hr hv hb1 hu
  go_enter Tryd.func85, Tryd.ntmps85
  go_wp2_with (go_at_call 87; refine hgo.mono ?_; rintro e w2 ⟨rfl, b2⟩)
  go_ret
  exact ⟨rfl, hb2.trans (b2.mono hb2.size)⟩
end Go.Proofs.YtdiopkegaeliaaaDoor

/-! Signs put one behind the other in memory of the call's own, beside the set that is being read: facts for the walks; no condition. -/
namespace Go.Proofs.YtdiopkegaeliaaaDoor
open Go.RowKit
set_option linter.unusedSimpArgs false
set_option linter.unusedVariables false

theorem infoSgn : (Tryd.prog.info? 76).map (fun i => (i.zero, i.size, i.bytes)) = some (some (.agg #[.bool false, .bool false, .string ⟨#[]⟩]), 3, 24) := by kernel_rfl

def cellsS (gs : List Sgn) : List Value := gs.flatMap fun g => [.bool g.many, .bool g.nt, .string ⟨g.set.toArray⟩]
theorem cellsS_length (gs : List Sgn) : (cellsS gs).length = gs.length * 3 := by
  induction gs with
  | nil => rfl
  | cons f fs ih => simp only [cellsS, List.flatMap_cons, List.length_append, List.length_cons, List.length_nil] at ih ⊢; omega
theorem cellsS_append (a b : List Sgn) : cellsS (a ++ b) = cellsS a ++ cellsS b := by simp [cellsS]
theorem cellsS_at (gs : List Sgn) : ∀ (k : Nat) (h : k < gs.length), (cellsS gs)[k * 3]? = some (.bool gs[k].many) ∧ (cellsS gs)[k * 3 + 1]? = some (.bool gs[k].nt) ∧ (cellsS gs)[k * 3 + 2]? = some (.string ⟨gs[k].set.toArray⟩) := by
  induction gs with
  | nil => intro k h; simp at h
  | cons f fs ih =>
    intro k h
    have e : cellsS (f :: fs) = [.bool f.many, .bool f.nt, .string ⟨f.set.toArray⟩] ++ cellsS fs := by simp [cellsS]
    cases k with
    | zero => rw [e]; simp
    | succ k =>
      have := ih k (by simpa using h)
      rw [e, List.getElem?_append_right (by simp; omega), List.getElem?_append_right (by simp; omega), List.getElem?_append_right (by simp; omega)]
      simp only [List.length_cons, List.length_nil, List.getElem_cons_succ]
      rw [show (k + 1) * 3 - (0 + 1 + 1 + 1) = k * 3 by omega, show (k + 1) * 3 + 1 - (0 + 1 + 1 + 1) = k * 3 + 1 by omega, show (k + 1) * 3 + 2 - (0 + 1 + 1 + 1) = k * 3 + 2 by omega]
      exact this
theorem sgnsIn_owns {w : World} {lo n : Nat} {e : TypeId} {v : Value} {gs : List Sgn} (hg : w.ownsRow lo e 3 v n (cellsS gs)) (h12 : gs.length ≤ 12) : SgnsIn (Ow lo w.heap.size) w v gs := by
  have hlen := hg.1
  rw [cellsS_length] at hlen
  have hn : n = gs.length := by omega
  subst hn
  rcases hg.2 with ⟨rfl, h0⟩ | ⟨g, cap, cur, rfl, hlo, hg', hcap, hmax, _⟩
  · exact ⟨_, _, by rw [h0], h12, by omega, .inl (List.eq_nil_of_length_eq_zero h0)⟩
  · have hgl := (Array.getElem?_eq_some_iff.1 hg').1
    refine ⟨_, _, rfl, h12, hcap, .inr ⟨g, 0, rfl, ⟨hlo, hgl⟩, fun k hk => ?_⟩⟩
    obtain ⟨h1, h2, h3⟩ := cellsS_at gs k hk
    rw [Nat.zero_add]
    exact ⟨(hg.cellAt _ (by omega)).trans h1, (hg.cellAt _ (by omega)).trans h2, (hg.cellAt _ (by omega)).trans h3⟩

theorem cell_three_c (w : World) (v u x : Value) (t : TypeId) : ∀ j y, ([v, u, x] : List Value)[j]? = some y → (w.alloc (.cells #[v, u, x] t)).cell? ((⟨w.heap.size, 0, none⟩ : Addr).add j) = some y := fun j y hj => by
  have h2 : j < 3 := by have := (List.getElem?_eq_some_iff.1 hj).1; simpa using this
  have e : ((⟨w.heap.size, 0, none⟩ : Addr).add j) = ⟨w.heap.size, j, none⟩ := by unfold Addr.add; split <;> simp_all
  rw [e, vblk_cell (vheap_new _ _) j]
  match j, h2 with
  | 0, _ => simpa using hj
  | 1, _ => simpa using hj
  | 2, _ => simpa using hj

/-- The set that is being read, and the signs so far: each in a block of the call's own. -/
def MemR (w wr : World) (v : Value) (xs : List Sgn) (nt : Bool) (x : ByteArray) : Prop :=
  wr.heap[w.heap.size]? = some (.cells #[.bool false, .bool nt, .string x] 76 (0, 0)) ∧ wr.ownsRow (w.heap.size + 1) 76 3 v xs.length (cellsS xs) ∧ Below w.heap.size w wr
theorem MemR.start (w : World) : MemR w (w.alloc (.cells #[.bool false, .bool false, .string ⟨#[]⟩] 76)) (.slice none 0 0) [] false ⟨#[]⟩ :=
  ⟨vheap_new _ _, World.ownsRow_nil _ _ _ _, (Below.refl _ _).alloc (Nat.le_refl _) _⟩
theorem MemR.lt {w wr : World} {v : Value} {xs : List Sgn} {nt : Bool} {x : ByteArray} (h : MemR w wr v xs nt x) : w.heap.size < wr.heap.size := (Array.getElem?_eq_some_iff.1 h.1).1
theorem MemR.slice {w wr : World} {v : Value} {xs : List Sgn} {nt : Bool} {x : ByteArray} (h : MemR w wr v xs nt x) : ∃ q c, v = .slice q xs.length c := by
  rcases h.2.1.2 with ⟨h1, h2⟩ | ⟨g, c, cur, rfl, _⟩
  · exact ⟨none, 0, by rw [h1, h2]⟩
  · exact ⟨_, _, rfl⟩
theorem MemR.grown {w wr w3 : World} {v v3 : Value} {xs ys : List Sgn} {nt : Bool} {x : ByteArray} {o : Obj} (h : MemR w wr v xs nt x) (gr : (wr.alloc o).grownBy w3 v.ownBlock) (o3 : w3.ownsRow (w.heap.size + 1) 76 3 v3 ys.length (cellsS ys)) : MemR w w3 v3 ys nt x := by
  have hlt := h.lt
  have hz := h.2.2.size
  refine ⟨?_, o3, Below.grown (h.2.2.alloc hz _) gr (by simp; omega) (fun j hj => by have := (h.2.1.lt _ hj).1; omega)⟩
  rw [gr.block _ (by simp; omega) (fun e => by have := (h.2.1.lt _ e.symm).1; omega), vheap_old _ _ hlt]
  exact h.1
theorem MemR.cells {w wr : World} {v : Value} {xs : List Sgn} {nt : Bool} {x : ByteArray} (h : MemR w wr v xs nt x) :
    wr.cell? ⟨w.heap.size, 0, none⟩ = some (.bool false) ∧ wr.cell? ⟨w.heap.size, 1, none⟩ = some (.bool nt) ∧ wr.cell? ⟨w.heap.size, 2, none⟩ = some (.string x) ∧ ∀ j, wr.frozen? ⟨w.heap.size, j, none⟩ = false :=
  ⟨by rw [vblk_cell h.1]; rfl, by rw [vblk_cell h.1]; rfl, by rw [vblk_cell h.1]; rfl, vblk_frozen h.1⟩
theorem MemR.keepRow {w wr : World} {v : Value} {xs : List Sgn} {nt : Bool} {x : ByteArray} (h : MemR w wr v xs nt x) (j : Nat) (y : Value) :
    (wr.setCell ⟨w.heap.size, j, none⟩ y).ownsRow (w.heap.size + 1) 76 3 v xs.length (cellsS xs) ∧ Below w.heap.size w (wr.setCell ⟨w.heap.size, j, none⟩ y) := by
  refine ⟨?_, h.2.2.setCell (Nat.le_refl _) _⟩
  have hr := h.2.1
  refine ⟨hr.1, ?_⟩
  rcases hr.2 with hn | ⟨g, cap, cur, rfl, hb, hgg, rest⟩
  · exact .inl hn
  · refine .inr ⟨g, cap, cur, rfl, hb, ?_, rest⟩
    rw [Below.heap_setCell _ _ _ _ (by show g ≠ w.heap.size; omega)]
    exact hgg
theorem MemR.setNot {w wr : World} {v : Value} {xs : List Sgn} {nt : Bool} {x : ByteArray} (h : MemR w wr v xs nt x) (n2 : Bool) : MemR w (wr.setCell ⟨w.heap.size, 1, none⟩ (.bool n2)) v xs n2 x := by
  obtain ⟨h1, h2⟩ := h.keepRow 1 (.bool n2)
  refine ⟨?_, h1, h2⟩
  rw [setCell_eq_setRow wr w.heap.size _ _ _ (0, 0) _ h.1, setRow_heap wr w.heap.size _ _ _ _ h.1]
  rfl
theorem MemR.setSet {w wr : World} {v : Value} {xs : List Sgn} {nt : Bool} {x : ByteArray} (h : MemR w wr v xs nt x) (y : ByteArray) : MemR w (wr.setCell ⟨w.heap.size, 2, none⟩ (.string y)) v xs nt y := by
  obtain ⟨h1, h2⟩ := h.keepRow 2 (.string y)
  refine ⟨?_, h1, h2⟩
  rw [setCell_eq_setRow wr w.heap.size _ _ _ (0, 0) _ h.1, setRow_heap wr w.heap.size _ _ _ _ h.1]
  rfl

theorem extract_one (s : ByteArray) (i : Nat) (h : i < s.size) : s.extract i (i + 1) = ⟨[s[i]].toArray⟩ := by
  apply ext_list
  rw [extract_list, drop_cons s i h]
  simp
theorem extract_run (s : ByteArray) (i j : Nat) : s.extract i j = ⟨((s.data.toList.drop i).take (j - i)).toArray⟩ := by
  apply ext_list
  rw [extract_list]
end Go.Proofs.YtdiopkegaeliaaaDoor
