/-
  What the helpers over lists of bytes answer (a copy, whether two are alike, marking, whether the marks are held): contracts for the walks, over any world; conditions: the lists lie in memory as told, and are no longer than 2 to the 48.
-/
import Derived.Test.YtbolphjigjpmiaaDoorScan
import Derived.Deep.LoopGhost
import Derived.Deep.QuietTactic
import Derived.BigQuiet
import Derived.WalkSmall
namespace Go.Proofs.YtbolphjigjpmiaaDoor
open Go.RowKit
set_option linter.unusedSimpArgs false
set_option linter.unusedVariables false

/-- The slice value v reads as the list xs in the world w. -/
def Reads (w : World) (v : Value) (xs : List Value) : Prop :=
  ∃ a cap, v = .slice a xs.length cap ∧ xs.length ≤ cap ∧ (xs = [] ∨ ∃ b off, a = some ⟨b, off, none⟩ ∧ b < w.heap.size ∧ ∀ i (h : i < xs.length), w.cell? ⟨b, off + i, none⟩ = some xs[i])

theorem Reads.below {w w' : World} {v : Value} {xs : List Value} (h : Reads w v xs) (hb : Below w.heap.size w w') : Reads w' v xs := by
  obtain ⟨a, cap, hv, hcp, h | ⟨b, off, ha, hlt, hc⟩⟩ := h
  · exact ⟨a, cap, hv, hcp, .inl h⟩
  · exact ⟨a, cap, hv, hcp, .inr ⟨b, off, ha, Nat.lt_of_lt_of_le hlt hb.size, fun i hi => by rw [hb.cell (p := ⟨b, off + i, none⟩) hlt]; exact hc i hi⟩⟩

theorem below_of_grown {w w' : World} (h : w.grownBy w' none) : Below w.heap.size w w' := ⟨h.os, h.tape, h.output, h.size, fun k hk => h.block k hk (by simp)⟩
theorem grown_of_below {w w' : World} (h : Below w.heap.size w w') (row : Option Nat) : w.grownBy w' row := ⟨h.os, h.tape, h.output, h.size, fun k hk _ => h.block k hk⟩

theorem reads_of_owns {w : World} {base : Nat} {e : TypeId} {v : Value} {n : Nat} {xs : List Value} (h : w.ownsRow base e 1 v n xs) : Reads w v xs := by
  obtain ⟨hl, h⟩ := h
  rw [Nat.mul_one] at hl
  rcases h with ⟨rfl, hn⟩ | ⟨g, cap, cur, rfl, hb, hg, hn, hcap, hsz, htake⟩
  · have : xs = [] := List.eq_nil_of_length_eq_zero (by omega)
    subst this
    exact ⟨none, 0, rfl, Nat.le_refl _, .inl rfl⟩
  · refine ⟨some ⟨g, 0, none⟩, cap, by rw [hl], by omega, .inr ⟨g, 0, rfl, (Array.getElem?_eq_some_iff.1 hg).1, fun i hi => ?_⟩⟩
    rw [Nat.zero_add]
    have := World.ownsRow.cellAt (w := w) (base := base) (e := e) (size := 1) (g := g) (n := n) (cap := cap) (xs := xs) ⟨by omega, .inr ⟨g, cap, cur, rfl, hb, hg, hn, hcap, hsz, htake⟩⟩ i (by omega)
    rw [this]
    simp [hi]

theorem owns_of_below {w w' : World} {base : Nat} {e : TypeId} {v : Value} {n : Nat} {xs : List Value} (h : w.ownsRow base e 1 v n xs) (hb : Below w.heap.size w w') : w'.ownsRow base e 1 v n xs :=
  h.kept (grown_of_below hb none) (by cases hv : v.ownBlock <;> simp)

theorem owns_empty {w : World} {base : Nat} {e : TypeId} {v : Value} {xs : List Value} (h : w.ownsRow base e 1 v 0 xs) : w.ownsRow base e 1 v 0 [] := by
  have : xs = [] := List.eq_nil_of_length_eq_zero (by simpa using h.1)
  subst this
  exact h

theorem info5 : (Tryd.prog.info? 5).map (fun i => (i.zero, i.size, i.bytes)) = some (some (.int .u8 0), 1, 1) := by kernel_rfl

theorem set_step {ys xs : List Value} {n k : Nat} {u : Value} (hk : k < n) (h : ys.length = n ∧ ∀ j, j < k → ys[j]? = xs[j]?) (hu : xs[k]? = some u) :
    Hid ((ys.set k u).length = n ∧ ∀ j, j < k + 1 → (ys.set k u)[j]? = xs[j]?) := by
  refine ⟨by simp [h.1], fun j hj => ?_⟩
  rw [List.getElem?_set]
  by_cases e : k = j
  · subst e; simp [h.1, hk, hu]
  · rw [if_neg e]; exact h.2 j (by omega)

theorem list_done {ys xs : List Value} {n : Nat} (h1 : ys.length = n) (h2 : xs.length = n) (h : ∀ j, j < n → ys[j]? = xs[j]?) : ys = xs := by
  apply List.ext_getElem?
  intro j
  by_cases hj : j < n
  · exact h j hj
  · rw [List.getElem?_eq_none (by omega), List.getElem?_eq_none (by omega)]

def bytesV (zs : List Int) : List Value := zs.map (Value.int .u8)
@[simp] theorem length_bytesV (zs : List Int) : (bytesV zs).length = zs.length := by simp [bytesV]

/-- A byte list's cells, as the walk asks for them. -/
theorem reads_bytes {w : World} {v : Value} {zs : List Int} (h : Reads w v (bytesV zs)) :
    ∃ a cap, v = .slice a zs.length cap ∧ zs.length ≤ cap ∧ (zs = [] ∨ ∃ b off, a = some ⟨b, off, none⟩ ∧ b < w.heap.size ∧ ∀ k, k < zs.length → w.cell? ⟨b, off + k, none⟩ = some (.int .u8 (zs.getD k 0))) := by
  obtain ⟨a, cap, hv, hcp, hc⟩ := h
  rw [length_bytesV] at hv hcp
  refine ⟨a, cap, hv, hcp, ?_⟩
  rcases hc with hc | ⟨b, off, rfl, hlt, hc⟩
  · exact .inl (by simpa [bytesV] using hc)
  · refine .inr ⟨b, off, rfl, hlt, fun k hk => ?_⟩
    rw [hc k (by simpa using hk)]
    simp [bytesV, List.getD_eq_getElem?_getD, hk]

theorem below_drewN' {B : Nat} {a w : World} (h : Below B a w) (n : Nat) : Below B a (w.drewN n) := h.trans ⟨rfl, rfl, rfl, Nat.le_refl _, fun _ _ => rfl⟩

theorem eq_step {zs ys : List Int} {k : Nat} (h : ∀ j, j < k → zs.getD j 0 = ys.getD j 0) (hk : zs.getD k 0 = ys.getD k 0) : Hid (∀ j, j < k + 1 → zs.getD j 0 = ys.getD j 0) := fun j hj => by
  by_cases e : j = k
  · subst e; exact hk
  · exact h j (by omega)

theorem ints_done {zs ys : List Int} (hl : zs.length = ys.length) (h : ∀ j, j < zs.length → zs.getD j 0 = ys.getD j 0) : zs = ys := by
  apply List.ext_getElem hl
  intro j h1 h2
  have := h j h1
  simpa [List.getD_eq_getElem?_getD, h1, h2] using this

/-- The marks k, k + 1 .. as bytes. -/
def marksB (k : Int) (n : Nat) : List Int := (List.range n).map fun (j : Nat) => (k + (j : Int)) % 256
@[simp] theorem length_marksB (k : Int) (n : Nat) : (marksB k n).length = n := by simp [marksB]
theorem marksB_at (k : Int) (n j : Nat) (h : j < n) : (bytesV (marksB k n))[j]? = some (.int .u8 ((k + (j : Int)) % 256)) := by
  simp [bytesV, marksB, h]

theorem grown_trans {a b c : World} {r : Option Nat} (h : a.grownBy b r) (k : b.grownBy c r) : a.grownBy c r :=
  ⟨k.os.trans h.os, k.tape.trans h.tape, k.output.trans h.output, Nat.le_trans h.size k.size, fun i hi hne => (k.block i (Nat.lt_of_lt_of_le hi h.size) hne).trans (h.block i hi hne)⟩

end Go.Proofs.YtbolphjigjpmiaaDoor
