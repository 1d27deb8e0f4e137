/-
  Facts on blocks of memory that are kept, for the laws over two versions; no condition.
-/
import Derived.Test.YtbolphjigjpmiabVerD
import Derived.Deep.RegionHeld
namespace Go.Proofs.Ytbolphjigjpmiab
open Go.RowKit
set_option linter.unusedSimpArgs false
set_option linter.unusedVariables false

/-- The block N holds these four cells. -/
def Four (w : World) (N : Nat) (t : TypeId) (c0 c1 c2 c3 : Value) : Prop := w.heap[N]? = some (.cells #[c0, c1, c2, c3] t (0, 0))
theorem Four.lt {w : World} {N : Nat} {t : TypeId} {c0 c1 c2 c3 : Value} (h : Four w N t c0 c1 c2 c3) : N < w.heap.size := (Array.getElem?_eq_some_iff.1 h).1
theorem Four.keep {w w' : World} {N : Nat} {t : TypeId} {c0 c1 c2 c3 : Value} (h : Four w N t c0 c1 c2 c3) (b : Below w.heap.size w w') : Four w' N t c0 c1 c2 c3 := (b.block N h.lt).trans h
theorem Four.cells {w : World} {N : Nat} {t : TypeId} {c0 c1 c2 c3 : Value} (h : Four w N t c0 c1 c2 c3) : w.cell? ⟨N, 0, none⟩ = some c0 ∧ w.cell? ⟨N, 1, none⟩ = some c1 ∧ w.cell? ⟨N, 2, none⟩ = some c2 ∧ w.cell? ⟨N, 3, none⟩ = some c3 :=
  ⟨vblk_cell h 0, vblk_cell h 1, vblk_cell h 2, vblk_cell h 3⟩
theorem Four.drew {w : World} {N : Nat} {t : TypeId} {c0 c1 c2 c3 : Value} (h : Four w N t c0 c1 c2 c3) : Four w.drew N t c0 c1 c2 c3 := h
theorem four_new (w : World) (t : TypeId) (c0 c1 c2 c3 : Value) : Four (w.alloc (.cells #[c0, c1, c2, c3] t)) w.heap.size t c0 c1 c2 c3 := vheap_new _ _
theorem four_old {w : World} {N : Nat} {t : TypeId} {c0 c1 c2 c3 : Value} (h : Four w N t c0 c1 c2 c3) (o : Obj) : Four (w.alloc o) N t c0 c1 c2 c3 := (vheap_old w o h.lt).trans h
theorem four_two (w : World) (t t' : TypeId) (c0 c1 c2 c3 d0 d1 d2 d3 : Value) : Four ((w.alloc (.cells #[c0, c1, c2, c3] t)).alloc (.cells #[d0, d1, d2, d3] t')) w.heap.size t c0 c1 c2 c3 ∧ Four ((w.alloc (.cells #[c0, c1, c2, c3] t)).alloc (.cells #[d0, d1, d2, d3] t')) (w.heap.size + 1) t' d0 d1 d2 d3 := by
  refine ⟨four_old (four_new _ _ _ _ _ _) _, ?_⟩
  have h := four_new (w.alloc (.cells #[c0, c1, c2, c3] t)) t' d0 d1 d2 d3
  have s1 : ∀ o, (w.alloc o).heap.size = w.heap.size + 1 := fun o => by simp
  rw [s1] at h
  exact h
end Go.Proofs.Ytbolphjigjpmiab
