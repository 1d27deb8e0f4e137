/-
  What the functions that copy and draw versions answer: contracts for the walks; conditions: what comes in lies in memory as told.
-/
import Derived.Test.YtbolphjigjpmiabVerW
import Derived.Laws.AppendOwnNone
namespace Go.Proofs.Ytbolphjigjpmiab
open Go.RowKit
set_option linter.unusedSimpArgs false
set_option linter.unusedVariables false
attribute [local go_sem ↓] Go.wp_at_zero Go.wp_at_succ

theorem four_put4 {w : World} {R N : Nat} {t : TypeId} {c0 c1 c2 c3 : Value} (h : Four w R t c0 c1 c2 c3) (hn : R ≠ N) (v0 v1 v2 v3 : Value) : Four ((((w.setCell ⟨N, 0, none⟩ v0).setCell ⟨N, 1, none⟩ v1).setCell ⟨N, 2, none⟩ v2).setCell ⟨N, 3, none⟩ v3) R t c0 c1 c2 c3 :=
  four_far (four_far (four_far (four_far h hn v0) hn v1) hn v2) hn v3
theorem owns_put4 {w : World} {base N : Nat} {e t : TypeId} {u : Value} {n : Nat} {xs : List Value} {c0 c1 c2 c3 : Value} (hO : w.ownsRow base e 1 u n xs) (hF : Four w N t c0 c1 c2 c3) (hne : t ≠ e) (v0 v1 v2 v3 : Value) :
    ((((w.setCell ⟨N, 0, none⟩ v0).setCell ⟨N, 1, none⟩ v1).setCell ⟨N, 2, none⟩ v2).setCell ⟨N, 3, none⟩ v3).ownsRow base e 1 u n xs :=
  owns_put (owns_put (owns_put (owns_put hO hF hne v0) (four_put hF v0).1 hne v1) (four_put (four_put hF v0).1 v1).2.1 hne v2) (four_put (four_put (four_put hF v0).1 v1).2.1 v2).2.2.1 hne v3
theorem below_put4 {B : Nat} {w0 w : World} {N : Nat} (h : Below B w0 w) (hN : B ≤ N) (v0 v1 v2 v3 : Value) : Below B w0 ((((w.setCell ⟨N, 0, none⟩ v0).setCell ⟨N, 1, none⟩ v1).setCell ⟨N, 2, none⟩ v2).setCell ⟨N, 3, none⟩ v3) :=
  (((h.setCell (by simpa using hN) _).setCell (by simpa using hN) _).setCell (by simpa using hN) _).setCell (by simpa using hN) _

theorem four_three (w : World) (t : TypeId) (a0 a1 a2 a3 b0 b1 b2 b3 c0 c1 c2 c3 : Value) : Four (((w.alloc (.cells #[a0, a1, a2, a3] t)).alloc (.cells #[b0, b1, b2, b3] t)).alloc (.cells #[c0, c1, c2, c3] t)) w.heap.size t a0 a1 a2 a3 ∧ Four (((w.alloc (.cells #[a0, a1, a2, a3] t)).alloc (.cells #[b0, b1, b2, b3] t)).alloc (.cells #[c0, c1, c2, c3] t)) (w.heap.size + 1) t b0 b1 b2 b3 ∧ Four (((w.alloc (.cells #[a0, a1, a2, a3] t)).alloc (.cells #[b0, b1, b2, b3] t)).alloc (.cells #[c0, c1, c2, c3] t)) (w.heap.size + 1 + 1) t c0 c1 c2 c3 := by
  obtain ⟨h1, h2⟩ := four_two w t t a0 a1 a2 a3 b0 b1 b2 b3
  refine ⟨four_old h1 _, four_old h2 _, ?_⟩
  have h := four_new ((w.alloc (.cells #[a0, a1, a2, a3] t)).alloc (.cells #[b0, b1, b2, b3] t)) t c0 c1 c2 c3
  have s2 : ∀ o o', ((w.alloc o).alloc o').heap.size = w.heap.size + 1 + 1 := fun o o' => by simp
  rw [s2] at h
  exact h

end Go.Proofs.Ytbolphjigjpmiab
