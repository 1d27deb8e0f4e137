/-
  What the function that draws two versions, alike or not, answers: a contract for the walks; conditions: what comes in lies in memory as told.
-/
import Derived.Test.YtdnpfkknnaepoaaVerY
namespace Go.Proofs.Ytdnpfkknnaepoaa
open Go.RowKit
set_option linter.unusedSimpArgs false
set_option linter.unusedVariables false
attribute [local go_sem ↓] Go.wp_at_zero Go.wp_at_succ

set_option maxHeartbeats 4000000 in
set_option maxRecDepth 100000 in
theorem drawSame_c (v : Value) (zs : List Int) (w : World) (hr : Reads w v (bytesV zs)) (hn : zs.length ≤ 1048576) (hz : ∀ z ∈ zs, 0 ≤ z ∧ z ≤ 255) :
    Calls Try.prog 9 #[v] w (TwoOut w) := by
  have kW := two_box (w := w) (.cells #[.int .i64 0, .int .i64 0, .int .i64 0, .slice none 0 0] 26) (.cells #[.int .i64 0, .int .i64 0, .int .i64 0, .slice none 0 0] 26)
  obtain ⟨A0, B0⟩ := four_two w 26 26 (.int .i64 0) (.int .i64 0) (.int .i64 0) (.slice none 0 0) (.int .i64 0) (.int .i64 0) (.int .i64 0) (.slice none 0 0)
  have hs0 : ((w.alloc (.cells #[.int .i64 0, .int .i64 0, .int .i64 0, .slice none 0 0] 26)).alloc (.cells #[.int .i64 0, .int .i64 0, .int .i64 0, .slice none 0 0] 26)).heap.size = w.heap.size + 1 + 1 := by simp
  have HN := new_c v zs _ (hr.below kW) hn hz
  obtain ⟨qv, cv, hv, _, _⟩ := reads_bytes hr
  subst hv
  clear hr
  go_enter Try.func9, Try.ntmps9
  go_wp2_with fail
  go_at_call 35
  refine HN.mono ?_
  rintro e w1 ⟨g, rfl, c1, b1⟩
  have A1 := A0.keep b1
  have B1 := B0.keep b1
  have k1 := kW.trans (b1.mono kW.size)
  rw [hs0] at c1
  have hg : w.heap.size + 1 + 1 ≤ g := c1.1
  have l1 := cur_lt c1
  have hgN : (some g) ≠ some w.heap.size := by simp; omega
  have hgM : (some g) ≠ some (w.heap.size + 1) := by simp; omega
  have hrg : ∀ k, (some g) = some k → w.heap.size ≤ k := fun k hk => by injection hk; omega
  clear A0 B0 HN b1 hs0 kW
  go_wp2_with fail
  go_at_call 39
  refine (any_c (w.heap.size + 1 + 1) g zs w1 c1 (by omega)).mono ?_
  rintro e w2 ⟨a, b, c, u, ps, rfl, o2, s2, c2, g2⟩
  have A2 := A1.turned g2 hgN
  have B2 := B1.turned g2 hgM
  have k2 := below_turned k1 g2 k1.size hrg
  obtain ⟨qa, na, ca, hu⟩ : ∃ q n cap, u = .slice q n cap := by rcases o2.2 with ⟨rfl, _⟩ | ⟨g, cap, cur, rfl, _⟩ <;> exact ⟨_, _, _, rfl⟩
  subst hu
  have l2 := cur_lt c2
  have hra : Value.ownBlock (.slice qa na ca) ≠ some g := fun h => by have := (o2.lt g h).1; omega
  have o2' := own_lower o2 (base' := w.heap.size) (by omega)
  have o3 := o2'.alloc (.cells #[.int .i64 a, .int .i64 b, .int .i64 c, .slice qa na ca] 26)
  have A3 := four_old A2 (.cells #[.int .i64 a, .int .i64 b, .int .i64 c, .slice qa na ca] 26)
  have B3 := four_old B2 (.cells #[.int .i64 a, .int .i64 b, .int .i64 c, .slice qa na ca] 26)
  have C3 := four_new w2 26 (.int .i64 a) (.int .i64 b) (.int .i64 c) (.slice qa na ca)
  have c3 := cur_alloc c2 (.cells #[.int .i64 a, .int .i64 b, .int .i64 c, .slice qa na ca] 26)
  have k3 := k2.alloc k2.size (.cells #[.int .i64 a, .int .i64 b, .int .i64 c, .slice qa na ca] 26)
  have hgA : (some g) ≠ some w2.heap.size := by simp; omega
  have lB2 := B2.lt
  clear A1 B1 c1 g2 k1 o2 A2 B2 k2 c2 o2' l1
  go_wp2_with fail
  go_at_call 37
  refine (once_c (w.heap.size + 1 + 1) g zs 2 _ c3).mono ?_
  rintro e w6 ⟨o, rfl, c6, g6⟩
  obtain ⟨Ba, hBa⟩ : ∃ Ba, Ba = w2.heap.size := ⟨_, rfl⟩
  have lBa : w.heap.size + 1 < Ba := by omega
  rw [← hBa] at C3 hgA ⊢
  have A6 := A3.turned g6 hgN
  have B6 := B3.turned g6 hgM
  have C6 := C3.turned g6 hgA
  have oa6 := o3.kept g6 (.inr hra)
  have k6 := below_turned k3 g6 k3.size hrg
  have l6 := cur_lt c6
  have lb6 := B6.lt
  clear A3 B3 C3 o3 c3 k3 g6 hBa l2
  obtain ⟨m0, m1, m2, m3⟩ := C6.cells
  have nBa : Ba ≠ w.heap.size := by omega
  have nBa1 : Ba ≠ w.heap.size + 1 := by omega
  cases o with
  | true =>
    have HC := copy_c a b c (.slice qa na ca) ps w.heap.size w6.drew oa6.drew (by have := s2.1; omega)
    go_wp2_with fail
    go_region_with (
      go_at_call 38
      refine HC.mono ?_
      rintro e w7 ⟨u7, rfl, o7, b7⟩
      obtain ⟨q7, n7, c7, hu⟩ : ∃ q n cap, u7 = .slice q n cap := by rcases o7.2 with ⟨rfl, _⟩ | ⟨g, cap, cur, rfl, _⟩ <;> exact ⟨_, _, _, rfl⟩
      subst hu
      have A7 := A6.drew.keep b7
      have B7 := B6.drew.keep b7
      have C7 := C6.drew.keep b7
      have oa7 := owns_of_below oa6.drew b7
      have ob7 := own_lower o7 (base' := w.heap.size) k6.size
      have k7 := k6.drew.trans (b7.mono k6.size)
      obtain ⟨i0, i1, i2, i3⟩ := A7.cells
      have fi := A7.ice
      obtain ⟨j0, j1, j2, j3⟩ := B7.cells
      have fj := B7.ice
      obtain ⟨y0, y1, y2, y3⟩ := C7.cells
      clear HC b7 o7)
    all_goals (
      go_wp2_with fail
      have E1 := four_put4 (four_self A7 (.int .i64 a) (.int .i64 b) (.int .i64 c) (.slice qa na ca)) (show w.heap.size ≠ w.heap.size + 1 by omega) (.int .i64 a) (.int .i64 b) (.int .i64 c) (.slice q7 n7 c7)
      have E2 := four_self (four_put4 B7 (show w.heap.size + 1 ≠ w.heap.size by omega) (.int .i64 a) (.int .i64 b) (.int .i64 c) (.slice qa na ca)) (.int .i64 a) (.int .i64 b) (.int .i64 c) (.slice q7 n7 c7)
      have R1 := reads_of_owns (owns_put4 (owns_put4 oa7 A7 (by decide) (.int .i64 a) (.int .i64 b) (.int .i64 c) (.slice qa na ca)) (four_put4 B7 (show w.heap.size + 1 ≠ w.heap.size by omega) (.int .i64 a) (.int .i64 b) (.int .i64 c) (.slice qa na ca)) (by decide) (.int .i64 a) (.int .i64 b) (.int .i64 c) (.slice q7 n7 c7))
      have R2 := reads_of_owns (owns_put4 (owns_put4 ob7 A7 (by decide) (.int .i64 a) (.int .i64 b) (.int .i64 c) (.slice qa na ca)) (four_put4 B7 (show w.heap.size + 1 ≠ w.heap.size by omega) (.int .i64 a) (.int .i64 b) (.int .i64 c) (.slice qa na ca)) (by decide) (.int .i64 a) (.int .i64 b) (.int .i64 c) (.slice q7 n7 c7))
      have KE := below_put4 (below_put4 k7 (Nat.le_refl _) (.int .i64 a) (.int .i64 b) (.int .i64 c) (.slice qa na ca)) (show w.heap.size ≤ w.heap.size + 1 by omega) (.int .i64 a) (.int .i64 b) (.int .i64 c) (.slice q7 n7 c7)
      generalize ((((((((w7.setCell ⟨w.heap.size, 0, none⟩ (.int .i64 a)).setCell ⟨w.heap.size, 1, none⟩ (.int .i64 b)).setCell ⟨w.heap.size, 2, none⟩ (.int .i64 c)).setCell ⟨w.heap.size, 3, none⟩ (.slice qa na ca)).setCell ⟨w.heap.size + 1, 0, none⟩ (.int .i64 a)).setCell ⟨w.heap.size + 1, 1, none⟩ (.int .i64 b)).setCell ⟨w.heap.size + 1, 2, none⟩ (.int .i64 c)).setCell ⟨w.heap.size + 1, 3, none⟩ (.slice q7 n7 c7)) = WE at E1 E2 R1 R2 KE ⊢
      obtain ⟨z0, z1, z2, z3⟩ := E1.cells
      obtain ⟨t0, t1, t2, t3⟩ := E2.cells
      exact bodyPost_ret (v := .tuple #[.agg #[.int .i64 a, .int .i64 b, .int .i64 c, .slice qa na ca], .agg #[.int .i64 a, .int .i64 b, .int .i64 c, .slice q7 n7 c7]]) (by simp [results, Try.results9, go_sem, z0, z1, z2, z3, t0, t1, t2, t3]) rfl (two_out R1 R2 s2 s2 KE))
  | false =>
    have HC := any_c (w.heap.size + 1 + 1) g zs w6.drew c6 (by show w.heap.size + 1 + 1 ≤ w6.heap.size; omega)
    go_wp2_with fail
    go_region_with (
      go_at_call 39
      refine HC.mono ?_
      rintro e w7 ⟨a', b', c', u7, ps7, rfl, o7, s7, c7', g7⟩
      obtain ⟨q7, n7, c7, hu⟩ : ∃ q n cap, u7 = .slice q n cap := by rcases o7.2 with ⟨rfl, _⟩ | ⟨g, cap, cur, rfl, _⟩ <;> exact ⟨_, _, _, rfl⟩
      subst hu
      have A7 := A6.drew.turned g7 hgN
      have B7 := B6.drew.turned g7 hgM
      have C7 := C6.drew.turned g7 hgA
      have oa7 := oa6.drew.kept g7 (.inr hra)
      have ob7 := own_lower o7 (base' := w.heap.size) k6.size
      have k7 := below_turned k6.drew g7 k6.size hrg
      obtain ⟨i0, i1, i2, i3⟩ := A7.cells
      have fi := A7.ice
      obtain ⟨j0, j1, j2, j3⟩ := B7.cells
      have fj := B7.ice
      obtain ⟨y0, y1, y2, y3⟩ := C7.cells
      clear HC g7 o7 c7')
    all_goals (
      go_wp2_with fail
      have E1 := four_put4 (four_self A7 (.int .i64 a) (.int .i64 b) (.int .i64 c) (.slice qa na ca)) (show w.heap.size ≠ w.heap.size + 1 by omega) (.int .i64 a') (.int .i64 b') (.int .i64 c') (.slice q7 n7 c7)
      have E2 := four_self (four_put4 B7 (show w.heap.size + 1 ≠ w.heap.size by omega) (.int .i64 a) (.int .i64 b) (.int .i64 c) (.slice qa na ca)) (.int .i64 a') (.int .i64 b') (.int .i64 c') (.slice q7 n7 c7)
      have R1 := reads_of_owns (owns_put4 (owns_put4 oa7 A7 (by decide) (.int .i64 a) (.int .i64 b) (.int .i64 c) (.slice qa na ca)) (four_put4 B7 (show w.heap.size + 1 ≠ w.heap.size by omega) (.int .i64 a) (.int .i64 b) (.int .i64 c) (.slice qa na ca)) (by decide) (.int .i64 a') (.int .i64 b') (.int .i64 c') (.slice q7 n7 c7))
      have R2 := reads_of_owns (owns_put4 (owns_put4 ob7 A7 (by decide) (.int .i64 a) (.int .i64 b) (.int .i64 c) (.slice qa na ca)) (four_put4 B7 (show w.heap.size + 1 ≠ w.heap.size by omega) (.int .i64 a) (.int .i64 b) (.int .i64 c) (.slice qa na ca)) (by decide) (.int .i64 a') (.int .i64 b') (.int .i64 c') (.slice q7 n7 c7))
      have KE := below_put4 (below_put4 k7 (Nat.le_refl _) (.int .i64 a) (.int .i64 b) (.int .i64 c) (.slice qa na ca)) (show w.heap.size ≤ w.heap.size + 1 by omega) (.int .i64 a') (.int .i64 b') (.int .i64 c') (.slice q7 n7 c7)
      generalize ((((((((w7.setCell ⟨w.heap.size, 0, none⟩ (.int .i64 a)).setCell ⟨w.heap.size, 1, none⟩ (.int .i64 b)).setCell ⟨w.heap.size, 2, none⟩ (.int .i64 c)).setCell ⟨w.heap.size, 3, none⟩ (.slice qa na ca)).setCell ⟨w.heap.size + 1, 0, none⟩ (.int .i64 a')).setCell ⟨w.heap.size + 1, 1, none⟩ (.int .i64 b')).setCell ⟨w.heap.size + 1, 2, none⟩ (.int .i64 c')).setCell ⟨w.heap.size + 1, 3, none⟩ (.slice q7 n7 c7)) = WE at E1 E2 R1 R2 KE ⊢
      obtain ⟨z0, z1, z2, z3⟩ := E1.cells
      obtain ⟨t0, t1, t2, t3⟩ := E2.cells
      exact bodyPost_ret (v := .tuple #[.agg #[.int .i64 a, .int .i64 b, .int .i64 c, .slice qa na ca], .agg #[.int .i64 a', .int .i64 b', .int .i64 c', .slice q7 n7 c7]]) (by simp [results, Try.results9, go_sem, z0, z1, z2, z3, t0, t1, t2, t3]) rfl (two_out R1 R2 s2 s7 KE))
end Go.Proofs.Ytdnpfkknnaepoaa
