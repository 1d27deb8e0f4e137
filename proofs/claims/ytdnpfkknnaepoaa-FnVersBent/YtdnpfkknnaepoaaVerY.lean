/-
  What the functions that draw two versions answer: contracts for the walks; conditions: what comes in lies in memory as told.
-/
import Derived.Test.YtdnpfkknnaepoaaVerX
import Derived.Test.YtdnpfkknnaepoaaVerE
namespace Go.Proofs.Ytdnpfkknnaepoaa
open Go.RowKit
set_option linter.unusedSimpArgs false
set_option linter.unusedVariables false
attribute [local go_sem ↓] Go.wp_at_zero Go.wp_at_succ

/-- Two versions that are answered. -/
def TwoOut (w : World) (e : Ending) (w' : World) : Prop :=
  ∃ (a b c : Int) (u : Value) (ps : List ByteArray) (a' b' c' : Int) (u' : Value) (ps' : List ByteArray), e = .returned (.tuple #[.agg #[.int .i64 a, .int .i64 b, .int .i64 c, u], .agg #[.int .i64 a', .int .i64 b', .int .i64 c', u']]) ∧ Reads w' u (strsV ps) ∧ Reads w' u' (strsV ps') ∧ smallP 4 ps ∧ smallP 4 ps' ∧ Below w.heap.size w w'

theorem four_self {w : World} {R : Nat} {t : TypeId} {c0 c1 c2 c3 : Value} (h : Four w R t c0 c1 c2 c3) (v0 v1 v2 v3 : Value) : Four ((((w.setCell ⟨R, 0, none⟩ v0).setCell ⟨R, 1, none⟩ v1).setCell ⟨R, 2, none⟩ v2).setCell ⟨R, 3, none⟩ v3) R t v0 v1 v2 v3 :=
  (four_put (four_put (four_put (four_put h v0).1 v1).2.1 v2).2.2.1 v3).2.2.2
theorem Reads.drewn {w : World} {v : Value} {xs : List Value} (h : Reads w v xs) : Reads w.drew v xs := h
theorem fieldPre1 (a b c : Int) (q : Option Addr) (n k : Nat) (w : World) : (Instr.field 26 (.agg #[.int .i64 a, .int .i64 b, .int .i64 c, .slice q n k]) 3).run Try.prog w = .ok (.slice q n k) w := by
  simp [Instr.field, asAgg, go_sem]
theorem two_out {w w' : World} {a b c : Int} {u : Value} {ps : List ByteArray} {a' b' c' : Int} {u' : Value} {ps' : List ByteArray} (h1 : Reads w' u (strsV ps)) (h2 : Reads w' u' (strsV ps')) (h3 : smallP 4 ps) (h4 : smallP 4 ps') (h5 : Below w.heap.size w w') : TwoOut w (.returned (.tuple #[.agg #[.int .i64 a, .int .i64 b, .int .i64 c, u], .agg #[.int .i64 a', .int .i64 b', .int .i64 c', u']])) w' :=
  ⟨a, b, c, u, ps, a', b', c', u', ps', rfl, h1, h2, h3, h4, h5⟩

set_option maxHeartbeats 4000000 in
set_option maxRecDepth 100000 in
theorem drawLess_c (v : Value) (zs : List Int) (w : World) (hr : Reads w v (bytesV zs)) (hn : zs.length ≤ 1048576) (hz : ∀ z ∈ zs, 0 ≤ z ∧ z ≤ 255) :
    Calls Try.prog 8 #[v] w (TwoOut w) := by
  have kW := two_box (w := w) (.cells #[.int .i64 0, .int .i64 0, .int .i64 0, .slice none 0 0] 26) (.cells #[.int .i64 0, .int .i64 0, .int .i64 0, .slice none 0 0] 26)
  obtain ⟨A0, B0⟩ := four_two w 26 26 (.int .i64 0) (.int .i64 0) (.int .i64 0) (.slice none 0 0) (.int .i64 0) (.int .i64 0) (.int .i64 0) (.slice none 0 0)
  have hs0 : ((w.alloc (.cells #[.int .i64 0, .int .i64 0, .int .i64 0, .slice none 0 0] 26)).alloc (.cells #[.int .i64 0, .int .i64 0, .int .i64 0, .slice none 0 0] 26)).heap.size = w.heap.size + 1 + 1 := by simp
  have HN := new_c v zs _ (hr.below kW) hn hz
  obtain ⟨qv, cv, hv, _, _⟩ := reads_bytes hr
  subst hv
  clear hr
  go_enter Try.func8, Try.ntmps8
  go_wp2_with fail
  go_at_call 35
  refine HN.mono ?_
  rintro e w1 ⟨g, rfl, c1, b1⟩
  have A1 := A0.keep b1
  have B1 := B0.keep b1
  have k1 := kW.trans (b1.mono kW.size)
  rw [hs0] at c1
  have hg : w.heap.size + 1 + 1 ≤ g := c1.1
  have l1 := cur_lt c1
  have hgN : (some g) ≠ some w.heap.size := by simp; omega
  have hgM : (some g) ≠ some (w.heap.size + 1) := by simp; omega
  have hrg : ∀ k, (some g) = some k → w.heap.size ≤ k := fun k hk => by injection hk; omega
  clear A0 B0 HN b1 hs0 kW
  go_wp2_with fail
  go_at_call 36
  refine (draw_c (w.heap.size + 1 + 1) g zs w1 c1 (by omega)).mono ?_
  rintro e w2 ⟨a, b, c, u, ps, rfl, o2, s2, c2, g2⟩
  have A2 := A1.turned g2 hgN
  have B2 := B1.turned g2 hgM
  have k2 := below_turned k1 g2 k1.size hrg
  obtain ⟨qa, na, ca, hu⟩ : ∃ q n cap, u = .slice q n cap := by rcases o2.2 with ⟨rfl, _⟩ | ⟨g, cap, cur, rfl, _⟩ <;> exact ⟨_, _, _, rfl⟩
  subst hu
  have l2 := cur_lt c2
  have hra : Value.ownBlock (.slice qa na ca) ≠ some g := fun h => by have := (o2.lt g h).1; omega
  have o2' := own_lower o2 (base' := w.heap.size) (by omega)
  have o3 := o2'.alloc (.cells #[.int .i64 a, .int .i64 b, .int .i64 c, .slice qa na ca] 26)
  have A3 := four_old A2 (.cells #[.int .i64 a, .int .i64 b, .int .i64 c, .slice qa na ca] 26)
  have B3 := four_old B2 (.cells #[.int .i64 a, .int .i64 b, .int .i64 c, .slice qa na ca] 26)
  have C3 := four_new w2 26 (.int .i64 a) (.int .i64 b) (.int .i64 c) (.slice qa na ca)
  have c3 := cur_alloc c2 (.cells #[.int .i64 a, .int .i64 b, .int .i64 c, .slice qa na ca] 26)
  have k3 := k2.alloc k2.size (.cells #[.int .i64 a, .int .i64 b, .int .i64 c, .slice qa na ca] 26)
  have hgA : (some g) ≠ some w2.heap.size := by simp; omega
  have lB2 := B2.lt
  clear A1 B1 c1 g2 k1 o2 A2 B2 k2 c2 o2' l1
  go_wp2_with fail
  go_at_call 36
  refine (draw_c (w.heap.size + 1 + 1) g zs _ c3 (by simp; omega)).mono ?_
  rintro e w4 ⟨a', b', c', u', ps', rfl, o4, s4, c4, g4⟩
  obtain ⟨Ba, hBa⟩ : ∃ Ba, Ba = w2.heap.size := ⟨_, rfl⟩
  have lBa : w.heap.size + 1 < Ba := by omega
  rw [← hBa] at C3 hgA ⊢
  have A4 := A3.turned g4 hgN
  have B4 := B3.turned g4 hgM
  have C4 := C3.turned g4 hgA
  have oa4 := o3.kept g4 (.inr hra)
  have k4 := below_turned k3 g4 k3.size hrg
  obtain ⟨qb, nb, cb, hu⟩ : ∃ q n cap, u' = .slice q n cap := by rcases o4.2 with ⟨rfl, _⟩ | ⟨g, cap, cur, rfl, _⟩ <;> exact ⟨_, _, _, rfl⟩
  subst hu
  have hrb : Value.ownBlock (.slice qb nb cb) ≠ some g := fun h => by have := (o4.lt g h).1; simp at this; omega
  have ob4 := own_lower o4 (base' := w.heap.size) (by simp; omega)
  have l4 := cur_lt c4
  have lC4 := C4.lt
  have hgB : (some g) ≠ some w4.heap.size := by simp; omega
  have A5 := four_old A4 (.cells #[.int .i64 a', .int .i64 b', .int .i64 c', .slice qb nb cb] 26)
  have B5 := four_old B4 (.cells #[.int .i64 a', .int .i64 b', .int .i64 c', .slice qb nb cb] 26)
  have C5 := four_old C4 (.cells #[.int .i64 a', .int .i64 b', .int .i64 c', .slice qb nb cb] 26)
  have D5 := four_new w4 26 (.int .i64 a') (.int .i64 b') (.int .i64 c') (.slice qb nb cb)
  have oa5 := oa4.alloc (.cells #[.int .i64 a', .int .i64 b', .int .i64 c', .slice qb nb cb] 26)
  have ob5 := ob4.alloc (.cells #[.int .i64 a', .int .i64 b', .int .i64 c', .slice qb nb cb] 26)
  have c5 := cur_alloc c4 (.cells #[.int .i64 a', .int .i64 b', .int .i64 c', .slice qb nb cb] 26)
  have k5 := k4.alloc k4.size (.cells #[.int .i64 a', .int .i64 b', .int .i64 c', .slice qb nb cb] 26)
  clear A3 B3 C3 o3 c3 k3 g4 o4 A4 B4 C4 oa4 ob4 c4 k4 hBa l2
  go_wp2_with fail
  go_at_call 37
  refine (once_c (w.heap.size + 1 + 1) g zs 3 _ c5).mono ?_
  rintro e w6 ⟨o, rfl, c6, g6⟩
  obtain ⟨Bb, hBb⟩ : ∃ Bb, Bb = w4.heap.size := ⟨_, rfl⟩
  have lBb : Ba < Bb := by omega
  rw [← hBb] at D5 hgB ⊢
  have A6 := A5.turned g6 hgN
  have B6 := B5.turned g6 hgM
  have C6 := C5.turned g6 hgA
  have D6 := D5.turned g6 hgB
  have oa6 := oa5.kept g6 (.inr hra)
  have ob6 := ob5.kept g6 (.inr hrb)
  have k6 := below_turned k5 g6 k5.size hrg
  clear A5 B5 C5 D5 oa5 ob5 c5 k5 g6 hBb lC4 l4
  cases o with
  | false =>
    have nBa : Ba ≠ w.heap.size := by omega
    have nBa1 : Ba ≠ w.heap.size + 1 := by omega
    have nBb : Bb ≠ w.heap.size := by omega
    have nBb1 : Bb ≠ w.heap.size + 1 := by omega
    obtain ⟨i0, i1, i2, i3⟩ := A6.cells
    have fi := A6.ice
    obtain ⟨j0, j1, j2, j3⟩ := B6.cells
    have fj := B6.ice
    obtain ⟨m0, m1, m2, m3⟩ := C6.cells
    obtain ⟨n0, n1, n2, n3⟩ := D6.cells
    go_wp2_with fail
    go_region
    go_wp2_with fail
    have E1 := (four_put4 (four_self A6 (.int .i64 a) (.int .i64 b) (.int .i64 c) (.slice qa na ca)) (show w.heap.size ≠ w.heap.size + 1 by omega) (.int .i64 a') (.int .i64 b') (.int .i64 c') (.slice qb nb cb)).drew
    have E2 := (four_self (four_put4 B6 (show w.heap.size + 1 ≠ w.heap.size by omega) (.int .i64 a) (.int .i64 b) (.int .i64 c) (.slice qa na ca)) (.int .i64 a') (.int .i64 b') (.int .i64 c') (.slice qb nb cb)).drew
    have R1 := (reads_of_owns (owns_put4 (owns_put4 oa6 A6 (by decide) (.int .i64 a) (.int .i64 b) (.int .i64 c) (.slice qa na ca)) (four_put4 B6 (show w.heap.size + 1 ≠ w.heap.size by omega) (.int .i64 a) (.int .i64 b) (.int .i64 c) (.slice qa na ca)) (by decide) (.int .i64 a') (.int .i64 b') (.int .i64 c') (.slice qb nb cb))).drewn
    have R2 := (reads_of_owns (owns_put4 (owns_put4 ob6 A6 (by decide) (.int .i64 a) (.int .i64 b) (.int .i64 c) (.slice qa na ca)) (four_put4 B6 (show w.heap.size + 1 ≠ w.heap.size by omega) (.int .i64 a) (.int .i64 b) (.int .i64 c) (.slice qa na ca)) (by decide) (.int .i64 a') (.int .i64 b') (.int .i64 c') (.slice qb nb cb))).drewn
    have KE := (below_put4 (below_put4 k6 (Nat.le_refl _) (.int .i64 a) (.int .i64 b) (.int .i64 c) (.slice qa na ca)) (show w.heap.size ≤ w.heap.size + 1 by omega) (.int .i64 a') (.int .i64 b') (.int .i64 c') (.slice qb nb cb)).drew
    generalize ((((((((w6.setCell ⟨w.heap.size, 0, none⟩ (.int .i64 a)).setCell ⟨w.heap.size, 1, none⟩ (.int .i64 b)).setCell ⟨w.heap.size, 2, none⟩ (.int .i64 c)).setCell ⟨w.heap.size, 3, none⟩ (.slice qa na ca)).setCell ⟨w.heap.size + 1, 0, none⟩ (.int .i64 a')).setCell ⟨w.heap.size + 1, 1, none⟩ (.int .i64 b')).setCell ⟨w.heap.size + 1, 2, none⟩ (.int .i64 c')).setCell ⟨w.heap.size + 1, 3, none⟩ (.slice qb nb cb)).drew = WE at E1 E2 R1 R2 KE ⊢
    obtain ⟨z0, z1, z2, z3⟩ := E1.cells
    obtain ⟨t0, t1, t2, t3⟩ := E2.cells
    exact bodyPost_ret (v := .tuple #[.agg #[.int .i64 a, .int .i64 b, .int .i64 c, .slice qa na ca], .agg #[.int .i64 a', .int .i64 b', .int .i64 c', .slice qb nb cb]]) (by simp [results, Try.results8, go_sem, z0, z1, z2, z3, t0, t1, t2, t3]) rfl (two_out R1 R2 (small_more s2) (small_more s4) KE)
  | true =>
    obtain ⟨m0, m1, m2, m3⟩ := C6.cells
    obtain ⟨n0, n1, n2, n3⟩ := D6.cells
    have fn := D6.ice
    have lC := C6.lt
    go_wp2_with fail
    go_at_call 38
    refine (copy_c a b c _ ps w.heap.size w6 oa6 (by have := s2.1; omega)).mono ?_
    rintro e w7 ⟨u7, rfl, o7, b7⟩
    obtain ⟨q7, n7, c7, hu⟩ : ∃ q n cap, u7 = .slice q n cap := by rcases o7.2 with ⟨rfl, _⟩ | ⟨g, cap, cur, rfl, _⟩ <;> exact ⟨_, _, _, rfl⟩
    subst hu
    have A7 := A6.keep b7
    have B7 := B6.keep b7
    have C7 := C6.keep b7
    have D7 := D6.keep b7
    have oa7 := owns_of_below oa6 b7
    have cu7 := cur_grown c6 (grown_of_below b7 none) (by simp) (by simp)
    have k7 := k6.trans (b7.mono k6.size)
    have D8 := (four_put (four_put (four_put (four_put D7 (.int .i64 a)).1 (.int .i64 b)).2.1 (.int .i64 c)).2.2.1 (.slice q7 n7 c7)).2.2.2
    have A8 := four_put4 A7 (show w.heap.size ≠ Bb by omega) (.int .i64 a) (.int .i64 b) (.int .i64 c) (.slice q7 n7 c7)
    have B8 := four_put4 B7 (show w.heap.size + 1 ≠ Bb by omega) (.int .i64 a) (.int .i64 b) (.int .i64 c) (.slice q7 n7 c7)
    have C8 := four_put4 C7 (show Ba ≠ Bb by omega) (.int .i64 a) (.int .i64 b) (.int .i64 c) (.slice q7 n7 c7)
    have oa8 := owns_put4 oa7 D7 (by decide) (.int .i64 a) (.int .i64 b) (.int .i64 c) (.slice q7 n7 c7)
    have k8 := below_put4 k7 (show w.heap.size ≤ Bb by omega) (.int .i64 a) (.int .i64 b) (.int .i64 c) (.slice q7 n7 c7)
    have gB : g ≠ Bb := fun e => hgB (by rw [e])
    have cu8 := cur_put (j := 3) (cur_put (j := 2) (cur_put (j := 1) (cur_put (j := 0) cu7 (show w.heap.size + 1 + 1 ≤ Bb by omega) gB (.int .i64 a)) (by omega) gB (.int .i64 b)) (by omega) gB (.int .i64 c)) (by omega) gB (.slice q7 n7 c7)
    obtain ⟨m0', m1', m2', m3'⟩ := D7.cells
    have fm := D7.ice
    have lD := D7.lt
    clear m0 m1 m2 m3 n0 n1 n2 n3 fn A6 B6 C6 D6 oa6 ob6 c6 k6 A7 B7 C7 oa7 cu7 k7 o7 b7 lC
    go_wp2_with fail
    clear m0' m1' m2' m3' fm D7
    go_at_call 36
    refine (draw_c (w.heap.size + 1 + 1) g zs _ cu8 (by have := B8.lt; omega)).mono ?_
    rintro e w9 ⟨a9, b9, c9, u9, ps9, rfl, o9, s9, cu9, g9⟩
    obtain ⟨q9, n9, k9', hu⟩ : ∃ q n cap, u9 = .slice q n cap := by rcases o9.2 with ⟨rfl, _⟩ | ⟨g, cap, cur, rfl, _⟩ <;> exact ⟨_, _, _, rfl⟩
    subst hu
    have A9 := A8.turned g9 hgN
    have B9 := B8.turned g9 hgM
    have C9 := C8.turned g9 hgA
    have D9 := D8.turned g9 hgB
    have oa9 := oa8.kept g9 (.inr hra)
    have k9 := below_turned k8 g9 k8.size hrg
    have ob9 := own_lower o9 (base' := w.heap.size) k8.size
    have AX := four_far (N := Bb) (j := 3) A9 (by omega) (.slice q9 n9 k9')
    have BX := four_far (N := Bb) (j := 3) B9 (by omega) (.slice q9 n9 k9')
    have CX := four_far (N := Bb) (j := 3) C9 (by omega) (.slice q9 n9 k9')
    have DX := (four_put D9 (.slice q9 n9 k9')).2.2.2
    have oaX := owns_put (j := 3) oa9 D9 (by decide) (.slice q9 n9 k9')
    have obX := owns_put (j := 3) ob9 D9 (by decide) (.slice q9 n9 k9')
    have kX := k9.setCell (p := ⟨Bb, 3, none⟩) (by simp; omega) (.slice q9 n9 k9')
    obtain ⟨n0, n1, n2, n3⟩ := D9.cells
    have fn := D9.ice
    have nBa : Ba ≠ w.heap.size := by omega
    have nBa1 : Ba ≠ w.heap.size + 1 := by omega
    have nBb : Bb ≠ w.heap.size := by omega
    have nBb1 : Bb ≠ w.heap.size + 1 := by omega
    obtain ⟨i0, i1, i2, i3⟩ := AX.cells
    have fi := AX.ice
    obtain ⟨j0, j1, j2, j3⟩ := BX.cells
    have fj := BX.ice
    obtain ⟨m0, m1, m2, m3⟩ := CX.cells
    obtain ⟨y0, y1, y2, y3⟩ := DX.cells
    clear A8 B8 C8 D8 oa8 cu8 k8 o9 g9 cu9 A9 B9 C9 oa9 ob9 k9
    have hfl := fieldPre1 a9 b9 c9 q9 n9 k9' w9
    go_wp2_with fail
    go_region
    go_wp2_with fail
    have E1 := (four_put4 (four_self AX (.int .i64 a) (.int .i64 b) (.int .i64 c) (.slice qa na ca)) (show w.heap.size ≠ w.heap.size + 1 by omega) (.int .i64 a) (.int .i64 b) (.int .i64 c) (.slice q9 n9 k9')).drew
    have E2 := (four_self (four_put4 BX (show w.heap.size + 1 ≠ w.heap.size by omega) (.int .i64 a) (.int .i64 b) (.int .i64 c) (.slice qa na ca)) (.int .i64 a) (.int .i64 b) (.int .i64 c) (.slice q9 n9 k9')).drew
    have R1 := (reads_of_owns (owns_put4 (owns_put4 oaX AX (by decide) (.int .i64 a) (.int .i64 b) (.int .i64 c) (.slice qa na ca)) (four_put4 BX (show w.heap.size + 1 ≠ w.heap.size by omega) (.int .i64 a) (.int .i64 b) (.int .i64 c) (.slice qa na ca)) (by decide) (.int .i64 a) (.int .i64 b) (.int .i64 c) (.slice q9 n9 k9'))).drewn
    have R2 := (reads_of_owns (owns_put4 (owns_put4 obX AX (by decide) (.int .i64 a) (.int .i64 b) (.int .i64 c) (.slice qa na ca)) (four_put4 BX (show w.heap.size + 1 ≠ w.heap.size by omega) (.int .i64 a) (.int .i64 b) (.int .i64 c) (.slice qa na ca)) (by decide) (.int .i64 a) (.int .i64 b) (.int .i64 c) (.slice q9 n9 k9'))).drewn
    have KE := (below_put4 (below_put4 kX (Nat.le_refl _) (.int .i64 a) (.int .i64 b) (.int .i64 c) (.slice qa na ca)) (show w.heap.size ≤ w.heap.size + 1 by omega) (.int .i64 a) (.int .i64 b) (.int .i64 c) (.slice q9 n9 k9')).drew
    generalize (((((((((w9.setCell ⟨Bb, 3, none⟩ (.slice q9 n9 k9')).setCell ⟨w.heap.size, 0, none⟩ (.int .i64 a)).setCell ⟨w.heap.size, 1, none⟩ (.int .i64 b)).setCell ⟨w.heap.size, 2, none⟩ (.int .i64 c)).setCell ⟨w.heap.size, 3, none⟩ (.slice qa na ca)).setCell ⟨w.heap.size + 1, 0, none⟩ (.int .i64 a)).setCell ⟨w.heap.size + 1, 1, none⟩ (.int .i64 b)).setCell ⟨w.heap.size + 1, 2, none⟩ (.int .i64 c)).setCell ⟨w.heap.size + 1, 3, none⟩ (.slice q9 n9 k9')).drew = WE at E1 E2 R1 R2 KE ⊢
    obtain ⟨z0, z1, z2, z3⟩ := E1.cells
    obtain ⟨t0, t1, t2, t3⟩ := E2.cells
    exact bodyPost_ret (v := .tuple #[.agg #[.int .i64 a, .int .i64 b, .int .i64 c, .slice qa na ca], .agg #[.int .i64 a, .int .i64 b, .int .i64 c, .slice q9 n9 k9']]) (by simp [results, Try.results8, go_sem, z0, z1, z2, z3, t0, t1, t2, t3]) rfl (two_out R1 R2 (small_more s2) (small_more s9) KE)
end Go.Proofs.Ytdnpfkknnaepoaa
