/-
  What the functions that draw for FnVers answer: contracts for the walks; conditions: what comes in lies in memory as told.
-/
import Derived.Test.YtdnpfkknnaepoaaDoorVerX
namespace Go.Proofs.YtdnpfkknnaepoaaDoor
open Go.RowKit
set_option linter.unusedSimpArgs false
set_option linter.unusedVariables false
attribute [local go_sem ↓] Go.wp_at_zero Go.wp_at_succ

/-- Three versions that are answered. -/
def ThreeOut (w : World) (e : Ending) (w' : World) : Prop :=
  ∃ (a1 a2 a3 : Int) (u : Value) (pa : List ByteArray) (b1 b2 b3 : Int) (u' : Value) (pb : List ByteArray) (c1 c2 c3 : Int) (u'' : Value) (pc : List ByteArray), e = .returned (.tuple #[.agg #[.int .i64 a1, .int .i64 a2, .int .i64 a3, u], .agg #[.int .i64 b1, .int .i64 b2, .int .i64 b3, u'], .agg #[.int .i64 c1, .int .i64 c2, .int .i64 c3, u'']]) ∧ Reads w' u (strsV pa) ∧ Reads w' u' (strsV pb) ∧ Reads w' u'' (strsV pc) ∧ smallP 2 pa ∧ smallP 2 pb ∧ smallP 2 pc ∧ Below w.heap.size w w'

theorem four_self' {w : World} {R : Nat} {t : TypeId} {c0 c1 c2 c3 : Value} (h : Four w R t c0 c1 c2 c3) (v0 v1 v2 v3 : Value) : Four ((((w.setCell ⟨R, 0, none⟩ v0).setCell ⟨R, 1, none⟩ v1).setCell ⟨R, 2, none⟩ v2).setCell ⟨R, 3, none⟩ v3) R t v0 v1 v2 v3 :=
  (four_put (four_put (four_put (four_put h v0).1 v1).2.1 v2).2.2.1 v3).2.2.2

set_option maxHeartbeats 4000000 in
set_option maxRecDepth 100000 in
theorem drawVers_c (v : Value) (zs : List Int) (w : World) (hr : Reads w v (bytesV zs)) (hn : zs.length ≤ 1048576) (hz : ∀ z ∈ zs, 0 ≤ z ∧ z ≤ 255) :
    Calls Tryd.prog 12 #[v] w (ThreeOut w) := by
  have kW : Below w.heap.size w (((w.alloc (.cells #[.int .i64 0, .int .i64 0, .int .i64 0, .slice none 0 0] 26)).alloc (.cells #[.int .i64 0, .int .i64 0, .int .i64 0, .slice none 0 0] 26)).alloc (.cells #[.int .i64 0, .int .i64 0, .int .i64 0, .slice none 0 0] 26)) := (((Below.refl _ _).alloc (Nat.le_refl _) _).alloc (by simp) _).alloc (by simp; omega) _
  obtain ⟨A0, B0, C0⟩ := four_three w 26 (.int .i64 0) (.int .i64 0) (.int .i64 0) (.slice none 0 0) (.int .i64 0) (.int .i64 0) (.int .i64 0) (.slice none 0 0) (.int .i64 0) (.int .i64 0) (.int .i64 0) (.slice none 0 0)
  have hs0 : (((w.alloc (.cells #[.int .i64 0, .int .i64 0, .int .i64 0, .slice none 0 0] 26)).alloc (.cells #[.int .i64 0, .int .i64 0, .int .i64 0, .slice none 0 0] 26)).alloc (.cells #[.int .i64 0, .int .i64 0, .int .i64 0, .slice none 0 0] 26)).heap.size = w.heap.size + 1 + 1 + 1 := by simp
  have HN := new_c v zs _ (hr.below kW) hn hz
  obtain ⟨qv, cv, hv, _, _⟩ := reads_bytes hr
  subst hv
  clear hr
  go_enter Tryd.func12, Tryd.ntmps12
  go_wp2_with fail
  go_at_call 28
  refine HN.mono ?_
  rintro e w1 ⟨g, rfl, c1, b1⟩
  have A1 := A0.keep b1
  have B1 := B0.keep b1
  have C1 := C0.keep b1
  have k1 := kW.trans (b1.mono kW.size)
  rw [hs0] at c1
  have hg : w.heap.size + 1 + 1 + 1 ≤ g := c1.1
  have l1 := cur_lt c1
  have hgA : (some g) ≠ some w.heap.size := by simp; omega
  have hgB : (some g) ≠ some (w.heap.size + 1) := by simp; omega
  have hgC : (some g) ≠ some (w.heap.size + 1 + 1) := by simp; omega
  have hrg : ∀ k, (some g) = some k → w.heap.size ≤ k := fun k hk => by injection hk; omega
  clear A0 B0 C0 HN b1 hs0 kW
  go_wp2_with fail
  go_at_call 33
  refine (draw_c (w.heap.size + 1 + 1 + 1) g zs w1 c1 (by omega)).mono ?_
  rintro e w2 ⟨a1, a2, a3, u, pa, rfl, o2, sa, c2, g2⟩
  have A2 := A1.turned g2 hgA
  have B2 := B1.turned g2 hgB
  have C2 := C1.turned g2 hgC
  have k2 := below_turned k1 g2 k1.size hrg
  obtain ⟨qa, na, ca, hu⟩ : ∃ q n cap, u = .slice q n cap := by rcases o2.2 with ⟨rfl, _⟩ | ⟨g, cap, cur, rfl, _⟩ <;> exact ⟨_, _, _, rfl⟩
  subst hu
  have l2 := cur_lt c2
  have hra : Value.ownBlock (.slice qa na ca) ≠ some g := fun h => by have := (o2.lt g h).1; omega
  have o2' := own_lower o2 (base' := w.heap.size) (by omega)
  have o3 := o2'.alloc (.cells #[.int .i64 a1, .int .i64 a2, .int .i64 a3, .slice qa na ca] 26)
  have A3 := four_old A2 (.cells #[.int .i64 a1, .int .i64 a2, .int .i64 a3, .slice qa na ca] 26)
  have B3 := four_old B2 (.cells #[.int .i64 a1, .int .i64 a2, .int .i64 a3, .slice qa na ca] 26)
  have C3 := four_old C2 (.cells #[.int .i64 a1, .int .i64 a2, .int .i64 a3, .slice qa na ca] 26)
  have P3 := four_new w2 26 (.int .i64 a1) (.int .i64 a2) (.int .i64 a3) (.slice qa na ca)
  have c3' := cur_alloc c2 (.cells #[.int .i64 a1, .int .i64 a2, .int .i64 a3, .slice qa na ca] 26)
  have k3 := k2.alloc k2.size (.cells #[.int .i64 a1, .int .i64 a2, .int .i64 a3, .slice qa na ca] 26)
  have hgP : (some g) ≠ some w2.heap.size := by simp; omega
  have lC2 := C2.lt
  clear A1 B1 C1 c1 g2 k1 o2 A2 B2 C2 k2 c2 o2' l1
  go_wp2_with fail
  go_at_call 33
  refine (draw_c (w.heap.size + 1 + 1 + 1) g zs _ c3' (by simp; omega)).mono ?_
  rintro e w4 ⟨b1, b2, b3, u', pb, rfl, o4, sb, c4, g4⟩
  obtain ⟨Ba, hBa⟩ : ∃ Ba, Ba = w2.heap.size := ⟨_, rfl⟩
  have lBa : w.heap.size + 1 + 1 < Ba := by omega
  rw [← hBa] at P3 hgP ⊢
  have A4 := A3.turned g4 hgA
  have B4 := B3.turned g4 hgB
  have C4 := C3.turned g4 hgC
  have P4 := P3.turned g4 hgP
  have oa4 := o3.kept g4 (.inr hra)
  have k4 := below_turned k3 g4 k3.size hrg
  obtain ⟨qb, nb, cb, hu⟩ : ∃ q n cap, u' = .slice q n cap := by rcases o4.2 with ⟨rfl, _⟩ | ⟨g, cap, cur, rfl, _⟩ <;> exact ⟨_, _, _, rfl⟩
  subst hu
  have hrb : Value.ownBlock (.slice qb nb cb) ≠ some g := fun h => by have := (o4.lt g h).1; simp at this; omega
  have ob4 := own_lower o4 (base' := w.heap.size) (by simp; omega)
  have l4 := cur_lt c4
  have lP4 := P4.lt
  have hgQ : (some g) ≠ some w4.heap.size := by simp; omega
  have A5 := four_old A4 (.cells #[.int .i64 b1, .int .i64 b2, .int .i64 b3, .slice qb nb cb] 26)
  have B5 := four_old B4 (.cells #[.int .i64 b1, .int .i64 b2, .int .i64 b3, .slice qb nb cb] 26)
  have C5 := four_old C4 (.cells #[.int .i64 b1, .int .i64 b2, .int .i64 b3, .slice qb nb cb] 26)
  have P5 := four_old P4 (.cells #[.int .i64 b1, .int .i64 b2, .int .i64 b3, .slice qb nb cb] 26)
  have Q5 := four_new w4 26 (.int .i64 b1) (.int .i64 b2) (.int .i64 b3) (.slice qb nb cb)
  have oa5 := oa4.alloc (.cells #[.int .i64 b1, .int .i64 b2, .int .i64 b3, .slice qb nb cb] 26)
  have ob5 := ob4.alloc (.cells #[.int .i64 b1, .int .i64 b2, .int .i64 b3, .slice qb nb cb] 26)
  have c5 := cur_alloc c4 (.cells #[.int .i64 b1, .int .i64 b2, .int .i64 b3, .slice qb nb cb] 26)
  have k5 := k4.alloc k4.size (.cells #[.int .i64 b1, .int .i64 b2, .int .i64 b3, .slice qb nb cb] 26)
  have hDR := draw_c (w.heap.size + 1 + 1 + 1) g zs (w4.alloc (.cells #[.int .i64 b1, .int .i64 b2, .int .i64 b3, .slice qb nb cb] 26)).drew c5 (by simp; omega)
  have hs5 : (w4.alloc (.cells #[.int .i64 b1, .int .i64 b2, .int .i64 b3, .slice qb nb cb] 26)).heap.size = w4.heap.size + 1 := by simp
  clear A3 B3 C3 P3 o3 c3' k3 g4 o4 A4 B4 C4 P4 oa4 ob4 c4 k4 hBa l2
  go_wp2_with fail
  obtain ⟨Bb, hBb⟩ : ∃ Bb, Bb = w4.heap.size := ⟨_, rfl⟩
  have lBb : Ba < Bb := by omega
  generalize (w4.alloc (.cells #[.int .i64 b1, .int .i64 b2, .int .i64 b3, .slice qb nb cb] 26)) = W5 at A5 B5 C5 P5 Q5 oa5 ob5 c5 k5 hDR hs5 ⊢
  rw [← hBb] at Q5 hgQ hs5 ⊢
  have HDR : Hid (Calls Tryd.prog 33 #[.pointer (some ⟨g, 0, none⟩)] W5.drew fun e w' => ∃ (a b c : Int) (u : Value) (ps : List ByteArray), e = .returned (.agg #[.int .i64 a, .int .i64 b, .int .i64 c, u]) ∧ w'.ownsRow W5.drew.heap.size 9 1 u ps.length (strsV ps) ∧ smallP 2 ps ∧ Cur w' (w.heap.size + 1 + 1 + 1) g zs ∧ W5.drew.grownBy w' (some g)) := hDR
  clear hBb hDR
  have nA : Ba ≠ w.heap.size := by omega
  have nB : Ba ≠ w.heap.size + 1 := by omega
  have nC : Ba ≠ w.heap.size + 1 + 1 := by omega
  have mA : Bb ≠ w.heap.size := by omega
  have mB : Bb ≠ w.heap.size + 1 := by omega
  have mC : Bb ≠ w.heap.size + 1 + 1 := by omega
  have nA' : w.heap.size ≠ Ba := by omega
  have nB' : w.heap.size + 1 ≠ Ba := by omega
  have nC' : w.heap.size + 1 + 1 ≠ Ba := by omega
  have mA' : w.heap.size ≠ Bb := by omega
  have mB' : w.heap.size + 1 ≠ Bb := by omega
  have mC' : w.heap.size + 1 + 1 ≠ Bb := by omega
  obtain ⟨m0, m1, m2, m3⟩ := P5.cells
  obtain ⟨n0, n1, n2, n3⟩ := Q5.cells
  go_region_held (fun w' => w'.cell? ⟨Ba, 0, none⟩ = some (.int .i64 a1) ∧ w'.cell? ⟨Ba, 1, none⟩ = some (.int .i64 a2) ∧ w'.cell? ⟨Ba, 2, none⟩ = some (.int .i64 a3) ∧ w'.cell? ⟨Ba, 3, none⟩ = some (.slice qa na ca) ∧ w'.cell? ⟨Bb, 0, none⟩ = some (.int .i64 b1) ∧ w'.cell? ⟨Bb, 1, none⟩ = some (.int .i64 b2) ∧ w'.cell? ⟨Bb, 2, none⟩ = some (.int .i64 b3) ∧ w'.cell? ⟨Bb, 3, none⟩ = some (.slice qb nb cb)) (go_keep) (first | (
    go_at_call 33
    refine HDR.out.mono ?_
    rintro e w6 ⟨c1, c2, c3, u'', pc, rfl, o6, sc, c6, g6⟩
    obtain ⟨qc, nc, cc, hu⟩ : ∃ q n cap, u'' = .slice q n cap := by (rcases o6.2 with ⟨rfl, _⟩ | ⟨g, cap, cur, rfl, _⟩ <;> exact ⟨_, _, _, rfl⟩)
    subst hu
    have A6 := A5.drew.turned g6 hgA
    have B6 := B5.drew.turned g6 hgB
    have C6 := C5.drew.turned g6 hgC
    have P6 := P5.drew.turned g6 hgP
    have Q6 := Q5.drew.turned g6 hgQ
    have oa6 := oa5.kept (grown_drewl g6) (.inr hra)
    have ob6 := ob5.kept (grown_drewl g6) (.inr hrb)
    have oc6 := own_lower o6 (base' := w.heap.size) (Nat.le_trans k5.size (Nat.le_refl _))
    have k6 := below_turned k5 (grown_drewl g6) k5.size hrg
    obtain ⟨i0, i1, i2, i3⟩ := A6.cells
    have fi := A6.ice
    obtain ⟨j0, j1, j2, j3⟩ := B6.cells
    have fj := B6.ice
    obtain ⟨h0, h1, h2, h3⟩ := C6.cells
    have fh := C6.ice
    obtain ⟨mm0, mm1, mm2, mm3⟩ := P6.cells
    obtain ⟨nn0, nn1, nn2, nn3⟩ := Q6.cells
    clear m0 m1 m2 m3 n0 n1 n2 n3))
  go_wp2_with fail
  have E1 := four_put4 (four_put4 (four_self' A6 (.int .i64 a1) (.int .i64 a2) (.int .i64 a3) (.slice qa na ca)) (show w.heap.size ≠ w.heap.size + 1 by omega) (.int .i64 b1) (.int .i64 b2) (.int .i64 b3) (.slice qb nb cb)) (show w.heap.size ≠ w.heap.size + 1 + 1 by omega) (.int .i64 c1) (.int .i64 c2) (.int .i64 c3) (.slice qc nc cc)
  have B6a := four_put4 B6 (show w.heap.size + 1 ≠ w.heap.size by omega) (.int .i64 a1) (.int .i64 a2) (.int .i64 a3) (.slice qa na ca)
  have E2 := four_put4 (four_self' B6a (.int .i64 b1) (.int .i64 b2) (.int .i64 b3) (.slice qb nb cb)) (show w.heap.size + 1 ≠ w.heap.size + 1 + 1 by omega) (.int .i64 c1) (.int .i64 c2) (.int .i64 c3) (.slice qc nc cc)
  have C6b := four_put4 (four_put4 C6 (show w.heap.size + 1 + 1 ≠ w.heap.size by omega) (.int .i64 a1) (.int .i64 a2) (.int .i64 a3) (.slice qa na ca)) (show w.heap.size + 1 + 1 ≠ w.heap.size + 1 by omega) (.int .i64 b1) (.int .i64 b2) (.int .i64 b3) (.slice qb nb cb)
  have E3 := four_self' C6b (.int .i64 c1) (.int .i64 c2) (.int .i64 c3) (.slice qc nc cc)
  have R1 := reads_of_owns (owns_put4 (owns_put4 (owns_put4 oa6 A6 (by decide) (.int .i64 a1) (.int .i64 a2) (.int .i64 a3) (.slice qa na ca)) B6a (by decide) (.int .i64 b1) (.int .i64 b2) (.int .i64 b3) (.slice qb nb cb)) C6b (by decide) (.int .i64 c1) (.int .i64 c2) (.int .i64 c3) (.slice qc nc cc))
  have R2 := reads_of_owns (owns_put4 (owns_put4 (owns_put4 ob6 A6 (by decide) (.int .i64 a1) (.int .i64 a2) (.int .i64 a3) (.slice qa na ca)) B6a (by decide) (.int .i64 b1) (.int .i64 b2) (.int .i64 b3) (.slice qb nb cb)) C6b (by decide) (.int .i64 c1) (.int .i64 c2) (.int .i64 c3) (.slice qc nc cc))
  have R3 := reads_of_owns (owns_put4 (owns_put4 (owns_put4 oc6 A6 (by decide) (.int .i64 a1) (.int .i64 a2) (.int .i64 a3) (.slice qa na ca)) B6a (by decide) (.int .i64 b1) (.int .i64 b2) (.int .i64 b3) (.slice qb nb cb)) C6b (by decide) (.int .i64 c1) (.int .i64 c2) (.int .i64 c3) (.slice qc nc cc))
  have KE := below_put4 (below_put4 (below_put4 k6 (Nat.le_refl _) (.int .i64 a1) (.int .i64 a2) (.int .i64 a3) (.slice qa na ca)) (show w.heap.size ≤ w.heap.size + 1 by omega) (.int .i64 b1) (.int .i64 b2) (.int .i64 b3) (.slice qb nb cb)) (show w.heap.size ≤ w.heap.size + 1 + 1 by omega) (.int .i64 c1) (.int .i64 c2) (.int .i64 c3) (.slice qc nc cc)
  clear A5 B5 C5 P5 Q5 A6 B6 C6 P6 Q6 B6a C6b oa5 ob5 oa6 ob6 oc6 o6 k5 k6 i0 i1 i2 i3 j0 j1 j2 j3 h0 h1 h2 h3 mm0 mm1 mm2 mm3 nn0 nn1 nn2 nn3 fi fj fh
  generalize ((((((((((((w6.setCell ⟨w.heap.size, 0, none⟩ (.int .i64 a1)).setCell ⟨w.heap.size, 1, none⟩ (.int .i64 a2)).setCell ⟨w.heap.size, 2, none⟩ (.int .i64 a3)).setCell ⟨w.heap.size, 3, none⟩ (.slice qa na ca)).setCell ⟨w.heap.size + 1, 0, none⟩ (.int .i64 b1)).setCell ⟨w.heap.size + 1, 1, none⟩ (.int .i64 b2)).setCell ⟨w.heap.size + 1, 2, none⟩ (.int .i64 b3)).setCell ⟨w.heap.size + 1, 3, none⟩ (.slice qb nb cb)).setCell ⟨w.heap.size + 1 + 1, 0, none⟩ (.int .i64 c1)).setCell ⟨w.heap.size + 1 + 1, 1, none⟩ (.int .i64 c2)).setCell ⟨w.heap.size + 1 + 1, 2, none⟩ (.int .i64 c3)).setCell ⟨w.heap.size + 1 + 1, 3, none⟩ (.slice qc nc cc)) = WE at E1 E2 E3 R1 R2 R3 KE ⊢
  obtain ⟨x0, x1, x2, x3⟩ := E1.cells
  obtain ⟨y0, y1, y2, y3⟩ := E2.cells
  obtain ⟨z0, z1, z2, z3⟩ := E3.cells
  exact bodyPost_ret (v := .tuple #[.agg #[.int .i64 a1, .int .i64 a2, .int .i64 a3, .slice qa na ca], .agg #[.int .i64 b1, .int .i64 b2, .int .i64 b3, .slice qb nb cb], .agg #[.int .i64 c1, .int .i64 c2, .int .i64 c3, .slice qc nc cc]]) (by simp [results, Tryd.results12, go_sem, x0, x1, x2, x3, y0, y1, y2, y3, z0, z1, z2, z3]) rfl ⟨a1, a2, a3, _, pa, b1, b2, b3, _, pb, c1, c2, c3, _, pc, rfl, R1, R2, R3, sa, sb, sc, KE⟩
end Go.Proofs.YtdnpfkknnaepoaaDoor
