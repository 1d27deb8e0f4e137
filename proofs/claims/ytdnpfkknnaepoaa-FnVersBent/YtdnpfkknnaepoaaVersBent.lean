/-
  Whatever code comes in: of the versions drawn out of it LessVer, SameVer and VerOk answer as in the specification; a version with a Pre is less than the same without, and the same as itself; and the code reads as it did; no condition.
-/
import Derived.Test.YtdnpfkknnaepoaaRows
import Derived.WalkKit
import Derived.Test.YtdnpfkknnaepoaaVerBig
import Derived.ProofKit
import Derived.OpenShut
import Derived.ShutString
import Derived.SliceStrings
import Derived.ChangeOld
import Derived.Below
namespace Go.Proofs.Ytdnpfkknnaepoaa.fnVersBent
open Go.ChangeShapes Go.WideShapes Go.ChangeAt Go.RowKit
open Go.ChangeMaps (open_string shut_string)
set_option linter.unusedVariables false
set_option linter.unusedSimpArgs false

theorem own : ownKnob Try.prog.godebug = none := by kernel_rfl
theorem laidOut : laidOutB Try.prog = true := by kernel_rfl

theorem addr_add (b off i : Nat) : ((⟨b, off, none⟩ : Addr).add i) = ⟨b, off + i, none⟩ := by unfold Addr.add; split <;> simp_all
theorem reads_mk {w : World} {x : Addr} {len cap : Nat} {xs : List Value} (hl : xs.length = len) (hc : len ≤ cap) (hcell : ∀ i (h : i < xs.length), w.cell? (x.add i) = some xs[i]) : Reads w (.slice (some x) len cap) xs := by
  subst hl
  by_cases h0 : xs.length = 0
  · exact ⟨some x, cap, rfl, hc, .inl (List.eq_nil_of_length_eq_zero h0)⟩
  · obtain ⟨b, off, spot⟩ := x
    have hc0 := hcell 0 (by omega)
    have hspot : spot = none := by simpa [Addr.add] using World.cell?_spot hc0
    subst hspot
    refine ⟨some ⟨b, off, none⟩, cap, rfl, hc, .inr ⟨b, off, rfl, ?_, fun i hi => ?_⟩⟩
    · rw [addr_add] at hc0; exact World.block_lt_of_cell? w _ hc0
    · have := hcell i hi; rw [addr_add] at this; exact this

set_option maxHeartbeats 4000000 in
set_option maxRecDepth 100000 in
theorem walk (a0 : Value) (z0 : List Int) (w : World) (r0 : Reads w a0 (bytesV z0)) (w0 : ∀ z ∈ z0, 0 ≤ z ∧ z ≤ 255) (l0 : z0.length ≤ maxLen) :
    Calls Try.prog 3 #[a0] w fun e w' => e = .returned (.bool true) ∧ Below w.heap.size w w' := by
  have hbf : Below w.heap.size w w := Below.refl _ _
  by_cases hbig : (1048576 : Int) < (z0.length : Int)
  · have HB := big_t a0 z0 w r0 hbig
    obtain ⟨qz, cz, hv, _, _⟩ := reads_bytes r0
    subst hv
    clear r0
    go_enter Try.func3, Try.ntmps3
    go_wp2_with (go_at_call 7; refine HB.mono ?_; rintro e w1 ⟨rfl, rfl⟩)
    go_ret
    exact ⟨rfl, Below.refl _ _⟩
  have HB := big_f a0 z0 w r0 hbig
  have hn : z0.length ≤ 1048576 := by omega
  have HL : Hid (∀ w1, Below w.heap.size w w1 → Calls Try.prog 8 #[a0] w1 (TwoOut w1)) := fun w1 h => drawLess_c a0 z0 w1 (r0.below h) hn w0
  have HS : Hid (∀ w1, Below w.heap.size w w1 → Calls Try.prog 9 #[a0] w1 (TwoOut w1)) := fun w1 h => drawSame_c a0 z0 w1 (r0.below h) hn w0
  have HV : Hid (∀ w1, Below w.heap.size w w1 → Calls Try.prog 10 #[a0] w1 fun e w' => ∃ (a b c : Int) (u : Value) (ps : List ByteArray), e = .returned (.agg #[.int .i64 a, .int .i64 b, .int .i64 c, u]) ∧ Reads w' u (strsV ps) ∧ smallP 4 ps ∧ Below w1.heap.size w1 w') := fun w1 h => drawVerOk_c a0 z0 w1 (r0.below h) hn w0
  obtain ⟨qz, cz, hv, _, _⟩ := reads_bytes r0
  subst hv
  clear r0
  go_enter Try.func3, Try.ntmps3
  go_wp2_with fail
  go_at_call 7
  refine HB.mono ?_
  rintro e w' ⟨rfl, rfl⟩
  go_wp2_with fail
  go_at_call 8
  refine (HL.out _ hbf).mono ?_
  rintro e w1 ⟨a1, a2, a3, ua, pa, b1, b2, b3, ub, pb, rfl, ra, rb, sa, sb, k1⟩
  obtain ⟨qa, ca, hu, _, _⟩ := reads_strs ra
  subst hu
  obtain ⟨qb, cb, hu, _, _⟩ := reads_strs rb
  subst hu
  generalize hna : pa.length = na at ra ⊢
  generalize hnb : pb.length = nb at rb ⊢
  obtain ⟨A1, B1⟩ := four_two w1 26 26 (.int .i64 a1) (.int .i64 a2) (.int .i64 a3) (.slice qa na ca) (.int .i64 b1) (.int .i64 b2) (.int .i64 b3) (.slice qb nb cb)
  have t1 := two_box (w := w1) (.cells #[.int .i64 a1, .int .i64 a2, .int .i64 a3, .slice qa na ca] 26) (.cells #[.int .i64 b1, .int .i64 b2, .int .i64 b3, .slice qb nb cb] 26)
  have l1 : ((w1.alloc (.cells #[.int .i64 a1, .int .i64 a2, .int .i64 a3, .slice qa na ca] 26)).alloc (.cells #[.int .i64 b1, .int .i64 b2, .int .i64 b3, .slice qb nb cb] 26)).heap.size = w1.heap.size + 1 + 1 := by simp
  go_wp2_with fail
  obtain ⟨BA, hBA⟩ : ∃ B, B = w1.heap.size := ⟨_, rfl⟩
  generalize ((w1.alloc (.cells #[.int .i64 a1, .int .i64 a2, .int .i64 a3, .slice qa na ca] 26)).alloc (.cells #[.int .i64 b1, .int .i64 b2, .int .i64 b3, .slice qb nb cb] 26)) = W1 at A1 B1 t1 l1 ⊢
  rw [← hBA] at A1 B1 l1 ⊢
  have m1 : Below w.heap.size w W1 := k1.trans (t1.mono k1.size)
  have ra1 := ra.below t1
  have rb1 := rb.below t1
  clear hna hnb hBA ra rb t1 k1
  go_at_call 9
  refine (HS.out _ m1).mono ?_
  rintro e w2 ⟨c1, c2, c3, uc, pc, d1, d2, d3, ud, pd, rfl, rc, rd, sc, sd, k2⟩
  obtain ⟨qc, cc, hu, _, _⟩ := reads_strs rc
  subst hu
  obtain ⟨qd, cd, hu, _, _⟩ := reads_strs rd
  subst hu
  generalize hnc : pc.length = nc at rc ⊢
  generalize hnd : pd.length = nd at rd ⊢
  have m2 := m1.trans (k2.mono m1.size)
  have A2 := A1.keep k2
  have B2 := B1.keep k2
  have ra2 := ra1.below k2
  have rb2 := rb1.below k2
  obtain ⟨C2, D2⟩ := four_two w2 26 26 (.int .i64 c1) (.int .i64 c2) (.int .i64 c3) (.slice qc nc cc) (.int .i64 d1) (.int .i64 d2) (.int .i64 d3) (.slice qd nd cd)
  have t2 := two_box (w := w2) (.cells #[.int .i64 c1, .int .i64 c2, .int .i64 c3, .slice qc nc cc] 26) (.cells #[.int .i64 d1, .int .i64 d2, .int .i64 d3, .slice qd nd cd] 26)
  go_wp2_with fail
  obtain ⟨BC, hBC⟩ : ∃ B, B = w2.heap.size := ⟨_, rfl⟩
  generalize ((w2.alloc (.cells #[.int .i64 c1, .int .i64 c2, .int .i64 c3, .slice qc nc cc] 26)).alloc (.cells #[.int .i64 d1, .int .i64 d2, .int .i64 d3, .slice qd nd cd] 26)) = W2 at C2 D2 t2 ⊢
  rw [← hBC] at C2 D2 ⊢
  have m3 : Below w.heap.size w W2 := m2.trans (t2.mono m2.size)
  have A3 := A2.keep t2
  have B3 := B2.keep t2
  have ra3 := ra2.below t2
  have rb3 := rb2.below t2
  have rc3 := rc.below t2
  have rd3 := rd.below t2
  clear hnc hnd hBC A1 B1 ra1 rb1 m1 l1 A2 B2 ra2 rb2 rc rd t2 k2 m2
  go_at_call 10
  refine (HV.out _ m3).mono ?_
  rintro e w3 ⟨v1, v2, v3, uv, pv, rfl, rv, sv, k3⟩
  obtain ⟨qv, cv, hu, _, _⟩ := reads_strs rv
  subst hu
  have m4 := m3.trans (k3.mono m3.size)
  have A4 := A3.keep k3
  have B4 := B3.keep k3
  have C4 := C2.keep k3
  have D4 := D2.keep k3
  have ra4 := ra3.below k3
  have rb4 := rb3.below k3
  have rc4 := rc3.below k3
  have rd4 := rd3.below k3
  have s3 : ∀ o o', ((w3.alloc o).alloc o').heap.size = w3.heap.size + 1 + 1 := fun o o' => by simp
  obtain ⟨V4, X4⟩ := four_two w3 26 26 (.int .i64 v1) (.int .i64 v2) (.int .i64 v3) (.slice qv pv.length cv) (.int .i64 v1) (.int .i64 v2) (.int .i64 v3) (.slice (some ⟨w3.heap.size + 1 + 1, 0, none⟩) 0 0)
  have t3 := (two_box (w := w3) (.cells #[.int .i64 v1, .int .i64 v2, .int .i64 v3, .slice qv pv.length cv] 26) (.cells #[.int .i64 v1, .int .i64 v2, .int .i64 v3, .slice (some ⟨w3.heap.size + 1 + 1, 0, none⟩) 0 0] 26)).alloc (two_box (w := w3) (.cells #[.int .i64 v1, .int .i64 v2, .int .i64 v3, .slice qv pv.length cv] 26) (.cells #[.int .i64 v1, .int .i64 v2, .int .i64 v3, .slice (some ⟨w3.heap.size + 1 + 1, 0, none⟩) 0 0] 26)).size (.cells #[] 9)
  have V5 := four_old V4 (.cells #[] 9)
  have X5 := four_old X4 (.cells #[] 9)
  clear V4 X4 A3 B3 C2 D2 ra3 rb3 rc3 rd3 m3 k3
  go_wp2_with fail
  have A5 := A4.keep t3
  have B5 := B4.keep t3
  have C5 := C4.keep t3
  have D5 := D4.keep t3
  have ra5 := ra4.below t3
  have rb5 := rb4.below t3
  have rc5 := rc4.below t3
  have rd5 := rd4.below t3
  have rv5 := rv.below t3
  have m5 := m4.trans (t3.mono m4.size)
  clear t3 s3
  obtain ⟨BV, hBV⟩ : ∃ B, B = w3.heap.size := ⟨_, rfl⟩
  rw [← hBV] at V5 X5 A5 B5 C5 D5 ra5 rb5 rc5 rd5 rv5 m5 ⊢
  clear hBV A4 B4 C4 D4 ra4 rb4 rc4 rd4 rv m4 HL HS HV HB hbig
  generalize (((w3.alloc (.cells #[.int .i64 v1, .int .i64 v2, .int .i64 v3, .slice qv pv.length cv] 26)).alloc (.cells #[.int .i64 v1, .int .i64 v2, .int .i64 v3, .slice (some ⟨BV + 1 + 1, 0, none⟩) 0 0] 26)).alloc (.cells #[] 9)) = WF at V5 X5 A5 B5 C5 D5 ra5 rb5 rc5 rd5 rv5 m5 ⊢
  have rx5 : Reads WF (.slice (some ⟨BV + 1 + 1, 0, none⟩) 0 0) (strsV []) := ⟨_, 0, rfl, Nat.le_refl _, .inl rfl⟩
  have ba := small_bulk sa (by omega)
  have bb := small_bulk sb (by omega)
  have bc := small_bulk sc (by omega)
  have bd := small_bulk sd (by omega)
  have bv := small_bulk sv (by omega)
  have bx : bulkS [] ≤ 1048576 := by simp [bulkS]
  have lc : pc.length ≤ 1048576 := by have := sc.1; omega
  have lv : pv.length ≤ 1048576 := by have := sv.1; omega
  obtain ⟨R1, hR1⟩ : ∃ r, r = lessB a1 a2 a3 pa b1 b2 b3 pb := ⟨_, rfl⟩
  obtain ⟨R2, hR2⟩ : ∃ r, r = sameB c1 c2 c3 pc d1 d2 d3 pd := ⟨_, rfl⟩
  obtain ⟨R3, hR3⟩ : ∃ r, r = verB v1 v2 v3 pv := ⟨_, rfl⟩
  have H1 : Hid (∀ wk, Below WF.heap.size WF wk → Calls Try.prog 11 #[.agg #[.int .i64 a1, .int .i64 a2, .int .i64 a3, .slice qa na ca], .agg #[.int .i64 b1, .int .i64 b2, .int .i64 b3, .slice qb nb cb]] wk fun e w' => e = .returned (.bool R1) ∧ Below wk.heap.size wk w') := fun wk hk => by rw [hR1]; exact implLess_c _ _ _ _ pa _ _ _ _ pb wk (ra5.below hk) (rb5.below hk) ba bb
  have H2 : Hid (∀ wk, Below WF.heap.size WF wk → Calls Try.prog 12 #[.agg #[.int .i64 a1, .int .i64 a2, .int .i64 a3, .slice qa na ca], .agg #[.int .i64 b1, .int .i64 b2, .int .i64 b3, .slice qb nb cb]] wk fun e w' => e = .returned (.bool R1) ∧ Below wk.heap.size wk w') := fun wk hk => by rw [hR1]; exact specLess_c _ _ _ _ pa _ _ _ _ pb wk (ra5.below hk) (rb5.below hk) ba bb
  have H3 : Hid (∀ wk, Below WF.heap.size WF wk → Calls Try.prog 13 #[.agg #[.int .i64 c1, .int .i64 c2, .int .i64 c3, .slice qc nc cc], .agg #[.int .i64 d1, .int .i64 d2, .int .i64 d3, .slice qd nd cd]] wk fun e w' => e = .returned (.bool R2) ∧ Below wk.heap.size wk w') := fun wk hk => by rw [hR2]; exact implSame_c _ _ _ _ pc _ _ _ _ pd wk (rc5.below hk) (rd5.below hk) lc
  have H4 : Hid (∀ wk, Below WF.heap.size WF wk → Calls Try.prog 14 #[.agg #[.int .i64 c1, .int .i64 c2, .int .i64 c3, .slice qc nc cc], .agg #[.int .i64 d1, .int .i64 d2, .int .i64 d3, .slice qd nd cd]] wk fun e w' => e = .returned (.bool R2) ∧ Below wk.heap.size wk w') := fun wk hk => by rw [hR2]; exact specSame_c _ _ _ _ pc _ _ _ _ pd wk (rc5.below hk) (rd5.below hk) lc
  have H5 : Hid (∀ wk, Below WF.heap.size WF wk → Calls Try.prog 15 #[.agg #[.int .i64 v1, .int .i64 v2, .int .i64 v3, .slice qv pv.length cv]] wk fun e w' => e = .returned (.bool R3) ∧ Below wk.heap.size wk w') := fun wk hk => by rw [hR3]; exact implVerOk_c _ _ _ _ pv wk (rv5.below hk) bv
  have H6 : Hid (∀ wk, Below WF.heap.size WF wk → Calls Try.prog 16 #[.agg #[.int .i64 v1, .int .i64 v2, .int .i64 v3, .slice qv pv.length cv]] wk fun e w' => e = .returned (.bool R3) ∧ Below wk.heap.size wk w') := fun wk hk => by rw [hR3]; exact specVerOk_c _ _ _ _ pv wk (rv5.below hk) bv
  have H7 : Hid (¬ pv.length = 0 → ∀ wk, Below WF.heap.size WF wk → Calls Try.prog 11 #[.agg #[.int .i64 v1, .int .i64 v2, .int .i64 v3, .slice qv pv.length cv], .agg #[.int .i64 v1, .int .i64 v2, .int .i64 v3, .slice (some ⟨BV + 1 + 1, 0, none⟩) 0 0]] wk fun e w' => e = .returned (.bool true) ∧ Below wk.heap.size wk w') := fun h0 wk hk => by have := implLess_c v1 v2 v3 (.slice qv pv.length cv) pv v1 v2 v3 (.slice (some ⟨BV + 1 + 1, 0, none⟩) 0 0) [] wk (rv5.below hk) (rx5.below hk) bv bx; rwa [(less_none v1 v2 v3 pv h0).1] at this
  have H8 : Hid (¬ pv.length = 0 → ∀ wk, Below WF.heap.size WF wk → Calls Try.prog 11 #[.agg #[.int .i64 v1, .int .i64 v2, .int .i64 v3, .slice (some ⟨BV + 1 + 1, 0, none⟩) 0 0], .agg #[.int .i64 v1, .int .i64 v2, .int .i64 v3, .slice qv pv.length cv]] wk fun e w' => e = .returned (.bool false) ∧ Below wk.heap.size wk w') := fun h0 wk hk => by have := implLess_c v1 v2 v3 (.slice (some ⟨BV + 1 + 1, 0, none⟩) 0 0) [] v1 v2 v3 (.slice qv pv.length cv) pv wk (rx5.below hk) (rv5.below hk) bx bv; rwa [(less_none v1 v2 v3 pv h0).2] at this
  have H9 : Hid (∀ wk, Below WF.heap.size WF wk → Calls Try.prog 13 #[.agg #[.int .i64 v1, .int .i64 v2, .int .i64 v3, .slice qv pv.length cv], .agg #[.int .i64 v1, .int .i64 v2, .int .i64 v3, .slice qv pv.length cv]] wk fun e w' => e = .returned (.bool true) ∧ Below wk.heap.size wk w') := fun wk hk => by have := implSame_c v1 v2 v3 (.slice qv pv.length cv) pv v1 v2 v3 (.slice qv pv.length cv) pv wk (rv5.below hk) (rv5.below hk) lv; rwa [same_self] at this
  have KEEP : Hid (∀ wk, Below WF.heap.size WF wk → wk.cell? ⟨BA, 0, none⟩ = some (.int .i64 a1) ∧ wk.cell? ⟨BA, 1, none⟩ = some (.int .i64 a2) ∧ wk.cell? ⟨BA, 2, none⟩ = some (.int .i64 a3) ∧ wk.cell? ⟨BA, 3, none⟩ = some (.slice qa na ca) ∧ wk.cell? ⟨BA + 1, 0, none⟩ = some (.int .i64 b1) ∧ wk.cell? ⟨BA + 1, 1, none⟩ = some (.int .i64 b2) ∧ wk.cell? ⟨BA + 1, 2, none⟩ = some (.int .i64 b3) ∧ wk.cell? ⟨BA + 1, 3, none⟩ = some (.slice qb nb cb) ∧ wk.cell? ⟨BC, 0, none⟩ = some (.int .i64 c1) ∧ wk.cell? ⟨BC, 1, none⟩ = some (.int .i64 c2) ∧ wk.cell? ⟨BC, 2, none⟩ = some (.int .i64 c3) ∧ wk.cell? ⟨BC, 3, none⟩ = some (.slice qc nc cc) ∧ wk.cell? ⟨BC + 1, 0, none⟩ = some (.int .i64 d1) ∧ wk.cell? ⟨BC + 1, 1, none⟩ = some (.int .i64 d2) ∧ wk.cell? ⟨BC + 1, 2, none⟩ = some (.int .i64 d3) ∧ wk.cell? ⟨BC + 1, 3, none⟩ = some (.slice qd nd cd) ∧ wk.cell? ⟨BV, 0, none⟩ = some (.int .i64 v1) ∧ wk.cell? ⟨BV, 1, none⟩ = some (.int .i64 v2) ∧ wk.cell? ⟨BV, 2, none⟩ = some (.int .i64 v3) ∧ wk.cell? ⟨BV, 3, none⟩ = some (.slice qv pv.length cv) ∧ wk.cell? ⟨BV + 1, 0, none⟩ = some (.int .i64 v1) ∧ wk.cell? ⟨BV + 1, 1, none⟩ = some (.int .i64 v2) ∧ wk.cell? ⟨BV + 1, 2, none⟩ = some (.int .i64 v3) ∧ wk.cell? ⟨BV + 1, 3, none⟩ = some (.slice (some ⟨BV + 1 + 1, 0, none⟩) 0 0)) := fun wk hk => ⟨(A5.keep hk).cells.1, (A5.keep hk).cells.2.1, (A5.keep hk).cells.2.2.1, (A5.keep hk).cells.2.2.2, (B5.keep hk).cells.1, (B5.keep hk).cells.2.1, (B5.keep hk).cells.2.2.1, (B5.keep hk).cells.2.2.2, (C5.keep hk).cells.1, (C5.keep hk).cells.2.1, (C5.keep hk).cells.2.2.1, (C5.keep hk).cells.2.2.2, (D5.keep hk).cells.1, (D5.keep hk).cells.2.1, (D5.keep hk).cells.2.2.1, (D5.keep hk).cells.2.2.2, (V5.keep hk).cells.1, (V5.keep hk).cells.2.1, (V5.keep hk).cells.2.2.1, (V5.keep hk).cells.2.2.2, (X5.keep hk).cells.1, (X5.keep hk).cells.2.1, (X5.keep hk).cells.2.2.1, (X5.keep hk).cells.2.2.2⟩
  have h0 : Below WF.heap.size WF WF.drew := (Below.refl _ _).drew
  obtain ⟨xa0, xa1, xa2, xa3⟩ := A5.cells
  obtain ⟨xb0, xb1, xb2, xb3⟩ := B5.cells
  obtain ⟨xc0, xc1, xc2, xc3⟩ := C5.cells
  obtain ⟨xd0, xd1, xd2, xd3⟩ := D5.cells
  obtain ⟨xv0, xv1, xv2, xv3⟩ := V5.cells
  obtain ⟨xx0, xx1, xx2, xx3⟩ := X5.cells
  clear hR1 hR2 hR3 A5 B5 C5 D5 V5 X5 ra5 rb5 rc5 rd5 rv5 rx5 ba bb bc bd bv bx lc lv sa sb sc sd sv
  by_cases hp : pv.length = 0
  · have hp0 : ((pv.length : Int) == 0) = true := by simp [hp]
    clear hp H7 H8
    refine wp_region_held_drew (S := (fun w' => w'.cell? ⟨BA, 0, none⟩ = some (.int .i64 a1) ∧ w'.cell? ⟨BA, 1, none⟩ = some (.int .i64 a2) ∧ w'.cell? ⟨BA, 2, none⟩ = some (.int .i64 a3) ∧ w'.cell? ⟨BA, 3, none⟩ = some (.slice qa na ca) ∧ w'.cell? ⟨BA + 1, 0, none⟩ = some (.int .i64 b1) ∧ w'.cell? ⟨BA + 1, 1, none⟩ = some (.int .i64 b2) ∧ w'.cell? ⟨BA + 1, 2, none⟩ = some (.int .i64 b3) ∧ w'.cell? ⟨BA + 1, 3, none⟩ = some (.slice qb nb cb) ∧ w'.cell? ⟨BC, 0, none⟩ = some (.int .i64 c1) ∧ w'.cell? ⟨BC, 1, none⟩ = some (.int .i64 c2) ∧ w'.cell? ⟨BC, 2, none⟩ = some (.int .i64 c3) ∧ w'.cell? ⟨BC, 3, none⟩ = some (.slice qc nc cc) ∧ w'.cell? ⟨BC + 1, 0, none⟩ = some (.int .i64 d1) ∧ w'.cell? ⟨BC + 1, 1, none⟩ = some (.int .i64 d2) ∧ w'.cell? ⟨BC + 1, 2, none⟩ = some (.int .i64 d3) ∧ w'.cell? ⟨BC + 1, 3, none⟩ = some (.slice qd nd cd) ∧ w'.cell? ⟨BV, 0, none⟩ = some (.int .i64 v1) ∧ w'.cell? ⟨BV, 1, none⟩ = some (.int .i64 v2) ∧ w'.cell? ⟨BV, 2, none⟩ = some (.int .i64 v3) ∧ w'.cell? ⟨BV, 3, none⟩ = some (.slice qv pv.length cv) ∧ w'.cell? ⟨BV + 1, 0, none⟩ = some (.int .i64 v1) ∧ w'.cell? ⟨BV + 1, 1, none⟩ = some (.int .i64 v2) ∧ w'.cell? ⟨BV + 1, 2, none⟩ = some (.int .i64 v3) ∧ w'.cell? ⟨BV + 1, 3, none⟩ = some (.slice (some ⟨BV + 1 + 1, 0, none⟩) 0 0))) (by kernel_rfl) ?S0 (fun hHeld => ?_)
    case S0 => (first | (with_reducible exact KEEP.out _ h0) | (with_reducible exact KEEP.out _ h1) | (with_reducible exact KEEP.out _ h2) | (with_reducible exact KEEP.out _ h3) | (with_reducible exact KEEP.out _ h4) | (with_reducible exact KEEP.out _ h5) | (with_reducible exact KEEP.out _ h6) | (with_reducible exact KEEP.out _ h9))
    refine wpAnyH_take (i := 0) (oi := _) (v := ?v0) rfl (by kernel_rfl) (by kernel_rfl) (by kernel_rfl) (fun _ _ _ h => h) (Or.inl ⟨by rfl, ?y0⟩) hHeld ?_
    case y0 => (intro w hSw; (try dsimp only at hSw); go_simp <;> with_reducible rfl)
    try simp only [Act.put, List.getElem_toArray, List.getElem_cons_zero, List.getElem_cons_succ, List.setIfInBounds_toArray, List.set_cons_zero, List.set_cons_succ]
    refine wpAnyH_take (i := 1) (oi := _) (v := ?v1) rfl (by kernel_rfl) (by kernel_rfl) (by kernel_rfl) (fun _ _ _ h => h) (Or.inl ⟨by rfl, ?y1⟩) hHeld ?_
    case y1 => (intro w hSw; (try dsimp only at hSw); go_simp <;> with_reducible rfl)
    try simp only [Act.put, List.getElem_toArray, List.getElem_cons_zero, List.getElem_cons_succ, List.setIfInBounds_toArray, List.set_cons_zero, List.set_cons_succ]
    refine wpAnyH_take (i := 3) (oi := _) (v := ?v2) rfl (by kernel_rfl) (by kernel_rfl) (by kernel_rfl) (fun _ _ _ h => h) (Or.inl ⟨by rfl, ?y2⟩) hHeld ?_
    case y2 => (intro w hSw; (try dsimp only at hSw); go_simp <;> with_reducible rfl)
    try simp only [Act.put, List.getElem_toArray, List.getElem_cons_zero, List.getElem_cons_succ, List.setIfInBounds_toArray, List.set_cons_zero, List.set_cons_succ]
    refine wpAnyH_take (i := 4) (oi := _) (v := ?v3) rfl (by kernel_rfl) (by kernel_rfl) (by kernel_rfl) (fun _ _ _ h => h) (Or.inl ⟨by rfl, ?y3⟩) hHeld ?_
    case y3 => (intro w hSw; (try dsimp only at hSw); go_simp <;> with_reducible rfl)
    try simp only [Act.put, List.getElem_toArray, List.getElem_cons_zero, List.getElem_cons_succ, List.setIfInBounds_toArray, List.set_cons_zero, List.set_cons_succ]
    refine wpAnyH_ready (rs := [2]) (by kernel_rfl) (by simp) ?_
    refine AllReadyH.cons rfl (fun K hK => ?_) AllReadyH.nil
    go_simp
    go_wp2_with (go_at_call 11; refine (H1.out _ h0).mono ?_; rintro e w4 ⟨rfl, bk⟩; have h1 : Below WF.heap.size WF w4 := h0.trans (bk.mono h0.size); clear bk H1)
    clear hHeld
    refine hK.out _ _ ?S5 (fun hHeld => ?_)
    case S5 => ((try dsimp only); first | (with_reducible exact KEEP.out _ h0) | (with_reducible exact KEEP.out _ h1) | (with_reducible exact KEEP.out _ h2) | (with_reducible exact KEEP.out _ h3) | (with_reducible exact KEEP.out _ h4) | (with_reducible exact KEEP.out _ h5) | (with_reducible exact KEEP.out _ h6) | (with_reducible exact KEEP.out _ h9))
    clear hK K
    refine wpAnyH_ready (rs := [5]) (by kernel_rfl) (by simp) ?_
    refine AllReadyH.cons rfl (fun K hK => ?_) AllReadyH.nil
    go_simp
    go_wp2_with (go_at_call 12; refine (H2.out _ h1).mono ?_; rintro e w5 ⟨rfl, bk⟩; have h2 : Below WF.heap.size WF w5 := h1.trans (bk.mono h1.size); clear bk H2)
    clear hHeld
    refine hK.out _ _ ?S6 (fun hHeld => ?_)
    case S6 => ((try dsimp only); first | (with_reducible exact KEEP.out _ h0) | (with_reducible exact KEEP.out _ h1) | (with_reducible exact KEEP.out _ h2) | (with_reducible exact KEEP.out _ h3) | (with_reducible exact KEEP.out _ h4) | (with_reducible exact KEEP.out _ h5) | (with_reducible exact KEEP.out _ h6) | (with_reducible exact KEEP.out _ h9))
    clear hK K
    refine wpAnyH_take (i := 6) (oi := _) (v := ?v6) rfl (by kernel_rfl) (by kernel_rfl) (by kernel_rfl) (fun _ _ _ h => h) (Or.inl ⟨by rfl, ?y6⟩) hHeld ?_
    case y6 => (intro w hSw; (try dsimp only at hSw); go_simp <;> with_reducible rfl)
    try simp only [Act.put, List.getElem_toArray, List.getElem_cons_zero, List.getElem_cons_succ, List.setIfInBounds_toArray, List.set_cons_zero, List.set_cons_succ]
    refine wpAnyH_take (i := 7) (oi := _) (v := ?v7) rfl (by kernel_rfl) (by kernel_rfl) (by kernel_rfl) (fun _ _ _ h => h) (Or.inl ⟨by rfl, ?y7⟩) hHeld ?_
    case y7 => (intro w hSw; (try dsimp only at hSw); go_simp <;> with_reducible rfl)
    try simp only [Act.put, List.getElem_toArray, List.getElem_cons_zero, List.getElem_cons_succ, List.setIfInBounds_toArray, List.set_cons_zero, List.set_cons_succ]
    refine wpAnyH_take (i := 8) (oi := _) (v := ?v8) rfl (by kernel_rfl) (by kernel_rfl) (by kernel_rfl) (fun _ _ _ h => h) (Or.inl ⟨by rfl, ?y8⟩) hHeld ?_
    case y8 => (intro w hSw; (try dsimp only at hSw); go_simp <;> with_reducible rfl)
    try simp only [Act.put, List.getElem_toArray, List.getElem_cons_zero, List.getElem_cons_succ, List.setIfInBounds_toArray, List.set_cons_zero, List.set_cons_succ]
    refine wpAnyH_take (i := 9) (oi := _) (v := ?v9) rfl (by kernel_rfl) (by kernel_rfl) (by kernel_rfl) (fun _ _ _ h => h) (Or.inl ⟨by rfl, ?y9⟩) hHeld ?_
    case y9 => (intro w hSw; (try dsimp only at hSw); go_simp <;> with_reducible rfl)
    try simp only [Act.put, List.getElem_toArray, List.getElem_cons_zero, List.getElem_cons_succ, List.setIfInBounds_toArray, List.set_cons_zero, List.set_cons_succ]
    refine wpAnyH_take (i := 11) (oi := _) (v := ?v10) rfl (by kernel_rfl) (by kernel_rfl) (by kernel_rfl) (fun _ _ _ h => h) (Or.inl ⟨by rfl, ?y10⟩) hHeld ?_
    case y10 => (intro w hSw; (try dsimp only at hSw); go_simp <;> with_reducible rfl)
    try simp only [Act.put, List.getElem_toArray, List.getElem_cons_zero, List.getElem_cons_succ, List.setIfInBounds_toArray, List.set_cons_zero, List.set_cons_succ]
    refine wpAnyH_take (i := 12) (oi := _) (v := ?v11) rfl (by kernel_rfl) (by kernel_rfl) (by kernel_rfl) (fun _ _ _ h => h) (Or.inl ⟨by rfl, ?y11⟩) hHeld ?_
    case y11 => (intro w hSw; (try dsimp only at hSw); go_simp <;> with_reducible rfl)
    try simp only [Act.put, List.getElem_toArray, List.getElem_cons_zero, List.getElem_cons_succ, List.setIfInBounds_toArray, List.set_cons_zero, List.set_cons_succ]
    refine wpAnyH_ready (rs := [10]) (by kernel_rfl) (by simp) ?_
    refine AllReadyH.cons rfl (fun K hK => ?_) AllReadyH.nil
    go_simp
    go_wp2_with (go_at_call 13; refine (H3.out _ h2).mono ?_; rintro e w6 ⟨rfl, bk⟩; have h3 : Below WF.heap.size WF w6 := h2.trans (bk.mono h2.size); clear bk H3)
    clear hHeld
    refine hK.out _ _ ?S13 (fun hHeld => ?_)
    case S13 => ((try dsimp only); first | (with_reducible exact KEEP.out _ h0) | (with_reducible exact KEEP.out _ h1) | (with_reducible exact KEEP.out _ h2) | (with_reducible exact KEEP.out _ h3) | (with_reducible exact KEEP.out _ h4) | (with_reducible exact KEEP.out _ h5) | (with_reducible exact KEEP.out _ h6) | (with_reducible exact KEEP.out _ h9))
    clear hK K
    refine wpAnyH_ready (rs := [13]) (by kernel_rfl) (by simp) ?_
    refine AllReadyH.cons rfl (fun K hK => ?_) AllReadyH.nil
    go_simp
    go_wp2_with (go_at_call 14; refine (H4.out _ h3).mono ?_; rintro e w7 ⟨rfl, bk⟩; have h4 : Below WF.heap.size WF w7 := h3.trans (bk.mono h3.size); clear bk H4)
    clear hHeld
    refine hK.out _ _ ?S14 (fun hHeld => ?_)
    case S14 => ((try dsimp only); first | (with_reducible exact KEEP.out _ h0) | (with_reducible exact KEEP.out _ h1) | (with_reducible exact KEEP.out _ h2) | (with_reducible exact KEEP.out _ h3) | (with_reducible exact KEEP.out _ h4) | (with_reducible exact KEEP.out _ h5) | (with_reducible exact KEEP.out _ h6) | (with_reducible exact KEEP.out _ h9))
    clear hK K
    refine wpAnyH_take (i := 14) (oi := _) (v := ?v14) rfl (by kernel_rfl) (by kernel_rfl) (by kernel_rfl) (fun _ _ _ h => h) (Or.inl ⟨by rfl, ?y14⟩) hHeld ?_
    case y14 => (intro w hSw; (try dsimp only at hSw); go_simp <;> with_reducible rfl)
    try simp only [Act.put, List.getElem_toArray, List.getElem_cons_zero, List.getElem_cons_succ, List.setIfInBounds_toArray, List.set_cons_zero, List.set_cons_succ]
    refine wpAnyH_take (i := 15) (oi := _) (v := ?v15) rfl (by kernel_rfl) (by kernel_rfl) (by kernel_rfl) (fun _ _ _ h => h) (Or.inl ⟨by rfl, ?y15⟩) hHeld ?_
    case y15 => (intro w hSw; (try dsimp only at hSw); go_simp <;> with_reducible rfl)
    try simp only [Act.put, List.getElem_toArray, List.getElem_cons_zero, List.getElem_cons_succ, List.setIfInBounds_toArray, List.set_cons_zero, List.set_cons_succ]
    refine wpAnyH_take (i := 16) (oi := _) (v := ?v16) rfl (by kernel_rfl) (by kernel_rfl) (by kernel_rfl) (fun _ _ _ h => h) (Or.inl ⟨by rfl, ?y16⟩) hHeld ?_
    case y16 => (intro w hSw; (try dsimp only at hSw); go_simp <;> with_reducible rfl)
    try simp only [Act.put, List.getElem_toArray, List.getElem_cons_zero, List.getElem_cons_succ, List.setIfInBounds_toArray, List.set_cons_zero, List.set_cons_succ]
    refine wpAnyH_take (i := 17) (oi := _) (v := ?v17) rfl (by kernel_rfl) (by kernel_rfl) (by kernel_rfl) (fun _ _ _ h => h) (Or.inl ⟨by rfl, ?y17⟩) hHeld ?_
    case y17 => (intro w hSw; (try dsimp only at hSw); go_simp <;> with_reducible rfl)
    try simp only [Act.put, List.getElem_toArray, List.getElem_cons_zero, List.getElem_cons_succ, List.setIfInBounds_toArray, List.set_cons_zero, List.set_cons_succ]
    refine wpAnyH_take (i := 19) (oi := _) (v := ?v18) rfl (by kernel_rfl) (by kernel_rfl) (by kernel_rfl) (fun _ _ _ h => h) (Or.inl ⟨by rfl, ?y18⟩) hHeld ?_
    case y18 => (intro w hSw; (try dsimp only at hSw); go_simp <;> with_reducible rfl)
    try simp only [Act.put, List.getElem_toArray, List.getElem_cons_zero, List.getElem_cons_succ, List.setIfInBounds_toArray, List.set_cons_zero, List.set_cons_succ]
    refine wpAnyH_ready (rs := [18]) (by kernel_rfl) (by simp) ?_
    refine AllReadyH.cons rfl (fun K hK => ?_) AllReadyH.nil
    go_simp
    go_wp2_with (go_at_call 15; refine (H5.out _ h4).mono ?_; rintro e w8 ⟨rfl, bk⟩; have h5 : Below WF.heap.size WF w8 := h4.trans (bk.mono h4.size); clear bk H5)
    clear hHeld
    refine hK.out _ _ ?S20 (fun hHeld => ?_)
    case S20 => ((try dsimp only); first | (with_reducible exact KEEP.out _ h0) | (with_reducible exact KEEP.out _ h1) | (with_reducible exact KEEP.out _ h2) | (with_reducible exact KEEP.out _ h3) | (with_reducible exact KEEP.out _ h4) | (with_reducible exact KEEP.out _ h5) | (with_reducible exact KEEP.out _ h6) | (with_reducible exact KEEP.out _ h9))
    clear hK K
    refine wpAnyH_ready (rs := [20]) (by kernel_rfl) (by simp) ?_
    refine AllReadyH.cons rfl (fun K hK => ?_) AllReadyH.nil
    go_simp
    go_wp2_with (go_at_call 16; refine (H6.out _ h5).mono ?_; rintro e w9 ⟨rfl, bk⟩; have h6 : Below WF.heap.size WF w9 := h5.trans (bk.mono h5.size); clear bk H6)
    clear hHeld
    refine hK.out _ _ ?S21 (fun hHeld => ?_)
    case S21 => ((try dsimp only); first | (with_reducible exact KEEP.out _ h0) | (with_reducible exact KEEP.out _ h1) | (with_reducible exact KEEP.out _ h2) | (with_reducible exact KEEP.out _ h3) | (with_reducible exact KEEP.out _ h4) | (with_reducible exact KEEP.out _ h5) | (with_reducible exact KEEP.out _ h6) | (with_reducible exact KEEP.out _ h9))
    clear hK K
    refine wpAnyH_take (i := 21) (oi := _) (v := ?v21) rfl (by kernel_rfl) (by kernel_rfl) (by kernel_rfl) (fun _ _ _ h => h) (Or.inl ⟨by rfl, ?y21⟩) hHeld ?_
    case y21 => (intro w hSw; (try dsimp only at hSw); go_simp <;> with_reducible rfl)
    try simp only [Act.put, List.getElem_toArray, List.getElem_cons_zero, List.getElem_cons_succ, List.setIfInBounds_toArray, List.set_cons_zero, List.set_cons_succ]
    refine wpAnyH_take (i := 22) (oi := _) (v := ?v22) rfl (by kernel_rfl) (by kernel_rfl) (by kernel_rfl) (fun _ _ _ h => h) (Or.inl ⟨by rfl, ?y22⟩) hHeld ?_
    case y22 => (intro w hSw; (try dsimp only at hSw); go_simp <;> with_reducible rfl)
    try simp only [Act.put, List.getElem_toArray, List.getElem_cons_zero, List.getElem_cons_succ, List.setIfInBounds_toArray, List.set_cons_zero, List.set_cons_succ]
    refine wpAnyH_take (i := 23) (oi := _) (v := ?v23) rfl (by kernel_rfl) (by kernel_rfl) (by kernel_rfl) (fun _ _ _ h => h) (Or.inl ⟨by rfl, ?y23⟩) hHeld ?_
    case y23 => (intro w hSw; (try dsimp only at hSw); go_simp <;> with_reducible rfl)
    try simp only [Act.put, List.getElem_toArray, List.getElem_cons_zero, List.getElem_cons_succ, List.setIfInBounds_toArray, List.set_cons_zero, List.set_cons_succ]
    refine wpAnyH_take (i := 24) (oi := _) (v := ?v24) rfl (by kernel_rfl) (by kernel_rfl) (by kernel_rfl) (fun _ _ _ h => h) (Or.inl ⟨by rfl, ?y24⟩) hHeld ?_
    case y24 => (intro w hSw; (try dsimp only at hSw); go_simp <;> with_reducible rfl)
    try simp only [Act.put, List.getElem_toArray, List.getElem_cons_zero, List.getElem_cons_succ, List.setIfInBounds_toArray, List.set_cons_zero, List.set_cons_succ]
    refine wpAnyH_take (i := 25) (oi := _) (v := ?v25) rfl (by kernel_rfl) (by kernel_rfl) (by kernel_rfl) (fun _ _ _ h => h) (Or.inl ⟨by rfl, ?y25⟩) hHeld ?_
    case y25 => (intro w hSw; (try dsimp only at hSw); go_simp <;> with_reducible rfl)
    try simp only [Act.put, List.getElem_toArray, List.getElem_cons_zero, List.getElem_cons_succ, List.setIfInBounds_toArray, List.set_cons_zero, List.set_cons_succ]
    refine wpAnyH_take (i := 26) (oi := _) (v := ?v26) rfl (by kernel_rfl) (by kernel_rfl) (by kernel_rfl) (fun _ _ _ h => h) (Or.inl ⟨by rfl, ?y26⟩) hHeld ?_
    case y26 => (intro w hSw; (try dsimp only at hSw); go_simp <;> with_reducible rfl)
    try simp only [Act.put, List.getElem_toArray, List.getElem_cons_zero, List.getElem_cons_succ, List.setIfInBounds_toArray, List.set_cons_zero, List.set_cons_succ]
    refine wpAnyH_take (i := 27) (oi := _) (v := ?v27) rfl (by kernel_rfl) (by kernel_rfl) (by kernel_rfl) (fun _ _ _ h => h) (Or.inl ⟨by rfl, ?y27⟩) hHeld ?_
    case y27 => (intro w hSw; (try dsimp only at hSw); go_simp <;> with_reducible rfl)
    try simp only [Act.put, List.getElem_toArray, List.getElem_cons_zero, List.getElem_cons_succ, List.setIfInBounds_toArray, List.set_cons_zero, List.set_cons_succ]
    refine wpAnyH_take (i := 28) (oi := _) (v := ?v28) rfl (by kernel_rfl) (by kernel_rfl) (by kernel_rfl) (fun _ _ _ h => h) (Or.inl ⟨by rfl, ?y28⟩) hHeld ?_
    case y28 => (intro w hSw; (try dsimp only at hSw); go_simp <;> with_reducible rfl)
    try simp only [Act.put, List.getElem_toArray, List.getElem_cons_zero, List.getElem_cons_succ, List.setIfInBounds_toArray, List.set_cons_zero, List.set_cons_succ]
    refine wpAnyH_take (i := 29) (oi := _) (v := undef) rfl (by kernel_rfl) (by kernel_rfl) (by kernel_rfl) (fun _ _ _ h => h) (Or.inr ⟨by rfl, rfl⟩) hHeld ?_
    try simp only [Act.put, List.getElem_toArray, List.getElem_cons_zero, List.getElem_cons_succ, List.setIfInBounds_toArray, List.set_cons_zero, List.set_cons_succ]
    refine wpAnyH_take (i := 30) (oi := _) (v := undef) rfl (by kernel_rfl) (by kernel_rfl) (by kernel_rfl) (fun _ _ _ h => h) (Or.inr ⟨by rfl, rfl⟩) hHeld ?_
    try simp only [Act.put, List.getElem_toArray, List.getElem_cons_zero, List.getElem_cons_succ, List.setIfInBounds_toArray, List.set_cons_zero, List.set_cons_succ]
    refine wpAnyH_take (i := 31) (oi := _) (v := undef) rfl (by kernel_rfl) (by kernel_rfl) (by kernel_rfl) (fun _ _ _ h => h) (Or.inr ⟨by rfl, rfl⟩) hHeld ?_
    try simp only [Act.put, List.getElem_toArray, List.getElem_cons_zero, List.getElem_cons_succ, List.setIfInBounds_toArray, List.set_cons_zero, List.set_cons_succ]
    refine wpAnyH_take (i := 32) (oi := _) (v := undef) rfl (by kernel_rfl) (by kernel_rfl) (by kernel_rfl) (fun _ _ _ h => h) (Or.inr ⟨by rfl, rfl⟩) hHeld ?_
    try simp only [Act.put, List.getElem_toArray, List.getElem_cons_zero, List.getElem_cons_succ, List.setIfInBounds_toArray, List.set_cons_zero, List.set_cons_succ]
    refine wpAnyH_take (i := 33) (oi := _) (v := undef) rfl (by kernel_rfl) (by kernel_rfl) (by kernel_rfl) (fun _ _ _ h => h) (Or.inr ⟨by rfl, rfl⟩) hHeld ?_
    try simp only [Act.put, List.getElem_toArray, List.getElem_cons_zero, List.getElem_cons_succ, List.setIfInBounds_toArray, List.set_cons_zero, List.set_cons_succ]
    refine wpAnyH_take (i := 34) (oi := _) (v := undef) rfl (by kernel_rfl) (by kernel_rfl) (by kernel_rfl) (fun _ _ _ h => h) (Or.inr ⟨by rfl, rfl⟩) hHeld ?_
    try simp only [Act.put, List.getElem_toArray, List.getElem_cons_zero, List.getElem_cons_succ, List.setIfInBounds_toArray, List.set_cons_zero, List.set_cons_succ]
    refine wpAnyH_take (i := 35) (oi := _) (v := undef) rfl (by kernel_rfl) (by kernel_rfl) (by kernel_rfl) (fun _ _ _ h => h) (Or.inr ⟨by rfl, rfl⟩) hHeld ?_
    try simp only [Act.put, List.getElem_toArray, List.getElem_cons_zero, List.getElem_cons_succ, List.setIfInBounds_toArray, List.set_cons_zero, List.set_cons_succ]
    refine wpAnyH_take (i := 36) (oi := _) (v := undef) rfl (by kernel_rfl) (by kernel_rfl) (by kernel_rfl) (fun _ _ _ h => h) (Or.inr ⟨by rfl, rfl⟩) hHeld ?_
    try simp only [Act.put, List.getElem_toArray, List.getElem_cons_zero, List.getElem_cons_succ, List.setIfInBounds_toArray, List.set_cons_zero, List.set_cons_succ]
    refine wpAnyH_take (i := 37) (oi := _) (v := undef) rfl (by kernel_rfl) (by kernel_rfl) (by kernel_rfl) (fun _ _ _ h => h) (Or.inr ⟨by rfl, rfl⟩) hHeld ?_
    try simp only [Act.put, List.getElem_toArray, List.getElem_cons_zero, List.getElem_cons_succ, List.setIfInBounds_toArray, List.set_cons_zero, List.set_cons_succ]
    refine wpAnyH_take (i := 38) (oi := _) (v := ?v38) rfl (by kernel_rfl) (by kernel_rfl) (by kernel_rfl) (fun _ _ _ h => h) (Or.inl ⟨by rfl, ?y38⟩) hHeld ?_
    case y38 => (intro w hSw; (try dsimp only at hSw); go_simp <;> with_reducible rfl)
    try simp only [Act.put, List.getElem_toArray, List.getElem_cons_zero, List.getElem_cons_succ, List.setIfInBounds_toArray, List.set_cons_zero, List.set_cons_succ]
    refine wpAnyH_take (i := 39) (oi := _) (v := ?v39) rfl (by kernel_rfl) (by kernel_rfl) (by kernel_rfl) (fun _ _ _ h => h) (Or.inl ⟨by rfl, ?y39⟩) hHeld ?_
    case y39 => (intro w hSw; (try dsimp only at hSw); go_simp <;> with_reducible rfl)
    try simp only [Act.put, List.getElem_toArray, List.getElem_cons_zero, List.getElem_cons_succ, List.setIfInBounds_toArray, List.set_cons_zero, List.set_cons_succ]
    refine wpAnyH_take (i := 40) (oi := _) (v := ?v40) rfl (by kernel_rfl) (by kernel_rfl) (by kernel_rfl) (fun _ _ _ h => h) (Or.inl ⟨by rfl, ?y40⟩) hHeld ?_
    case y40 => (intro w hSw; (try dsimp only at hSw); go_simp <;> with_reducible rfl)
    try simp only [Act.put, List.getElem_toArray, List.getElem_cons_zero, List.getElem_cons_succ, List.setIfInBounds_toArray, List.set_cons_zero, List.set_cons_succ]
    refine wpAnyH_take (i := 41) (oi := _) (v := ?v41) rfl (by kernel_rfl) (by kernel_rfl) (by kernel_rfl) (fun _ _ _ h => h) (Or.inl ⟨by rfl, ?y41⟩) hHeld ?_
    case y41 => (intro w hSw; (try dsimp only at hSw); go_simp <;> with_reducible rfl)
    try simp only [Act.put, List.getElem_toArray, List.getElem_cons_zero, List.getElem_cons_succ, List.setIfInBounds_toArray, List.set_cons_zero, List.set_cons_succ]
    refine wpAnyH_take (i := 42) (oi := _) (v := ?v42) rfl (by kernel_rfl) (by kernel_rfl) (by kernel_rfl) (fun _ _ _ h => h) (Or.inl ⟨by rfl, ?y42⟩) hHeld ?_
    case y42 => (intro w hSw; (try dsimp only at hSw); go_simp <;> with_reducible rfl)
    try simp only [Act.put, List.getElem_toArray, List.getElem_cons_zero, List.getElem_cons_succ, List.setIfInBounds_toArray, List.set_cons_zero, List.set_cons_succ]
    refine wpAnyH_ready (rs := [43]) (by kernel_rfl) (by simp) ?_
    refine AllReadyH.cons rfl (fun K hK => ?_) AllReadyH.nil
    go_simp
    go_wp2_with (go_at_call 13; refine (H9.out _ h6).mono ?_; rintro e wC ⟨rfl, bk⟩; have h9 : Below WF.heap.size WF wC := h6.trans (bk.mono h6.size); clear bk H9)
    clear hHeld
    refine hK.out _ _ ?S44 (fun hHeld => ?_)
    case S44 => ((try dsimp only); first | (with_reducible exact KEEP.out _ h0) | (with_reducible exact KEEP.out _ h1) | (with_reducible exact KEEP.out _ h2) | (with_reducible exact KEEP.out _ h3) | (with_reducible exact KEEP.out _ h4) | (with_reducible exact KEEP.out _ h5) | (with_reducible exact KEEP.out _ h6) | (with_reducible exact KEEP.out _ h9))
    clear hK K
    refine wpAnyH_take (i := 44) (oi := _) (v := ?v44) rfl (by kernel_rfl) (by kernel_rfl) (by kernel_rfl) (fun _ _ _ h => h) (Or.inl ⟨by rfl, ?y44⟩) hHeld ?_
    case y44 => (intro w hSw; (try dsimp only at hSw); go_simp <;> with_reducible rfl)
    try simp only [Act.put, List.getElem_toArray, List.getElem_cons_zero, List.getElem_cons_succ, List.setIfInBounds_toArray, List.set_cons_zero, List.set_cons_succ]
    refine wpAnyH_take (i := 45) (oi := _) (v := ?v45) rfl (by kernel_rfl) (by kernel_rfl) (by kernel_rfl) (fun _ _ _ h => h) (Or.inl ⟨by rfl, ?y45⟩) hHeld ?_
    case y45 => (intro w hSw; (try dsimp only at hSw); go_simp <;> with_reducible rfl)
    try simp only [Act.put, List.getElem_toArray, List.getElem_cons_zero, List.getElem_cons_succ, List.setIfInBounds_toArray, List.set_cons_zero, List.set_cons_succ]
    refine wpAnyH_done (by kernel_rfl) ?_ _
    go_wp2_with fail
    go_ret
    exact ⟨by simp, m5.trans (h9.mono m5.size)⟩
  · have hp0 : ((pv.length : Int) == 0) = false := by rw [beq_eq_false_iff_ne]; omega
    go_region_held (fun w' => w'.cell? ⟨BA, 0, none⟩ = some (.int .i64 a1) ∧ w'.cell? ⟨BA, 1, none⟩ = some (.int .i64 a2) ∧ w'.cell? ⟨BA, 2, none⟩ = some (.int .i64 a3) ∧ w'.cell? ⟨BA, 3, none⟩ = some (.slice qa na ca) ∧ w'.cell? ⟨BA + 1, 0, none⟩ = some (.int .i64 b1) ∧ w'.cell? ⟨BA + 1, 1, none⟩ = some (.int .i64 b2) ∧ w'.cell? ⟨BA + 1, 2, none⟩ = some (.int .i64 b3) ∧ w'.cell? ⟨BA + 1, 3, none⟩ = some (.slice qb nb cb) ∧ w'.cell? ⟨BC, 0, none⟩ = some (.int .i64 c1) ∧ w'.cell? ⟨BC, 1, none⟩ = some (.int .i64 c2) ∧ w'.cell? ⟨BC, 2, none⟩ = some (.int .i64 c3) ∧ w'.cell? ⟨BC, 3, none⟩ = some (.slice qc nc cc) ∧ w'.cell? ⟨BC + 1, 0, none⟩ = some (.int .i64 d1) ∧ w'.cell? ⟨BC + 1, 1, none⟩ = some (.int .i64 d2) ∧ w'.cell? ⟨BC + 1, 2, none⟩ = some (.int .i64 d3) ∧ w'.cell? ⟨BC + 1, 3, none⟩ = some (.slice qd nd cd) ∧ w'.cell? ⟨BV, 0, none⟩ = some (.int .i64 v1) ∧ w'.cell? ⟨BV, 1, none⟩ = some (.int .i64 v2) ∧ w'.cell? ⟨BV, 2, none⟩ = some (.int .i64 v3) ∧ w'.cell? ⟨BV, 3, none⟩ = some (.slice qv pv.length cv) ∧ w'.cell? ⟨BV + 1, 0, none⟩ = some (.int .i64 v1) ∧ w'.cell? ⟨BV + 1, 1, none⟩ = some (.int .i64 v2) ∧ w'.cell? ⟨BV + 1, 2, none⟩ = some (.int .i64 v3) ∧ w'.cell? ⟨BV + 1, 3, none⟩ = some (.slice (some ⟨BV + 1 + 1, 0, none⟩) 0 0)) (first | (with_reducible exact KEEP.out _ h0) | (with_reducible exact KEEP.out _ h1) | (with_reducible exact KEEP.out _ h2) | (with_reducible exact KEEP.out _ h3) | (with_reducible exact KEEP.out _ h4) | (with_reducible exact KEEP.out _ h5) | (with_reducible exact KEEP.out _ h6) | (with_reducible exact KEEP.out _ h7) | (with_reducible exact KEEP.out _ h8) | (with_reducible exact KEEP.out _ h9) | go_keep) (first
        | (go_at_call 11
           refine (H1.out _ h0).mono ?_
           rintro e w4 ⟨rfl, bk⟩
           have h1 : Below WF.heap.size WF w4 := h0.trans (bk.mono h0.size)
           clear bk H1)
        | (go_at_call 12
           refine (H2.out _ h1).mono ?_
           rintro e w5 ⟨rfl, bk⟩
           have h2 : Below WF.heap.size WF w5 := h1.trans (bk.mono h1.size)
           clear bk H2)
        | (go_at_call 13
           refine (H3.out _ h2).mono ?_
           rintro e w6 ⟨rfl, bk⟩
           have h3 : Below WF.heap.size WF w6 := h2.trans (bk.mono h2.size)
           clear bk H3)
        | (go_at_call 14
           refine (H4.out _ h3).mono ?_
           rintro e w7 ⟨rfl, bk⟩
           have h4 : Below WF.heap.size WF w7 := h3.trans (bk.mono h3.size)
           clear bk H4)
        | (go_at_call 15
           refine (H5.out _ h4).mono ?_
           rintro e w8 ⟨rfl, bk⟩
           have h5 : Below WF.heap.size WF w8 := h4.trans (bk.mono h4.size)
           clear bk H5)
        | (go_at_call 16
           refine (H6.out _ h5).mono ?_
           rintro e w9 ⟨rfl, bk⟩
           have h6 : Below WF.heap.size WF w9 := h5.trans (bk.mono h5.size)
           clear bk H6)
        | (go_at_call 11
           refine (H7.out hp _ h6).mono ?_
           rintro e wA ⟨rfl, bk⟩
           have h7 : Below WF.heap.size WF wA := h6.trans (bk.mono h6.size)
           clear bk H7)
        | (go_at_call 11
           refine (H8.out hp _ h7).mono ?_
           rintro e wB ⟨rfl, bk⟩
           have h8 : Below WF.heap.size WF wB := h7.trans (bk.mono h7.size)
           clear bk H8)
        | (go_at_call 13
           refine (H9.out _ h8).mono ?_
           rintro e wC ⟨rfl, bk⟩
           have h9 : Below WF.heap.size WF wC := h8.trans (bk.mono h8.size)
           clear bk H9))
    all_goals go_wp2_with fail
    all_goals go_ret
    all_goals exact ⟨by simp, m5.trans (h9.mono m5.size)⟩

set_option maxRecDepth 100000 in
theorem lifted (os : Os) (started : os.Started) (H : Type) (enc : TypeId × Value → H) :
    ReturnsInHanded {} Try.checked os 3 .any (Rows.fnVersBentSpec.pre6 enc Try.prog Try.f3 Rows.fnVersBentRow.domain false) (Rows.fnVersBentSpec.post enc Try.prog Try.f3 false true false false) := by
  refine returnsInHanded_of_change (C := Try.checked) own started (by kernel_rfl) Try.func3
    (ChangeSpec.witness6 (enc := enc) (C := Try.checked) false ⟨#[], #[.slice none 0 0], []⟩ 8 (by kernel_rfl) (by kernel_rfl) (by kernel_rfl) (by kernel_rfl)) ?_
  intro W base args ds gs before hval0 hW hcnd _
  have hval : ∀ (j : Nat) t v, Try.f3.params[j]? = some t → args[j]? = some v → Value.okWide Try.prog W .any base t v := hval0
  have hW' := hW
  obtain ⟨p, q, hA0, hV, rfl, hfz, hnd⟩ := hW
  have hA : DataW.TrodAll enc Try.prog W 0 (fun _ => true) true Try.f3.params.toList args.toList ds p := hA0
  rw [Try.params3] at hA hval
  obtain ⟨v0, vs0, d0, ds0, p0, q0, hargs, rfl, rfl, h0, r0⟩ := trodAll_cons hA
  obtain ⟨rfl, rfl, rfl⟩ := trodAll_nil r0
  obtain rfl : args = #[v0] := by cases args; simp_all
  obtain ⟨rfl, rfl⟩ := trodVars_none hV
  obtain ⟨a0, len0, cap0, rfl⟩ := okWide_slice Try.underlying22 (hval 0 22 v0 rfl rfl)
  have k0 := h0
  have lt0 : ∀ x ∈ p0, x.block < W.heap.size := by obtain ⟨m, hm⟩ := k0; exact DataW.trod_lt m _ _ _ hm
  obtain ⟨z0, t0, w0, l0⟩ : ∃ zs : List Int, Reads W (.slice a0 len0 cap0) (bytesV zs) ∧ (∀ z ∈ zs, 0 ≤ z ∧ z ≤ 255) ∧ zs.length ≤ maxLen := by
    obtain ⟨fuel, hf⟩ := h0
    rcases open_ints Try.underlying22 Try.underlying5 (by kernel_rfl) hf with ⟨hcs, _⟩ | ⟨x, l, c, zs, hcs, _, hl, hm, hz, _, hcell, hwz⟩
    · simp [Value.cells] at hcs
      obtain ⟨rfl, rfl, rfl⟩ := hcs
      exact ⟨[], ⟨none, 0, rfl, Nat.le_refl _, .inl rfl⟩, by simp, by simp⟩
    · simp [Value.cells] at hcs
      obtain ⟨rfl, rfl, rfl⟩ := hcs
      have hz' : zs.length = cap0 := by simpa using hz
      refine ⟨zs.take len0, reads_mk (by simp; omega) hl (fun i hi => ?_), fun z hzm => ?_, by simp; omega⟩
      · simp at hi
        rw [hcell i (by omega)]
        simp [bytesV, List.getD_eq_getElem?_getD, show i < zs.length by omega]
      · have := hwz z (List.mem_of_mem_take hzm)
        simpa [Lit.wf, IntKind.min, IntKind.max, IntKind.signed, IntKind.bits] using this
  clear hA0 hval0
  refine (walk _ z0 W t0 w0 l0).mono fun e W' ⟨he, bel⟩ => ?_
  subst he
  exact ⟨_, rfl, _, _, _, [], _, [], hW', trodAll_mk1 (shut_bool Try.underlying4 _), (trodAll_cons_mk (Below.trod laidOut (by kernel_rfl) (of_decide_eq_true (by kernel_rfl)) k0 bel lt0) trodAll_mk0), rfl, bel.frame _, fun h => by cases h⟩

theorem over : Rows.fnVersBentRow.holds Try.pinned (OpenSpec.ofChange Rows.fnVersBentSpec) :=
  OpenClaim.holds_of_wide 3 Try.f3 rfl rfl rfl rfl rfl rfl rfl ⟨rfl, rfl, rfl, rfl, rfl⟩ rfl rfl rfl rfl rfl (by kernel_rfl) Try.func3 (by kernel_rfl)
    (of_decide_eq_true (by kernel_rfl)) (by unfold Func.isWrapper; first | (rw [if_pos (by decide +kernel)]; kernel_rfl) | (rw [if_neg (by decide +kernel)]; exact ⟨rfl, rfl⟩))
    (fun os started H enc _ => lifted os started H enc)

theorem proved : Rows.FnVersBentSaid := over
end Go.Proofs.Ytdnpfkknnaepoaa.fnVersBent
namespace Go.Proofs.Ytdnpfkknnaepoaa
theorem fnVersBent_holds : Rows.FnVersBentSaid := fnVersBent.proved
#print axioms fnVersBent_holds
end Go.Proofs.Ytdnpfkknnaepoaa
