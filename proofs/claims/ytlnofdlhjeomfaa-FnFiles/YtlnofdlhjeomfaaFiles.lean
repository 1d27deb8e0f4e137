/-
  At every code the drawn list of files and the drawn file are as the law says: the program and the specification answer alike when it is put; what is put is got, what differs is just what turned, and what is dropped is gone, all others staying; no condition (a code of more than 2 to the 20 bytes is passed by, as the law says).
-/
import Derived.Test.YtlnofdlhjeomfaaRows
import Derived.WalkKit
import Derived.Test.YtlnofdlhjeomfaaFjD
import Derived.ProofKit
import Derived.OpenShut
import Derived.ShutString
import Derived.SliceStrings
import Derived.ChangeOld
import Derived.Below
namespace Go.Proofs.Ytlnofdlhjeomfaa.fnFiles
open Go.ChangeShapes Go.WideShapes Go.ChangeAt Go.RowKit
open Go.ChangeMaps (open_string shut_string)
set_option linter.unusedVariables false
set_option linter.unusedSimpArgs false

theorem own : ownKnob Try.prog.godebug = none := by kernel_rfl
theorem laidOut : laidOutB Try.prog = true := by kernel_rfl

theorem addr_add (b off i : Nat) : ((⟨b, off, none⟩ : Addr).add i) = ⟨b, off + i, none⟩ := by unfold Addr.add; split <;> simp_all
theorem reads_mk {w : World} {x : Addr} {len cap : Nat} {xs : List Value} (hl : xs.length = len) (hc : len ≤ cap) (hcell : ∀ i (h : i < xs.length), w.cell? (x.add i) = some xs[i]) : Reads w (.slice (some x) len cap) xs := by
  subst hl
  by_cases h0 : xs.length = 0
  · exact ⟨some x, cap, rfl, hc, .inl (List.eq_nil_of_length_eq_zero h0)⟩
  · obtain ⟨b, off, spot⟩ := x
    have hc0 := hcell 0 (by omega)
    have hspot : spot = none := by simpa [Addr.add] using World.cell?_spot hc0
    subst hspot
    refine ⟨some ⟨b, off, none⟩, cap, rfl, hc, .inr ⟨b, off, rfl, ?_, fun i hi => ?_⟩⟩
    · rw [addr_add] at hc0; exact World.block_lt_of_cell? w _ hc0
    · have := hcell i hi; rw [addr_add] at this; exact this

set_option maxHeartbeats 4000000 in
set_option maxRecDepth 100000 in
theorem walk (a0 : Value) (z0 : List Int) (w : World) (r0 : Reads w a0 (bytesV z0)) (w0 : ∀ z ∈ z0, 0 ≤ z ∧ z ≤ 255) (l0 : z0.length ≤ maxLen) :
    Calls Try.prog 3 #[a0] w fun e w' => e = .returned (.bool true) ∧ Below w.heap.size w w' := by
  by_cases hbig : (1048576 : Int) < (z0.length : Int)
  · have HBG := bigYes_c a0 z0 w r0 hbig
    go_enter Try.func3, Try.ntmps3
    go_wp2_with (go_at_call 7; refine HBG.mono ?_; rintro e w1 ⟨rfl, rfl⟩)
    go_ret
    exact ⟨rfl, Below.refl _ _⟩
  have HBG := bigNo_c a0 z0 w r0 hbig
  have hn : z0.length ≤ 1048576 := by omega
  have HR : Hid (∀ w', Below w.heap.size w w' → Reads w' a0 (bytesV z0)) := fun w' h => r0.below h
  have HZ : Hid (∀ z ∈ z0, 0 ≤ z ∧ z ≤ 255) := w0
  clear r0 w0 hbig
  go_enter Try.func3, Try.ntmps3
  go_wp2_with fail
  go_at_call 7
  refine HBG.mono ?_
  rintro e w1 ⟨rfl, rfl⟩
  clear HBG
  go_wp2_with fail
  go_at_call 8
  refine (drawPut_c a0 z0 _ (HR.out _ (Below.refl _ _)) hn HZ.out).mono ?_
  rintro e w2 ⟨xl, L, f0, rfl, oL, hL, hfp0, hfs0, k2⟩
  obtain ⟨fp, ft⟩ := f0
  obtain ⟨f, hf⟩ : ∃ f : FileD, f = ⟨fp, ft⟩ := ⟨_, rfl⟩
  have efp : fp = f.p := by rw [hf]
  have eft : ft = f.t := by rw [hf]
  have hfp : f.p ∈ pathsL ∨ f.p ∈ newL := by rw [hf]; exact hfp0
  have hfs : smallF f := by rw [hf]; exact hfs0
  clear hf hfp0 hfs0
  have tL : Hid (twoF L) := twoF_any hL
  have KL := kf_owns oL (twoF_sane tL.out)
  obtain ⟨ql, cl, hxl⟩ := KL.slice
  subst hxl
  obtain ⟨O, hO⟩ : ∃ o, o = Obj.cells #[.string fp, .string ft] 26 := ⟨_, rfl⟩
  have c2 : Below (w2.alloc O).heap.size (w2.alloc O) (w2.alloc O) := Below.refl _ _
  have X0 : Hid (∀ w', Below (w2.alloc O).heap.size (w2.alloc O) w' → w'.cell? ⟨w2.heap.size, 0, none⟩ = some (.string fp) ∧ w'.cell? ⟨w2.heap.size, 1, none⟩ = some (.string ft)) := fun w' h => by
    have hx := boxAt h
    rw [hO] at hx
    exact ⟨vblk_cell hx 0, vblk_cell hx 1⟩
  have k2a : Below w2.heap.size w2 (w2.alloc O) := (Below.refl _ _).alloc (Nat.le_refl _) _
  have KL := KL.on k2a
  have HP1 := callPut (f := f) KL hL hfp hfs
  have HP2 := fun w' h => callPut2 (w := w') (f := f) (KF.on KL h) hL hfs
  obtain ⟨b, hb⟩ : ∃ b, b = filesB (putS L f) := ⟨_, rfl⟩
  obtain ⟨X, hX⟩ : ∃ b, b = putOut L f := ⟨_, rfl⟩
  rw [← hb, ← hX, ← efp, ← eft] at HP1
  simp only [← hb, ← hX, ← efp, ← eft] at HP2
  have HP2 := hidden HP2
  have HB := hidden hb
  have HX := hidden hX
  have HL := hidden hL
  have HFP := hidden hfp
  have HFS := hidden hfs
  have EFP := hidden efp
  have EFT := hidden eft
  have hps := path_short hfp
  rw [← efp] at hps
  subst hO
  clear oL hb hX hL hfp hfs efp eft
  go_wp2_with fail
  go_at_call 9
  refine HP1.mono ?_
  rintro e w3 ⟨x, rfl, KX, b3⟩
  have c3 := below_step c2 b3
  obtain ⟨x0, x1⟩ := X0.out _ c3
  have KL := KL.on b3
  obtain ⟨qx, cx, hxx⟩ := KX.slice
  subst hxx
  go_wp2_with fail
  go_at_call 10
  refine (HP2.out _ b3).mono ?_
  rintro e w4 ⟨y, rfl, KY, b4⟩
  have c4 := below_step c3 b4
  obtain ⟨x0, x1⟩ := X0.out _ c4
  have KL := KL.on b4
  have KX := KX.on b4
  obtain ⟨qy, cy, hxy⟩ := KY.slice
  subst hxy
  clear HP1 HP2 b3 b4
  cases b with
  | false =>
    have hXL : X = L := HX.out.trans (putOut_no HB.out.symm)
    subst hXL
    go_wp2_with fail
    go_at_call 11
    refine (callSame KX KY).mono ?_
    rintro e w5 ⟨rfl, b5⟩
    have c5 := below_step c4 b5
    obtain ⟨x0, x1⟩ := X0.out _ c5
    have KL := KL.on b5
    have KX := KX.on b5
    go_wp2_with fail
    go_at_call 11
    refine (callSame KX KL).mono ?_
    rintro e w6 ⟨rfl, b6⟩
    have c6 := below_step c5 b6
    obtain ⟨x0, x1⟩ := X0.out _ c6
    go_wp2_with fail
    go_ret
    exact ⟨rfl, k2.trans ((k2a.trans (c6.mono k2a.size)).mono k2.size)⟩
  | true =>
    have hXS : X = putS L f := HX.out.trans (putOut_yes HB.out.symm)
    have hbX : filesB X = true := by rw [hXS]; exact HB.out.symm
    have hgX : getF X f.p = some f := by rw [hXS]; exact putS_get HB.out.symm
    have tX : twoF X := by rw [hXS]; exact twoF_put tL.out HFS.out HB.out.symm
    have HG1 := fun w' (h : KF w' (.slice qx X.length cx) X) => callGet (p := fp) h tX hps
    have e1 : getF X fp = some f := by rw [EFP.out]; exact hgX
    simp only [e1] at HG1
    have e2 : textF (some f) = ft := EFT.out.symm
    have e3 : (some f).isSome = true := rfl
    simp only [e2, e3] at HG1
    have HG1 := hidden HG1
    have HG2 := fun w' (h : KF w' (.slice ql L.length cl) L) => callGet (p := fp) h tL.out hps
    obtain ⟨old, hold⟩ : ∃ t, t = textF (getF L fp) := ⟨_, rfl⟩
    obtain ⟨was, hwas⟩ : ∃ t, t = (getF L fp).isSome := ⟨_, rfl⟩
    simp only [← hold, ← hwas] at HG2
    have HG2 := hidden HG2
    have hdr := drop_yes hbX hgX
    rw [← EFP.out] at hdr
    have HD := fun w' (h : KF w' (.slice qx X.length cx) X) => callDrop (p := fp) h tX hps
    obtain ⟨Z, hZ⟩ : ∃ z, z = dropS X fp := ⟨_, rfl⟩
    simp only [hdr.1, hdr.2, ← hZ] at HD
    have HD := hidden HD
    have hbZ : filesB Z = true := by rw [hZ]; exact filesB_drop hbX _
    have tZ : twoF Z := by rw [hZ]; exact twoF_drop tX hbX _
    have hgZ : getF Z fp = none := by rw [hZ]; exact drop_none (filesB_dif hbX) fp
    have hz30 : Z.length ≤ 30 := filesB_len hbZ
    have hlen : Z.length + 1 = X.length := by rw [hZ, EFP.out]; exact drop_len hgX
    have HG3 := fun w' z (h : KF w' z Z) => callGet (p := fp) h tZ hps
    simp only [hgZ] at HG3
    have HG3 := hidden HG3
    have HO1 := fun w' (h : KF w' (.slice qx X.length cx) X) => callOk h tX
    simp only [hbX] at HO1
    have HO1 := hidden HO1
    have HO2 := fun w' z (h : KF w' z Z) => callOk h tZ
    simp only [hbZ] at HO2
    have HO2 := hidden HO2
    have TX := hidden tX
    have HLEN := hidden hlen
    have HXS := hidden hXS
    have HOLD := hidden hold
    have HWAS := hidden hwas
    clear hXS hbX hgX tX e1 e2 e3 hold hwas hdr hZ hbZ tZ hgZ hlen
    go_wp2_with fail
    go_at_call 11
    refine (callSame KX KY).mono ?_
    rintro e w5 ⟨rfl, b5⟩
    have c5 := below_step c4 b5
    obtain ⟨x0, x1⟩ := X0.out _ c5
    have KL := KL.on b5
    have KX := KX.on b5
    clear KY
    go_wp2_with fail
    go_at_call 12
    refine (HG1.out _ KX).mono ?_
    rintro e w6 ⟨rfl, b6⟩
    have c6 := below_step c5 b6
    obtain ⟨x0, x1⟩ := X0.out _ c6
    have KL := KL.on b6
    have KX := KX.on b6
    go_wp2_with fail
    go_at_call 12
    refine (HG2.out _ KL).mono ?_
    rintro e w7 ⟨rfl, b7⟩
    have c7 := below_step c6 b7
    obtain ⟨x0, x1⟩ := X0.out _ c7
    have KL := KL.on b7
    have KX := KX.on b7
    go_wp2_with fail
    go_at_call 13
    refine (callDiff KL KX tL.out TX.out).mono ?_
    rintro e w8 ⟨xd, ts, rfl, hts, oD, b8⟩
    have c8 := below_step c7 b8
    obtain ⟨x0, x1⟩ := X0.out _ c8
    have KL := KL.on b8
    have KX := KX.on b8
    obtain ⟨qd, cd, hxd⟩ := owns_sliceD oD
    subst hxd
    have RD : Hid (∀ w', Below w8.heap.size w8 w' → Reads w' (.slice qd ts.length cd) (strsV ts)) := fun w' h => (reads_of_owns oD).below h
    have HTS := hidden hts
    have d8 : Below w8.heap.size w8 w8 := Below.refl _ _
    clear oD hts
    go_wp2_with fail
    go_at_call 14
    refine (HD.out _ KX).mono ?_
    rintro e w9 ⟨z, rfl, KZ, b9⟩
    have c9 := below_step c8 b9
    obtain ⟨x0, x1⟩ := X0.out _ c9
    have KL := KL.on b9
    have KX := KX.on b9
    have d9 := below_step d8 b9
    obtain ⟨qz, cz, hxz⟩ := KZ.slice
    subst hxz
    go_wp2_with fail
    go_at_call 12
    refine (HG3.out _ _ KZ).mono ?_
    rintro e w10 ⟨rfl, b10⟩
    have c10 := below_step c9 b10
    obtain ⟨x0, x1⟩ := X0.out _ c10
    have KL := KL.on b10
    have KX := KX.on b10
    have KZ := KZ.on b10
    have d10 := below_step d9 b10
    clear HG1 HG2 HG3 HD
    have KL10 := KL
    have KX10 := KX
    have hcx := c10
    by_cases hcase : was = true ∧ old = ft
    · obtain ⟨y, hy, hyt⟩ : ∃ y, getF L f.p = some y ∧ y.t = f.t := by
        have h1 := HWAS.out; have h2 := HOLD.out
        rw [hcase.1] at h1; rw [hcase.2] at h2
        rw [EFP.out] at h1 h2; rw [EFT.out] at h2
        cases hg : getF L f.p with
        | none => rw [hg] at h1; cases h1
        | some y => rw [hg] at h2; exact ⟨y, rfl, h2.symm⟩
      have hXL : X = L := HXS.out.trans (put_same HL.out HFP.out HB.out.symm hy hyt)
      subst hXL
      have hne := diffTs_self HTS.out
      subst hne
      obtain ⟨hw1, ho1⟩ := hcase
      subst hw1 ho1
      clear hy hyt HTS RD HXS HX HB
      go_wp2_with fail
      go_at_call 11
      refine (callSame KX10 KL10).mono ?_
      rintro e w11 ⟨rfl, b11⟩
      have c11 := below_step hcx b11
      obtain ⟨x0, x1⟩ := X0.out _ c11
      go_wp2_with fail
      go_ret
      exact ⟨by first | rfl | simp, k2.trans ((k2a.trans (c11.mono k2a.size)).mono k2.size)⟩
    · have hts : ts = [f.p] := diffTs_put (by rw [← HXS.out]; exact HTS.out) HB.out.symm (fun y hy ht => hcase (by
        have h1 := HWAS.out; have h2 := HOLD.out
        rw [EFP.out, hy] at h1 h2
        exact ⟨h1, by rw [h2, EFT.out]; exact ht⟩))
      rw [← EFP.out] at hts
      have HW : Hid (¬ (was = true ∧ old = ft)) := hcase
      have hwq : (was && (old.toList == ft.toList)) = false := by
        cases was with
        | false => rfl
        | true =>
          cases hh : (old.toList == ft.toList) with
          | false => rfl
          | true => exact absurd ⟨rfl, bytes_eq_of_toList (by simpa using hh)⟩ hcase
      have HQ := hidden hwq
      subst hts
      clear hcase hwq HXS HX HB
      have hl1 : ((Z.length : Int) + 1 == (X.length : Int)) = true := by have := HLEN.out; simp; omega
      have HL1 := hidden hl1
      clear hl1
      have HST : Hid (∀ w', Below w8.heap.size w8 w' → Calls Try.prog 16 #[.slice qd 1 cd, .slice (some ⟨w'.heap.size, 0, none⟩) 1 1] (w'.alloc (.cells #[.string fp] 9)) fun e w2 => e = .returned (.bool true) ∧ Below (w'.alloc (.cells #[.string fp] 9)).heap.size (w'.alloc (.cells #[.string fp] 9)) w2) := fun w' h => by
        have ka : Below w'.heap.size w' (w'.alloc (.cells #[.string fp] 9)) := (Below.refl _ _).alloc (Nat.le_refl _) _
        have hh := sameTexts_c (.slice qd 1 cd) (.slice (some ⟨w'.heap.size, 0, none⟩) 1 1) [fp] [fp] (w'.alloc (.cells #[.string fp] 9)) ((RD.out w' h).below ka) (reads_of_owns (lit_row w' [fp] (by simp [maxLen]))) (by simp)
        rwa [decide_eq_true rfl] at hh
      clear RD HTS
      cases was with
      | false =>
        clear HQ HW
        go_wp2_with fail
        go_at_call 15
        refine (HO1.out _ KX).mono ?_
        rintro e w11 ⟨rfl, b11⟩
        have c11 := below_step c10 b11
        obtain ⟨x0, x1⟩ := X0.out _ c11
        have KX := KX.on b11
        have KZ := KZ.on b11
        have d11 := below_step d10 b11
        have ka : Below w11.heap.size w11 (w11.alloc (.cells #[.string fp] 9)) := (Below.refl _ _).alloc (Nat.le_refl _) _
        have c11 := below_step c11 ka
        have KZ := KZ.on ka
        go_wp2_with fail
        go_at_call 16
        refine (HST.out _ d11).mono ?_
        rintro e w12 ⟨rfl, b12⟩
        have c12 := below_step c11 b12
        obtain ⟨x0, x1⟩ := X0.out _ c12
        have KZ := KZ.on b12
        go_wp2_with fail
        go_at_call 15
        refine (HO2.out _ _ KZ).mono ?_
        rintro e w13 ⟨rfl, b13⟩
        have c13 := below_step c12 b13
        obtain ⟨x0, x1⟩ := X0.out _ c13
        go_wp2_with fail
        go_ret
        exact ⟨by first | rfl | (have h := HLEN.out; simp [← h]; done) | (rw [HL1.out]; rfl), k2.trans ((k2a.trans (c13.mono k2a.size)).mono k2.size)⟩
      | true =>
        have hoq : (old.toList == ft.toList) = false := by simpa using HQ.out
        clear HQ HW
        go_wp2_with fail
        go_at_call 15
        refine (HO1.out _ KX).mono ?_
        rintro e w11 ⟨rfl, b11⟩
        have c11 := below_step c10 b11
        obtain ⟨x0, x1⟩ := X0.out _ c11
        have KX := KX.on b11
        have KZ := KZ.on b11
        have d11 := below_step d10 b11
        have ka : Below w11.heap.size w11 (w11.alloc (.cells #[.string fp] 9)) := (Below.refl _ _).alloc (Nat.le_refl _) _
        have c11 := below_step c11 ka
        have KZ := KZ.on ka
        go_wp2_with fail
        go_at_call 16
        refine (HST.out _ d11).mono ?_
        rintro e w12 ⟨rfl, b12⟩
        have c12 := below_step c11 b12
        obtain ⟨x0, x1⟩ := X0.out _ c12
        have KZ := KZ.on b12
        go_wp2_with fail
        go_at_call 15
        refine (HO2.out _ _ KZ).mono ?_
        rintro e w13 ⟨rfl, b13⟩
        have c13 := below_step c12 b13
        obtain ⟨x0, x1⟩ := X0.out _ c13
        go_wp2_with fail
        go_ret
        exact ⟨by first | rfl | (have h := HLEN.out; simp [← h]; done) | (rw [HL1.out]; rfl), k2.trans ((k2a.trans (c13.mono k2a.size)).mono k2.size)⟩

set_option maxRecDepth 100000 in
theorem lifted (os : Os) (started : os.Started) (H : Type) (enc : TypeId × Value → H) :
    ReturnsInHanded {} Try.checked os 3 .any (Rows.fnFilesSpec.pre6 enc Try.prog Try.f3 Rows.fnFilesRow.domain false) (Rows.fnFilesSpec.post enc Try.prog Try.f3 false true false false) := by
  refine returnsInHanded_of_change (C := Try.checked) own started (by kernel_rfl) Try.func3
    (ChangeSpec.witness6 (enc := enc) (C := Try.checked) false ⟨#[], #[.slice none 0 0], []⟩ 8 (by kernel_rfl) (by kernel_rfl) (by kernel_rfl) (by kernel_rfl)) ?_
  intro W base args ds gs before hval0 hW hcnd _
  have hval : ∀ (j : Nat) t v, Try.f3.params[j]? = some t → args[j]? = some v → Value.okWide Try.prog W .any base t v := hval0
  have hW' := hW
  obtain ⟨p, q, hA0, hV, rfl, hfz, hnd⟩ := hW
  have hA : DataW.TrodAll enc Try.prog W 0 (fun _ => true) true Try.f3.params.toList args.toList ds p := hA0
  rw [Try.params3] at hA hval
  obtain ⟨v0, vs0, d0, ds0, p0, q0, hargs, rfl, rfl, h0, r0⟩ := trodAll_cons hA
  obtain ⟨rfl, rfl, rfl⟩ := trodAll_nil r0
  obtain rfl : args = #[v0] := by cases args; simp_all
  obtain ⟨rfl, rfl⟩ := trodVars_none hV
  obtain ⟨a0, len0, cap0, rfl⟩ := okWide_slice Try.underlying22 (hval 0 22 v0 rfl rfl)
  have k0 := h0
  have lt0 : ∀ x ∈ p0, x.block < W.heap.size := by obtain ⟨m, hm⟩ := k0; exact DataW.trod_lt m _ _ _ hm
  obtain ⟨z0, t0, w0, l0⟩ : ∃ zs : List Int, Reads W (.slice a0 len0 cap0) (bytesV zs) ∧ (∀ z ∈ zs, 0 ≤ z ∧ z ≤ 255) ∧ zs.length ≤ maxLen := by
    obtain ⟨fuel, hf⟩ := h0
    rcases open_ints Try.underlying22 Try.underlying5 (by kernel_rfl) hf with ⟨hcs, _⟩ | ⟨x, l, c, zs, hcs, _, hl, hm, hz, _, hcell, hwz⟩
    · simp [Value.cells] at hcs
      obtain ⟨rfl, rfl, rfl⟩ := hcs
      exact ⟨[], ⟨none, 0, rfl, Nat.le_refl _, .inl rfl⟩, by simp, by simp⟩
    · simp [Value.cells] at hcs
      obtain ⟨rfl, rfl, rfl⟩ := hcs
      have hz' : zs.length = cap0 := by simpa using hz
      refine ⟨zs.take len0, reads_mk (by simp; omega) hl (fun i hi => ?_), fun z hzm => ?_, by simp; omega⟩
      · simp at hi
        rw [hcell i (by omega)]
        simp [bytesV, List.getD_eq_getElem?_getD, show i < zs.length by omega]
      · have := hwz z (List.mem_of_mem_take hzm)
        simpa [Lit.wf, IntKind.min, IntKind.max, IntKind.signed, IntKind.bits] using this
  clear hA0 hval0
  refine (walk _ z0 W t0 w0 l0).mono fun e W' ⟨he, bel⟩ => ?_
  subst he
  exact ⟨_, rfl, _, _, _, [], _, [], hW', trodAll_mk1 (shut_bool Try.underlying4 _), (trodAll_cons_mk (Below.trod laidOut (by kernel_rfl) (of_decide_eq_true (by kernel_rfl)) k0 bel lt0) trodAll_mk0), rfl, bel.frame _, fun h => by cases h⟩

theorem over : Rows.fnFilesRow.holds Try.pinned (OpenSpec.ofChange Rows.fnFilesSpec) :=
  OpenClaim.holds_of_wide 3 Try.f3 rfl rfl rfl rfl rfl rfl rfl ⟨rfl, rfl, rfl, rfl, rfl⟩ rfl rfl rfl rfl rfl (by kernel_rfl) Try.func3 (by kernel_rfl)
    (of_decide_eq_true (by kernel_rfl)) (by unfold Func.isWrapper; first | (rw [if_pos (by decide +kernel)]; kernel_rfl) | (rw [if_neg (by decide +kernel)]; exact ⟨rfl, rfl⟩))
    (fun os started H enc _ => lifted os started H enc)

theorem proved : Rows.FnFilesSaid := over
end Go.Proofs.Ytlnofdlhjeomfaa.fnFiles
namespace Go.Proofs.Ytlnofdlhjeomfaa
theorem fnFiles_holds : Rows.FnFilesSaid := fnFiles.proved
#print axioms fnFiles_holds
end Go.Proofs.Ytlnofdlhjeomfaa
