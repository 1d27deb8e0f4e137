/-
  What the program's reader of versions does at each sign: contracts for the walks; condition: what it holds lies in memory as told.
-/
import Derived.Test.YtdnpfkknnaepoaaDoorVerM
namespace Go.Proofs.YtdnpfkknnaepoaaDoor
open Go.RowKit
set_option linter.unusedSimpArgs false
set_option linter.unusedVariables false

set_option maxHeartbeats 2000000 in
set_option maxRecDepth 100000 in
theorem takes_dot (R base : Nat) (ws ns : List Int) (ps : List ByteArray) (inP : Bool) (w : World) (h : Rd w R base ws ns ps inP) (hR : R < base) (hbw : base ≤ w.heap.size) (hw : ws.length ≤ 1048576) (hns : ns.length ≤ 1048576) (hps : ps.length ≤ 1048576) :
    Calls Tryd.prog 36 #[.pointer (some ⟨R, 0, none⟩), .int .i32 46] w fun e w' => e = .returned (.bool (endOk ns ps inP (strOfNums ws))) ∧ Rd w' R base [] (endNs ns inP (strOfNums ws)) (endPs ps inP (strOfNums ws)) inP ∧ Only R base w w' := by
  have HE := ends_c R base ws ns ps inP w h hR hbw hw hns hps
  clear h
  go_enter Tryd.func36, Tryd.ntmps36
  go_wp2_with (go_at_call 37; refine HE.mono ?_; rintro e w1 ⟨rfl, h1, o1⟩)
  go_ret
  exact ⟨rfl, h1, o1⟩

set_option maxHeartbeats 2000000 in
set_option maxRecDepth 100000 in
theorem takes_dash (R base : Nat) (ws ns : List Int) (ps : List ByteArray) (w : World) (h : Rd w R base ws ns ps false) (hR : R < base) (hbw : base ≤ w.heap.size) (hw : ws.length ≤ 1048576) (hns : ns.length ≤ 1048576) (hps : ps.length ≤ 1048576) :
    Calls Tryd.prog 36 #[.pointer (some ⟨R, 0, none⟩), .int .i32 45] w fun e w' => e = .returned (.bool (endOk ns ps false (strOfNums ws))) ∧ Rd w' R base [] (endNs ns false (strOfNums ws)) (endPs ps false (strOfNums ws)) true ∧ Only R base w w' := by
  have HE := ends_c R base ws ns ps false w h hR hbw hw hns hps
  obtain ⟨vw, vn, vp, hF, hWr, hNr, hPr⟩ := h
  obtain ⟨c0, c1, c2, c3⟩ := hF.cells
  clear hWr hNr hPr hF
  go_enter Tryd.func36, Tryd.ntmps36
  go_wp2_with fail
  go_at_call 37
  refine HE.mono ?_
  rintro e w1 ⟨rfl, ⟨vw', vn', vp', F1, hW1, hN1, hP1⟩, o1⟩
  obtain ⟨d0, d1, d2, d3⟩ := F1.cells
  have g3 := F1.frozen 3
  go_wp2_with fail
  go_ret
  exact ⟨rfl, ⟨_, _, _, (four_set F1 (.bool true)).2.2.2, owns_set hW1 (p := ⟨R, 3, none⟩) hR _, owns_set hN1 (p := ⟨R, 3, none⟩) hR _, owns_set hP1 (p := ⟨R, 3, none⟩) hR _⟩, o1.trans (Only.set w1 3 _)⟩

theorem pre_range {c : Int} (h : preB c = true) : 45 ≤ c ∧ c ≤ 122 := by
  simp [preB, smallB, inB, digitB] at h; omega

set_option maxHeartbeats 2000000 in
set_option maxRecDepth 100000 in
theorem takes_sign (R base : Nat) (ws ns : List Int) (ps : List ByteArray) (inP : Bool) (c : Int) (w : World) (h : Rd w R base ws ns ps inP) (hR : R < base) (hbw : base ≤ w.heap.size) (hw : ws.length ≤ 1048576) (hc1 : ¬ c = 46) (hc2 : ¬ (c = 45 ∧ inP = false)) (hp : preB c = true) :
    Calls Tryd.prog 36 #[.pointer (some ⟨R, 0, none⟩), .int .i32 c] w fun e w' => e = .returned (.bool true) ∧ Rd w' R base (ws ++ [c]) ns ps inP ∧ Only R base w w' := by
  obtain ⟨i0, hi, hz0, hz1, hz2⟩ := info_parts info5
  have hcr := pre_range hp
  obtain ⟨hcl, hch⟩ := hcr
  obtain ⟨vw, vn, vp, hF, hWr, hNr, hPr⟩ := h
  obtain ⟨c0, c1, c2, c3⟩ := hF.cells
  have f0 := hF.frozen 0
  have hlR := hF.lt
  have e1 : (c == 46) = false := by simpa using hc1
  have HC : Hid (∀ j u, (bytesV [c])[j]? = some u → (w.alloc (.cells #[.int .u8 c] 5)).cell? ((⟨w.heap.size, 0, none⟩ : Addr).add j) = some u) := cell_byte w c
  have hPA := hPr.alloc (.cells #[.int .u8 c] 5)
  have hNA := hNr.alloc (.cells #[.int .u8 c] 5)
  have hWA := hWr.alloc (.cells #[.int .u8 c] 5)
  have FA := four_old hF (.cells #[.int .u8 c] 5)
  have OA : Only R base w (w.alloc (.cells #[.int .u8 c] 5)) := Only.alloc _ hbw
  have hbA : base ≤ (w.alloc (.cells #[.int .u8 c] 5)).heap.size := Nat.le_trans hbw OA.size
  have HP : Hid ((w.alloc (.cells #[.int .u8 c] 5)).ownsRow base 5 1 vw ws.length (bytesV ws)) := hWA
  obtain ⟨vna, vnn, vnc, rfl⟩ : ∃ a n cap, vw = .slice a n cap := by rcases hWr.2 with ⟨rfl, _⟩ | ⟨g, cap, cur, rfl, _⟩ <;> exact ⟨_, _, _, rfl⟩
  have hwu : IntKind.u8.wrap c = c := by simp [IntKind.wrap, IntKind.signed, IntKind.bits]; omega
  clear hWr hNr hPr hF hWA
  have hfin : ∀ v2 w2, w2.ownsRow base 5 1 v2 (ws.length + 1) (bytesV ws ++ bytesV [c]) → (w.alloc (.cells #[.int .u8 c] 5)).grownBy w2 (Value.ownBlock (.slice vna vnn vnc)) → Four w2 R 62 (.slice vna vnn vnc) vn vp (.bool inP) ∧ Rd (w2.setCell ⟨R, 0, none⟩ v2) R base (ws ++ [c]) ns ps inP ∧ Only R base w (w2.setCell ⟨R, 0, none⟩ v2) := fun v2 w2 o2 gr2 => by
    have hrow : ∀ k, Value.ownBlock (.slice vna vnn vnc) = some k → base ≤ k := fun k hk => (HP.out.lt k hk).1
    have F2 := FA.grown gr2 hR hrow
    have hP2 := hPA.kept gr2 (rows_apart HP.out hPA (by decide))
    have hN2 := hNA.kept gr2 (rows_apart HP.out hNA (by decide))
    rw [show bytesV ws ++ bytesV [c] = bytesV (ws ++ [c]) by simp [bytesV]] at o2
    refine ⟨F2, ⟨_, _, _, (four_set F2 v2).1, by simpa using owns_set o2 (p := ⟨R, 0, none⟩) hR v2, owns_set hN2 (p := ⟨R, 0, none⟩) hR v2, owns_set hP2 (p := ⟨R, 0, none⟩) hR v2⟩, (OA.trans (Only.grown gr2 hbA hrow)).trans (Only.set w2 0 v2)⟩
  have HF : Hid (∀ v2 w2, w2.ownsRow base 5 1 v2 (ws.length + 1) (bytesV ws ++ bytesV [c]) → (w.alloc (.cells #[.int .u8 c] 5)).grownBy w2 (Value.ownBlock (.slice vna vnn vnc)) → Four w2 R 62 (.slice vna vnn vnc) vn vp (.bool inP) ∧ Rd (w2.setCell ⟨R, 0, none⟩ v2) R base (ws ++ [c]) ns ps inP ∧ Only R base w (w2.setCell ⟨R, 0, none⟩ v2)) := hfin
  clear hfin hPA hNA FA OA
  by_cases hd : c = 45
  · have hin : inP = true := by cases inP with | true => rfl | false => exact absurd ⟨hd, rfl⟩ hc2
    subst hin
    have e2 : (c == 45) = true := by simpa using hd
    clear hd hc2 hc1
    go_enter Tryd.func36, Tryd.ntmps36
    go_wp2_with (first
      | (go_at_call 75; refine (isPreSign_c _ _).mono ?_; rintro e w1 ⟨rfl, rfl⟩)
      | (at_builtin; refine wpList_append_own _ rfl _ _ 22 rfl base 5 i0 (.int .u8 0) 1 1 Tryd.underlying22 hi hz0 hz1 hz2 rfl (by decide) _ ws.length (bytesV ws) rfl HP.out ⟨w.heap.size, 0, none⟩ 1 1 (bytesV [c]) rfl rfl HC.out (fun u hu => by simp [bytesV] at hu; subst hu; rfl) (by unfold maxLen; omega) (by omega) hbA ?_))
    intro v2 w2 o2 gr2 _
    obtain ⟨F2, hRd, O2⟩ := HF.out v2 w2 o2 gr2
    obtain ⟨d0, d1, d2, d3⟩ := F2.cells
    have g0 := F2.frozen 0
    obtain ⟨q2, cap2, hv2⟩ : ∃ q cap, v2 = .slice q (ws.length + 1) cap := by
      rcases o2.2 with ⟨_, h⟩ | ⟨g, cap, cur, rfl, _⟩
      · omega
      · exact ⟨_, _, rfl⟩
    subst hv2
    clear o2 gr2 HF HP HC
    go_wp2_with fail
    go_ret
    exact ⟨rfl, hRd, O2⟩
  · have e2 : (c == 45) = false := by simpa using hd
    clear hd hc2 hc1
    go_enter Tryd.func36, Tryd.ntmps36
    go_wp2_with (first
      | (go_at_call 75; refine (isPreSign_c _ _).mono ?_; rintro e w1 ⟨rfl, rfl⟩)
      | (at_builtin; refine wpList_append_own _ rfl _ _ 22 rfl base 5 i0 (.int .u8 0) 1 1 Tryd.underlying22 hi hz0 hz1 hz2 rfl (by decide) _ ws.length (bytesV ws) rfl HP.out ⟨w.heap.size, 0, none⟩ 1 1 (bytesV [c]) rfl rfl HC.out (fun u hu => by simp [bytesV] at hu; subst hu; rfl) (by unfold maxLen; omega) (by omega) hbA ?_))
    intro v2 w2 o2 gr2 _
    obtain ⟨F2, hRd, O2⟩ := HF.out v2 w2 o2 gr2
    obtain ⟨d0, d1, d2, d3⟩ := F2.cells
    have g0 := F2.frozen 0
    obtain ⟨q2, cap2, hv2⟩ : ∃ q cap, v2 = .slice q (ws.length + 1) cap := by
      rcases o2.2 with ⟨_, h⟩ | ⟨g, cap, cur, rfl, _⟩
      · omega
      · exact ⟨_, _, rfl⟩
    subst hv2
    clear o2 gr2 HF HP HC
    go_wp2_with fail
    go_ret
    exact ⟨rfl, hRd, O2⟩

set_option maxHeartbeats 2000000 in
set_option maxRecDepth 100000 in
theorem takes_bad (R base : Nat) (ws ns : List Int) (ps : List ByteArray) (inP : Bool) (c : Int) (w : World) (h : Rd w R base ws ns ps inP) (hc1 : ¬ c = 46) (hc2 : ¬ c = 45) (hp : preB c = false) :
    Calls Tryd.prog 36 #[.pointer (some ⟨R, 0, none⟩), .int .i32 c] w fun e w' => e = .returned (.bool false) ∧ w = w' := by
  have e1 : (c == 46) = false := by simpa using hc1
  have e2 : (c == 45) = false := by simpa using hc2
  clear hc1 hc2 h
  go_enter Tryd.func36, Tryd.ntmps36
  go_wp2_with (go_at_call 75; refine (isPreSign_c _ _).mono ?_; rintro e w1 ⟨rfl, rfl⟩)
  go_ret
  exact ⟨rfl, rfl⟩
end Go.Proofs.YtdnpfkknnaepoaaDoor
