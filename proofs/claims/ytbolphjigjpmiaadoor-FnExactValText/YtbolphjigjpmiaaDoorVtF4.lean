/-
  Lists put behind bytes, as the program puts them: a contract by what they hold; conditions as the contract says.
-/
import Derived.Test.YtbolphjigjpmiaaDoorVtF
namespace Go.Proofs.YtbolphjigjpmiaaDoor
open Go.RowKit
set_option linter.unusedSimpArgs false
set_option linter.unusedVariables false

set_option maxHeartbeats 8000000 in
set_option maxRecDepth 100000 in
theorem putList_c (l : List Tree) (ks : List ByteArray) (ih : ∀ U ∈ l, PutIC U) (B : Nat) (v : Value) (a : Option Addr) (cap : Nat) (X : Nat → Value) (t : ByteArray) (w : World) (d : Nat) (hc : l.length ≤ cap) (ha : (l = [] ∨ ∃ b off, a = some ⟨b, off, none⟩ ∧ b < B ∧ ∀ i, i < l.length → w.cell? ⟨b, off + i, none⟩ = some (X i))) (hX : ∀ i (h : i < l.length), XLies (· < B) w (X i) l[i])
    (hB : B ≤ w.heap.size) (hv : RowS B w v t) (hg : goodL l d = true) (hwl : wtL l ≤ 1048576) (hwk : bulkS ks ≤ 1048576) (hkl : True) (hl : t.size + (itemsTxt l true).size + 2 ≤ 35184372088832) (htab : Lib.TabBelow Tryd.prog B w "internal/strconv.uint64pow10" .u64 Lib.pow10Tab) :
    Calls Tryd.prog 26 #[v, .slice a l.length cap] w fun e w' => ∃ v', e = .returned v' ∧ RowS B w' v' (t ++ (⟨#[91]⟩ ++ (itemsTxt l true ++ ⟨#[93]⟩))) ∧ KB B w w' := by
  obtain ⟨i0, hi, hz0, hz1, hz2⟩ := info_parts infoB
  have hv0 : w.ownsRow B 5 1 v t.size (Lib.strCells t) := hv
  obtain ⟨q0, c0, hq⟩ := owns_sliceP hv0
  subst hq
  have hlm : l.length ≤ 1048576 := Nat.le_trans (length_le_wtL l) hwl
  have HXX := hidden hX
  have HTAB := hidden htab
  have HLE : Hid (∀ i, (itemsTxt (l.take i) true).size ≤ (itemsTxt l true).size) := items_le l
  have HIH := hidden ih
  have HG := hidden hg
  clear hv hX htab ih hg
  go_enter Tryd.func26, Tryd.ntmps26
  go_wp2_with (at_builtin; refine wpList_append_own _ rfl _ _ 43 rfl B 5 i0 (.int .u8 0) 1 1 Tryd.underlying43 hi hz0 hz1 hz2 rfl (by decide) _ _ _ rfl (hv0.alloc _) ⟨(w).heap.size, 0, none⟩ 1 1 [.int .u8 91] rfl rfl (src_new _ [.int .u8 91] _) (by intro u hu; simp at hu; first | (subst hu; rfl) | (rcases hu with rfl | rfl <;> rfl)) (by unfold maxLen; omega) (by omega) (by simp; omega) ?_)
  intro v1 w1 o1 gr1 _
  have r1 : RowS B w1 v1 (t ++ ⟨#[91]⟩) := RowS.app o1 rfl rfl
  have b0 : KB B w (w.alloc (.cells #[.int .u8 91] 5)) := (KB.refl B w).alloc hB _
  have b1 : KB B w w1 := b0.grown (hv0.alloc _) gr1 (by simp; omega)
  clear o1 gr1 b0 hv0
  go_wp2_with fail
  go_loopw [0, 12] (fun vx vi wr => ∃ (i : Nat) (vo : Value), i ≤ l.length ∧ vi = .int .i64 (i : Int) ∧ vx = vo ∧ RowS B wr vo (t ++ ⟨#[91]⟩ ++ itemsTxt (l.take i) true) ∧ KB B w wr) (fun _ vi _ => l.length - (intOf vi).toNat)
  case atStart => exact ⟨0, _, Nat.zero_le _, rfl, rfl, (by rw [List.take_zero]; simp only [itemsTxt, fieldsTxt, append_empty']; exact r1), b1⟩
  case round =>
    clear r1 b1
    obtain ⟨i, vo, hil, rfl, rfl, hrow, hbr⟩ := hrel
    obtain ⟨Z, hZ⟩ : ∃ Z, Z = t ++ ⟨#[91]⟩ ++ itemsTxt (l.take i) true := ⟨_, rfl⟩
    have hone : (⟨#[91]⟩ : ByteArray).size = 1 := by decide
    have hZs : Z.size ≤ t.size + 1 + (itemsTxt l true).size := by rw [hZ, ByteArray.size_append, ByteArray.size_append]; have := HLE.out i; omega
    rw [← hZ] at hrow
    have hown := hrow
    unfold RowS at hown
    obtain ⟨qo, co, hvo⟩ := owns_sliceP hown
    subst hvo
    have hBr : B ≤ wr.heap.size := Nat.le_trans hB hbr.size
    clear hrow
    by_cases hlt : i < l.length
    · rcases ha with rfl | ⟨b, off, rfl, hlb, ha⟩
      · simp at hlt
      have HST : Hid (t ++ ⟨#[91]⟩ ++ itemsTxt (l.take (i + 1)) true = Z ++ (if i = 0 then ⟨#[]⟩ else ⟨#[44]⟩) ++ l[i].txt) := by show _ = _; rw [items_take l i hlt, hZ]; simp only [ByteArray.append_assoc]
      have hge : Z.size + (if i = 0 then 0 else 1) + l[i].txt.size ≤ t.size + 1 + (itemsTxt l true).size := by
        have h9 := congrArg ByteArray.size HST.out
        simp only [ByteArray.size_append, if_size] at h9
        have hle1 := HLE.out (i + 1)
        have h58 : (⟨#[58]⟩ : ByteArray).size = 1 := by decide
        omega
      have hgU := goodL_mem HG.out _ (List.getElem_mem hlt)
      have hwU := wt_le_wtL (List.getElem_mem hlt)
      have hXi := HXX.out i hlt
      obtain ⟨ti, yi, hti⟩ := hXi.boxed
      have HCall : Hid (∀ w1 v1 Z1, KB B w w1 → RowS B w1 v1 Z1 → Z1.size + l[i].txt.size ≤ 35184372088832 → Calls Tryd.prog 16 #[v1, X i] w1 fun e w' => ∃ v', e = .returned v' ∧ RowS B w' v' (Z1 ++ l[i].txt) ∧ KB B w1 w') := fun w1 v1 Z1 h hr hz => HIH.out _ (List.getElem_mem hlt) B v1 (X i) Z1 w1 d (hXi.keep (.of h.b (fun b hb => hb))) (Nat.le_trans hB h.size) hr hgU (by omega) hz (HTAB.out.on h.b)
      have eX : wr.cell? ⟨b, off + i, none⟩ = some (X i) := (hbr.b.cell (p := ⟨b, off + i, none⟩) hlb).trans (ha i hlt)
      obtain ⟨TX, hTX⟩ : ∃ T, T = l[i].txt := ⟨_, rfl⟩
      rw [← hTX] at HST hge
      simp only [← hTX] at HCall
      rw [hti] at eX
      simp only [hti] at HCall
      have hki : (i : Int) < (l.length : Int) := by omega
      clear ha hXi hti hTX hgU hwU hZ HXX HIH
      by_cases hi0 : i = 0
      · subst hi0
        rw [if_pos rfl] at HST hge
        simp only [Nat.zero_mul, Nat.add_zero, Nat.zero_add] at eX
        have hl0 : (0 : Int) < (l.length : Int) := by omega
        have HP := hidden (HCall.out wr _ Z hbr hown (by omega))
        go_wp2_with fail
        go_at_call 16
        refine HP.out.mono ?_
        rintro e w7 ⟨v7, rfl, r7, b7⟩
        have hb7 : KB B w w7 := hbr.trans b7
        clear HP
        go_wp2_with fail
        go_roundw
        case rel => exact ⟨0 + 1, _, by omega, by go_num, rfl, (by rw [HST.out]; first | exact r7 | (simp only [empty_append', append_empty', ByteArray.append_assoc] at r7 ⊢; exact r7)), hb7⟩
        case measure => simp [intOf]; omega
      · have hip : (0 : Int) < (i : Int) := by omega
        rw [if_neg hi0] at HST hge
        have bx : KB B w (wr.alloc (.cells #[.int .u8 44] 5)) := hbr.alloc (Nat.le_trans hB hbr.size) _
        go_wp2_with (at_builtin; refine wpList_append_own _ rfl _ _ 43 rfl B 5 i0 (.int .u8 0) 1 1 Tryd.underlying43 hi hz0 hz1 hz2 rfl (by decide) _ _ _ rfl (hown.alloc _) ⟨(wr).heap.size, 0, none⟩ 1 1 [.int .u8 44] rfl rfl (src_new _ [.int .u8 44] _) (by intro u hu; simp at hu; first | (subst hu; rfl) | (rcases hu with rfl | rfl <;> rfl)) (by unfold maxLen; omega) (by omega) (by simp; omega) ?_)
        intro v4 w4 o4 gr4 _
        have r4 := RowS.app (m := ⟨#[44]⟩) o4 rfl rfl
        have hb4 : KB B w w4 := bx.grown (hown.alloc _) gr4 (by simp; omega)
        obtain ⟨q4, c4, hv4⟩ := slice_of r4
        subst hv4
        have hz4 : (Z ++ ⟨#[44]⟩).size ≤ Z.size + 1 := by rw [ByteArray.size_append]; exact Nat.le_refl _
        obtain ⟨Z4, hZ4⟩ : ∃ Y, Y = Z ++ ⟨#[44]⟩ := ⟨_, rfl⟩
        rw [← hZ4] at r4 hz4 HST
        rw [← hZ4]
        clear o4 gr4 hZ4 eX
        have HP := hidden (HCall.out w4 _ Z4 hb4 r4 (by omega))
        go_wp2_with fail
        go_at_call 16
        refine HP.out.mono ?_
        rintro e w7 ⟨v7, rfl, r7, b7⟩
        have hb7 : KB B w w7 := hb4.trans b7
        clear HP
        go_wp2_with fail
        go_roundw
        case rel => exact ⟨i + 1, _, by omega, by go_num, rfl, (by rw [HST.out]; first | exact r7 | (simp only [empty_append', append_empty', ByteArray.append_assoc] at r7 ⊢; exact r7)), hb7⟩
        case measure => simp [intOf]; omega
    · have he : i = l.length := by omega
      subst he
      have HST : Hid (t ++ (⟨#[91]⟩ ++ (itemsTxt l true ++ ⟨#[93]⟩)) = Z ++ ⟨#[93]⟩) := by show _ = _; rw [hZ, List.take_length]; simp only [ByteArray.append_assoc]
      have bx : KB B w (wr.alloc (.cells #[.int .u8 93] 5)) := hbr.alloc hBr _
      clear ha hZ HXX HIH
      go_wp2_with (at_builtin; refine wpList_append_own _ rfl _ _ 43 rfl B 5 i0 (.int .u8 0) 1 1 Tryd.underlying43 hi hz0 hz1 hz2 rfl (by decide) _ _ _ rfl (hown.alloc _) ⟨(wr).heap.size, 0, none⟩ 1 1 [.int .u8 93] rfl rfl (src_new _ [.int .u8 93] _) (by intro u hu; simp at hu; first | (subst hu; rfl) | (rcases hu with rfl | rfl <;> rfl)) (by unfold maxLen; omega) (by omega) (by simp; omega) ?_)
      intro v3 w3 o3 gr3 _
      have r3 := RowS.app (m := ⟨#[93]⟩) o3 rfl rfl
      have hb3 : KB B w w3 := bx.grown (hown.alloc _) gr3 (by simp; omega)
      clear o3 gr3
      go_wp2_with fail
      go_ret
      exact ⟨_, rfl, by rw [HST.out]; exact r3, hb3⟩

end Go.Proofs.YtbolphjigjpmiaaDoor
