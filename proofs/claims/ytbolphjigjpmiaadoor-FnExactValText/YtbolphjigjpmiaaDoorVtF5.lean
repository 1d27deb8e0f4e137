/-
  Maps put behind bytes, as the program puts them: a contract by what they hold; conditions as the contract says.
-/
import Derived.Test.YtbolphjigjpmiaaDoorVtF
namespace Go.Proofs.YtbolphjigjpmiaaDoor
open Go.RowKit
set_option linter.unusedSimpArgs false
set_option linter.unusedVariables false

set_option maxHeartbeats 8000000 in
set_option maxRecDepth 100000 in
theorem putMap_c (l : List Tree) (ks : List ByteArray) (ih : ∀ U ∈ l, PutIC U) (B : Nat) (v : Value) (a : Option Addr) (cap : Nat) (X : Nat → Value) (t : ByteArray) (w : World) (d : Nat) (hc : l.length ≤ cap) (ha : (l = [] ∨ ∃ b off, a = some ⟨b, off, none⟩ ∧ b < B ∧ ∀ i, i < l.length → w.cell? ⟨b, off + i * 2, none⟩ = some (.string (ks.getD i ⟨#[]⟩)) ∧ w.cell? ⟨b, off + i * 2 + 1, none⟩ = some (X i))) (hX : ∀ i (h : i < l.length), XLies (· < B) w (X i) l[i])
    (hB : B ≤ w.heap.size) (hv : RowS B w v t) (hg : goodL l d = true) (hwl : wtL l ≤ 1048576) (hwk : bulkS ks ≤ 1048576) (hkl : ks.length = l.length) (hl : t.size + (fieldsTxt l ks true).size + 2 ≤ 35184372088832) (htab : Lib.TabBelow Tryd.prog B w "internal/strconv.uint64pow10" .u64 Lib.pow10Tab) :
    Calls Tryd.prog 27 #[v, .slice a l.length cap] w fun e w' => ∃ v', e = .returned v' ∧ RowS B w' v' (t ++ (⟨#[123]⟩ ++ (fieldsTxt l ks true ++ ⟨#[125]⟩))) ∧ KB B w w' := by
  obtain ⟨i0, hi, hz0, hz1, hz2⟩ := info_parts infoB
  have hv0 : w.ownsRow B 5 1 v t.size (Lib.strCells t) := hv
  obtain ⟨q0, c0, hq⟩ := owns_sliceP hv0
  subst hq
  have hlm : l.length ≤ 1048576 := Nat.le_trans (length_le_wtL l) hwl
  have HXX := hidden hX
  have HTAB := hidden htab
  have HLE : Hid (∀ i, (fieldsTxt (l.take i) ks true).size ≤ (fieldsTxt l ks true).size) := fields_le l ks
  have HIH := hidden ih
  have HG := hidden hg
  clear hv hX htab ih hg
  go_enter Tryd.func27, Tryd.ntmps27
  go_wp2_with (at_builtin; refine wpList_append_own _ rfl _ _ 43 rfl B 5 i0 (.int .u8 0) 1 1 Tryd.underlying43 hi hz0 hz1 hz2 rfl (by decide) _ _ _ rfl (hv0.alloc _) ⟨(w).heap.size, 0, none⟩ 1 1 [.int .u8 123] rfl rfl (src_new _ [.int .u8 123] _) (by intro u hu; simp at hu; first | (subst hu; rfl) | (rcases hu with rfl | rfl <;> rfl)) (by unfold maxLen; omega) (by omega) (by simp; omega) ?_)
  intro v1 w1 o1 gr1 _
  have r1 : RowS B w1 v1 (t ++ ⟨#[123]⟩) := RowS.app o1 rfl rfl
  have b0 : KB B w (w.alloc (.cells #[.int .u8 123] 5)) := (KB.refl B w).alloc hB _
  have b1 : KB B w w1 := b0.grown (hv0.alloc _) gr1 (by simp; omega)
  clear o1 gr1 b0 hv0
  go_wp2_with fail
  go_loopw [0, 12] (fun vx vi wr => ∃ (i : Nat) (vo : Value), i ≤ l.length ∧ vi = .int .i64 (i : Int) ∧ vx = vo ∧ RowS B wr vo (t ++ ⟨#[123]⟩ ++ fieldsTxt (l.take i) ks true) ∧ KB B w wr) (fun _ vi _ => l.length - (intOf vi).toNat)
  case atStart => exact ⟨0, _, Nat.zero_le _, rfl, rfl, (by rw [List.take_zero]; simp only [itemsTxt, fieldsTxt, append_empty']; exact r1), b1⟩
  case round =>
    clear r1 b1
    obtain ⟨i, vo, hil, rfl, rfl, hrow, hbr⟩ := hrel
    obtain ⟨Z, hZ⟩ : ∃ Z, Z = t ++ ⟨#[123]⟩ ++ fieldsTxt (l.take i) ks true := ⟨_, rfl⟩
    have hone : (⟨#[123]⟩ : ByteArray).size = 1 := by decide
    have hZs : Z.size ≤ t.size + 1 + (fieldsTxt l ks true).size := by rw [hZ, ByteArray.size_append, ByteArray.size_append]; have := HLE.out i; omega
    rw [← hZ] at hrow
    have hown := hrow
    unfold RowS at hown
    obtain ⟨qo, co, hvo⟩ := owns_sliceP hown
    subst hvo
    have hBr : B ≤ wr.heap.size := Nat.le_trans hB hbr.size
    clear hrow
    by_cases hlt : i < l.length
    · rcases ha with rfl | ⟨b, off, rfl, hlb, ha⟩
      · simp at hlt
      have HST : Hid (t ++ ⟨#[123]⟩ ++ fieldsTxt (l.take (i + 1)) ks true = Z ++ (if i = 0 then ⟨#[]⟩ else ⟨#[44]⟩) ++ (quoteS (ks.getD i ⟨#[]⟩) ++ ⟨#[58]⟩) ++ l[i].txt) := by show _ = _; rw [fields_take l ks i hlt, hZ]; simp only [ByteArray.append_assoc]
      have hge : Z.size + (if i = 0 then 0 else 1) + ((quoteS (ks.getD i ⟨#[]⟩)).size + 1) + l[i].txt.size ≤ t.size + 1 + (fieldsTxt l ks true).size := by
        have h9 := congrArg ByteArray.size HST.out
        simp only [ByteArray.size_append, if_size] at h9
        have hle1 := HLE.out (i + 1)
        have h58 : (⟨#[58]⟩ : ByteArray).size = 1 := by decide
        omega
      have hgU := goodL_mem HG.out _ (List.getElem_mem hlt)
      have hwU := wt_le_wtL (List.getElem_mem hlt)
      have hXi := HXX.out i hlt
      obtain ⟨ti, yi, hti⟩ := hXi.boxed
      have HCall : Hid (∀ w1 v1 Z1, KB B w w1 → RowS B w1 v1 Z1 → Z1.size + l[i].txt.size ≤ 35184372088832 → Calls Tryd.prog 16 #[v1, X i] w1 fun e w' => ∃ v', e = .returned v' ∧ RowS B w' v' (Z1 ++ l[i].txt) ∧ KB B w1 w') := fun w1 v1 Z1 h hr hz => HIH.out _ (List.getElem_mem hlt) B v1 (X i) Z1 w1 d (hXi.keep (.of h.b (fun b hb => hb))) (Nat.le_trans hB h.size) hr hgU (by omega) hz (HTAB.out.on h.b)
      have eK : wr.cell? ⟨b, off + i * 2, none⟩ = some (.string (ks.getD i ⟨#[]⟩)) := (hbr.b.cell (p := ⟨b, off + i * 2, none⟩) hlb).trans (ha i hlt).1
      have eX : wr.cell? ⟨b, off + i * 2 + 1, none⟩ = some (X i) := (hbr.b.cell (p := ⟨b, off + i * 2 + 1, none⟩) hlb).trans (ha i hlt).2
      have hkl2 : i < ks.length := by rw [hkl]; exact hlt
      have hks9 : (ks.getD i ⟨#[]⟩).size ≤ 1048576 := by
        have h9 : ks[i].size ≤ (ks.map ByteArray.size).sum := size_le_sum (List.getElem_mem hkl2)
        have h8 := hwk
        unfold bulkS at h8
        rw [List.getD_eq_getElem?_getD, List.getElem?_eq_getElem hkl2, Option.getD_some]
        omega
      have hqz := quote_size (ks.getD i ⟨#[]⟩)
      obtain ⟨K, hK⟩ : ∃ K, K = ks.getD i ⟨#[]⟩ := ⟨_, rfl⟩
      rw [← hK] at HST hge eK hks9 hqz
      clear hK hkl2
      obtain ⟨TX, hTX⟩ : ∃ T, T = l[i].txt := ⟨_, rfl⟩
      rw [← hTX] at HST hge
      simp only [← hTX] at HCall
      rw [hti] at eX
      simp only [hti] at HCall
      have hki : (i : Int) < (l.length : Int) := by omega
      clear ha hXi hti hTX hgU hwU hZ HXX HIH
      have bxk : Below wr.heap.size wr (wr.alloc (.cells #[.string K, .iface ti yi] 72 (0, 0))) := (Below.refl _ _).alloc (Nat.le_refl _) _
      have hg0 : (wr.alloc (.cells #[.string K, .iface ti yi] 72 (0, 0))).heap[wr.heap.size]? = some (.cells #[.string K, .iface ti yi] 72 (0, 0)) := vheap_new _ _
      have hownk : (wr.alloc (.cells #[.string K, .iface ti yi] 72 (0, 0))).ownsRow B 5 1 (.slice qo Z.size co) Z.size (Lib.strCells Z) := hown.alloc _
      have hbk : KB B w (wr.alloc (.cells #[.string K, .iface ti yi] 72 (0, 0))) := hbr.alloc hBr _
      have hsk : wr.heap.size + 1 ≤ (wr.alloc (.cells #[.string K, .iface ti yi] 72 (0, 0))).heap.size := by simp
      have hBk : B ≤ (wr.alloc (.cells #[.string K, .iface ti yi] 72 (0, 0))).heap.size := Nat.le_trans hB hbk.size
      by_cases hi0 : i = 0
      · subst hi0
        rw [if_pos rfl] at HST hge
        simp only [Nat.zero_mul, Nat.add_zero, Nat.zero_add] at eX eK
        have hl0 : (0 : Int) < (l.length : Int) := by omega
        have HQ := hidden (putQuoted_c B _ Z K (wr.alloc (.cells #[.string K, .iface ti yi] 72 (0, 0))) hownk (Nat.le_trans hB hbk.size) hks9 (by omega))
        go_wp2_with fail
        go_at_call 25
        refine HQ.out.mono ?_
        rintro e w5 ⟨v5, rfl, r5, b5⟩
        have hb5 : KB B w w5 := hbk.trans b5
        have hg5 := b5.box hg0 (by decide)
        obtain ⟨q5, c5, hv5⟩ := slice_of r5
        subst hv5
        have hz5 : (Z ++ quoteS K).size ≤ Z.size + (quoteS K).size := Nat.le_of_eq ByteArray.size_append
        obtain ⟨Y5, hY5⟩ : ∃ Y, Y = Z ++ quoteS K := ⟨_, rfl⟩
        rw [← hY5] at r5 hz5
        rw [← hY5]
        have HY5 := hidden hY5
        have hown5 := r5
        unfold RowS at hown5
        have hB5 : B ≤ w5.heap.size := Nat.le_trans hB hb5.size
        have bx5 : KB B w (w5.alloc (.cells #[.int .u8 58] 5)) := hb5.alloc hB5 _
        have kx5 : KB B w5 (w5.alloc (.cells #[.int .u8 58] 5)) := (KB.refl B w5).alloc hB5 _
        clear hY5 r5 b5 HQ eK eX
        go_wp2_with (at_builtin; refine wpList_append_own _ rfl _ _ 43 rfl B 5 i0 (.int .u8 0) 1 1 Tryd.underlying43 hi hz0 hz1 hz2 rfl (by decide) _ _ _ rfl (hown5.alloc _) ⟨(w5).heap.size, 0, none⟩ 1 1 [.int .u8 58] rfl rfl (src_new _ [.int .u8 58] _) (by intro u hu; simp at hu; first | (subst hu; rfl) | (rcases hu with rfl | rfl <;> rfl)) (by unfold maxLen; omega) (by omega) (by simp; omega) ?_)
        intro v6 w6 o6 gr6 _
        have r6 := RowS.app (m := ⟨#[58]⟩) o6 rfl rfl
        have hb6 : KB B w w6 := bx5.grown (hown5.alloc _) gr6 (by simp; omega)
        have hg6 := (kx5.grown (hown5.alloc _) gr6 (by simp; omega)).box hg5 (by decide)
        have z1 := vblk_cell hg6 1
        simp only [List.getElem?_toArray, List.getElem?_cons_succ, List.getElem?_cons_zero] at z1
        obtain ⟨q6, c6, hv6⟩ := slice_of r6
        subst hv6
        have hz6 : (Y5 ++ ⟨#[58]⟩).size ≤ Y5.size + 1 := by rw [ByteArray.size_append]; exact Nat.le_refl _
        obtain ⟨Z6, hZ6⟩ : ∃ Y, Y = Y5 ++ ⟨#[58]⟩ := ⟨_, rfl⟩
        rw [← hZ6] at r6 hz6
        rw [← hZ6]
        have HZ6 := hidden hZ6
        clear o6 gr6 kx5 hZ6
        have HP := hidden (HCall.out w6 _ Z6 hb6 r6 (by omega))
        go_wp2_with fail
        go_at_call 16
        refine HP.out.mono ?_
        rintro e w7 ⟨v7, rfl, r7, b7⟩
        have hb7 : KB B w w7 := hb6.trans b7
        clear HP
        go_wp2_with fail
        go_roundw
        case rel => exact ⟨0 + 1, _, by omega, by go_num, rfl, (by rw [HST.out]; rw [HZ6.out, HY5.out] at r7; first | exact r7 | (simp only [empty_append', append_empty', ByteArray.append_assoc] at r7 ⊢; exact r7)), hb7⟩
        case measure => simp [intOf]; omega
      · have hip : (0 : Int) < (i : Int) := by omega
        rw [if_neg hi0] at HST hge
        have bx : KB B w ((wr.alloc (.cells #[.string K, .iface ti yi] 72 (0, 0))).alloc (.cells #[.int .u8 44] 5)) := hbk.alloc (Nat.le_trans hB hbk.size) _
        have kx : KB B (wr.alloc (.cells #[.string K, .iface ti yi] 72 (0, 0))) ((wr.alloc (.cells #[.string K, .iface ti yi] 72 (0, 0))).alloc (.cells #[.int .u8 44] 5)) := (KB.refl B _).alloc hBk _
        have HSRC : Hid (∀ j u, ([.int .u8 44] : List Value)[j]? = some u → (((wr.alloc (.cells #[.string K, .iface ti yi] 72 (0, 0)))).alloc (.cells #[.int .u8 44] 5)).cell? ((⟨wr.heap.size + 1, 0, none⟩ : Addr).add j) = some u) := by
          have h := src_new (wr.alloc (.cells #[.string K, .iface ti yi] 72 (0, 0))) [.int .u8 44] 5
          rw [show (wr.alloc (.cells #[.string K, .iface ti yi] 72 (0, 0))).heap.size = wr.heap.size + 1 by simp] at h
          exact h
        go_wp2_with (at_builtin; refine wpList_append_own _ rfl _ _ 43 rfl B 5 i0 (.int .u8 0) 1 1 Tryd.underlying43 hi hz0 hz1 hz2 rfl (by decide) _ _ _ rfl (hownk.alloc _) ⟨wr.heap.size + 1, 0, none⟩ 1 1 [.int .u8 44] rfl rfl HSRC.out (by intro u hu; simp at hu; first | (subst hu; rfl) | (rcases hu with rfl | rfl <;> rfl)) (by unfold maxLen; omega) (by omega) (by simp; omega) ?_)
        intro v4 w4 o4 gr4 _
        have r4 := RowS.app (m := ⟨#[44]⟩) o4 rfl rfl
        have hb4 : KB B w w4 := bx.grown (hownk.alloc _) gr4 (by simp; omega)
        have kb4 : KB B (wr.alloc (.cells #[.string K, .iface ti yi] 72 (0, 0))) w4 := kx.grown (hownk.alloc _) gr4 (by simp; omega)
        have hg4 := kb4.box hg0 (by decide)
        have y0 := vblk_cell hg4 0
        have y1 := vblk_cell hg4 1
        simp only [List.getElem?_toArray, List.getElem?_cons_succ, List.getElem?_cons_zero] at y0 y1
        obtain ⟨q4, c4, hv4⟩ := slice_of r4
        subst hv4
        have hz4 : (Z ++ ⟨#[44]⟩).size ≤ Z.size + 1 := by rw [ByteArray.size_append]; exact Nat.le_refl _
        obtain ⟨Z4, hZ4⟩ : ∃ Y, Y = Z ++ ⟨#[44]⟩ := ⟨_, rfl⟩
        rw [← hZ4] at r4 hz4 HST
        rw [← hZ4]
        clear o4 gr4 hZ4 kx eK eX
        have HQ := hidden (putQuoted_c B _ Z4 K w4 r4 (Nat.le_trans hB hb4.size) hks9 (by omega))
        go_wp2_with fail
        go_at_call 25
        refine HQ.out.mono ?_
        rintro e w5 ⟨v5, rfl, r5, b5⟩
        have hb5 : KB B w w5 := hb4.trans b5
        have hg5 := b5.box hg4 (by decide)
        obtain ⟨q5, c5, hv5⟩ := slice_of r5
        subst hv5
        have hz5 : (Z4 ++ quoteS K).size ≤ Z4.size + (quoteS K).size := Nat.le_of_eq ByteArray.size_append
        obtain ⟨Y5, hY5⟩ : ∃ Y, Y = Z4 ++ quoteS K := ⟨_, rfl⟩
        rw [← hY5] at r5 hz5
        rw [← hY5]
        have HY5 := hidden hY5
        have hown5 := r5
        unfold RowS at hown5
        have hB5 : B ≤ w5.heap.size := Nat.le_trans hB hb5.size
        have bx5 : KB B w (w5.alloc (.cells #[.int .u8 58] 5)) := hb5.alloc hB5 _
        have kx5 : KB B w5 (w5.alloc (.cells #[.int .u8 58] 5)) := (KB.refl B w5).alloc hB5 _
        clear hY5 r5 b5 HQ y0 y1
        go_wp2_with (at_builtin; refine wpList_append_own _ rfl _ _ 43 rfl B 5 i0 (.int .u8 0) 1 1 Tryd.underlying43 hi hz0 hz1 hz2 rfl (by decide) _ _ _ rfl (hown5.alloc _) ⟨(w5).heap.size, 0, none⟩ 1 1 [.int .u8 58] rfl rfl (src_new _ [.int .u8 58] _) (by intro u hu; simp at hu; first | (subst hu; rfl) | (rcases hu with rfl | rfl <;> rfl)) (by unfold maxLen; omega) (by omega) (by simp; omega) ?_)
        intro v6 w6 o6 gr6 _
        have r6 := RowS.app (m := ⟨#[58]⟩) o6 rfl rfl
        have hb6 : KB B w w6 := bx5.grown (hown5.alloc _) gr6 (by simp; omega)
        have hg6 := (kx5.grown (hown5.alloc _) gr6 (by simp; omega)).box hg5 (by decide)
        have z1 := vblk_cell hg6 1
        simp only [List.getElem?_toArray, List.getElem?_cons_succ, List.getElem?_cons_zero] at z1
        obtain ⟨q6, c6, hv6⟩ := slice_of r6
        subst hv6
        have hz6 : (Y5 ++ ⟨#[58]⟩).size ≤ Y5.size + 1 := by rw [ByteArray.size_append]; exact Nat.le_refl _
        obtain ⟨Z6, hZ6⟩ : ∃ Y, Y = Y5 ++ ⟨#[58]⟩ := ⟨_, rfl⟩
        rw [← hZ6] at r6 hz6
        rw [← hZ6]
        have HZ6 := hidden hZ6
        clear o6 gr6 kx5 hZ6
        have HP := hidden (HCall.out w6 _ Z6 hb6 r6 (by omega))
        go_wp2_with fail
        go_at_call 16
        refine HP.out.mono ?_
        rintro e w7 ⟨v7, rfl, r7, b7⟩
        have hb7 : KB B w w7 := hb6.trans b7
        clear HP
        go_wp2_with fail
        go_roundw
        case rel => exact ⟨i + 1, _, by omega, by go_num, rfl, (by rw [HST.out]; rw [HZ6.out, HY5.out] at r7; first | exact r7 | (simp only [empty_append', append_empty', ByteArray.append_assoc] at r7 ⊢; exact r7)), hb7⟩
        case measure => simp [intOf]; omega
    · have he : i = l.length := by omega
      subst he
      have HST : Hid (t ++ (⟨#[123]⟩ ++ (fieldsTxt l ks true ++ ⟨#[125]⟩)) = Z ++ ⟨#[125]⟩) := by show _ = _; rw [hZ, List.take_length]; simp only [ByteArray.append_assoc]
      have bx : KB B w (wr.alloc (.cells #[.int .u8 125] 5)) := hbr.alloc hBr _
      clear ha hZ HXX HIH
      go_wp2_with (at_builtin; refine wpList_append_own _ rfl _ _ 43 rfl B 5 i0 (.int .u8 0) 1 1 Tryd.underlying43 hi hz0 hz1 hz2 rfl (by decide) _ _ _ rfl (hown.alloc _) ⟨(wr).heap.size, 0, none⟩ 1 1 [.int .u8 125] rfl rfl (src_new _ [.int .u8 125] _) (by intro u hu; simp at hu; first | (subst hu; rfl) | (rcases hu with rfl | rfl <;> rfl)) (by unfold maxLen; omega) (by omega) (by simp; omega) ?_)
      intro v3 w3 o3 gr3 _
      have r3 := RowS.app (m := ⟨#[125]⟩) o3 rfl rfl
      have hb3 : KB B w w3 := bx.grown (hown.alloc _) gr3 (by simp; omega)
      clear o3 gr3
      go_wp2_with fail
      go_ret
      exact ⟨_, rfl, by rw [HST.out]; exact r3, hb3⟩

end Go.Proofs.YtbolphjigjpmiaaDoor
