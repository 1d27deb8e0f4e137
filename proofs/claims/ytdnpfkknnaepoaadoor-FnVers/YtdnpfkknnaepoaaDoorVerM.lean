/-
  What the program's reader of versions does at the end of a word of digits, and at each sign: contracts for the walks; condition: what it holds lies in memory as told.
-/
import Derived.Test.YtdnpfkknnaepoaaDoorVerL
namespace Go.Proofs.YtdnpfkknnaepoaaDoor
open Go.RowKit
set_option linter.unusedSimpArgs false
set_option linter.unusedVariables false

theorem cell_int (w : World) (n : Int) : ∀ j u, [Value.int .i64 n][j]? = some u → (w.alloc (.cells #[.int .i64 n] 3)).cell? ((⟨w.heap.size, 0, none⟩ : Addr).add j) = some u := cell_one_new _ _ _
theorem cell_byte (w : World) (n : Int) : ∀ j u, [Value.int .u8 n][j]? = some u → (w.alloc (.cells #[.int .u8 n] 5)).cell? ((⟨w.heap.size, 0, none⟩ : Addr).add j) = some u := cell_one_new _ _ _
theorem Rd.keep {w w' : World} {R base : Nat} {ws ns : List Int} {ps : List ByteArray} {inP : Bool} (h : Rd w R base ws ns ps inP) (b : Below w.heap.size w w') : Rd w' R base ws ns ps inP := by
  obtain ⟨x1, x2, x3, y1, y2, y3, y4⟩ := h
  exact ⟨x1, x2, x3, y1.keep b, owns_of_below y2 b, owns_of_below y3 b, owns_of_below y4 b⟩

set_option maxHeartbeats 2000000 in
set_option maxRecDepth 100000 in
theorem ends_out (R base : Nat) (ws ns : List Int) (ps : List ByteArray) (w : World) (h : Rd w R base ws ns ps false) (hR : R < base) (hbw : base ≤ w.heap.size) (hw : ws.length ≤ 1048576) (hns : ns.length ≤ 1048576) :
    Calls Tryd.prog 37 #[.pointer (some ⟨R, 0, none⟩)] w fun e w' => e = .returned (.bool (endOk ns ps false (strOfNums ws))) ∧ Rd w' R base [] (endNs ns false (strOfNums ws)) (endPs ps false (strOfNums ws)) false ∧ Only R base w w' := by
  obtain ⟨i0, hi, hz0, hz1, hz2⟩ := info_parts infoI
  obtain ⟨vw, vn, vp, hF, hWr, hNr, hPr⟩ := h
  have hcv := conv_word hWr
  have htz : (strOfNums ws).size ≤ maxLen := by rw [strOfNums_size]; unfold maxLen; omega
  obtain ⟨t, ht⟩ : ∃ t, t = strOfNums ws := ⟨_, rfl⟩
  rw [← ht] at hcv htz ⊢
  clear ht
  obtain ⟨v0, hv0, hW0⟩ : ∃ v0, (vw = .slice none 0 0 ∧ v0 = .slice none 0 0 ∨ ∃ g n cap, vw = .slice (some ⟨g, 0, none⟩) n cap ∧ v0 = .slice (some ⟨g, 0, none⟩) 0 cap ∧ n ≤ cap) ∧ w.ownsRow base 5 1 v0 0 [] := by
    rcases hWr.2 with ⟨rfl, _⟩ | ⟨g, cap, cur, rfl, _, _, hn, _⟩
    · exact ⟨_, .inl ⟨rfl, rfl⟩, World.ownsRow_nil _ _ _ _⟩
    · exact ⟨_, .inr ⟨g, ws.length, cap, rfl, rfl, hn⟩, row_empty hWr⟩
  have F1 := (four_set hF v0).1
  have hW1 := owns_set hW0 (p := ⟨R, 0, none⟩) hR v0
  have hN1 := owns_set hNr (p := ⟨R, 0, none⟩) hR v0
  have hP1 := owns_set hPr (p := ⟨R, 0, none⟩) hR v0
  have O1 : Only R base w (w.setCell ⟨R, 0, none⟩ v0) := Only.set w 0 v0
  have hb1 : base ≤ (w.setCell ⟨R, 0, none⟩ v0).heap.size := Nat.le_trans hbw O1.size
  obtain ⟨c0, c1, c2, c3⟩ := hF.cells
  have f0 := hF.frozen 0
  obtain ⟨d0, d1, d2, d3⟩ := F1.cells
  have g2 := F1.frozen 1
  have hlR := F1.lt
  obtain ⟨m, hm⟩ : ∃ m, m = numOut t 9999 := ⟨_, rfl⟩
  have HNum : Hid (∀ w1, Calls Tryd.prog 76 #[.string t, .int .i64 9999] w1 fun e w' => e = .returned (.tuple #[.int .i64 m, .bool (numGood t 9999)]) ∧ w1 = w') := fun w1 => by rw [hm]; exact implNum_c t 9999 htz w1
  have HM : Hid (m = numOut t 9999) := hm
  clear hm
  have hsz : (w.setCell ⟨R, 0, none⟩ v0).heap.size = w.heap.size := by simp [World.setCell]
  have hcs := cell_int (w.setCell ⟨R, 0, none⟩ v0) m
  rw [hsz] at hcs
  have HC : Hid (∀ j u, (intsV [m])[j]? = some u → ((w.setCell ⟨R, 0, none⟩ v0).alloc (.cells #[.int .i64 m] 3)).cell? ((⟨w.heap.size, 0, none⟩ : Addr).add j) = some u) := hcs
  have hPA := hP1.alloc (.cells #[.int .i64 m] 3)
  have hNA := hN1.alloc (.cells #[.int .i64 m] 3)
  have hWA := hW1.alloc (.cells #[.int .i64 m] 3)
  have FA := four_old F1 (.cells #[.int .i64 m] 3)
  have OA : Only R base w ((w.setCell ⟨R, 0, none⟩ v0).alloc (.cells #[.int .i64 m] 3)) := O1.trans (Only.alloc _ hb1)
  have hbA : base ≤ ((w.setCell ⟨R, 0, none⟩ v0).alloc (.cells #[.int .i64 m] 3)).heap.size := Nat.le_trans hbw OA.size
  have HP : Hid (((w.setCell ⟨R, 0, none⟩ v0).alloc (.cells #[.int .i64 m] 3)).ownsRow base 3 1 vn ns.length (intsV ns)) := hNA
  obtain ⟨vna, vnn, vnc, rfl⟩ : ∃ a n cap, vn = .slice a n cap := by rcases hNr.2 with ⟨rfl, _⟩ | ⟨g, cap, cur, rfl, _⟩ <;> exact ⟨_, _, _, rfl⟩
  clear hWr hNr hPr hF hcs hP1 hN1 hW1 hNA hsz
  rcases hv0 with ⟨rfl, rfl⟩ | ⟨gb, n, cap, rfl, rfl, hn⟩
  all_goals (
    go_enter Tryd.func37, Tryd.ntmps37
    go_wp2_with (first
      | (go_at_call 76; refine (HNum.out _).mono ?_; rintro e w1 ⟨rfl, rfl⟩)
      | (at_builtin; refine wpList_append_own _ rfl _ _ 60 rfl base 3 i0 (.int .i64 0) 1 8 Tryd.underlying60 hi hz0 hz1 hz2 rfl (by decide) _ ns.length (intsV ns) rfl HP.out ⟨w.heap.size, 0, none⟩ 1 1 (intsV [m]) rfl rfl HC.out (fun u hu => by simp [intsV] at hu; subst hu; rfl) (by unfold maxLen; omega) (by omega) hbA ?_))
    intro v2 w2 o2 gr2 _
    rw [show intsV ns ++ intsV [m] = intsV (ns ++ [m]) by simp [intsV]] at o2
    have hrow : ∀ k, Value.ownBlock (.slice vna vnn vnc) = some k → base ≤ k := fun k hk => (HP.out.lt k hk).1
    have F2 := FA.grown gr2 hR hrow
    have hP2 := hPA.kept gr2 (rows_apart HP.out hPA (by decide))
    have hW2 := hWA.kept gr2 (rows_apart HP.out hWA (by decide))
    have O2 := OA.trans (Only.grown gr2 hbA hrow)
    have hb2 := Nat.le_trans hbw O2.size
    clear gr2 HP hPA hWA FA OA hbA HC F1 O1
    obtain ⟨e0, e1, e2, e3⟩ := F2.cells
    have h2 := F2.frozen 1
    have F3 := (four_set F2 v2).2.1
    have hN3 := owns_set o2 (p := ⟨R, 1, none⟩) hR v2
    have hW3 := owns_set hW2 (p := ⟨R, 1, none⟩) hR v2
    have hP3 := owns_set hP2 (p := ⟨R, 1, none⟩) hR v2
    have O3 := O2.trans (Only.set w2 1 v2)
    have hb3 := Nat.le_trans hbw O3.size
    obtain ⟨k0, k1, k2, k3⟩ := F3.cells
    obtain ⟨q2, cap2, hv2⟩ : ∃ q cap, v2 = .slice q (ns.length + 1) cap := by
      rcases o2.2 with ⟨_, h⟩ | ⟨g, cap, cur, rfl, _⟩
      · omega
      · exact ⟨_, _, rfl⟩
    subst hv2
    clear o2 hP2 hW2 F2 O2 hb2 d0 d1 d2 d3 c0 c1 c2 c3
    have hRd : Rd (w2.setCell ⟨R, 1, none⟩ (.slice q2 (ns.length + 1) cap2)) R base [] (ns ++ [m]) ps false := ⟨_, _, _, F3, hW3, by simpa using hN3, hP3⟩
    rw [HM.out] at hRd
    clear F3 hN3 hW3 hP3
    cases hg : numGood t 9999 with
    | true =>
      go_wp2
      go_ret
      refine ⟨ret_bool ?_, hRd, O3⟩
      rw [endOk, if_neg (by simp), hg, Bool.eq_iff_iff]
      simp; try omega
    | false =>
      go_wp2
      go_ret
      exact ⟨ret_bool (by rw [endOk, if_neg (by simp), hg]; rfl), hRd, O3⟩)

theorem ends_c (R base : Nat) (ws ns : List Int) (ps : List ByteArray) (inP : Bool) (w : World) (h : Rd w R base ws ns ps inP) (hR : R < base) (hbw : base ≤ w.heap.size) (hw : ws.length ≤ 1048576) (hns : ns.length ≤ 1048576) (hps : ps.length ≤ 1048576) :
    Calls Tryd.prog 37 #[.pointer (some ⟨R, 0, none⟩)] w fun e w' => e = .returned (.bool (endOk ns ps inP (strOfNums ws))) ∧ Rd w' R base [] (endNs ns inP (strOfNums ws)) (endPs ps inP (strOfNums ws)) inP ∧ Only R base w w' := by
  cases inP
  · exact ends_out R base ws ns ps w h hR hbw hw hns
  · exact ends_in R base ws ns ps w h hR hbw hw hps
end Go.Proofs.YtdnpfkknnaepoaaDoor
