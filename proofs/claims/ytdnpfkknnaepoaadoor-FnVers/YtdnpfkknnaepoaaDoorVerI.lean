/-
  What LessVer answers, the program's: contracts for the walks; conditions: the lists of texts lie in memory as told, and hold no more than 2 to the 20.
-/
import Derived.Test.YtdnpfkknnaepoaaDoorVerH
namespace Go.Proofs.YtdnpfkknnaepoaaDoor
open Go.RowKit
set_option linter.unusedSimpArgs false
set_option linter.unusedVariables false

theorem cmpPre_at (ps ps' : List ByteArray) (k : Nat) (h : k < ps.length) (h' : k < ps'.length) : cmpPre (ps.drop k) (ps'.drop k) = if cmpPart ps[k] ps'[k] = 0 then cmpPre (ps.drop (k + 1)) (ps'.drop (k + 1)) else cmpPart ps[k] ps'[k] := by
  rw [List.drop_eq_getElem_cons h, List.drop_eq_getElem_cons h', cmpPre]
theorem cmpPre_past (ps ps' : List ByteArray) (k : Nat) (h : k < ps.length) (h' : ¬ k < ps'.length) : cmpPre (ps.drop k) (ps'.drop k) = 1 := by
  rw [List.drop_eq_getElem_cons h, List.drop_eq_nil_of_le (show ps'.length ≤ k by omega), cmpPre]
theorem cmpPre_end (ps ps' : List ByteArray) : cmpPre (ps.drop ps.length) (ps'.drop ps.length) = if ps.length < ps'.length then -1 else 0 := by
  rw [List.drop_length]
  by_cases h : ps.length < ps'.length
  · rw [List.drop_eq_getElem_cons h, cmpPre, if_pos h]
  · rw [List.drop_eq_nil_of_le (show ps'.length ≤ ps.length by omega), cmpPre, if_neg h]

set_option maxHeartbeats 1000000 in
set_option maxRecDepth 100000 in
theorem compareFunc_c (u u' : Value) (ps ps' : List ByteArray) (w : World) (hu : Reads w u (strsV ps)) (hu' : Reads w u' (strsV ps')) (hb : bulkS ps ≤ 1048576) (hb' : bulkS ps' ≤ 1048576) :
    Calls Tryd.prog 80 #[u, u', .func (.func 81) #[] #[]] w fun e w' => e = .returned (.int .i64 (cmpPre ps ps')) ∧ Below w.heap.size w w' := by
  have hsz : ∀ s ∈ ps, s.size ≤ maxLen := fun s hs => by have := size_of_bulk hs; unfold maxLen; omega
  have hsz' : ∀ s ∈ ps', s.size ≤ maxLen := fun s hs => by have := size_of_bulk hs; unfold maxLen; omega
  have hn : ps.length ≤ 1048576 := by unfold bulkS at hb; omega
  have hn' : ps'.length ≤ 1048576 := by unfold bulkS at hb'; omega
  obtain ⟨q, cap, rfl, _, hc⟩ := reads_strs hu
  obtain ⟨q', cap', rfl, _, hc'⟩ := reads_strs hu'
  clear hu hu' hb hb'
  go_enter Tryd.func80, Tryd.ntmps80
  go_wp2
  go_loopw [7, 8, 9, 10, 13] (fun _ _ _ _ vi wr => ∃ k : Nat, k ≤ ps.length ∧ vi = .int .i64 (k : Int) ∧ Hid (cmpPre (ps.drop k) (ps'.drop k) = cmpPre ps ps') ∧ Below w.heap.size w wr) (fun _ _ _ _ vi _ => ps.length - (intOf vi).toNat)
  case atStart => exact ⟨0, Nat.zero_le _, rfl, rfl, Below.refl _ _⟩
  case round =>
    obtain ⟨k, hk, rfl, hh, hbr⟩ := hrel
    by_cases hlt : k < ps.length
    · rcases hc with rfl | ⟨bl, off, rfl, hlb, hc⟩
      · simp at hlt
      have hcx : wr.cell? ⟨bl, off + k, none⟩ = some (.string ps[k]) := (hbr.cell (p := ⟨bl, off + k, none⟩) hlb).trans (hc k hlt)
      have hsk := hsz ps[k] (List.getElem_mem hlt)
      obtain ⟨t, ht⟩ : ∃ t, t = ps[k] := ⟨_, rfl⟩
      rw [← ht] at hcx hsk
      have HT : Hid (t = ps[k]) := ht
      have hki : (k : Int) < (ps.length : Int) := by omega
      clear hc hsz ht
      by_cases hlt' : k < ps'.length
      · rcases hc' with rfl | ⟨bl', off', rfl, hlb', hc'⟩
        · simp at hlt'
        have hcx' : wr.cell? ⟨bl', off' + k, none⟩ = some (.string ps'[k]) := (hbr.cell (p := ⟨bl', off' + k, none⟩) hlb').trans (hc' k hlt')
        have hsk' := hsz' ps'[k] (List.getElem_mem hlt')
        obtain ⟨t', ht'⟩ : ∃ t, t = ps'[k] := ⟨_, rfl⟩
        rw [← ht'] at hcx' hsk'
        have HT' : Hid (t' = ps'[k]) := ht'
        have hki' : (k : Int) < (ps'.length : Int) := by omega
        have HP : Hid (cmpPre (ps.drop k) (ps'.drop k) = if cmpPart t t' = 0 then cmpPre (ps.drop (k + 1)) (ps'.drop (k + 1)) else cmpPart t t') := by rw [HT.out, HT'.out]; exact cmpPre_at ps ps' k hlt hlt'
        clear hc' hsz' ht'
        obtain ⟨z, hz⟩ : ∃ z, z = cmpPart t t' := ⟨_, rfl⟩
        have HC : Hid (∀ w1, Calls Tryd.prog 81 #[.string t, .string t'] w1 fun e w' => e = .returned (.int .i64 z) ∧ Below w1.heap.size w1 w') := fun w1 => by rw [hz]; exact comparePart_c t t' hsk hsk' w1
        rw [← hz] at HP
        clear hz
        go_wp2_with (go_at_call 81; refine (HC.out _).mono ?_; rintro e w1 ⟨rfl, b1⟩)
        · have h1 : (z != 0) = true := by assumption
          have h2 : ¬ z = 0 := by simpa using h1
          go_ret
          exact ⟨ret_int (by rw [← hh.out, HP.out, if_neg h2]), hbr.trans (b1.mono hbr.size)⟩
        · have h1 : (z != 0) = false := by assumption
          have h2 : z = 0 := by simpa using h1
          have HN : Hid (cmpPre (ps.drop (k + 1)) (ps'.drop (k + 1)) = cmpPre ps ps') := by show _ = _; rw [← hh.out, HP.out, if_pos h2]
          clear h2
          go_roundw
          case rel => exact ⟨k + 1, by omega, by go_num, HN, hbr.trans (b1.mono hbr.size)⟩
          case measure => simp [intOf]; omega
      · have hki' : ¬ (k : Int) < (ps'.length : Int) := by omega
        have hki2 : (ps'.length : Int) ≤ (k : Int) := by omega
        clear hc' hsz'
        go_wp2
        go_ret
        exact ⟨ret_int (by rw [← hh.out]; exact (cmpPre_past ps ps' k hlt hlt').symm), hbr⟩
    · have he : k = ps.length := by omega
      subst he
      have HE : Hid (cmpPre ps ps' = if ps.length < ps'.length then -1 else 0) := by show _ = _; rw [← hh.out]; exact cmpPre_end ps ps'
      clear hc hc' hsz hsz'
      by_cases hl : ps.length < ps'.length
      · have hl' : (ps.length : Int) < (ps'.length : Int) := by omega
        go_wp2
        go_ret
        exact ⟨ret_int (by rw [HE.out, if_pos hl]), hbr⟩
      · have hl' : ¬ (ps.length : Int) < (ps'.length : Int) := by omega
        go_wp2
        go_ret
        exact ⟨ret_int (by rw [HE.out, if_neg hl]), hbr⟩

theorem three_cells_d (w : World) (x y z : Int) (t : TypeId) : ∀ k (h : k < [x, y, z].length), (w.alloc (.cells #[.int .i64 x, .int .i64 y, .int .i64 z] t)).drew.cell? ⟨w.heap.size, k, none⟩ = some (.int .i64 [x, y, z][k]) := three_cells w x y z t

set_option maxHeartbeats 2000000 in
set_option maxRecDepth 100000 in
theorem compareVers_c (a b c : Int) (u : Value) (ps : List ByteArray) (a' b' c' : Int) (u' : Value) (ps' : List ByteArray) (w : World) (hu : Reads w u (strsV ps)) (hu' : Reads w u' (strsV ps')) (hb : bulkS ps ≤ 1048576) (hb' : bulkS ps' ≤ 1048576) :
    Calls Tryd.prog 40 #[.agg #[.int .i64 a, .int .i64 b, .int .i64 c, u], .agg #[.int .i64 a', .int .i64 b', .int .i64 c', u']] w fun e w' => e = .returned (.int .i64 (cmpVer a b c ps a' b' c' ps')) ∧ Below w.heap.size w w' := by
  have HF : Hid (∀ w1, Below w.heap.size w w1 → Calls Tryd.prog 80 #[u, u', .func (.func 81) #[] #[]] w1 fun e w' => e = .returned (.int .i64 (cmpPre ps ps')) ∧ Below w1.heap.size w1 w') := fun w1 h => compareFunc_c u u' ps ps' w1 (hu.below h) (hu'.below h) hb hb'
  have hn : ps.length ≤ 1048576 := by unfold bulkS at hb; omega
  have hn' : ps'.length ≤ 1048576 := by unfold bulkS at hb'; omega
  obtain ⟨q, cap, rfl, _, _⟩ := reads_strs hu
  obtain ⟨q', cap', rfl, _, _⟩ := reads_strs hu'
  clear hu hu' hb hb'
  obtain ⟨x, hx⟩ : ∃ x, x = orI [cmpI a a', cmpI b b', cmpI c c'] := ⟨_, rfl⟩
  have HV : Hid (cmpVer a b c ps a' b' c' ps' = if x = 0 then (if ps.length = 0 ∨ ps'.length = 0 then cmpI ps'.length ps.length else cmpPre ps ps') else x) := by show _ = _; rw [cmpVer, ← hx]
  have HO : Hid (∀ B w1, (∀ k (h : k < [cmpI a a', cmpI b b', cmpI c c'].length), w1.cell? ⟨B, k, none⟩ = some (.int .i64 [cmpI a a', cmpI b b', cmpI c c'][k])) → Calls Tryd.prog 78 #[.slice (some ⟨B, 0, none⟩) 3 3] w1 fun e w' => e = .returned (.int .i64 x) ∧ w1 = w') := fun B w1 h => by rw [hx]; exact or_c [cmpI a a', cmpI b b', cmpI c c'] B 3 w1 (by simp) (by simp) h
  clear hx
  have hb3 : ∀ A R O, Below w.heap.size w (((w.alloc A).alloc R).alloc O) := fun A R O => (((Below.refl _ _).alloc (Nat.le_refl _) _).alloc (by simp) _).alloc (by simp; omega) _
  go_enter Tryd.func40, Tryd.ntmps40
  go_wp2_with fail
  obtain ⟨A0, B0⟩ := four_two w 26 26 (.int .i64 a) (.int .i64 b) (.int .i64 c) (.slice q ps.length cap) (.int .i64 a') (.int .i64 b') (.int .i64 c') (.slice q' ps'.length cap')
  have hW := two_box (w := w) (.cells #[.int .i64 a, .int .i64 b, .int .i64 c, .slice q ps.length cap] 26) (.cells #[.int .i64 a', .int .i64 b', .int .i64 c', .slice q' ps'.length cap'] 26)
  generalize ((w.alloc (.cells #[.int .i64 a, .int .i64 b, .int .i64 c, .slice q ps.length cap] 26)).alloc (.cells #[.int .i64 a', .int .i64 b', .int .i64 c', .slice q' ps'.length cap'] 26)) = W0 at A0 B0 hW ⊢
  obtain ⟨x0, x1, x2, x3⟩ := A0.cells
  obtain ⟨y0, y1, y2, y3⟩ := B0.cells
  have la := A0.lt
  have lb := B0.lt
  go_region_held (fun w' => w'.cell? ⟨w.heap.size, 0, none⟩ = some (.int .i64 a) ∧ w'.cell? ⟨w.heap.size, 1, none⟩ = some (.int .i64 b) ∧ w'.cell? ⟨w.heap.size, 2, none⟩ = some (.int .i64 c) ∧ w'.cell? ⟨w.heap.size, 3, none⟩ = some (.slice q ps.length cap) ∧ w'.cell? ⟨w.heap.size + 1, 0, none⟩ = some (.int .i64 a') ∧ w'.cell? ⟨w.heap.size + 1, 1, none⟩ = some (.int .i64 b') ∧ w'.cell? ⟨w.heap.size + 1, 2, none⟩ = some (.int .i64 c') ∧ w'.cell? ⟨w.heap.size + 1, 3, none⟩ = some (.slice q' ps'.length cap')) (go_keep) (first
    | (go_at_call 79
       refine (compareInt_c _ _ _).mono ?_
       rintro e w1 ⟨rfl, rfl⟩)
    | (go_at_call 78
       refine (HO.out _ _ (three_cells_d _ _ _ _ _)).mono ?_
       rintro e w1 ⟨rfl, rfl⟩))
  have hW2 : ∀ o, Below w.heap.size w (W0.alloc o).drew := fun o => (hW.alloc hW.size _).drew
  by_cases h0 : x = 0
  · have HV2 : Hid (cmpVer a b c ps a' b' c' ps' = if ps.length = 0 ∨ ps'.length = 0 then cmpI ps'.length ps.length else cmpPre ps ps') := by show _ = _; rw [HV.out, if_pos h0]
    subst h0
    clear HV HO
    by_cases hp : ps.length = 0
    · have hp1 : ((ps.length : Int) == 0) = true := by simp [hp]
      have HP : Hid (cmpVer a b c ps a' b' c' ps' = cmpI ps'.length ps.length) := by show _ = _; rw [HV2.out, if_pos (.inl hp)]
      clear hp
      go_wp2_with (go_at_call 79; refine (compareInt_c _ _ _).mono ?_; rintro e w1 ⟨rfl, rfl⟩)
      go_ret
      exact ⟨ret_int HP.out.symm, hW2 _⟩
    · have hp1 : ((ps.length : Int) == 0) = false := by rw [beq_eq_false_iff_ne]; omega
      by_cases hp' : ps'.length = 0
      · have hp2 : ((ps'.length : Int) == 0) = true := by simp [hp']
        have HP : Hid (cmpVer a b c ps a' b' c' ps' = cmpI ps'.length ps.length) := by show _ = _; rw [HV2.out, if_pos (.inr hp')]
        clear hp hp'
        go_wp2_with (go_at_call 79; refine (compareInt_c _ _ _).mono ?_; rintro e w1 ⟨rfl, rfl⟩)
        go_ret
        exact ⟨ret_int HP.out.symm, hW2 _⟩
      · have hp2 : ((ps'.length : Int) == 0) = false := by rw [beq_eq_false_iff_ne]; omega
        have HP : Hid (cmpVer a b c ps a' b' c' ps' = cmpPre ps ps') := by show _ = _; rw [HV2.out, if_neg (by omega)]
        clear hp hp'
        go_wp2_with (go_at_call 80; refine (HF.out _ (hW2 _)).mono ?_; rintro e w1 ⟨rfl, b1⟩)
        go_ret
        exact ⟨ret_int HP.out.symm, (hW2 _).trans (b1.mono (hW2 _).size)⟩
  · have h1 : (x != 0) = true := by simpa using h0
    go_wp2
    go_ret
    exact ⟨ret_int (by rw [HV.out, if_neg h0]), hW2 _⟩

set_option maxHeartbeats 1000000 in
set_option maxRecDepth 100000 in
theorem implLess_c (a b c : Int) (u : Value) (ps : List ByteArray) (a' b' c' : Int) (u' : Value) (ps' : List ByteArray) (w : World) (hu : Reads w u (strsV ps)) (hu' : Reads w u' (strsV ps')) (hb : bulkS ps ≤ 1048576) (hb' : bulkS ps' ≤ 1048576) :
    Calls Tryd.prog 13 #[.agg #[.int .i64 a, .int .i64 b, .int .i64 c, u], .agg #[.int .i64 a', .int .i64 b', .int .i64 c', u']] w fun e w' => e = .returned (.bool (lessB a b c ps a' b' c' ps')) ∧ Below w.heap.size w w' := by
  have HF : Hid (∀ w1, Below w.heap.size w w1 → Calls Tryd.prog 40 #[.agg #[.int .i64 a, .int .i64 b, .int .i64 c, u], .agg #[.int .i64 a', .int .i64 b', .int .i64 c', u']] w1 fun e w' => e = .returned (.int .i64 (cmpVer a b c ps a' b' c' ps')) ∧ Below w1.heap.size w1 w') := fun w1 h => compareVers_c a b c u ps a' b' c' u' ps' w1 (hu.below h) (hu'.below h) hb hb'
  rw [← cmpVer_neg]
  obtain ⟨q, cap, rfl, _, _⟩ := reads_strs hu
  obtain ⟨q', cap', rfl, _, _⟩ := reads_strs hu'
  clear hu hu' hb hb'
  go_enter Tryd.func13, Tryd.ntmps13
  go_wp2_with (go_at_call 40; refine (HF.out _ (two_box _ _)).mono ?_; rintro e w1 ⟨rfl, b1⟩)
  go_ret
  exact ⟨rfl, (two_box _ _).trans (b1.mono (by simp; omega))⟩
end Go.Proofs.YtdnpfkknnaepoaaDoor
