/-
  What LessVer answers, the specification's: contracts for the walks; conditions: the lists of texts lie in memory as told, and hold no more than 2 to the 20.
-/
import Derived.Test.YtdnpfkknnaepoaaVerG
import Derived.Test.YtdnpfkknnaepoaaVerE
import Derived.Test.YtdnpfkknnaepoaaVerF
namespace Go.Proofs.Ytdnpfkknnaepoaa
open Go.RowKit
set_option linter.unusedSimpArgs false
set_option linter.unusedVariables false

theorem quiet_ver {P : Program} {f : FuncId} {args : Array Value} {w : World} {n : Nat} {v : Value}
    (h : Calls P f args (w.drewN n) fun e w' => e = .returned v ∧ w.drewN n = w') : Calls P f args (w.drewN n) fun e w'' => e = .returned v ∧ ∃ m, w'' = w.drewN m :=
  h.mono fun _ _ ⟨he, hm⟩ => ⟨he, n, hm.symm⟩

theorem lessGo_at (ps ps' : List ByteArray) (k : Nat) (h : k < ps.length) (h' : k < ps'.length) : lessGo (ps.drop k) (ps'.drop k) = if ps[k] = ps'[k] then lessGo (ps.drop (k + 1)) (ps'.drop (k + 1)) else lessPart ps[k] ps'[k] := by
  rw [List.drop_eq_getElem_cons h, List.drop_eq_getElem_cons h', lessGo]
theorem lessGo_end (ps ps' : List ByteArray) (k : Nat) (h : k ≤ ps.length) (h' : k ≤ ps'.length) (he : ¬ (k < ps.length ∧ k < ps'.length)) : lessGo (ps.drop k) (ps'.drop k) = decide (ps.length < ps'.length) := by
  by_cases hk : k < ps.length
  · have : ps'.length = k := by omega
    rw [List.drop_eq_getElem_cons hk, List.drop_eq_nil_of_le (show ps'.length ≤ k by omega), lessGo, Bool.eq_iff_iff]
    simp; omega
  · rw [List.drop_eq_nil_of_le (show ps.length ≤ k by omega), lessGo, Bool.eq_iff_iff]
    simp; omega

set_option maxHeartbeats 1000000 in
set_option maxRecDepth 100000 in
theorem lessPre_c (u u' : Value) (ps ps' : List ByteArray) (w : World) (hu : Reads w u (strsV ps)) (hu' : Reads w u' (strsV ps')) (hb : bulkS ps ≤ 1048576) (hb' : bulkS ps' ≤ 1048576) :
    Calls Try.prog 41 #[u, u'] w fun e w' => e = .returned (.bool (lessPre ps ps')) ∧ Below w.heap.size w w' := by
  have hsz : ∀ s ∈ ps, s.size ≤ maxLen := fun s hs => by have := size_of_bulk hs; unfold maxLen; omega
  have hsz' : ∀ s ∈ ps', s.size ≤ maxLen := fun s hs => by have := size_of_bulk hs; unfold maxLen; omega
  have hn : ps.length ≤ 1048576 := by unfold bulkS at hb; omega
  have hn' : ps'.length ≤ 1048576 := by unfold bulkS at hb'; omega
  obtain ⟨q, cap, rfl, _, hc⟩ := reads_strs hu
  obtain ⟨q', cap', rfl, _, hc'⟩ := reads_strs hu'
  clear hu hu' hb hb'
  by_cases hp : ps.length = 0
  · have hp1 : ((ps.length : Int) == 0) = true := by simp [hp]
    have hp2 : ¬ (0 : Int) < (ps.length : Int) := by omega
    have HP : Hid (lessPre ps ps' = false) := by show _ = _; rw [lessPre, if_pos (.inl hp)]; simp [hp]
    clear hp hc hc'
    go_enter Try.func41, Try.ntmps41
    go_wp2
    go_ret
    exact ⟨ret_bool HP.out.symm, Below.refl _ _⟩
  have hp1 : ((ps.length : Int) == 0) = false := by rw [beq_eq_false_iff_ne]; omega
  by_cases hp' : ps'.length = 0
  · have hp2 : ((ps'.length : Int) == 0) = true := by simp [hp']
    have hp3 : (0 : Int) < (ps.length : Int) := by omega
    have HP : Hid (lessPre ps ps' = true) := by show _ = _; rw [lessPre, if_pos (.inr hp')]; simp [hp']; omega
    clear hp hp' hc hc'
    go_enter Try.func41, Try.ntmps41
    go_wp2
    go_ret
    exact ⟨ret_bool HP.out.symm, Below.refl _ _⟩
  have hp2 : ((ps'.length : Int) == 0) = false := by rw [beq_eq_false_iff_ne]; omega
  have HP : Hid (lessPre ps ps' = lessGo ps ps') := by show _ = _; rw [lessPre, if_neg (by omega)]
  rcases hc with rfl | ⟨bl, off, rfl, hlb, hc⟩
  · simp at hp
  rcases hc' with rfl | ⟨bl', off', rfl, hlb', hc'⟩
  · simp at hp'
  clear hp hp'
  go_enter Try.func41, Try.ntmps41
  go_wp2
  go_loopw [5] (fun vi wr => ∃ k : Nat, k ≤ ps.length ∧ k ≤ ps'.length ∧ vi = .int .i64 (k : Int) ∧ Hid (lessGo (ps.drop k) (ps'.drop k) = lessGo ps ps') ∧ Below w.heap.size w wr) (fun vi _ => ps.length - (intOf vi).toNat)
  case atStart => exact ⟨0, Nat.zero_le _, Nat.zero_le _, rfl, rfl, Below.refl _ _⟩
  case round =>
    obtain ⟨k, hk, hk', rfl, hh, hbr⟩ := hrel
    by_cases hlt : k < ps.length
    · have hki : (k : Int) < (ps.length : Int) := by omega
      by_cases hlt' : k < ps'.length
      · have hki' : (k : Int) < (ps'.length : Int) := by omega
        have hcx : wr.cell? ⟨bl, off + k, none⟩ = some (.string ps[k]) := (hbr.cell (p := ⟨bl, off + k, none⟩) hlb).trans (hc k hlt)
        have hsk := hsz ps[k] (List.getElem_mem hlt)
        have hcx' : wr.cell? ⟨bl', off' + k, none⟩ = some (.string ps'[k]) := (hbr.cell (p := ⟨bl', off' + k, none⟩) hlb').trans (hc' k hlt')
        have hsk' := hsz' ps'[k] (List.getElem_mem hlt')
        have HG := lessGo_at ps ps' k hlt hlt'
        obtain ⟨t, ht⟩ : ∃ t, t = ps[k] := ⟨_, rfl⟩
        obtain ⟨t', ht'⟩ : ∃ t, t = ps'[k] := ⟨_, rfl⟩
        rw [← ht] at hcx hsk HG
        rw [← ht'] at hcx' hsk' HG
        have HG : Hid (lessGo (ps.drop k) (ps'.drop k) = if t = t' then lessGo (ps.drop (k + 1)) (ps'.drop (k + 1)) else lessPart t t') := HG
        clear hc hc' hsz hsz' ht ht'
        by_cases hne : t = t'
        · have hq : (!t.toList == t'.toList) = false := by rw [hne]; simp
          have HN : Hid (lessGo (ps.drop (k + 1)) (ps'.drop (k + 1)) = lessGo ps ps') := by show _ = _; rw [← hh.out, HG.out, if_pos hne]
          clear hne
          go_wp2
          go_quiet (fail)
          go_wp2
          go_roundw
          case rel => exact ⟨k + 1, by omega, by omega, by go_num, HN, below_drewN' hbr _⟩
          case measure => simp [intOf]; omega
        · have hq : (!t.toList == t'.toList) = true := by
            have : ¬ t.toList = t'.toList := fun e => hne (bytes_eq_of_toList e)
            simpa using this
          have HQ : Hid (∀ w1, Calls Try.prog 69 #[.string t, .string t'] w1 fun e w' => e = .returned (.bool (lessPart t t')) ∧ w1 = w') := fun w1 => specLessPart_c t t' hsk hsk' w1
          have HN : Hid (lessPart t t' = lessPre ps ps') := by show _ = _; rw [HP.out, ← hh.out, HG.out, if_neg hne]
          clear hne
          go_wp2
          go_quiet (fail)
          go_wp2
          have hbr2 := below_drewN' hbr nq
          have hcz : (wr.drewN nq).cell? ⟨bl, off + k, none⟩ = some (.string t) := hcx
          have hcz' : (wr.drewN nq).cell? ⟨bl', off' + k, none⟩ = some (.string t') := hcx'
          generalize wr.drewN nq = W1 at hbr2 hcz hcz' ⊢
          clear hcx hcx' hbr
          go_quiet (first | (go_at_call 69; exact quiet_ver (HQ.out _)))
          go_wp2
          go_ret
          exact ⟨ret_bool HN.out, below_drewN' hbr2 _⟩
      · have hki' : ¬ (k : Int) < (ps'.length : Int) := by omega
        have HE : Hid (lessPre ps ps' = decide (ps.length < ps'.length)) := by show _ = _; rw [HP.out, ← hh.out]; exact lessGo_end ps ps' k hk hk' (by omega)
        clear hc hc' hsz hsz'
        go_wp2
        go_ret
        exact ⟨ret_bool (by rw [HE.out, Bool.eq_iff_iff]; first | done | simp), hbr⟩
    · have hki : ¬ (k : Int) < (ps.length : Int) := by omega
      have HE : Hid (lessPre ps ps' = decide (ps.length < ps'.length)) := by show _ = _; rw [HP.out, ← hh.out]; exact lessGo_end ps ps' k hk hk' (by omega)
      clear hc hc' hsz hsz'
      go_wp2
      go_ret
      exact ⟨ret_bool (by rw [HE.out, Bool.eq_iff_iff]; first | done | simp), hbr⟩

set_option maxHeartbeats 1000000 in
set_option maxRecDepth 100000 in
theorem specLess_c (a b c : Int) (u : Value) (ps : List ByteArray) (a' b' c' : Int) (u' : Value) (ps' : List ByteArray) (w : World) (hu : Reads w u (strsV ps)) (hu' : Reads w u' (strsV ps')) (hb : bulkS ps ≤ 1048576) (hb' : bulkS ps' ≤ 1048576) :
    Calls Try.prog 12 #[.agg #[.int .i64 a, .int .i64 b, .int .i64 c, u], .agg #[.int .i64 a', .int .i64 b', .int .i64 c', u']] w fun e w' => e = .returned (.bool (lessB a b c ps a' b' c' ps')) ∧ Below w.heap.size w w' := by
  have HF : Hid (∀ w1, Below w.heap.size w w1 → Calls Try.prog 41 #[u, u'] w1 fun e w' => e = .returned (.bool (lessPre ps ps')) ∧ Below w1.heap.size w1 w') := fun w1 h => lessPre_c u u' ps ps' w1 (hu.below h) (hu'.below h) hb hb'
  obtain ⟨q, cap, rfl, _, _⟩ := reads_strs hu
  obtain ⟨q', cap', rfl, _, _⟩ := reads_strs hu'
  clear hu hu' hb hb'
  by_cases ha : a = a'
  · by_cases hb : b = b'
    · by_cases hc : c = c'
      · have HE : Hid (lessB a b c ps a' b' c' ps' = lessPre ps ps') := by show _ = _; rw [lessB, if_pos ha, if_pos hb, if_pos hc]
        have e1 : (a != a') = false := by simp [ha]
        have e2 : (b != b') = false := by simp [hb]
        have e3 : (c != c') = false := by simp [hc]
        clear ha hb hc
        go_enter Try.func12, Try.ntmps12
        go_wp2_with (go_at_call 41; refine (HF.out _ (two_box _ _)).mono ?_; rintro e w1 ⟨rfl, b1⟩)
        go_ret
        exact ⟨ret_bool HE.out.symm, (two_box _ _).trans (b1.mono (by simp; omega))⟩
      · have HE : Hid (lessB a b c ps a' b' c' ps' = decide (c < c')) := by show _ = _; rw [lessB, if_pos ha, if_pos hb, if_neg hc]
        have e1 : (a != a') = false := by simp [ha]
        have e2 : (b != b') = false := by simp [hb]
        have e3 : (c != c') = true := by simpa using hc
        clear ha hb hc
        go_enter Try.func12, Try.ntmps12
        go_wp2
        go_ret
        exact ⟨ret_bool HE.out.symm, two_box _ _⟩
    · have HE : Hid (lessB a b c ps a' b' c' ps' = decide (b < b')) := by show _ = _; rw [lessB, if_pos ha, if_neg hb]
      have e1 : (a != a') = false := by simp [ha]
      have e2 : (b != b') = true := by simpa using hb
      clear ha hb
      go_enter Try.func12, Try.ntmps12
      go_wp2
      go_ret
      exact ⟨ret_bool HE.out.symm, two_box _ _⟩
  · have HE : Hid (lessB a b c ps a' b' c' ps' = decide (a < a')) := by show _ = _; rw [lessB, if_neg ha]
    have e1 : (a != a') = true := by simpa using ha
    clear ha
    go_enter Try.func12, Try.ntmps12
    go_wp2
    go_ret
    exact ⟨ret_bool HE.out.symm, two_box _ _⟩
end Go.Proofs.Ytdnpfkknnaepoaa
