/-
  What CmpOk answers, the program's and the specification's: contracts for the walks; conditions: the lists of texts lie in memory as told, and hold no more than 2 to the 20.
-/
import Derived.Test.YtdnpfkknnaepoaaVerI
import Derived.Test.YtdnpfkknnaepoaaVerJ
import Derived.Test.YtdnpfkknnaepoaaVerE
namespace Go.Proofs.Ytdnpfkknnaepoaa
open Go.RowKit
set_option linter.unusedSimpArgs false
set_option linter.unusedVariables false

theorem sameB_comm (a b c : Int) (ps : List ByteArray) (a' b' c' : Int) (ps' : List ByteArray) : sameB a b c ps a' b' c' ps' = sameB a' b' c' ps' a b c ps := by
  have e1 : (a == a') = (a' == a) := BEq.comm
  have e2 : (b == b') = (b' == b) := BEq.comm
  have e3 : (c == c') = (c' == c) := BEq.comm
  have e4 : decide (ps = ps') = decide (ps' = ps) := decide_eq_decide.2 eq_comm
  rw [sameB, sameB, coreB, coreB, e1, e2, e3, e4]

/-- What CmpOk answers of a Cmp and a version. -/
def cmpB (o a b c : Int) (ps : List ByteArray) (a' b' c' : Int) (ps' : List ByteArray) : Bool :=
  if o = 0 then sameB a b c ps a' b' c' ps' else if o = 1 then lessB a' b' c' ps' a b c ps else if o = 2 then !lessB a b c ps a' b' c' ps' else if o = 3 then lessB a b c ps a' b' c' ps' else if o = 4 then !lessB a' b' c' ps' a b c ps else false

set_option maxHeartbeats 1000000 in
set_option maxRecDepth 100000 in
theorem implCmpOk_c (o a b c : Int) (u : Value) (ps : List ByteArray) (a' b' c' : Int) (u' : Value) (ps' : List ByteArray) (w : World) (hu : Reads w u (strsV ps)) (hu' : Reads w u' (strsV ps')) (hb : bulkS ps ≤ 1048576) (hb' : bulkS ps' ≤ 1048576) :
    Calls Try.prog 27 #[.agg #[.int .i64 o, .int .i64 a, .int .i64 b, .int .i64 c, u], .agg #[.int .i64 a', .int .i64 b', .int .i64 c', u']] w fun e w' => e = .returned (.bool (cmpB o a b c ps a' b' c' ps')) ∧ Below w.heap.size w w' := by
  have hn : ps.length ≤ 1048576 := by unfold bulkS at hb; omega
  have hn' : ps'.length ≤ 1048576 := by unfold bulkS at hb'; omega
  have HS : Hid (∀ w1, Below w.heap.size w w1 → Calls Try.prog 13 #[.agg #[.int .i64 a', .int .i64 b', .int .i64 c', u'], .agg #[.int .i64 a, .int .i64 b, .int .i64 c, u]] w1 fun e w' => e = .returned (.bool (sameB a b c ps a' b' c' ps')) ∧ Below w1.heap.size w1 w') := fun w1 h => by
    rw [sameB_comm]
    exact implSame_c a' b' c' u' ps' a b c u ps w1 (hu'.below h) (hu.below h) hn'
  have HL : Hid (∀ w1, Below w.heap.size w w1 → Calls Try.prog 11 #[.agg #[.int .i64 a', .int .i64 b', .int .i64 c', u'], .agg #[.int .i64 a, .int .i64 b, .int .i64 c, u]] w1 fun e w' => e = .returned (.bool (lessB a' b' c' ps' a b c ps)) ∧ Below w1.heap.size w1 w') := fun w1 h => implLess_c a' b' c' u' ps' a b c u ps w1 (hu'.below h) (hu.below h) hb' hb
  have HM : Hid (∀ w1, Below w.heap.size w w1 → Calls Try.prog 11 #[.agg #[.int .i64 a, .int .i64 b, .int .i64 c, u], .agg #[.int .i64 a', .int .i64 b', .int .i64 c', u']] w1 fun e w' => e = .returned (.bool (lessB a b c ps a' b' c' ps')) ∧ Below w1.heap.size w1 w') := fun w1 h => implLess_c a b c u ps a' b' c' u' ps' w1 (hu.below h) (hu'.below h) hb hb'
  have HC : Hid (cmpB o a b c ps a' b' c' ps' = if o = 0 then sameB a b c ps a' b' c' ps' else if o = 1 then lessB a' b' c' ps' a b c ps else if o = 2 then !lessB a b c ps a' b' c' ps' else if o = 3 then lessB a b c ps a' b' c' ps' else if o = 4 then !lessB a' b' c' ps' a b c ps else false) := rfl
  obtain ⟨r0, hr0⟩ : ∃ r, r = sameB a b c ps a' b' c' ps' := ⟨_, rfl⟩
  obtain ⟨r1, hr1⟩ : ∃ r, r = lessB a' b' c' ps' a b c ps := ⟨_, rfl⟩
  obtain ⟨r2, hr2⟩ : ∃ r, r = lessB a b c ps a' b' c' ps' := ⟨_, rfl⟩
  obtain ⟨rc, hrc⟩ : ∃ r, r = cmpB o a b c ps a' b' c' ps' := ⟨_, rfl⟩
  rw [← hr0, ← hr1, ← hr2, ← hrc] at HC
  rw [← hr0] at HS
  rw [← hr1] at HL
  rw [← hr2] at HM
  rw [← hrc]
  obtain ⟨q, cap, rfl, _, _⟩ := reads_strs hu
  obtain ⟨q', cap', rfl, _, _⟩ := reads_strs hu'
  clear hu hu' hb hb' hr0 hr1 hr2 hrc
  by_cases h0 : o = 0
  · have e : rc = (r0) := by rw [HC.out]; simp [h0]
    rw [e]
    subst h0
    clear e HC
    go_enter Try.func27, Try.ntmps27
    go_wp2_with (go_at_call 13; refine (HS.out _ (two_box _ _)).mono ?_; rintro e w1 ⟨rfl, b1⟩)
    go_ret
    exact ⟨rfl, (two_box _ _).trans (b1.mono (by simp; omega))⟩
  by_cases h1 : o = 1
  · have e : rc = (r1) := by rw [HC.out]; simp [h1]
    rw [e]
    subst h1
    clear e HC
    go_enter Try.func27, Try.ntmps27
    go_wp2_with (go_at_call 11; refine (HL.out _ (two_box _ _)).mono ?_; rintro e w1 ⟨rfl, b1⟩)
    go_ret
    exact ⟨rfl, (two_box _ _).trans (b1.mono (by simp; omega))⟩
  by_cases h2 : o = 2
  · have e : rc = (!r2) := by rw [HC.out]; simp [h2]
    rw [e]
    subst h2
    clear e HC
    go_enter Try.func27, Try.ntmps27
    go_wp2_with (go_at_call 11; refine (HM.out _ (two_box _ _)).mono ?_; rintro e w1 ⟨rfl, b1⟩)
    go_ret
    exact ⟨rfl, (two_box _ _).trans (b1.mono (by simp; omega))⟩
  by_cases h3 : o = 3
  · have e : rc = (r2) := by rw [HC.out]; simp [h3]
    rw [e]
    subst h3
    clear e HC
    go_enter Try.func27, Try.ntmps27
    go_wp2_with (go_at_call 11; refine (HM.out _ (two_box _ _)).mono ?_; rintro e w1 ⟨rfl, b1⟩)
    go_ret
    exact ⟨rfl, (two_box _ _).trans (b1.mono (by simp; omega))⟩
  by_cases h4 : o = 4
  · have e : rc = (!r1) := by rw [HC.out]; simp [h4]
    rw [e]
    subst h4
    clear e HC
    go_enter Try.func27, Try.ntmps27
    go_wp2_with (go_at_call 11; refine (HL.out _ (two_box _ _)).mono ?_; rintro e w1 ⟨rfl, b1⟩)
    go_ret
    exact ⟨rfl, (two_box _ _).trans (b1.mono (by simp; omega))⟩
  have e : rc = false := by rw [HC.out]; simp [h0, h1, h2, h3, h4]
  rw [e]
  have k0 : (o == 0) = false := by simpa using h0
  have k1 : (o == 1) = false := by simpa using h1
  have k2 : (o == 2) = false := by simpa using h2
  have k3 : (o == 3) = false := by simpa using h3
  have k4 : (o == 4) = false := by simpa using h4
  clear e HC h0 h1 h2 h3 h4
  go_enter Try.func27, Try.ntmps27
  go_wp2
  go_ret
  exact ⟨rfl, two_box _ _⟩

set_option maxHeartbeats 1000000 in
set_option maxRecDepth 100000 in
theorem specCmpOk_c (o a b c : Int) (u : Value) (ps : List ByteArray) (a' b' c' : Int) (u' : Value) (ps' : List ByteArray) (w : World) (hu : Reads w u (strsV ps)) (hu' : Reads w u' (strsV ps')) (hb : bulkS ps ≤ 1048576) (hb' : bulkS ps' ≤ 1048576) :
    Calls Try.prog 24 #[.agg #[.int .i64 o, .int .i64 a, .int .i64 b, .int .i64 c, u], .agg #[.int .i64 a', .int .i64 b', .int .i64 c', u']] w fun e w' => e = .returned (.bool (cmpB o a b c ps a' b' c' ps')) ∧ Below w.heap.size w w' := by
  have hn : ps.length ≤ 1048576 := by unfold bulkS at hb; omega
  have hn' : ps'.length ≤ 1048576 := by unfold bulkS at hb'; omega
  have HS : Hid (∀ w1, Below w.heap.size w w1 → Calls Try.prog 14 #[.agg #[.int .i64 a, .int .i64 b, .int .i64 c, u], .agg #[.int .i64 a', .int .i64 b', .int .i64 c', u']] w1 fun e w' => e = .returned (.bool (sameB a b c ps a' b' c' ps')) ∧ Below w1.heap.size w1 w') := fun w1 h => by
    skip
    exact specSame_c a b c u ps a' b' c' u' ps' w1 (hu.below h) (hu'.below h) hn
  have HL : Hid (∀ w1, Below w.heap.size w w1 → Calls Try.prog 12 #[.agg #[.int .i64 a', .int .i64 b', .int .i64 c', u'], .agg #[.int .i64 a, .int .i64 b, .int .i64 c, u]] w1 fun e w' => e = .returned (.bool (lessB a' b' c' ps' a b c ps)) ∧ Below w1.heap.size w1 w') := fun w1 h => specLess_c a' b' c' u' ps' a b c u ps w1 (hu'.below h) (hu.below h) hb' hb
  have HM : Hid (∀ w1, Below w.heap.size w w1 → Calls Try.prog 12 #[.agg #[.int .i64 a, .int .i64 b, .int .i64 c, u], .agg #[.int .i64 a', .int .i64 b', .int .i64 c', u']] w1 fun e w' => e = .returned (.bool (lessB a b c ps a' b' c' ps')) ∧ Below w1.heap.size w1 w') := fun w1 h => specLess_c a b c u ps a' b' c' u' ps' w1 (hu.below h) (hu'.below h) hb hb'
  have HC : Hid (cmpB o a b c ps a' b' c' ps' = if o = 0 then sameB a b c ps a' b' c' ps' else if o = 1 then lessB a' b' c' ps' a b c ps else if o = 2 then !lessB a b c ps a' b' c' ps' else if o = 3 then lessB a b c ps a' b' c' ps' else if o = 4 then !lessB a' b' c' ps' a b c ps else false) := rfl
  obtain ⟨r0, hr0⟩ : ∃ r, r = sameB a b c ps a' b' c' ps' := ⟨_, rfl⟩
  obtain ⟨r1, hr1⟩ : ∃ r, r = lessB a' b' c' ps' a b c ps := ⟨_, rfl⟩
  obtain ⟨r2, hr2⟩ : ∃ r, r = lessB a b c ps a' b' c' ps' := ⟨_, rfl⟩
  obtain ⟨rc, hrc⟩ : ∃ r, r = cmpB o a b c ps a' b' c' ps' := ⟨_, rfl⟩
  rw [← hr0, ← hr1, ← hr2, ← hrc] at HC
  rw [← hr0] at HS
  rw [← hr1] at HL
  rw [← hr2] at HM
  rw [← hrc]
  obtain ⟨q, cap, rfl, _, _⟩ := reads_strs hu
  obtain ⟨q', cap', rfl, _, _⟩ := reads_strs hu'
  clear hu hu' hb hb' hr0 hr1 hr2 hrc
  by_cases h0 : o = 0
  · have e : rc = (r0) := by rw [HC.out]; simp [h0]
    rw [e]
    subst h0
    clear e HC
    go_enter Try.func24, Try.ntmps24
    go_wp2_with (go_at_call 14; refine (HS.out _ (two_box _ _)).mono ?_; rintro e w1 ⟨rfl, b1⟩)
    go_ret
    exact ⟨rfl, (two_box _ _).trans (b1.mono (by simp; omega))⟩
  by_cases h1 : o = 1
  · have e : rc = (r1) := by rw [HC.out]; simp [h1]
    rw [e]
    subst h1
    clear e HC
    go_enter Try.func24, Try.ntmps24
    go_wp2_with (go_at_call 12; refine (HL.out _ (two_box _ _)).mono ?_; rintro e w1 ⟨rfl, b1⟩)
    go_ret
    exact ⟨rfl, (two_box _ _).trans (b1.mono (by simp; omega))⟩
  by_cases h2 : o = 2
  · have e : rc = (!r2) := by rw [HC.out]; simp [h2]
    rw [e]
    subst h2
    clear e HC
    go_enter Try.func24, Try.ntmps24
    go_wp2_with (go_at_call 12; refine (HM.out _ (two_box _ _)).mono ?_; rintro e w1 ⟨rfl, b1⟩)
    go_ret
    exact ⟨rfl, (two_box _ _).trans (b1.mono (by simp; omega))⟩
  by_cases h3 : o = 3
  · have e : rc = (r2) := by rw [HC.out]; simp [h3]
    rw [e]
    subst h3
    clear e HC
    go_enter Try.func24, Try.ntmps24
    go_wp2_with (go_at_call 12; refine (HM.out _ (two_box _ _)).mono ?_; rintro e w1 ⟨rfl, b1⟩)
    go_ret
    exact ⟨rfl, (two_box _ _).trans (b1.mono (by simp; omega))⟩
  by_cases h4 : o = 4
  · have e : rc = (!r1) := by rw [HC.out]; simp [h4]
    rw [e]
    subst h4
    clear e HC
    go_enter Try.func24, Try.ntmps24
    go_wp2_with (go_at_call 12; refine (HL.out _ (two_box _ _)).mono ?_; rintro e w1 ⟨rfl, b1⟩)
    go_ret
    exact ⟨rfl, (two_box _ _).trans (b1.mono (by simp; omega))⟩
  have e : rc = false := by rw [HC.out]; simp [h0, h1, h2, h3, h4]
  rw [e]
  have k0 : (o == 0) = false := by simpa using h0
  have k1 : (o == 1) = false := by simpa using h1
  have k2 : (o == 2) = false := by simpa using h2
  have k3 : (o == 3) = false := by simpa using h3
  have k4 : (o == 4) = false := by simpa using h4
  clear e HC h0 h1 h2 h3 h4
  go_enter Try.func24, Try.ntmps24
  go_wp2
  go_ret
  exact ⟨rfl, two_box _ _⟩
end Go.Proofs.Ytdnpfkknnaepoaa
