/-
  What InRange answers, the program's: the search for a list that takes a version; conditions: what comes in lies in memory as told, and holds no more than 2 to the 20.
-/
import Derived.Test.YtdnpfkknnaepoaaRgG
namespace Go.Proofs.Ytdnpfkknnaepoaa
open Go.RowKit
set_option linter.unusedSimpArgs false
set_option linter.unusedVariables false

set_option maxHeartbeats 1000000 in
set_option maxRecDepth 100000 in
theorem inRangeFn_c (S : Nat → Prop) (v : Value) (ds : List CmpD) (B : Nat) (a' b' c' : Int) (u' : Value) (ps' : List ByteArray) (w : World) (hv : CmpsIn S w v ds) (hB : ∀ b, S b → b < w.heap.size) (hw : wtC ds ≤ 1048576) (hu' : Reads w u' (strsV ps')) (hb' : bulkS ps' ≤ 1048576) (hF : Four w B 26 (.int .i64 a') (.int .i64 b') (.int .i64 c') u') :
    Calls Try.prog 59 #[v, .pointer (some ⟨B, 0, none⟩)] w fun e w' => e = .returned (.bool (takeB a' b' c' ps' ds)) ∧ Below w.heap.size w w' := by
  have HA : Hid (Calls Try.prog 60 #[v, .agg #[.int .i64 a', .int .i64 b', .int .i64 c', u']] w fun e w' => e = .returned (.bool (takeB a' b' c' ps' ds)) ∧ Below w.heap.size w w') := allTake_c S v ds a' b' c' u' ps' w hv hB hw hu' hb'
  obtain ⟨q', cap', rfl, _, _⟩ := reads_strs hu'
  obtain ⟨a, cap, rfl, _⟩ := hv
  obtain ⟨x0, x1, x2, x3⟩ := hF.cells
  clear hu' hF
  go_enter Try.func59, Try.ntmps59
  go_wp2_with (go_at_call 60; refine HA.out.mono ?_; rintro e w1 ⟨rfl, b1⟩)
  go_ret
  exact ⟨rfl, b1⟩

theorem any_at {α : Type} (f : α → Bool) (l : List α) (k : Nat) (h : k < l.length) (hf : f l[k] = true) : l.any f = true := by
  rw [List.any_eq_true]; exact ⟨l[k], List.getElem_mem h, hf⟩

set_option maxHeartbeats 1000000 in
set_option maxRecDepth 100000 in
theorem indexRange_c (S : Nat → Prop) (v : Value) (dss : List (List CmpD)) (B : Nat) (a' b' c' : Int) (u' : Value) (ps' : List ByteArray) (w : World) (hv : RangeIn S w v dss) (hB : ∀ b, S b → b < w.heap.size) (hw : wtR dss ≤ 1048576) (hu' : Reads w u' (strsV ps')) (hb' : bulkS ps' ≤ 1048576) (hF : Four w B 26 (.int .i64 a') (.int .i64 b') (.int .i64 c') u') :
    Calls Try.prog 75 #[v, .func (.func 59) #[] #[.pointer (some ⟨B, 0, none⟩)]] w fun e w' => ∃ r : Int, e = .returned (.int .i64 r) ∧ decide (r ≥ 0) = dss.any (takeB a' b' c' ps') ∧ Below w.heap.size w w' := by
  obtain ⟨a, cap, rfl, hl, hc, ha⟩ := hv
  unfold maxLen at hl
  go_enter Try.func75, Try.ntmps75
  go_wp2_with fail
  go_loopw [8] (fun vi wr => ∃ k : Nat, k ≤ dss.length ∧ vi = .int .i64 (k : Int) ∧ Hid ((dss.take k).any (takeB a' b' c' ps') = false) ∧ Below w.heap.size w wr) (fun vi _ => dss.length - (intOf vi).toNat)
  case atStart => exact ⟨0, Nat.zero_le _, rfl, (by show _ = _; simp), Below.refl _ _⟩
  case round =>
    obtain ⟨k, hk, rfl, hany, hbr⟩ := hrel
    by_cases hlt' : k < dss.length
    · rcases ha with rfl | ⟨b, off, vs, rfl, hlt, ha⟩
      · simp at hlt'
      obtain ⟨e0, hu⟩ := ha k hlt'
      have hlt2 : b < w.heap.size := hB b hlt
      rw [← hbr.cell (by simpa using hlt2)] at e0
      have hwt : wtC dss[k] ≤ 1048576 := by have := wtC_wtR (List.getElem_mem hlt'); omega
      have hr1 : CmpsIn S wr (vs k) dss[k] := hu.keep (.of hbr hB)
      have hBr : ∀ b, S b → b < wr.heap.size := fun b h => Nat.lt_of_lt_of_le (hB b h) hbr.size
      have HT : Hid (takeB a' b' c' ps' dss[k] = true → dss.any (takeB a' b' c' ps') = true) := fun h => any_at _ _ k hlt' h
      have HN : Hid (takeB a' b' c' ps' dss[k] = false → (dss.take (k + 1)).any (takeB a' b' c' ps') = false) := fun h => by rw [any_take _ _ _ hlt', hany.out, h]; rfl
      obtain ⟨d, hd⟩ : ∃ d, d = dss[k] := ⟨_, rfl⟩
      rw [← hd] at hr1 hwt HT HN
      obtain ⟨x, hx⟩ : ∃ x, x = vs k := ⟨_, rfl⟩
      rw [← hx] at e0 hr1
      obtain ⟨r, hr⟩ : ∃ r, r = takeB a' b' c' ps' d := ⟨_, rfl⟩
      rw [← hr] at HT HN
      have HC : Hid (Calls Try.prog 59 #[x, .pointer (some ⟨B, 0, none⟩)] wr fun e w' => e = .returned (.bool r) ∧ Below wr.heap.size wr w') := by rw [hr]; exact inRangeFn_c S x d B a' b' c' u' ps' wr hr1 hBr hwt (hu'.below hbr) hb' ((hbr.block B hF.lt).trans hF)
      obtain ⟨uq, ucap, hu3, _⟩ := id hr1
      subst hu3
      have hki : (k : Int) < (dss.length : Int) := by omega
      clear ha hu hd hx hr hr1 hu' hF
      cases r with
      | true =>
        have HT2 : Hid (dss.any (takeB a' b' c' ps') = true) := HT.out rfl
        clear HT HN
        go_wp2_with (go_at_call 59; refine HC.out.mono ?_; rintro e w1 ⟨rfl, b1⟩)
        go_ret
        exact ⟨(k : Int), rfl, by rw [HT2.out]; exact decide_eq_true (by omega), hbr.trans (b1.mono hbr.size)⟩
      | false =>
        have HN2 : Hid ((dss.take (k + 1)).any (takeB a' b' c' ps') = false) := HN.out rfl
        clear HT HN
        go_wp2_with (go_at_call 59; refine HC.out.mono ?_; rintro e w1 ⟨rfl, b1⟩)
        go_roundw
        case rel => exact ⟨k + 1, by omega, by go_num, HN2, hbr.trans (b1.mono hbr.size)⟩
        case measure => simp [intOf]; omega
    · have he : k = dss.length := by omega
      subst he
      have HE : Hid (dss.any (takeB a' b' c' ps') = false) := by have := hany.out; rw [List.take_length] at this; exact this
      clear ha hany hu' hF
      go_wp2_with fail
      go_ret
      exact ⟨-1, rfl, by rw [HE.out]; rfl, hbr⟩

set_option maxHeartbeats 1000000 in
set_option maxRecDepth 100000 in
theorem containsRange_c (S : Nat → Prop) (v : Value) (dss : List (List CmpD)) (B : Nat) (a' b' c' : Int) (u' : Value) (ps' : List ByteArray) (w : World) (hv : RangeIn S w v dss) (hB : ∀ b, S b → b < w.heap.size) (hw : wtR dss ≤ 1048576) (hu' : Reads w u' (strsV ps')) (hb' : bulkS ps' ≤ 1048576) (hF : Four w B 26 (.int .i64 a') (.int .i64 b') (.int .i64 c') u') :
    Calls Try.prog 58 #[v, .func (.func 59) #[] #[.pointer (some ⟨B, 0, none⟩)]] w fun e w' => e = .returned (.bool (dss.any (takeB a' b' c' ps'))) ∧ Below w.heap.size w w' := by
  have HA := indexRange_c S v dss B a' b' c' u' ps' w hv hB hw hu' hb' hF
  obtain ⟨a, cap, rfl, _⟩ := hv
  obtain ⟨R, hR⟩ : ∃ R, R = dss.any (takeB a' b' c' ps') := ⟨_, rfl⟩
  rw [← hR] at HA
  rw [← hR]
  have HA' : Hid (Calls Try.prog 75 #[.slice a dss.length cap, .func (.func 59) #[] #[.pointer (some ⟨B, 0, none⟩)]] w fun e w' => ∃ r : Int, e = .returned (.int .i64 r) ∧ decide (r ≥ 0) = R ∧ Below w.heap.size w w') := HA
  clear HA hR hu' hF
  go_enter Try.func58, Try.ntmps58
  go_wp2_with (go_at_call 75; refine HA'.out.mono ?_; rintro e w1 ⟨r, rfl, hr, b1⟩; have HR : Hid (decide (r ≥ 0) = R) := hr; clear hr)
  go_ret
  exact ⟨by rw [← HR.out]; rfl, b1⟩

set_option maxHeartbeats 1000000 in
set_option maxRecDepth 100000 in
theorem implInRange_c (S : Nat → Prop) (v : Value) (dss : List (List CmpD)) (a' b' c' : Int) (u' : Value) (ps' : List ByteArray) (w : World) (hv : RangeIn S w v dss) (hB : ∀ b, S b → b < w.heap.size) (hw : wtR dss ≤ 1048576) (hu' : Reads w u' (strsV ps')) (hb' : bulkS ps' ≤ 1048576) :
    Calls Try.prog 33 #[v, .agg #[.int .i64 a', .int .i64 b', .int .i64 c', u']] w fun e w' => e = .returned (.bool (inRB a' b' c' ps' dss)) ∧ Below w.heap.size w w' := by
  have hbx : ∀ o, Below w.heap.size w (w.alloc o) := fun o => (Below.refl _ _).alloc (Nat.le_refl _) _
  have F0 := four_new w 26 (.int .i64 a') (.int .i64 b') (.int .i64 c') u'
  have hmf : ∀ (fn : Fn) (first cap : Array Value) (w : World), (Instr.makeFunc fn first cap).run Try.prog w = .ok (.func fn first cap) w := fun _ _ _ _ => rfl
  have hB1 : ∀ w1, Below w.heap.size w w1 → ∀ b, S b → b < w1.heap.size := fun w1 h b hb => Nat.lt_of_lt_of_le (hB b hb) h.size
  obtain ⟨r1, hr1⟩ : ∃ r, r = verB a' b' c' ps' := ⟨_, rfl⟩
  obtain ⟨r2, hr2⟩ : ∃ r, r = dss.any (takeB a' b' c' ps') := ⟨_, rfl⟩
  have HV : Hid (∀ w1, Below w.heap.size w w1 → Calls Try.prog 15 #[.agg #[.int .i64 a', .int .i64 b', .int .i64 c', u']] w1 fun e w' => e = .returned (.bool r1) ∧ Below w1.heap.size w1 w') := fun w1 h => by rw [hr1]; exact implVerOk_c a' b' c' u' ps' w1 (hu'.below h) hb'
  have HC : Hid (∀ w1, Below w.heap.size w w1 → Four w1 w.heap.size 26 (.int .i64 a') (.int .i64 b') (.int .i64 c') u' → Calls Try.prog 58 #[v, .func (.func 59) #[] #[.pointer (some ⟨w.heap.size, 0, none⟩)]] w1 fun e w' => e = .returned (.bool r2) ∧ Below w1.heap.size w1 w') := fun w1 h hF => by rw [hr2]; exact containsRange_c S v dss w.heap.size a' b' c' u' ps' w1 (hv.keep (.of h hB)) (hB1 w1 h) hw (hu'.below h) hb' hF
  have e : inRB a' b' c' ps' dss = (r1 && r2) := by rw [inRB, hr1, hr2]
  rw [e]
  obtain ⟨q', cap', rfl, _, _⟩ := reads_strs hu'
  obtain ⟨a, cap, rfl, _⟩ := hv
  clear hu' hr1 hr2 e
  cases r1 with
  | false =>
    rw [Bool.false_and]
    go_enter Try.func33, Try.ntmps33
    go_wp2_with (go_at_call 15; refine (HV.out _ (hbx _)).mono ?_; rintro e w1 ⟨rfl, b1⟩)
    go_ret
    exact ⟨rfl, (hbx _).trans (b1.mono (by simp))⟩
  | true =>
    rw [Bool.true_and]
    go_enter Try.func33, Try.ntmps33
    go_wp2_with (first
      | (go_at_call 15; refine (HV.out _ (hbx _)).mono ?_; rintro e w1 ⟨rfl, b1⟩; have F1 := F0.keep b1; have k1 := (hbx (.cells #[.int .i64 a', .int .i64 b', .int .i64 c', .slice q' ps'.length cap'] 26)).trans (b1.mono (by simp)))
      | (go_at_call 58; refine (HC.out _ k1 F1).mono ?_; rintro e w2 ⟨rfl, b2⟩))
    go_ret
    exact ⟨rfl, k1.trans (b2.mono k1.size)⟩
end Go.Proofs.Ytdnpfkknnaepoaa
