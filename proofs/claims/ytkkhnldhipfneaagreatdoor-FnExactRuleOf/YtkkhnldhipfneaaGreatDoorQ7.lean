/-
  Contracts for the walks, several texts in one: each part says what it proves, and under which conditions.
-/
import Derived.Defers
import Derived.Recover
import Derived.BigQuiet
import Derived.Test.YtkkhnldhipfneaaGreatDoorQ1
import Derived.Test.YtkkhnldhipfneaaGreatDoorQ6
import Derived.Test.YtkkhnldhipfneaaGreatDoorQ4

/-! Marks put into rows of rules, as the law puts them: a contract for the walks; conditions: the rows lie in memory, may be written, and there are at most 2 to the 32 marks. -/
namespace Go.Proofs.YtkkhnldhipfneaaGreatDoor
open Go.RowKit
set_option linter.unusedSimpArgs false
set_option linter.unusedVariables false

def lenR (d : RuleD) (r : Nat) : Nat := if r = 1 then d.on.length else if r = 2 then d.ins.length else d.envs.length
/-- The rows of a row of rules: each may be written. -/
def RuleRows (w : World) (S : Nat → Prop) (ys : List Value) (xs : List RuleD) : Prop := ∀ i (h : i < xs.length) r, 1 ≤ r → r ≤ 3 → ∃ u z, ys[i * 5 + r]? = some u ∧ w.ownsRow 0 9 1 u (lenR xs[i] r) z ∧ (∀ g, u.ownBlock = some g → S g)
theorem RuleRows.set {w : World} {S : Nat → Prop} {ys : List Value} {xs : List RuleD} (h : RuleRows w S ys xs) (i r : Nat) (hr : r = 0 ∨ r = 4) (v : Value) : RuleRows w S (ys.set (i * 5 + r) v) xs := fun j hj r' h1 h3 => by
  obtain ⟨u0, z0, a1, a3⟩ := h j hj r' h1 h3
  exact ⟨u0, z0, by rw [List.getElem?_set_ne (by omega)]; exact a1, a3⟩
theorem RuleRows.below {w w' : World} {S : Nat → Prop} {ys : List Value} {xs : List RuleD} (h : RuleRows w S ys xs) (hb : Below w.heap.size w w') : RuleRows w' S ys xs := fun j hj r' h1 h3 => by
  obtain ⟨u0, z0, a1, a3, a4⟩ := h j hj r' h1 h3
  exact ⟨u0, z0, a1, owns_kept (S := fun b => b < w.heap.size) (.of hb (fun b h => h)) (fun g h => (owns_in a3 g h).2) a3, a4⟩
theorem RuleRows.store {w : World} {S : Nat → Prop} {ys : List Value} {xs : List RuleD} {g j n cap : Nat} {zs : List Value} {x : Value} (h : RuleRows w S ys xs) (hg : w.ownsRow 0 51 5 (.slice (some ⟨g, 0, none⟩) n cap) n zs) : RuleRows (w.setCell ⟨g, j, none⟩ x) S ys xs := fun i hi r' h1 h3 => by
  obtain ⟨u0, z0, a1, a3, a4⟩ := h i hi r' h1 h3
  exact ⟨u0, z0, a1, own_putP a3 hg (by decide), a4⟩
theorem RuleRows.overS {w w' : World} {S : Nat → Prop} {ys : List Value} {xs : List RuleD} {u : Value} {n : Nat} {z z' : List Value} (h : RuleRows w S ys xs) (h0 : w.ownsRow 0 9 1 u n z) (h1 : w'.ownsRow 0 9 1 u n z') (hg : w.grownBy w' u.ownBlock) : RuleRows w' S ys xs := fun i hi r' hr1 hr3 => by
  obtain ⟨u0, z0, a1, a3, a4⟩ := h i hi r' hr1 hr3
  obtain ⟨z2, a7⟩ := owns_over a3 h0 h1 hg (by omega)
  exact ⟨u0, z2, a1, a7, a4⟩
theorem ruleRows_of {S : Nat → Prop} {w : World} {ys : List Value} {xs : List RuleD} (h : Laid shRuleO S w ys xs xs.length) : RuleRows w S ys xs := fun i hi r h1 h3 => by
  obtain ⟨cs, _, ⟨u0, u1, u2, rfl, _, a0, _, a1, _, a2, _⟩, h4⟩ := h i hi hi
  have hr : r = 1 ∨ r = 2 ∨ r = 3 := by omega
  rcases hr with rfl | rfl | rfl
  · exact ⟨u0, _, h4 1 (by simp), a0.1, a0.2⟩
  · exact ⟨u1, _, h4 2 (by simp), a1.1, a1.2⟩
  · exact ⟨u2, _, h4 3 (by simp), a2.1, a2.2⟩
def cntR (d : RuleD) : Nat := 2 + d.on.length + d.ins.length + d.envs.length
def cntRs (xs : List RuleD) : Nat := (xs.map cntR).sum
theorem cntRs_take (xs : List RuleD) (i : Nat) (h : i < xs.length) : cntRs (xs.take (i + 1)) = cntRs (xs.take i) + cntR xs[i] := by
  unfold cntRs
  rw [List.take_succ_eq_append_getElem h, List.map_append, List.sum_append]; simp
theorem cntRs_le (xs : List RuleD) (i : Nat) : cntRs (xs.take i) ≤ cntRs xs := by
  unfold cntRs
  conv => rhs; rw [← List.take_append_drop i xs, List.map_append, List.sum_append]
  omega
theorem cntR_wt (d : RuleD) : cntR d ≤ 4 * (1 + wtRule d) := by
  unfold cntR wtRule bulkS
  omega
theorem cntRs_wt : ∀ xs : List RuleD, cntRs xs ≤ 4 * wtRow wtRule xs
  | [] => by simp [cntRs]
  | d :: xs => by
    have h1 := cntRs_wt xs
    have h2 := cntR_wt d
    have e1 : cntRs (d :: xs) = cntR d + cntRs xs := by simp [cntRs]
    have e2 : wtRow wtRule (d :: xs) = (1 + wtRule d) + wtRow wtRule xs := by simp [wtRow]
    omega

set_option maxHeartbeats 8000000 in
set_option maxRecDepth 100000 in
theorem markRuleS_c (S : Nat → Prop) (v : Value) (xs : List RuleD) (k : Nat) (w : World) (hv : RowOwn shRuleO 51 S w v xs) (h1 : 1 ≤ k) (h2 : k + cntRs xs ≤ 4294967296) :
    Calls Tryz.prog 40 #[v, .int .i64 (k : Int)] w fun e w' => e = .returned (.int .i64 ((k + cntRs xs : Nat) : Int)) ∧ Chg S w w' := by
  obtain ⟨_, zs, hv, hg, hld⟩ := hv
  have hr := ruleRows_of hld
  clear hld
  have hv : w.ownsRow 0 51 5 v xs.length zs := hv
  rcases id hv.2 with ⟨rfl, hn0⟩ | ⟨g, cap, cur, rfl, _, hgb, hcap, hmax, _⟩
  · have hns : xs = [] := List.eq_nil_of_length_eq_zero hn0
    subst hns
    clear hv hg hr
    go_enter Tryz.func40, Tryz.ntmps40
    go_wp2_with fail
    go_loopw [1, 5] (fun vk vi wr => vk = .int .i64 (k : Int) ∧ vi = .int .i64 0 ∧ wr = w) (fun _ _ _ => 0)
    case atStart => exact ⟨rfl, rfl, rfl⟩
    case round =>
      obtain ⟨rfl, rfl, rfl⟩ := hrel
      go_wp2_with fail
      go_ret
      exact ⟨by simp [cntRs], Chg.refl _ _⟩
  · have hSg := hg g rfl
    unfold maxLen at hmax
    clear hgb hg
    go_enter Tryz.func40, Tryz.ntmps40
    go_wp2_with fail
    go_loopw [1, 5] (fun vk vi wr => ∃ (i m : Nat) (ys : List Value), i ≤ xs.length ∧ vi = .int .i64 (i : Int) ∧ vk = .int .i64 (m : Int) ∧ Hid (m = k + cntRs (xs.take i)) ∧ wr.ownsRow 0 51 5 (.slice (some ⟨g, 0, none⟩) xs.length cap) xs.length ys ∧ Hid (RuleRows wr S ys xs) ∧ Chg S w wr) (fun _ vi _ => xs.length - (intOf vi).toNat)
    case atStart => exact ⟨0, k, zs, Nat.zero_le _, rfl, rfl, by show _ = _; simp [cntRs], hv, hr, Chg.refl _ _⟩
    case round =>
      obtain ⟨i, m, ys, hi, rfl, rfl, hm, hown, hrr, hchg⟩ := hrel
      by_cases hlt : i < xs.length
      · have hlen := hown.1
        have hts := cntRs_take xs i hlt
        have htl := cntRs_le xs (i + 1)
        obtain ⟨P, hP⟩ : ∃ P, P = lenR xs[i] 1 := ⟨_, rfl⟩
        obtain ⟨P2, hP2⟩ : ∃ P, P = lenR xs[i] 2 := ⟨_, rfl⟩
        obtain ⟨P3, hP3⟩ : ∃ P, P = lenR xs[i] 3 := ⟨_, rfl⟩
        have hcr : cntR xs[i] = 2 + P + P2 + P3 := by rw [hP, hP2, hP3]; rfl
        have HTS : Hid (cntRs (xs.take (i + 1)) = cntRs (xs.take i) + (2 + P + P2 + P3) ∧ cntRs (xs.take (i + 1)) ≤ cntRs xs) := ⟨by rw [← hcr]; exact hts, htl⟩
        have HP := hidden hP
        have HP2 := hidden hP2
        have HP3 := hidden hP3
        have hm2 : m + 2 + P + P2 + P3 ≤ 4294967296 := by have := hm.out; have := HTS.out; omega
        have hm1 : 1 ≤ m := by have := hm.out; omega
        obtain ⟨K1, hK1⟩ : ∃ K, K = m + 1 + P := ⟨_, rfl⟩
        obtain ⟨K2, hK2⟩ : ∃ K, K = K1 + P2 := ⟨_, rfl⟩
        obtain ⟨K3, hK3⟩ : ∃ K, K = K2 + P3 := ⟨_, rfl⟩
        have hKb : K3 + 1 ≤ 4294967296 := by omega
        have hki : (i : Int) < (xs.length : Int) := by omega
        have HO := hidden hown
        have HM1 := hidden (fun w1 => markText_c m w1 (by omega) (by omega))
        have HN1 : Hid (∀ W u z, W.ownsRow 0 9 1 u P z → Calls Tryz.prog 41 #[u, .int .i64 ((m : Int) + 1)] W fun e w' => e = .returned (.int .i64 (K1 : Int)) ∧ (∃ z', w'.ownsRow 0 9 1 u P z') ∧ W.grownBy w' u.ownBlock) := fun W u z h => by
          have h9 := markStrs_c u 0 P z (m + 1) W h (by omega) (by omega) (by omega) (Nat.zero_le _)
          rw [show ((m + 1 : Nat) : Int) = (m : Int) + 1 by omega, show (m : Int) + 1 + (P : Int) = (K1 : Int) by omega] at h9
          exact h9.mono fun e w' ⟨a, b, c⟩ => ⟨a, ⟨_, b⟩, c⟩
        have HN2 : Hid (∀ W u z, W.ownsRow 0 9 1 u P2 z → Calls Tryz.prog 41 #[u, .int .i64 (K1 : Int)] W fun e w' => e = .returned (.int .i64 (K2 : Int)) ∧ (∃ z', w'.ownsRow 0 9 1 u P2 z') ∧ W.grownBy w' u.ownBlock) := fun W u z h => by
          have h9 := markStrs_c u 0 P2 z K1 W h (by omega) (by omega) (by omega) (Nat.zero_le _)
          rw [show (K1 : Int) + (P2 : Int) = (K2 : Int) by omega] at h9
          exact h9.mono fun e w' ⟨a, b, c⟩ => ⟨a, ⟨_, b⟩, c⟩
        have HN3 : Hid (∀ W u z, W.ownsRow 0 9 1 u P3 z → Calls Tryz.prog 41 #[u, .int .i64 (K2 : Int)] W fun e w' => e = .returned (.int .i64 (K3 : Int)) ∧ (∃ z', w'.ownsRow 0 9 1 u P3 z') ∧ W.grownBy w' u.ownBlock) := fun W u z h => by
          have h9 := markStrs_c u 0 P3 z K2 W h (by omega) (by omega) (by omega) (Nat.zero_le _)
          rw [show (K2 : Int) + (P3 : Int) = (K3 : Int) by omega] at h9
          exact h9.mono fun e w' ⟨a, b, c⟩ => ⟨a, ⟨_, b⟩, c⟩
        have HKK : Hid (K3 + 1 = m + (2 + P + P2 + P3)) := by show _ = _; omega
        clear hown hv hr hts htl hP hP2 hP3 hcr hK1 hK2 hK3
        go_wp2_with fail
        go_at_call 104
        refine (HM1.out _).mono ?_
        rintro e w1 ⟨rfl, b1⟩
        have r1 := HO.out.kept (grown_of_below b1 none) (by simp [Value.ownBlock])
        have f1 := r1.frozenAt
        obtain ⟨c0, d0⟩ : ∃ x, w1.cell? ⟨g, i * 5, none⟩ = some x := ⟨ys.getD (i * 5) undef, by rw [r1.cellAt _ (by omega)]; simp [List.getD_eq_getElem?_getD, show i * 5 < ys.length by omega]⟩
        have q1 := hrr.out.below b1
        have s0 := (r1.stored (i * 5) (.string (markStr m))).1
        have q2 := (q1.store (j := i * 5) (x := .string (markStr m)) r1).set i 0 (.inl rfl) (.string (markStr m))
        rw [Nat.add_zero] at q2
        obtain ⟨zs1, hzs1⟩ : ∃ z, z = ys.set (i * 5) (.string (markStr m)) := ⟨_, rfl⟩
        rw [← hzs1] at s0 q2
        have hzl : zs1.length = xs.length * 5 := s0.1
        have CH1 : Chg S wr (w1.setCell ⟨g, i * 5, none⟩ (.string (markStr m))) := (Chg.of b1).trans (Chg.set hSg)
        obtain ⟨u0, z0, hu1, hu3, hu4⟩ := q2 i hlt 1 (by omega) (by omega)
        rw [← HP.out] at hu3
        have d1 : w1.cell? ⟨g, i * 5 + 1, none⟩ = some u0 := by
          rw [r1.cellAt _ (by omega)]
          rw [hzs1, List.getElem?_set_ne (by omega)] at hu1
          exact hu1
        obtain ⟨qu, cu, eu⟩ := owns_sliceP hu3
        have HMS := hidden (HN1.out _ _ _ hu3)
        subst eu
        have HR2 := hidden s0
        have HQ2 := hidden q2
        have HU2 := hidden hu3
        have HU4 := hidden hu4
        have HCH1 := hidden CH1
        have HZS := hidden hzs1
        clear r1 s0 q1 q2 hu1 hu3 hu4 CH1 hzs1
        go_wp2_with fail
        go_at_call 41
        refine HMS.out.mono ?_
        rintro e w2 ⟨rfl, ⟨z9, y2⟩, g2⟩
        have r3 := HR2.out.kept g2 (owns_apart HR2.out HU2.out (by decide))
        have q6 := HQ2.out.overS HU2.out y2 g2
        have HCH2 := hidden (HCH1.out.trans (Chg.grown g2 HU4.out))
        clear y2 g2 HMS HR2 HQ2 HU2 HU4 HCH1 d0 d1 f1
        obtain ⟨u1, z1, hu1, hu3, hu4⟩ := q6 i hlt 2 (by omega) (by omega)
        rw [← HP2.out] at hu3
        have d1 : w2.cell? ⟨g, i * 5 + 2, none⟩ = some u1 := by
          rw [r3.cellAt _ (by omega)]
          exact hu1
        obtain ⟨qu1, cu1, eu⟩ := owns_sliceP hu3
        have HMS := hidden (HN2.out _ _ _ hu3)
        subst eu
        have HR2 := hidden r3
        have HQ2 := hidden q6
        have HU2 := hidden hu3
        have HU4 := hidden hu4
        clear r3 q6 hu1 hu3 hu4
        go_wp2_with fail
        go_at_call 41
        refine HMS.out.mono ?_
        rintro e w3 ⟨rfl, ⟨z8, y2⟩, g2⟩
        have r3 := HR2.out.kept g2 (owns_apart HR2.out HU2.out (by decide))
        have q6 := HQ2.out.overS HU2.out y2 g2
        have HCH3 := hidden (HCH2.out.trans (Chg.grown g2 HU4.out))
        clear y2 g2 HMS HR2 HQ2 HU2 HU4 HCH2 d1
        obtain ⟨u2, z2, hu1, hu3, hu4⟩ := q6 i hlt 3 (by omega) (by omega)
        rw [← HP3.out] at hu3
        have d1 : w3.cell? ⟨g, i * 5 + 3, none⟩ = some u2 := by
          rw [r3.cellAt _ (by omega)]
          exact hu1
        obtain ⟨qu2, cu2, eu⟩ := owns_sliceP hu3
        have HMS := hidden (HN3.out _ _ _ hu3)
        subst eu
        have HR2 := hidden r3
        have HQ2 := hidden q6
        have HU2 := hidden hu3
        have HU4 := hidden hu4
        clear r3 q6 hu1 hu3 hu4
        go_wp2_with fail
        go_at_call 41
        refine HMS.out.mono ?_
        rintro e w4 ⟨rfl, ⟨z7, y2⟩, g2⟩
        have r3 := HR2.out.kept g2 (owns_apart HR2.out HU2.out (by decide))
        have q6 := HQ2.out.overS HU2.out y2 g2
        have HCH4 := hidden (HCH3.out.trans (Chg.grown g2 HU4.out))
        clear y2 g2 HMS HR2 HQ2 HU2 HU4 HCH3 d1
        have f1 := r3.frozenAt
        obtain ⟨c4, d4⟩ : ∃ x, w4.cell? ⟨g, i * 5 + 4, none⟩ = some x := ⟨zs1.getD (i * 5 + 4) undef, by rw [r3.cellAt _ (by omega)]; simp [List.getD_eq_getElem?_getD, show i * 5 + 4 < zs1.length by omega]⟩
        have HEND : Hid (∀ x, (w4.setCell ⟨g, i * 5 + 4, none⟩ x).ownsRow 0 51 5 (.slice (some ⟨g, 0, none⟩) xs.length cap) xs.length (zs1.set (i * 5 + 4) x) ∧ RuleRows (w4.setCell ⟨g, i * 5 + 4, none⟩ x) S (zs1.set (i * 5 + 4) x) xs ∧ Chg S wr (w4.setCell ⟨g, i * 5 + 4, none⟩ x)) := fun x =>
          ⟨(r3.stored (i * 5 + 4) x).1, (q6.store (j := i * 5 + 4) (x := x) r3).set i 4 (.inr rfl) x, HCH4.out.trans (Chg.set hSg)⟩
        clear r3 q6
        go_wp2_with fail
        go_roundw
        case rel => exact ⟨i + 1, K3 + 1, _, by omega, by go_num, by go_num, (by show _ = _; have := hm.out; have := HTS.out; have := HKK.out; omega), (HEND.out _).1, (HEND.out _).2.1, hchg.trans (HEND.out _).2.2⟩
        case measure => simp [intOf]; omega
      · have he : i = xs.length := by omega
        subst he
        have hmm : m = k + cntRs xs := by have := hm.out; rw [List.take_length] at this; exact this
        have HMM := hidden hmm
        clear hown hv hr hrr hmm
        go_wp2_with fail
        go_ret
        exact ⟨by rw [← HMM.out]; rfl, hchg⟩
end Go.Proofs.YtkkhnldhipfneaaGreatDoor

/-! Needs and commands, and rows of them, that are the same are told so by the law's own comparison: contracts for what lies in memory and holds at most 2 to the 20. -/
namespace Go.Proofs.YtkkhnldhipfneaaGreatDoor
open Go.RowKit
set_option linter.unusedSimpArgs false
set_option linter.unusedVariables false

theorem boxTwo {w w1 : World} {A R : Obj} (hb : Below ((w.alloc A).alloc R).heap.size ((w.alloc A).alloc R) w1) : w1.heap[w.heap.size]? = some A ∧ w1.heap[w.heap.size + 1]? = some R := by
  have s1 : (w.alloc A).heap.size = w.heap.size + 1 := by simp
  refine ⟨?_, ?_⟩
  · rw [hb.block _ (by simp; omega), vheap_old _ _ (by simp), vheap_new]
  · rw [hb.block _ (by simp), ← s1, vheap_new]

set_option maxHeartbeats 2000000 in
set_option maxRecDepth 100000 in
theorem eqNeed_c (S S' : Nat → Prop) (d : NeedD) (cs cs' : List Value) (w : World) (hd : shNeed.lies S w cs d) (hd' : shNeed.lies S' w cs' d) (hB : ∀ b, S b → b < w.heap.size) (hB' : ∀ b, S' b → b < w.heap.size) (hw : wtNeed d ≤ 1048576) :
    Calls Tryz.prog 215 #[.agg cs.toArray, .agg cs'.toArray] w fun e w' => e = .returned (.bool true) ∧ Below w.heap.size w w' := by
  obtain ⟨rfl, xs_n, xs_r⟩ := hd
  obtain ⟨rfl, ys_n, ys_r⟩ := hd'
  have hb2 : ∀ A R, Below w.heap.size w ((w.alloc A).alloc R) := fun A R => ((Below.refl _ _).alloc (Nat.le_refl _) _).alloc (by simp) _
  unfold wtNeed at hw
  go_enter Tryz.func215, Tryz.ntmps215
  go_wp2_with fail
  go_ret
  exact ⟨rfl, (hb2 _ _)⟩

set_option maxHeartbeats 2000000 in
set_option maxRecDepth 100000 in
theorem eqNeedS_c (S S' : Nat → Prop) (v u : Value) (xs : List NeedD) (w : World) (hv : RowIn shNeed S w v xs) (hv' : RowIn shNeed S' w u xs) (hB : ∀ b, S b → b < w.heap.size) (hB' : ∀ b, S' b → b < w.heap.size) (hw : wtRow wtNeed xs ≤ 1048576) :
    Calls Tryz.prog 168 #[v, u] w fun e w' => e = .returned (.bool true) ∧ Below w.heap.size w w' := by
  obtain ⟨a, cap, rfl, hl, hc, ha⟩ := hv
  obtain ⟨a', cap', rfl, _, hc', ha'⟩ := hv'
  unfold maxLen at hl
  go_enter Tryz.func168, Tryz.ntmps168
  go_wp2_with fail
  go_loopw [5] (fun vi wr => ∃ k : Nat, k ≤ xs.length ∧ vi = .int .i64 (k : Int) ∧ Below w.heap.size w wr) (fun vi _ => xs.length - (intOf vi).toNat)
  case atStart => exact ⟨0, Nat.zero_le _, rfl, Below.refl _ _⟩
  case round =>
    obtain ⟨k, hk, rfl, hbr⟩ := hrel
    by_cases hlt' : k < xs.length
    · rcases ha with rfl | ⟨b, off, rfl, hlt, ha⟩
      · simp at hlt'
      rcases ha' with rfl | ⟨b', off', rfl, hlt3, ha'⟩
      · simp at hlt'
      obtain ⟨cs, hL, hcell⟩ := ha k hlt'
      obtain ⟨cs', hL', hcell'⟩ := ha' k hlt'
      have hwt : wtNeed xs[k] ≤ 1048576 := by have := wt_wtRow wtNeed (List.getElem_mem hlt'); omega
      have HC := eqNeed_c S S' xs[k] cs cs' wr.drew (shNeed.keep (.of hbr.drew hB) hL) (shNeed.keep (.of hbr.drew hB') hL') (fun b h => Nat.lt_of_lt_of_le (hB b h) hbr.size) (fun b h => Nat.lt_of_lt_of_le (hB' b h) hbr.size) hwt
      replace hL := shNeed.keep (.of hbr hB) hL
      replace hL' := shNeed.keep (.of hbr hB') hL'
      replace hcell := hcell.keep (.of hbr hB) hlt
      replace hcell' := hcell'.keep (.of hbr hB') hlt3
      obtain ⟨d, hd⟩ : ∃ d, d = xs[k] := ⟨_, rfl⟩
      rw [← hd] at hL hL' hwt
      clear ha ha' hd
      obtain ⟨rfl, xs_n, xs_r⟩ := hL
      obtain ⟨rfl, ys_n, ys_r⟩ := hL'
      clear xs_n xs_r ys_n ys_r
      have xv0 : wr.cell? ⟨b, off + k * 2, none⟩ = some (.string d.n) := hcell 0 (by simp)
      have xv1 : wr.cell? ⟨b, off + k * 2 + 1, none⟩ = some (.string d.r) := hcell 1 (by simp)
      have yv0 : wr.cell? ⟨b', off' + k * 2, none⟩ = some (.string d.n) := hcell' 0 (by simp)
      have yv1 : wr.cell? ⟨b', off' + k * 2 + 1, none⟩ = some (.string d.r) := hcell' 1 (by simp)
      have HC2 := hidden HC
      have hki : (k : Int) < (xs.length : Int) := by omega
      clear hcell hcell' HC hwt
      go_wp2_with fail
      go_region_with (go_at_call 215; refine HC2.out.mono ?_; rintro e w2 ⟨rfl, hb2⟩)
      all_goals go_wp2_with fail
      all_goals go_roundw
      all_goals first
        | exact ⟨k + 1, by omega, by go_num, hbr.drew.trans (hb2.mono hbr.size)⟩
        | (simp [intOf]; omega)
    · have he : k = xs.length := by omega
      subst he
      clear ha ha'
      go_wp2_with fail
      go_ret
      exact ⟨rfl, hbr⟩

set_option maxHeartbeats 2000000 in
set_option maxRecDepth 100000 in
theorem eqCmd_c (S S' : Nat → Prop) (d : CmdD) (cs cs' : List Value) (w : World) (hd : shCmd.lies S w cs d) (hd' : shCmd.lies S' w cs' d) (hB : ∀ b, S b → b < w.heap.size) (hB' : ∀ b, S' b → b < w.heap.size) (hw : wtCmd d ≤ 1048576) :
    Calls Tryz.prog 216 #[.agg cs.toArray, .agg cs'.toArray] w fun e w' => e = .returned (.bool true) ∧ Below w.heap.size w w' := by
  obtain ⟨xu0, rfl, xs_t, xr0, xp0⟩ := hd
  obtain ⟨yu0, rfl, ys_t, yr0, yp0⟩ := hd'
  have hb2 : ∀ A R, Below w.heap.size w ((w.alloc A).alloc R) := fun A R => ((Below.refl _ _).alloc (Nat.le_refl _) _).alloc (by simp) _
  unfold wtCmd at hw
  have HS0 : Hid (∀ w1, Below w.heap.size w w1 → Calls Tryz.prog 38 #[xu0, yu0] w1 fun e w' => e = .returned (.bool true) ∧ Below w1.heap.size w1 w') := fun w1 hb => by
    have := eqStrs_c xu0 yu0 d.acts d.acts w1 ((xr0.keep (.of hb hB)).reads (fun b h => Nat.lt_of_lt_of_le (hB b h) hb.size)) ((yr0.keep (.of hb hB')).reads (fun b h => Nat.lt_of_lt_of_le (hB' b h) hb.size)) (by unfold bulkS at hw; omega)
    rwa [decide_eq_true rfl] at this
  obtain ⟨xa0, xc0, xe0, _⟩ := id xr0
  rw [length_strsV] at xe0
  subst xe0
  clear xr0
  obtain ⟨ya0, yc0, ye0, _⟩ := id yr0
  rw [length_strsV] at ye0
  subst ye0
  clear yr0
  go_enter Tryz.func216, Tryz.ntmps216
  go_wp2_with fail
  go_at_call 38
  refine (HS0.out _ (hb2 _ _)).mono ?_
  rintro e w1 ⟨rfl, b1⟩
  obtain ⟨hA1, hR1⟩ := boxTwo b1
  have k1 : Below w.heap.size w w1 := (hb2 _ _).trans (b1.mono (hb2 _ _).size)
  go_wp2_with fail
  go_ret
  exact ⟨rfl, k1⟩

set_option maxHeartbeats 2000000 in
set_option maxRecDepth 100000 in
theorem eqCmdS_c (S S' : Nat → Prop) (v u : Value) (xs : List CmdD) (w : World) (hv : RowIn shCmd S w v xs) (hv' : RowIn shCmd S' w u xs) (hB : ∀ b, S b → b < w.heap.size) (hB' : ∀ b, S' b → b < w.heap.size) (hw : wtRow wtCmd xs ≤ 1048576) :
    Calls Tryz.prog 169 #[v, u] w fun e w' => e = .returned (.bool true) ∧ Below w.heap.size w w' := by
  obtain ⟨a, cap, rfl, hl, hc, ha⟩ := hv
  obtain ⟨a', cap', rfl, _, hc', ha'⟩ := hv'
  unfold maxLen at hl
  go_enter Tryz.func169, Tryz.ntmps169
  go_wp2_with fail
  go_loopw [5] (fun vi wr => ∃ k : Nat, k ≤ xs.length ∧ vi = .int .i64 (k : Int) ∧ Below w.heap.size w wr) (fun vi _ => xs.length - (intOf vi).toNat)
  case atStart => exact ⟨0, Nat.zero_le _, rfl, Below.refl _ _⟩
  case round =>
    obtain ⟨k, hk, rfl, hbr⟩ := hrel
    by_cases hlt' : k < xs.length
    · rcases ha with rfl | ⟨b, off, rfl, hlt, ha⟩
      · simp at hlt'
      rcases ha' with rfl | ⟨b', off', rfl, hlt3, ha'⟩
      · simp at hlt'
      obtain ⟨cs, hL, hcell⟩ := ha k hlt'
      obtain ⟨cs', hL', hcell'⟩ := ha' k hlt'
      have hwt : wtCmd xs[k] ≤ 1048576 := by have := wt_wtRow wtCmd (List.getElem_mem hlt'); omega
      have HC := eqCmd_c S S' xs[k] cs cs' wr.drew (shCmd.keep (.of hbr.drew hB) hL) (shCmd.keep (.of hbr.drew hB') hL') (fun b h => Nat.lt_of_lt_of_le (hB b h) hbr.size) (fun b h => Nat.lt_of_lt_of_le (hB' b h) hbr.size) hwt
      replace hL := shCmd.keep (.of hbr hB) hL
      replace hL' := shCmd.keep (.of hbr hB') hL'
      replace hcell := hcell.keep (.of hbr hB) hlt
      replace hcell' := hcell'.keep (.of hbr hB') hlt3
      obtain ⟨d, hd⟩ : ∃ d, d = xs[k] := ⟨_, rfl⟩
      rw [← hd] at hL hL' hwt
      clear ha ha' hd
      obtain ⟨xu0, rfl, xs_t, xr0, xp0⟩ := hL
      obtain ⟨yu0, rfl, ys_t, yr0, yp0⟩ := hL'
      clear xs_t xp0 ys_t yp0
      obtain ⟨xa0, xc0, xe0, _⟩ := id xr0
      rw [length_strsV] at xe0
      subst xe0
      clear xr0
      have xv0 : wr.cell? ⟨b, off + k * 2, none⟩ = some (.string d.t) := hcell 0 (by simp)
      have xv1 : wr.cell? ⟨b, off + k * 2 + 1, none⟩ = some (.slice xa0 d.acts.length xc0) := hcell 1 (by simp)
      obtain ⟨ya0, yc0, ye0, _⟩ := id yr0
      rw [length_strsV] at ye0
      subst ye0
      clear yr0
      have yv0 : wr.cell? ⟨b', off' + k * 2, none⟩ = some (.string d.t) := hcell' 0 (by simp)
      have yv1 : wr.cell? ⟨b', off' + k * 2 + 1, none⟩ = some (.slice ya0 d.acts.length yc0) := hcell' 1 (by simp)
      have HC2 := hidden HC
      have hki : (k : Int) < (xs.length : Int) := by omega
      clear hcell hcell' HC hwt
      go_wp2_with fail
      go_region_with (go_at_call 216; refine HC2.out.mono ?_; rintro e w2 ⟨rfl, hb2⟩)
      all_goals go_wp2_with fail
      all_goals go_roundw
      all_goals first
        | exact ⟨k + 1, by omega, by go_num, hbr.drew.trans (hb2.mono hbr.size)⟩
        | (simp [intOf]; omega)
    · have he : k = xs.length := by omega
      subst he
      clear ha ha'
      go_wp2_with fail
      go_ret
      exact ⟨rfl, hbr⟩

end Go.Proofs.YtkkhnldhipfneaaGreatDoor

/-! What is the same is told so by the law's own comparison: contracts for what lies in memory and holds at most 2 to the 20. -/
namespace Go.Proofs.YtkkhnldhipfneaaGreatDoor
open Go.RowKit
set_option linter.unusedSimpArgs false
set_option linter.unusedVariables false

set_option maxHeartbeats 2000000 in
set_option maxRecDepth 100000 in
theorem eqRule_c (S S' : Nat → Prop) (d : RuleD) (cs cs' : List Value) (w : World) (hd : shRule.lies S w cs d) (hd' : shRule.lies S' w cs' d) (hB : ∀ b, S b → b < w.heap.size) (hB' : ∀ b, S' b → b < w.heap.size) (hw : wtRule d ≤ 1048576) :
    Calls Tryz.prog 24 #[.agg cs.toArray, .agg cs'.toArray] w fun e w' => e = .returned (.bool true) ∧ Below w.heap.size w w' := by
  obtain ⟨xu0, xu1, xu2, rfl, xs_task, xr0, xp0, xr1, xp1, xr2, xp2⟩ := hd
  obtain ⟨yu0, yu1, yu2, rfl, ys_task, yr0, yp0, yr1, yp1, yr2, yp2⟩ := hd'
  have hb2 : ∀ A R, Below w.heap.size w ((w.alloc A).alloc R) := fun A R => ((Below.refl _ _).alloc (Nat.le_refl _) _).alloc (by simp) _
  unfold wtRule at hw
  have HS0 : Hid (∀ w1, Below w.heap.size w w1 → Calls Tryz.prog 38 #[xu0, yu0] w1 fun e w' => e = .returned (.bool true) ∧ Below w1.heap.size w1 w') := fun w1 hb => by
    have := eqStrs_c xu0 yu0 d.on d.on w1 ((xr0.keep (.of hb hB)).reads (fun b h => Nat.lt_of_lt_of_le (hB b h) hb.size)) ((yr0.keep (.of hb hB')).reads (fun b h => Nat.lt_of_lt_of_le (hB' b h) hb.size)) (by unfold bulkS at hw; omega)
    rwa [decide_eq_true rfl] at this
  have HS1 : Hid (∀ w1, Below w.heap.size w w1 → Calls Tryz.prog 38 #[xu1, yu1] w1 fun e w' => e = .returned (.bool true) ∧ Below w1.heap.size w1 w') := fun w1 hb => by
    have := eqStrs_c xu1 yu1 d.ins d.ins w1 ((xr1.keep (.of hb hB)).reads (fun b h => Nat.lt_of_lt_of_le (hB b h) hb.size)) ((yr1.keep (.of hb hB')).reads (fun b h => Nat.lt_of_lt_of_le (hB' b h) hb.size)) (by unfold bulkS at hw; omega)
    rwa [decide_eq_true rfl] at this
  have HS2 : Hid (∀ w1, Below w.heap.size w w1 → Calls Tryz.prog 38 #[xu2, yu2] w1 fun e w' => e = .returned (.bool true) ∧ Below w1.heap.size w1 w') := fun w1 hb => by
    have := eqStrs_c xu2 yu2 d.envs d.envs w1 ((xr2.keep (.of hb hB)).reads (fun b h => Nat.lt_of_lt_of_le (hB b h) hb.size)) ((yr2.keep (.of hb hB')).reads (fun b h => Nat.lt_of_lt_of_le (hB' b h) hb.size)) (by unfold bulkS at hw; omega)
    rwa [decide_eq_true rfl] at this
  obtain ⟨xa0, xc0, xe0, _⟩ := id xr0
  rw [length_strsV] at xe0
  subst xe0
  clear xr0
  obtain ⟨xa1, xc1, xe1, _⟩ := id xr1
  rw [length_strsV] at xe1
  subst xe1
  clear xr1
  obtain ⟨xa2, xc2, xe2, _⟩ := id xr2
  rw [length_strsV] at xe2
  subst xe2
  clear xr2
  obtain ⟨ya0, yc0, ye0, _⟩ := id yr0
  rw [length_strsV] at ye0
  subst ye0
  clear yr0
  obtain ⟨ya1, yc1, ye1, _⟩ := id yr1
  rw [length_strsV] at ye1
  subst ye1
  clear yr1
  obtain ⟨ya2, yc2, ye2, _⟩ := id yr2
  rw [length_strsV] at ye2
  subst ye2
  clear yr2
  go_enter Tryz.func24, Tryz.ntmps24
  go_wp2_with fail
  go_at_call 38
  refine (HS0.out _ (hb2 _ _)).mono ?_
  rintro e w1 ⟨rfl, b1⟩
  obtain ⟨hA1, hR1⟩ := boxTwo b1
  have k1 : Below w.heap.size w w1 := (hb2 _ _).trans (b1.mono (hb2 _ _).size)
  have o0 := vblk_cell hA1 0
  have q0 := vblk_cell hR1 0
  have o1 := vblk_cell hA1 1
  have q1 := vblk_cell hR1 1
  have o2 := vblk_cell hA1 2
  have q2 := vblk_cell hR1 2
  have o3 := vblk_cell hA1 3
  have q3 := vblk_cell hR1 3
  have o4 := vblk_cell hA1 4
  have q4 := vblk_cell hR1 4
  simp only [List.getElem?_toArray, List.getElem?_cons_succ, List.getElem?_cons_zero] at o0 q0 o1 q1 o2 q2 o3 q3 o4 q4
  go_wp2_with fail
  go_at_call 38
  refine (HS1.out _ k1).mono ?_
  rintro e w2 ⟨rfl, b2⟩
  have hA2 := (b2.block _ (Array.getElem?_eq_some_iff.1 hA1).1).trans hA1
  have hR2 := (b2.block _ (Array.getElem?_eq_some_iff.1 hR1).1).trans hR1
  have k2 := k1.trans (b2.mono k1.size)
  have o0 := vblk_cell hA2 0
  have q0 := vblk_cell hR2 0
  have o1 := vblk_cell hA2 1
  have q1 := vblk_cell hR2 1
  have o2 := vblk_cell hA2 2
  have q2 := vblk_cell hR2 2
  have o3 := vblk_cell hA2 3
  have q3 := vblk_cell hR2 3
  have o4 := vblk_cell hA2 4
  have q4 := vblk_cell hR2 4
  simp only [List.getElem?_toArray, List.getElem?_cons_succ, List.getElem?_cons_zero] at o0 q0 o1 q1 o2 q2 o3 q3 o4 q4
  go_wp2_with fail
  go_at_call 38
  refine (HS2.out _ k2).mono ?_
  rintro e w3 ⟨rfl, b3⟩
  have hA3 := (b3.block _ (Array.getElem?_eq_some_iff.1 hA2).1).trans hA2
  have hR3 := (b3.block _ (Array.getElem?_eq_some_iff.1 hR2).1).trans hR2
  have k3 := k2.trans (b3.mono k2.size)
  have o0 := vblk_cell hA3 0
  have q0 := vblk_cell hR3 0
  have o1 := vblk_cell hA3 1
  have q1 := vblk_cell hR3 1
  have o2 := vblk_cell hA3 2
  have q2 := vblk_cell hR3 2
  have o3 := vblk_cell hA3 3
  have q3 := vblk_cell hR3 3
  have o4 := vblk_cell hA3 4
  have q4 := vblk_cell hR3 4
  simp only [List.getElem?_toArray, List.getElem?_cons_succ, List.getElem?_cons_zero] at o0 q0 o1 q1 o2 q2 o3 q3 o4 q4
  generalize d.keep = kp at *
  cases kp
  all_goals
    go_wp2_with fail
    go_ret
    exact ⟨rfl, k3⟩

set_option maxHeartbeats 2000000 in
set_option maxRecDepth 100000 in
theorem eqRuleS_c (S S' : Nat → Prop) (v u : Value) (xs : List RuleD) (w : World) (hv : RowIn shRule S w v xs) (hv' : RowIn shRule S' w u xs) (hB : ∀ b, S b → b < w.heap.size) (hB' : ∀ b, S' b → b < w.heap.size) (hw : wtRow wtRule xs ≤ 1048576) :
    Calls Tryz.prog 37 #[v, u] w fun e w' => e = .returned (.bool true) ∧ Below w.heap.size w w' := by
  obtain ⟨a, cap, rfl, hl, hc, ha⟩ := hv
  obtain ⟨a', cap', rfl, _, hc', ha'⟩ := hv'
  unfold maxLen at hl
  go_enter Tryz.func37, Tryz.ntmps37
  go_wp2_with fail
  go_loopw [5] (fun vi wr => ∃ k : Nat, k ≤ xs.length ∧ vi = .int .i64 (k : Int) ∧ Below w.heap.size w wr) (fun vi _ => xs.length - (intOf vi).toNat)
  case atStart => exact ⟨0, Nat.zero_le _, rfl, Below.refl _ _⟩
  case round =>
    obtain ⟨k, hk, rfl, hbr⟩ := hrel
    by_cases hlt' : k < xs.length
    · rcases ha with rfl | ⟨b, off, rfl, hlt, ha⟩
      · simp at hlt'
      rcases ha' with rfl | ⟨b', off', rfl, hlt3, ha'⟩
      · simp at hlt'
      obtain ⟨cs, hL, hcell⟩ := ha k hlt'
      obtain ⟨cs', hL', hcell'⟩ := ha' k hlt'
      have hwt : wtRule xs[k] ≤ 1048576 := by have := wt_wtRow wtRule (List.getElem_mem hlt'); omega
      have HC := eqRule_c S S' xs[k] cs cs' wr.drew (shRule.keep (.of hbr.drew hB) hL) (shRule.keep (.of hbr.drew hB') hL') (fun b h => Nat.lt_of_lt_of_le (hB b h) hbr.size) (fun b h => Nat.lt_of_lt_of_le (hB' b h) hbr.size) hwt
      replace hL := shRule.keep (.of hbr hB) hL
      replace hL' := shRule.keep (.of hbr hB') hL'
      replace hcell := hcell.keep (.of hbr hB) hlt
      replace hcell' := hcell'.keep (.of hbr hB') hlt3
      obtain ⟨d, hd⟩ : ∃ d, d = xs[k] := ⟨_, rfl⟩
      rw [← hd] at hL hL' hwt
      clear ha ha' hd
      obtain ⟨xu0, xu1, xu2, rfl, xs_task, xr0, xp0, xr1, xp1, xr2, xp2⟩ := hL
      obtain ⟨yu0, yu1, yu2, rfl, ys_task, yr0, yp0, yr1, yp1, yr2, yp2⟩ := hL'
      clear xs_task xp0 xp1 xp2 ys_task yp0 yp1 yp2
      obtain ⟨xa0, xc0, xe0, _⟩ := id xr0
      rw [length_strsV] at xe0
      subst xe0
      clear xr0
      obtain ⟨xa1, xc1, xe1, _⟩ := id xr1
      rw [length_strsV] at xe1
      subst xe1
      clear xr1
      obtain ⟨xa2, xc2, xe2, _⟩ := id xr2
      rw [length_strsV] at xe2
      subst xe2
      clear xr2
      have xv0 : wr.cell? ⟨b, off + k * 5, none⟩ = some (.string d.task) := hcell 0 (by simp)
      have xv1 : wr.cell? ⟨b, off + k * 5 + 1, none⟩ = some (.slice xa0 d.on.length xc0) := hcell 1 (by simp)
      have xv2 : wr.cell? ⟨b, off + k * 5 + 2, none⟩ = some (.slice xa1 d.ins.length xc1) := hcell 2 (by simp)
      have xv3 : wr.cell? ⟨b, off + k * 5 + 3, none⟩ = some (.slice xa2 d.envs.length xc2) := hcell 3 (by simp)
      have xv4 : wr.cell? ⟨b, off + k * 5 + 4, none⟩ = some (.bool d.keep) := hcell 4 (by simp)
      obtain ⟨ya0, yc0, ye0, _⟩ := id yr0
      rw [length_strsV] at ye0
      subst ye0
      clear yr0
      obtain ⟨ya1, yc1, ye1, _⟩ := id yr1
      rw [length_strsV] at ye1
      subst ye1
      clear yr1
      obtain ⟨ya2, yc2, ye2, _⟩ := id yr2
      rw [length_strsV] at ye2
      subst ye2
      clear yr2
      have yv0 : wr.cell? ⟨b', off' + k * 5, none⟩ = some (.string d.task) := hcell' 0 (by simp)
      have yv1 : wr.cell? ⟨b', off' + k * 5 + 1, none⟩ = some (.slice ya0 d.on.length yc0) := hcell' 1 (by simp)
      have yv2 : wr.cell? ⟨b', off' + k * 5 + 2, none⟩ = some (.slice ya1 d.ins.length yc1) := hcell' 2 (by simp)
      have yv3 : wr.cell? ⟨b', off' + k * 5 + 3, none⟩ = some (.slice ya2 d.envs.length yc2) := hcell' 3 (by simp)
      have yv4 : wr.cell? ⟨b', off' + k * 5 + 4, none⟩ = some (.bool d.keep) := hcell' 4 (by simp)
      have HC2 := hidden HC
      have hki : (k : Int) < (xs.length : Int) := by omega
      clear hcell hcell' HC hwt
      go_wp2_with fail
      go_region_with (go_at_call 24; refine HC2.out.mono ?_; rintro e w2 ⟨rfl, hb2⟩)
      all_goals go_wp2_with fail
      all_goals go_roundw
      all_goals first
        | exact ⟨k + 1, by omega, by go_num, hbr.drew.trans (hb2.mono hbr.size)⟩
        | (simp [intOf]; omega)
    · have he : k = xs.length := by omega
      subst he
      clear ha ha'
      go_wp2_with fail
      go_ret
      exact ⟨rfl, hbr⟩

end Go.Proofs.YtkkhnldhipfneaaGreatDoor

/-! A rule that was answered, in memory of its own, and marks put into it: contracts for the walks; conditions: it holds at most 2 to the 20. -/
namespace Go.Proofs.YtkkhnldhipfneaaGreatDoor
open Go.RowKit
set_option linter.unusedSimpArgs false
set_option linter.unusedVariables false

/-- Two lists do not share a block. -/
def Ap (a b : Value) : Prop := ∀ g, a.ownBlock = some g → b.ownBlock ≠ some g
theorem Ap.symm {a b : Value} (h : Ap a b) : Ap b a := fun g hg k => h g k hg
theorem Ap.ne {a b : Value} (h : Ap a b) : b.ownBlock = none ∨ b.ownBlock ≠ a.ownBlock := by
  cases hb : b.ownBlock with
  | none => exact .inl rfl
  | some g => exact .inr fun k => h g k.symm hb
theorem Ap.lo {lo hi lo' hi' : Nat} {a b : Value} (ha : ∀ g, a.ownBlock = some g → Ow lo hi g) (hb : ∀ g, b.ownBlock = some g → Ow lo' hi' g) (h : hi ≤ lo') : Ap a b := fun g h1 h2 => by
  have := (ha g h1).2; have := (hb g h2).1; omega
theorem Ap.nil {b : Value} : Ap (.slice none 0 0) b := fun g h => by simp [Value.ownBlock] at h
/-- The lists of a rule that was answered. -/
structure Rec3 (lo hi : Nat) (W : World) (u0 u1 u2 : Value) (d : RuleD) : Prop where
  a0 : StrR lo hi W u0 d.on
  a1 : StrR lo hi W u1 d.ins
  a2 : StrR lo hi W u2 d.envs
  s01 : Ap u0 u1
  s02 : Ap u0 u2
  s12 : Ap u1 u2
  sn : d.task.size ≤ maxLen ∧ saneP d.on ∧ saneP d.ins ∧ saneP d.envs
theorem Rec3.below {lo hi : Nat} {W W' : World} {u0 u1 u2 : Value} {d : RuleD} (h : Rec3 lo hi W u0 u1 u2 d) (k : Below W.heap.size W W') : Rec3 lo hi W' u0 u1 u2 d := ⟨h.a0.below k, h.a1.below k, h.a2.below k, h.s01, h.s02, h.s12, h.sn⟩
theorem Rec3.chg {lo hi : Nat} {W W' : World} {u0 u1 u2 : Value} {d : RuleD} {S : Nat → Prop} (h : Rec3 lo hi W u0 u1 u2 d) (k : Chg S W W') (n : ∀ b, Ow lo hi b → ¬ S b) : Rec3 lo hi W' u0 u1 u2 d := ⟨h.a0.chg k n, h.a1.chg k n, h.a2.chg k n, h.s01, h.s02, h.s12, h.sn⟩
theorem Rec3.lies {lo hi : Nat} {W : World} {u0 u1 u2 : Value} {d : RuleD} (h : Rec3 lo hi W u0 u1 u2 d) : shRule.lies (Ow lo hi) W [.string d.task, u0, u1, u2, .bool d.keep] d := ⟨u0, u1, u2, rfl, h.sn.1, h.a0.1.plain, h.sn.2.1, h.a1.1.plain, h.sn.2.2.1, h.a2.1.plain, h.sn.2.2.2⟩
theorem Rec3.slices {lo hi : Nat} {W : World} {u0 u1 u2 : Value} {d : RuleD} (h : Rec3 lo hi W u0 u1 u2 d) : ∃ q0 c0 q1 c1 q2 c2, u0 = .slice q0 d.on.length c0 ∧ u1 = .slice q1 d.ins.length c1 ∧ u2 = .slice q2 d.envs.length c2 := by
  obtain ⟨q0, c0, e0⟩ := h.a0.1.slice
  obtain ⟨q1, c1, e1⟩ := h.a1.1.slice
  obtain ⟨q2, c2, e2⟩ := h.a2.1.slice
  exact ⟨q0, c0, q1, c1, q2, c2, e0, e1, e2⟩
/-- The marks that were put into it. -/
structure RecM (D : Nat → Prop) (W : World) (u0 u1 u2 : Value) (d : RuleD) : Prop where
  m0 : W.ownsRow 0 9 1 u0 d.on.length (strsV (marksS 1 d.on.length))
  m1 : W.ownsRow 0 9 1 u1 d.ins.length (strsV (marksS (1 + d.on.length) d.ins.length))
  m2 : W.ownsRow 0 9 1 u2 d.envs.length (strsV (marksS (1 + d.on.length + d.ins.length) d.envs.length))
  b0 : ∀ g, u0.ownBlock = some g → D g
  b1 : ∀ g, u1.ownBlock = some g → D g
  b2 : ∀ g, u2.ownBlock = some g → D g
theorem RecM.keep {D : Nat → Prop} {W W' : World} {u0 u1 u2 : Value} {d : RuleD} (h : RecM D W u0 u1 u2 d) (k : Kp D W W') : RecM D W' u0 u1 u2 d := ⟨owns_kept k h.b0 h.m0, owns_kept k h.b1 h.m1, owns_kept k h.b2 h.m2, h.b0, h.b1, h.b2⟩
theorem lens_wt {d : RuleD} (h : wtRule d ≤ 1048576) : d.on.length ≤ 1048576 ∧ d.ins.length ≤ 1048576 ∧ d.envs.length ≤ 1048576 := by
  unfold wtRule bulkS at h; omega

set_option maxHeartbeats 2000000 in
set_option maxRecDepth 100000 in
theorem markRule_c (lo hi : Nat) (u0 u1 u2 : Value) (d : RuleD) (w : World) (h : Rec3 lo hi w u0 u1 u2 d) (hw : wtRule d ≤ 1048576) :
    Calls Tryz.prog 27 #[.agg #[.string d.task, u0, u1, u2, .bool d.keep], .int .i64 1] w fun e w' => e = .returned (.int .i64 ((1 + d.on.length + d.ins.length + d.envs.length : Nat) : Int)) ∧ RecM (Ow lo hi) w' u0 u1 u2 d ∧ Chg (Ow lo hi) w w' := by
  obtain ⟨l0, l1, l2⟩ := lens_wt hw
  obtain ⟨q0, c0, q1, c1, q2, c2, e0, e1, e2⟩ := h.slices
  have H0 : Hid (∀ W z, W.ownsRow 0 9 1 u0 d.on.length z → Calls Tryz.prog 41 #[u0, .int .i64 1] W fun e w' => e = .returned (.int .i64 ((1 + d.on.length : Nat) : Int)) ∧ w'.ownsRow 0 9 1 u0 d.on.length (strsV (marksS 1 d.on.length)) ∧ W.grownBy w' u0.ownBlock) := fun W z a => by
    have h9 := markStrs_c u0 0 d.on.length z 1 W a (Nat.le_refl _) (by omega) (by omega) (Nat.zero_le _)
    rw [show ((1 : Nat) : Int) + (d.on.length : Int) = ((1 + d.on.length : Nat) : Int) by omega] at h9
    exact h9
  have H1 : Hid (∀ W z, W.ownsRow 0 9 1 u1 d.ins.length z → Calls Tryz.prog 41 #[u1, .int .i64 ((1 + d.on.length : Nat) : Int)] W fun e w' => e = .returned (.int .i64 ((1 + d.on.length + d.ins.length : Nat) : Int)) ∧ w'.ownsRow 0 9 1 u1 d.ins.length (strsV (marksS (1 + d.on.length) d.ins.length)) ∧ W.grownBy w' u1.ownBlock) := fun W z a => by
    have h9 := markStrs_c u1 0 d.ins.length z (1 + d.on.length) W a (by omega) (by omega) (by omega) (Nat.zero_le _)
    rw [show ((1 + d.on.length : Nat) : Int) + (d.ins.length : Int) = ((1 + d.on.length + d.ins.length : Nat) : Int) by omega] at h9
    exact h9
  have H2 : Hid (∀ W z, W.ownsRow 0 9 1 u2 d.envs.length z → Calls Tryz.prog 41 #[u2, .int .i64 ((1 + d.on.length + d.ins.length : Nat) : Int)] W fun e w' => e = .returned (.int .i64 ((1 + d.on.length + d.ins.length + d.envs.length : Nat) : Int)) ∧ w'.ownsRow 0 9 1 u2 d.envs.length (strsV (marksS (1 + d.on.length + d.ins.length) d.envs.length)) ∧ W.grownBy w' u2.ownBlock) := fun W z a => by
    have h9 := markStrs_c u2 0 d.envs.length z (1 + d.on.length + d.ins.length) W a (by omega) (by omega) (by omega) (Nat.zero_le _)
    rw [show ((1 + d.on.length + d.ins.length : Nat) : Int) + (d.envs.length : Int) = ((1 + d.on.length + d.ins.length + d.envs.length : Nat) : Int) by omega] at h9
    exact h9
  have HR := hidden h
  obtain ⟨K1, hK1⟩ : ∃ K, K = 1 + d.on.length := ⟨_, rfl⟩
  obtain ⟨K2, hK2⟩ : ∃ K, K = 1 + d.on.length + d.ins.length := ⟨_, rfl⟩
  obtain ⟨K3, hK3⟩ : ∃ K, K = 1 + d.on.length + d.ins.length + d.envs.length := ⟨_, rfl⟩
  have HM : Hid (∀ W, W.ownsRow 0 9 1 u0 d.on.length (strsV (marksS 1 d.on.length)) → W.ownsRow 0 9 1 u1 d.ins.length (strsV (marksS K1 d.ins.length)) → W.ownsRow 0 9 1 u2 d.envs.length (strsV (marksS K2 d.envs.length)) → RecM (Ow lo hi) W u0 u1 u2 d) := fun W a b c => by
    rw [hK1] at b; rw [hK2] at c
    exact ⟨a, b, c, h.a0.1.2, h.a1.1.2, h.a2.1.2⟩
  simp only [← hK3] at H2 ⊢
  simp only [← hK2] at H1 H2
  simp only [← hK1] at H0 H1
  have hlt : hi ≤ w.heap.size := h.a0.2
  have hbx : ∀ o, Below w.heap.size w (w.alloc o) := fun o => (Below.refl _ _).alloc (Nat.le_refl _) _
  obtain ⟨t, ht⟩ : ∃ t, t = d.task := ⟨_, rfl⟩
  obtain ⟨kp, hkp⟩ : ∃ t, t = d.keep := ⟨_, rfl⟩
  obtain ⟨n0, hn0⟩ : ∃ t, t = d.on.length := ⟨_, rfl⟩
  obtain ⟨n1, hn1⟩ : ∃ t, t = d.ins.length := ⟨_, rfl⟩
  obtain ⟨n2, hn2⟩ : ∃ t, t = d.envs.length := ⟨_, rfl⟩
  have o0 := h.a0.1.1
  have o1 := h.a1.1.1
  have o2 := h.a2.1.1
  rw [← hn0] at e0 H0 HM o0
  rw [← hn1] at e1 H1 HM o1
  rw [← hn2] at e2 H2 HM o2
  rw [← ht, ← hkp]
  obtain ⟨z0, hz0⟩ : ∃ z, z = strsV d.on := ⟨_, rfl⟩
  obtain ⟨z1, hz1⟩ : ∃ z, z = strsV d.ins := ⟨_, rfl⟩
  obtain ⟨z2, hz2⟩ : ∃ z, z = strsV d.envs := ⟨_, rfl⟩
  rw [← hz0] at o0
  rw [← hz1] at o1
  rw [← hz2] at o2
  clear h hK1 hK2 hK3 l0 l1 l2 hw ht hkp hn0 hn1 hn2 hz0 hz1 hz2
  subst e0 e1 e2
  have hA0 : (w.alloc (.cells #[.string t, .slice q0 n0 c0, .slice q1 n1 c1, .slice q2 n2 c2, .bool kp] 51 (0, 0))).heap[w.heap.size]? = some (.cells #[.string t, .slice q0 n0 c0, .slice q1 n1 c1, .slice q2 n2 c2, .bool kp] 51 (0, 0)) := vheap_new _ _
  have HO := hidden (And.intro (owns_of_belowN o0 (hbx (.cells #[.string t, .slice q0 n0 c0, .slice q1 n1 c1, .slice q2 n2 c2, .bool kp] 51 (0, 0)))) (And.intro (owns_of_belowN o1 (hbx (.cells #[.string t, .slice q0 n0 c0, .slice q1 n1 c1, .slice q2 n2 c2, .bool kp] 51 (0, 0)))) (owns_of_belowN o2 (hbx (.cells #[.string t, .slice q0 n0 c0, .slice q1 n1 c1, .slice q2 n2 c2, .bool kp] 51 (0, 0))))))
  have hlo0 := HR.out.a0.1.2
  have hlo1 := HR.out.a1.1.2
  have hlo2 := HR.out.a2.1.2
  have HS := hidden (And.intro HR.out.s01 (And.intro HR.out.s02 HR.out.s12))
  have HL := hidden (And.intro hlo0 (And.intro hlo1 hlo2))
  clear o0 o1 o2 HR hlo0 hlo1 hlo2
  go_enter Tryz.func27, Tryz.ntmps27
  go_wp2_with fail
  go_at_call 41
  refine (H0.out _ _ HO.out.1).mono ?_
  rintro e w1 ⟨rfl, r0, g1⟩
  have hA1 := (g1.block w.heap.size (by simp) (fun e => by have := (HL.out.1 _ e.symm).2; omega)).trans hA0
  have x0 := vblk_cell hA1 0
  have x1 := vblk_cell hA1 1
  have x2 := vblk_cell hA1 2
  have x3 := vblk_cell hA1 3
  have x4 := vblk_cell hA1 4
  simp only [List.getElem?_toArray, List.getElem?_cons_succ, List.getElem?_cons_zero] at x0 x1 x2 x3 x4
  have HO1 := hidden (And.intro r0 (And.intro (HO.out.2.1.kept g1 HS.out.1.ne) (HO.out.2.2.kept g1 HS.out.2.1.ne)))
  have HC1 := hidden ((Chg.of (hbx (.cells #[.string t, .slice q0 n0 c0, .slice q1 n1 c1, .slice q2 n2 c2, .bool kp] 51 (0, 0)))).trans (Chg.grown g1 HL.out.1))
  have hz1 : w.heap.size < w1.heap.size := (Array.getElem?_eq_some_iff.1 hA1).1
  clear r0 g1 hA0 HO H0
  go_wp2_with fail
  go_at_call 41
  refine (H1.out _ _ HO1.out.2.1).mono ?_
  rintro e w2 ⟨rfl, r1, g2⟩
  have hA2 := (g2.block w.heap.size hz1 (fun e => by have := (HL.out.2.1 _ e.symm).2; omega)).trans hA1
  clear x0 x1 x2 x3 x4
  have x0 := vblk_cell hA2 0
  have x1 := vblk_cell hA2 1
  have x2 := vblk_cell hA2 2
  have x3 := vblk_cell hA2 3
  have x4 := vblk_cell hA2 4
  simp only [List.getElem?_toArray, List.getElem?_cons_succ, List.getElem?_cons_zero] at x0 x1 x2 x3 x4
  have HO2 := hidden (And.intro (HO1.out.1.kept g2 HS.out.1.symm.ne) (And.intro r1 (HO1.out.2.2.kept g2 HS.out.2.2.ne)))
  have HC2 := hidden (HC1.out.trans (Chg.grown g2 HL.out.2.1))
  clear r1 g2 hA1 HO1 H1 HC1
  go_wp2_with fail
  go_at_call 41
  refine (H2.out _ _ HO2.out.2.2).mono ?_
  rintro e w3 ⟨rfl, r2, g3⟩
  have HF := hidden (And.intro (HM.out _ (HO2.out.1.kept g3 HS.out.2.1.symm.ne) (HO2.out.2.1.kept g3 HS.out.2.2.symm.ne) r2) (HC2.out.trans (Chg.grown g3 HL.out.2.2)))
  clear r2 g3 hA2 HO2 H2 HC2 x0 x1 x2 x3 x4
  go_wp2_with fail
  go_ret
  exact ⟨rfl, HF.out.1, HF.out.2⟩

set_option maxHeartbeats 2000000 in
set_option maxRecDepth 100000 in
theorem heldRule_c (D : Nat → Prop) (u0 u1 u2 : Value) (d : RuleD) (w : World) (h : RecM D w u0 u1 u2 d) (hw : wtRule d ≤ 1048576) :
    Calls Tryz.prog 28 #[.agg #[.string d.task, u0, u1, u2, .bool d.keep], .int .i64 1] w fun e w' => e = .returned (.int .i64 ((1 + d.on.length + d.ins.length + d.envs.length : Nat) : Int)) ∧ Below w.heap.size w w' := by
  obtain ⟨l0, l1, l2⟩ := lens_wt hw
  have hbx : ∀ o, Below w.heap.size w (w.alloc o) := fun o => (Below.refl _ _).alloc (Nat.le_refl _) _
  have H0 : Hid (∀ W, Below w.heap.size w W → Calls Tryz.prog 97 #[u0, .int .i64 1] W fun e w' => e = .returned (.int .i64 ((1 + d.on.length : Nat) : Int)) ∧ Below W.heap.size W w') := fun W k => by
    have h9 := heldStrs_c u0 d.on.length 1 W (reads_of_owns (owns_of_belowN h.m0 k)) (Nat.le_refl _) (by omega) (by omega)
    rw [show ((1 : Nat) : Int) + (d.on.length : Int) = ((1 + d.on.length : Nat) : Int) by omega] at h9
    exact h9
  have H1 : Hid (∀ W, Below w.heap.size w W → Calls Tryz.prog 97 #[u1, .int .i64 ((1 + d.on.length : Nat) : Int)] W fun e w' => e = .returned (.int .i64 ((1 + d.on.length + d.ins.length : Nat) : Int)) ∧ Below W.heap.size W w') := fun W k => by
    have h9 := heldStrs_c u1 d.ins.length (1 + d.on.length) W (reads_of_owns (owns_of_belowN h.m1 k)) (by omega) (by omega) (by omega)
    rw [show ((1 + d.on.length : Nat) : Int) + (d.ins.length : Int) = ((1 + d.on.length + d.ins.length : Nat) : Int) by omega] at h9
    exact h9
  have H2 : Hid (∀ W, Below w.heap.size w W → Calls Tryz.prog 97 #[u2, .int .i64 ((1 + d.on.length + d.ins.length : Nat) : Int)] W fun e w' => e = .returned (.int .i64 ((1 + d.on.length + d.ins.length + d.envs.length : Nat) : Int)) ∧ Below W.heap.size W w') := fun W k => by
    have h9 := heldStrs_c u2 d.envs.length (1 + d.on.length + d.ins.length) W (reads_of_owns (owns_of_belowN h.m2 k)) (by omega) (by omega) (by omega)
    rw [show ((1 + d.on.length + d.ins.length : Nat) : Int) + (d.envs.length : Int) = ((1 + d.on.length + d.ins.length + d.envs.length : Nat) : Int) by omega] at h9
    exact h9
  obtain ⟨q0, c0, e0⟩ := owns_sliceP h.m0
  obtain ⟨q1, c1, e1⟩ := owns_sliceP h.m1
  obtain ⟨q2, c2, e2⟩ := owns_sliceP h.m2
  obtain ⟨K1, hK1⟩ : ∃ K, K = 1 + d.on.length := ⟨_, rfl⟩
  obtain ⟨K2, hK2⟩ : ∃ K, K = 1 + d.on.length + d.ins.length := ⟨_, rfl⟩
  obtain ⟨K3, hK3⟩ : ∃ K, K = 1 + d.on.length + d.ins.length + d.envs.length := ⟨_, rfl⟩
  simp only [← hK3] at H2 ⊢
  simp only [← hK2] at H1 H2
  simp only [← hK1] at H0 H1
  have g1 : ¬ (K1 : Int) < 0 := by omega
  have g2 : ¬ (K2 : Int) < 0 := by omega
  have g3 : ¬ (K3 : Int) < 0 := by omega
  obtain ⟨t, ht⟩ : ∃ t, t = d.task := ⟨_, rfl⟩
  obtain ⟨kp, hkp⟩ : ∃ t, t = d.keep := ⟨_, rfl⟩
  obtain ⟨n0, hn0⟩ : ∃ t, t = d.on.length := ⟨_, rfl⟩
  obtain ⟨n1, hn1⟩ : ∃ t, t = d.ins.length := ⟨_, rfl⟩
  obtain ⟨n2, hn2⟩ : ∃ t, t = d.envs.length := ⟨_, rfl⟩
  rw [← hn0] at e0
  rw [← hn1] at e1
  rw [← hn2] at e2
  rw [← ht, ← hkp]
  clear h hK1 hK2 hK3 l0 l1 l2 hw ht hkp hn0 hn1 hn2
  subst e0 e1 e2
  have hA0 : (w.alloc (.cells #[.string t, .slice q0 n0 c0, .slice q1 n1 c1, .slice q2 n2 c2, .bool kp] 51 (0, 0))).heap[w.heap.size]? = some (.cells #[.string t, .slice q0 n0 c0, .slice q1 n1 c1, .slice q2 n2 c2, .bool kp] 51 (0, 0)) := vheap_new _ _
  have k0 := hbx (.cells #[.string t, .slice q0 n0 c0, .slice q1 n1 c1, .slice q2 n2 c2, .bool kp] 51 (0, 0))
  go_enter Tryz.func28, Tryz.ntmps28
  go_wp2_with fail
  go_at_call 97
  refine (H0.out _ k0).mono ?_
  rintro e w1 ⟨rfl, b1⟩
  have hA1 := box_below hA0 b1
  have k1 := k0.trans (b1.mono k0.size)
  have x0 := vblk_cell hA1 0
  have x1 := vblk_cell hA1 1
  have x2 := vblk_cell hA1 2
  have x3 := vblk_cell hA1 3
  have x4 := vblk_cell hA1 4
  simp only [List.getElem?_toArray, List.getElem?_cons_succ, List.getElem?_cons_zero] at x0 x1 x2 x3 x4
  clear b1 hA0 H0 k0
  go_wp2_with fail
  go_at_call 97
  refine (H1.out _ k1).mono ?_
  rintro e w2 ⟨rfl, b2⟩
  have hA2 := box_below hA1 b2
  have k2 := k1.trans (b2.mono k1.size)
  clear x0 x1 x2 x3 x4
  have x0 := vblk_cell hA2 0
  have x1 := vblk_cell hA2 1
  have x2 := vblk_cell hA2 2
  have x3 := vblk_cell hA2 3
  have x4 := vblk_cell hA2 4
  simp only [List.getElem?_toArray, List.getElem?_cons_succ, List.getElem?_cons_zero] at x0 x1 x2 x3 x4
  clear b2 hA1 H1 k1
  go_wp2_with fail
  go_at_call 97
  refine (H2.out _ k2).mono ?_
  rintro e w3 ⟨rfl, b3⟩
  have k3 := k2.trans (b3.mono k2.size)
  go_wp2_with fail
  go_ret
  exact ⟨rfl, k3⟩
end Go.Proofs.YtkkhnldhipfneaaGreatDoor

/-! A rule read out of a value: contracts; conditions: the value lies in memory and holds at most 2 to the 20, the program's error lies there. -/
namespace Go.Proofs.YtkkhnldhipfneaaGreatDoor
open Go.RowKit
set_option linter.unusedSimpArgs false
set_option linter.unusedVariables false
theorem rec3_nilT {lo : Nat} {W : World} {t : ByteArray} {k : Bool} (ht : t.size ≤ maxLen) : Rec3 lo W.heap.size W (.slice none 0 0) (.slice none 0 0) (.slice none 0 0) ⟨t, [], [], [], k⟩ := by
  have h : StrR lo W.heap.size W (.slice none 0 0) [] := ⟨⟨World.ownsRow_nil _ _ _ _, fun g hg => by simp [Value.ownBlock] at hg⟩, Nat.le_refl _⟩
  have hs : saneP [] := ⟨Nat.zero_le _, fun s hs => by cases hs⟩
  exact ⟨h, h, h, Ap.nil, Ap.nil, Ap.nil, ht, hs, hs, hs⟩
theorem StrR.wide {lo hi lo' hi' : Nat} {W : World} {u : Value} {ss : List ByteArray} (h : StrR lo hi W u ss) (h1 : lo' ≤ lo) (h2 : hi ≤ hi') (h3 : hi' ≤ W.heap.size) : StrR lo' hi' W u ss := ⟨h.1.mono (fun b hb => ⟨Nat.le_trans h1 hb.1, Nat.lt_of_lt_of_le hb.2 h2⟩), h3⟩
theorem Rec3.wide {lo hi lo' hi' : Nat} {W : World} {u0 u1 u2 : Value} {d : RuleD} (h : Rec3 lo hi W u0 u1 u2 d) (h1 : lo' ≤ lo) (h2 : hi ≤ hi') (h3 : hi' ≤ W.heap.size) : Rec3 lo' hi' W u0 u1 u2 d := ⟨h.a0.wide h1 h2 h3, h.a1.wide h1 h2 h3, h.a2.wide h1 h2 h3, h.s01, h.s02, h.s12, h.sn⟩
theorem Rec3.new0 {lo hi : Nat} {w w4 : World} {u0 u1 u2 u : Value} {d : RuleD} {l : List ByteArray} (h : Rec3 lo hi w u0 u1 u2 d) (hl : lo ≤ w.heap.size) (b : Below w.heap.size w w4) (o : w4.ownsRow w.heap.size 9 1 u l.length (strsV l)) (tl : tinyL l) : Rec3 lo w4.heap.size w4 u u1 u2 { d with on := l } := by
  have h4 := h.below b
  have n := strR_of o
  have hw := Nat.le_trans h.a0.2 b.size
  exact ⟨n.wide hl (Nat.le_refl _) (Nat.le_refl _), h4.a1.wide (Nat.le_refl _) hw (Nat.le_refl _), h4.a2.wide (Nat.le_refl _) hw (Nat.le_refl _), (Ap.lo h.a1.1.2 n.1.2 h.a0.2).symm, (Ap.lo h.a2.1.2 n.1.2 h.a0.2).symm, h.s12, h.sn.1, tinyL_sane tl, h.sn.2.2⟩
theorem Rec3.new1 {lo hi : Nat} {w w4 : World} {u0 u1 u2 u : Value} {d : RuleD} {l : List ByteArray} (h : Rec3 lo hi w u0 u1 u2 d) (hl : lo ≤ w.heap.size) (b : Below w.heap.size w w4) (o : w4.ownsRow w.heap.size 9 1 u l.length (strsV l)) (tl : tinyL l) : Rec3 lo w4.heap.size w4 u0 u u2 { d with ins := l } := by
  have h4 := h.below b
  have n := strR_of o
  have hw := Nat.le_trans h.a0.2 b.size
  exact ⟨h4.a0.wide (Nat.le_refl _) hw (Nat.le_refl _), n.wide hl (Nat.le_refl _) (Nat.le_refl _), h4.a2.wide (Nat.le_refl _) hw (Nat.le_refl _), Ap.lo h.a0.1.2 n.1.2 h.a0.2, h.s02, (Ap.lo h.a2.1.2 n.1.2 h.a0.2).symm, h.sn.1, h.sn.2.1, tinyL_sane tl, h.sn.2.2.2⟩
theorem Rec3.new2 {lo hi : Nat} {w w4 : World} {u0 u1 u2 u : Value} {d : RuleD} {l : List ByteArray} (h : Rec3 lo hi w u0 u1 u2 d) (hl : lo ≤ w.heap.size) (b : Below w.heap.size w w4) (o : w4.ownsRow w.heap.size 9 1 u l.length (strsV l)) (tl : tinyL l) : Rec3 lo w4.heap.size w4 u0 u1 u { d with envs := l } := by
  have h4 := h.below b
  have n := strR_of o
  have hw := Nat.le_trans h.a0.2 b.size
  exact ⟨h4.a0.wide (Nat.le_refl _) hw (Nat.le_refl _), h4.a1.wide (Nat.le_refl _) hw (Nat.le_refl _), n.wide hl (Nat.le_refl _) (Nat.le_refl _), h.s01, Ap.lo h.a0.1.2 n.1.2 h.a0.2, Ap.lo h.a1.1.2 n.1.2 h.a0.2, h.sn.1, h.sn.2.1, h.sn.2.2.1, tinyL_sane tl⟩
/-- The rule that is being read, in its box at p; all that lay below w3 is kept but for the box. -/
structure RuSt (w3 : World) (p : Nat) (t : ByteArray) (wr : World) (r : RuleD) (u0 u1 u2 : Value) : Prop where
  b : wr.heap[p]? = some (.cells #[.string t, u0, u1, u2, .bool r.keep] 51 (0, 0))
  l : ∃ hi, Rec3 w3.heap.size hi wr u0 u1 u2 r
  ti : tinyR r
  tk : r.task = t
  c : Chg (fun g => g = p) w3 wr
  lt : p < w3.heap.size
theorem RuSt.below {w3 wr w4 : World} {p : Nat} {t : ByteArray} {r : RuleD} {u0 u1 u2 : Value} (h : RuSt w3 p t wr r u0 u1 u2) (b : Below wr.heap.size wr w4) : RuSt w3 p t w4 r u0 u1 u2 := by
  obtain ⟨hi, hl⟩ := h.l
  exact ⟨(b.block p (Nat.lt_of_lt_of_le h.lt h.c.size)).trans h.b, ⟨hi, hl.below b⟩, h.ti, h.tk, h.c.trans (.of b), h.lt⟩
theorem RuSt.put {w3 wr : World} {p : Nat} {t : ByteArray} {r r' : RuleD} {u0 u1 u2 u0' u1' u2' : Value} (h : RuSt w3 p t wr r u0 u1 u2) (hl : ∃ hi, Rec3 w3.heap.size hi wr u0' u1' u2' r') (ti : tinyR r') (tk : r'.task = t) (j : Nat) (x : Value)
    (he : (#[.string t, u0, u1, u2, .bool r.keep] : Array Value).setIfInBounds j x = #[.string t, u0', u1', u2', .bool r'.keep]) : RuSt w3 p t (wr.setCell ⟨p, j, none⟩ x) r' u0' u1' u2' := by
  obtain ⟨hi, hl⟩ := hl
  have hp := h.lt
  refine ⟨?_, ⟨hi, hl.chg (S := fun g => g = p) (Chg.set rfl) fun b hb e => by have := hb.1; omega⟩, ti, tk, h.c.trans (Chg.set rfl), h.lt⟩
  rw [heap_setCell_same wr p j _ _ x h.b, he]
theorem RuSt.put0 {w3 wr w4 : World} {p : Nat} {t : ByteArray} {r : RuleD} {u0 u1 u2 u : Value} {l : List ByteArray} (h : RuSt w3 p t wr r u0 u1 u2) (b : Below wr.heap.size wr w4) (o : w4.ownsRow wr.heap.size 9 1 u l.length (strsV l)) (tl : tinyL l) : RuSt w3 p t (w4.setCell ⟨p, 1, none⟩ u) { r with on := l } u u1 u2 := by
  obtain ⟨hi, hl⟩ := h.l
  exact (h.below b).put ⟨_, hl.new0 h.c.size b o tl⟩ ⟨tl, h.ti.2.1, h.ti.2.2⟩ h.tk 1 u rfl
theorem RuSt.put1 {w3 wr w4 : World} {p : Nat} {t : ByteArray} {r : RuleD} {u0 u1 u2 u : Value} {l : List ByteArray} (h : RuSt w3 p t wr r u0 u1 u2) (b : Below wr.heap.size wr w4) (o : w4.ownsRow wr.heap.size 9 1 u l.length (strsV l)) (tl : tinyL l) : RuSt w3 p t (w4.setCell ⟨p, 2, none⟩ u) { r with ins := l } u0 u u2 := by
  obtain ⟨hi, hl⟩ := h.l
  exact (h.below b).put ⟨_, hl.new1 h.c.size b o tl⟩ ⟨h.ti.1, tl, h.ti.2.2⟩ h.tk 2 u rfl
theorem RuSt.put2 {w3 wr w4 : World} {p : Nat} {t : ByteArray} {r : RuleD} {u0 u1 u2 u : Value} {l : List ByteArray} (h : RuSt w3 p t wr r u0 u1 u2) (b : Below wr.heap.size wr w4) (o : w4.ownsRow wr.heap.size 9 1 u l.length (strsV l)) (tl : tinyL l) : RuSt w3 p t (w4.setCell ⟨p, 3, none⟩ u) { r with envs := l } u0 u1 u := by
  obtain ⟨hi, hl⟩ := h.l
  exact (h.below b).put ⟨_, hl.new2 h.c.size b o tl⟩ ⟨h.ti.1, h.ti.2.1, tl⟩ h.tk 3 u rfl
theorem RuSt.put3 {w3 wr w4 : World} {p : Nat} {t : ByteArray} {r : RuleD} {u0 u1 u2 : Value} (h : RuSt w3 p t wr r u0 u1 u2) (b : Below wr.heap.size wr w4) (y : Bool) : RuSt w3 p t (w4.setCell ⟨p, 4, none⟩ (.bool y)) { r with keep := y } u0 u1 u2 := by
  obtain ⟨hi, hl⟩ := h.l
  exact (h.below b).put (r' := { r with keep := y }) ⟨hi, by have := hl.below b; exact ⟨this.a0, this.a1, this.a2, this.s01, this.s02, this.s12, this.sn⟩⟩ h.ti h.tk 4 (.bool y) rfl
end Go.Proofs.YtkkhnldhipfneaaGreatDoor

/-! A rule read out of a value: contracts; conditions: the value lies in memory and holds at most 2 to the 20, the program's error lies there. -/
namespace Go.Proofs.YtkkhnldhipfneaaGreatDoor
open Go.RowKit
set_option linter.unusedSimpArgs false
set_option linter.unusedVariables false

theorem rulesB_one (r : RuleD) : rulesB [r] = ruleB r := by
  have h : ascB ([r].map RuleD.task) = true := asc_one [r.task]
  rw [rulesB, rowB_split, h]
  simp
theorem lst_q1 : (⟨#[101, 110, 118]⟩ : ByteArray).toList = [101, 110, 118] := by simp [Lib.toList_data]
theorem lst_q2 : (⟨#[105, 110]⟩ : ByteArray).toList = [105, 110] := by simp [Lib.toList_data]
theorem lst_q3 : (⟨#[107, 101, 101, 112]⟩ : ByteArray).toList = [107, 101, 101, 112] := by simp [Lib.toList_data]
theorem lst_q4 : (⟨#[111, 110]⟩ : ByteArray).toList = [111, 110] := by simp [Lib.toList_data]
theorem five_put {w : World} {p : Nat} {ty : TypeId} {a0 a1 a2 a3 a4 : Value} (h : w.heap[p]? = some (.cells #[a0, a1, a2, a3, a4] ty (0, 0))) (v0 v1 v2 v3 v4 : Value) : (((((w.setCell ⟨p, 0, none⟩ v0).setCell ⟨p, 1, none⟩ v1).setCell ⟨p, 2, none⟩ v2).setCell ⟨p, 3, none⟩ v3).setCell ⟨p, 4, none⟩ v4).heap[p]? = some (.cells #[v0, v1, v2, v3, v4] ty (0, 0)) := by
  have h0 := heap_setCell_same _ p 0 _ _ v0 h
  have h1 := heap_setCell_same _ p 1 _ _ v1 h0
  have h2 := heap_setCell_same _ p 2 _ _ v2 h1
  have h3 := heap_setCell_same _ p 3 _ _ v3 h2
  exact heap_setCell_same _ p 4 _ _ v4 h3
theorem five_chg (w : World) (p : Nat) (v0 v1 v2 v3 v4 : Value) : Chg (fun g => g = p) w (((((w.setCell ⟨p, 0, none⟩ v0).setCell ⟨p, 1, none⟩ v1).setCell ⟨p, 2, none⟩ v2).setCell ⟨p, 3, none⟩ v3).setCell ⟨p, 4, none⟩ v4) :=
  have e : ∀ (W : World) (j : Nat) (v : Value), Chg (fun g => g = p) W (W.setCell ⟨p, j, none⟩ v) := fun _ _ _ => Chg.set rfl
  ((((e _ _ _).trans (e _ _ _)).trans (e _ _ _)).trans (e _ _ _)).trans (e _ _ _)
theorem key_is (K c : ByteArray) : (K.toList == c.toList) = decide (K = c) := text_alike K c
theorem putK_env (r : RuleD) (U : Tree) : putK r kEnv U = (textsOf U).map fun l => { r with envs := l } := if_pos rfl
theorem putK_in (r : RuleD) (U : Tree) : putK r kIn U = (textsOf U).map fun l => { r with ins := l } := by
  unfold putK; rw [if_neg (by decide), if_pos rfl]
theorem putK_keep (r : RuleD) (U : Tree) : putK r kKeep U = if U.kd = 1 then some { r with keep := U.nm == 1 } else none := by
  unfold putK; rw [if_neg (by decide), if_neg (by decide), if_pos rfl]
theorem putK_on (r : RuleD) (U : Tree) : putK r kOn U = (textsOf U).map fun l => { r with on := l } := by
  unfold putK; rw [if_neg (by decide), if_neg (by decide), if_neg (by decide), if_pos rfl]
theorem putK_else {r : RuleD} {K : ByteArray} {U : Tree} (h1 : ¬ K = kEnv) (h2 : ¬ K = kIn) (h3 : ¬ K = kKeep) (h4 : ¬ K = kOn) : putK r K U = none := by
  unfold putK; rw [if_neg h1, if_neg h2, if_neg h3, if_neg h4]
set_option maxHeartbeats 8000000 in
set_option maxRecDepth 100000 in
theorem readRule_c (T : Tree) (S : Nat → Prop) (v : Value) (t : ByteArray) (w : World) (hv : Lies S w v T) (hB : ∀ b, S b → b < w.heap.size) (hw : T.wt ≤ 1048576) (ht : t.size ≤ 1048576) (eu : TypeId) (ev : Value) (he : ErrAt w eu ev) :
    Calls Tryz.prog 94 #[.string t, v] w fun e w' => Below w.heap.size w w' ∧ (∀ r, ruleOfT t T = some r → ∃ u0 u1 u2, e = .returned (.agg #[.string t, u0, u1, u2, .bool r.keep]) ∧ Rec3 w.heap.size w'.heap.size w' u0 u1 u2 r) ∧ (ruleOfT t T = none → Unread eu ev e) := by
  have hbx : ∀ o, Below w.heap.size w (w.alloc o) := fun o => (Below.refl _ _).alloc (Nat.le_refl _) _
  have hb2 : ∀ A R, Below w.heap.size w ((w.alloc A).alloc R) := fun A R => ((Below.refl _ _).alloc (Nat.le_refl _) _).alloc (by simp) _
  have HF : Hid (∀ w1, Below w.heap.size w w1 → Calls Tryz.prog 161 #[v] w1 fun e w' => Below w1.heap.size w1 w' ∧ (T.ok = true → T.kd = 5 → ∃ (a : Option Addr) (cap : Nat) (X : Nat → Value), e = .returned (.slice a T.kids.length cap) ∧ (T.kids = [] ∨ ∃ b off, a = some ⟨b, off, none⟩ ∧ Own w1.heap.size w'.heap.size b ∧ ∀ i, i < T.kids.length → w'.cell? ⟨b, off + i * 2, none⟩ = some (.string (T.keys.getD i ⟨#[]⟩)) ∧ w'.cell? ⟨b, off + i * 2 + 1, none⟩ = some (X i)) ∧ ∀ i (h : i < T.kids.length), XLies (Own w1.heap.size w'.heap.size) w' (X i) T.kids[i]) ∧ (¬ (T.ok = true ∧ T.kd = 5) → Unread eu ev e)) := fun w1 h => readFields_c T S v w1 (hv.keep (.of h hB)) (fun b hb => Nat.lt_of_lt_of_le (hB b hb) h.size) hw eu ev (he.keep h)
  obtain ⟨k, n, s, a, m, cap, a', m', cap', rfl⟩ := hv.parts
  obtain ⟨hAz, hRz⟩ := two_boxes (w := w) (.cells #[.int .i64 k, .int .i64 n, .string s, .slice a m cap, .slice a' m' cap'] 56 (0, 0)) (.cells #[.string ⟨#[]⟩, .slice none 0 0, .slice none 0 0, .slice none 0 0, .bool false] 51 (0, 0))
  have hwz := hb2 (.cells #[.int .i64 k, .int .i64 n, .string s, .slice a m cap, .slice a' m' cap'] 56 (0, 0)) (.cells #[.string ⟨#[]⟩, .slice none 0 0, .slice none 0 0, .slice none 0 0, .bool false] 51 (0, 0))
  have hsz : ((w.alloc (.cells #[.int .i64 k, .int .i64 n, .string s, .slice a m cap, .slice a' m' cap'] 56 (0, 0))).alloc (.cells #[.string ⟨#[]⟩, .slice none 0 0, .slice none 0 0, .slice none 0 0, .bool false] 51 (0, 0))).heap.size = w.heap.size + 2 := by simp
  clear hv hb2 hbx
  go_enter Tryz.func94, Tryz.ntmps94
  go_wp2_with fail
  go_at_call 73
  refine (clone_c t _ ht).mono ?_
  rintro e w1 ⟨rfl, b1⟩
  have g1 : w.heap.size + 2 ≤ w1.heap.size := by have := b1.size; omega
  have hA1 := (b1.block w.heap.size (by omega)).trans hAz
  have hR1 := (b1.block (w.heap.size + 1) (by omega)).trans hRz
  have hw1 := hwz.trans (b1.mono (by omega))
  have k2 : ∀ o, Below w1.heap.size w1 (w1.alloc o) := fun o => (Below.refl _ _).alloc (Nat.le_refl _) _
  have hA2 := ((k2 (.cells #[.string t, .slice none 0 0, .slice none 0 0, .slice none 0 0, .bool true] 51 (0, 0))).block w.heap.size (by omega)).trans hA1
  have hR2 := ((k2 (.cells #[.string t, .slice none 0 0, .slice none 0 0, .slice none 0 0, .bool true] 51 (0, 0))).block (w.heap.size + 1) (by omega)).trans hR1
  have hP2 : (w1.alloc (.cells #[.string t, .slice none 0 0, .slice none 0 0, .slice none 0 0, .bool true] 51 (0, 0))).heap[w1.heap.size]? = some (.cells #[.string t, .slice none 0 0, .slice none 0 0, .slice none 0 0, .bool true] 51 (0, 0)) := vheap_new _ _
  have hw2 := hw1.trans ((k2 (.cells #[.string t, .slice none 0 0, .slice none 0 0, .slice none 0 0, .bool true] 51 (0, 0))).mono hw1.size)
  have g2 : (w1.alloc (.cells #[.string t, .slice none 0 0, .slice none 0 0, .slice none 0 0, .bool true] 51 (0, 0))).heap.size = w1.heap.size + 1 := by simp
  have x0 := vblk_cell hA2 0
  have x1 := vblk_cell hA2 1
  have x2 := vblk_cell hA2 2
  have x3 := vblk_cell hA2 3
  have x4 := vblk_cell hA2 4
  simp only [List.getElem?_toArray, List.getElem?_cons_succ, List.getElem?_cons_zero] at x0 x1 x2 x3 x4
  clear b1 hA1 hR1 k2 hA2 hAz hRz hwz hsz
  go_wp2_with fail
  clear x0 x1 x2 x3 x4
  obtain ⟨p5, hp5⟩ : ∃ p, p = w1.heap.size := ⟨_, rfl⟩
  obtain ⟨wb, hwb⟩ : ∃ z, z = w1.alloc (.cells #[.string t, .slice none 0 0, .slice none 0 0, .slice none 0 0, .bool true] 51 (0, 0)) := ⟨_, rfl⟩
  obtain ⟨p4, hp4⟩ : ∃ p, p = w.heap.size + 1 := ⟨_, rfl⟩
  rw [← hwb] at hR2 hP2 hw2 g2
  rw [← hwb]
  rw [← hp5] at hP2 g2 g1
  rw [← hp4] at hR2
  try rw [← hp5]
  try rw [← hp4]
  have hq4 : p4 < p5 := by omega
  have hq4' : w.heap.size ≤ p4 := by omega
  have hq5 : p5 < wb.heap.size := by omega
  clear hw1 hwb hp5 hp4
  go_at_call 161
  refine (HF.out _ hw2).mono ?_
  rintro e w3 ⟨hb3, hyes, hno⟩
  have hw3 := hw2.trans (hb3.mono hw2.size)
  clear HF
  by_cases hok : T.ok = true ∧ T.kd = 5
  case neg =>
    have h9 := hno hok
    have hn : ruleOfT t T = none := by
      unfold ruleOfT
      rw [if_neg]
      intro h
      simp only [Bool.and_eq_true, beq_iff_eq] at h
      exact hok h
    unfold Unread at h9
    subst h9
    exact ⟨rfl, hw3, (fun r h => by rw [hn] at h; cases h), fun _ => rfl⟩
  obtain ⟨a2, cap2, X, rfl, hc, hX⟩ := hyes hok.1 hok.2
  obtain ⟨hkl, hkids, hlen⟩ := ok_five hok.1 hok.2
  have HR : Hid (ruleOfT t T = (putAll T.keys T.kids ⟨t, [], [], [], true⟩).bind fun r => if ruleB r then some r else none) := by
    show _ = _
    unfold ruleOfT
    rw [if_pos (by rw [hok.1, hok.2]; rfl)]
  obtain ⟨R, hR⟩ : ∃ R, R = ruleOfT t T := ⟨_, rfl⟩
  rw [← hR] at HR
  have HRR := hidden hR
  obtain ⟨l, hl⟩ : ∃ l, l = T.kids := ⟨_, rfl⟩
  obtain ⟨ks, hks⟩ : ∃ l, l = T.keys := ⟨_, rfl⟩
  simp only [← hks, ← hl] at HR hc hkids hlen hkl
  have hX : ∀ i (h : i < l.length), XLies (Own wb.heap.size w3.heap.size) w3 (X i) l[i] := fun i h => by subst hl; exact hX i h
  obtain ⟨P, hP⟩ : ∃ P, P = putAll ks l ⟨t, [], [], [], true⟩ := ⟨_, rfl⟩
  rw [← hP] at HR
  rw [← hl]
  have hst0 : RuSt w3 p5 t w3 ⟨t, [], [], [], true⟩ (.slice none 0 0) (.slice none 0 0) (.slice none 0 0) := by
    have hsm : t.size ≤ maxLen := by unfold maxLen; omega
    have h9 := rec3_nilT (W := w3) (lo := w3.heap.size) (k := true) hsm
    exact ⟨(hb3.block p5 hq5).trans hP2, ⟨_, h9⟩, ⟨⟨Nat.zero_le _, fun s hs => by cases hs⟩, ⟨Nat.zero_le _, fun s hs => by cases hs⟩, ⟨Nat.zero_le _, fun s hs => by cases hs⟩⟩, rfl, Chg.refl _ _, Nat.lt_of_lt_of_le hq5 hb3.size⟩
  have hR3 := (hb3.block p4 (by omega)).trans hR2
  have he3 := he.keep hw3
  have hs3 : wb.heap.size ≤ w3.heap.size := hb3.size
  have HE : Hid (∀ wr, Chg (fun g => g = p5) w3 wr → ErrAt wr eu ev) := fun wr h => by
    have h0 : 0 < w.heap.size := World.block_lt_of_cell? (a := ⟨0, 0, none⟩) (u := .iface eu ev) (w := w) he
    have h1 : wr.heap[0]? = w3.heap[0]? := h.block 0 (by omega) (by omega)
    exact (World.cell?_of_block (w := w3) h1).trans he3
  clear hyes hno hR2 hP2 hb3 hok he he3 hB hw ht hR hl hks
  go_wp2_with fail
  go_loopw [14] (fun vi wr => ∃ (i : Nat) (r : RuleD) (u0 u1 u2 : Value), i ≤ l.length ∧ vi = .int .i64 (i : Int) ∧ RuSt w3 p5 t wr r u0 u1 u2 ∧ putAll (ks.drop i) (l.drop i) r = P) (fun vi _ => l.length - (intOf vi).toNat)
  case atStart => exact ⟨0, _, _, _, _, Nat.zero_le _, rfl, hst0, hP.symm⟩
  case round =>
    obtain ⟨i, r, u0, u1, u2, hi, rfl, hst, hput⟩ := hrel
    clear hst0
    by_cases hlt : i < l.length
    · rw [putAll_step hlt hkl] at hput
      obtain ⟨hgU, hnU⟩ := hkids _ (List.getElem_mem hlt)
      rcases hc with rfl | ⟨b, off, rfl, hbS, hc⟩
      · simp at hlt
      have hbk := hst.c.block b (Nat.lt_of_lt_of_le hbS.2 (Nat.le_refl _)) (by have := hbS.1; omega)
      have eK : wr.cell? ⟨b, off + i * 2, none⟩ = some (.string (ks.getD i ⟨#[]⟩)) := (World.cell?_of_block (w := w3) hbk).trans (hc i hlt).1
      have eX : wr.cell? ⟨b, off + i * 2 + 1, none⟩ = some (X i) := (World.cell?_of_block (w := w3) hbk).trans (hc i hlt).2
      have hXi := (hX i hlt).keep (w' := wr) (fun g hg => hst.c.block g hg.2 (by have := hg.1; omega))
      rw [List.getD_eq_getElem?_getD, List.getElem?_eq_getElem (by omega : i < ks.length), Option.getD_some] at eK
      obtain ⟨U, hU⟩ : ∃ U, U = l[i] := ⟨_, rfl⟩
      rw [← hU] at hput hgU hnU hXi
      obtain ⟨K, hK⟩ : ∃ K, K = ks[i]'(by omega) := ⟨_, rfl⟩
      rw [← hK] at hput eK
      obtain ⟨ti, yi, hti⟩ := hXi.iface
      rw [hti] at eX hXi
      have hki : (i : Int) < (l.length : Int) := by omega
      clear hc hX hti hU hK hkids
      have bxk : Below wr.heap.size wr (wr.alloc (.cells #[.string K, .iface ti yi] 198 (0, 0))) := (Below.refl _ _).alloc (Nat.le_refl _) _
      have hg0 : (wr.alloc (.cells #[.string K, .iface ti yi] 198 (0, 0))).heap[wr.heap.size]? = some (.cells #[.string K, .iface ti yi] 198 (0, 0)) := vheap_new _ _
      have hstk := hst.below bxk
      have z1 := vblk_cell hg0 1
      have z0 := vblk_cell hg0 0
      simp only [List.getElem?_toArray, List.getElem?_cons_succ, List.getElem?_cons_zero] at z0 z1
      have HT : Hid (Calls Tryz.prog 162 #[.iface ti yi] (wr.alloc (.cells #[.string K, .iface ti yi] 198 (0, 0))) fun e w' => Below (wr.alloc (.cells #[.string K, .iface ti yi] 198 (0, 0))).heap.size (wr.alloc (.cells #[.string K, .iface ti yi] 198 (0, 0))) w' ∧ (∀ l, textsOf U = some l → ∃ u', e = .returned u' ∧ w'.ownsRow (wr.alloc (.cells #[.string K, .iface ti yi] 198 (0, 0))).heap.size 9 1 u' l.length (strsV l)) ∧ (textsOf U = none → Unread eu ev e)) := readTexts_c U _ _ _ (hXi.keep (.of bxk (fun g hg => Nat.lt_of_lt_of_le hg.2 hst.c.size))) (fun g hg => Nat.lt_of_lt_of_le hg.2 (Nat.le_trans hst.c.size bxk.size)) 2 hgU hnU eu ev (HE.out _ hstk.c)
      have her := HE.out _ hstk.c
      unfold ErrAt at her
      have q1 : (K.toList == [101, 110, 118]) = decide (K = ⟨#[101, 110, 118]⟩) := by rw [← key_is, lst_q1]
      have q2 : (K.toList == [105, 110]) = decide (K = ⟨#[105, 110]⟩) := by rw [← key_is, lst_q2]
      have q3 : (K.toList == [107, 101, 101, 112]) = decide (K = ⟨#[107, 101, 101, 112]⟩) := by rw [← key_is, lst_q3]
      have q4 : (K.toList == [111, 110]) = decide (K = ⟨#[111, 110]⟩) := by rw [← key_is, lst_q4]
      by_cases hq1 : K = kEnv
      · rw [decide_eq_true (show K = ⟨#[101, 110, 118]⟩ from hq1)] at q1
        clear q2 q3 q4
        rw [hq1, putK_env] at hput
        clear hq1
        go_wp2_with fail
        go_at_call 162
        refine HT.out.mono ?_
        rintro e w4 ⟨b4, hsome, hnone⟩
        cases htx : textsOf U with
        | none =>
          rw [htx, Option.map_none, Option.bind_none] at hput
          have h9 := hnone htx
          unfold Unread at h9
          subst h9
          exact ⟨rfl, below_chgW hw3 (hstk.below b4).c (fun b hb => by omega) hw3.size, (fun r h => by rw [← HRR.out, HR.out, ← hput] at h; cases h), fun _ => rfl⟩
        | some lt =>
          obtain ⟨u', rfl, o4⟩ := hsome lt htx
          rw [htx, Option.map_some, Option.bind_some] at hput
          have hst4 := hstk.below b4
          have hb4 := hst4.b
          have y4 := vblk_cell hb4 3
          have f4 := vblk_frozen hb4 3
          simp only [List.getElem?_toArray, List.getElem?_cons_succ, List.getElem?_cons_zero] at y4
          have hst5 := hidden (hstk.put2 b4 o4 (textsOf_tiny hgU hnU htx))
          obtain ⟨qu, cu, hqu⟩ := owns_sliceP o4
          clear hsome hnone HT
          subst hqu
          go_wp2_with fail
          go_roundw
          case rel => exact ⟨i + 1, _, _, _, _, by omega, by go_num, hst5.out, hput⟩
          case measure => simp [intOf]; omega
      rw [decide_eq_false (show ¬ K = ⟨#[101, 110, 118]⟩ from hq1)] at q1
      by_cases hq2 : K = kIn
      · rw [decide_eq_true (show K = ⟨#[105, 110]⟩ from hq2)] at q2
        clear q3 q4
        rw [hq2, putK_in] at hput
        clear hq2
        go_wp2_with fail
        go_at_call 162
        refine HT.out.mono ?_
        rintro e w4 ⟨b4, hsome, hnone⟩
        cases htx : textsOf U with
        | none =>
          rw [htx, Option.map_none, Option.bind_none] at hput
          have h9 := hnone htx
          unfold Unread at h9
          subst h9
          exact ⟨rfl, below_chgW hw3 (hstk.below b4).c (fun b hb => by omega) hw3.size, (fun r h => by rw [← HRR.out, HR.out, ← hput] at h; cases h), fun _ => rfl⟩
        | some lt =>
          obtain ⟨u', rfl, o4⟩ := hsome lt htx
          rw [htx, Option.map_some, Option.bind_some] at hput
          have hst4 := hstk.below b4
          have hb4 := hst4.b
          have y4 := vblk_cell hb4 2
          have f4 := vblk_frozen hb4 2
          simp only [List.getElem?_toArray, List.getElem?_cons_succ, List.getElem?_cons_zero] at y4
          have hst5 := hidden (hstk.put1 b4 o4 (textsOf_tiny hgU hnU htx))
          obtain ⟨qu, cu, hqu⟩ := owns_sliceP o4
          clear hsome hnone HT
          subst hqu
          go_wp2_with fail
          go_roundw
          case rel => exact ⟨i + 1, _, _, _, _, by omega, by go_num, hst5.out, hput⟩
          case measure => simp [intOf]; omega
      rw [decide_eq_false (show ¬ K = ⟨#[105, 110]⟩ from hq2)] at q2
      by_cases hq3 : K = kKeep
      · rw [decide_eq_true (show K = ⟨#[107, 101, 101, 112]⟩ from hq3)] at q3
        clear q4
        rw [hq3, putK_keep] at hput
        clear hq3 HT
        by_cases hk1 : U.kd = 1
        · have hxe := hXi.is_bool hk1
          injection hxe with e1 e2
          subst e1 e2
          rw [if_pos hk1, Option.bind_some] at hput
          have hb4 := hstk.b
          have y4 := vblk_cell hb4 4
          have f4 := vblk_frozen hb4 4
          simp only [List.getElem?_toArray, List.getElem?_cons_succ, List.getElem?_cons_zero] at y4
          clear hXi
          have hst5 := hidden (hstk.put3 (Below.refl _ _) (U.nm == 1))
          go_wp2_with (go_at_call 163; refine (ra_boolv_ok _ _).mono ?_; rintro e w4 ⟨rfl, rfl⟩)
          go_roundw
          case rel => exact ⟨i + 1, _, _, _, _, by omega, by go_num, hst5.out, hput⟩
          case measure => simp [intOf]; omega
        · obtain ⟨t9, y9, hxe, hty⟩ := hXi.not_boolv hk1
          injection hxe with e1 e2
          subst e1 e2
          rw [if_neg hk1, Option.bind_none] at hput
          go_wp2_with (go_at_call 163; refine (ra_boolv_no ti yi _ hty eu ev her).mono ?_; rintro e w4 ⟨rfl, rfl⟩)
          exact ⟨rfl, below_chgW hw3 hstk.c (fun b hb => by omega) hw3.size, (fun r h => by rw [← HRR.out, HR.out, ← hput] at h; cases h), fun _ => rfl⟩
      rw [decide_eq_false (show ¬ K = ⟨#[107, 101, 101, 112]⟩ from hq3)] at q3
      by_cases hq4 : K = kOn
      · rw [decide_eq_true (show K = ⟨#[111, 110]⟩ from hq4)] at q4
        rw [hq4, putK_on] at hput
        clear hq4
        go_wp2_with fail
        go_at_call 162
        refine HT.out.mono ?_
        rintro e w4 ⟨b4, hsome, hnone⟩
        cases htx : textsOf U with
        | none =>
          rw [htx, Option.map_none, Option.bind_none] at hput
          have h9 := hnone htx
          unfold Unread at h9
          subst h9
          exact ⟨rfl, below_chgW hw3 (hstk.below b4).c (fun b hb => by omega) hw3.size, (fun r h => by rw [← HRR.out, HR.out, ← hput] at h; cases h), fun _ => rfl⟩
        | some lt =>
          obtain ⟨u', rfl, o4⟩ := hsome lt htx
          rw [htx, Option.map_some, Option.bind_some] at hput
          have hst4 := hstk.below b4
          have hb4 := hst4.b
          have y4 := vblk_cell hb4 1
          have f4 := vblk_frozen hb4 1
          simp only [List.getElem?_toArray, List.getElem?_cons_succ, List.getElem?_cons_zero] at y4
          have hst5 := hidden (hstk.put0 b4 o4 (textsOf_tiny hgU hnU htx))
          obtain ⟨qu, cu, hqu⟩ := owns_sliceP o4
          clear hsome hnone HT
          subst hqu
          go_wp2_with fail
          go_roundw
          case rel => exact ⟨i + 1, _, _, _, _, by omega, by go_num, hst5.out, hput⟩
          case measure => simp [intOf]; omega
      rw [decide_eq_false (show ¬ K = ⟨#[111, 110]⟩ from hq4)] at q4
      rw [putK_else hq1 hq2 hq3 hq4, Option.bind_none] at hput
      clear HT
      go_wp2_with fail
      exact ⟨rfl, below_chgW hw3 hstk.c (fun b hb => by omega) hw3.size, (fun r h => by rw [← HRR.out, HR.out, ← hput] at h; cases h), fun _ => rfl⟩
    · have he : i = l.length := by omega
      subst he
      rw [putAll_end] at hput
      have hRr : R = if ruleB r then some r else none := by rw [HR.out, ← hput, Option.bind_some]
      have hb4 := hst.b
      have y0 := vblk_cell hb4 0
      have y1 := vblk_cell hb4 1
      have y2 := vblk_cell hb4 2
      have y3 := vblk_cell hb4 3
      have y4 := vblk_cell hb4 4
      simp only [List.getElem?_toArray, List.getElem?_cons_succ, List.getElem?_cons_zero] at y0 y1 y2 y3 y4
      have hRow : Hid (RowIn shRule (fun b => b < (wr.alloc (.cells #[.string t, u0, u1, u2, .bool r.keep] 51 (0, 0))).heap.size) (wr.alloc (.cells #[.string t, u0, u1, u2, .bool r.keep] 51 (0, 0))) (.slice (some ⟨wr.heap.size, 0, none⟩) 1 1) [r]) := by
        have hbel : Below wr.heap.size wr (wr.alloc (.cells #[.string t, u0, u1, u2, .bool r.keep] 51 (0, 0))) := (Below.refl _ _).alloc (Nat.le_refl _) _
        have h9 := (hst.below hbel).l.choose_spec.lies
        rw [hst.tk] at h9
        have hnew : (wr.alloc (.cells #[.string t, u0, u1, u2, .bool r.keep] 51 (0, 0))).heap[wr.heap.size]? = some (.cells #[.string t, u0, u1, u2, .bool r.keep] 51 (0, 0)) := vheap_new _ _
        refine ⟨_, _, rfl, by unfold maxLen; simp, Nat.le_refl _, .inr ⟨wr.heap.size, 0, rfl, by simp, fun k hk => ?_⟩⟩
        obtain rfl : k = 0 := by simp at hk; omega
        refine ⟨[.string t, u0, u1, u2, .bool r.keep], shRule.mono (fun b hb => Nat.lt_of_lt_of_le hb.2 ?_) h9, ?_⟩
        · exact (hst.below hbel).l.choose_spec.a0.2
        · intro j hj
          have h8 := vblk_cell hnew j
          rw [show 0 + 0 * shRule.n + j = j by omega, h8]
          simp [List.getElem?_eq_getElem hj]
      have HO := hidden (implRules_c _ _ [r] (wr.alloc (.cells #[.string t, u0, u1, u2, .bool r.keep] 51 (0, 0))) hRow.out (fun b h => h) (fun d hd => by rw [List.mem_singleton] at hd; subst hd; exact tinyR_small hst.ti))
      clear hc hX hkids hRow
      have bxr : Below wr.heap.size wr (wr.alloc (.cells #[.string t, u0, u1, u2, .bool r.keep] 51 (0, 0))) := (Below.refl _ _).alloc (Nat.le_refl _) _
      rw [rulesB_one] at HO
      have hstk := hst.below bxr
      by_cases hrb : ruleB r = true
      · rw [hrb] at HO
        rw [if_pos hrb] at hRr
        go_wp2_with fail
        go_at_call 53
        refine HO.out.mono ?_
        rintro e w5 ⟨rfl, b5⟩
        have hst5 := hstk.below b5
        obtain ⟨q0, c0, q1, c1, q2, c2, e0, e1, e2⟩ := hst5.l.choose_spec.slices
        subst e0 e1 e2
        have hb5 := hst5.b
        have v0 := vblk_cell hb5 0
        have v1 := vblk_cell hb5 1
        have v2 := vblk_cell hb5 2
        have v3 := vblk_cell hb5 3
        have v4 := vblk_cell hb5 4
        simp only [List.getElem?_toArray, List.getElem?_cons_succ, List.getElem?_cons_zero] at v0 v1 v2 v3 v4
        have hq := (hst5.c.block p4 (by omega) (by omega)).trans hR3
        have hf := vblk_frozen hq
        have f0 := hf 0
        have f1 := hf 1
        have f2 := hf 2
        have f3 := hf 3
        have f4 := hf 4
        have z0 := vblk_cell hq 0
        have z1 := vblk_cell hq 1
        have z2 := vblk_cell hq 2
        have z3 := vblk_cell hq 3
        have z4 := vblk_cell hq 4
        simp only [List.getElem?_toArray, List.getElem?_cons_succ, List.getElem?_cons_zero] at z0 z1 z2 z3 z4
        clear HO
        go_wp2_with fail
        have hq5 := five_put hq (.string t) (.slice q0 r.on.length c0) (.slice q1 r.ins.length c1) (.slice q2 r.envs.length c2) (.bool r.keep)
        have k5 := five_chg w5 p4 (.string t) (.slice q0 r.on.length c0) (.slice q1 r.ins.length c1) (.slice q2 r.envs.length c2) (.bool r.keep)
        refine bodyPost_ret (results_cell_row (p := 4) (ty := 51) (by kernel_rfl) _ _ p4 51 _ (0, 0) _ rfl hq5 Tryz.underlying51 rfl (by kernel_rfl)) rfl ?_
        refine ⟨below_chgW (below_chgW hw3 hst5.c (fun b hb => by omega) hw3.size) k5 (fun b hb => by omega) (Nat.le_trans hw3.size hst5.c.size), fun r' h => ?_, fun h => by rw [← HRR.out, hRr] at h; cases h⟩
        rw [← HRR.out, hRr] at h
        obtain rfl := Option.some.inj h
        refine ⟨_, _, _, rfl, ?_⟩
        have h9 := hst5.l.choose_spec.chg k5 (fun b hb e => by have := hb.1; have := hst5.lt; omega)
        exact h9.wide hw3.size h9.a0.2 (Nat.le_refl _)
      · rw [Bool.not_eq_true] at hrb
        rw [hrb] at HO
        rw [hrb] at hRr
        go_wp2_with fail
        go_at_call 53
        refine HO.out.mono ?_
        rintro e w5 ⟨rfl, b5⟩
        have hst5 := hstk.below b5
        have her := HE.out _ hst5.c
        unfold ErrAt at her
        clear HO
        go_wp2_with fail
        exact ⟨rfl, below_chgW hw3 hst5.c (fun b hb => by omega) hw3.size, (fun r h => by rw [← HRR.out, hRr] at h; cases h), fun _ => rfl⟩
end Go.Proofs.YtkkhnldhipfneaaGreatDoor

/-! The rule of a value, as the program reads it: whatever it is given, it answers; contracts; conditions: the value lies in memory and holds at most 2 to the 20, the program's error lies there. -/
namespace Go.Proofs.YtkkhnldhipfneaaGreatDoor
open Go.RowKit
set_option linter.unusedSimpArgs false
set_option linter.unusedVariables false

set_option maxHeartbeats 2000000 in
set_option maxRecDepth 100000 in
theorem catch_panicking (p q : Nat) (w : World) (eu : TypeId) (ev : Value) (older : List PanicEntry) (u0 u1 u2 u3 u4 u5 : Value) (hp : w.heap[p]? = some (.cells #[u0, u1, u2, u3, u4] 51 (0, 0))) (hq : w.heap[q]? = some (.cells #[u5] 4 (0, 0))) (hne : p ≠ q) :
    CallsD Tryz.prog 93 #[.pointer (some ⟨p, 0, none⟩), .pointer (some ⟨q, 0, none⟩)] (.panicking ({ v := .iface eu ev, recovered := false } :: older)) w fun e u' w' =>
      e = .returned (.tuple #[]) ∧ u' = .panicking ({ v := .iface eu ev, recovered := true } :: older) ∧ w'.heap[p]? = some (.cells #[.string ⟨#[]⟩, .slice none 0 0, .slice none 0 0, .slice none 0 0, .bool false] 51 (0, 0)) ∧ w'.heap[q]? = some (.cells #[.bool false] 4 (0, 0)) ∧ Chg (fun g => g = p ∨ g = q) w w' := by
  have y0 := vblk_cell hp 0
  have y1 := vblk_cell hp 1
  have y2 := vblk_cell hp 2
  have y3 := vblk_cell hp 3
  have y4 := vblk_cell hp 4
  have y5 := vblk_cell hq 0
  simp only [List.getElem?_toArray, List.getElem?_cons_succ, List.getElem?_cons_zero] at y0 y1 y2 y3 y4 y5
  have f0 := vblk_frozen hp 0
  have f1 := vblk_frozen hp 1
  have f2 := vblk_frozen hp 2
  have f3 := vblk_frozen hp 3
  have f4 := vblk_frozen hp 4
  have f5 := vblk_frozen hq 0
  refine callsD_of_wpS Tryz.func93 rfl fun c₀ cs hu => ?_
  apply wpS_seq
  apply wpS_region
  simp [wpOpsS, go_sem, recoverD, hu, Tryz.ntmps93, Exit.thenS]
  refine wpS_cond (t := true) (by simp [Act.eval, Array.replicate]) ?_
  simp only [if_true]
  have ht : (#[.pointer (some ⟨p, 0, none⟩), .pointer (some ⟨q, 0, none⟩)] : Array Value) ++ ((Array.replicate 3 undef).setIfInBounds 0 (Value.iface eu ev)).setIfInBounds 1 (Value.bool true) = #[.pointer (some ⟨p, 0, none⟩), .pointer (some ⟨q, 0, none⟩), .iface eu ev, .bool true, undef] := rfl
  rw [ht]
  refine wpS_of_wp ?_
  clear ht
  go_wp2_with fail
  have k1 := five_put hp (.string ⟨#[]⟩) (.slice none 0 0) (.slice none 0 0) (.slice none 0 0) (.bool false)
  have k2 := five_chg w p (.string ⟨#[]⟩) (.slice none 0 0) (.slice none 0 0) (.slice none 0 0) (.bool false)
  obtain ⟨W, hW⟩ : ∃ W, W = ((((w.setCell ⟨p, 0, none⟩ (.string ⟨#[]⟩)).setCell ⟨p, 1, none⟩ (.slice none 0 0)).setCell ⟨p, 2, none⟩ (.slice none 0 0)).setCell ⟨p, 3, none⟩ (.slice none 0 0)).setCell ⟨p, 4, none⟩ (.bool false) := ⟨_, rfl⟩
  rw [← hW] at k1 k2
  rw [← hW]
  have k3 := (Below.heap_setCell W ⟨q, 0, none⟩ (.bool false) p hne).trans k1
  have k4 : W.heap[q]? = some (.cells #[u5] 4 (0, 0)) := (k2.block q ((Array.getElem?_eq_some_iff.1 hq).1) (fun e => hne e.symm)).trans hq
  have k5 := heap_setCell_same W q 0 _ _ (.bool false) k4
  have k6 : Chg (fun g => g = p ∨ g = q) w (W.setCell ⟨q, 0, none⟩ (.bool false)) := (k2.mono fun b h => .inl h).trans (Chg.set (.inr rfl))
  clear hW
  obtain ⟨W', hW'⟩ : ∃ W', W' = W.setCell ⟨q, 0, none⟩ (.bool false) := ⟨_, rfl⟩
  rw [← hW'] at k3 k5 k6
  rw [← hW']
  clear hW'
  simp [bodyPostS, results, Tryz.results93, k3, k5, k6]

theorem catch_idle (p q : Nat) (w : World) :
    CallsD Tryz.prog 93 #[.pointer (some ⟨p, 0, none⟩), .pointer (some ⟨q, 0, none⟩)] .returning w fun e u' w' => e = .returned (.tuple #[]) ∧ u' = .returning ∧ w' = w := by
  refine callsD_of_wpS Tryz.func93 rfl fun c₀ cs hu => ?_
  apply wpS_seq
  apply wpS_region
  simp [wpOpsS, go_sem, recoverD, hu, Tryz.ntmps93, Exit.thenS]
  refine wpS_cond (t := false) (by simp [Act.eval, Array.replicate]) ?_
  simp only [Bool.false_eq_true, if_false]
  refine wpS_of_wp (wp_skip ?_)
  cases c₀
  simp_all [bodyPostS, results, Tryz.results93]
theorem putAll_task : ∀ (ks : List ByteArray) (l : List Tree) (r r' : RuleD), putAll ks l r = some r' → r'.task = r.task
  | [], _, r, r', h => by rw [putAll] at h; exact (Option.some.inj h) ▸ rfl; all_goals simp
  | _ :: _, [], r, r', h => by rw [putAll] at h; exact (Option.some.inj h) ▸ rfl; all_goals simp
  | k :: ks, T :: l, r, r', h => by
    rw [putAll] at h
    cases hk : putK r k T with
    | none => rw [hk] at h; cases h
    | some r1 =>
      rw [hk, Option.bind_some] at h
      exact (putAll_task ks l r1 r' h).trans (putK_task hk)
theorem ruleOfT_task {t : ByteArray} {T : Tree} {r : RuleD} (h : ruleOfT t T = some r) : r.task = t := by
  unfold ruleOfT at h
  split at h
  · cases hp : putAll T.keys T.kids ⟨t, [], [], [], true⟩ with
    | none => rw [hp] at h; cases h
    | some r1 =>
      rw [hp, Option.bind_some] at h
      split at h
      · obtain rfl := Option.some.inj h
        exact putAll_task _ _ _ _ hp
      · cases h
  · cases h
theorem res_two {tmps : Array Value} {w : World} {p q : Nat} {v0 v1 v2 v3 v4 : Value} {y : Bool} (h4 : tmps.getD 4 undef = .pointer (some ⟨p, 0, none⟩)) (h5 : tmps.getD 5 undef = .pointer (some ⟨q, 0, none⟩)) (hp : w.heap[p]? = some (.cells #[v0, v1, v2, v3, v4] 51 (0, 0))) (hq : w.heap[q]? = some (.cells #[.bool y] 4 (0, 0))) :
    (results Tryz.f23 tmps).run Tryz.prog w = .ok (.tuple #[.agg #[v0, v1, v2, v3, v4], .bool y]) w := by
  have h4' : tmps[4]?.getD undef = .pointer (some ⟨p, 0, none⟩) := by simpa using h4
  have h5' : tmps[5]?.getD undef = .pointer (some ⟨q, 0, none⟩) := by simpa using h5
  have y5 := vblk_cell hq 0
  have y0 := vblk_cell hp 0
  have y1 := vblk_cell hp 1
  have y2 := vblk_cell hp 2
  have y3 := vblk_cell hp 3
  have y4 := vblk_cell hp 4
  simp only [List.getElem?_toArray, List.getElem?_cons_succ, List.getElem?_cons_zero] at y0 y1 y2 y3 y4 y5
  simp [results, Tryz.results23, h4', h5', asAddr, go_sem, y0, y1, y2, y3, y4, y5, Result.andThen]
def ruleD (t : ByteArray) (T : Tree) : RuleD := (ruleOfT t T).getD ⟨⟨#[]⟩, [], [], [], false⟩
def ruleY (t : ByteArray) (T : Tree) : Bool := (ruleOfT t T).isSome
set_option maxHeartbeats 8000000 in
set_option maxRecDepth 100000 in
theorem ruleOf_c (T : Tree) (S : Nat → Prop) (v : Value) (t : ByteArray) (w : World) (hv : Lies S w v T) (hB : ∀ b, S b → b < w.heap.size) (hw : T.wt ≤ 1048576) (ht : t.size ≤ 1048576) (eu : TypeId) (ev : Value) (he : ErrAt w eu ev) :
    Calls Tryz.prog 23 #[.string t, v] w fun e w' => Below w.heap.size w w' ∧ ∃ u0 u1 u2, e = .returned (.tuple #[.agg #[.string (ruleD t T).task, u0, u1, u2, .bool (ruleD t T).keep], .bool (ruleY t T)]) ∧ Rec3 w.heap.size w'.heap.size w' u0 u1 u2 (ruleD t T) := by
  have hmf : ∀ (fn : Fn) (first cap : Array Value) (w : World), (Instr.makeFunc fn first cap).run Tryz.prog w = .ok (.func fn first cap) w := fun _ _ _ _ => rfl
  have HR : Hid (∀ w1, Below w.heap.size w w1 → Calls Tryz.prog 94 #[.string t, v] w1 fun e w' => Below w1.heap.size w1 w' ∧ (∀ r, ruleOfT t T = some r → ∃ u0 u1 u2, e = .returned (.agg #[.string t, u0, u1, u2, .bool r.keep]) ∧ Rec3 w1.heap.size w'.heap.size w' u0 u1 u2 r) ∧ (ruleOfT t T = none → Unread eu ev e)) := fun w1 h => readRule_c T S v t w1 (hv.keep (.of h hB)) (fun b hb => Nat.lt_of_lt_of_le (hB b hb) h.size) hw ht eu ev (he.keep h)
  obtain ⟨k, n, s, a, m, cap, a', m', cap', rfl⟩ := hv.parts
  have hb3 : Below w.heap.size w (((w.alloc (.cells #[.int .i64 k, .int .i64 n, .string s, .slice a m cap, .slice a' m' cap'] 56 (0, 0))).alloc (.cells #[.string ⟨#[]⟩, .slice none 0 0, .slice none 0 0, .slice none 0 0, .bool false] 51 (0, 0))).alloc (.cells #[.bool false] 4 (0, 0))) := (((Below.refl _ _).alloc (Nat.le_refl _) _).alloc (by simp) _).alloc (by simp; omega) _
  have hsz : (((w.alloc (.cells #[.int .i64 k, .int .i64 n, .string s, .slice a m cap, .slice a' m' cap'] 56 (0, 0))).alloc (.cells #[.string ⟨#[]⟩, .slice none 0 0, .slice none 0 0, .slice none 0 0, .bool false] 51 (0, 0))).alloc (.cells #[.bool false] 4 (0, 0))).heap.size = w.heap.size + 3 := by simp
  have hq : (((w.alloc (.cells #[.int .i64 k, .int .i64 n, .string s, .slice a m cap, .slice a' m' cap'] 56 (0, 0))).alloc (.cells #[.string ⟨#[]⟩, .slice none 0 0, .slice none 0 0, .slice none 0 0, .bool false] 51 (0, 0))).alloc (.cells #[.bool false] 4 (0, 0))).heap[w.heap.size + 2]? = some (.cells #[.bool false] 4 (0, 0)) := by
    have := vheap_new ((w.alloc (.cells #[.int .i64 k, .int .i64 n, .string s, .slice a m cap, .slice a' m' cap'] 56 (0, 0))).alloc (.cells #[.string ⟨#[]⟩, .slice none 0 0, .slice none 0 0, .slice none 0 0, .bool false] 51 (0, 0))) (.cells #[.bool false] 4 (0, 0))
    rwa [show ((w.alloc (.cells #[.int .i64 k, .int .i64 n, .string s, .slice a m cap, .slice a' m' cap'] 56 (0, 0))).alloc (.cells #[.string ⟨#[]⟩, .slice none 0 0, .slice none 0 0, .slice none 0 0, .bool false] 51 (0, 0))).heap.size = w.heap.size + 2 by simp] at this
  have hp : (((w.alloc (.cells #[.int .i64 k, .int .i64 n, .string s, .slice a m cap, .slice a' m' cap'] 56 (0, 0))).alloc (.cells #[.string ⟨#[]⟩, .slice none 0 0, .slice none 0 0, .slice none 0 0, .bool false] 51 (0, 0))).alloc (.cells #[.bool false] 4 (0, 0))).heap[w.heap.size + 1]? = some (.cells #[.string ⟨#[]⟩, .slice none 0 0, .slice none 0 0, .slice none 0 0, .bool false] 51 (0, 0)) := by
    have h9 : Below ((w.alloc (.cells #[.int .i64 k, .int .i64 n, .string s, .slice a m cap, .slice a' m' cap'] 56 (0, 0))).alloc (.cells #[.string ⟨#[]⟩, .slice none 0 0, .slice none 0 0, .slice none 0 0, .bool false] 51 (0, 0))).heap.size ((w.alloc (.cells #[.int .i64 k, .int .i64 n, .string s, .slice a m cap, .slice a' m' cap'] 56 (0, 0))).alloc (.cells #[.string ⟨#[]⟩, .slice none 0 0, .slice none 0 0, .slice none 0 0, .bool false] 51 (0, 0))) (((w.alloc (.cells #[.int .i64 k, .int .i64 n, .string s, .slice a m cap, .slice a' m' cap'] 56 (0, 0))).alloc (.cells #[.string ⟨#[]⟩, .slice none 0 0, .slice none 0 0, .slice none 0 0, .bool false] 51 (0, 0))).alloc (.cells #[.bool false] 4 (0, 0))) := (Below.refl _ _).alloc (Nat.le_refl _) _
    exact (h9.block _ (by simp)).trans (two_boxes (w := w) (.cells #[.int .i64 k, .int .i64 n, .string s, .slice a m cap, .slice a' m' cap'] 56 (0, 0)) (.cells #[.string ⟨#[]⟩, .slice none 0 0, .slice none 0 0, .slice none 0 0, .bool false] 51 (0, 0))).2
  clear hv
  go_enter_defers Tryz.func23, Tryz.ntmps23
  go_wp2_with fail
  obtain ⟨wa, hwa⟩ : ∃ z, z = ((w.alloc (.cells #[.int .i64 k, .int .i64 n, .string s, .slice a m cap, .slice a' m' cap'] 56 (0, 0))).alloc (.cells #[.string ⟨#[]⟩, .slice none 0 0, .slice none 0 0, .slice none 0 0, .bool false] 51 (0, 0))).alloc (.cells #[.bool false] 4 (0, 0)) := ⟨_, rfl⟩
  rw [← hwa] at hb3 hsz hq hp
  rw [← hwa]
  obtain ⟨p5, hp5⟩ : ∃ z, z = w.heap.size + 2 := ⟨_, rfl⟩
  obtain ⟨p4, hp4⟩ : ∃ z, z = w.heap.size + 1 := ⟨_, rfl⟩
  have h12 : w.heap.size + 1 + 1 = p5 := by omega
  rw [← hp5] at hq
  rw [← hp4] at hp
  rw [h12, ← hp4]
  have g4 : w.heap.size ≤ p4 := by omega
  have g5 : w.heap.size ≤ p5 := by omega
  have g45 : p4 ≠ p5 := by omega
  have l4 : p4 < wa.heap.size := by omega
  have l5 : p5 < wa.heap.size := by omega
  clear hwa hp5 hp4 h12 hsz
  go_at_call 94
  refine (HR.out _ hb3).mono ?_
  rintro e w1 ⟨b1, hyes, hno⟩
  have hq1 := (b1.block p5 l5).trans hq
  have hp1 := (b1.block p4 l4).trans hp
  have hb1 := hb3.trans (b1.mono hb3.size)
  have s1 := b1.size
  clear HR
  cases hr : ruleOfT t T with
  | none =>
    have h9 := hno hr
    unfold Unread at h9
    subst h9
    clear hyes hno
    refine leaves_cons (f := 93) (args := #[.pointer (some ⟨p4, 0, none⟩), .pointer (some ⟨p5, 0, none⟩)]) (by simp) (by simp [go_sem]) ?_
    refine (catch_panicking p4 p5 w1 eu ev [] _ _ _ _ _ _ hp1 hq1 g45).mono ?_
    rintro e u' w2 ⟨rfl, rfl, hp2, hq2, k2⟩
    have hres := fun tmps h4 h5 => res_two (tmps := tmps) h4 h5 hp2 hq2
    simp only [Leaves, settle, List.dropWhile]
    have hD : ruleD t T = ⟨⟨#[]⟩, [], [], [], false⟩ := by unfold ruleD; rw [hr]; rfl
    have hY : ruleY t T = false := by unfold ruleY; rw [hr]; rfl
    rw [hD, hY]
    exact ⟨_, hres _ rfl rfl, below_chgW hb1 k2 (fun b hb => by rcases hb with h | h <;> omega) hb1.size, _, _, _, rfl, rec3_nilT (Nat.zero_le _)⟩
  | some r =>
    obtain ⟨u0, u1, u2, rfl, hrec⟩ := hyes r hr
    obtain ⟨q0, c0, q1, c1, q2, c2, e0, e1, e2⟩ := hrec.slices
    subst e0 e1 e2
    have y0 := vblk_cell hp1 0
    have y1 := vblk_cell hp1 1
    have y2 := vblk_cell hp1 2
    have y3 := vblk_cell hp1 3
    have y4 := vblk_cell hp1 4
    have y5 := vblk_cell hq1 0
    simp only [List.getElem?_toArray, List.getElem?_cons_succ, List.getElem?_cons_zero] at y0 y1 y2 y3 y4 y5
    have f0 := vblk_frozen hp1 0
    have f1 := vblk_frozen hp1 1
    have f2 := vblk_frozen hp1 2
    have f3 := vblk_frozen hp1 3
    have f4 := vblk_frozen hp1 4
    have f5 := vblk_frozen hq1 0
    clear hyes hno
    go_wp2_with fail
    have hp2 := five_put hp1 (.string t) (.slice q0 r.on.length c0) (.slice q1 r.ins.length c1) (.slice q2 r.envs.length c2) (.bool r.keep)
    have k2 := five_chg w1 p4 (.string t) (.slice q0 r.on.length c0) (.slice q1 r.ins.length c1) (.slice q2 r.envs.length c2) (.bool r.keep)
    obtain ⟨W, hW⟩ : ∃ W, W = ((((w1.setCell ⟨p4, 0, none⟩ (.string t)).setCell ⟨p4, 1, none⟩ (.slice q0 r.on.length c0)).setCell ⟨p4, 2, none⟩ (.slice q1 r.ins.length c1)).setCell ⟨p4, 3, none⟩ (.slice q2 r.envs.length c2)).setCell ⟨p4, 4, none⟩ (.bool r.keep) := ⟨_, rfl⟩
    rw [← hW] at hp2 k2
    rw [← hW]
    have hp3 := (Below.heap_setCell W ⟨p5, 0, none⟩ (.bool true) p4 g45).trans hp2
    have hq2 : W.heap[p5]? = some (.cells #[.bool false] 4 (0, 0)) := (k2.block p5 ((Array.getElem?_eq_some_iff.1 hq1).1) (fun e => g45 e.symm)).trans hq1
    have hq3 := heap_setCell_same W p5 0 _ _ (.bool true) hq2
    have k3 : Chg (fun g => g = p4 ∨ g = p5) w1 (W.setCell ⟨p5, 0, none⟩ (.bool true)) := (k2.mono fun b h => .inl h).trans (Chg.set (.inr rfl))
    clear hW
    obtain ⟨W', hW'⟩ : ∃ W', W' = W.setCell ⟨p5, 0, none⟩ (.bool true) := ⟨_, rfl⟩
    rw [← hW'] at hp3 hq3 k3
    rw [← hW']
    clear hW' y0 y1 y2 y3 y4 y5 f0 f1 f2 f3 f4 f5
    have hres := fun tmps h4 h5 => res_two (tmps := tmps) h4 h5 hp3 hq3
    refine leaves_cons (f := 93) (args := #[.pointer (some ⟨p4, 0, none⟩), .pointer (some ⟨p5, 0, none⟩)]) (by simp) (by simp [go_sem]) ?_
    refine (catch_idle p4 p5 W').mono ?_
    rintro e u' w2 ⟨rfl, rfl, rfl⟩
    simp only [Leaves, settle]
    have hD : ruleD t T = r := by unfold ruleD; rw [hr]; rfl
    have hY : ruleY t T = true := by unfold ruleY; rw [hr]; rfl
    rw [hD, hY, ruleOfT_task hr]
    have h9 := hrec.chg k3 (fun b hb e => by have := hb.1; rcases e with e | e <;> omega)
    exact ⟨_, hres _ rfl rfl, below_chgW hb1 k3 (fun b hb => by rcases hb with h | h <;> omega) hb1.size, _, _, _, rfl, h9.wide hb3.size h9.a0.2 (Nat.le_refl _)⟩
end Go.Proofs.YtkkhnldhipfneaaGreatDoor

/-! The texts of a value, and a field put into a rule, as the specification reads them: contracts; conditions: the value lies in memory and is right. -/
namespace Go.Proofs.YtkkhnldhipfneaaGreatDoor
open Go.RowKit
set_option linter.unusedSimpArgs false
set_option linter.unusedVariables false

theorem Lies.heads {S : Nat → Prop} {w : World} {c0 c1 c2 c3 c4 : Value} {U : Tree} (h : Lies S w (.agg #[c0, c1, c2, c3, c4]) U) : c0 = .int .i64 U.kd ∧ c1 = .int .i64 U.nm ∧ c2 = .string U.st := by
  obtain ⟨k, n, s, l, ks⟩ := U
  obtain ⟨c, u, hc, _⟩ := h.out
  injection hc with hc
  simp only [Array.mk.injEq, List.cons.injEq] at hc
  exact ⟨hc.1, hc.2.1, hc.2.2.1⟩
/-- What the specification answers for the texts of a value. -/
def TextsIs (w w' : World) (T : Tree) (e : Ending) : Prop := ∃ u' l, e = .returned (.tuple #[u', .bool (textsOf T).isSome]) ∧ w'.ownsRow w.heap.size 9 1 u' l.length (strsV l) ∧ tinyL l ∧ (∀ lt, textsOf T = some lt → l = lt)
set_option maxHeartbeats 4000000 in
set_option maxRecDepth 100000 in
theorem l7Texts_c (T : Tree) (S : Nat → Prop) (v : Value) (w : World) (hv : Lies S w v T) (hB : ∀ b, S b → b < w.heap.size) (d : Nat) (hg : T.good d = true) (hn : T.nodes ≤ 80) :
    Calls Tryz.prog 157 #[v] w fun e w' => TextsIs w w' T e ∧ Below w.heap.size w w' := by
  obtain ⟨i0, hi, hz0, hz1, hz2⟩ := info_parts infoS
  obtain ⟨k, n, s, l, ks⟩ := T
  obtain ⟨c, u, rfl, hs, hk, hl, hu⟩ := hv.out
  obtain ⟨a, cap, rfl, hlm, hcp, ha⟩ := hl.at
  obtain ⟨q9, n9, cap9, hq9⟩ : ∃ q n c, u = .slice q n c := by obtain ⟨a, c, h, _⟩ := hu; exact ⟨_, _, _, h⟩
  subst hq9
  have hll : l.length ≤ 80 := by have := len_nodesL l; rw [nodes_mk] at hn; omega
  have hsz : ∀ U ∈ l, U.kd = 3 → U.st.size ≤ 60 := fun U hU h3 => text_small (goodL_at _ _ (good_here hg).2 U hU) h3
  have HS : Hid (∀ (h : ∀ U ∈ l, U.kd = 3), textsOf (.mk k n s l ks) = if k = 4 then some (l.map Tree.st) else none) := fun h => by
    unfold textsOf
    show (if k = 4 then (if (l.all fun U => U.kd == 3) = true then some (l.map Tree.st) else none) else none) = _
    rw [if_pos (List.all_eq_true.2 fun U hU => by simpa using h U hU)]
  have HNo : Hid (∀ U ∈ l, U.kd ≠ 3 → textsOf (.mk k n s l ks) = none) := fun U hU h3 => by
    unfold textsOf
    show (if k = 4 then (if (l.all fun U => U.kd == 3) = true then some (l.map Tree.st) else none) else none) = none
    split
    · rw [if_neg (fun h => h3 (by simpa using List.all_eq_true.1 h U hU))]
    · rfl
  have HT : Hid (∀ (h : ∀ U ∈ l, U.kd = 3), tinyL (l.map Tree.st)) := fun h => ⟨by rw [List.length_map]; exact hll, fun s hs => by obtain ⟨U, hU, rfl⟩ := List.mem_map.1 hs; exact hsz U hU (h U hU)⟩
  have hA0 : (w.alloc (.cells #[.int .i64 k, .int .i64 n, .string s, .slice a l.length cap, .slice q9 n9 cap9] 56 (0, 0))).heap[w.heap.size]? = some (.cells #[.int .i64 k, .int .i64 n, .string s, .slice a l.length cap, .slice q9 n9 cap9] 56 (0, 0)) := vheap_new _ _
  have hbA : Below w.heap.size w (w.alloc (.cells #[.int .i64 k, .int .i64 n, .string s, .slice a l.length cap, .slice q9 n9 cap9] 56 (0, 0))) := (Below.refl _ _).alloc (Nat.le_refl _) _
  have hsA : (w.alloc (.cells #[.int .i64 k, .int .i64 n, .string s, .slice a l.length cap, .slice q9 n9 cap9] 56 (0, 0))).heap.size = w.heap.size + 1 := by simp
  clear hv hl hs hk hlm hcp hg hn
  go_enter Tryz.func157, Tryz.ntmps157
  go_wp2_with fail
  obtain ⟨w1, hw1⟩ : ∃ z, z = w.alloc (.cells #[.int .i64 k, .int .i64 n, .string s, .slice a l.length cap, .slice q9 n9 cap9] 56 (0, 0)) := ⟨_, rfl⟩
  rw [← hw1] at hA0 hbA hsA
  try rw [← hw1]
  have hlit : (w1.alloc (.cells #[] 9)).ownsRow w1.heap.size 9 1 (.slice (some ⟨w1.heap.size, 0, none⟩) 0 0) 0 [] := World.ownsRow_lit w1 #[] 0 (Nat.le_refl _) (by unfold maxLen; omega) rfl
  go_loopw [4, 5] (fun vo vi wr => ∃ (i : Nat), i ≤ l.length ∧ vi = .int .i64 (i : Int) ∧ (∀ U ∈ l.take i, U.kd = 3) ∧ wr.ownsRow w1.heap.size 9 1 vo i (strsV ((l.map Tree.st).take i)) ∧ Below w1.heap.size w1 wr) (fun _ vi _ => l.length - (intOf vi).toNat)
  case atStart => exact ⟨0, Nat.zero_le _, rfl, (fun U hU => by simp at hU), (by rw [List.take_zero]; rw [← hsA] ; exact hlit), (Below.refl _ _).alloc (Nat.le_refl _) _⟩
  case round =>
    obtain ⟨i, hi', rfl, hall, hown, hbr⟩ := hrel
    have hA1 := (hbr.block w.heap.size (by omega)).trans hA0
    have x0 := vblk_cell hA1 0
    have x3 := vblk_cell hA1 3
    simp only [List.getElem?_toArray, List.getElem?_cons_succ, List.getElem?_cons_zero] at x0 x3
    have hbw : Below w.heap.size w wr := hbA.trans (hbr.mono (by omega))
    by_cases hlt : i < l.length
    · rcases ha with rfl | ⟨b, off, rfl, hlb, ha⟩
      · simp at hlt
      obtain ⟨c0, c1, c2, c3, c4, e0, e1, e2, e3, e4, hTi⟩ := ha i hlt
      obtain ⟨h0, h1, h2⟩ := hTi.heads
      subst h0 h1 h2
      rw [← hbw.cell (by simpa using hB b hlb)] at e0 e2
      have hmem := List.getElem_mem hlt
      have hki : (i : Int) < (l.length : Int) := by omega
      clear ha e1 e3 e4 hTi
      by_cases h3 : l[i].kd = 3
      · rw [h3] at e0
        have hsk := hsz _ hmem h3
        have HTk : Hid (strsV ((l.map Tree.st).take i) ++ strsV [l[i].st] = strsV ((l.map Tree.st).take (i + 1))) := by show _ = _; rw [strs_append, List.take_succ_eq_append_getElem (by simpa using hlt), List.getElem_map]
        have HA : Hid (∀ U ∈ l.take (i + 1), U.kd = 3) := by
          intro U hU
          rw [List.take_succ_eq_append_getElem hlt, List.mem_append, List.mem_singleton] at hU
          rcases hU with h | rfl
          · exact hall U h
          · exact h3
        obtain ⟨t, ht⟩ : ∃ t, t = l[i].st := ⟨_, rfl⟩
        rw [← ht] at e2 hsk HTk
        clear ht hmem h3 hall hsz
        go_wp2_with (at_builtin; refine wpList_append_own _ rfl _ _ 26 rfl w1.heap.size 9 i0 (.string ⟨#[]⟩) 1 16 Tryz.underlying26 hi hz0 hz1 hz2 rfl (by decide) _ i (strsV ((l.map Tree.st).take i)) rfl (hown.alloc _) ⟨wr.heap.size, 0, none⟩ 1 1 (strsV [t]) rfl rfl (cell_one_new _ _ _) (fun u hu => by simp [strsV] at hu; subst hu; rfl) (by unfold maxLen; omega) (by omega) (by have h1 := hbr.size; simp; omega) ?_)
        intro v3 w3 o3 gr3 _
        rw [HTk.out] at o3
        have hb3 : Below w1.heap.size w1 w3 := Below.grown (hbr.alloc hbr.size _) gr3 (by have := hbr.size; simp; omega) (fun j hj => (hown.lt _ hj).1)
        clear gr3
        go_wp2_with fail
        go_roundw
        case rel => exact ⟨i + 1, by omega, by go_num, HA.out, (by rw [hsA]; exact o3), hb3⟩
        case measure => simp [intOf]; omega
      · have hno := HNo.out _ hmem h3
        obtain ⟨kk, hkk⟩ : ∃ z, z = l[i].kd := ⟨_, rfl⟩
        rw [← hkk] at e0 h3
        have h3' : ¬ kk = (3 : Int) := h3
        clear hmem hall hsz hkk
        go_wp2_with fail
        go_ret2
        refine ⟨⟨_, [], ?_, World.ownsRow_lit wr #[] 0 hbw.size (by unfold maxLen; omega) rfl, ⟨Nat.zero_le _, fun s hs => by cases hs⟩, fun lt h => by rw [hno] at h; cases h⟩, hbw.alloc hbw.size _⟩
        rw [hno]; rfl
    · have he : i = l.length := by omega
      subst he
      rw [List.take_length] at hall
      rw [show l.length = (l.map Tree.st).length by simp, List.take_length] at hown
      have hsome := HS.out hall
      have htin := HT.out hall
      clear ha hsz
      go_wp2_with (go_quiet (fail))
      go_ret2
      have hd : Below wr.heap.size wr (wr.drewN nq) := ⟨rfl, rfl, rfl, Nat.le_refl _, fun _ _ => rfl⟩
      refine ⟨⟨_, l.map Tree.st, ?_, owns_lo (by omega) (owns_of_belowN hown hd), htin, fun lt h => ?_⟩, hbw.trans (hd.mono hbw.size)⟩
      · rw [hsome]
        by_cases h4 : k = 4
        · subst h4; rfl
        · rw [if_neg h4, show (k == 4) = false by simpa using h4]; rfl
      · rw [hsome] at h
        by_cases h4 : k = 4
        · rw [if_pos h4] at h; exact Option.some.inj h
        · rw [if_neg h4] at h; cases h
end Go.Proofs.YtkkhnldhipfneaaGreatDoor

/-! A field put into a rule, as the specification reads it: contract; conditions: the value lies in memory and is right. -/
namespace Go.Proofs.YtkkhnldhipfneaaGreatDoor
open Go.RowKit
set_option linter.unusedSimpArgs false
set_option linter.unusedVariables false

set_option maxHeartbeats 1000000 in
set_option maxRecDepth 100000 in
theorem l12Put_c (T : Tree) (S : Nat → Prop) (v : Value) (w w3 : World) (hv : Lies S w v T) (hB : ∀ b, S b → b < w.heap.size) (d : Nat) (hg : T.good d = true) (hn : T.nodes ≤ 80) (K : ByteArray) (p : Nat) (t : ByteArray) (r : RuleD) (u0 u1 u2 : Value) (hst : RuSt w3 p t w r u0 u1 u2) :
    Calls Tryz.prog 90 #[.pointer (some ⟨p, 0, none⟩), .string K, v] w fun e w' => ∃ r' u0' u1' u2', e = .returned (.bool (putK r K T).isSome) ∧ RuSt w3 p t w' r' u0' u1' u2' ∧ (∀ r'', putK r K T = some r'' → r' = r'') := by
  have hbx : ∀ o, Below w.heap.size w (w.alloc o) := fun o => (Below.refl _ _).alloc (Nat.le_refl _) _
  have HX : Hid (∀ o, Calls Tryz.prog 157 #[v] (w.alloc o) fun e w' => TextsIs (w.alloc o) w' T e ∧ Below (w.alloc o).heap.size (w.alloc o) w') := fun o => l7Texts_c T S v (w.alloc o) (hv.keep (.of (hbx o) hB)) (fun b hb => Nat.lt_of_lt_of_le (hB b hb) (hbx o).size) d hg hn
  obtain ⟨k, n, s, a, m, cap, a', m', cap', rfl⟩ := hv.parts
  have HKN : Hid (k = T.kd ∧ n = T.nm) := ⟨by have := (hv.heads).1; injection this, by have := (hv.heads).2.1; injection this⟩
  have hA0 : (w.alloc (.cells #[.int .i64 k, .int .i64 n, .string s, .slice a m cap, .slice a' m' cap'] 56 (0, 0))).heap[w.heap.size]? = some (.cells #[.int .i64 k, .int .i64 n, .string s, .slice a m cap, .slice a' m' cap'] 56 (0, 0)) := vheap_new _ _
  have q1 : (K.toList == [101, 110, 118]) = decide (K = ⟨#[101, 110, 118]⟩) := by rw [← key_is, lst_q1]
  have q2 : (K.toList == [105, 110]) = decide (K = ⟨#[105, 110]⟩) := by rw [← key_is, lst_q2]
  have q3 : (K.toList == [107, 101, 101, 112]) = decide (K = ⟨#[107, 101, 101, 112]⟩) := by rw [← key_is, lst_q3]
  have q4 : (K.toList == [111, 110]) = decide (K = ⟨#[111, 110]⟩) := by rw [← key_is, lst_q4]
  have hps : p < w.heap.size := Nat.lt_of_lt_of_le hst.lt hst.c.size
  clear hv hg hn hB
  unfold TextsIs at HX
  by_cases hq1 : K = kEnv
  · rw [decide_eq_true (show K = ⟨#[101, 110, 118]⟩ from hq1)] at q1
    clear q2 q3 q4
    have HP := hidden (by rw [hq1]; rfl : putK r K T = (textsOf T).map fun l => { r with envs := l })
    rw [HP.out]
    clear hq1
    go_enter Tryz.func90, Tryz.ntmps90
    go_wp2_with fail
    go_at_call 157
    refine (HX.out _).mono ?_
    rintro e w2 ⟨⟨u', lt, rfl, o2, tl, hlt⟩, b2⟩
    have hst2 := (hst.below (hbx _)).below b2
    have hb4 := hst2.b
    have y4 := vblk_cell hb4 3
    have f4 := vblk_frozen hb4 3
    simp only [List.getElem?_toArray, List.getElem?_cons_succ, List.getElem?_cons_zero] at y4
    have hst5 := hidden (hst.put2 ((hbx _).trans (b2.mono (hbx _).size)) (owns_lo (hbx _).size o2) tl)
    obtain ⟨qu, cu, hqu⟩ := owns_sliceP o2
    subst hqu
    clear HX
    go_wp2_with fail
    go_ret
    refine ⟨_, _, _, _, ?_, hst5.out, fun r'' h => ?_⟩
    · cases textsOf T <;> rfl
    · cases htx : textsOf T with
      | none => rw [htx] at h; cases h
      | some l9 => rw [htx] at h; rw [hlt l9 htx]; exact Option.some.inj h
  rw [decide_eq_false (show ¬ K = ⟨#[101, 110, 118]⟩ from hq1)] at q1
  by_cases hq2 : K = kIn
  · rw [decide_eq_true (show K = ⟨#[105, 110]⟩ from hq2)] at q2
    clear q3 q4
    have HP := hidden (by rw [hq2]; exact putK_in r T : putK r K T = (textsOf T).map fun l => { r with ins := l })
    rw [HP.out]
    clear hq1 hq2
    go_enter Tryz.func90, Tryz.ntmps90
    go_wp2_with fail
    go_at_call 157
    refine (HX.out _).mono ?_
    rintro e w2 ⟨⟨u', lt, rfl, o2, tl, hlt⟩, b2⟩
    have hst2 := (hst.below (hbx _)).below b2
    have hb4 := hst2.b
    have y4 := vblk_cell hb4 2
    have f4 := vblk_frozen hb4 2
    simp only [List.getElem?_toArray, List.getElem?_cons_succ, List.getElem?_cons_zero] at y4
    have hst5 := hidden (hst.put1 ((hbx _).trans (b2.mono (hbx _).size)) (owns_lo (hbx _).size o2) tl)
    obtain ⟨qu, cu, hqu⟩ := owns_sliceP o2
    subst hqu
    clear HX
    go_wp2_with fail
    go_ret
    refine ⟨_, _, _, _, ?_, hst5.out, fun r'' h => ?_⟩
    · cases textsOf T <;> rfl
    · cases htx : textsOf T with
      | none => rw [htx] at h; cases h
      | some l9 => rw [htx] at h; rw [hlt l9 htx]; exact Option.some.inj h
  rw [decide_eq_false (show ¬ K = ⟨#[105, 110]⟩ from hq2)] at q2
  by_cases hq4 : K = kOn
  · rw [decide_eq_true (show K = ⟨#[111, 110]⟩ from hq4)] at q4
    have HP := hidden (by rw [hq4]; exact putK_on r T : putK r K T = (textsOf T).map fun l => { r with on := l })
    rw [HP.out]
    clear hq1 hq2 q3 hq4
    go_enter Tryz.func90, Tryz.ntmps90
    go_wp2_with fail
    go_at_call 157
    refine (HX.out _).mono ?_
    rintro e w2 ⟨⟨u', lt, rfl, o2, tl, hlt⟩, b2⟩
    have hst2 := (hst.below (hbx _)).below b2
    have hb4 := hst2.b
    have y4 := vblk_cell hb4 1
    have f4 := vblk_frozen hb4 1
    simp only [List.getElem?_toArray, List.getElem?_cons_succ, List.getElem?_cons_zero] at y4
    have hst5 := hidden (hst.put0 ((hbx _).trans (b2.mono (hbx _).size)) (owns_lo (hbx _).size o2) tl)
    obtain ⟨qu, cu, hqu⟩ := owns_sliceP o2
    subst hqu
    clear HX
    go_wp2_with fail
    go_ret
    refine ⟨_, _, _, _, ?_, hst5.out, fun r'' h => ?_⟩
    · cases textsOf T <;> rfl
    · cases htx : textsOf T with
      | none => rw [htx] at h; cases h
      | some l9 => rw [htx] at h; rw [hlt l9 htx]; exact Option.some.inj h
  rw [decide_eq_false (show ¬ K = ⟨#[111, 110]⟩ from hq4)] at q4
  by_cases hq3 : K = kKeep
  · rw [decide_eq_true (show K = ⟨#[107, 101, 101, 112]⟩ from hq3)] at q3
    have HP := hidden (by rw [hq3]; exact putK_keep r T : putK r K T = if T.kd = 1 then some { r with keep := T.nm == 1 } else none)
    rw [HP.out, ← HKN.out.1, ← HKN.out.2]
    clear hq1 hq2 hq3 hq4 HKN
    go_enter Tryz.func90, Tryz.ntmps90
    go_wp2_with fail
    go_at_call 157
    refine (HX.out _).mono ?_
    rintro e w2 ⟨⟨u', lt, rfl, o2, tl, hlt⟩, b2⟩
    have hst2 := (hst.below (hbx _)).below b2
    have hb4 := hst2.b
    have y4 := vblk_cell hb4 4
    have f4 := vblk_frozen hb4 4
    have hA1 := (b2.block w.heap.size (by simp)).trans hA0
    have x0 := vblk_cell hA1 0
    have x1 := vblk_cell hA1 1
    simp only [List.getElem?_toArray, List.getElem?_cons_succ, List.getElem?_cons_zero] at y4 x0 x1
    have hst5 := hidden (hst2.put3 (Below.refl _ _) (n == 1))
    have hfar := (cells_put hA1 (show w.heap.size ≠ p by omega) 4 (.bool (n == 1)))
    have z0 := vblk_cell hfar 0
    simp only [List.getElem?_toArray, List.getElem?_cons_succ, List.getElem?_cons_zero] at z0
    clear HX
    go_wp2_with fail
    · go_ret
      exact ⟨rfl, _, _, _, hst5.out⟩
    · have hk1 : (k == 1) = false := by simpa using ‹¬ k = 1›
      go_ret
      exact ⟨by show Ending.returned (.bool (k == 1)) = _; rw [hk1], _, _, _, _, hst5.out⟩
  rw [decide_eq_false (show ¬ K = ⟨#[107, 101, 101, 112]⟩ from hq3)] at q3
  rw [putK_else hq1 hq2 hq3 hq4]
  clear hq1 hq2 hq3 hq4
  go_enter Tryz.func90, Tryz.ntmps90
  go_wp2_with fail
  go_at_call 157
  refine (HX.out _).mono ?_
  rintro e w2 ⟨⟨u', lt, rfl, o2, tl, hlt⟩, b2⟩
  have hst2 := (hst.below (hbx _)).below b2
  clear HX
  go_wp2_with fail
  go_ret
  exact ⟨_, _, _, _, rfl, hst2, fun r'' h => by cases h⟩
end Go.Proofs.YtkkhnldhipfneaaGreatDoor
