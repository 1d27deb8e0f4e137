/-
  Contracts for the walks, several texts in one: each part says what it proves, and under which conditions.
-/
import Derived.Deep.RegionHeld
import Derived.Deep.DeepCutAuto
import Derived.Test.YtkijckpkojcdcaaDoorQ11

/-! The law on EntryOf, walked: whatever comes in, the program and the specification answer alike, nothing is written into an argument, and the answer owns its memory; conditions: what comes in lies in memory, its numbers fit into an int, and the library's powers of ten are there. -/
namespace Go.Proofs.YtkijckpkojcdcaaDoor
open Go.RowKit
set_option linter.unusedSimpArgs false
set_option linter.unusedVariables false

theorem wpAny_atE {P : Program} {md : Region.Mode} {ops : Array Oper} {Q : Exit → Act → World → Prop} {S : World → Prop} {f f' : Nat} {l l' : Array Bool} {a : Act} {w : World} (h : wpAnyH P md ops Q S f' l' a w) (hf : f' = f) (hl : l' = l) : wpAnyH P md ops Q S f l a w := by
  subst hf hl; exact h
theorem as_phiE {P : Program} {md : Region.Mode} {ops : Array Oper} {Q : Exit → Act → World → Prop} {S : World → Prop} {f : Nat} {l : Array Bool} {a : Act} {w : World} (h : ∀ Φ, Φ = wpAnyH P md ops Q S → wpAnyH P md ops Q S f l a w) : wpAnyH P md ops Q S f l a w := h _ rfl

set_option maxHeartbeats 40000000 in
set_option maxRecDepth 100000 in
theorem entryOf_walk (a0 : Value) (z0 : List EntryD) (a1 : ByteArray) (xa2 xb2 xc2 : Int) (u2 : Value) (z2 : List ByteArray) (w : World) (r0 : RowIn shEntry (· < w.heap.size) w a0 z0) (hwf0 : ∀ d ∈ z0, wfE d) (w1' : a1.size ≤ maxLen) (r2 : Reads w u2 (strsV z2)) (s2 : saneP z2)
    (hA2 : (Lit.int .i64 xa2).wf = true) (hB2 : (Lit.int .i64 xb2).wf = true) (hC2 : (Lit.int .i64 xc2).wf = true) (htab : Lib.TabIs Tryd.prog w "internal/strconv.uint64pow10" .u64 Lib.pow10Tab) :
    Calls Tryd.prog 4 #[a0, .string a1, .agg #[.int .i64 xa2, .int .i64 xb2, .int .i64 xc2, u2]] w fun e w' => e = .returned (.bool true) ∧ Below w.heap.size w w' := by
  have hbx : ∀ o, Below w.heap.size w (w.alloc o) := fun o => (Below.refl _ _).alloc (Nat.le_refl _) _
  have hin : ∀ w1, Below w.heap.size w w1 → RowIn shEntry (· < w1.heap.size) w1 a0 z0 := fun w1 h => r0.below h
  have hr2 : ∀ w1, Below w.heap.size w w1 → Reads w1 u2 (strsV z2) := fun w1 h => r2.below h
  have HZ0 : Hid (∀ w1, Below w.heap.size w w1 → Calls Tryd.prog 10 #[a0, .int .i64 1048576] w1 fun e w' => e = .returned (.int .i64 (leftW (wtRow wtEntry z0) 1048576)) ∧ Below w1.heap.size w1 w') := fun w1 h => szEntryS_c _ _ z0 _ (by omega) (by omega) w1 (hin w1 h) (fun b h => h)
  have HZ1 : Hid (∀ p, 0 ≤ p → p ≤ 1048576 → ∀ w1, Below w.heap.size w w1 → Calls Tryd.prog 11 #[.agg #[.int .i64 xa2, .int .i64 xb2, .int .i64 xc2, u2], .int .i64 p] w1 fun e w' => e = .returned (.int .i64 (leftS z2 p)) ∧ Below w1.heap.size w1 w') := fun p h0 h1 w1 hw => szVer_c _ _ _ _ z2 _ h0 h1 w1 (hr2 w1 hw) s2
  obtain ⟨q2, cap2, hq2, _, _⟩ := reads_strs r2
  subst hq2
  obtain ⟨q0, cap0, hq0⟩ := r0.slice
  subst hq0
  have hAv : (w.alloc (.cells #[.int .i64 xa2, .int .i64 xb2, .int .i64 xc2, .slice q2 z2.length cap2] 36 (0, 0))).heap[w.heap.size]? = some (.cells #[.int .i64 xa2, .int .i64 xb2, .int .i64 xc2, .slice q2 z2.length cap2] 36 (0, 0)) := vheap_new _ _
  by_cases hbig1 : 1048576 < a1.size
  · have hb : (1048576 : Int) < (a1.size : Int) := by omega
    unfold maxLen at w1'
    clear hin hr2 r0 r2 HZ0 HZ1 htab
    go_enter Tryd.func4, Tryd.ntmps4
    go_wp2_with fail
    go_ret
    exact ⟨rfl, hbx _⟩
  have hb1' : ¬ (1048576 : Int) < (a1.size : Int) := by omega
  by_cases hbig : 1048576 < wtRow wtEntry z0
  · have e1 : leftW (wtRow wtEntry z0) 1048576 = -1 := leftW_bad (by omega)
    rw [e1] at HZ0
    unfold maxLen at w1'
    clear e1 hin r0 r2 hr2 HZ1 htab
    go_enter Tryd.func4, Tryd.ntmps4
    go_wp2_with (go_at_call 10; refine (HZ0.out _ (hbx _)).mono ?_; rintro e w1 ⟨rfl, hb1⟩)
    go_ret
    exact ⟨rfl, (hbx _).trans (hb1.mono (hbx _).size)⟩
  have hwt : wtRow wtEntry z0 ≤ 1048576 := by omega
  obtain ⟨p, hp⟩ : ∃ p, p = leftW (wtRow wtEntry z0) 1048576 := ⟨_, rfl⟩
  rw [← hp] at HZ0
  have hp1 : p ≤ 1048576 := by rw [hp, leftW_good (by omega)]; omega
  have hp0 : 0 ≤ p := by rw [hp, leftW_good (by omega)]; omega
  clear hp
  replace HZ1 := hidden (HZ1.out p hp0 hp1)
  by_cases hbig2 : p < (bulkS z2 : Int)
  · have e1 : leftS z2 p = -1 := by rw [leftS, if_neg (by omega)]
    rw [e1] at HZ1
    unfold maxLen at w1'
    clear e1 hin r0 r2 hr2 htab
    go_enter Tryd.func4, Tryd.ntmps4
    go_wp2_with fail
    go_at_call 10
    refine (HZ0.out _ (hbx _)).mono ?_
    rintro e w1 ⟨rfl, b1⟩
    have k1 := (hbx (.cells #[.int .i64 xa2, .int .i64 xb2, .int .i64 xc2, .slice q2 z2.length cap2] 36 (0, 0))).trans (b1.mono (hbx _).size)
    have hA1 := box_below hAv b1
    have x0 := vblk_cell hA1 0
    have x1 := vblk_cell hA1 1
    have x2 := vblk_cell hA1 2
    have x3 := vblk_cell hA1 3
    simp only [List.getElem?_toArray, List.getElem?_cons_succ, List.getElem?_cons_zero] at x0 x1 x2 x3
    go_wp2_with fail
    go_at_call 11
    refine (HZ1.out _ k1).mono ?_
    rintro e w2 ⟨rfl, b2⟩
    go_wp2_with fail
    go_ret
    exact ⟨rfl, k1.trans (b2.mono k1.size)⟩
  have hbk2 : bulkS z2 ≤ 1048576 := by omega
  have hn2 : z2.length ≤ 1048576 := by unfold bulkS at hbk2; omega
  obtain ⟨pp, hpp⟩ : ∃ pp, pp = leftS z2 p := ⟨_, rfl⟩
  rw [← hpp] at HZ1
  have hpp0 : 0 ≤ pp := by rw [hpp, leftS, if_pos (by omega)]; omega
  clear hpp
  obtain ⟨FF, hFF⟩ : ∃ F, F = firstK z0 ⟨a1, xa2, xb2, xc2, ⟨(preL z2).toArray⟩⟩ := ⟨_, rfl⟩
  obtain ⟨DD, hDD⟩ : ∃ D, D = atD z0 FF := ⟨_, rfl⟩
  have hwD : wtEntry DD ≤ 1048576 := by
    rw [hDD]
    unfold atD
    cases FF with
    | none => show wtEntry zeroD ≤ _; decide
    | some i =>
      cases hi : z0[i]? with
      | none => rw [Option.bind_some, hi]; show wtEntry zeroD ≤ _; decide
      | some d => simp only [Option.bind_some, hi, Option.getD_some]; exact Nat.le_trans (wt_wtRow wtEntry (List.mem_of_getElem? hi)) hwt
  have HT0 : Hid (∀ w1, Below w.heap.size w w1 → Calls Tryd.prog 13 #[.slice q0 z0.length cap0] w1 fun e w' => ∃ g, e = .returned (.slice (some ⟨g, 0, none⟩) z0.length z0.length) ∧ RowO w1.heap.size w' (.slice (some ⟨g, 0, none⟩) z0.length z0.length) z0 ∧ Below w1.heap.size w1 w') := fun w1 h => (toEntryS_c _ _ z0 w1 (hin w1 h) (fun b h => h) hwt).mono fun e w' ⟨g, h1, h2, h3⟩ => ⟨g, h1, h2, h3⟩
  have HT1 : Hid (∀ w1, Below w.heap.size w w1 → Calls Tryd.prog 14 #[.agg #[.int .i64 xa2, .int .i64 xb2, .int .i64 xc2, .slice q2 z2.length cap2]] w1 fun e w' => ∃ g, e = .returned (.agg #[.int .i64 xa2, .int .i64 xb2, .int .i64 xc2, .slice (some ⟨g, 0, none⟩) z2.length z2.length]) ∧ StrO w1.heap.size w' (.slice (some ⟨g, 0, none⟩) z2.length z2.length) z2 ∧ Below w1.heap.size w1 w') := fun w1 h => toVerO_c _ _ _ _ z2 w1 (hr2 w1 h) hn2
  have HSP : Hid (∀ w1 g g' lo lo', Below w.heap.size w w1 → RowO lo w1 (.slice (some ⟨g, 0, none⟩) z0.length z0.length) z0 → StrO lo' w1 (.slice (some ⟨g', 0, none⟩) z2.length z2.length) z2 → Calls Tryd.prog 12 #[.slice (some ⟨g, 0, none⟩) z0.length z0.length, .string a1, .agg #[.int .i64 xa2, .int .i64 xb2, .int .i64 xc2, .slice (some ⟨g', 0, none⟩) z2.length z2.length]] w1 fun e w' => EntR w1 w' e DD FF.isSome) := fun w1 g g' lo lo' hb h h' => (specEntry_c (Ow lo w1.heap.size) _ z0 a1 _ _ _ _ z2 w1 h.plain (fun b hb => hb.2) hwt h'.reads hbk2).mono fun e w' hh => by rw [← hFF, ← hDD] at hh; exact EntR.of hh
  have HIM : Hid (∀ w1 g g' lo lo', Below w.heap.size w w1 → RowO lo w1 (.slice (some ⟨g, 0, none⟩) z0.length z0.length) z0 → StrO lo' w1 (.slice (some ⟨g', 0, none⟩) z2.length z2.length) z2 → Calls Tryd.prog 15 #[.slice (some ⟨g, 0, none⟩) z0.length z0.length, .string a1, .agg #[.int .i64 xa2, .int .i64 xb2, .int .i64 xc2, .slice (some ⟨g', 0, none⟩) z2.length z2.length]] w1 fun e w' => EntR w1 w' e DD FF.isSome) := fun w1 g g' lo lo' hb h h' => (implEntry_c (Ow lo w1.heap.size) _ z0 a1 _ _ _ _ z2 w1 (RowIn.as (sh := shEntryO) (sh' := shEntry) rfl (fun S w cs x h => liesEntry_plain h) h.plain) (fun b hb => hb.2) hwt hwf0 w1' h'.reads hbk2 hA2 hB2 hC2 (tabIs_below hb htab)).mono fun e w' hh => by rw [← hFF, ← hDD] at hh; exact EntR.of hh
  clear hFF hDD hin hr2 r0 r2 htab hbig hbig1 hbig2
  have w1s := w1'
  unfold maxLen at w1s
  have HEQ : Hid (∀ W x8 y8 x9 y9 u8 v8 u9 v9 l1 h1 l2 h2, shEntryO.lies (Ow l1 h1) W [.string DD.name, .int .i64 DD.vA, .int .i64 DD.vB, .int .i64 DD.vC, .slice x8 DD.vP.length y8, .slice x9 DD.needs.length y9] DD → shEntryO.lies (Ow l2 h2) W [.string DD.name, .int .i64 DD.vA, .int .i64 DD.vB, .int .i64 DD.vC, .slice u8 DD.vP.length v8, .slice u9 DD.needs.length v9] DD → h1 ≤ W.heap.size → h2 ≤ W.heap.size → Calls Tryd.prog 16 #[.agg #[.string DD.name, .int .i64 DD.vA, .int .i64 DD.vB, .int .i64 DD.vC, .slice x8 DD.vP.length y8, .slice x9 DD.needs.length y9], .agg #[.string DD.name, .int .i64 DD.vA, .int .i64 DD.vB, .int .i64 DD.vC, .slice u8 DD.vP.length v8, .slice u9 DD.needs.length v9]] W fun e w' => e = .returned (.bool true) ∧ Below W.heap.size W w') := fun W x8 y8 x9 y9 u8 v8 u9 v9 l1 h1 l2 h2 a b c d => eqEntry_c (Ow l1 h1) (Ow l2 h2) DD _ _ W (liesEntry_plain a) (liesEntry_plain b) (fun b hb => Nat.lt_of_lt_of_le hb.2 c) (fun b hb => Nat.lt_of_lt_of_le hb.2 d) hwD
  have HES : Hid (∀ W g g' l1 h1 {l2 h2 : Nat}, RowOwn shEntryO 42 (Ow l1 h1) W (.slice (some ⟨g, 0, none⟩) z0.length z0.length) z0 → h1 ≤ W.heap.size → RowOwn shEntryO 42 (Ow l2 h2) W (.slice (some ⟨g', 0, none⟩) z0.length z0.length) z0 → h2 ≤ W.heap.size → Calls Tryd.prog 17 #[.slice (some ⟨g, 0, none⟩) z0.length z0.length, .slice (some ⟨g', 0, none⟩) z0.length z0.length] W fun e w' => e = .returned (.bool true) ∧ Below W.heap.size W w') := fun W g g' l1 h1 l2 h2 a c b d => eqEntryS_c (Ow l1 h1) (Ow l2 h2) _ _ z0 W (RowIn.as (sh := shEntryO) (sh' := shEntry) rfl (fun S w cs x h => liesEntry_plain h) a.plain) (RowIn.as (sh := shEntryO) (sh' := shEntry) rfl (fun S w cs x h => liesEntry_plain h) b.plain) (fun b hb => Nat.lt_of_lt_of_le hb.2 c) (fun b hb => Nat.lt_of_lt_of_le hb.2 d) hwt
  have HEV : Hid (∀ W g g', Reads W (.slice (some ⟨g, 0, none⟩) z2.length z2.length) (strsV z2) → Reads W (.slice (some ⟨g', 0, none⟩) z2.length z2.length) (strsV z2) → Calls Tryd.prog 18 #[.agg #[.int .i64 xa2, .int .i64 xb2, .int .i64 xc2, .slice (some ⟨g, 0, none⟩) z2.length z2.length], .agg #[.int .i64 xa2, .int .i64 xb2, .int .i64 xc2, .slice (some ⟨g', 0, none⟩) z2.length z2.length]] W fun e w' => e = .returned (.bool true) ∧ Below W.heap.size W w') := fun W g g' a b => eqVer_c _ _ _ _ _ z2 W a b hn2
  have hcE := cntEs_wt z0
  obtain ⟨K1, hK1⟩ : ∃ K, K = 1 + cntEs z0 := ⟨_, rfl⟩
  have hK1b : 1 ≤ K1 ∧ K1 ≤ 4194305 := by omega
  have HMX : Hid (∀ W g l h, RowOwn shEntryO 42 (Ow l h) W (.slice (some ⟨g, 0, none⟩) z0.length z0.length) z0 → Calls Tryd.prog 19 #[.slice (some ⟨g, 0, none⟩) z0.length z0.length, .int .i64 1] W fun e w' => e = .returned (.int .i64 (K1 : Int)) ∧ Chg (Ow l h) W w') := fun W g l h a => by rw [hK1]; exact markEntryS_c (Ow l h) _ z0 1 W a (Nat.le_refl _) (by omega)
  obtain ⟨K2, hK2⟩ : ∃ K, K = K1 + z2.length := ⟨_, rfl⟩
  have HMV : Hid (∀ W g, W.ownsRow 0 9 1 (.slice (some ⟨g, 0, none⟩) z2.length z2.length) z2.length (strsV z2) → Calls Tryd.prog 20 #[.agg #[.int .i64 xa2, .int .i64 xb2, .int .i64 xc2, .slice (some ⟨g, 0, none⟩) z2.length z2.length], .int .i64 (K1 : Int)] W fun e w' => e = .returned (.int .i64 (K2 : Int)) ∧ w'.ownsRow 0 9 1 (.slice (some ⟨g, 0, none⟩) z2.length z2.length) z2.length (strsV (marksS K1 z2.length)) ∧ W.grownBy w' (Value.ownBlock (.slice (some ⟨g, 0, none⟩) z2.length z2.length))) := fun W g a => by rw [hK2]; exact markVerE_c _ _ _ _ 0 z2.length K1 _ W a hK1b.1 (by omega) (Nat.zero_le _)
  have hDl : DD.vP.length ≤ 1048576 ∧ DD.needs.length ≤ 1048576 := by
    have h9 := len_wtRow wtNeed DD.needs
    unfold wtEntry bulkS at hwD
    omega
  obtain ⟨M1, hM1⟩ : ∃ K, K = 1 + DD.vP.length + DD.needs.length * 2 := ⟨_, rfl⟩
  have HMG : Hid (∀ W x8 y8 x9 y9 l h (z0 z1 : List Value), W.ownsRow 0 9 1 (.slice x8 DD.vP.length y8) DD.vP.length z0 → W.ownsRow 0 106 2 (.slice x9 DD.needs.length y9) DD.needs.length z1 → (∀ g, (Value.slice x8 DD.vP.length y8).ownBlock = some g → Ow l h g) → (∀ g, (Value.slice x9 DD.needs.length y9).ownBlock = some g → Ow l h g) → Calls Tryd.prog 21 #[.agg #[.string DD.name, .int .i64 DD.vA, .int .i64 DD.vB, .int .i64 DD.vC, .slice x8 DD.vP.length y8, .slice x9 DD.needs.length y9], .int .i64 1] W fun e w' => e = .returned (.int .i64 (M1 : Int)) ∧ w'.ownsRow 0 9 1 (.slice x8 DD.vP.length y8) DD.vP.length (strsV (marksS 1 DD.vP.length)) ∧ w'.ownsRow 0 106 2 (.slice x9 DD.needs.length y9) DD.needs.length (strsV (marksS (1 + DD.vP.length) (DD.needs.length * 2))) ∧ Chg (Ow l h) W w') := fun W x8 y8 x9 y9 l h z0 z1 a b c d => by rw [hM1]; exact markEntry_c (Ow l h) _ _ _ _ _ _ _ _ 1 _ _ W a b c d (Nat.le_refl _) (by omega)
  have HHG : Hid (∀ W x8 y8 x9 y9, W.ownsRow 0 9 1 (.slice x8 DD.vP.length y8) DD.vP.length (strsV (marksS 1 DD.vP.length)) → W.ownsRow 0 106 2 (.slice x9 DD.needs.length y9) DD.needs.length (strsV (marksS (1 + DD.vP.length) (DD.needs.length * 2))) → Calls Tryd.prog 22 #[.agg #[.string DD.name, .int .i64 DD.vA, .int .i64 DD.vB, .int .i64 DD.vC, .slice x8 DD.vP.length y8, .slice x9 DD.needs.length y9], .int .i64 1] W fun e w' => e = .returned (.int .i64 (M1 : Int)) ∧ Below W.heap.size W w') := fun W x8 y8 x9 y9 a b => by rw [hM1]; exact heldEntry_c _ _ _ _ _ _ _ _ 1 W a b (Nat.le_refl _) (by omega)
  have hK2n : ¬ (K2 : Int) < 0 := by omega
  have hM1n : ¬ (M1 : Int) < 0 := by omega
  obtain ⟨IS, hIS⟩ : ∃ b, b = FF.isSome := ⟨_, rfl⟩
  simp only [← hIS] at HSP HIM
  clear hK1 hK2 hM1 hcE hK1b hDl hwD hIS hwf0 w1s hA2 hB2 hC2
  go_enter Tryd.func4, Tryd.ntmps4
  go_wp2_with fail
  go_at_call 10
  refine (HZ0.out _ (hbx _)).mono ?_
  rintro e wy ⟨rfl, by1⟩
  have ky := (hbx (.cells #[.int .i64 xa2, .int .i64 xb2, .int .i64 xc2, .slice q2 z2.length cap2] 36 (0, 0))).trans (by1.mono (hbx _).size)
  have hAy := box_below hAv by1
  have x0 := vblk_cell hAy 0
  have x1 := vblk_cell hAy 1
  have x2 := vblk_cell hAy 2
  have x3 := vblk_cell hAy 3
  simp only [List.getElem?_toArray, List.getElem?_cons_succ, List.getElem?_cons_zero] at x0 x1 x2 x3
  go_wp2_with fail
  go_at_call 11
  refine (HZ1.out _ ky).mono ?_
  rintro e wz ⟨rfl, bz⟩
  have hwz := ky.trans (bz.mono ky.size)
  have hAz := box_below hAy bz
  clear x0 x1 x2 x3 hAv hAy by1 bz ky HZ0 HZ1
  go_wp2_with fail
  have hNz : w.heap.size < wz.heap.size := (Array.getElem?_eq_some_iff.1 hAz).1
  have h0 : Below wz.heap.size wz wz.drew := (Below.refl _ _).drew
  have KEEP : Hid (∀ w1, Below wz.heap.size wz w1 → w1.cell? ⟨w.heap.size, 0, none⟩ = some (.int .i64 xa2) ∧ w1.cell? ⟨w.heap.size, 1, none⟩ = some (.int .i64 xb2) ∧ w1.cell? ⟨w.heap.size, 2, none⟩ = some (.int .i64 xc2) ∧ w1.cell? ⟨w.heap.size, 3, none⟩ = some (.slice q2 z2.length cap2)) := fun w1 h => by
    have hA := box_below hAz h
    exact ⟨vblk_cell hA 0, vblk_cell hA 1, vblk_cell hA 2, vblk_cell hA 3⟩
  have HT0w := HT0
  have HT1w := HT1
  have HSPw := HSP
  have HIMw := HIM
  replace HT0 := hidden (fun w1 (h : Below wz.heap.size wz w1) => HT0w.out w1 (hwz.trans (h.mono hwz.size)))
  replace HT1 := hidden (fun w1 (h : Below wz.heap.size wz w1) => HT1w.out w1 (hwz.trans (h.mono hwz.size)))
  replace HSP := hidden (fun w1 g g' {lo lo' : Nat} (h : Below wz.heap.size wz w1) => HSPw.out w1 g g' lo lo' (hwz.trans (h.mono hwz.size)))
  refine wp_region_held_drew (S := (fun w1 => w1.cell? ⟨w.heap.size, 0, none⟩ = some (.int .i64 xa2) ∧ w1.cell? ⟨w.heap.size, 1, none⟩ = some (.int .i64 xb2) ∧ w1.cell? ⟨w.heap.size, 2, none⟩ = some (.int .i64 xc2) ∧ w1.cell? ⟨w.heap.size, 3, none⟩ = some (.slice q2 z2.length cap2))) (by kernel_rfl) ?S1 (fun hHeld => ?_)
  case S1 => (exact KEEP.out _ h0)
  refine wpAnyH_take (i := 0) (oi := _) (v := ?vT2) rfl (by kernel_rfl) (by kernel_rfl) (by kernel_rfl) (fun _ _ _ h => h) (Or.inl ⟨by rfl, ?yT2⟩) hHeld ?_
  case yT2 => (intro w hSw; (try dsimp only at hSw); go_simp <;> with_reducible rfl)
  try simp only [Act.put, List.getElem_toArray, List.getElem_cons_zero, List.getElem_cons_succ, List.setIfInBounds_toArray, List.set_cons_zero, List.set_cons_succ]
  refine wpAnyH_take (i := 2) (oi := _) (v := ?vT3) rfl (by kernel_rfl) (by kernel_rfl) (by kernel_rfl) (fun _ _ _ h => h) (Or.inl ⟨by rfl, ?yT3⟩) hHeld ?_
  case yT3 => (intro w hSw; (try dsimp only at hSw); go_simp <;> with_reducible rfl)
  try simp only [Act.put, List.getElem_toArray, List.getElem_cons_zero, List.getElem_cons_succ, List.setIfInBounds_toArray, List.set_cons_zero, List.set_cons_succ]
  refine wpAnyH_take (i := 3) (oi := _) (v := ?vT4) rfl (by kernel_rfl) (by kernel_rfl) (by kernel_rfl) (fun _ _ _ h => h) (Or.inl ⟨by rfl, ?yT4⟩) hHeld ?_
  case yT4 => (intro w hSw; (try dsimp only at hSw); go_simp <;> with_reducible rfl)
  try simp only [Act.put, List.getElem_toArray, List.getElem_cons_zero, List.getElem_cons_succ, List.setIfInBounds_toArray, List.set_cons_zero, List.set_cons_succ]
  obtain ⟨wd, hwd⟩ : ∃ wd, wd = wz.drew := ⟨_, rfl⟩
  rw [← hwd] at h0
  rw [← hwd]
  clear hwd
  refine as_phiE (fun Φ hΦ => ?_)
  have FIN : Hid (∀ (W : World) (g8 gE gV : Nat) (q8 : Option Addr) (c8 : Nat) (q9 : Option Addr) (c9 lo hi : Nat), Below wz.heap.size wz W → W.heap[g8]? = some (.cells #[.string ⟨#[]⟩, .int .i64 0, .int .i64 0, .int .i64 0, .slice none 0 0, .slice none 0 0] 42 (0, 0)) → wz.heap.size ≤ g8 → shEntryO.lies (Ow lo hi) W [.string DD.name, .int .i64 DD.vA, .int .i64 DD.vB, .int .i64 DD.vC, .slice q8 DD.vP.length c8, .slice q9 DD.needs.length c9] DD → wz.heap.size ≤ lo → hi ≤ W.heap.size → ¬ Ow lo hi g8 → Φ 2 #[true, true, true, true, true, true, true, true, true, true, false, false] { tmps := #[Value.slice q0 z0.length cap0, Value.string a1, Value.agg #[Value.int IntKind.i64 xa2, Value.int IntKind.i64 xb2, Value.int IntKind.i64 xc2, Value.slice q2 z2.length cap2], undef, undef, Value.pointer (some { block := w.heap.size, off := 0 }), Value.bool false, Value.int IntKind.i64 pp, Value.pointer (some { block := g8, off := 0 }), undef, undef, undef, undef, undef, undef, undef, undef, undef, undef, Value.string a1, Value.int IntKind.i64 ↑a1.size, Value.bool false, Value.slice q0 z0.length cap0, Value.int IntKind.i64 1048576, Value.int IntKind.i64 p, Value.int IntKind.i64 p, Value.bool (decide (p < 0)), Value.agg #[Value.int IntKind.i64 xa2, Value.int IntKind.i64 xb2, Value.int IntKind.i64 xc2, Value.slice q2 z2.length cap2], Value.int IntKind.i64 p, Value.int IntKind.i64 pp, Value.int IntKind.i64 pp, Value.bool (decide (pp < 0)), Value.tuple #[Value.agg #[Value.string DD.name, Value.int IntKind.i64 DD.vA, Value.int IntKind.i64 DD.vB, Value.int IntKind.i64 DD.vC, Value.slice q8 DD.vP.length c8, Value.slice q9 DD.needs.length c9], Value.bool IS], Value.slice q0 z0.length cap0, Value.slice (some { block := gE, off := 0 }) z0.length z0.length, Value.string a1, Value.agg #[Value.int IntKind.i64 xa2, Value.int IntKind.i64 xb2, Value.int IntKind.i64 xc2, Value.slice q2 z2.length cap2], Value.agg #[Value.int IntKind.i64 xa2, Value.int IntKind.i64 xb2, Value.int IntKind.i64 xc2, Value.slice (some { block := gV, off := 0 }) z2.length z2.length], Value.tuple #[Value.agg #[Value.string DD.name, Value.int IntKind.i64 DD.vA, Value.int IntKind.i64 DD.vB, Value.int IntKind.i64 DD.vC, Value.slice q8 DD.vP.length c8, Value.slice q9 DD.needs.length c9], Value.bool IS], Value.agg #[Value.string DD.name, Value.int IntKind.i64 DD.vA, Value.int IntKind.i64 DD.vB, Value.int IntKind.i64 DD.vC, Value.slice q8 DD.vP.length c8, Value.slice q9 DD.needs.length c9], Value.bool IS, undef, undef, undef, undef, undef, undef, undef, undef, undef, undef, undef, undef, undef, undef, undef, undef, undef, undef, undef, undef, undef, undef, undef, undef, undef, undef, undef, undef, undef, undef, undef, undef, undef, undef, undef, undef, undef, undef, undef, undef, undef, undef, undef, undef, undef, undef, undef, undef, undef, undef, undef, undef, undef, undef, undef, undef, undef, undef, undef, undef, undef, undef, undef, undef, undef, undef, undef, undef, undef, undef, undef, undef, undef, undef, undef, undef, undef, undef, undef, undef, undef, undef, undef, undef, undef, undef], defers := [] } W) := by
    intro W g8 gE gV q8 c8 q9 c9 lo hi hX hg8 hge8 lie8 hlz hhz hgn
    rw [hΦ]
    have hHeld := KEEP.out _ hX
    clear hΦ
    have fy := vblk_frozen hg8
    have y0 := vblk_cell hg8 0
    have y1 := vblk_cell hg8 1
    have y2 := vblk_cell hg8 2
    have y3 := vblk_cell hg8 3
    have y4 := vblk_cell hg8 4
    have y5 := vblk_cell hg8 5
    simp only [List.getElem?_toArray, List.getElem?_cons_succ, List.getElem?_cons_zero] at y0 y1 y2 y3 y4 y5
    refine wpAnyH_ready (rs := [10]) (by kernel_rfl) (by simp) ?_
    refine AllReadyH.cons rfl (fun K hK => ?_) AllReadyH.nil
    go_simp
    clear hHeld
    refine hK.out _ _ ?U5 (fun hHeld => ?_)
    case U5 => (have hA3 := box_below hAz hX; exact ⟨vblk_cell (cells_put (cells_put (cells_put (cells_put (cells_put (cells_put hA3 (by omega) _ _) (by omega) _ _) (by omega) _ _) (by omega) _ _) (by omega) _ _) (by omega) _ _) 0, vblk_cell (cells_put (cells_put (cells_put (cells_put (cells_put (cells_put hA3 (by omega) _ _) (by omega) _ _) (by omega) _ _) (by omega) _ _) (by omega) _ _) (by omega) _ _) 1, vblk_cell (cells_put (cells_put (cells_put (cells_put (cells_put (cells_put hA3 (by omega) _ _) (by omega) _ _) (by omega) _ _) (by omega) _ _) (by omega) _ _) (by omega) _ _) 2, vblk_cell (cells_put (cells_put (cells_put (cells_put (cells_put (cells_put hA3 (by omega) _ _) (by omega) _ _) (by omega) _ _) (by omega) _ _) (by omega) _ _) (by omega) _ _) 3⟩)
    clear hK K
    try simp only [Act.put, List.getElem_toArray, List.getElem_cons_zero, List.getElem_cons_succ, List.setIfInBounds_toArray, List.set_cons_zero, List.set_cons_succ]
    refine wpAnyH_take (i := 11) (oi := _) (v := ?vT6) rfl (by kernel_rfl) (by kernel_rfl) (by kernel_rfl) (fun _ _ _ h => h) (Or.inl ⟨by rfl, ?yT6⟩) hHeld ?_
    case yT6 => (intro w hSw; (try dsimp only at hSw); go_simp <;> with_reducible rfl)
    try simp only [Act.put, List.getElem_toArray, List.getElem_cons_zero, List.getElem_cons_succ, List.setIfInBounds_toArray, List.set_cons_zero, List.set_cons_succ]
    refine wpAnyH_done (by kernel_rfl) ?_ _
    clear hHeld
    obtain ⟨wY, hWY⟩ : ∃ wY, wY = ((((((W.setCell ⟨g8, 0, none⟩ (.string DD.name)).setCell ⟨g8, 1, none⟩ (.int .i64 DD.vA)).setCell ⟨g8, 2, none⟩ (.int .i64 DD.vB)).setCell ⟨g8, 3, none⟩ (.int .i64 DD.vC)).setCell ⟨g8, 4, none⟩ (.slice q8 DD.vP.length c8)).setCell ⟨g8, 5, none⟩ (.slice q9 DD.needs.length c9)) := ⟨_, rfl⟩
    rw [← hWY]
    have hY : Below wz.heap.size wz wY := by rw [hWY]; (repeat (refine Below.setCell ?_ (by simp; omega) _)); exact hX
    have hb8 : wY.heap[g8]? = some (.cells #[.string DD.name, .int .i64 DD.vA, .int .i64 DD.vB, .int .i64 DD.vC, .slice q8 DD.vP.length c8, .slice q9 DD.needs.length c9] 42 (0, 0)) := by
      rw [hWY]
      have h6 := heap_setCell_same _ g8 5 _ _ (.slice q9 DD.needs.length c9) (heap_setCell_same _ g8 4 _ _ (.slice q8 DD.vP.length c8) (heap_setCell_same _ g8 3 _ _ (.int .i64 DD.vC) (heap_setCell_same _ g8 2 _ _ (.int .i64 DD.vB) (heap_setCell_same _ g8 1 _ _ (.int .i64 DD.vA) (heap_setCell_same _ g8 0 _ _ (.string DD.name) hg8)))))
      simpa only [List.setIfInBounds_toArray, List.set_cons_succ, List.set_cons_zero] using h6
    have hsY : wY.heap.size = W.heap.size := by rw [hWY]; simp [World.setCell]
    have lieY : shEntryO.lies (Ow lo hi) wY [.string DD.name, .int .i64 DD.vA, .int .i64 DD.vB, .int .i64 DD.vC, .slice q8 DD.vP.length c8, .slice q9 DD.needs.length c9] DD := by
      refine shEntryO.keep (S := Ow lo hi) ?_ lie8
      rw [hWY]
      (repeat (refine Kp.trans ?_ (Kp.set hgn)))
      exact fun b hb => rfl
    clear hWY y0 y1 y2 y3 y4 y5 fy hg8 hX lie8
    have hYw := hwz.trans (hY.mono hwz.size)
    have hAY := box_below hAz hY
    have h8Y := (Array.getElem?_eq_some_iff.1 hb8).1
    have hhY : hi ≤ wY.heap.size := by omega
    have hsz1 := hY.size
    clear hY hsY hhz
    go_wp2_with fail
    go_at_call 13
    refine (HT0w.out _ hYw).mono ?_
    rintro e wX ⟨gX, rfl, rowX, bX⟩
    have kX := hYw.trans (bX.mono hYw.size)
    have hAX := box_below hAY bX
    have x0 := vblk_cell hAX 0
    have x1 := vblk_cell hAX 1
    have x2 := vblk_cell hAX 2
    have x3 := vblk_cell hAX 3
    simp only [List.getElem?_toArray, List.getElem?_cons_succ, List.getElem?_cons_zero] at x0 x1 x2 x3
    go_wp2_with fail
    go_at_call 14
    refine (HT1w.out _ kX).mono ?_
    rintro e wU ⟨gU, rfl, rU, bU⟩
    have kU := kX.trans (bU.mono kX.size)
    have kV : Below wU.heap.size wU (wU.alloc (.cells #[.int .i64 xa2, .int .i64 xb2, .int .i64 xc2, .slice (some ⟨gU, 0, none⟩) z2.length z2.length] 39 (0, 0))) := (Below.refl _ _).alloc (Nat.le_refl _) _
    have kUV := kU.trans (kV.mono kU.size)
    have hV11 : (wU.alloc (.cells #[.int .i64 xa2, .int .i64 xb2, .int .i64 xc2, .slice (some ⟨gU, 0, none⟩) z2.length z2.length] 39 (0, 0))).heap[wU.heap.size]? = some (.cells #[.int .i64 xa2, .int .i64 xb2, .int .i64 xc2, .slice (some ⟨gU, 0, none⟩) z2.length z2.length] 39 (0, 0)) := vheap_new _ _
    clear x0 x1 x2 x3
    go_wp2_with fail
    go_at_call 15
    refine (HIMw.out _ gX gU _ _ kUV ((rowX.grow bU).grow kV) (rU.grow kV)).mono ?_
    rintro e wI ⟨qa, ca, qb, cb, lo3, hi3, rfl, lieI, hlo3, hhi3, bI⟩
    have kJ : Below wI.heap.size wI (wI.alloc (.cells #[.string DD.name, .int .i64 DD.vA, .int .i64 DD.vB, .int .i64 DD.vC, .slice qa DD.vP.length ca, .slice qb DD.needs.length cb] 42 (0, 0))) := (Below.refl _ _).alloc (Nat.le_refl _) _
    have bUI : Below wU.heap.size wU wI := kV.trans (bI.mono kV.size)
    have bXI : Below wX.heap.size wX wI := bU.trans (bUI.mono bU.size)
    have bYI : Below wY.heap.size wY wI := bX.trans (bXI.mono bX.size)
    have kI : Below w.heap.size w wI := hYw.trans (bYI.mono hYw.size)
    have h8I := box_below hb8 bYI
    have hlt8 : g8 < wI.heap.size := (Array.getElem?_eq_some_iff.1 h8I).1
    have sz1 := bX.size
    have sz2 := bU.size
    have sz3 : wU.heap.size < (wU.alloc (.cells #[.int .i64 xa2, .int .i64 xb2, .int .i64 xc2, .slice (some ⟨gU, 0, none⟩) z2.length z2.length] 39 (0, 0))).heap.size := by simp
    have sz4 := bI.size
    have AJ : AllE w.heap.size g8 wU.heap.size wI.heap.size lo hi wY.heap.size wX.heap.size wX.heap.size wU.heap.size lo3 hi3 (.cells #[.int .i64 xa2, .int .i64 xb2, .int .i64 xc2, .slice q2 z2.length cap2] 36 (0, 0)) (.cells #[.string DD.name, .int .i64 DD.vA, .int .i64 DD.vB, .int .i64 DD.vC, .slice q8 DD.vP.length c8, .slice q9 DD.needs.length c9] 42 (0, 0)) (.cells #[.int .i64 xa2, .int .i64 xb2, .int .i64 xc2, .slice (some ⟨gU, 0, none⟩) z2.length z2.length] 39 (0, 0)) (.cells #[.string DD.name, .int .i64 DD.vA, .int .i64 DD.vB, .int .i64 DD.vC, .slice qa DD.vP.length ca, .slice qb DD.needs.length cb] 42 (0, 0)) [.string DD.name, .int .i64 DD.vA, .int .i64 DD.vB, .int .i64 DD.vC, .slice q8 DD.vP.length c8, .slice q9 DD.needs.length c9] [.string DD.name, .int .i64 DD.vA, .int .i64 DD.vB, .int .i64 DD.vC, .slice qa DD.vP.length ca, .slice qb DD.needs.length cb] (.slice (some ⟨gX, 0, none⟩) z0.length z0.length) (.slice (some ⟨gU, 0, none⟩) z2.length z2.length) z0 z2 DD (wI.alloc (.cells #[.string DD.name, .int .i64 DD.vA, .int .i64 DD.vB, .int .i64 DD.vC, .slice qa DD.vP.length ca, .slice qb DD.needs.length cb] 42 (0, 0))) :=
      ⟨⟨box_below (box_below hAY bYI) kJ, box_below h8I kJ, vheap_new _ _, lies_below lieY hhY (bYI.trans (kJ.mono bYI.size)), by have := kJ.size; omega⟩, box_below (box_below hV11 bI) kJ, lies_below lieI (by omega) kJ, RowOwn.keep (Ow.below (bXI.trans (kJ.mono bXI.size))) rowX, StrsOwn.keep (Ow.below (bUI.trans (kJ.mono bUI.size))) rU, by have := kJ.size; omega, by have := kJ.size; omega, by have := kJ.size; omega⟩
    have kJw := kI.trans (kJ.mono kI.size)
    have y0 := vblk_cell h8I 0
    have y1 := vblk_cell h8I 1
    have y2 := vblk_cell h8I 2
    have y3 := vblk_cell h8I 3
    have y4 := vblk_cell h8I 4
    have y5 := vblk_cell h8I 5
    simp only [List.getElem?_toArray, List.getElem?_cons_succ, List.getElem?_cons_zero] at y0 y1 y2 y3 y4 y5
    clear hAX bX bU kX kU kV kUV hV11 rowX rU lieI bI bUI bXI bYI lieY hb8 hAY
    go_wp2_with fail
    go_at_call 16
    refine (HEQ.out _ qa ca qb cb q8 c8 q9 c9 _ _ _ _ AJ.l12 AJ.st.l8 AJ.b3 AJ.st.hh).mono ?_
    rintro e wK ⟨rfl, bK⟩
    have AK := AJ.below bK
    have kK := kJw.trans (bK.mono kJw.size)
    obtain ⟨B12, hB12⟩ : ∃ b, b = wI.heap.size := ⟨_, rfl⟩
    obtain ⟨B11, hB11⟩ : ∃ b, b = wU.heap.size := ⟨_, rfl⟩
    obtain ⟨lo1, hlo1⟩ : ∃ b, b = wY.heap.size := ⟨_, rfl⟩
    obtain ⟨hi1, hhi1⟩ : ∃ b, b = wX.heap.size := ⟨_, rfl⟩
    rw [← hB12, ← hB11, ← hlo1, ← hhi1] at AK
    rw [← hB12, ← hB11]
    have o1 : w.heap.size < lo1 := by omega
    have o2 : g8 < lo1 := by omega
    have o3 : hi ≤ lo1 := by omega
    have o4 : lo1 ≤ hi1 := by omega
    have o5 : hi1 ≤ B11 := by omega
    have o6 : B11 < lo3 := by omega
    have o7 : lo3 ≤ hi3 := by omega
    have o8 : hi3 ≤ B12 := by omega
    clear hB12 hB11 hlo1 hhi1 hlo3 hhi3 AJ bK kJ kJw kI h8I hlt8 sz1 sz2 sz3 sz4 y0 y1 y2 y3 y4 y5 h8Y hhY hsz1 hYw
    go_wp2_with fail
    go_at_call 13
    refine (HT0w.out _ kK).mono ?_
    rintro e wL ⟨gL, rfl, rowL, bL⟩
    have AL := AK.below bL
    have kL := kK.trans (bL.mono kK.size)
    clear AK bL kK
    go_wp2_with fail
    go_at_call 17
    refine (HES.out _ gX gL _ _ AL.rx AL.b1 rowL (Nat.le_refl _)).mono ?_
    rintro e wM ⟨rfl, bM⟩
    have AM := AL.below bM
    have kM := kL.trans (bM.mono kL.size)
    clear AL bM kL rowL
    go_wp2_with fail
    have dM : Below wM.heap.size wM wM.drew := (Below.refl _ _).drew
    refine wp_region_held_drew (S := (fun w' => (w'.cell? ⟨w.heap.size, 0, none⟩ = some (.int .i64 xa2) ∧ w'.cell? ⟨w.heap.size, 1, none⟩ = some (.int .i64 xb2) ∧ w'.cell? ⟨w.heap.size, 2, none⟩ = some (.int .i64 xc2) ∧ w'.cell? ⟨w.heap.size, 3, none⟩ = some (.slice q2 z2.length cap2)) ∧ w'.cell? ⟨B11, 0, none⟩ = some (.int .i64 xa2) ∧ w'.cell? ⟨B11, 1, none⟩ = some (.int .i64 xb2) ∧ w'.cell? ⟨B11, 2, none⟩ = some (.int .i64 xc2) ∧ w'.cell? ⟨B11, 3, none⟩ = some (.slice (some ⟨gU, 0, none⟩) z2.length z2.length))) (by kernel_rfl) ?SR10 (fun hHeld => ?_)
    case SR10 => (first | exact ⟨⟨vblk_cell (AM.below dM).st.hA 0, vblk_cell (AM.below dM).st.hA 1, vblk_cell (AM.below dM).st.hA 2, vblk_cell (AM.below dM).st.hA 3⟩, vblk_cell (AM.below dM).h11 0, vblk_cell (AM.below dM).h11 1, vblk_cell (AM.below dM).h11 2, vblk_cell (AM.below dM).h11 3⟩ | exact ⟨⟨vblk_cell AN.st.hA 0, vblk_cell AN.st.hA 1, vblk_cell AN.st.hA 2, vblk_cell AN.st.hA 3⟩, vblk_cell AN.h11 0, vblk_cell AN.h11 1, vblk_cell AN.h11 2, vblk_cell AN.h11 3⟩ | exact ⟨⟨vblk_cell AO.st.hA 0, vblk_cell AO.st.hA 1, vblk_cell AO.st.hA 2, vblk_cell AO.st.hA 3⟩, vblk_cell AO.h11 0, vblk_cell AO.h11 1, vblk_cell AO.h11 2, vblk_cell AO.h11 3⟩)
    refine wpAnyH_take (i := 0) (oi := _) (v := ?vR10) rfl (by kernel_rfl) (by kernel_rfl) (by kernel_rfl) (fun _ _ _ h => h) (Or.inl ⟨by rfl, ?yR10⟩) hHeld ?_
    case yR10 => (intro w hSw; (try dsimp only at hSw); go_simp <;> with_reducible rfl)
    try simp only [Act.put, List.getElem_toArray, List.getElem_cons_zero, List.getElem_cons_succ, List.setIfInBounds_toArray, List.set_cons_zero, List.set_cons_succ]
    refine wpAnyH_take (i := 1) (oi := _) (v := ?vR11) rfl (by kernel_rfl) (by kernel_rfl) (by kernel_rfl) (fun _ _ _ h => h) (Or.inl ⟨by rfl, ?yR11⟩) hHeld ?_
    case yR11 => (intro w hSw; (try dsimp only at hSw); go_simp <;> with_reducible rfl)
    try simp only [Act.put, List.getElem_toArray, List.getElem_cons_zero, List.getElem_cons_succ, List.setIfInBounds_toArray, List.set_cons_zero, List.set_cons_succ]
    refine wpAnyH_ready (rs := [2]) (by kernel_rfl) (by simp) ?_
    refine AllReadyH.cons rfl (fun K hK => ?_) AllReadyH.nil
    go_simp
    go_wp2_with (go_at_call 14; refine (HT1w.out _ (kM.trans (dM.mono kM.size))).mono ?_; rintro e wN ⟨gN, rfl, rN, bN⟩; have AN := (AM.below dM).below bN; have kN := (kM.trans (dM.mono kM.size)).trans (bN.mono kM.size))
    clear hHeld
    refine hK.out _ _ ?SR13 (fun hHeld => ?_)
    case SR13 => ((try dsimp only); first | exact ⟨⟨vblk_cell (AM.below dM).st.hA 0, vblk_cell (AM.below dM).st.hA 1, vblk_cell (AM.below dM).st.hA 2, vblk_cell (AM.below dM).st.hA 3⟩, vblk_cell (AM.below dM).h11 0, vblk_cell (AM.below dM).h11 1, vblk_cell (AM.below dM).h11 2, vblk_cell (AM.below dM).h11 3⟩ | exact ⟨⟨vblk_cell AN.st.hA 0, vblk_cell AN.st.hA 1, vblk_cell AN.st.hA 2, vblk_cell AN.st.hA 3⟩, vblk_cell AN.h11 0, vblk_cell AN.h11 1, vblk_cell AN.h11 2, vblk_cell AN.h11 3⟩ | exact ⟨⟨vblk_cell AO.st.hA 0, vblk_cell AO.st.hA 1, vblk_cell AO.st.hA 2, vblk_cell AO.st.hA 3⟩, vblk_cell AO.h11 0, vblk_cell AO.h11 1, vblk_cell AO.h11 2, vblk_cell AO.h11 3⟩)
    clear hK K
    refine wpAnyH_ready (rs := [3]) (by kernel_rfl) (by simp) ?_
    refine AllReadyH.cons rfl (fun K hK => ?_) AllReadyH.nil
    go_simp
    go_wp2_with (go_at_call 18; refine (HEV.out _ gU gN (reads_of_owns AN.r2.1) rN.reads).mono ?_; rintro e wO ⟨rfl, bO⟩; have AO := AN.below bO; have kO := kN.trans (bO.mono kN.size))
    clear hHeld
    refine hK.out _ _ ?SR14 (fun hHeld => ?_)
    case SR14 => ((try dsimp only); first | exact ⟨⟨vblk_cell (AM.below dM).st.hA 0, vblk_cell (AM.below dM).st.hA 1, vblk_cell (AM.below dM).st.hA 2, vblk_cell (AM.below dM).st.hA 3⟩, vblk_cell (AM.below dM).h11 0, vblk_cell (AM.below dM).h11 1, vblk_cell (AM.below dM).h11 2, vblk_cell (AM.below dM).h11 3⟩ | exact ⟨⟨vblk_cell AN.st.hA 0, vblk_cell AN.st.hA 1, vblk_cell AN.st.hA 2, vblk_cell AN.st.hA 3⟩, vblk_cell AN.h11 0, vblk_cell AN.h11 1, vblk_cell AN.h11 2, vblk_cell AN.h11 3⟩ | exact ⟨⟨vblk_cell AO.st.hA 0, vblk_cell AO.st.hA 1, vblk_cell AO.st.hA 2, vblk_cell AO.st.hA 3⟩, vblk_cell AO.h11 0, vblk_cell AO.h11 1, vblk_cell AO.h11 2, vblk_cell AO.h11 3⟩)
    clear hK K
    refine wpAnyH_take (i := 4) (oi := _) (v := ?vR14) rfl (by kernel_rfl) (by kernel_rfl) (by kernel_rfl) (fun _ _ _ h => h) (Or.inl ⟨by rfl, ?yR14⟩) hHeld ?_
    case yR14 => (intro w hSw; (try dsimp only at hSw); go_simp <;> with_reducible rfl)
    try simp only [Act.put, List.getElem_toArray, List.getElem_cons_zero, List.getElem_cons_succ, List.setIfInBounds_toArray, List.set_cons_zero, List.set_cons_succ]
    refine wpAnyH_done (by kernel_rfl) ?_ _
    clear hHeld dM AM AN kM kN bN bO rN
    go_wp2_with fail
    go_at_call 19
    refine (HMX.out _ gX _ _ AO.rx).mono ?_
    rintro e wP ⟨rfl, cP⟩
    have sP := AO.st.chg cP (Ow.not (by omega)) (Ow.not (by omega)) (fun hh => by have := hh.2; omega) (fun b hb hh => by have := hb.2; have := hh.1; omega)
    have vP := (cP.block B11 (Array.getElem?_eq_some_iff.1 AO.h11).1 (fun hh => by have := hh.2; omega)).trans AO.h11
    have lP := lies_chg AO.l12 AO.b3 cP (fun b hb hh => by have := hb.1; have := hh.2; omega)
    have rP := AO.r2.keep (w' := wP) (fun b hb => cP.block b (Nat.lt_of_lt_of_le hb.2 AO.b2) (fun hh => by have := hb.1; have := hh.2; omega))
    have kP : Below w.heap.size w wP := below_chg kO cP (fun b hb => by have := hb.1; omega) kO.size
    have bP := Nat.le_trans AO.b3 cP.size
    clear AO kO cP
    have x0 := vblk_cell vP 0
    have x1 := vblk_cell vP 1
    have x2 := vblk_cell vP 2
    have x3 := vblk_cell vP 3
    simp only [List.getElem?_toArray, List.getElem?_cons_succ, List.getElem?_cons_zero] at x0 x1 x2 x3
    go_wp2_with fail
    go_at_call 20
    refine (HMV.out _ gU rP.1).mono ?_
    rintro e wQ ⟨rfl, _, gQ⟩
    have cQ : Chg (Ow hi1 B11) wP wQ := Chg.grown gQ (fun g hg => rP.2 g hg)
    have sQ := sP.chg cQ (Ow.not (by omega)) (Ow.not (by omega)) (fun hh => by have := hh.2; omega) (fun b hb hh => by have := hb.2; have := hh.1; omega)
    have lQ := lies_chg lP bP cQ (fun b hb hh => by have := hb.1; have := hh.2; omega)
    have kQ : Below w.heap.size w wQ := below_chg kP cQ (fun b hb => by have := hb.1; omega) kP.size
    have bQ := Nat.le_trans bP cQ.size
    clear sP lP rP kP bP gQ cQ vP x0 x1 x2 x3
    have y0 := vblk_cell sQ.h8 0
    have y1 := vblk_cell sQ.h8 1
    have y2 := vblk_cell sQ.h8 2
    have y3 := vblk_cell sQ.h8 3
    have y4 := vblk_cell sQ.h8 4
    have y5 := vblk_cell sQ.h8 5
    simp only [List.getElem?_toArray, List.getElem?_cons_succ, List.getElem?_cons_zero] at y0 y1 y2 y3 y4 y5
    have zq0 := vblk_cell sQ.h12 0
    have zq1 := vblk_cell sQ.h12 1
    have zq2 := vblk_cell sQ.h12 2
    have zq3 := vblk_cell sQ.h12 3
    have zq4 := vblk_cell sQ.h12 4
    have zq5 := vblk_cell sQ.h12 5
    simp only [List.getElem?_toArray, List.getElem?_cons_succ, List.getElem?_cons_zero] at zq0 zq1 zq2 zq3 zq4 zq5
    go_wp2_with fail
    go_at_call 16
    refine (HEQ.out _ qa ca qb cb q8 c8 q9 c9 _ _ _ _ lQ sQ.l8 bQ sQ.hh).mono ?_
    rintro e wR ⟨rfl, bR⟩
    have sR := sQ.below bR
    have lR := lies_below lQ bQ bR
    have kR := kQ.trans (bR.mono kQ.size)
    have hR3 := Nat.le_trans bQ bR.size
    clear sQ lQ kQ bQ bR y0 y1 y2 y3 y4 y5 zq0 zq1 zq2 zq3 zq4 zq5
    have zz0 := vblk_cell sR.h12 0
    have zz1 := vblk_cell sR.h12 1
    have zz2 := vblk_cell sR.h12 2
    have zz3 := vblk_cell sR.h12 3
    have zz4 := vblk_cell sR.h12 4
    have zz5 := vblk_cell sR.h12 5
    simp only [List.getElem?_toArray, List.getElem?_cons_succ, List.getElem?_cons_zero] at zz0 zz1 zz2 zz3 zz4 zz5
    obtain ⟨t0, t1, et, _, tr0, _, tr1⟩ := id lR
    simp only [List.cons.injEq, and_true, true_and] at et
    obtain ⟨et0, et1⟩ := et
    subst et0 et1
    obtain ⟨_, yN, oN, iN, _⟩ := tr1
    go_wp2_with fail
    go_at_call 21
    refine (HMG.out _ _ _ _ _ _ _ _ _ tr0.1 oN tr0.2 iN).mono ?_
    rintro e wS ⟨rfl, m0, m1, cS⟩
    have sS := sR.chg cS (Ow.not (by omega)) (Ow.not (by omega)) (fun hh => by have := hh.2; omega) (fun b hb hh => by have := hb.2; have := hh.1; omega)
    have kS : Below w.heap.size w wS := below_chg kR cS (fun b hb => by have := hb.1; omega) kR.size
    clear lR tr0 oN iN sR kR cS hR3 zz0 zz1 zz2 zz3 zz4 zz5
    have zz0 := vblk_cell sS.h12 0
    have zz1 := vblk_cell sS.h12 1
    have zz2 := vblk_cell sS.h12 2
    have zz3 := vblk_cell sS.h12 3
    have zz4 := vblk_cell sS.h12 4
    have zz5 := vblk_cell sS.h12 5
    simp only [List.getElem?_toArray, List.getElem?_cons_succ, List.getElem?_cons_zero] at zz0 zz1 zz2 zz3 zz4 zz5
    go_wp2_with fail
    go_at_call 22
    refine (HHG.out _ _ _ _ _ m0 m1).mono ?_
    rintro e wT ⟨rfl, bT⟩
    have sT := sS.below bT
    have kT := kS.trans (bT.mono kS.size)
    have n0 := owns_of_belowN m0 bT
    have n1 := owns_of_belowN m1 bT
    clear sS kS bT m0 m1 zz0 zz1 zz2 zz3 zz4 zz5
    go_upto_if 100 with (fail)
    go_cut [] (fun wc => wT = wc)
    case first =>
      go_wp2_with fail
      go_meet
      case rel => rfl
    case rest =>
      subst hcut
      go_wp2_with fail
      obtain ⟨wz, hwq⟩ : ∃ wq, wq = wT := ⟨_, rfl⟩
      rw [← hwq] at sT kT n0 n1
      rw [← hwq]
      clear hwq hAz hwz hNz KEEP HT0 HT1 HSP hge8 hlz
      have hwz := kT
      have hAz := sT.hA
      have hNz : w.heap.size < wz.heap.size := (Array.getElem?_eq_some_iff.1 hAz).1
      have h0 : Below wz.heap.size wz wz.drew := (Below.refl _ _).drew
      have KEEP : Hid (∀ w1, Below wz.heap.size wz w1 → w1.cell? ⟨w.heap.size, 0, none⟩ = some (.int .i64 xa2) ∧ w1.cell? ⟨w.heap.size, 1, none⟩ = some (.int .i64 xb2) ∧ w1.cell? ⟨w.heap.size, 2, none⟩ = some (.int .i64 xc2) ∧ w1.cell? ⟨w.heap.size, 3, none⟩ = some (.slice q2 z2.length cap2)) := fun w1 h => by
        have hA := box_below hAz h
        exact ⟨vblk_cell hA 0, vblk_cell hA 1, vblk_cell hA 2, vblk_cell hA 3⟩
      have HT0 := hidden (fun w1 (h : Below wz.heap.size wz w1) => HT0w.out w1 (hwz.trans (h.mono hwz.size)))
      have HT1 := hidden (fun w1 (h : Below wz.heap.size wz w1) => HT1w.out w1 (hwz.trans (h.mono hwz.size)))
      have HIM := hidden (fun w1 g g' {lo lo' : Nat} (h : Below wz.heap.size wz w1) => HIMw.out w1 g g' lo lo' (hwz.trans (h.mono hwz.size)))
      go_cut [17, 18] (fun v17 v18 wc => ∃ (g17 : Nat) (s8 : Option Addr) (d8 : Nat) (s9 : Option Addr) (d9 lo' hi' : Nat), v17 = .pointer (some ⟨g17, 0, none⟩) ∧ v18 = .bool IS ∧ wc.heap[g17]? = some (.cells #[.string DD.name, .int .i64 DD.vA, .int .i64 DD.vB, .int .i64 DD.vC, .slice s8 DD.vP.length d8, .slice s9 DD.needs.length d9] 42 (0, 0)) ∧ shEntryO.lies (Ow lo' hi') wc [.string DD.name, .int .i64 DD.vA, .int .i64 DD.vB, .int .i64 DD.vC, .slice s8 DD.vP.length d8, .slice s9 DD.needs.length d9] DD ∧ hi' ≤ wc.heap.size ∧ Below wz.heap.size wz wc)
      case first =>
        refine wp_region_held_drew (S := (fun w1 => w1.cell? ⟨w.heap.size, 0, none⟩ = some (.int .i64 xa2) ∧ w1.cell? ⟨w.heap.size, 1, none⟩ = some (.int .i64 xb2) ∧ w1.cell? ⟨w.heap.size, 2, none⟩ = some (.int .i64 xc2) ∧ w1.cell? ⟨w.heap.size, 3, none⟩ = some (.slice q2 z2.length cap2))) (by kernel_rfl) ?S7 (fun hHeld => ?_)
        case S7 => (exact KEEP.out _ h0)
        refine wpAnyH_take (i := 0) (oi := _) (v := ?vT8) rfl (by kernel_rfl) (by kernel_rfl) (by kernel_rfl) (fun _ _ _ h => h) (Or.inl ⟨by rfl, ?yT8⟩) hHeld ?_
        case yT8 => (intro w hSw; (try dsimp only at hSw); go_simp <;> with_reducible rfl)
        try simp only [Act.put, List.getElem_toArray, List.getElem_cons_zero, List.getElem_cons_succ, List.setIfInBounds_toArray, List.set_cons_zero, List.set_cons_succ]
        refine wpAnyH_take (i := 2) (oi := _) (v := ?vT9) rfl (by kernel_rfl) (by kernel_rfl) (by kernel_rfl) (fun _ _ _ h => h) (Or.inl ⟨by rfl, ?yT9⟩) hHeld ?_
        case yT9 => (intro w hSw; (try dsimp only at hSw); go_simp <;> with_reducible rfl)
        try simp only [Act.put, List.getElem_toArray, List.getElem_cons_zero, List.getElem_cons_succ, List.setIfInBounds_toArray, List.set_cons_zero, List.set_cons_succ]
        refine wpAnyH_take (i := 3) (oi := _) (v := ?vT10) rfl (by kernel_rfl) (by kernel_rfl) (by kernel_rfl) (fun _ _ _ h => h) (Or.inl ⟨by rfl, ?yT10⟩) hHeld ?_
        case yT10 => (intro w hSw; (try dsimp only at hSw); go_simp <;> with_reducible rfl)
        try simp only [Act.put, List.getElem_toArray, List.getElem_cons_zero, List.getElem_cons_succ, List.setIfInBounds_toArray, List.set_cons_zero, List.set_cons_succ]
        obtain ⟨wd, hwd⟩ : ∃ wd, wd = wz.drew := ⟨_, rfl⟩
        rw [← hwd] at h0
        rw [← hwd]
        clear hwd
        refine wpAnyH_ready (rs := [1, 9]) (by kernel_rfl) (by simp) ?_
        refine AllReadyH.cons rfl (fun K hK => ?_) (AllReadyH.cons rfl (fun K hK => ?_) AllReadyH.nil)
        · go_simp
          go_wp2_with (go_at_call 13; refine (HT0.out _ (h0)).mono ?_; rintro e wm1 ⟨gE, rfl, rowE, bm1⟩)
          have h1 : Below wz.heap.size wz wm1 := (h0).trans (bm1.mono (h0).size)
          clear hHeld
          refine hK.out _ _ ?G11 (fun hHeld => ?_)
          case G11 => ((try dsimp only); exact KEEP.out _ h1)
          clear hK K
          try simp only [Act.put, List.getElem_toArray, List.getElem_cons_zero, List.getElem_cons_succ, List.setIfInBounds_toArray, List.set_cons_zero, List.set_cons_succ]
          refine wpAnyH_ready (rs := [4, 9]) (by kernel_rfl) (by simp) ?_
          refine AllReadyH.cons rfl (fun K hK => ?_) (AllReadyH.cons rfl (fun K hK => ?_) AllReadyH.nil)
          · go_simp
            go_wp2_with (go_at_call 14; refine (HT1.out _ (h1)).mono ?_; rintro e wk2 ⟨gV, rfl, rdV, bk2⟩)
            have h2 : Below wz.heap.size wz wk2 := (h1).trans (bk2.mono (h1).size)
            have rowE := rowE.grow bk2
            clear hHeld
            refine hK.out _ _ ?G12 (fun hHeld => ?_)
            case G12 => ((try dsimp only); exact KEEP.out _ h2)
            clear hK K
            try simp only [Act.put, List.getElem_toArray, List.getElem_cons_zero, List.getElem_cons_succ, List.setIfInBounds_toArray, List.set_cons_zero, List.set_cons_succ]
            refine wpAnyH_ready (rs := [5, 9]) (by kernel_rfl) (by simp) ?_
            refine AllReadyH.cons rfl (fun K hK => ?_) (AllReadyH.cons rfl (fun K hK => ?_) AllReadyH.nil)
            · go_simp
              go_wp2_with (go_at_call 15; refine (HIM.out _ gE gV (h2) rowE rdV).mono ?_; rintro e wr3 ⟨s8, d8, s9, d9, lo', hi', rfl, lie8, hlo, hhi, br3⟩)
              have h3 : Below wz.heap.size wz wr3 := (h2).trans (br3.mono (h2).size)
              have hlz : wz.heap.size ≤ lo' := by have := (h2).size; omega
              have hhz : hi' ≤ wr3.heap.size := by omega
              clear hlo hhi
              clear hHeld
              refine hK.out _ _ ?G13 (fun hHeld => ?_)
              case G13 => ((try dsimp only); exact KEEP.out _ h3)
              clear hK K
              try simp only [Act.put, List.getElem_toArray, List.getElem_cons_zero, List.getElem_cons_succ, List.setIfInBounds_toArray, List.set_cons_zero, List.set_cons_succ]
              refine wpAnyH_take (i := 6) (oi := _) (v := ?vT14) rfl (by kernel_rfl) (by kernel_rfl) (by kernel_rfl) (fun _ _ _ h => h) (Or.inl ⟨by rfl, ?yT14⟩) hHeld ?_
              case yT14 => (intro w hSw; (try dsimp only at hSw); go_simp <;> with_reducible rfl)
              try simp only [Act.put, List.getElem_toArray, List.getElem_cons_zero, List.getElem_cons_succ, List.setIfInBounds_toArray, List.set_cons_zero, List.set_cons_succ]
              refine wpAnyH_take (i := 7) (oi := _) (v := ?vT15) rfl (by kernel_rfl) (by kernel_rfl) (by kernel_rfl) (fun _ _ _ h => h) (Or.inl ⟨by rfl, ?yT15⟩) hHeld ?_
              case yT15 => (intro w hSw; (try dsimp only at hSw); go_simp <;> with_reducible rfl)
              try simp only [Act.put, List.getElem_toArray, List.getElem_cons_zero, List.getElem_cons_succ, List.setIfInBounds_toArray, List.set_cons_zero, List.set_cons_succ]
              refine wpAnyH_take (i := 8) (oi := _) (v := ?vT16) rfl (by kernel_rfl) (by kernel_rfl) (by kernel_rfl) (fun _ _ _ h => h) (Or.inl ⟨by rfl, ?yT16⟩) hHeld ?_
              case yT16 => (intro w hSw; (try dsimp only at hSw); go_simp <;> with_reducible rfl)
              try simp only [Act.put, List.getElem_toArray, List.getElem_cons_zero, List.getElem_cons_succ, List.setIfInBounds_toArray, List.set_cons_zero, List.set_cons_succ]
              refine wpAnyH_ready (rs := [9]) (by kernel_rfl) (by simp) ?_
              refine AllReadyH.cons rfl (fun K hK => ?_) AllReadyH.nil
              go_simp
              have kz4 : Below (wr3).heap.size (wr3) ((wr3).alloc (.cells #[.string ⟨#[]⟩, .int .i64 0, .int .i64 0, .int .i64 0, .slice none 0 0, .slice none 0 0] 42 (0, 0))) := (Below.refl _ _).alloc (Nat.le_refl _) _
              have h4 : Below wz.heap.size wz ((wr3).alloc (.cells #[.string ⟨#[]⟩, .int .i64 0, .int .i64 0, .int .i64 0, .slice none 0 0, .slice none 0 0] 42 (0, 0))) := (h3).trans (kz4.mono (h3).size)
              have hg8 : ((wr3).alloc (.cells #[.string ⟨#[]⟩, .int .i64 0, .int .i64 0, .int .i64 0, .slice none 0 0, .slice none 0 0] 42 (0, 0))).heap[(wr3).heap.size]? = some (.cells #[.string ⟨#[]⟩, .int .i64 0, .int .i64 0, .int .i64 0, .slice none 0 0, .slice none 0 0] 42 (0, 0)) := vheap_new _ _
              have hge8 : wz.heap.size ≤ (wr3).heap.size := (h3).size
              have hgn : ¬ Ow lo' hi' (wr3).heap.size := fun hh => by have := hh.2; omega
              have lie8 := shEntryO.keep (S := Ow lo' hi') (fun b hb => kz4.block b (by have := hb.2; omega)) lie8
              have hhz := Nat.le_trans hhz kz4.size
              clear hHeld
              refine hK.out _ ((wr3).alloc (.cells #[.string ⟨#[]⟩, .int .i64 0, .int .i64 0, .int .i64 0, .slice none 0 0, .slice none 0 0] 42 (0, 0))) ?G94 (fun hHeld => ?_)
              case G94 => (exact KEEP.out _ h4)
              clear hK K
              try simp only [Act.put, List.getElem_toArray, List.getElem_cons_zero, List.getElem_cons_succ, List.setIfInBounds_toArray, List.set_cons_zero, List.set_cons_succ]
              obtain ⟨g17, hge⟩ : ∃ g, g = (wr3).heap.size := ⟨_, rfl⟩
              rw [← hge] at hg8 hge8 hgn
              try rw [← hge]
              obtain ⟨wa4, hwa⟩ : ∃ wa, wa = (wr3).alloc (.cells #[.string ⟨#[]⟩, .int .i64 0, .int .i64 0, .int .i64 0, .slice none 0 0, .slice none 0 0] 42 (0, 0)) := ⟨_, rfl⟩
              rw [← hwa] at hg8 h4 lie8 hhz
              try rw [← hwa]
              clear hge hwa kz4
              have hX := h4
              have fy := vblk_frozen hg8
              have y0 := vblk_cell hg8 0
              have y1 := vblk_cell hg8 1
              have y2 := vblk_cell hg8 2
              have y3 := vblk_cell hg8 3
              have y4 := vblk_cell hg8 4
              have y5 := vblk_cell hg8 5
              simp only [List.getElem?_toArray, List.getElem?_cons_succ, List.getElem?_cons_zero] at y0 y1 y2 y3 y4 y5
              refine wpAnyH_ready (rs := [10]) (by kernel_rfl) (by simp) ?_
              refine AllReadyH.cons rfl (fun K hK => ?_) AllReadyH.nil
              go_simp
              clear hHeld
              refine hK.out _ _ ?U17 (fun hHeld => ?_)
              case U17 => (have hA3 := box_below hAz hX; exact ⟨vblk_cell (cells_put (cells_put (cells_put (cells_put (cells_put (cells_put hA3 (by omega) _ _) (by omega) _ _) (by omega) _ _) (by omega) _ _) (by omega) _ _) (by omega) _ _) 0, vblk_cell (cells_put (cells_put (cells_put (cells_put (cells_put (cells_put hA3 (by omega) _ _) (by omega) _ _) (by omega) _ _) (by omega) _ _) (by omega) _ _) (by omega) _ _) 1, vblk_cell (cells_put (cells_put (cells_put (cells_put (cells_put (cells_put hA3 (by omega) _ _) (by omega) _ _) (by omega) _ _) (by omega) _ _) (by omega) _ _) (by omega) _ _) 2, vblk_cell (cells_put (cells_put (cells_put (cells_put (cells_put (cells_put hA3 (by omega) _ _) (by omega) _ _) (by omega) _ _) (by omega) _ _) (by omega) _ _) (by omega) _ _) 3⟩)
              clear hK K
              try simp only [Act.put, List.getElem_toArray, List.getElem_cons_zero, List.getElem_cons_succ, List.setIfInBounds_toArray, List.set_cons_zero, List.set_cons_succ]
              refine wpAnyH_take (i := 11) (oi := _) (v := ?vT18) rfl (by kernel_rfl) (by kernel_rfl) (by kernel_rfl) (fun _ _ _ h => h) (Or.inl ⟨by rfl, ?yT18⟩) hHeld ?_
              case yT18 => (intro w hSw; (try dsimp only at hSw); go_simp <;> with_reducible rfl)
              try simp only [Act.put, List.getElem_toArray, List.getElem_cons_zero, List.getElem_cons_succ, List.setIfInBounds_toArray, List.set_cons_zero, List.set_cons_succ]
              refine wpAnyH_done (by kernel_rfl) ?_ _
              clear hHeld
              obtain ⟨wY, hWY⟩ : ∃ wY, wY = ((((((wa4.setCell ⟨g17, 0, none⟩ (.string DD.name)).setCell ⟨g17, 1, none⟩ (.int .i64 DD.vA)).setCell ⟨g17, 2, none⟩ (.int .i64 DD.vB)).setCell ⟨g17, 3, none⟩ (.int .i64 DD.vC)).setCell ⟨g17, 4, none⟩ (.slice s8 DD.vP.length d8)).setCell ⟨g17, 5, none⟩ (.slice s9 DD.needs.length d9)) := ⟨_, rfl⟩
              rw [← hWY]
              have hY : Below wz.heap.size wz wY := by rw [hWY]; (repeat (refine Below.setCell ?_ (by simp; omega) _)); exact hX
              have hb8 : wY.heap[g17]? = some (.cells #[.string DD.name, .int .i64 DD.vA, .int .i64 DD.vB, .int .i64 DD.vC, .slice s8 DD.vP.length d8, .slice s9 DD.needs.length d9] 42 (0, 0)) := by
                rw [hWY]
                have h6 := heap_setCell_same _ g17 5 _ _ (.slice s9 DD.needs.length d9) (heap_setCell_same _ g17 4 _ _ (.slice s8 DD.vP.length d8) (heap_setCell_same _ g17 3 _ _ (.int .i64 DD.vC) (heap_setCell_same _ g17 2 _ _ (.int .i64 DD.vB) (heap_setCell_same _ g17 1 _ _ (.int .i64 DD.vA) (heap_setCell_same _ g17 0 _ _ (.string DD.name) hg8)))))
                simpa only [List.setIfInBounds_toArray, List.set_cons_succ, List.set_cons_zero] using h6
              have hsY : wY.heap.size = wa4.heap.size := by rw [hWY]; simp [World.setCell]
              have lieY : shEntryO.lies (Ow lo' hi') wY [.string DD.name, .int .i64 DD.vA, .int .i64 DD.vB, .int .i64 DD.vC, .slice s8 DD.vP.length d8, .slice s9 DD.needs.length d9] DD := by
                refine shEntryO.keep (S := Ow lo' hi') ?_ lie8
                rw [hWY]
                (repeat (refine Kp.trans ?_ (Kp.set hgn)))
                exact fun b hb => rfl
              clear hWY y0 y1 y2 y3 y4 y5 fy hg8 hX lie8
              go_wp2_with fail
              go_meet
              case rel => exact ⟨g17, s8, d8, s9, d9, lo', hi', rfl, rfl, hb8, lieY, by omega, hY⟩
            · go_simp
              have kz5 : Below (wk2).heap.size (wk2) ((wk2).alloc (.cells #[.string ⟨#[]⟩, .int .i64 0, .int .i64 0, .int .i64 0, .slice none 0 0, .slice none 0 0] 42 (0, 0))) := (Below.refl _ _).alloc (Nat.le_refl _) _
              have h5 : Below wz.heap.size wz ((wk2).alloc (.cells #[.string ⟨#[]⟩, .int .i64 0, .int .i64 0, .int .i64 0, .slice none 0 0, .slice none 0 0] 42 (0, 0))) := (h2).trans (kz5.mono (h2).size)
              have hg8 : ((wk2).alloc (.cells #[.string ⟨#[]⟩, .int .i64 0, .int .i64 0, .int .i64 0, .slice none 0 0, .slice none 0 0] 42 (0, 0))).heap[(wk2).heap.size]? = some (.cells #[.string ⟨#[]⟩, .int .i64 0, .int .i64 0, .int .i64 0, .slice none 0 0, .slice none 0 0] 42 (0, 0)) := vheap_new _ _
              have hge8 : wz.heap.size ≤ (wk2).heap.size := (h2).size
              have rowE := rowE.grow kz5
              have rdV := rdV.grow kz5
              clear hHeld
              refine hK.out _ ((wk2).alloc (.cells #[.string ⟨#[]⟩, .int .i64 0, .int .i64 0, .int .i64 0, .slice none 0 0, .slice none 0 0] 42 (0, 0))) ?G95 (fun hHeld => ?_)
              case G95 => (exact KEEP.out _ h5)
              clear hK K
              try simp only [Act.put, List.getElem_toArray, List.getElem_cons_zero, List.getElem_cons_succ, List.setIfInBounds_toArray, List.set_cons_zero, List.set_cons_succ]
              obtain ⟨g17, hge⟩ : ∃ g, g = (wk2).heap.size := ⟨_, rfl⟩
              rw [← hge] at hg8 hge8
              try rw [← hge]
              obtain ⟨wa5, hwa⟩ : ∃ wa, wa = (wk2).alloc (.cells #[.string ⟨#[]⟩, .int .i64 0, .int .i64 0, .int .i64 0, .slice none 0 0, .slice none 0 0] 42 (0, 0)) := ⟨_, rfl⟩
              rw [← hwa] at hg8 h5 rowE rdV
              try rw [← hwa]
              clear hge hwa kz5
              refine wpAnyH_ready (rs := [5]) (by kernel_rfl) (by simp) ?_
              refine AllReadyH.cons rfl (fun K hK => ?_) AllReadyH.nil
              go_simp
              go_wp2_with (go_at_call 15; refine (HIM.out _ gE gV (h5) rowE rdV).mono ?_; rintro e wr6 ⟨s8, d8, s9, d9, lo', hi', rfl, lie8, hlo, hhi, br6⟩)
              have h6 : Below wz.heap.size wz wr6 := (h5).trans (br6.mono (h5).size)
              have hlz : wz.heap.size ≤ lo' := by have := (h5).size; omega
              have hhz : hi' ≤ wr6.heap.size := by omega
              have hgn : ¬ Ow lo' hi' g17 := fun hh => by have h9 := (Array.getElem?_eq_some_iff.1 hg8).1; have := hh.1; omega
              have hg8 := box_below hg8 br6
              clear hlo hhi
              clear hHeld
              refine hK.out _ _ ?G19 (fun hHeld => ?_)
              case G19 => ((try dsimp only); exact KEEP.out _ h6)
              clear hK K
              try simp only [Act.put, List.getElem_toArray, List.getElem_cons_zero, List.getElem_cons_succ, List.setIfInBounds_toArray, List.set_cons_zero, List.set_cons_succ]
              refine wpAnyH_take (i := 6) (oi := _) (v := ?vT20) rfl (by kernel_rfl) (by kernel_rfl) (by kernel_rfl) (fun _ _ _ h => h) (Or.inl ⟨by rfl, ?yT20⟩) hHeld ?_
              case yT20 => (intro w hSw; (try dsimp only at hSw); go_simp <;> with_reducible rfl)
              try simp only [Act.put, List.getElem_toArray, List.getElem_cons_zero, List.getElem_cons_succ, List.setIfInBounds_toArray, List.set_cons_zero, List.set_cons_succ]
              refine wpAnyH_take (i := 7) (oi := _) (v := ?vT21) rfl (by kernel_rfl) (by kernel_rfl) (by kernel_rfl) (fun _ _ _ h => h) (Or.inl ⟨by rfl, ?yT21⟩) hHeld ?_
              case yT21 => (intro w hSw; (try dsimp only at hSw); go_simp <;> with_reducible rfl)
              try simp only [Act.put, List.getElem_toArray, List.getElem_cons_zero, List.getElem_cons_succ, List.setIfInBounds_toArray, List.set_cons_zero, List.set_cons_succ]
              refine wpAnyH_take (i := 8) (oi := _) (v := ?vT22) rfl (by kernel_rfl) (by kernel_rfl) (by kernel_rfl) (fun _ _ _ h => h) (Or.inl ⟨by rfl, ?yT22⟩) hHeld ?_
              case yT22 => (intro w hSw; (try dsimp only at hSw); go_simp <;> with_reducible rfl)
              try simp only [Act.put, List.getElem_toArray, List.getElem_cons_zero, List.getElem_cons_succ, List.setIfInBounds_toArray, List.set_cons_zero, List.set_cons_succ]
              have hX := h6
              have fy := vblk_frozen hg8
              have y0 := vblk_cell hg8 0
              have y1 := vblk_cell hg8 1
              have y2 := vblk_cell hg8 2
              have y3 := vblk_cell hg8 3
              have y4 := vblk_cell hg8 4
              have y5 := vblk_cell hg8 5
              simp only [List.getElem?_toArray, List.getElem?_cons_succ, List.getElem?_cons_zero] at y0 y1 y2 y3 y4 y5
              refine wpAnyH_ready (rs := [10]) (by kernel_rfl) (by simp) ?_
              refine AllReadyH.cons rfl (fun K hK => ?_) AllReadyH.nil
              go_simp
              clear hHeld
              refine hK.out _ _ ?U23 (fun hHeld => ?_)
              case U23 => (have hA3 := box_below hAz hX; exact ⟨vblk_cell (cells_put (cells_put (cells_put (cells_put (cells_put (cells_put hA3 (by omega) _ _) (by omega) _ _) (by omega) _ _) (by omega) _ _) (by omega) _ _) (by omega) _ _) 0, vblk_cell (cells_put (cells_put (cells_put (cells_put (cells_put (cells_put hA3 (by omega) _ _) (by omega) _ _) (by omega) _ _) (by omega) _ _) (by omega) _ _) (by omega) _ _) 1, vblk_cell (cells_put (cells_put (cells_put (cells_put (cells_put (cells_put hA3 (by omega) _ _) (by omega) _ _) (by omega) _ _) (by omega) _ _) (by omega) _ _) (by omega) _ _) 2, vblk_cell (cells_put (cells_put (cells_put (cells_put (cells_put (cells_put hA3 (by omega) _ _) (by omega) _ _) (by omega) _ _) (by omega) _ _) (by omega) _ _) (by omega) _ _) 3⟩)
              clear hK K
              try simp only [Act.put, List.getElem_toArray, List.getElem_cons_zero, List.getElem_cons_succ, List.setIfInBounds_toArray, List.set_cons_zero, List.set_cons_succ]
              refine wpAnyH_take (i := 11) (oi := _) (v := ?vT24) rfl (by kernel_rfl) (by kernel_rfl) (by kernel_rfl) (fun _ _ _ h => h) (Or.inl ⟨by rfl, ?yT24⟩) hHeld ?_
              case yT24 => (intro w hSw; (try dsimp only at hSw); go_simp <;> with_reducible rfl)
              try simp only [Act.put, List.getElem_toArray, List.getElem_cons_zero, List.getElem_cons_succ, List.setIfInBounds_toArray, List.set_cons_zero, List.set_cons_succ]
              refine wpAnyH_done (by kernel_rfl) ?_ _
              clear hHeld
              obtain ⟨wY, hWY⟩ : ∃ wY, wY = ((((((wr6.setCell ⟨g17, 0, none⟩ (.string DD.name)).setCell ⟨g17, 1, none⟩ (.int .i64 DD.vA)).setCell ⟨g17, 2, none⟩ (.int .i64 DD.vB)).setCell ⟨g17, 3, none⟩ (.int .i64 DD.vC)).setCell ⟨g17, 4, none⟩ (.slice s8 DD.vP.length d8)).setCell ⟨g17, 5, none⟩ (.slice s9 DD.needs.length d9)) := ⟨_, rfl⟩
              rw [← hWY]
              have hY : Below wz.heap.size wz wY := by rw [hWY]; (repeat (refine Below.setCell ?_ (by simp; omega) _)); exact hX
              have hb8 : wY.heap[g17]? = some (.cells #[.string DD.name, .int .i64 DD.vA, .int .i64 DD.vB, .int .i64 DD.vC, .slice s8 DD.vP.length d8, .slice s9 DD.needs.length d9] 42 (0, 0)) := by
                rw [hWY]
                have h6 := heap_setCell_same _ g17 5 _ _ (.slice s9 DD.needs.length d9) (heap_setCell_same _ g17 4 _ _ (.slice s8 DD.vP.length d8) (heap_setCell_same _ g17 3 _ _ (.int .i64 DD.vC) (heap_setCell_same _ g17 2 _ _ (.int .i64 DD.vB) (heap_setCell_same _ g17 1 _ _ (.int .i64 DD.vA) (heap_setCell_same _ g17 0 _ _ (.string DD.name) hg8)))))
                simpa only [List.setIfInBounds_toArray, List.set_cons_succ, List.set_cons_zero] using h6
              have hsY : wY.heap.size = wr6.heap.size := by rw [hWY]; simp [World.setCell]
              have lieY : shEntryO.lies (Ow lo' hi') wY [.string DD.name, .int .i64 DD.vA, .int .i64 DD.vB, .int .i64 DD.vC, .slice s8 DD.vP.length d8, .slice s9 DD.needs.length d9] DD := by
                refine shEntryO.keep (S := Ow lo' hi') ?_ lie8
                rw [hWY]
                (repeat (refine Kp.trans ?_ (Kp.set hgn)))
                exact fun b hb => rfl
              clear hWY y0 y1 y2 y3 y4 y5 fy hg8 hX lie8
              go_wp2_with fail
              go_meet
              case rel => exact ⟨g17, s8, d8, s9, d9, lo', hi', rfl, rfl, hb8, lieY, by omega, hY⟩
          · go_simp
            have kz7 : Below (wm1).heap.size (wm1) ((wm1).alloc (.cells #[.string ⟨#[]⟩, .int .i64 0, .int .i64 0, .int .i64 0, .slice none 0 0, .slice none 0 0] 42 (0, 0))) := (Below.refl _ _).alloc (Nat.le_refl _) _
            have h7 : Below wz.heap.size wz ((wm1).alloc (.cells #[.string ⟨#[]⟩, .int .i64 0, .int .i64 0, .int .i64 0, .slice none 0 0, .slice none 0 0] 42 (0, 0))) := (h1).trans (kz7.mono (h1).size)
            have hg8 : ((wm1).alloc (.cells #[.string ⟨#[]⟩, .int .i64 0, .int .i64 0, .int .i64 0, .slice none 0 0, .slice none 0 0] 42 (0, 0))).heap[(wm1).heap.size]? = some (.cells #[.string ⟨#[]⟩, .int .i64 0, .int .i64 0, .int .i64 0, .slice none 0 0, .slice none 0 0] 42 (0, 0)) := vheap_new _ _
            have hge8 : wz.heap.size ≤ (wm1).heap.size := (h1).size
            have rowE := rowE.grow kz7
            clear hHeld
            refine hK.out _ ((wm1).alloc (.cells #[.string ⟨#[]⟩, .int .i64 0, .int .i64 0, .int .i64 0, .slice none 0 0, .slice none 0 0] 42 (0, 0))) ?G97 (fun hHeld => ?_)
            case G97 => (exact KEEP.out _ h7)
            clear hK K
            try simp only [Act.put, List.getElem_toArray, List.getElem_cons_zero, List.getElem_cons_succ, List.setIfInBounds_toArray, List.set_cons_zero, List.set_cons_succ]
            obtain ⟨g17, hge⟩ : ∃ g, g = (wm1).heap.size := ⟨_, rfl⟩
            rw [← hge] at hg8 hge8
            try rw [← hge]
            obtain ⟨wa7, hwa⟩ : ∃ wa, wa = (wm1).alloc (.cells #[.string ⟨#[]⟩, .int .i64 0, .int .i64 0, .int .i64 0, .slice none 0 0, .slice none 0 0] 42 (0, 0)) := ⟨_, rfl⟩
            rw [← hwa] at hg8 h7 rowE
            try rw [← hwa]
            clear hge hwa kz7
            refine wpAnyH_ready (rs := [4]) (by kernel_rfl) (by simp) ?_
            refine AllReadyH.cons rfl (fun K hK => ?_) AllReadyH.nil
            go_simp
            go_wp2_with (go_at_call 14; refine (HT1.out _ (h7)).mono ?_; rintro e wk8 ⟨gV, rfl, rdV, bk8⟩)
            have h8 : Below wz.heap.size wz wk8 := (h7).trans (bk8.mono (h7).size)
            have rowE := rowE.grow bk8
            have hg8 := box_below hg8 bk8
            clear hHeld
            refine hK.out _ _ ?G25 (fun hHeld => ?_)
            case G25 => ((try dsimp only); exact KEEP.out _ h8)
            clear hK K
            try simp only [Act.put, List.getElem_toArray, List.getElem_cons_zero, List.getElem_cons_succ, List.setIfInBounds_toArray, List.set_cons_zero, List.set_cons_succ]
            refine wpAnyH_ready (rs := [5]) (by kernel_rfl) (by simp) ?_
            refine AllReadyH.cons rfl (fun K hK => ?_) AllReadyH.nil
            go_simp
            go_wp2_with (go_at_call 15; refine (HIM.out _ gE gV (h8) rowE rdV).mono ?_; rintro e wr9 ⟨s8, d8, s9, d9, lo', hi', rfl, lie8, hlo, hhi, br9⟩)
            have h9 : Below wz.heap.size wz wr9 := (h8).trans (br9.mono (h8).size)
            have hlz : wz.heap.size ≤ lo' := by have := (h8).size; omega
            have hhz : hi' ≤ wr9.heap.size := by omega
            have hgn : ¬ Ow lo' hi' g17 := fun hh => by have h9 := (Array.getElem?_eq_some_iff.1 hg8).1; have := hh.1; omega
            have hg8 := box_below hg8 br9
            clear hlo hhi
            clear hHeld
            refine hK.out _ _ ?G26 (fun hHeld => ?_)
            case G26 => ((try dsimp only); exact KEEP.out _ h9)
            clear hK K
            try simp only [Act.put, List.getElem_toArray, List.getElem_cons_zero, List.getElem_cons_succ, List.setIfInBounds_toArray, List.set_cons_zero, List.set_cons_succ]
            refine wpAnyH_take (i := 6) (oi := _) (v := ?vT27) rfl (by kernel_rfl) (by kernel_rfl) (by kernel_rfl) (fun _ _ _ h => h) (Or.inl ⟨by rfl, ?yT27⟩) hHeld ?_
            case yT27 => (intro w hSw; (try dsimp only at hSw); go_simp <;> with_reducible rfl)
            try simp only [Act.put, List.getElem_toArray, List.getElem_cons_zero, List.getElem_cons_succ, List.setIfInBounds_toArray, List.set_cons_zero, List.set_cons_succ]
            refine wpAnyH_take (i := 7) (oi := _) (v := ?vT28) rfl (by kernel_rfl) (by kernel_rfl) (by kernel_rfl) (fun _ _ _ h => h) (Or.inl ⟨by rfl, ?yT28⟩) hHeld ?_
            case yT28 => (intro w hSw; (try dsimp only at hSw); go_simp <;> with_reducible rfl)
            try simp only [Act.put, List.getElem_toArray, List.getElem_cons_zero, List.getElem_cons_succ, List.setIfInBounds_toArray, List.set_cons_zero, List.set_cons_succ]
            refine wpAnyH_take (i := 8) (oi := _) (v := ?vT29) rfl (by kernel_rfl) (by kernel_rfl) (by kernel_rfl) (fun _ _ _ h => h) (Or.inl ⟨by rfl, ?yT29⟩) hHeld ?_
            case yT29 => (intro w hSw; (try dsimp only at hSw); go_simp <;> with_reducible rfl)
            try simp only [Act.put, List.getElem_toArray, List.getElem_cons_zero, List.getElem_cons_succ, List.setIfInBounds_toArray, List.set_cons_zero, List.set_cons_succ]
            have hX := h9
            have fy := vblk_frozen hg8
            have y0 := vblk_cell hg8 0
            have y1 := vblk_cell hg8 1
            have y2 := vblk_cell hg8 2
            have y3 := vblk_cell hg8 3
            have y4 := vblk_cell hg8 4
            have y5 := vblk_cell hg8 5
            simp only [List.getElem?_toArray, List.getElem?_cons_succ, List.getElem?_cons_zero] at y0 y1 y2 y3 y4 y5
            refine wpAnyH_ready (rs := [10]) (by kernel_rfl) (by simp) ?_
            refine AllReadyH.cons rfl (fun K hK => ?_) AllReadyH.nil
            go_simp
            clear hHeld
            refine hK.out _ _ ?U30 (fun hHeld => ?_)
            case U30 => (have hA3 := box_below hAz hX; exact ⟨vblk_cell (cells_put (cells_put (cells_put (cells_put (cells_put (cells_put hA3 (by omega) _ _) (by omega) _ _) (by omega) _ _) (by omega) _ _) (by omega) _ _) (by omega) _ _) 0, vblk_cell (cells_put (cells_put (cells_put (cells_put (cells_put (cells_put hA3 (by omega) _ _) (by omega) _ _) (by omega) _ _) (by omega) _ _) (by omega) _ _) (by omega) _ _) 1, vblk_cell (cells_put (cells_put (cells_put (cells_put (cells_put (cells_put hA3 (by omega) _ _) (by omega) _ _) (by omega) _ _) (by omega) _ _) (by omega) _ _) (by omega) _ _) 2, vblk_cell (cells_put (cells_put (cells_put (cells_put (cells_put (cells_put hA3 (by omega) _ _) (by omega) _ _) (by omega) _ _) (by omega) _ _) (by omega) _ _) (by omega) _ _) 3⟩)
            clear hK K
            try simp only [Act.put, List.getElem_toArray, List.getElem_cons_zero, List.getElem_cons_succ, List.setIfInBounds_toArray, List.set_cons_zero, List.set_cons_succ]
            refine wpAnyH_take (i := 11) (oi := _) (v := ?vT31) rfl (by kernel_rfl) (by kernel_rfl) (by kernel_rfl) (fun _ _ _ h => h) (Or.inl ⟨by rfl, ?yT31⟩) hHeld ?_
            case yT31 => (intro w hSw; (try dsimp only at hSw); go_simp <;> with_reducible rfl)
            try simp only [Act.put, List.getElem_toArray, List.getElem_cons_zero, List.getElem_cons_succ, List.setIfInBounds_toArray, List.set_cons_zero, List.set_cons_succ]
            refine wpAnyH_done (by kernel_rfl) ?_ _
            clear hHeld
            obtain ⟨wY, hWY⟩ : ∃ wY, wY = ((((((wr9.setCell ⟨g17, 0, none⟩ (.string DD.name)).setCell ⟨g17, 1, none⟩ (.int .i64 DD.vA)).setCell ⟨g17, 2, none⟩ (.int .i64 DD.vB)).setCell ⟨g17, 3, none⟩ (.int .i64 DD.vC)).setCell ⟨g17, 4, none⟩ (.slice s8 DD.vP.length d8)).setCell ⟨g17, 5, none⟩ (.slice s9 DD.needs.length d9)) := ⟨_, rfl⟩
            rw [← hWY]
            have hY : Below wz.heap.size wz wY := by rw [hWY]; (repeat (refine Below.setCell ?_ (by simp; omega) _)); exact hX
            have hb8 : wY.heap[g17]? = some (.cells #[.string DD.name, .int .i64 DD.vA, .int .i64 DD.vB, .int .i64 DD.vC, .slice s8 DD.vP.length d8, .slice s9 DD.needs.length d9] 42 (0, 0)) := by
              rw [hWY]
              have h6 := heap_setCell_same _ g17 5 _ _ (.slice s9 DD.needs.length d9) (heap_setCell_same _ g17 4 _ _ (.slice s8 DD.vP.length d8) (heap_setCell_same _ g17 3 _ _ (.int .i64 DD.vC) (heap_setCell_same _ g17 2 _ _ (.int .i64 DD.vB) (heap_setCell_same _ g17 1 _ _ (.int .i64 DD.vA) (heap_setCell_same _ g17 0 _ _ (.string DD.name) hg8)))))
              simpa only [List.setIfInBounds_toArray, List.set_cons_succ, List.set_cons_zero] using h6
            have hsY : wY.heap.size = wr9.heap.size := by rw [hWY]; simp [World.setCell]
            have lieY : shEntryO.lies (Ow lo' hi') wY [.string DD.name, .int .i64 DD.vA, .int .i64 DD.vB, .int .i64 DD.vC, .slice s8 DD.vP.length d8, .slice s9 DD.needs.length d9] DD := by
              refine shEntryO.keep (S := Ow lo' hi') ?_ lie8
              rw [hWY]
              (repeat (refine Kp.trans ?_ (Kp.set hgn)))
              exact fun b hb => rfl
            clear hWY y0 y1 y2 y3 y4 y5 fy hg8 hX lie8
            go_wp2_with fail
            go_meet
            case rel => exact ⟨g17, s8, d8, s9, d9, lo', hi', rfl, rfl, hb8, lieY, by omega, hY⟩
        · go_simp
          have kz10 : Below (wd).heap.size (wd) ((wd).alloc (.cells #[.string ⟨#[]⟩, .int .i64 0, .int .i64 0, .int .i64 0, .slice none 0 0, .slice none 0 0] 42 (0, 0))) := (Below.refl _ _).alloc (Nat.le_refl _) _
          have h10 : Below wz.heap.size wz ((wd).alloc (.cells #[.string ⟨#[]⟩, .int .i64 0, .int .i64 0, .int .i64 0, .slice none 0 0, .slice none 0 0] 42 (0, 0))) := (h0).trans (kz10.mono (h0).size)
          have hg8 : ((wd).alloc (.cells #[.string ⟨#[]⟩, .int .i64 0, .int .i64 0, .int .i64 0, .slice none 0 0, .slice none 0 0] 42 (0, 0))).heap[(wd).heap.size]? = some (.cells #[.string ⟨#[]⟩, .int .i64 0, .int .i64 0, .int .i64 0, .slice none 0 0, .slice none 0 0] 42 (0, 0)) := vheap_new _ _
          have hge8 : wz.heap.size ≤ (wd).heap.size := (h0).size
          clear hHeld
          refine hK.out _ ((wd).alloc (.cells #[.string ⟨#[]⟩, .int .i64 0, .int .i64 0, .int .i64 0, .slice none 0 0, .slice none 0 0] 42 (0, 0))) ?G910 (fun hHeld => ?_)
          case G910 => (exact KEEP.out _ h10)
          clear hK K
          try simp only [Act.put, List.getElem_toArray, List.getElem_cons_zero, List.getElem_cons_succ, List.setIfInBounds_toArray, List.set_cons_zero, List.set_cons_succ]
          obtain ⟨g17, hge⟩ : ∃ g, g = (wd).heap.size := ⟨_, rfl⟩
          rw [← hge] at hg8 hge8
          try rw [← hge]
          obtain ⟨wa10, hwa⟩ : ∃ wa, wa = (wd).alloc (.cells #[.string ⟨#[]⟩, .int .i64 0, .int .i64 0, .int .i64 0, .slice none 0 0, .slice none 0 0] 42 (0, 0)) := ⟨_, rfl⟩
          rw [← hwa] at hg8 h10
          try rw [← hwa]
          clear hge hwa kz10
          refine wpAnyH_ready (rs := [1]) (by kernel_rfl) (by simp) ?_
          refine AllReadyH.cons rfl (fun K hK => ?_) AllReadyH.nil
          go_simp
          go_wp2_with (go_at_call 13; refine (HT0.out _ (h10)).mono ?_; rintro e wm11 ⟨gE, rfl, rowE, bm11⟩)
          have h11 : Below wz.heap.size wz wm11 := (h10).trans (bm11.mono (h10).size)
          have hg8 := box_below hg8 bm11
          clear hHeld
          refine hK.out _ _ ?G32 (fun hHeld => ?_)
          case G32 => ((try dsimp only); exact KEEP.out _ h11)
          clear hK K
          try simp only [Act.put, List.getElem_toArray, List.getElem_cons_zero, List.getElem_cons_succ, List.setIfInBounds_toArray, List.set_cons_zero, List.set_cons_succ]
          refine wpAnyH_ready (rs := [4]) (by kernel_rfl) (by simp) ?_
          refine AllReadyH.cons rfl (fun K hK => ?_) AllReadyH.nil
          go_simp
          go_wp2_with (go_at_call 14; refine (HT1.out _ (h11)).mono ?_; rintro e wk12 ⟨gV, rfl, rdV, bk12⟩)
          have h12 : Below wz.heap.size wz wk12 := (h11).trans (bk12.mono (h11).size)
          have rowE := rowE.grow bk12
          have hg8 := box_below hg8 bk12
          clear hHeld
          refine hK.out _ _ ?G33 (fun hHeld => ?_)
          case G33 => ((try dsimp only); exact KEEP.out _ h12)
          clear hK K
          try simp only [Act.put, List.getElem_toArray, List.getElem_cons_zero, List.getElem_cons_succ, List.setIfInBounds_toArray, List.set_cons_zero, List.set_cons_succ]
          refine wpAnyH_ready (rs := [5]) (by kernel_rfl) (by simp) ?_
          refine AllReadyH.cons rfl (fun K hK => ?_) AllReadyH.nil
          go_simp
          go_wp2_with (go_at_call 15; refine (HIM.out _ gE gV (h12) rowE rdV).mono ?_; rintro e wr13 ⟨s8, d8, s9, d9, lo', hi', rfl, lie8, hlo, hhi, br13⟩)
          have h13 : Below wz.heap.size wz wr13 := (h12).trans (br13.mono (h12).size)
          have hlz : wz.heap.size ≤ lo' := by have := (h12).size; omega
          have hhz : hi' ≤ wr13.heap.size := by omega
          have hgn : ¬ Ow lo' hi' g17 := fun hh => by have h9 := (Array.getElem?_eq_some_iff.1 hg8).1; have := hh.1; omega
          have hg8 := box_below hg8 br13
          clear hlo hhi
          clear hHeld
          refine hK.out _ _ ?G34 (fun hHeld => ?_)
          case G34 => ((try dsimp only); exact KEEP.out _ h13)
          clear hK K
          try simp only [Act.put, List.getElem_toArray, List.getElem_cons_zero, List.getElem_cons_succ, List.setIfInBounds_toArray, List.set_cons_zero, List.set_cons_succ]
          refine wpAnyH_take (i := 6) (oi := _) (v := ?vT35) rfl (by kernel_rfl) (by kernel_rfl) (by kernel_rfl) (fun _ _ _ h => h) (Or.inl ⟨by rfl, ?yT35⟩) hHeld ?_
          case yT35 => (intro w hSw; (try dsimp only at hSw); go_simp <;> with_reducible rfl)
          try simp only [Act.put, List.getElem_toArray, List.getElem_cons_zero, List.getElem_cons_succ, List.setIfInBounds_toArray, List.set_cons_zero, List.set_cons_succ]
          refine wpAnyH_take (i := 7) (oi := _) (v := ?vT36) rfl (by kernel_rfl) (by kernel_rfl) (by kernel_rfl) (fun _ _ _ h => h) (Or.inl ⟨by rfl, ?yT36⟩) hHeld ?_
          case yT36 => (intro w hSw; (try dsimp only at hSw); go_simp <;> with_reducible rfl)
          try simp only [Act.put, List.getElem_toArray, List.getElem_cons_zero, List.getElem_cons_succ, List.setIfInBounds_toArray, List.set_cons_zero, List.set_cons_succ]
          refine wpAnyH_take (i := 8) (oi := _) (v := ?vT37) rfl (by kernel_rfl) (by kernel_rfl) (by kernel_rfl) (fun _ _ _ h => h) (Or.inl ⟨by rfl, ?yT37⟩) hHeld ?_
          case yT37 => (intro w hSw; (try dsimp only at hSw); go_simp <;> with_reducible rfl)
          try simp only [Act.put, List.getElem_toArray, List.getElem_cons_zero, List.getElem_cons_succ, List.setIfInBounds_toArray, List.set_cons_zero, List.set_cons_succ]
          have hX := h13
          have fy := vblk_frozen hg8
          have y0 := vblk_cell hg8 0
          have y1 := vblk_cell hg8 1
          have y2 := vblk_cell hg8 2
          have y3 := vblk_cell hg8 3
          have y4 := vblk_cell hg8 4
          have y5 := vblk_cell hg8 5
          simp only [List.getElem?_toArray, List.getElem?_cons_succ, List.getElem?_cons_zero] at y0 y1 y2 y3 y4 y5
          refine wpAnyH_ready (rs := [10]) (by kernel_rfl) (by simp) ?_
          refine AllReadyH.cons rfl (fun K hK => ?_) AllReadyH.nil
          go_simp
          clear hHeld
          refine hK.out _ _ ?U38 (fun hHeld => ?_)
          case U38 => (have hA3 := box_below hAz hX; exact ⟨vblk_cell (cells_put (cells_put (cells_put (cells_put (cells_put (cells_put hA3 (by omega) _ _) (by omega) _ _) (by omega) _ _) (by omega) _ _) (by omega) _ _) (by omega) _ _) 0, vblk_cell (cells_put (cells_put (cells_put (cells_put (cells_put (cells_put hA3 (by omega) _ _) (by omega) _ _) (by omega) _ _) (by omega) _ _) (by omega) _ _) (by omega) _ _) 1, vblk_cell (cells_put (cells_put (cells_put (cells_put (cells_put (cells_put hA3 (by omega) _ _) (by omega) _ _) (by omega) _ _) (by omega) _ _) (by omega) _ _) (by omega) _ _) 2, vblk_cell (cells_put (cells_put (cells_put (cells_put (cells_put (cells_put hA3 (by omega) _ _) (by omega) _ _) (by omega) _ _) (by omega) _ _) (by omega) _ _) (by omega) _ _) 3⟩)
          clear hK K
          try simp only [Act.put, List.getElem_toArray, List.getElem_cons_zero, List.getElem_cons_succ, List.setIfInBounds_toArray, List.set_cons_zero, List.set_cons_succ]
          refine wpAnyH_take (i := 11) (oi := _) (v := ?vT39) rfl (by kernel_rfl) (by kernel_rfl) (by kernel_rfl) (fun _ _ _ h => h) (Or.inl ⟨by rfl, ?yT39⟩) hHeld ?_
          case yT39 => (intro w hSw; (try dsimp only at hSw); go_simp <;> with_reducible rfl)
          try simp only [Act.put, List.getElem_toArray, List.getElem_cons_zero, List.getElem_cons_succ, List.setIfInBounds_toArray, List.set_cons_zero, List.set_cons_succ]
          refine wpAnyH_done (by kernel_rfl) ?_ _
          clear hHeld
          obtain ⟨wY, hWY⟩ : ∃ wY, wY = ((((((wr13.setCell ⟨g17, 0, none⟩ (.string DD.name)).setCell ⟨g17, 1, none⟩ (.int .i64 DD.vA)).setCell ⟨g17, 2, none⟩ (.int .i64 DD.vB)).setCell ⟨g17, 3, none⟩ (.int .i64 DD.vC)).setCell ⟨g17, 4, none⟩ (.slice s8 DD.vP.length d8)).setCell ⟨g17, 5, none⟩ (.slice s9 DD.needs.length d9)) := ⟨_, rfl⟩
          rw [← hWY]
          have hY : Below wz.heap.size wz wY := by rw [hWY]; (repeat (refine Below.setCell ?_ (by simp; omega) _)); exact hX
          have hb8 : wY.heap[g17]? = some (.cells #[.string DD.name, .int .i64 DD.vA, .int .i64 DD.vB, .int .i64 DD.vC, .slice s8 DD.vP.length d8, .slice s9 DD.needs.length d9] 42 (0, 0)) := by
            rw [hWY]
            have h6 := heap_setCell_same _ g17 5 _ _ (.slice s9 DD.needs.length d9) (heap_setCell_same _ g17 4 _ _ (.slice s8 DD.vP.length d8) (heap_setCell_same _ g17 3 _ _ (.int .i64 DD.vC) (heap_setCell_same _ g17 2 _ _ (.int .i64 DD.vB) (heap_setCell_same _ g17 1 _ _ (.int .i64 DD.vA) (heap_setCell_same _ g17 0 _ _ (.string DD.name) hg8)))))
            simpa only [List.setIfInBounds_toArray, List.set_cons_succ, List.set_cons_zero] using h6
          have hsY : wY.heap.size = wr13.heap.size := by rw [hWY]; simp [World.setCell]
          have lieY : shEntryO.lies (Ow lo' hi') wY [.string DD.name, .int .i64 DD.vA, .int .i64 DD.vB, .int .i64 DD.vC, .slice s8 DD.vP.length d8, .slice s9 DD.needs.length d9] DD := by
            refine shEntryO.keep (S := Ow lo' hi') ?_ lie8
            rw [hWY]
            (repeat (refine Kp.trans ?_ (Kp.set hgn)))
            exact fun b hb => rfl
          clear hWY y0 y1 y2 y3 y4 y5 fy hg8 hX lie8
          go_wp2_with fail
          go_meet
          case rel => exact ⟨g17, s8, d8, s9, d9, lo', hi', rfl, rfl, hb8, lieY, by omega, hY⟩
      case rest =>
        obtain ⟨g17, s8, d8, s9, d9, lo', hi', rfl, rfl, hb8, lieY, hhY, hY⟩ := hcut
        have sY := sT.below hY
        have kY := hwz.trans (hY.mono hwz.size)
        have n0Y := owns_of_belowN n0 hY
        have n1Y := owns_of_belowN n1 hY
        have y0 := vblk_cell hb8 0
        have y1 := vblk_cell hb8 1
        have y2 := vblk_cell hb8 2
        have y3 := vblk_cell hb8 3
        have y4 := vblk_cell hb8 4
        have y5 := vblk_cell hb8 5
        simp only [List.getElem?_toArray, List.getElem?_cons_succ, List.getElem?_cons_zero] at y0 y1 y2 y3 y4 y5
        have zr0 := vblk_cell sY.h8 0
        have zr1 := vblk_cell sY.h8 1
        have zr2 := vblk_cell sY.h8 2
        have zr3 := vblk_cell sY.h8 3
        have zr4 := vblk_cell sY.h8 4
        have zr5 := vblk_cell sY.h8 5
        simp only [List.getElem?_toArray, List.getElem?_cons_succ, List.getElem?_cons_zero] at zr0 zr1 zr2 zr3 zr4 zr5
        go_wp2_with fail
        go_at_call 16
        refine (HEQ.out _ s8 d8 s9 d9 q8 c8 q9 c9 _ _ _ _ lieY sY.l8 hhY sY.hh).mono ?_
        rintro e wA ⟨rfl, bA⟩
        have sA := sY.below bA
        have kA := kY.trans (bA.mono kY.size)
        have n0A := owns_of_belowN n0Y bA
        have n1A := owns_of_belowN n1Y bA
        clear sY kY n0Y n1Y lieY bA y0 y1 y2 y3 y4 y5 zr0 zr1 zr2 zr3 zr4 zr5 hb8 hY hhY
        have zz0 := vblk_cell sA.h12 0
        have zz1 := vblk_cell sA.h12 1
        have zz2 := vblk_cell sA.h12 2
        have zz3 := vblk_cell sA.h12 3
        have zz4 := vblk_cell sA.h12 4
        have zz5 := vblk_cell sA.h12 5
        simp only [List.getElem?_toArray, List.getElem?_cons_succ, List.getElem?_cons_zero] at zz0 zz1 zz2 zz3 zz4 zz5
        go_wp2_with fail
        go_at_call 22
        refine (HHG.out _ _ _ _ _ n0A n1A).mono ?_
        rintro e wB ⟨rfl, bB⟩
        have kB := kA.trans (bB.mono kA.size)
        go_wp2_with fail
        go_ret
        exact ⟨rfl, kB⟩
  refine wpAnyH_ready (rs := [1, 9]) (by kernel_rfl) (by simp) ?_
  refine AllReadyH.cons rfl (fun K hK => ?_) (AllReadyH.cons rfl (fun K hK => ?_) AllReadyH.nil)
  · go_simp
    go_wp2_with (go_at_call 13; refine (HT0.out _ (h0)).mono ?_; rintro e wm14 ⟨gE, rfl, rowE, bm14⟩)
    have h14 : Below wz.heap.size wz wm14 := (h0).trans (bm14.mono (h0).size)
    clear hHeld
    refine hK.out _ _ ?G40 (fun hHeld => ?_)
    case G40 => ((try dsimp only); exact KEEP.out _ h14)
    clear hK K
    try simp only [Act.put, List.getElem_toArray, List.getElem_cons_zero, List.getElem_cons_succ, List.setIfInBounds_toArray, List.set_cons_zero, List.set_cons_succ]
    refine wpAnyH_ready (rs := [4, 9]) (by kernel_rfl) (by simp) ?_
    refine AllReadyH.cons rfl (fun K hK => ?_) (AllReadyH.cons rfl (fun K hK => ?_) AllReadyH.nil)
    · go_simp
      go_wp2_with (go_at_call 14; refine (HT1.out _ (h14)).mono ?_; rintro e wk15 ⟨gV, rfl, rdV, bk15⟩)
      have h15 : Below wz.heap.size wz wk15 := (h14).trans (bk15.mono (h14).size)
      have rowE := rowE.grow bk15
      clear hHeld
      refine hK.out _ _ ?G41 (fun hHeld => ?_)
      case G41 => ((try dsimp only); exact KEEP.out _ h15)
      clear hK K
      try simp only [Act.put, List.getElem_toArray, List.getElem_cons_zero, List.getElem_cons_succ, List.setIfInBounds_toArray, List.set_cons_zero, List.set_cons_succ]
      refine wpAnyH_ready (rs := [5, 9]) (by kernel_rfl) (by simp) ?_
      refine AllReadyH.cons rfl (fun K hK => ?_) (AllReadyH.cons rfl (fun K hK => ?_) AllReadyH.nil)
      · go_simp
        go_wp2_with (go_at_call 12; refine (HSP.out _ gE gV (h15) rowE rdV).mono ?_; rintro e wr16 ⟨q8, c8, q9, c9, lo, hi, rfl, lie8, hlo, hhi, br16⟩)
        have h16 : Below wz.heap.size wz wr16 := (h15).trans (br16.mono (h15).size)
        have hlz : wz.heap.size ≤ lo := by have := (h15).size; omega
        have hhz : hi ≤ wr16.heap.size := by omega
        clear hlo hhi
        clear hHeld
        refine hK.out _ _ ?G42 (fun hHeld => ?_)
        case G42 => ((try dsimp only); exact KEEP.out _ h16)
        clear hK K
        try simp only [Act.put, List.getElem_toArray, List.getElem_cons_zero, List.getElem_cons_succ, List.setIfInBounds_toArray, List.set_cons_zero, List.set_cons_succ]
        refine wpAnyH_take (i := 6) (oi := _) (v := ?vT43) rfl (by kernel_rfl) (by kernel_rfl) (by kernel_rfl) (fun _ _ _ h => h) (Or.inl ⟨by rfl, ?yT43⟩) hHeld ?_
        case yT43 => (intro w hSw; (try dsimp only at hSw); go_simp <;> with_reducible rfl)
        try simp only [Act.put, List.getElem_toArray, List.getElem_cons_zero, List.getElem_cons_succ, List.setIfInBounds_toArray, List.set_cons_zero, List.set_cons_succ]
        refine wpAnyH_take (i := 7) (oi := _) (v := ?vT44) rfl (by kernel_rfl) (by kernel_rfl) (by kernel_rfl) (fun _ _ _ h => h) (Or.inl ⟨by rfl, ?yT44⟩) hHeld ?_
        case yT44 => (intro w hSw; (try dsimp only at hSw); go_simp <;> with_reducible rfl)
        try simp only [Act.put, List.getElem_toArray, List.getElem_cons_zero, List.getElem_cons_succ, List.setIfInBounds_toArray, List.set_cons_zero, List.set_cons_succ]
        refine wpAnyH_take (i := 8) (oi := _) (v := ?vT45) rfl (by kernel_rfl) (by kernel_rfl) (by kernel_rfl) (fun _ _ _ h => h) (Or.inl ⟨by rfl, ?yT45⟩) hHeld ?_
        case yT45 => (intro w hSw; (try dsimp only at hSw); go_simp <;> with_reducible rfl)
        try simp only [Act.put, List.getElem_toArray, List.getElem_cons_zero, List.getElem_cons_succ, List.setIfInBounds_toArray, List.set_cons_zero, List.set_cons_succ]
        refine wpAnyH_ready (rs := [9]) (by kernel_rfl) (by simp) ?_
        refine AllReadyH.cons rfl (fun K hK => ?_) AllReadyH.nil
        go_simp
        have kz17 : Below (wr16).heap.size (wr16) ((wr16).alloc (.cells #[.string ⟨#[]⟩, .int .i64 0, .int .i64 0, .int .i64 0, .slice none 0 0, .slice none 0 0] 42 (0, 0))) := (Below.refl _ _).alloc (Nat.le_refl _) _
        have h17 : Below wz.heap.size wz ((wr16).alloc (.cells #[.string ⟨#[]⟩, .int .i64 0, .int .i64 0, .int .i64 0, .slice none 0 0, .slice none 0 0] 42 (0, 0))) := (h16).trans (kz17.mono (h16).size)
        have hg8 : ((wr16).alloc (.cells #[.string ⟨#[]⟩, .int .i64 0, .int .i64 0, .int .i64 0, .slice none 0 0, .slice none 0 0] 42 (0, 0))).heap[(wr16).heap.size]? = some (.cells #[.string ⟨#[]⟩, .int .i64 0, .int .i64 0, .int .i64 0, .slice none 0 0, .slice none 0 0] 42 (0, 0)) := vheap_new _ _
        have hge8 : wz.heap.size ≤ (wr16).heap.size := (h16).size
        have hgn : ¬ Ow lo hi (wr16).heap.size := fun hh => by have := hh.2; omega
        have lie8 := shEntryO.keep (S := Ow lo hi) (fun b hb => kz17.block b (by have := hb.2; omega)) lie8
        have hhz := Nat.le_trans hhz kz17.size
        clear hHeld
        refine hK.out _ ((wr16).alloc (.cells #[.string ⟨#[]⟩, .int .i64 0, .int .i64 0, .int .i64 0, .slice none 0 0, .slice none 0 0] 42 (0, 0))) ?G917 (fun hHeld => ?_)
        case G917 => (exact KEEP.out _ h17)
        clear hK K
        try simp only [Act.put, List.getElem_toArray, List.getElem_cons_zero, List.getElem_cons_succ, List.setIfInBounds_toArray, List.set_cons_zero, List.set_cons_succ]
        obtain ⟨g8, hge⟩ : ∃ g, g = (wr16).heap.size := ⟨_, rfl⟩
        rw [← hge] at hg8 hge8 hgn
        try rw [← hge]
        obtain ⟨wa17, hwa⟩ : ∃ wa, wa = (wr16).alloc (.cells #[.string ⟨#[]⟩, .int .i64 0, .int .i64 0, .int .i64 0, .slice none 0 0, .slice none 0 0] 42 (0, 0)) := ⟨_, rfl⟩
        rw [← hwa] at hg8 h17 lie8 hhz
        try rw [← hwa]
        clear hge hwa kz17
        have hq := FIN.out wa17 g8 gE gV q8 c8 q9 c9 lo hi (h17) hg8 hge8 lie8 hlz hhz hgn
        rw [hΦ] at hq
        exact wpAny_atE hq (by kernel_rfl) (by kernel_rfl)
      · go_simp
        have kz18 : Below (wk15).heap.size (wk15) ((wk15).alloc (.cells #[.string ⟨#[]⟩, .int .i64 0, .int .i64 0, .int .i64 0, .slice none 0 0, .slice none 0 0] 42 (0, 0))) := (Below.refl _ _).alloc (Nat.le_refl _) _
        have h18 : Below wz.heap.size wz ((wk15).alloc (.cells #[.string ⟨#[]⟩, .int .i64 0, .int .i64 0, .int .i64 0, .slice none 0 0, .slice none 0 0] 42 (0, 0))) := (h15).trans (kz18.mono (h15).size)
        have hg8 : ((wk15).alloc (.cells #[.string ⟨#[]⟩, .int .i64 0, .int .i64 0, .int .i64 0, .slice none 0 0, .slice none 0 0] 42 (0, 0))).heap[(wk15).heap.size]? = some (.cells #[.string ⟨#[]⟩, .int .i64 0, .int .i64 0, .int .i64 0, .slice none 0 0, .slice none 0 0] 42 (0, 0)) := vheap_new _ _
        have hge8 : wz.heap.size ≤ (wk15).heap.size := (h15).size
        have rowE := rowE.grow kz18
        have rdV := rdV.grow kz18
        clear hHeld
        refine hK.out _ ((wk15).alloc (.cells #[.string ⟨#[]⟩, .int .i64 0, .int .i64 0, .int .i64 0, .slice none 0 0, .slice none 0 0] 42 (0, 0))) ?G918 (fun hHeld => ?_)
        case G918 => (exact KEEP.out _ h18)
        clear hK K
        try simp only [Act.put, List.getElem_toArray, List.getElem_cons_zero, List.getElem_cons_succ, List.setIfInBounds_toArray, List.set_cons_zero, List.set_cons_succ]
        obtain ⟨g8, hge⟩ : ∃ g, g = (wk15).heap.size := ⟨_, rfl⟩
        rw [← hge] at hg8 hge8
        try rw [← hge]
        obtain ⟨wa18, hwa⟩ : ∃ wa, wa = (wk15).alloc (.cells #[.string ⟨#[]⟩, .int .i64 0, .int .i64 0, .int .i64 0, .slice none 0 0, .slice none 0 0] 42 (0, 0)) := ⟨_, rfl⟩
        rw [← hwa] at hg8 h18 rowE rdV
        try rw [← hwa]
        clear hge hwa kz18
        refine wpAnyH_ready (rs := [5]) (by kernel_rfl) (by simp) ?_
        refine AllReadyH.cons rfl (fun K hK => ?_) AllReadyH.nil
        go_simp
        go_wp2_with (go_at_call 12; refine (HSP.out _ gE gV (h18) rowE rdV).mono ?_; rintro e wr19 ⟨q8, c8, q9, c9, lo, hi, rfl, lie8, hlo, hhi, br19⟩)
        have h19 : Below wz.heap.size wz wr19 := (h18).trans (br19.mono (h18).size)
        have hlz : wz.heap.size ≤ lo := by have := (h18).size; omega
        have hhz : hi ≤ wr19.heap.size := by omega
        have hgn : ¬ Ow lo hi g8 := fun hh => by have h9 := (Array.getElem?_eq_some_iff.1 hg8).1; have := hh.1; omega
        have hg8 := box_below hg8 br19
        clear hlo hhi
        clear hHeld
        refine hK.out _ _ ?G46 (fun hHeld => ?_)
        case G46 => ((try dsimp only); exact KEEP.out _ h19)
        clear hK K
        try simp only [Act.put, List.getElem_toArray, List.getElem_cons_zero, List.getElem_cons_succ, List.setIfInBounds_toArray, List.set_cons_zero, List.set_cons_succ]
        refine wpAnyH_take (i := 6) (oi := _) (v := ?vT47) rfl (by kernel_rfl) (by kernel_rfl) (by kernel_rfl) (fun _ _ _ h => h) (Or.inl ⟨by rfl, ?yT47⟩) hHeld ?_
        case yT47 => (intro w hSw; (try dsimp only at hSw); go_simp <;> with_reducible rfl)
        try simp only [Act.put, List.getElem_toArray, List.getElem_cons_zero, List.getElem_cons_succ, List.setIfInBounds_toArray, List.set_cons_zero, List.set_cons_succ]
        refine wpAnyH_take (i := 7) (oi := _) (v := ?vT48) rfl (by kernel_rfl) (by kernel_rfl) (by kernel_rfl) (fun _ _ _ h => h) (Or.inl ⟨by rfl, ?yT48⟩) hHeld ?_
        case yT48 => (intro w hSw; (try dsimp only at hSw); go_simp <;> with_reducible rfl)
        try simp only [Act.put, List.getElem_toArray, List.getElem_cons_zero, List.getElem_cons_succ, List.setIfInBounds_toArray, List.set_cons_zero, List.set_cons_succ]
        refine wpAnyH_take (i := 8) (oi := _) (v := ?vT49) rfl (by kernel_rfl) (by kernel_rfl) (by kernel_rfl) (fun _ _ _ h => h) (Or.inl ⟨by rfl, ?yT49⟩) hHeld ?_
        case yT49 => (intro w hSw; (try dsimp only at hSw); go_simp <;> with_reducible rfl)
        try simp only [Act.put, List.getElem_toArray, List.getElem_cons_zero, List.getElem_cons_succ, List.setIfInBounds_toArray, List.set_cons_zero, List.set_cons_succ]
        have hq := FIN.out wr19 g8 gE gV q8 c8 q9 c9 lo hi (h19) hg8 hge8 lie8 hlz hhz hgn
        rw [hΦ] at hq
        exact wpAny_atE hq (by kernel_rfl) (by kernel_rfl)
    · go_simp
      have kz20 : Below (wm14).heap.size (wm14) ((wm14).alloc (.cells #[.string ⟨#[]⟩, .int .i64 0, .int .i64 0, .int .i64 0, .slice none 0 0, .slice none 0 0] 42 (0, 0))) := (Below.refl _ _).alloc (Nat.le_refl _) _
      have h20 : Below wz.heap.size wz ((wm14).alloc (.cells #[.string ⟨#[]⟩, .int .i64 0, .int .i64 0, .int .i64 0, .slice none 0 0, .slice none 0 0] 42 (0, 0))) := (h14).trans (kz20.mono (h14).size)
      have hg8 : ((wm14).alloc (.cells #[.string ⟨#[]⟩, .int .i64 0, .int .i64 0, .int .i64 0, .slice none 0 0, .slice none 0 0] 42 (0, 0))).heap[(wm14).heap.size]? = some (.cells #[.string ⟨#[]⟩, .int .i64 0, .int .i64 0, .int .i64 0, .slice none 0 0, .slice none 0 0] 42 (0, 0)) := vheap_new _ _
      have hge8 : wz.heap.size ≤ (wm14).heap.size := (h14).size
      have rowE := rowE.grow kz20
      clear hHeld
      refine hK.out _ ((wm14).alloc (.cells #[.string ⟨#[]⟩, .int .i64 0, .int .i64 0, .int .i64 0, .slice none 0 0, .slice none 0 0] 42 (0, 0))) ?G920 (fun hHeld => ?_)
      case G920 => (exact KEEP.out _ h20)
      clear hK K
      try simp only [Act.put, List.getElem_toArray, List.getElem_cons_zero, List.getElem_cons_succ, List.setIfInBounds_toArray, List.set_cons_zero, List.set_cons_succ]
      obtain ⟨g8, hge⟩ : ∃ g, g = (wm14).heap.size := ⟨_, rfl⟩
      rw [← hge] at hg8 hge8
      try rw [← hge]
      obtain ⟨wa20, hwa⟩ : ∃ wa, wa = (wm14).alloc (.cells #[.string ⟨#[]⟩, .int .i64 0, .int .i64 0, .int .i64 0, .slice none 0 0, .slice none 0 0] 42 (0, 0)) := ⟨_, rfl⟩
      rw [← hwa] at hg8 h20 rowE
      try rw [← hwa]
      clear hge hwa kz20
      refine wpAnyH_ready (rs := [4]) (by kernel_rfl) (by simp) ?_
      refine AllReadyH.cons rfl (fun K hK => ?_) AllReadyH.nil
      go_simp
      go_wp2_with (go_at_call 14; refine (HT1.out _ (h20)).mono ?_; rintro e wk21 ⟨gV, rfl, rdV, bk21⟩)
      have h21 : Below wz.heap.size wz wk21 := (h20).trans (bk21.mono (h20).size)
      have rowE := rowE.grow bk21
      have hg8 := box_below hg8 bk21
      clear hHeld
      refine hK.out _ _ ?G50 (fun hHeld => ?_)
      case G50 => ((try dsimp only); exact KEEP.out _ h21)
      clear hK K
      try simp only [Act.put, List.getElem_toArray, List.getElem_cons_zero, List.getElem_cons_succ, List.setIfInBounds_toArray, List.set_cons_zero, List.set_cons_succ]
      refine wpAnyH_ready (rs := [5]) (by kernel_rfl) (by simp) ?_
      refine AllReadyH.cons rfl (fun K hK => ?_) AllReadyH.nil
      go_simp
      go_wp2_with (go_at_call 12; refine (HSP.out _ gE gV (h21) rowE rdV).mono ?_; rintro e wr22 ⟨q8, c8, q9, c9, lo, hi, rfl, lie8, hlo, hhi, br22⟩)
      have h22 : Below wz.heap.size wz wr22 := (h21).trans (br22.mono (h21).size)
      have hlz : wz.heap.size ≤ lo := by have := (h21).size; omega
      have hhz : hi ≤ wr22.heap.size := by omega
      have hgn : ¬ Ow lo hi g8 := fun hh => by have h9 := (Array.getElem?_eq_some_iff.1 hg8).1; have := hh.1; omega
      have hg8 := box_below hg8 br22
      clear hlo hhi
      clear hHeld
      refine hK.out _ _ ?G51 (fun hHeld => ?_)
      case G51 => ((try dsimp only); exact KEEP.out _ h22)
      clear hK K
      try simp only [Act.put, List.getElem_toArray, List.getElem_cons_zero, List.getElem_cons_succ, List.setIfInBounds_toArray, List.set_cons_zero, List.set_cons_succ]
      refine wpAnyH_take (i := 6) (oi := _) (v := ?vT52) rfl (by kernel_rfl) (by kernel_rfl) (by kernel_rfl) (fun _ _ _ h => h) (Or.inl ⟨by rfl, ?yT52⟩) hHeld ?_
      case yT52 => (intro w hSw; (try dsimp only at hSw); go_simp <;> with_reducible rfl)
      try simp only [Act.put, List.getElem_toArray, List.getElem_cons_zero, List.getElem_cons_succ, List.setIfInBounds_toArray, List.set_cons_zero, List.set_cons_succ]
      refine wpAnyH_take (i := 7) (oi := _) (v := ?vT53) rfl (by kernel_rfl) (by kernel_rfl) (by kernel_rfl) (fun _ _ _ h => h) (Or.inl ⟨by rfl, ?yT53⟩) hHeld ?_
      case yT53 => (intro w hSw; (try dsimp only at hSw); go_simp <;> with_reducible rfl)
      try simp only [Act.put, List.getElem_toArray, List.getElem_cons_zero, List.getElem_cons_succ, List.setIfInBounds_toArray, List.set_cons_zero, List.set_cons_succ]
      refine wpAnyH_take (i := 8) (oi := _) (v := ?vT54) rfl (by kernel_rfl) (by kernel_rfl) (by kernel_rfl) (fun _ _ _ h => h) (Or.inl ⟨by rfl, ?yT54⟩) hHeld ?_
      case yT54 => (intro w hSw; (try dsimp only at hSw); go_simp <;> with_reducible rfl)
      try simp only [Act.put, List.getElem_toArray, List.getElem_cons_zero, List.getElem_cons_succ, List.setIfInBounds_toArray, List.set_cons_zero, List.set_cons_succ]
      have hq := FIN.out wr22 g8 gE gV q8 c8 q9 c9 lo hi (h22) hg8 hge8 lie8 hlz hhz hgn
      rw [hΦ] at hq
      exact wpAny_atE hq (by kernel_rfl) (by kernel_rfl)
  · go_simp
    have kz23 : Below (wd).heap.size (wd) ((wd).alloc (.cells #[.string ⟨#[]⟩, .int .i64 0, .int .i64 0, .int .i64 0, .slice none 0 0, .slice none 0 0] 42 (0, 0))) := (Below.refl _ _).alloc (Nat.le_refl _) _
    have h23 : Below wz.heap.size wz ((wd).alloc (.cells #[.string ⟨#[]⟩, .int .i64 0, .int .i64 0, .int .i64 0, .slice none 0 0, .slice none 0 0] 42 (0, 0))) := (h0).trans (kz23.mono (h0).size)
    have hg8 : ((wd).alloc (.cells #[.string ⟨#[]⟩, .int .i64 0, .int .i64 0, .int .i64 0, .slice none 0 0, .slice none 0 0] 42 (0, 0))).heap[(wd).heap.size]? = some (.cells #[.string ⟨#[]⟩, .int .i64 0, .int .i64 0, .int .i64 0, .slice none 0 0, .slice none 0 0] 42 (0, 0)) := vheap_new _ _
    have hge8 : wz.heap.size ≤ (wd).heap.size := (h0).size
    clear hHeld
    refine hK.out _ ((wd).alloc (.cells #[.string ⟨#[]⟩, .int .i64 0, .int .i64 0, .int .i64 0, .slice none 0 0, .slice none 0 0] 42 (0, 0))) ?G923 (fun hHeld => ?_)
    case G923 => (exact KEEP.out _ h23)
    clear hK K
    try simp only [Act.put, List.getElem_toArray, List.getElem_cons_zero, List.getElem_cons_succ, List.setIfInBounds_toArray, List.set_cons_zero, List.set_cons_succ]
    obtain ⟨g8, hge⟩ : ∃ g, g = (wd).heap.size := ⟨_, rfl⟩
    rw [← hge] at hg8 hge8
    try rw [← hge]
    obtain ⟨wa23, hwa⟩ : ∃ wa, wa = (wd).alloc (.cells #[.string ⟨#[]⟩, .int .i64 0, .int .i64 0, .int .i64 0, .slice none 0 0, .slice none 0 0] 42 (0, 0)) := ⟨_, rfl⟩
    rw [← hwa] at hg8 h23
    try rw [← hwa]
    clear hge hwa kz23
    refine wpAnyH_ready (rs := [1]) (by kernel_rfl) (by simp) ?_
    refine AllReadyH.cons rfl (fun K hK => ?_) AllReadyH.nil
    go_simp
    go_wp2_with (go_at_call 13; refine (HT0.out _ (h23)).mono ?_; rintro e wm24 ⟨gE, rfl, rowE, bm24⟩)
    have h24 : Below wz.heap.size wz wm24 := (h23).trans (bm24.mono (h23).size)
    have hg8 := box_below hg8 bm24
    clear hHeld
    refine hK.out _ _ ?G55 (fun hHeld => ?_)
    case G55 => ((try dsimp only); exact KEEP.out _ h24)
    clear hK K
    try simp only [Act.put, List.getElem_toArray, List.getElem_cons_zero, List.getElem_cons_succ, List.setIfInBounds_toArray, List.set_cons_zero, List.set_cons_succ]
    refine wpAnyH_ready (rs := [4]) (by kernel_rfl) (by simp) ?_
    refine AllReadyH.cons rfl (fun K hK => ?_) AllReadyH.nil
    go_simp
    go_wp2_with (go_at_call 14; refine (HT1.out _ (h24)).mono ?_; rintro e wk25 ⟨gV, rfl, rdV, bk25⟩)
    have h25 : Below wz.heap.size wz wk25 := (h24).trans (bk25.mono (h24).size)
    have rowE := rowE.grow bk25
    have hg8 := box_below hg8 bk25
    clear hHeld
    refine hK.out _ _ ?G56 (fun hHeld => ?_)
    case G56 => ((try dsimp only); exact KEEP.out _ h25)
    clear hK K
    try simp only [Act.put, List.getElem_toArray, List.getElem_cons_zero, List.getElem_cons_succ, List.setIfInBounds_toArray, List.set_cons_zero, List.set_cons_succ]
    refine wpAnyH_ready (rs := [5]) (by kernel_rfl) (by simp) ?_
    refine AllReadyH.cons rfl (fun K hK => ?_) AllReadyH.nil
    go_simp
    go_wp2_with (go_at_call 12; refine (HSP.out _ gE gV (h25) rowE rdV).mono ?_; rintro e wr26 ⟨q8, c8, q9, c9, lo, hi, rfl, lie8, hlo, hhi, br26⟩)
    have h26 : Below wz.heap.size wz wr26 := (h25).trans (br26.mono (h25).size)
    have hlz : wz.heap.size ≤ lo := by have := (h25).size; omega
    have hhz : hi ≤ wr26.heap.size := by omega
    have hgn : ¬ Ow lo hi g8 := fun hh => by have h9 := (Array.getElem?_eq_some_iff.1 hg8).1; have := hh.1; omega
    have hg8 := box_below hg8 br26
    clear hlo hhi
    clear hHeld
    refine hK.out _ _ ?G57 (fun hHeld => ?_)
    case G57 => ((try dsimp only); exact KEEP.out _ h26)
    clear hK K
    try simp only [Act.put, List.getElem_toArray, List.getElem_cons_zero, List.getElem_cons_succ, List.setIfInBounds_toArray, List.set_cons_zero, List.set_cons_succ]
    refine wpAnyH_take (i := 6) (oi := _) (v := ?vT58) rfl (by kernel_rfl) (by kernel_rfl) (by kernel_rfl) (fun _ _ _ h => h) (Or.inl ⟨by rfl, ?yT58⟩) hHeld ?_
    case yT58 => (intro w hSw; (try dsimp only at hSw); go_simp <;> with_reducible rfl)
    try simp only [Act.put, List.getElem_toArray, List.getElem_cons_zero, List.getElem_cons_succ, List.setIfInBounds_toArray, List.set_cons_zero, List.set_cons_succ]
    refine wpAnyH_take (i := 7) (oi := _) (v := ?vT59) rfl (by kernel_rfl) (by kernel_rfl) (by kernel_rfl) (fun _ _ _ h => h) (Or.inl ⟨by rfl, ?yT59⟩) hHeld ?_
    case yT59 => (intro w hSw; (try dsimp only at hSw); go_simp <;> with_reducible rfl)
    try simp only [Act.put, List.getElem_toArray, List.getElem_cons_zero, List.getElem_cons_succ, List.setIfInBounds_toArray, List.set_cons_zero, List.set_cons_succ]
    refine wpAnyH_take (i := 8) (oi := _) (v := ?vT60) rfl (by kernel_rfl) (by kernel_rfl) (by kernel_rfl) (fun _ _ _ h => h) (Or.inl ⟨by rfl, ?yT60⟩) hHeld ?_
    case yT60 => (intro w hSw; (try dsimp only at hSw); go_simp <;> with_reducible rfl)
    try simp only [Act.put, List.getElem_toArray, List.getElem_cons_zero, List.getElem_cons_succ, List.setIfInBounds_toArray, List.set_cons_zero, List.set_cons_succ]
    have hq := FIN.out wr26 g8 gE gV q8 c8 q9 c9 lo hi (h26) hg8 hge8 lie8 hlz hhz hgn
    rw [hΦ] at hq
    exact wpAny_atE hq (by kernel_rfl) (by kernel_rfl)
end Go.Proofs.YtkijckpkojcdcaaDoor
