/-
  Contracts for the walks, several texts in one: each part says what it proves, and under which conditions.
-/
import Derived.Test.YtiadcebolcdhbaaQ6
import Derived.Test.YtiadcebolcdhbaaQ4

/-! The law on RuleAt, walked: whatever comes in, the program and the specification answer alike, nothing is written into an argument, and the answer owns its memory; condition: what comes in lies in memory. -/
namespace Go.Proofs.Ytiadcebolcdhbaa
open Go.RowKit
set_option linter.unusedSimpArgs false
set_option linter.unusedVariables false

theorem cells5R {w : World} {g : Nat} {a b c d e : Value} {t : TypeId} (h : w.heap[g]? = some (.cells #[a, b, c, d, e] t (0, 0))) : w.cell? ⟨g, 0, none⟩ = some a ∧ w.cell? ⟨g, 1, none⟩ = some b ∧ w.cell? ⟨g, 2, none⟩ = some c ∧ w.cell? ⟨g, 3, none⟩ = some d ∧ w.cell? ⟨g, 4, none⟩ = some e := by
  have h0 := vblk_cell h 0
  have h1 := vblk_cell h 1
  have h2 := vblk_cell h 2
  have h3 := vblk_cell h 3
  have h4 := vblk_cell h 4
  simp only [List.getElem?_toArray, List.getElem?_cons_succ, List.getElem?_cons_zero] at h0 h1 h2 h3 h4
  exact ⟨h0, h1, h2, h3, h4⟩

set_option maxHeartbeats 8000000 in
set_option maxRecDepth 100000 in
theorem ruleAt_walk (a0 : Value) (z0 : List RuleD) (a1 : ByteArray) (hs1 : a1.size ≤ maxLen) (w : World) (r0 : RowIn shRule (· < w.heap.size) w a0 z0) :
    Calls Try.prog 7 #[a0, .string a1] w fun e w' => e = .returned (.bool true) ∧ Below w.heap.size w w' := by
  obtain ⟨q0, cap0, hq0⟩ := r0.slice
  unfold maxLen at hs1
  by_cases hbig1 : 1048576 < a1.size
  · have hb : (1048576 : Int) < (a1.size : Int) := by omega
    subst hq0
    clear r0
    go_enter Try.func7, Try.ntmps7
    go_wp2_with fail
    go_ret
    exact ⟨rfl, Below.refl _ _⟩
  have hb1' : ¬ (1048576 : Int) < (a1.size : Int) := by omega
  have hn1 : a1.size ≤ 1048576 := by omega
  have hin : ∀ w1, Below w.heap.size w w1 → RowIn shRule (· < w1.heap.size) w1 a0 z0 := fun w1 h => r0.below h
  have HZ : Hid (∀ w1, Below w.heap.size w w1 → Calls Try.prog 19 #[a0, .int .i64 1048576] w1 fun e w' => e = .returned (.int .i64 (leftW (wtRow wtRule z0) 1048576)) ∧ Below w1.heap.size w1 w') := fun w1 h => szRuleS_c _ _ z0 _ (by omega) (by omega) w1 (hin w1 h) (fun b h => h)
  subst hq0
  by_cases hbig : 1048576 < wtRow wtRule z0
  · have e1 : leftW (wtRow wtRule z0) 1048576 = -1 := leftW_bad (by omega)
    rw [e1] at HZ
    clear e1 hin r0
    go_enter Try.func7, Try.ntmps7
    go_wp2_with (go_at_call 19; refine (HZ.out _ (Below.refl _ _)).mono ?_; rintro e w1 ⟨rfl, hb1⟩)
    go_ret
    exact ⟨rfl, hb1⟩
  have hwt : wtRow wtRule z0 ≤ 1048576 := by omega
  obtain ⟨p, hp⟩ : ∃ p, p = leftW (wtRow wtRule z0) 1048576 := ⟨_, rfl⟩
  rw [← hp] at HZ
  have hp0 : 0 ≤ p := by rw [hp, leftW_good (by omega)]; omega
  clear hp
  have hsl := smallRs_of hwt
  have pl : ∀ {W : World} {g l h : Nat}, RowOwn shRuleO 52 (Ow l h) W (.slice (some ⟨g, 0, none⟩) z0.length z0.length) z0 → RowIn shRule (Ow l h) W (.slice (some ⟨g, 0, none⟩) z0.length z0.length) z0 := fun h => RowIn.as (sh := shRuleO) (sh' := shRule) rfl (fun S w cs x h => liesRule_plain h) h.plain
  have HT : Hid (∀ w1, Below w.heap.size w w1 → Calls Try.prog 21 #[.slice q0 z0.length cap0] w1 fun e w' => ∃ g, e = .returned (.slice (some ⟨g, 0, none⟩) z0.length z0.length) ∧ RowOwn shRuleO 52 (Ow w1.heap.size w'.heap.size) w' (.slice (some ⟨g, 0, none⟩) z0.length z0.length) z0 ∧ Below w1.heap.size w1 w') := fun w1 h => toRuleS_c _ _ z0 w1 (hin w1 h) (fun b h => h) hwt
  have hRw := atR_small hwt hn1
  obtain ⟨R, hR⟩ : ∃ R, R = atR z0 a1 := ⟨_, rfl⟩
  obtain ⟨ok, hok⟩ : ∃ R, R = atOk z0 a1 := ⟨_, rfl⟩
  rw [← hR] at hRw
  have HSP : Hid (∀ w1 g l, RowOwn shRuleO 52 (Ow l w1.heap.size) w1 (.slice (some ⟨g, 0, none⟩) z0.length z0.length) z0 → Calls Try.prog 33 #[.slice (some ⟨g, 0, none⟩) z0.length z0.length, .string a1] w1 fun e w' => ∃ u0 u1 u2, e = .returned (.tuple #[.agg #[.string R.task, u0, u1, u2, .bool R.keep], .bool ok]) ∧ Rec3 w1.heap.size w'.heap.size w' u0 u1 u2 R ∧ Below w1.heap.size w1 w') := fun w1 g l h => by
    rw [hR, hok]
    exact specAt_c (Ow l w1.heap.size) _ z0 a1 w1 h.plain (fun b hb => hb.2) hwt hn1
  have HIM : Hid (∀ w1 g l h, RowOwn shRuleO 52 (Ow l h) w1 (.slice (some ⟨g, 0, none⟩) z0.length z0.length) z0 → h ≤ w1.heap.size → Calls Try.prog 34 #[.slice (some ⟨g, 0, none⟩) z0.length z0.length, .string a1] w1 fun e w' => ∃ u0 u1 u2, e = .returned (.tuple #[.agg #[.string R.task, u0, u1, u2, .bool R.keep], .bool ok]) ∧ Rec3 w1.heap.size w'.heap.size w' u0 u1 u2 R ∧ Below w1.heap.size w1 w') := fun w1 g l h a b => by
    rw [hR, hok]
    exact implAt_c (Ow l h) _ z0 a1 w1 (pl a) (fun b' hb => Nat.lt_of_lt_of_le hb.2 b) hwt hn1
  have HEQ : Hid (∀ W l h l' h' u0 u1 u2 v0 v1 v2, Rec3 l h W u0 u1 u2 R → Rec3 l' h' W v0 v1 v2 R → Calls Try.prog 29 #[.agg #[.string R.task, u0, u1, u2, .bool R.keep], .agg #[.string R.task, v0, v1, v2, .bool R.keep]] W fun e w' => e = .returned (.bool true) ∧ Below W.heap.size W w') := fun W l h l' h' u0 u1 u2 v0 v1 v2 a b => eqRule_c (Ow l h) (Ow l' h') R _ _ W a.lies b.lies (fun b' hb => Nat.lt_of_lt_of_le hb.2 a.a0.2) (fun b' hb => Nat.lt_of_lt_of_le hb.2 b.a0.2) hRw
  have HES : Hid (∀ W g g' l1 h1 l2 h2, RowOwn shRuleO 52 (Ow l1 h1) W (.slice (some ⟨g, 0, none⟩) z0.length z0.length) z0 → h1 ≤ W.heap.size → RowOwn shRuleO 52 (Ow l2 h2) W (.slice (some ⟨g', 0, none⟩) z0.length z0.length) z0 → h2 ≤ W.heap.size → Calls Try.prog 23 #[.slice (some ⟨g, 0, none⟩) z0.length z0.length, .slice (some ⟨g', 0, none⟩) z0.length z0.length] W fun e w' => e = .returned (.bool true) ∧ Below W.heap.size W w') := fun W g g' l1 h1 l2 h2 a c b d => eqRuleS_c (Ow l1 h1) (Ow l2 h2) _ _ z0 W (pl a) (pl b) (fun b hb => Nat.lt_of_lt_of_le hb.2 c) (fun b hb => Nat.lt_of_lt_of_le hb.2 d) hwt
  have hcE := cntRs_wt z0
  obtain ⟨K1, hK1⟩ : ∃ K, K = 1 + cntRs z0 := ⟨_, rfl⟩
  have hK1n : ¬ (K1 : Int) < 0 := by omega
  have HMX : Hid (∀ W g l h, RowOwn shRuleO 52 (Ow l h) W (.slice (some ⟨g, 0, none⟩) z0.length z0.length) z0 → Calls Try.prog 35 #[.slice (some ⟨g, 0, none⟩) z0.length z0.length, .int .i64 1] W fun e w' => e = .returned (.int .i64 (K1 : Int)) ∧ Chg (Ow l h) W w') := fun W g l h a => by rw [hK1]; exact markRuleS_c (Ow l h) _ z0 1 W a (Nat.le_refl _) (by omega)
  obtain ⟨M1, hM1⟩ : ∃ K, K = 1 + R.on.length + R.ins.length + R.envs.length := ⟨_, rfl⟩
  have hM1n : ¬ (M1 : Int) < 0 := by omega
  have HMV : Hid (∀ W l h u0 u1 u2, Rec3 l h W u0 u1 u2 R → Calls Try.prog 30 #[.agg #[.string R.task, u0, u1, u2, .bool R.keep], .int .i64 1] W fun e w' => e = .returned (.int .i64 (M1 : Int)) ∧ RecM (Ow l h) w' u0 u1 u2 R ∧ Chg (Ow l h) W w') := fun W l h u0 u1 u2 a => by rw [hM1]; exact markRule_c l h u0 u1 u2 R W a hRw
  have HHV : Hid (∀ W l h u0 u1 u2, RecM (Ow l h) W u0 u1 u2 R → Calls Try.prog 36 #[.agg #[.string R.task, u0, u1, u2, .bool R.keep], .int .i64 1] W fun e w' => e = .returned (.int .i64 (M1 : Int)) ∧ Below W.heap.size W w') := fun W l h u0 u1 u2 a => by rw [hM1]; exact heldRule_c (Ow l h) u0 u1 u2 R W a hRw
  obtain ⟨T, hT⟩ : ∃ T, T = R.task := ⟨_, rfl⟩
  obtain ⟨KP, hKP⟩ : ∃ T, T = R.keep := ⟨_, rfl⟩
  simp only [← hT, ← hKP] at HSP HIM HEQ HMV HHV
  clear hin r0 hbig hcE hK1 hM1 hwt hn1 hbig1 hs1 hR hok hRw hsl pl hT hKP
  cases ok
  all_goals
    go_enter Try.func7, Try.ntmps7
    go_wp2_with fail
    go_at_call 19
    refine (HZ.out _ (Below.refl _ _)).mono ?_
    rintro e w1 ⟨rfl, b⟩
    have k1 := b
    have m1 := b.size
    clear b HZ
    go_wp2_with fail
    go_at_call 21
    refine (HT.out _ k1).mono ?_
    rintro e w2 ⟨g2, rfl, F2, b⟩
    have k2 := k1.trans (b.mono k1.size)
    have m2 := b.size
    clear b
    go_wp2_with fail
    go_at_call 33
    refine (HSP.out _ g2 _ F2).mono ?_
    rintro e w3 ⟨u0, u1, u2, rfl, R6, b⟩
    have k3 := k2.trans (b.mono k2.size)
    have m3 := b.size
    clear b F2 HSP
    obtain ⟨x0, y0, x1, y1, x2, y2, eu0, eu1, eu2⟩ := R6.slices
    subst eu0 eu1 eu2
    have b : Below w3.heap.size w3 (w3.alloc (.cells #[.string T, .slice x0 R.on.length y0, .slice x1 R.ins.length y1, .slice x2 R.envs.length y2, .bool KP] 52 (0, 0))) := (Below.refl _ _).alloc (Nat.le_refl _) _
    have hN : (w3.alloc (.cells #[.string T, .slice x0 R.on.length y0, .slice x1 R.ins.length y1, .slice x2 R.envs.length y2, .bool KP] 52 (0, 0))).heap[w3.heap.size]? = some (.cells #[.string T, .slice x0 R.on.length y0, .slice x1 R.ins.length y1, .slice x2 R.envs.length y2, .bool KP] 52 (0, 0)) := vheap_new _ _
    have s3 : (w3.alloc (.cells #[.string T, .slice x0 R.on.length y0, .slice x1 R.ins.length y1, .slice x2 R.envs.length y2, .bool KP] 52 (0, 0))).heap.size = w3.heap.size + 1 := by simp
    go_wp2_with fail
    obtain ⟨wa, hwa⟩ : ∃ wa, wa = w3.alloc (.cells #[.string T, .slice x0 R.on.length y0, .slice x1 R.ins.length y1, .slice x2 R.envs.length y2, .bool KP] 52 (0, 0)) := ⟨_, rfl⟩
    rw [← hwa] at b hN s3
    rw [← hwa]
    clear hwa
    have k4 := k3.trans (b.mono k3.size)
    have m4 := b.size
    replace R6 := R6.below b
    clear b
    have B6 := hN
    clear hN
    go_at_call 21
    refine (HT.out _ k4).mono ?_
    rintro e w4 ⟨g4, rfl, F4, b⟩
    have k5 := k4.trans (b.mono k4.size)
    have m5 := b.size
    replace R6 := R6.below b
    replace B6 := box_below B6 b
    clear b
    go_wp2_with fail
    go_at_call 34
    refine (HIM.out _ g4 _ _ F4 (Nat.le_refl _)).mono ?_
    rintro e w5 ⟨v0, v1, v2, rfl, R9, b⟩
    have k6 := k5.trans (b.mono k5.size)
    have m6 := b.size
    replace R6 := R6.below b
    replace B6 := box_below B6 b
    replace F4 := F4.keep (Kp.of b (fun b hb => by have := hb.2; omega))
    clear b
    obtain ⟨i0, j0, i1, j1, i2, j2, ev0, ev1, ev2⟩ := R9.slices
    subst ev0 ev1 ev2
    have b : Below w5.heap.size w5 (w5.alloc (.cells #[.string T, .slice i0 R.on.length j0, .slice i1 R.ins.length j1, .slice i2 R.envs.length j2, .bool KP] 52 (0, 0))) := (Below.refl _ _).alloc (Nat.le_refl _) _
    have hN : (w5.alloc (.cells #[.string T, .slice i0 R.on.length j0, .slice i1 R.ins.length j1, .slice i2 R.envs.length j2, .bool KP] 52 (0, 0))).heap[w5.heap.size]? = some (.cells #[.string T, .slice i0 R.on.length j0, .slice i1 R.ins.length j1, .slice i2 R.envs.length j2, .bool KP] 52 (0, 0)) := vheap_new _ _
    have s5 : (w5.alloc (.cells #[.string T, .slice i0 R.on.length j0, .slice i1 R.ins.length j1, .slice i2 R.envs.length j2, .bool KP] 52 (0, 0))).heap.size = w5.heap.size + 1 := by simp
    obtain ⟨f0, f1, f2, f3, f4⟩ := cells5R (box_below B6 b)
    go_wp2_with fail
    obtain ⟨wb, hwa⟩ : ∃ wa, wa = w5.alloc (.cells #[.string T, .slice i0 R.on.length j0, .slice i1 R.ins.length j1, .slice i2 R.envs.length j2, .bool KP] 52 (0, 0)) := ⟨_, rfl⟩
    rw [← hwa] at b hN s5 f0 f1 f2 f3 f4
    rw [← hwa]
    clear hwa
    have k7 := k6.trans (b.mono k6.size)
    have m7 := b.size
    replace R6 := R6.below b
    replace B6 := box_below B6 b
    replace F4 := F4.keep (Kp.of b (fun b hb => by have := hb.2; omega))
    replace R9 := R9.below b
    clear b
    have B9 := hN
    clear hN
    go_at_call 29
    refine (HEQ.out _ _ _ _ _ _ _ _ _ _ _ R9 R6).mono ?_
    rintro e w6 ⟨rfl, b⟩
    have k8 := k7.trans (b.mono k7.size)
    have m8 := b.size
    replace R6 := R6.below b
    replace B6 := box_below B6 b
    replace F4 := F4.keep (Kp.of b (fun b hb => by have := hb.2; omega))
    replace R9 := R9.below b
    replace B9 := box_below B9 b
    clear b f0 f1 f2 f3 f4
    go_wp2_with fail
    go_at_call 21
    refine (HT.out _ k8).mono ?_
    rintro e w7 ⟨g7, rfl, F7, b⟩
    have k9 := k8.trans (b.mono k8.size)
    have m9 := b.size
    replace R6 := R6.below b
    replace B6 := box_below B6 b
    replace F4 := F4.keep (Kp.of b (fun b hb => by have := hb.2; omega))
    replace R9 := R9.below b
    replace B9 := box_below B9 b
    clear b
    go_wp2_with fail
    go_at_call 23
    refine (HES.out _ _ _ _ _ _ _ F4 (by omega) F7 (Nat.le_refl _)).mono ?_
    rintro e w8 ⟨rfl, b⟩
    have k10 := k9.trans (b.mono k9.size)
    have m10 := b.size
    replace R6 := R6.below b
    replace B6 := box_below B6 b
    replace F4 := F4.keep (Kp.of b (fun b hb => by have := hb.2; omega))
    replace R9 := R9.below b
    replace B9 := box_below B9 b
    clear b F7 HES
    go_wp2_with fail
    go_at_call 35
    refine (HMX.out _ _ _ _ F4).mono ?_
    rintro e w9 ⟨rfl, ch⟩
    have k11 := below_chgW k10 ch (fun b hb => by have := hb.1; omega) k10.size
    have m11 := ch.size
    replace R6 := R6.chg ch (fun b hb h => by have h1 := h.1; have h2 := h.2; have h3 := hb.1; have h4 := hb.2; omega)
    replace B6 := (ch.block _ (Array.getElem?_eq_some_iff.1 B6).1 (fun h => by have h1 := h.1; have h2 := h.2; omega)).trans B6
    replace R9 := R9.chg ch (fun b hb h => by have h1 := h.1; have h2 := h.2; have h3 := hb.1; have h4 := hb.2; omega)
    replace B9 := (ch.block _ (Array.getElem?_eq_some_iff.1 B9).1 (fun h => by have h1 := h.1; have h2 := h.2; omega)).trans B9
    clear ch HMX
    obtain ⟨f0, f1, f2, f3, f4⟩ := cells5R B6
    obtain ⟨d0, d1, d2, d3, d4⟩ := cells5R B9
    go_wp2_with fail
    go_at_call 29
    refine (HEQ.out _ _ _ _ _ _ _ _ _ _ _ R9 R6).mono ?_
    rintro e w10 ⟨rfl, b⟩
    clear f0 f1 f2 f3 f4 d0 d1 d2 d3 d4
    have k12 := k11.trans (b.mono k11.size)
    have m12 := b.size
    replace R6 := R6.below b
    replace B6 := box_below B6 b
    replace R9 := R9.below b
    replace B9 := box_below B9 b
    clear b
    obtain ⟨d0, d1, d2, d3, d4⟩ := cells5R B9
    go_wp2_with fail
    go_at_call 30
    refine (HMV.out _ _ _ _ _ _ R9).mono ?_
    rintro e w11 ⟨rfl, M9, ch⟩
    clear d0 d1 d2 d3 d4
    have k13 := below_chgW k12 ch (fun b hb => by have := hb.1; omega) k12.size
    have m13 := ch.size
    replace R6 := R6.chg ch (fun b hb h => by have h1 := h.1; have h2 := h.2; have h3 := hb.1; have h4 := hb.2; omega)
    replace B6 := (ch.block _ (Array.getElem?_eq_some_iff.1 B6).1 (fun h => by have h1 := h.1; have h2 := h.2; omega)).trans B6
    replace B9 := (ch.block _ (Array.getElem?_eq_some_iff.1 B9).1 (fun h => by have h1 := h.1; have h2 := h.2; omega)).trans B9
    clear ch HMV
    obtain ⟨d0, d1, d2, d3, d4⟩ := cells5R B9
    go_wp2_with fail
    go_at_call 36
    refine (HHV.out _ _ _ _ _ _ M9).mono ?_
    rintro e w12 ⟨rfl, b⟩
    clear d0 d1 d2 d3 d4
    have k14 := k13.trans (b.mono k13.size)
    have m14 := b.size
    replace R6 := R6.below b
    replace B6 := box_below B6 b
    replace B9 := box_below B9 b
    replace M9 := M9.keep (Kp.of b (fun b hb => by have := hb.2; omega))
    clear b
    go_wp2_with fail
    go_at_call 21
    refine (HT.out _ k14).mono ?_
    rintro e w13 ⟨g13, rfl, F13, b⟩
    have k15 := k14.trans (b.mono k14.size)
    have m15 := b.size
    replace R6 := R6.below b
    replace B6 := box_below B6 b
    replace B9 := box_below B9 b
    replace M9 := M9.keep (Kp.of b (fun b hb => by have := hb.2; omega))
    clear b HT
    go_wp2_with fail
    go_at_call 34
    refine (HIM.out _ g13 _ _ F13 (Nat.le_refl _)).mono ?_
    rintro e w14 ⟨n0, n1, n2, rfl, R14, b⟩
    have k16 := k15.trans (b.mono k15.size)
    have m16 := b.size
    replace R6 := R6.below b
    replace B6 := box_below B6 b
    replace B9 := box_below B9 b
    replace M9 := M9.keep (Kp.of b (fun b hb => by have := hb.2; omega))
    clear b F13 HIM
    obtain ⟨c0, e0, c1, e1, c2, e2, en0, en1, en2⟩ := R14.slices
    subst en0 en1 en2
    have b : Below w14.heap.size w14 (w14.alloc (.cells #[.string T, .slice c0 R.on.length e0, .slice c1 R.ins.length e1, .slice c2 R.envs.length e2, .bool KP] 52 (0, 0))) := (Below.refl _ _).alloc (Nat.le_refl _) _
    have hN : (w14.alloc (.cells #[.string T, .slice c0 R.on.length e0, .slice c1 R.ins.length e1, .slice c2 R.envs.length e2, .bool KP] 52 (0, 0))).heap[w14.heap.size]? = some (.cells #[.string T, .slice c0 R.on.length e0, .slice c1 R.ins.length e1, .slice c2 R.envs.length e2, .bool KP] 52 (0, 0)) := vheap_new _ _
    have s14 : (w14.alloc (.cells #[.string T, .slice c0 R.on.length e0, .slice c1 R.ins.length e1, .slice c2 R.envs.length e2, .bool KP] 52 (0, 0))).heap.size = w14.heap.size + 1 := by simp
    obtain ⟨f0, f1, f2, f3, f4⟩ := cells5R (box_below B6 b)
    go_wp2_with fail
    obtain ⟨wc, hwa⟩ : ∃ wa, wa = w14.alloc (.cells #[.string T, .slice c0 R.on.length e0, .slice c1 R.ins.length e1, .slice c2 R.envs.length e2, .bool KP] 52 (0, 0)) := ⟨_, rfl⟩
    rw [← hwa] at b hN s14 f0 f1 f2 f3 f4
    rw [← hwa]
    clear hwa
    have k17 := k16.trans (b.mono k16.size)
    have m17 := b.size
    replace R6 := R6.below b
    replace B6 := box_below B6 b
    replace B9 := box_below B9 b
    replace M9 := M9.keep (Kp.of b (fun b hb => by have := hb.2; omega))
    replace R14 := R14.below b
    clear b
    have B14 := hN
    clear hN
    go_at_call 29
    refine (HEQ.out _ _ _ _ _ _ _ _ _ _ _ R14 R6).mono ?_
    rintro e w15 ⟨rfl, b⟩
    have k18 := k17.trans (b.mono k17.size)
    have m18 := b.size
    replace R6 := R6.below b
    replace B6 := box_below B6 b
    replace B9 := box_below B9 b
    replace M9 := M9.keep (Kp.of b (fun b hb => by have := hb.2; omega))
    replace R14 := R14.below b
    replace B14 := box_below B14 b
    clear b f0 f1 f2 f3 f4
    obtain ⟨d0, d1, d2, d3, d4⟩ := cells5R B9
    go_wp2_with fail
    go_at_call 36
    refine (HHV.out _ _ _ _ _ _ M9).mono ?_
    rintro e w16 ⟨rfl, b⟩
    have k19 := k18.trans (b.mono k18.size)
    have m19 := b.size
    replace R6 := R6.below b
    replace B6 := box_below B6 b
    replace B9 := box_below B9 b
    replace M9 := M9.keep (Kp.of b (fun b hb => by have := hb.2; omega))
    replace R14 := R14.below b
    replace B14 := box_below B14 b
    go_wp2_with fail
    go_ret
    exact ⟨rfl, k19⟩
end Go.Proofs.Ytiadcebolcdhbaa
