/-
  The law on Wanted, walked: whatever comes in, the program and the specification answer alike, nothing is written into an argument, and the answer owns its memory; condition: what comes in lies in memory.
-/
import Derived.Test.YtbolphjigjpmiabWaA
import Derived.Test.YtbolphjigjpmiabPkN
import Derived.Test.YtbolphjigjpmiabPkA3
import Derived.Test.YtbolphjigjpmiabPkB2
import Derived.Test.YtbolphjigjpmiabPkC2
namespace Go.Proofs.Ytbolphjigjpmiab
open Go.RowKit
set_option linter.unusedSimpArgs false
set_option linter.unusedVariables false

/-- A row of needs in blocks from lo up to hi. -/
def NeedR (lo hi : Nat) (W : World) (u : Value) (ns : List NeedD) : Prop := RowOwn shNeed 46 (Ow lo hi) W u ns ∧ hi ≤ W.heap.size
theorem NeedR.chg {lo hi : Nat} {W W' : World} {u : Value} {ns : List NeedD} {S : Nat → Prop} (h : NeedR lo hi W u ns) (k : Chg S W W') (n : ∀ b, Ow lo hi b → ¬ S b) : NeedR lo hi W' u ns :=
  ⟨h.1.keep (fun b hb => k.block b (Nat.lt_of_lt_of_le hb.2 h.2) (n b hb)), Nat.le_trans h.2 k.size⟩
theorem NeedR.below {lo hi : Nat} {W W' : World} {u : Value} {ns : List NeedD} (h : NeedR lo hi W u ns) (k : Below W.heap.size W W') : NeedR lo hi W' u ns := h.chg (Chg.of (S := fun _ => False) k) (fun _ _ => id)
theorem need_sizes {xs : List PackD} (hw : wtRow wtPack xs ≤ 1048576) : (allN xs).length ≤ maxLen ∧ (∀ d ∈ allN xs, d.n.size ≤ maxLen ∧ d.r.size ≤ maxLen) ∧ wtRow wtNeed (allN xs) ≤ 1048576 := by
  have h1 := allN_wt xs
  have h2 := len_wtRow wtNeed (allN xs)
  refine ⟨by unfold maxLen; omega, fun d hd => ?_, by omega⟩
  have h3 : d.n.size + d.r.size ≤ wtRow wtNeed (allN xs) := wt_wtRow wtNeed hd
  unfold maxLen
  omega
theorem below_chgW {B : Nat} {S : Nat → Prop} {w W W' : World} (h : Below B w W) (k : Chg S W W') (hs : ∀ b, S b → B ≤ b) (hB : B ≤ W.heap.size) : Below B w W' :=
  ⟨k.os.trans h.os, k.tape.trans h.tape, k.output.trans h.output, Nat.le_trans h.size k.size, fun b hb => (k.block b (Nat.lt_of_lt_of_le hb hB) (fun hS => by have := hs b hS; omega)).trans (h.block b hb)⟩

set_option maxHeartbeats 8000000 in
set_option maxRecDepth 100000 in
theorem wanted_walk (a0 : Value) (z0 : List PackD) (w : World) (r0 : RowIn shPack (· < w.heap.size) w a0 z0) :
    Calls Try.prog 3 #[a0] w fun e w' => e = .returned (.bool true) ∧ Below w.heap.size w w' := by
  have hin : ∀ w1, Below w.heap.size w w1 → RowIn shPack (· < w1.heap.size) w1 a0 z0 := fun w1 h => r0.below h
  have HZ : Hid (∀ w1, Below w.heap.size w w1 → Calls Try.prog 4 #[a0, .int .i64 1048576] w1 fun e w' => e = .returned (.int .i64 (leftW (wtRow wtPack z0) 1048576)) ∧ Below w1.heap.size w1 w') := fun w1 h => szPackS_c _ _ z0 _ (by omega) (by omega) w1 (hin w1 h) (fun b h => h)
  obtain ⟨q0, cap0, hq0⟩ := r0.slice
  subst hq0
  by_cases hbig : 1048576 < wtRow wtPack z0
  · have e1 : leftW (wtRow wtPack z0) 1048576 = -1 := leftW_bad (by omega)
    rw [e1] at HZ
    clear e1 hin r0
    go_enter Try.func3, Try.ntmps3
    go_wp2_with (go_at_call 4; refine (HZ.out _ (Below.refl _ _)).mono ?_; rintro e w1 ⟨rfl, hb1⟩)
    go_ret
    exact ⟨rfl, hb1⟩
  have hwt : wtRow wtPack z0 ≤ 1048576 := by omega
  obtain ⟨p, hp⟩ : ∃ p, p = leftW (wtRow wtPack z0) 1048576 := ⟨_, rfl⟩
  rw [← hp] at HZ
  have hp0 : 0 ≤ p := by rw [hp, leftW_good (by omega)]; omega
  clear hp
  obtain ⟨hnl, hns, hnw⟩ := need_sizes hwt
  have hnl2 : (allN z0).length ≤ 1048576 := by have := len_wtRow wtNeed (allN z0); omega
  have HT : Hid (∀ w1, Below w.heap.size w w1 → Calls Try.prog 6 #[.slice q0 z0.length cap0] w1 fun e w' => ∃ g, e = .returned (.slice (some ⟨g, 0, none⟩) z0.length z0.length) ∧ RowOwn shPackO 41 (Ow w1.heap.size w'.heap.size) w' (.slice (some ⟨g, 0, none⟩) z0.length z0.length) z0 ∧ Below w1.heap.size w1 w') := fun w1 h => toPackS_c _ _ z0 w1 (hin w1 h) (fun b h => h) hwt
  obtain ⟨NN, hNN⟩ : ∃ N, N = allN z0 := ⟨_, rfl⟩
  rw [← hNN] at hnl hns hnw hnl2
  have HSP : Hid (∀ w1 g lo, RowOwn shPackO 41 (Ow lo w1.heap.size) w1 (.slice (some ⟨g, 0, none⟩) z0.length z0.length) z0 → Calls Try.prog 5 #[.slice (some ⟨g, 0, none⟩) z0.length z0.length] w1 fun e w' => ∃ u, e = .returned u ∧ NeedR w1.heap.size w'.heap.size w' u NN ∧ Below w1.heap.size w1 w') := fun w1 g lo h => (specWanted_c (Ow lo w1.heap.size) _ z0 w1 h.plain (fun b hb => hb.2) hwt).mono (by
    rintro e w' ⟨u', he, ho, hb⟩
    rw [← hNN] at ho
    exact ⟨u', he, ⟨needs_own ho hnl hns, Nat.le_refl _⟩, hb⟩)
  have HIM : Hid (∀ w1 g lo, RowOwn shPackO 41 (Ow lo w1.heap.size) w1 (.slice (some ⟨g, 0, none⟩) z0.length z0.length) z0 → Calls Try.prog 7 #[.slice (some ⟨g, 0, none⟩) z0.length z0.length] w1 fun e w' => ∃ u, e = .returned u ∧ NeedR w1.heap.size w'.heap.size w' u NN ∧ Below w1.heap.size w1 w') := fun w1 g lo h => (implWanted_c (Ow lo w1.heap.size) _ z0 w1 (RowIn.as (sh := shPackO) (sh' := shPack) rfl (fun S w cs x h => liesPack_plain h) h.plain) (fun b hb => hb.2) hwt).mono (by
    rintro e w' ⟨u', he, ho, hb⟩
    rw [← hNN] at ho
    exact ⟨u', he, ⟨needs_own ho hnl hns, Nat.le_refl _⟩, hb⟩)
  have HEV : Hid (∀ W l h l' h' u u', NeedR l h W u NN → NeedR l' h' W u' NN → Calls Try.prog 8 #[u, u'] W fun e w' => e = .returned (.bool true) ∧ Below W.heap.size W w') := fun W l h l' h' u u' a b => eqNeedS_c (Ow l h) (Ow l' h') u u' NN W a.1.plain b.1.plain (fun b hb => Nat.lt_of_lt_of_le hb.2 a.2) (fun c hb => Nat.lt_of_lt_of_le hb.2 b.2) hnw
  have HES : Hid (∀ W g g' l1 h1 l2 h2, RowOwn shPackO 41 (Ow l1 h1) W (.slice (some ⟨g, 0, none⟩) z0.length z0.length) z0 → h1 ≤ W.heap.size → RowOwn shPackO 41 (Ow l2 h2) W (.slice (some ⟨g', 0, none⟩) z0.length z0.length) z0 → h2 ≤ W.heap.size → Calls Try.prog 9 #[.slice (some ⟨g, 0, none⟩) z0.length z0.length, .slice (some ⟨g', 0, none⟩) z0.length z0.length] W fun e w' => e = .returned (.bool true) ∧ Below W.heap.size W w') := fun W g g' l1 h1 l2 h2 a c b d => eqPackS_c (Ow l1 h1) (Ow l2 h2) _ _ z0 W (RowIn.as (sh := shPackO) (sh' := shPack) rfl (fun S w cs x h => liesPack_plain h) a.plain) (RowIn.as (sh := shPackO) (sh' := shPack) rfl (fun S w cs x h => liesPack_plain h) b.plain) (fun b hb => Nat.lt_of_lt_of_le hb.2 c) (fun b hb => Nat.lt_of_lt_of_le hb.2 d) hwt
  have hcE := cntKs_wt z0
  obtain ⟨K1, hK1⟩ : ∃ K, K = 1 + cntKs z0 := ⟨_, rfl⟩
  have hK1n : ¬ (K1 : Int) < 0 := by omega
  have HMX : Hid (∀ W g l h, RowOwn shPackO 41 (Ow l h) W (.slice (some ⟨g, 0, none⟩) z0.length z0.length) z0 → Calls Try.prog 10 #[.slice (some ⟨g, 0, none⟩) z0.length z0.length, .int .i64 1] W fun e w' => e = .returned (.int .i64 (K1 : Int)) ∧ Chg (Ow l h) W w') := fun W g l h a => by rw [hK1]; exact markPackS_c (Ow l h) _ z0 1 W a (Nat.le_refl _) (by omega)
  obtain ⟨M1, hM1⟩ : ∃ K, K = 1 + NN.length * 2 := ⟨_, rfl⟩
  have hM1n : ¬ (M1 : Int) < 0 := by omega
  have hM1b : 1 + NN.length * 2 ≤ 4294967296 := by omega
  have HMV : Hid (∀ W l h u, NeedR l h W u NN → Calls Try.prog 11 #[u, .int .i64 1] W fun e w' => e = .returned (.int .i64 (M1 : Int)) ∧ w'.ownsRow 0 46 2 u NN.length (strsV (marksS 1 (NN.length * 2))) ∧ Chg (Ow l h) W w') := fun W l h u a => by
    obtain ⟨_, ys, ho, hin, _⟩ := a.1
    rw [hM1]
    refine (markNeedV_c u 0 NN.length 1 ys W ho (Nat.le_refl _) hM1b).mono ?_
    rintro e w' ⟨he, hn, hg⟩
    exact ⟨he, hn, Chg.grown hg hin⟩
  have HHV : Hid (∀ W u, W.ownsRow 0 46 2 u NN.length (strsV (marksS 1 (NN.length * 2))) → Calls Try.prog 12 #[u, .int .i64 1] W fun e w' => e = .returned (.int .i64 (M1 : Int)) ∧ Below W.heap.size W w') := fun W u a => by rw [hM1]; exact heldNeedS_c u 0 NN.length 1 W a (Nat.le_refl _) hM1b
  clear hNN hin r0 hbig hnl hns hnw hnl2 hcE hK1 hM1 hM1b hwt
  go_enter Try.func3, Try.ntmps3
  go_wp2_with fail
  go_at_call 4
  refine (HZ.out _ (Below.refl _ _)).mono ?_
  rintro e w1 ⟨rfl, k1⟩
  go_wp2_with fail
  go_at_call 6
  refine (HT.out _ k1).mono ?_
  rintro e w2 ⟨g2, rfl, F2, b2⟩
  have k2 := k1.trans (b2.mono k1.size)
  go_wp2_with fail
  go_at_call 5
  refine (HSP.out _ g2 _ F2).mono ?_
  rintro e w3 ⟨u6, rfl, o6, b3⟩
  have k3 := k2.trans (b3.mono k2.size)
  have m2 := b2.size
  have m3 := b3.size
  clear F2 b2 b3 HSP HZ
  go_wp2_with fail
  go_at_call 6
  refine (HT.out _ k3).mono ?_
  rintro e w4 ⟨g4, rfl, F4, b4⟩
  have k4 := k3.trans (b4.mono k3.size)
  have o64 := o6.below b4
  have m4 := b4.size
  clear o6 b4
  go_wp2_with fail
  go_at_call 7
  refine (HIM.out _ g4 _ F4).mono ?_
  rintro e w5 ⟨u9, rfl, o9, b5⟩
  have k5 := k4.trans (b5.mono k4.size)
  have o65 := o64.below b5
  have F5 := F4.keep (Kp.of b5 (fun b hb => hb.2))
  have m5 := b5.size
  clear o64 F4 b5
  go_wp2_with fail
  go_at_call 8
  refine (HEV.out _ _ _ _ _ _ _ o9 o65).mono ?_
  rintro e w6 ⟨rfl, b6⟩
  have k6 := k5.trans (b6.mono k5.size)
  have o66 := o65.below b6
  have o96 := o9.below b6
  have F6 := F5.keep (Kp.of b6 (fun b hb => by have := hb.2; omega))
  have m6 := b6.size
  clear o65 o9 F5 b6
  go_wp2_with fail
  go_at_call 6
  refine (HT.out _ k6).mono ?_
  rintro e w7 ⟨g7, rfl, F7, b7⟩
  have k7 := k6.trans (b7.mono k6.size)
  have o67 := o66.below b7
  have o97 := o96.below b7
  have F67 := F6.keep (Kp.of b7 (fun b hb => by have := hb.2; omega))
  have m7 := b7.size
  clear o66 o96 F6 b7
  go_wp2_with fail
  go_at_call 9
  refine (HES.out _ _ _ _ _ _ _ F67 (by omega) F7 (Nat.le_refl _)).mono ?_
  rintro e w8 ⟨rfl, b8⟩
  have k8 := k7.trans (b8.mono k7.size)
  have o68 := o67.below b8
  have o98 := o97.below b8
  have F8 := F67.keep (Kp.of b8 (fun b hb => by have := hb.2; omega))
  have m8 := b8.size
  clear o67 o97 F67 F7 b8 HES
  go_wp2_with fail
  go_at_call 10
  refine (HMX.out _ _ _ _ F8).mono ?_
  rintro e w9 ⟨rfl, ch9⟩
  have k9 := below_chgW k8 ch9 (fun b hb => by have := hb.1; have := k3.size; omega) k8.size
  have o69 := o68.chg ch9 (fun b hb h => by have := hb.2; have := h.1; omega)
  have o99 := o98.chg ch9 (fun b hb h => by have := hb.1; have := h.2; omega)
  have m9 := ch9.size
  clear o68 o98 F8 ch9 HMX
  go_wp2_with fail
  go_at_call 8
  refine (HEV.out _ _ _ _ _ _ _ o99 o69).mono ?_
  rintro e w10 ⟨rfl, b10⟩
  have k10 := k9.trans (b10.mono k9.size)
  have o6a := o69.below b10
  have o9a := o99.below b10
  have m10 := b10.size
  clear o69 o99 b10
  go_wp2_with fail
  go_at_call 11
  refine (HMV.out _ _ _ _ o9a).mono ?_
  rintro e w11 ⟨rfl, n11, ch11⟩
  have k11 := below_chgW k10 ch11 (fun b hb => by have := hb.1; have := k3.size; omega) k10.size
  have o6b := o6a.chg ch11 (fun b hb h => by have := hb.2; have := h.1; omega)
  have m11 := ch11.size
  clear o6a o9a ch11 HMV
  go_wp2_with fail
  go_at_call 12
  refine (HHV.out _ _ n11).mono ?_
  rintro e w12 ⟨rfl, b12⟩
  have k12 := k11.trans (b12.mono k11.size)
  have o6c := o6b.below b12
  have n12 := owns_of_belowN n11 b12
  have m12 := b12.size
  clear o6b n11 b12
  go_wp2_with fail
  go_at_call 6
  refine (HT.out _ k12).mono ?_
  rintro e w13 ⟨g13, rfl, F13, b13⟩
  have k13 := k12.trans (b13.mono k12.size)
  have o6d := o6c.below b13
  have n13 := owns_of_belowN n12 b13
  clear o6c n12 b13 HT
  go_wp2_with fail
  go_at_call 7
  refine (HIM.out _ g13 _ F13).mono ?_
  rintro e w14 ⟨u14, rfl, o14, b14⟩
  have k14 := k13.trans (b14.mono k13.size)
  have o6e := o6d.below b14
  have n14 := owns_of_belowN n13 b14
  clear o6d n13 b14 F13 HIM
  go_wp2_with fail
  go_at_call 8
  refine (HEV.out _ _ _ _ _ _ _ o14 o6e).mono ?_
  rintro e w15 ⟨rfl, b15⟩
  have k15 := k14.trans (b15.mono k14.size)
  have n15 := owns_of_belowN n14 b15
  clear o6e o14 n14 b15
  go_wp2_with fail
  go_at_call 12
  refine (HHV.out _ _ n15).mono ?_
  rintro e w16 ⟨rfl, b16⟩
  have k16 := k15.trans (b16.mono k15.size)
  go_wp2_with fail
  go_ret
  exact ⟨rfl, k16⟩
end Go.Proofs.Ytbolphjigjpmiab
