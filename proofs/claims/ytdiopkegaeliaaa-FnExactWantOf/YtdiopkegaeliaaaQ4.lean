/-
  Contracts for the walks, several texts in one: each part says what it proves, and under which conditions.
-/
import Derived.SliceStrings
import Derived.ChangeArms
import Derived.ChangeOld
import Derived.ChangeAt
import Derived.OpenShut
import Derived.ShutString
import Derived.Test.YtdiopkegaeliaaaQ2
import Derived.Test.YtdiopkegaeliaaaQ3
import Derived.Test.YtdiopkegaeliaaaQ1

/-! The law on WantOf, walked: whatever comes in, the program and the specification answer alike, nothing is written into an argument, and the answer owns its memory; condition: what comes in lies in memory. -/
namespace Go.Proofs.Ytdiopkegaeliaaa
open Go.RowKit
set_option linter.unusedSimpArgs false
set_option linter.unusedVariables false

theorem memBulkW {ss : List ByteArray} {s : ByteArray} (h : s ∈ ss) : s.size ≤ bulkS ss := by
  unfold bulkS
  induction ss with
  | nil => cases h
  | cons a l ih =>
    simp only [List.length_cons, List.map_cons, List.sum_cons]
    rcases List.mem_cons.1 h with rfl | h
    · omega
    · have := ih h; omega
theorem wantS_len (xs : List PackD) (t : ByteArray) (ns : List ByteArray) : (sortedS (wantL xs t ns)).length ≤ ns.length := by
  have h1 := wantL_len xs t ns
  unfold sortedS
  rw [List.length_map]
  have := compact_len (sortL ((wantL xs t ns).map bytesL))
  rw [sortL_len, List.length_map] at this
  omega
theorem strR_at {lo hi : Nat} {W : World} {u : Value} {ss : List ByteArray} (h : StrR lo hi W u ss) : ∃ q c, u = .slice q ss.length c := by
  obtain ⟨q, c, e⟩ := owns_slG h.1.1
  exact ⟨q, c, e⟩
set_option maxHeartbeats 8000000 in
set_option maxRecDepth 100000 in
theorem wantOf_walk (a0 : Value) (z0 : List PackD) (a1 : Value) (z1 : List ByteArray) (a2 : ByteArray) (hs2 : a2.size ≤ maxLen) (w : World) (r0 : RowIn shPack (· < w.heap.size) w a0 z0) (r1 : Reads w a1 (strsV z1)) (hw1 : ∀ s ∈ z1, s.size ≤ maxLen) (hl1 : z1.length ≤ maxLen) :
    Calls Try.prog 3 #[a0, a1, .string a2] w fun e w' => e = .returned (.bool true) ∧ Below w.heap.size w w' := by
  obtain ⟨q0, cap0, hq0⟩ := r0.slice
  have hin : ∀ w1, Below w.heap.size w w1 → RowIn shPack (· < w1.heap.size) w1 a0 z0 := fun w1 h => r0.below h
  have hin1 : ∀ w1, Below w.heap.size w w1 → Reads w1 a1 (strsV z1) := fun w1 h => r1.below h
  obtain ⟨q1, cap1, hq1, _⟩ := id r1
  rw [length_strsV] at hq1
  by_cases hbig1 : 1048576 < a2.size
  · have hb : (1048576 : Int) < (a2.size : Int) := by omega
    subst hq0 hq1
    clear r0 r1 hin hin1
    go_enter Try.func3, Try.ntmps3
    go_wp2_with fail
    go_ret
    exact ⟨rfl, Below.refl _ _⟩
  have hb1' : ¬ (1048576 : Int) < (a2.size : Int) := by omega
  have hn2 : a2.size ≤ 1048576 := by omega
  have HZ : Hid (∀ w1, Below w.heap.size w w1 → Calls Try.prog 4 #[a0, .int .i64 1048576] w1 fun e w' => e = .returned (.int .i64 (leftW (wtRow wtPack z0) 1048576)) ∧ Below w1.heap.size w1 w') := fun w1 h => szPackS_c _ _ z0 _ (by omega) (by omega) w1 (hin w1 h) (fun b h => h)
  subst hq0
  by_cases hbig : 1048576 < wtRow wtPack z0
  · have e1 : leftW (wtRow wtPack z0) 1048576 = -1 := leftW_bad (by omega)
    rw [e1] at HZ
    subst hq1
    clear e1 hin hin1 r0 r1
    go_enter Try.func3, Try.ntmps3
    go_wp2_with (go_at_call 4; refine (HZ.out _ (Below.refl _ _)).mono ?_; rintro e w1 ⟨rfl, hb1⟩)
    go_ret
    exact ⟨rfl, hb1⟩
  have hwt : wtRow wtPack z0 ≤ 1048576 := by omega
  obtain ⟨p, hp⟩ : ∃ p, p = leftW (wtRow wtPack z0) 1048576 := ⟨_, rfl⟩
  rw [← hp] at HZ
  have hp0 : 0 ≤ p := by rw [hp, leftW_good (by omega)]; omega
  have hp1 : p ≤ 1048576 := by rw [hp, leftW_good (by omega)]; omega
  have HZ1 : Hid (∀ w1, Below w.heap.size w w1 → Calls Try.prog 5 #[a1, .int .i64 p] w1 fun e w' => e = .returned (.int .i64 (leftS z1 p)) ∧ w1 = w') := fun w1 h => sizeStrsM_c a1 z1 w1 p hp0 hp1 (hin1 w1 h) hl1 hw1
  clear hp
  subst hq1
  by_cases hbig2 : p < (bulkS z1 : Int)
  · have e1 : leftS z1 p = -1 := by rw [leftS, if_neg (by omega)]
    rw [e1] at HZ1
    clear e1 hin hin1 r0 r1
    go_enter Try.func3, Try.ntmps3
    go_wp2_with fail
    go_at_call 4
    refine (HZ.out _ (Below.refl _ _)).mono ?_
    rintro e w1 ⟨rfl, hb1⟩
    clear HZ
    go_wp2_with fail
    go_at_call 5
    refine (HZ1.out _ hb1).mono ?_
    rintro e w2 ⟨rfl, rfl⟩
    go_wp2_with fail
    go_ret
    exact ⟨rfl, hb1⟩
  obtain ⟨p1, hp1e⟩ : ∃ pp, pp = leftS z1 p := ⟨_, rfl⟩
  rw [← hp1e] at HZ1
  have hp10 : 0 ≤ p1 := by rw [hp1e, leftS, if_pos (by omega)]; omega
  clear hp1e
  have hbk : bulkS z1 ≤ 1048576 := by omega
  have hl : z1.length ≤ 1048576 := by unfold bulkS at hbk; omega
  have hsz : ∀ s ∈ z1, s.size ≤ 1048576 := fun s hs => by
    have h1 := memBulkW hs
    omega
  have HT : Hid (∀ w1, Below w.heap.size w w1 → Calls Try.prog 7 #[.slice q0 z0.length cap0] w1 fun e w' => ∃ g, e = .returned (.slice (some ⟨g, 0, none⟩) z0.length z0.length) ∧ RowOwn shPackO 44 (Ow w1.heap.size w'.heap.size) w' (.slice (some ⟨g, 0, none⟩) z0.length z0.length) z0 ∧ Below w1.heap.size w1 w') := fun w1 h => toPackS_c _ _ z0 w1 (hin w1 h) (fun b h => h) hwt
  have HTS : Hid (∀ w1, Below w.heap.size w w1 → Calls Try.prog 8 #[.slice q1 z1.length cap1] w1 fun e w' => ∃ u, e = .returned u ∧ StrR w1.heap.size w'.heap.size w' u z1 ∧ Below w1.heap.size w1 w') := fun w1 h => by
    refine (toStrs_c _ z1 w1 (hin1 w1 h) (by omega)).mono ?_
    rintro e w' ⟨g, rfl, o, b⟩
    exact ⟨_, rfl, strR_of o, b⟩
  obtain ⟨NN, hNN⟩ : ∃ N, N = sortedS (wantL z0 a2 z1) := ⟨_, rfl⟩
  have hNl : NN.length ≤ 1048576 := by rw [hNN]; exact Nat.le_trans (wantS_len _ _ _) hl
  have HSP : Hid (∀ w1 g l h u l' h', RowOwn shPackO 44 (Ow l h) w1 (.slice (some ⟨g, 0, none⟩) z0.length z0.length) z0 → h ≤ w1.heap.size → StrR l' h' w1 u z1 → Calls Try.prog 6 #[.slice (some ⟨g, 0, none⟩) z0.length z0.length, u, .string a2] w1 fun e w' => ∃ q, e = .returned q ∧ StrR w1.heap.size w'.heap.size w' q NN ∧ Below w1.heap.size w1 w') := fun w1 g l h u l' h' hr hh hu => by
    rw [hNN]
    refine (specWantOf_c (Ow l h) _ u z0 z1 a2 w1 (RowIn.as (sh := shPackO) (sh' := shPack) rfl (fun S w cs x h => liesPack_plain h) hr.plain) (fun b hb => Nat.lt_of_lt_of_le hb.2 hh) hwt (reads_of_owns hu.1.1) hl hsz hn2).mono ?_
    rintro e w' ⟨q, rfl, o, b⟩
    exact ⟨q, rfl, strR_of o, b⟩
  have HIM : Hid (∀ w1 g l h u l' h', RowOwn shPackO 44 (Ow l h) w1 (.slice (some ⟨g, 0, none⟩) z0.length z0.length) z0 → h ≤ w1.heap.size → StrR l' h' w1 u z1 → Calls Try.prog 9 #[.slice (some ⟨g, 0, none⟩) z0.length z0.length, u, .string a2] w1 fun e w' => ∃ q, e = .returned q ∧ StrR w1.heap.size w'.heap.size w' q NN ∧ Below w1.heap.size w1 w') := fun w1 g l h u l' h' hr hh hu => by
    rw [hNN]
    refine (implWantOf_c (Ow l h) _ u z0 z1 a2 w1 (RowIn.as (sh := shPackO) (sh' := shPack) rfl (fun S w cs x h => liesPack_plain h) hr.plain) (fun b hb => Nat.lt_of_lt_of_le hb.2 hh) hwt (reads_of_owns hu.1.1) hl hsz hn2).mono ?_
    rintro e w' ⟨q, rfl, o, b⟩
    exact ⟨q, rfl, strR_of o, b⟩
  have HEG : ∀ (ss : List ByteArray), ss.length ≤ 1048576 → ∀ W l h l' h' u u', StrR l h W u ss → StrR l' h' W u' ss → Calls Try.prog 10 #[u, u'] W fun e w' => e = .returned (.bool true) ∧ Below W.heap.size W w' := fun ss hl W l h l' h' u u' a b => by
    have h9 := eqStrs_c u u' ss ss W (reads_of_owns a.1.1) (reads_of_owns b.1.1) (by omega)
    simpa using h9
  have HEV := hidden (HEG NN hNl)
  have HEN := hidden (HEG z1 hl)
  have HES : Hid (∀ W g g' l1 h1 l2 h2, RowOwn shPackO 44 (Ow l1 h1) W (.slice (some ⟨g, 0, none⟩) z0.length z0.length) z0 → h1 ≤ W.heap.size → RowOwn shPackO 44 (Ow l2 h2) W (.slice (some ⟨g', 0, none⟩) z0.length z0.length) z0 → h2 ≤ W.heap.size → Calls Try.prog 11 #[.slice (some ⟨g, 0, none⟩) z0.length z0.length, .slice (some ⟨g', 0, none⟩) z0.length z0.length] W fun e w' => e = .returned (.bool true) ∧ Below W.heap.size W w') := fun W g g' l1 h1 l2 h2 a c b d => eqPackS_c (Ow l1 h1) (Ow l2 h2) _ _ z0 W (RowIn.as (sh := shPackO) (sh' := shPack) rfl (fun S w cs x h => liesPack_plain h) a.plain) (RowIn.as (sh := shPackO) (sh' := shPack) rfl (fun S w cs x h => liesPack_plain h) b.plain) (fun b hb => Nat.lt_of_lt_of_le hb.2 c) (fun b hb => Nat.lt_of_lt_of_le hb.2 d) hwt
  have hcE := cntKs_wt z0
  obtain ⟨K1, hK1⟩ : ∃ K, K = 1 + cntKs z0 := ⟨_, rfl⟩
  have HMX : Hid (∀ W g l h, RowOwn shPackO 44 (Ow l h) W (.slice (some ⟨g, 0, none⟩) z0.length z0.length) z0 → Calls Try.prog 12 #[.slice (some ⟨g, 0, none⟩) z0.length z0.length, .int .i64 1] W fun e w' => e = .returned (.int .i64 (K1 : Int)) ∧ Chg (Ow l h) W w') := fun W g l h a => by rw [hK1]; exact markPackS_c (Ow l h) _ z0 1 W a (Nat.le_refl _) (by omega)
  obtain ⟨K2, hK2⟩ : ∃ K, K = K1 + z1.length := ⟨_, rfl⟩
  have hK2n : ¬ (K2 : Int) < 0 := by omega
  have HMN : Hid (∀ W l h u, StrR l h W u z1 → Calls Try.prog 13 #[u, .int .i64 (K1 : Int)] W fun e w' => e = .returned (.int .i64 (K2 : Int)) ∧ Chg (Ow l h) W w') := fun W l h u a => by
    have h9 := markStrs_c u 0 z1.length (strsV z1) K1 W a.1.1 (by omega) (by omega) (by omega) (Nat.zero_le _)
    rw [show (K1 : Int) + (z1.length : Int) = (K2 : Int) by omega] at h9
    refine h9.mono ?_
    rintro e w' ⟨he, hn, hg⟩
    exact ⟨he, Chg.grown hg a.1.2⟩
  obtain ⟨M1, hM1⟩ : ∃ K, K = 1 + NN.length := ⟨_, rfl⟩
  have hM1n : ¬ (M1 : Int) < 0 := by omega
  have hMi : ((1 : Nat) : Int) + (NN.length : Int) = (M1 : Int) := by omega
  have HMV : Hid (∀ W l h u, StrR l h W u NN → Calls Try.prog 13 #[u, .int .i64 1] W fun e w' => e = .returned (.int .i64 (M1 : Int)) ∧ w'.ownsRow 0 9 1 u NN.length (strsV (marksS 1 NN.length)) ∧ Chg (Ow l h) W w') := fun W l h u a => by
    have h9 := markStrs_c u 0 NN.length (strsV NN) 1 W a.1.1 (Nat.le_refl _) (by omega) (by omega) (Nat.zero_le _)
    rw [hMi] at h9
    refine h9.mono ?_
    rintro e w' ⟨he, hn, hg⟩
    exact ⟨he, hn, Chg.grown hg a.1.2⟩
  have HHV : Hid (∀ W u, W.ownsRow 0 9 1 u NN.length (strsV (marksS 1 NN.length)) → Calls Try.prog 14 #[u, .int .i64 1] W fun e w' => e = .returned (.int .i64 (M1 : Int)) ∧ Below W.heap.size W w') := fun W u a => by
    have h9 := heldStrs_c u NN.length 1 W (reads_of_owns a) (Nat.le_refl _) (by omega) (by omega)
    rw [hMi] at h9
    exact h9
  clear hNN hin hin1 r0 r1 hbig hbig2 hcE hK1 hK2 hM1 hMi hwt hn2 hbig1 hs2 HEG hsz hw1 hl1 hbk hl hNl hp1
  go_enter Try.func3, Try.ntmps3
  go_wp2_with fail
  go_at_call 4
  refine (HZ.out _ (Below.refl _ _)).mono ?_
  rintro e w1 ⟨rfl, k1⟩
  have m1 := k1.size
  go_wp2_with fail
  go_at_call 5
  refine (HZ1.out _ k1).mono ?_
  rintro e w2 ⟨rfl, rfl⟩
  clear HZ HZ1
  go_wp2_with fail
  go_at_call 7
  refine (HT.out _ k1).mono ?_
  rintro e w2 ⟨g2, rfl, P2_2, b2⟩
  have k2 := k1.trans (b2.mono k1.size)
  have m2 := b2.size
  clear b2
  go_wp2_with fail
  go_at_call 8
  refine (HTS.out _ k2).mono ?_
  rintro e w3 ⟨u3, rfl, U3_3, b3⟩
  have k3 := k2.trans (b3.mono k2.size)
  have m3 := b3.size
  have P2_3 := P2_2.keep (Kp.of b3 (fun b hb => by have := hb.2; omega))
  clear P2_2
  clear b3
  go_wp2_with fail
  go_at_call 6
  refine (HSP.out _ _ _ _ _ _ _ P2_3 (by omega) U3_3).mono ?_
  rintro e w4 ⟨v4, rfl, V4_4, b4⟩
  have k4 := k3.trans (b4.mono k3.size)
  have m4 := b4.size
  clear P2_3
  clear U3_3
  clear b4
  go_wp2_with fail
  go_at_call 7
  refine (HT.out _ k4).mono ?_
  rintro e w5 ⟨g5, rfl, P5_5, b5⟩
  have k5 := k4.trans (b5.mono k4.size)
  have m5 := b5.size
  have V4_5 := V4_4.below b5
  clear V4_4
  clear b5
  go_wp2_with fail
  go_at_call 8
  refine (HTS.out _ k5).mono ?_
  rintro e w6 ⟨u6, rfl, U6_6, b6⟩
  have k6 := k5.trans (b6.mono k5.size)
  have m6 := b6.size
  have V4_6 := V4_5.below b6
  clear V4_5
  have P5_6 := P5_5.keep (Kp.of b6 (fun b hb => by have := hb.2; omega))
  clear P5_5
  clear b6
  go_wp2_with fail
  go_at_call 9
  refine (HIM.out _ _ _ _ _ _ _ P5_6 (by omega) U6_6).mono ?_
  rintro e w7 ⟨v7, rfl, V7_7, b7⟩
  have k7 := k6.trans (b7.mono k6.size)
  have m7 := b7.size
  have V4_7 := V4_6.below b7
  clear V4_6
  have P5_7 := P5_6.keep (Kp.of b7 (fun b hb => by have := hb.2; omega))
  clear P5_6
  have U6_7 := U6_6.below b7
  clear U6_6
  clear b7
  go_wp2_with fail
  go_at_call 10
  refine (HEV.out _ _ _ _ _ _ _ V7_7 V4_7).mono ?_
  rintro e w8 ⟨rfl, b8⟩
  have k8 := k7.trans (b8.mono k7.size)
  have m8 := b8.size
  have V4_8 := V4_7.below b8
  clear V4_7
  have P5_8 := P5_7.keep (Kp.of b8 (fun b hb => by have := hb.2; omega))
  clear P5_7
  have U6_8 := U6_7.below b8
  clear U6_7
  have V7_8 := V7_7.below b8
  clear V7_7
  clear b8
  go_wp2_with fail
  go_at_call 7
  refine (HT.out _ k8).mono ?_
  rintro e w9 ⟨g9, rfl, P9_9, b9⟩
  have k9 := k8.trans (b9.mono k8.size)
  have m9 := b9.size
  have V4_9 := V4_8.below b9
  clear V4_8
  have P5_9 := P5_8.keep (Kp.of b9 (fun b hb => by have := hb.2; omega))
  clear P5_8
  have U6_9 := U6_8.below b9
  clear U6_8
  have V7_9 := V7_8.below b9
  clear V7_8
  clear b9
  go_wp2_with fail
  go_at_call 11
  refine (HES.out _ _ _ _ _ _ _ P5_9 (by omega) P9_9 (Nat.le_refl _)).mono ?_
  rintro e w10 ⟨rfl, b10⟩
  have k10 := k9.trans (b10.mono k9.size)
  have m10 := b10.size
  clear P9_9
  have V4_10 := V4_9.below b10
  clear V4_9
  have P5_10 := P5_9.keep (Kp.of b10 (fun b hb => by have := hb.2; omega))
  clear P5_9
  have U6_10 := U6_9.below b10
  clear U6_9
  have V7_10 := V7_9.below b10
  clear V7_9
  clear b10
  go_wp2_with fail
  go_at_call 8
  refine (HTS.out _ k10).mono ?_
  rintro e w11 ⟨u11, rfl, U11_11, b11⟩
  have k11 := k10.trans (b11.mono k10.size)
  have m11 := b11.size
  have V4_11 := V4_10.below b11
  clear V4_10
  have P5_11 := P5_10.keep (Kp.of b11 (fun b hb => by have := hb.2; omega))
  clear P5_10
  have U6_11 := U6_10.below b11
  clear U6_10
  have V7_11 := V7_10.below b11
  clear V7_10
  clear b11
  go_wp2_with fail
  go_at_call 10
  refine (HEN.out _ _ _ _ _ _ _ U6_11 U11_11).mono ?_
  rintro e w12 ⟨rfl, b12⟩
  have k12 := k11.trans (b12.mono k11.size)
  have m12 := b12.size
  clear U11_11
  have V4_12 := V4_11.below b12
  clear V4_11
  have P5_12 := P5_11.keep (Kp.of b12 (fun b hb => by have := hb.2; omega))
  clear P5_11
  have U6_12 := U6_11.below b12
  clear U6_11
  have V7_12 := V7_11.below b12
  clear V7_11
  clear b12
  go_wp2_with fail
  go_at_call 12
  refine (HMX.out _ _ _ _ P5_12).mono ?_
  rintro e w13 ⟨rfl, ch13⟩
  have k13 := below_chgW k12 ch13 (fun b hb => by have := hb.1; have := k1.size; omega) k12.size
  have m13 := ch13.size
  clear P5_12
  have V4_13 := V4_12.chg ch13 (fun b hb h => by have := hb.1; have := hb.2; have := h.1; have := h.2; omega)
  clear V4_12
  have U6_13 := U6_12.chg ch13 (fun b hb h => by have := hb.1; have := hb.2; have := h.1; have := h.2; omega)
  clear U6_12
  have V7_13 := V7_12.chg ch13 (fun b hb h => by have := hb.1; have := hb.2; have := h.1; have := h.2; omega)
  clear V7_12
  clear ch13
  go_wp2_with fail
  go_at_call 13
  refine (HMN.out _ _ _ _ U6_13).mono ?_
  rintro e w14 ⟨rfl, ch14⟩
  have k14 := below_chgW k13 ch14 (fun b hb => by have := hb.1; have := k1.size; omega) k13.size
  have m14 := ch14.size
  clear U6_13
  have V4_14 := V4_13.chg ch14 (fun b hb h => by have := hb.1; have := hb.2; have := h.1; have := h.2; omega)
  clear V4_13
  have V7_14 := V7_13.chg ch14 (fun b hb h => by have := hb.1; have := hb.2; have := h.1; have := h.2; omega)
  clear V7_13
  clear ch14
  go_wp2_with fail
  go_at_call 10
  refine (HEV.out _ _ _ _ _ _ _ V7_14 V4_14).mono ?_
  rintro e w15 ⟨rfl, b15⟩
  have k15 := k14.trans (b15.mono k14.size)
  have m15 := b15.size
  have V4_15 := V4_14.below b15
  clear V4_14
  have V7_15 := V7_14.below b15
  clear V7_14
  clear b15
  go_wp2_with fail
  go_at_call 13
  refine (HMV.out _ _ _ _ V7_15).mono ?_
  rintro e w16 ⟨rfl, N_16, ch16⟩
  have k16 := below_chgW k15 ch16 (fun b hb => by have := hb.1; have := k1.size; omega) k15.size
  have m16 := ch16.size
  clear V7_15
  have V4_16 := V4_15.chg ch16 (fun b hb h => by have := hb.1; have := hb.2; have := h.1; have := h.2; omega)
  clear V4_15
  clear ch16
  go_wp2_with fail
  go_at_call 14
  refine (HHV.out _ _ N_16).mono ?_
  rintro e w17 ⟨rfl, b17⟩
  have k17 := k16.trans (b17.mono k16.size)
  have m17 := b17.size
  have V4_17 := V4_16.below b17
  clear V4_16
  have N_17 := owns_of_belowN N_16 b17
  clear N_16
  clear b17
  go_wp2_with fail
  go_at_call 7
  refine (HT.out _ k17).mono ?_
  rintro e w18 ⟨g18, rfl, P18_18, b18⟩
  have k18 := k17.trans (b18.mono k17.size)
  have m18 := b18.size
  have V4_18 := V4_17.below b18
  clear V4_17
  have N_18 := owns_of_belowN N_17 b18
  clear N_17
  clear b18
  go_wp2_with fail
  go_at_call 8
  refine (HTS.out _ k18).mono ?_
  rintro e w19 ⟨u19, rfl, U19_19, b19⟩
  have k19 := k18.trans (b19.mono k18.size)
  have m19 := b19.size
  have V4_19 := V4_18.below b19
  clear V4_18
  have N_19 := owns_of_belowN N_18 b19
  clear N_18
  have P18_19 := P18_18.keep (Kp.of b19 (fun b hb => by have := hb.2; omega))
  clear P18_18
  clear b19
  go_wp2_with fail
  go_at_call 9
  refine (HIM.out _ _ _ _ _ _ _ P18_19 (by omega) U19_19).mono ?_
  rintro e w20 ⟨v20, rfl, V20_20, b20⟩
  have k20 := k19.trans (b20.mono k19.size)
  have m20 := b20.size
  clear P18_19
  clear U19_19
  have V4_20 := V4_19.below b20
  clear V4_19
  have N_20 := owns_of_belowN N_19 b20
  clear N_19
  clear b20
  go_wp2_with fail
  go_at_call 10
  refine (HEV.out _ _ _ _ _ _ _ V20_20 V4_20).mono ?_
  rintro e w21 ⟨rfl, b21⟩
  have k21 := k20.trans (b21.mono k20.size)
  have m21 := b21.size
  clear V20_20
  clear V4_20
  have N_21 := owns_of_belowN N_20 b21
  clear N_20
  clear b21
  go_wp2_with fail
  go_at_call 14
  refine (HHV.out _ _ N_21).mono ?_
  rintro e w22 ⟨rfl, b22⟩
  have k22 := k21.trans (b22.mono k21.size)
  have m22 := b22.size
  clear N_21
  clear b22
  go_wp2_with fail
  go_ret
  exact ⟨rfl, k22⟩
end Go.Proofs.Ytdiopkegaeliaaa

/-! What comes in as a version of the laws' own type: three numbers, and a list of texts that lies in memory: no condition. -/
namespace Go.Proofs.Ytdiopkegaeliaaa
open Go.ChangeShapes Go.WideShapes Go.ChangeAt Go.RowKit
set_option linter.unusedSimpArgs false
set_option linter.unusedVariables false

theorem vaddr_add (b off i : Nat) : ((⟨b, off, none⟩ : Addr).add i) = ⟨b, off + i, none⟩ := by unfold Addr.add; split <;> simp_all
theorem list4 {cs : List Value} (h : cs.length = 4) : ∃ c0 c1 c2 c3, cs = [c0, c1, c2, c3] := by
  match cs, h with
  | [c0, c1, c2, c3], _ => exact ⟨c0, c1, c2, c3, rfl⟩

theorem vreads_open {H : Type} {enc : TypeId × Value → H} {w : World} {spare : Nat → Bool} {held : Bool} {fuel : Nat} {c : Value} {x : DataW H × List MemPlace}
    (hf : DataW.trod enc Try.prog w 0 spare held fuel 23 [c] = some x) : ∃ ks, Reads w c (strsV ks) ∧ saneP ks := by
  rcases open_strings Try.underlying23 Try.underlying9 (by kernel_rfl) hf with ⟨hcs, _⟩ | ⟨x, l, cap, zs, hcs, _, hl, hm, hz, _, hcell, hwz⟩
  · simp at hcs
    subst hcs
    exact ⟨[], ⟨none, 0, rfl, Nat.le_refl _, .inl rfl⟩, by simp [saneP]⟩
  · simp at hcs
    subst hcs
    have hz' : l ≤ zs.length := by rw [hz]; split <;> omega
    have hlen : (zs.take l).length = l := by simp; omega
    refine ⟨zs.take l, ?_, by rw [hlen]; omega, fun s hs => hwz s (List.mem_of_mem_take hs)⟩
    by_cases h0 : l = 0
    · subst h0
      exact ⟨some x, cap, by simp [strsV], by simp [strsV], .inl (by simp [strsV])⟩
    · obtain ⟨b, off, spot⟩ := x
      have hc0 := hcell 0 (by omega)
      have hspot : spot = none := by simpa [Addr.add] using World.cell?_spot hc0
      subst hspot
      refine ⟨some ⟨b, off, none⟩, cap, by simp [strsV]; omega, by simp [strsV]; omega, .inr ⟨b, off, rfl, ?_, fun i hi => ?_⟩⟩
      · rw [vaddr_add] at hc0; exact World.block_lt_of_cell? w _ hc0
      · have hi' : i < l := by simp [strsV] at hi; omega
        have := hcell i (by omega)
        rw [vaddr_add] at this
        rw [this]
        simp [strsV, List.getD_eq_getElem?_getD, show i < zs.length by omega]

end Go.Proofs.Ytdiopkegaeliaaa

/-! What comes in as packs of the laws' own type: packs that lie in memory: no condition. -/
namespace Go.Proofs.Ytdiopkegaeliaaa
open Go.ChangeShapes Go.WideShapes Go.ChangeAt Go.RowKit
set_option linter.unusedSimpArgs false
set_option linter.unusedVariables false

theorem olist2 {cs : List Value} (h : cs.length = 2) : ∃ c0 c1, cs = [c0, c1] := by
  match cs, h with
  | [c0, c1], _ => exact ⟨c0, c1, rfl⟩
theorem olist4 {cs : List Value} (h : cs.length = 4) : ∃ c0 c1 c2 c3, cs = [c0, c1, c2, c3] := by
  match cs, h with
  | [c0, c1, c2, c3], _ => exact ⟨c0, c1, c2, c3, rfl⟩
theorem olist_of {α : Type} {P : Nat → α → Prop} : ∀ n, (∀ i, i < n → ∃ a, P i a) → ∃ l : List α, l.length = n ∧ ∀ i (h : i < l.length), P i l[i]
  | 0, _ => ⟨[], rfl, fun i h => by simp at h⟩
  | n + 1, h => by
    obtain ⟨l, hl, hp⟩ := olist_of n (fun i hi => h i (by omega))
    obtain ⟨a, ha⟩ := h n (by omega)
    refine ⟨l ++ [a], by simp [hl], fun i hi => ?_⟩
    by_cases h1 : i < l.length
    · rw [List.getElem_append_left h1]; exact hp i h1
    · have : i = n := by simp at hi; omega
      subst this
      rw [List.getElem_append_right (by omega)]
      simpa using ha

/-- A row that comes in, out of what its elements are. -/
theorem rows_of_trod {α H : Type} {P : Program} {enc : TypeId × Value → H} {w : World} {spare : Nat → Bool} {held : Bool} (sh : Sh α) {ts te : TypeId} (hu : P.underlying ts = some (.slice te)) (hn : P.cellsOf te = sh.n) (hpos : 0 < sh.n)
    (helem : ∀ n cs y, DataW.trod enc P w 0 spare held n te cs = some y → ∃ a, sh.lies (· < w.heap.size) w cs a) (fuel : Nat) (c : Value) (x : DataW H × List MemPlace)
    (h : DataW.trod enc P w 0 spare held fuel ts [c] = some x) : ∃ xs, RowIn sh (· < w.heap.size) w c xs := by
  rcases DataW.trod_slice hu h with ⟨hcs, _⟩ | ⟨a, len, cap, elems, rest, n', hn', hcs, _, _, hl, hcm, hel, hat, _, _⟩
  · simp at hcs
    subst hcs
    exact ⟨[], none, 0, rfl, by simp, Nat.le_refl _, .inl rfl⟩
  · simp at hcs
    subst hcs
    rw [hn] at hat
    have heach : ∀ i, i < len → ∃ q : α, ∃ cs, cs.length = sh.n ∧ sh.lies (· < w.heap.size) w cs q ∧ ∀ j (hj : j < cs.length), w.cell? ((a.add (i * sh.n)).add j) = some cs[j] := fun i hi => by
      have hb := hat i hi
      rw [List.getElem?_eq_getElem (by omega)] at hb
      obtain ⟨cs', hc1, hc2⟩ := Option.bind_eq_some_iff.1 hb
      obtain ⟨q, hq⟩ := helem _ cs' _ hc2
      obtain ⟨hb1, hl5, hcell⟩ := World.cells?_some hc1
      exact ⟨q, cs', hl5, hq, fun j hj => (hcell j (by omega)).trans (List.getElem?_eq_getElem hj)⟩
    obtain ⟨q, hq, hqp⟩ := olist_of len heach
    refine ⟨q, some a, cap, by rw [hq], by rw [hq]; omega, by rw [hq]; omega, ?_⟩
    by_cases h0 : len = 0
    · left; exact List.eq_nil_of_length_eq_zero (by omega)
    · right
      obtain ⟨b, off, spot⟩ := a
      obtain ⟨cs0, hl0, _, hc0⟩ := hqp 0 (by omega)
      have hc0 := hc0 0 (by omega)
      have hspot : spot = none := by
        have := World.cell?_spot hc0
        simpa [Addr.add] using this
      subst hspot
      refine ⟨b, off, rfl, ?_, fun i hi => ?_⟩
      · rw [vaddr_add, vaddr_add] at hc0; exact World.block_lt_of_cell? w _ hc0
      · obtain ⟨cs, h1, h2, h3⟩ := hqp i hi
        refine ⟨cs, h2, fun j hj => ?_⟩
        have := h3 j hj
        rw [vaddr_add, vaddr_add] at this
        exact this

set_option maxRecDepth 100000 in
theorem need_of_trod {H : Type} {enc : TypeId × Value → H} {w : World} {spare : Nat → Bool} {held : Bool} (fuel : Nat) (cs : List Value) (x : DataW H × List MemPlace)
    (h : DataW.trod enc Try.prog w 0 spare held fuel 76 cs = some x) : ∃ d : NeedD, shNeed.lies (· < w.heap.size) w cs d := by
  obtain ⟨xs, n, rfl, _, hlen, hxl, hf⟩ := DataW.trod_struct Try.underlying76 h
  have hN : Try.prog.cellsOf 76 = 2 := by kernel_rfl
  obtain ⟨c0, c1, rfl⟩ := olist2 (hlen.trans hN)
  have hx : ∀ i, i < 2 → ∃ y, xs[i]? = some y := fun i hi => ⟨xs[i]'(by rw [hxl]; exact hi), by rw [List.getElem?_eq_getElem]⟩
  obtain ⟨y0, e0⟩ := hx 0 (by omega)
  have k0 : Try.prog.cellsOf 9 = 1 := by kernel_rfl
  have f0 : DataW.trod enc Try.prog w 0 spare held n 9 [c0] = some y0 := by
    have h : DataW.trod enc Try.prog w 0 spare held n 9 ((([c0, c1] : List Value).drop 0).take (Try.prog.cellsOf 9)) = some y0 := (hf 0 _ rfl).trans e0
    rw [k0] at h; exact h
  obtain ⟨y1, e1⟩ := hx 1 (by omega)
  have k1 : Try.prog.cellsOf 9 = 1 := by kernel_rfl
  have f1 : DataW.trod enc Try.prog w 0 spare held n 9 [c1] = some y1 := by
    have h : DataW.trod enc Try.prog w 0 spare held n 9 ((([c0, c1] : List Value).drop 1).take (Try.prog.cellsOf 9)) = some y1 := (hf 1 _ rfl).trans e1
    rw [k1] at h; exact h
  obtain ⟨t0, ht0, _, hl0⟩ := DataW.trod_string Try.underlying9 f0
  simp at ht0
  subst ht0
  obtain ⟨t1, ht1, _, hl1⟩ := DataW.trod_string Try.underlying9 f1
  simp at ht1
  subst ht1
  exact ⟨⟨t0, t1⟩, rfl, hl0, hl1⟩
set_option maxRecDepth 100000 in
theorem needs_of_trod {H : Type} {enc : TypeId × Value → H} {w : World} {spare : Nat → Bool} {held : Bool} (fuel : Nat) (c : Value) (x : DataW H × List MemPlace)
    (h : DataW.trod enc Try.prog w 0 spare held fuel 35 [c] = some x) : ∃ xs, RowIn shNeed (· < w.heap.size) w c xs :=
  rows_of_trod shNeed Try.underlying35 (by kernel_rfl) (by decide) (fun n cs y hh => need_of_trod n cs y hh) fuel c x h

set_option maxRecDepth 100000 in
theorem cmd_of_trod {H : Type} {enc : TypeId × Value → H} {w : World} {spare : Nat → Bool} {held : Bool} (fuel : Nat) (cs : List Value) (x : DataW H × List MemPlace)
    (h : DataW.trod enc Try.prog w 0 spare held fuel 78 cs = some x) : ∃ d : CmdD, shCmd.lies (· < w.heap.size) w cs d := by
  obtain ⟨xs, n, rfl, _, hlen, hxl, hf⟩ := DataW.trod_struct Try.underlying78 h
  have hN : Try.prog.cellsOf 78 = 2 := by kernel_rfl
  obtain ⟨c0, c1, rfl⟩ := olist2 (hlen.trans hN)
  have hx : ∀ i, i < 2 → ∃ y, xs[i]? = some y := fun i hi => ⟨xs[i]'(by rw [hxl]; exact hi), by rw [List.getElem?_eq_getElem]⟩
  obtain ⟨y0, e0⟩ := hx 0 (by omega)
  have k0 : Try.prog.cellsOf 9 = 1 := by kernel_rfl
  have f0 : DataW.trod enc Try.prog w 0 spare held n 9 [c0] = some y0 := by
    have h : DataW.trod enc Try.prog w 0 spare held n 9 ((([c0, c1] : List Value).drop 0).take (Try.prog.cellsOf 9)) = some y0 := (hf 0 _ rfl).trans e0
    rw [k0] at h; exact h
  obtain ⟨y1, e1⟩ := hx 1 (by omega)
  have k1 : Try.prog.cellsOf 23 = 1 := by kernel_rfl
  have f1 : DataW.trod enc Try.prog w 0 spare held n 23 [c1] = some y1 := by
    have h : DataW.trod enc Try.prog w 0 spare held n 23 ((([c0, c1] : List Value).drop 1).take (Try.prog.cellsOf 23)) = some y1 := (hf 1 _ rfl).trans e1
    rw [k1] at h; exact h
  obtain ⟨t0, ht0, _, hl0⟩ := DataW.trod_string Try.underlying9 f0
  simp at ht0
  subst ht0
  obtain ⟨t1, hr1, hs1⟩ := vreads_open f1
  exact ⟨⟨t0, t1⟩, _, rfl, hl0, RdB.of hr1, hs1⟩
set_option maxRecDepth 100000 in
theorem cmds_of_trod {H : Type} {enc : TypeId × Value → H} {w : World} {spare : Nat → Bool} {held : Bool} (fuel : Nat) (c : Value) (x : DataW H × List MemPlace)
    (h : DataW.trod enc Try.prog w 0 spare held fuel 36 [c] = some x) : ∃ xs, RowIn shCmd (· < w.heap.size) w c xs :=
  rows_of_trod shCmd Try.underlying36 (by kernel_rfl) (by decide) (fun n cs y hh => cmd_of_trod n cs y hh) fuel c x h

set_option maxRecDepth 100000 in
theorem pack_of_trod {H : Type} {enc : TypeId × Value → H} {w : World} {spare : Nat → Bool} {held : Bool} (fuel : Nat) (cs : List Value) (x : DataW H × List MemPlace)
    (h : DataW.trod enc Try.prog w 0 spare held fuel 38 cs = some x) : ∃ d : PackD, shPack.lies (· < w.heap.size) w cs d := by
  obtain ⟨xs, n, rfl, _, hlen, hxl, hf⟩ := DataW.trod_struct Try.underlying38 h
  have hN : Try.prog.cellsOf 38 = 4 := by kernel_rfl
  obtain ⟨c0, c1, c2, c3, rfl⟩ := olist4 (hlen.trans hN)
  have hx : ∀ i, i < 4 → ∃ y, xs[i]? = some y := fun i hi => ⟨xs[i]'(by rw [hxl]; exact hi), by rw [List.getElem?_eq_getElem]⟩
  obtain ⟨y0, e0⟩ := hx 0 (by omega)
  have k0 : Try.prog.cellsOf 9 = 1 := by kernel_rfl
  have f0 : DataW.trod enc Try.prog w 0 spare held n 9 [c0] = some y0 := by
    have h : DataW.trod enc Try.prog w 0 spare held n 9 ((([c0, c1, c2, c3] : List Value).drop 0).take (Try.prog.cellsOf 9)) = some y0 := (hf 0 _ rfl).trans e0
    rw [k0] at h; exact h
  obtain ⟨y1, e1⟩ := hx 1 (by omega)
  have k1 : Try.prog.cellsOf 23 = 1 := by kernel_rfl
  have f1 : DataW.trod enc Try.prog w 0 spare held n 23 [c1] = some y1 := by
    have h : DataW.trod enc Try.prog w 0 spare held n 23 ((([c0, c1, c2, c3] : List Value).drop 1).take (Try.prog.cellsOf 23)) = some y1 := (hf 1 _ rfl).trans e1
    rw [k1] at h; exact h
  obtain ⟨y2, e2⟩ := hx 2 (by omega)
  have k2 : Try.prog.cellsOf 35 = 1 := by kernel_rfl
  have f2 : DataW.trod enc Try.prog w 0 spare held n 35 [c2] = some y2 := by
    have h : DataW.trod enc Try.prog w 0 spare held n 35 ((([c0, c1, c2, c3] : List Value).drop 2).take (Try.prog.cellsOf 35)) = some y2 := (hf 2 _ rfl).trans e2
    rw [k2] at h; exact h
  obtain ⟨y3, e3⟩ := hx 3 (by omega)
  have k3 : Try.prog.cellsOf 36 = 1 := by kernel_rfl
  have f3 : DataW.trod enc Try.prog w 0 spare held n 36 [c3] = some y3 := by
    have h : DataW.trod enc Try.prog w 0 spare held n 36 ((([c0, c1, c2, c3] : List Value).drop 3).take (Try.prog.cellsOf 36)) = some y3 := (hf 3 _ rfl).trans e3
    rw [k3] at h; exact h
  obtain ⟨t0, ht0, _, hl0⟩ := DataW.trod_string Try.underlying9 f0
  simp at ht0
  subst ht0
  obtain ⟨t1, hr1, hs1⟩ := vreads_open f1
  obtain ⟨t2, hr2⟩ := needs_of_trod n _ _ f2
  obtain ⟨t3, hr3⟩ := cmds_of_trod n _ _ f3
  exact ⟨⟨t0, t1, t2, t3⟩, _, _, _, rfl, hl0, RdB.of hr1, hs1, hr2, hr3⟩
set_option maxRecDepth 100000 in
theorem packs_of_trod {H : Type} {enc : TypeId × Value → H} {w : World} {spare : Nat → Bool} {held : Bool} (fuel : Nat) (c : Value) (x : DataW H × List MemPlace)
    (h : DataW.trod enc Try.prog w 0 spare held fuel 22 [c] = some x) : ∃ xs, RowIn shPack (· < w.heap.size) w c xs :=
  rows_of_trod shPack Try.underlying22 (by kernel_rfl) (by decide) (fun n cs y hh => pack_of_trod n cs y hh) fuel c x h

end Go.Proofs.Ytdiopkegaeliaaa
