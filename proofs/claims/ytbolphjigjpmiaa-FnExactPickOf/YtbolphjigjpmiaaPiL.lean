/-
  The law on PickOf, walked: whatever comes in, the program and the specification answer alike, nothing is written into an argument, and the answer owns its memory; condition: what comes in lies in memory.
-/
import Derived.Test.YtbolphjigjpmiaaPiK
import Derived.Test.YtbolphjigjpmiaaPiM
import Derived.Test.YtbolphjigjpmiaaPiA1
import Derived.Test.YtbolphjigjpmiaaPiB
import Derived.Test.YtbolphjigjpmiaaPiC
namespace Go.Proofs.Ytbolphjigjpmiaa
open Go.RowKit
set_option linter.unusedSimpArgs false
set_option linter.unusedVariables false

/-- The boxes of two answers, and what these refer to. -/
structure StP (N6 N9 l6 h6 l9 h9 : Nat) (O6 O9 : Obj) (u6 u9 : Value) (ps : List ByteArray) (W : World) : Prop where
  b6 : W.heap[N6]? = some O6
  b9 : W.heap[N9]? = some O9
  o6 : StrsOwn (Ow l6 h6) W u6 ps
  o9 : StrsOwn (Ow l9 h9) W u9 ps
  hh6 : h6 ≤ W.heap.size
  hh9 : h9 ≤ W.heap.size
theorem StP.chg {N6 N9 l6 h6 l9 h9 : Nat} {O6 O9 : Obj} {u6 u9 : Value} {ps : List ByteArray} {W W' : World} {S : Nat → Prop} (h : StP N6 N9 l6 h6 l9 h9 O6 O9 u6 u9 ps W) (k : Chg S W W') (n1 : ¬ S N6) (n2 : ¬ S N9) (n3 : ∀ b, Ow l6 h6 b → ¬ S b) (n4 : ∀ b, Ow l9 h9 b → ¬ S b) : StP N6 N9 l6 h6 l9 h9 O6 O9 u6 u9 ps W' :=
  ⟨(k.block _ (Array.getElem?_eq_some_iff.1 h.b6).1 n1).trans h.b6, (k.block _ (Array.getElem?_eq_some_iff.1 h.b9).1 n2).trans h.b9, h.o6.keep (fun b hb => k.block b (Nat.lt_of_lt_of_le hb.2 h.hh6) (n3 b hb)), h.o9.keep (fun b hb => k.block b (Nat.lt_of_lt_of_le hb.2 h.hh9) (n4 b hb)), Nat.le_trans h.hh6 k.size, Nat.le_trans h.hh9 k.size⟩
theorem StP.below {N6 N9 l6 h6 l9 h9 : Nat} {O6 O9 : Obj} {u6 u9 : Value} {ps : List ByteArray} {W W' : World} (h : StP N6 N9 l6 h6 l9 h9 O6 O9 u6 u9 ps W) (k : Below W.heap.size W W') : StP N6 N9 l6 h6 l9 h9 O6 O9 u6 u9 ps W' :=
  h.chg (Chg.of (S := fun _ => False) k) id id (fun _ _ => id) (fun _ _ => id)
theorem below_chgP {B : Nat} {S : Nat → Prop} {w W W' : World} (h : Below B w W) (k : Chg S W W') (hs : ∀ b, S b → B ≤ b) (hB : B ≤ W.heap.size) : Below B w W' :=
  ⟨k.os.trans h.os, k.tape.trans h.tape, k.output.trans h.output, Nat.le_trans h.size k.size, fun b hb => (k.block b (Nat.lt_of_lt_of_le hb hB) (fun hS => by have := hs b hS; omega)).trans (h.block b hb)⟩
theorem cells_of {w : World} {g : Nat} {a b c d : Value} {t : TypeId} (h : w.heap[g]? = some (.cells #[a, b, c, d] t (0, 0))) : w.cell? ⟨g, 0, none⟩ = some a ∧ w.cell? ⟨g, 1, none⟩ = some b ∧ w.cell? ⟨g, 2, none⟩ = some c ∧ w.cell? ⟨g, 3, none⟩ = some d := by
  have h0 := vblk_cell h 0
  have h1 := vblk_cell h 1
  have h2 := vblk_cell h 2
  have h3 := vblk_cell h 3
  simp only [List.getElem?_toArray, List.getElem?_cons_succ, List.getElem?_cons_zero] at h0 h1 h2 h3
  exact ⟨h0, h1, h2, h3⟩

set_option maxHeartbeats 8000000 in
set_option maxRecDepth 100000 in
theorem pickOf_walk (a0 : Value) (z0 : List PickD) (a1 : ByteArray) (w : World) (r0 : RowIn shPick (· < w.heap.size) w a0 z0) (w1' : a1.size ≤ maxLen) :
    Calls Try.prog 6 #[a0, .string a1] w fun e w' => e = .returned (.bool true) ∧ Below w.heap.size w w' := by
  have hin : ∀ w1, Below w.heap.size w w1 → RowIn shPick (· < w1.heap.size) w1 a0 z0 := fun w1 h => r0.below h
  have HZ : Hid (∀ w1, Below w.heap.size w w1 → Calls Try.prog 27 #[a0, .int .i64 1048576] w1 fun e w' => e = .returned (.int .i64 (leftW (wtRow wtPick z0) 1048576)) ∧ Below w1.heap.size w1 w') := fun w1 h => szPickS_c _ _ z0 _ (by omega) (by omega) w1 (hin w1 h) (fun b h => h)
  obtain ⟨q0, cap0, hq0⟩ := r0.slice
  subst hq0
  unfold maxLen at w1'
  by_cases hbig1 : 1048576 < a1.size
  · have hb : (1048576 : Int) < (a1.size : Int) := by omega
    clear hin r0 HZ
    go_enter Try.func6, Try.ntmps6
    go_wp2_with fail
    go_ret
    exact ⟨rfl, Below.refl _ _⟩
  have hb1' : ¬ (1048576 : Int) < (a1.size : Int) := by omega
  by_cases hbig : 1048576 < wtRow wtPick z0
  · have e1 : leftW (wtRow wtPick z0) 1048576 = -1 := leftW_bad (by omega)
    rw [e1] at HZ
    clear e1 hin r0
    go_enter Try.func6, Try.ntmps6
    go_wp2_with (go_at_call 27; refine (HZ.out _ (Below.refl _ _)).mono ?_; rintro e w1 ⟨rfl, hb1⟩)
    go_ret
    exact ⟨rfl, hb1⟩
  have hwt : wtRow wtPick z0 ≤ 1048576 := by omega
  obtain ⟨p, hp⟩ : ∃ p, p = leftW (wtRow wtPick z0) 1048576 := ⟨_, rfl⟩
  rw [← hp] at HZ
  have hp0 : 0 ≤ p := by rw [hp, leftW_good (by omega)]; omega
  clear hp
  obtain ⟨FF, hFF⟩ : ∃ F, F = firstP z0 a1 := ⟨_, rfl⟩
  obtain ⟨DD, hDD⟩ : ∃ D, D = atP z0 FF := ⟨_, rfl⟩
  have hwD : wtPick DD ≤ 1048576 := by
    rw [hDD]
    unfold atP
    cases FF with
    | none => show wtPick zeroP ≤ _; decide
    | some i =>
      cases hi : z0[i]? with
      | none => rw [Option.bind_some, hi]; show wtPick zeroP ≤ _; decide
      | some d => simp only [Option.bind_some, hi, Option.getD_some]; exact Nat.le_trans (wt_wtRow wtPick (List.mem_of_getElem? hi)) hwt
  have hnl : DD.vP.length ≤ 1048576 := by unfold wtPick bulkS at hwD; omega
  obtain ⟨nD, hnD⟩ : ∃ n, n = DD.vP.length := ⟨_, rfl⟩
  have HT : Hid (∀ w1, Below w.heap.size w w1 → Calls Try.prog 29 #[.slice q0 z0.length cap0] w1 fun e w' => ∃ g, e = .returned (.slice (some ⟨g, 0, none⟩) z0.length z0.length) ∧ RowOwn shPickO 113 (Ow w1.heap.size w'.heap.size) w' (.slice (some ⟨g, 0, none⟩) z0.length z0.length) z0 ∧ Below w1.heap.size w1 w') := fun w1 h => toPickS_c _ _ z0 w1 (hin w1 h) (fun b h => h) hwt
  have HSP : Hid (∀ w1 g lo, RowOwn shPickO 113 (Ow lo w1.heap.size) w1 (.slice (some ⟨g, 0, none⟩) z0.length z0.length) z0 → Calls Try.prog 28 #[.slice (some ⟨g, 0, none⟩) z0.length z0.length, .string a1] w1 fun e w' => ∃ q c, e = .returned (.tuple #[.agg #[.int .i64 DD.vA, .int .i64 DD.vB, .int .i64 DD.vC, .slice q nD c], .bool FF.isSome]) ∧ StrsOwn (Ow w1.heap.size w'.heap.size) w' (.slice q nD c) DD.vP ∧ Below w1.heap.size w1 w') := fun w1 g lo h => (specPick_c (Ow lo w1.heap.size) _ z0 a1 w1 h.plain (fun b hb => hb.2) hwt).mono (by
    rintro e w' ⟨u', he, ho, hb⟩
    rw [← hFF, ← hDD] at he ho
    obtain ⟨q, c, eu⟩ := owns_sliceP ho
    subst eu
    rw [hnD]
    exact ⟨q, c, he, ⟨owns_lo (Nat.zero_le _) ho, owns_in ho⟩, hb⟩)
  have HIM : Hid (∀ w1 g lo, RowOwn shPickO 113 (Ow lo w1.heap.size) w1 (.slice (some ⟨g, 0, none⟩) z0.length z0.length) z0 → Calls Try.prog 30 #[.slice (some ⟨g, 0, none⟩) z0.length z0.length, .string a1] w1 fun e w' => ∃ q c, e = .returned (.tuple #[.agg #[.int .i64 DD.vA, .int .i64 DD.vB, .int .i64 DD.vC, .slice q nD c], .bool FF.isSome]) ∧ StrsOwn (Ow w1.heap.size w'.heap.size) w' (.slice q nD c) DD.vP ∧ Below w1.heap.size w1 w') := fun w1 g lo h => (implPick_c (Ow lo w1.heap.size) _ z0 a1 w1 (RowIn.as (sh := shPickO) (sh' := shPick) rfl (fun S w cs x h => liesPick_plain h) h.plain) (fun b hb => hb.2) hwt).mono (by
    rintro e w' ⟨u', he, ho, hb⟩
    rw [← hFF, ← hDD] at he ho
    obtain ⟨q, c, eu⟩ := owns_sliceP ho
    subst eu
    rw [hnD]
    exact ⟨q, c, he, ⟨owns_lo (Nat.zero_le _) ho, owns_in ho⟩, hb⟩)
  have HEV : Hid (∀ W (S S' : Nat → Prop) q c q' c', StrsOwn S W (.slice q nD c) DD.vP → StrsOwn S' W (.slice q' nD c') DD.vP → Calls Try.prog 31 #[.agg #[.int .i64 DD.vA, .int .i64 DD.vB, .int .i64 DD.vC, .slice q nD c], .agg #[.int .i64 DD.vA, .int .i64 DD.vB, .int .i64 DD.vC, .slice q' nD c']] W fun e w' => e = .returned (.bool true) ∧ Below W.heap.size W w') := fun W S S' q c q' c' h h' => eqVer_c _ _ _ _ _ DD.vP W (reads_of_owns h.1) (reads_of_owns h'.1) hnl
  have HES : Hid (∀ W g g' l1 h1 l2 h2, RowOwn shPickO 113 (Ow l1 h1) W (.slice (some ⟨g, 0, none⟩) z0.length z0.length) z0 → h1 ≤ W.heap.size → RowOwn shPickO 113 (Ow l2 h2) W (.slice (some ⟨g', 0, none⟩) z0.length z0.length) z0 → h2 ≤ W.heap.size → Calls Try.prog 32 #[.slice (some ⟨g, 0, none⟩) z0.length z0.length, .slice (some ⟨g', 0, none⟩) z0.length z0.length] W fun e w' => e = .returned (.bool true) ∧ Below W.heap.size W w') := fun W g g' l1 h1 l2 h2 a c b d => eqPickS_c (Ow l1 h1) (Ow l2 h2) _ _ z0 W (RowIn.as (sh := shPickO) (sh' := shPick) rfl (fun S w cs x h => liesPick_plain h) a.plain) (RowIn.as (sh := shPickO) (sh' := shPick) rfl (fun S w cs x h => liesPick_plain h) b.plain) (fun b hb => Nat.lt_of_lt_of_le hb.2 c) (fun b hb => Nat.lt_of_lt_of_le hb.2 d) hwt
  have hcE := cntPs_wt z0
  obtain ⟨K1, hK1⟩ : ∃ K, K = 1 + cntPs z0 := ⟨_, rfl⟩
  have hK1n : ¬ (K1 : Int) < 0 := by omega
  have HMX : Hid (∀ W g l h, RowOwn shPickO 113 (Ow l h) W (.slice (some ⟨g, 0, none⟩) z0.length z0.length) z0 → Calls Try.prog 33 #[.slice (some ⟨g, 0, none⟩) z0.length z0.length, .int .i64 1] W fun e w' => e = .returned (.int .i64 (K1 : Int)) ∧ Chg (Ow l h) W w') := fun W g l h a => by rw [hK1]; exact markPickS_c (Ow l h) _ z0 1 W a (Nat.le_refl _) (by omega)
  obtain ⟨M1, hM1⟩ : ∃ K, K = 1 + nD := ⟨_, rfl⟩
  have hM1n : ¬ (M1 : Int) < 0 := by omega
  have hM1b : 1 + nD ≤ 4294967296 := by omega
  have HMV : Hid (∀ W q c xs, W.ownsRow 0 9 1 (.slice q nD c) nD xs → Calls Try.prog 34 #[.agg #[.int .i64 DD.vA, .int .i64 DD.vB, .int .i64 DD.vC, .slice q nD c], .int .i64 1] W fun e w' => e = .returned (.int .i64 (M1 : Int)) ∧ w'.ownsRow 0 9 1 (.slice q nD c) nD (strsV (marksS 1 nD)) ∧ W.grownBy w' (Value.slice q nD c).ownBlock) := fun W q c xs a => by rw [hM1]; exact markVerE_c _ _ _ _ 0 nD 1 xs W a (Nat.le_refl _) hM1b (Nat.zero_le _)
  have HHV : Hid (∀ W q c, W.ownsRow 0 9 1 (.slice q nD c) nD (strsV (marksS 1 nD)) → Calls Try.prog 35 #[.agg #[.int .i64 DD.vA, .int .i64 DD.vB, .int .i64 DD.vC, .slice q nD c], .int .i64 1] W fun e w' => e = .returned (.int .i64 (M1 : Int)) ∧ Below W.heap.size W w') := fun W q c a => by rw [hM1]; exact heldVerE_c _ _ _ _ 0 nD 1 W a (Nat.le_refl _) hM1b
  have HND := hidden hnD
  obtain ⟨IS, hIS⟩ : ∃ b, b = FF.isSome := ⟨_, rfl⟩
  simp only [← hIS] at HSP HIM
  clear hFF hDD hin r0 hbig hbig1 hwD hnl hnD hcE hK1 hM1 hM1b hIS hwt
  go_enter Try.func6, Try.ntmps6
  go_wp2_with fail
  go_at_call 27
  refine (HZ.out _ (Below.refl _ _)).mono ?_
  rintro e w1 ⟨rfl, k1⟩
  go_wp2_with fail
  go_at_call 29
  refine (HT.out _ k1).mono ?_
  rintro e w2 ⟨g2, rfl, F2, b2⟩
  have k2 := k1.trans (b2.mono k1.size)
  go_wp2_with fail
  go_at_call 28
  refine (HSP.out _ g2 _ F2).mono ?_
  rintro e w3 ⟨q6, c6, rfl, o6, b3⟩
  have k3 := k2.trans (b3.mono k2.size)
  clear F2 b2 HSP HZ
  have x3 : Below w3.heap.size w3 (w3.alloc (.cells #[.int .i64 DD.vA, .int .i64 DD.vB, .int .i64 DD.vC, .slice q6 nD c6] 59 (0, 0))) := (Below.refl _ _).alloc (Nat.le_refl _) _
  have hb6 : (w3.alloc (.cells #[.int .i64 DD.vA, .int .i64 DD.vB, .int .i64 DD.vC, .slice q6 nD c6] 59 (0, 0))).heap[w3.heap.size]? = some (.cells #[.int .i64 DD.vA, .int .i64 DD.vB, .int .i64 DD.vC, .slice q6 nD c6] 59 (0, 0)) := vheap_new _ _
  have s3 : (w3.alloc (.cells #[.int .i64 DD.vA, .int .i64 DD.vB, .int .i64 DD.vC, .slice q6 nD c6] 59 (0, 0))).heap.size = w3.heap.size + 1 := by simp
  go_wp2_with fail
  obtain ⟨wa, hwa⟩ : ∃ wa, wa = w3.alloc (.cells #[.int .i64 DD.vA, .int .i64 DD.vB, .int .i64 DD.vC, .slice q6 nD c6] 59 (0, 0)) := ⟨_, rfl⟩
  rw [← hwa] at x3 hb6 s3
  rw [← hwa]
  clear hwa
  have ka := k3.trans (x3.mono k3.size)
  have o6a := o6.keep (Kp.of x3 (fun b hb => hb.2))
  go_at_call 29
  refine (HT.out _ ka).mono ?_
  rintro e w4 ⟨g4, rfl, F4, b4⟩
  have k4 := ka.trans (b4.mono ka.size)
  have hb64 := box_below hb6 b4
  have o64 := o6a.keep (Kp.of b4 (fun b hb => by have := hb.2; omega))
  clear hb6 o6 o6a
  go_wp2_with fail
  go_at_call 30
  refine (HIM.out _ g4 _ F4).mono ?_
  rintro e w5 ⟨q9, c9, rfl, o9, b5⟩
  have k5 := k4.trans (b5.mono k4.size)
  have hb65 := box_below hb64 b5
  have o65 := o64.keep (Kp.of b5 (fun b hb => by have := hb.2; have := b4.size; omega))
  have F5 := F4.keep (Kp.of b5 (fun b hb => hb.2))
  clear hb64 o64 F4
  have x5 : Below w5.heap.size w5 (w5.alloc (.cells #[.int .i64 DD.vA, .int .i64 DD.vB, .int .i64 DD.vC, .slice q9 nD c9] 59 (0, 0))) := (Below.refl _ _).alloc (Nat.le_refl _) _
  have hb9 : (w5.alloc (.cells #[.int .i64 DD.vA, .int .i64 DD.vB, .int .i64 DD.vC, .slice q9 nD c9] 59 (0, 0))).heap[w5.heap.size]? = some (.cells #[.int .i64 DD.vA, .int .i64 DD.vB, .int .i64 DD.vC, .slice q9 nD c9] 59 (0, 0)) := vheap_new _ _
  have s5 : (w5.alloc (.cells #[.int .i64 DD.vA, .int .i64 DD.vB, .int .i64 DD.vC, .slice q9 nD c9] 59 (0, 0))).heap.size = w5.heap.size + 1 := by simp
  have m4 := b4.size
  have m5 := b5.size
  have m3 := b3.size
  clear b3 b4 b5
  obtain ⟨y0, y1, y2, y3⟩ := cells_of (box_below hb65 x5)
  go_wp2_with fail
  obtain ⟨wb, hwb⟩ : ∃ wb, wb = w5.alloc (.cells #[.int .i64 DD.vA, .int .i64 DD.vB, .int .i64 DD.vC, .slice q9 nD c9] 59 (0, 0)) := ⟨_, rfl⟩
  rw [← hwb] at x5 hb9 s5 y0 y1 y2 y3
  rw [← hwb]
  clear hwb
  have kb := k5.trans (x5.mono k5.size)
  have hF := F5.keep (Kp.of x5 (fun b hb => by have := hb.2; omega))
  have st : StP w3.heap.size w5.heap.size w2.heap.size w3.heap.size w4.heap.size w5.heap.size (.cells #[.int .i64 DD.vA, .int .i64 DD.vB, .int .i64 DD.vC, .slice q6 nD c6] 59 (0, 0)) (.cells #[.int .i64 DD.vA, .int .i64 DD.vB, .int .i64 DD.vC, .slice q9 nD c9] 59 (0, 0)) (.slice q6 nD c6) (.slice q9 nD c9) DD.vP wb := ⟨box_below hb65 x5, hb9, o65.keep (Kp.of x5 (fun b hb => by have := hb.2; omega)), o9.keep (Kp.of x5 (fun b hb => hb.2)), by omega, by omega⟩
  clear hb65 o65 o9 hb9 F5 x5 x3
  go_at_call 31
  refine (HEV.out _ _ _ _ _ _ _ st.o9 st.o6).mono ?_
  rintro e w6 ⟨rfl, b6⟩
  have k6 := kb.trans (b6.mono kb.size)
  have st6 := st.below b6
  have F6 := hF.keep (Kp.of b6 (fun b hb => by have := hb.2; omega))
  have m6 := b6.size
  clear st hF b6 y0 y1 y2 y3
  go_wp2_with fail
  go_at_call 29
  refine (HT.out _ k6).mono ?_
  rintro e w7 ⟨g7, rfl, F7, b7⟩
  have k7 := k6.trans (b7.mono k6.size)
  have st7 := st6.below b7
  have F67 := F6.keep (Kp.of b7 (fun b hb => by have := hb.2; omega))
  have m7 := b7.size
  clear st6 F6 b7
  go_wp2_with fail
  go_at_call 32
  refine (HES.out _ _ _ _ _ _ _ F67 (by omega) F7 (Nat.le_refl _)).mono ?_
  rintro e w8 ⟨rfl, b8⟩
  have k8 := k7.trans (b8.mono k7.size)
  have st8 := st7.below b8
  have F8 := F67.keep (Kp.of b8 (fun b hb => by have := hb.2; omega))
  have m8 := b8.size
  clear st7 F67 F7 b8 HES
  go_wp2_with fail
  go_at_call 33
  refine (HMX.out _ _ _ _ F8).mono ?_
  rintro e w9 ⟨rfl, ch9⟩
  have k9 := below_chgP k8 ch9 (fun b hb => by have := hb.1; have := k3.size; omega) k8.size
  have st9 := st8.chg ch9 (fun h => by have := h.1; omega) (fun h => by have := h.2; omega) (fun b hb h => by have := hb.2; have := h.1; omega) (fun b hb h => by have := hb.1; have := h.2; omega)
  have m9 := ch9.size
  obtain ⟨y0, y1, y2, y3⟩ := cells_of st9.b6
  obtain ⟨t0, t1, t2, t3⟩ := cells_of st9.b9
  clear st8 F8 ch9 HMX
  go_wp2_with fail
  go_at_call 31
  refine (HEV.out _ _ _ _ _ _ _ st9.o9 st9.o6).mono ?_
  rintro e w10 ⟨rfl, b10⟩
  have k10 := k9.trans (b10.mono k9.size)
  have st10 := st9.below b10
  have m10 := b10.size
  clear st9 b10 y0 y1 y2 y3 t0 t1 t2 t3
  obtain ⟨t0, t1, t2, t3⟩ := cells_of st10.b9
  have HOX : Hid (w10.ownsRow 0 9 1 (.slice q9 nD c9) nD (strsV DD.vP)) := by have := st10.o9.1; rw [← HND.out] at this; exact this
  go_wp2_with fail
  go_at_call 34
  refine (HMV.out _ _ _ _ HOX.out).mono ?_
  rintro e w11 ⟨rfl, n11, g11⟩
  have ch11 : Chg (Ow w4.heap.size w5.heap.size) w10 w11 := Chg.grown g11 st10.o9.2
  have k11 := below_chgP k10 ch11 (fun b hb => by have := hb.1; have := k3.size; omega) k10.size
  have h6' := (ch11.block _ (Array.getElem?_eq_some_iff.1 st10.b6).1 (fun h => by have := h.1; omega)).trans st10.b6
  have h9' := (ch11.block _ (Array.getElem?_eq_some_iff.1 st10.b9).1 (fun h => by have := h.2; omega)).trans st10.b9
  have o6' := st10.o6.keep (fun b hb => ch11.block b (Nat.lt_of_lt_of_le hb.2 st10.hh6) (fun h => by have := hb.2; have := h.1; omega))
  have m11 := ch11.size
  clear st10 g11 ch11 t0 t1 t2 t3 HOX HMV
  obtain ⟨t0, t1, t2, t3⟩ := cells_of h9'
  go_wp2_with fail
  go_at_call 35
  refine (HHV.out _ _ _ n11).mono ?_
  rintro e w12 ⟨rfl, b12⟩
  have k12 := k11.trans (b12.mono k11.size)
  have h6b := box_below h6' b12
  have h9b := box_below h9' b12
  have o6b := o6'.keep (Kp.of b12 (fun b hb => by have := hb.2; omega))
  have n12 := owns_of_below n11 b12
  have m12 := b12.size
  clear h6' h9' o6' n11 b12 t0 t1 t2 t3
  go_wp2_with fail
  go_at_call 29
  refine (HT.out _ k12).mono ?_
  rintro e w13 ⟨g13, rfl, F13, b13⟩
  have k13 := k12.trans (b13.mono k12.size)
  have h6c := box_below h6b b13
  have h9c := box_below h9b b13
  have o6c := o6b.keep (Kp.of b13 (fun b hb => by have := hb.2; omega))
  have n13 := owns_of_below n12 b13
  have m13 := b13.size
  clear h6b h9b o6b n12 b13 HT
  go_wp2_with fail
  go_at_call 30
  refine (HIM.out _ g13 _ F13).mono ?_
  rintro e w14 ⟨q14, c14, rfl, o14, b14⟩
  have k14 := k13.trans (b14.mono k13.size)
  have h6d := box_below h6c b14
  have h9d := box_below h9c b14
  have o6d := o6c.keep (Kp.of b14 (fun b hb => by have := hb.2; omega))
  have n14 := owns_of_below n13 b14
  have m14 := b14.size
  clear h6c h9c o6c n13 b14 F13 HIM
  have x14 : Below w14.heap.size w14 (w14.alloc (.cells #[.int .i64 DD.vA, .int .i64 DD.vB, .int .i64 DD.vC, .slice q14 nD c14] 59 (0, 0))) := (Below.refl _ _).alloc (Nat.le_refl _) _
  have hb14 : (w14.alloc (.cells #[.int .i64 DD.vA, .int .i64 DD.vB, .int .i64 DD.vC, .slice q14 nD c14] 59 (0, 0))).heap[w14.heap.size]? = some (.cells #[.int .i64 DD.vA, .int .i64 DD.vB, .int .i64 DD.vC, .slice q14 nD c14] 59 (0, 0)) := vheap_new _ _
  obtain ⟨y0, y1, y2, y3⟩ := cells_of (box_below h6d x14)
  go_wp2_with fail
  obtain ⟨wc, hwc⟩ : ∃ wc, wc = w14.alloc (.cells #[.int .i64 DD.vA, .int .i64 DD.vB, .int .i64 DD.vC, .slice q14 nD c14] 59 (0, 0)) := ⟨_, rfl⟩
  rw [← hwc] at x14 hb14 y0 y1 y2 y3
  rw [← hwc]
  clear hwc
  have kc := k14.trans (x14.mono k14.size)
  have h6e := box_below h6d x14
  have h9e := box_below h9d x14
  have o6e := o6d.keep (Kp.of x14 (fun b hb => by have := hb.2; omega))
  have o14e := o14.keep (Kp.of x14 (fun b hb => hb.2))
  have n15 := owns_of_below n14 x14
  clear h6d h9d o6d o14 n14 x14
  go_at_call 31
  refine (HEV.out _ _ _ _ _ _ _ o14e o6e).mono ?_
  rintro e w15 ⟨rfl, b15⟩
  have k15 := kc.trans (b15.mono kc.size)
  have h9f := box_below h9e b15
  have n16 := owns_of_below n15 b15
  clear h6e h9e o6e o14e n15 b15 hb14 y0 y1 y2 y3
  obtain ⟨t0, t1, t2, t3⟩ := cells_of h9f
  go_wp2_with fail
  go_at_call 35
  refine (HHV.out _ _ _ n16).mono ?_
  rintro e w16 ⟨rfl, b16⟩
  have k16 := k15.trans (b16.mono k15.size)
  go_wp2_with fail
  go_ret
  exact ⟨rfl, k16⟩
end Go.Proofs.Ytbolphjigjpmiaa
