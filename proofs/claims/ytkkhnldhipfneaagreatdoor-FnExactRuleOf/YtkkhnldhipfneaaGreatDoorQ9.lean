/-
  Contracts for the walks, several texts in one: each part says what it proves, and under which conditions.
-/
import Derived.Deep.RegionHeld
import Derived.SliceStrings
import Derived.ChangeArms
import Derived.ChangeOld
import Derived.ChangeAt
import Derived.Test.YtkkhnldhipfneaaGreatDoorRows
import Derived.WalkKit
import Derived.Test.YtkkhnldhipfneaaGreatDoorCards
import Derived.Test.YtkkhnldhipfneaaGreatDoorTie
import Derived.OpenVars
import Derived.Deep.DeepHandedRow
import Derived.Deep.DeepLaidRun
import Derived.ProofKit
import Derived.OpenShut
import Derived.ShutString
import Derived.Below
import Derived.JoinedOf
import Derived.JoinedCond
import Derived.SevenTiedAt
import Derived.Test.YtkkhnldhipfneaaGreatDoorQ7
import Derived.Test.YtkkhnldhipfneaaGreatDoorQ8
import Derived.Test.YtkkhnldhipfneaaGreatDoorQ2
import Derived.Test.YtkkhnldhipfneaaGreatDoorQ3
import Derived.Test.YtkkhnldhipfneaaGreatDoorQ4

/-! The law on RuleOf, walked: whatever comes in, the program and the specification answer alike, nothing is written into an argument, and the answer owns its memory; conditions: what comes in lies in memory, and the variable of the program holds its error at the start. -/
namespace Go.Proofs.YtkkhnldhipfneaaGreatDoor
open Go.RowKit
set_option linter.unusedSimpArgs false
set_option linter.unusedVariables false

theorem box_staysV {w w' : World} {b : Nat} {o : Obj} (h : w.heap[b]? = some o) (k : Below w.heap.size w w') : w'.heap[b]? = some o := (k.block b (Array.getElem?_eq_some_iff.1 h).1).trans h
theorem cells5R {w : World} {g : Nat} {a b c d e : Value} {t : TypeId} (h : w.heap[g]? = some (.cells #[a, b, c, d, e] t (0, 0))) : w.cell? ⟨g, 0, none⟩ = some a ∧ w.cell? ⟨g, 1, none⟩ = some b ∧ w.cell? ⟨g, 2, none⟩ = some c ∧ w.cell? ⟨g, 3, none⟩ = some d ∧ w.cell? ⟨g, 4, none⟩ = some e := by
  have h0 := vblk_cell h 0
  have h1 := vblk_cell h 1
  have h2 := vblk_cell h 2
  have h3 := vblk_cell h 3
  have h4 := vblk_cell h 4
  simp only [List.getElem?_toArray, List.getElem?_cons_succ, List.getElem?_cons_zero] at h0 h1 h2 h3 h4
  exact ⟨h0, h1, h2, h3, h4⟩
/-- A copy of a value that may be written. -/
structure ValO (lo mid hi : Nat) (W : World) (v : Value) (T : Tree) : Prop where
  lies : Lies (Own lo hi) W v T
  own : OwnT lo mid hi W v T
  h1 : lo ≤ mid
  h2 : mid ≤ hi
  h3 : hi ≤ W.heap.size
theorem ValO.below {lo mid hi : Nat} {W W' : World} {v : Value} {T : Tree} (h : ValO lo mid hi W v T) (k : Below W.heap.size W W') : ValO lo mid hi W' v T :=
  ⟨h.lies.keep (fun b hb => k.block b (Nat.lt_of_lt_of_le hb.2 h.h3)), h.own.keep h.h1 h.h2 (fun b hb => k.block b (Nat.lt_of_lt_of_le hb.2 h.h3)), h.h1, h.h2, Nat.le_trans h.h3 k.size⟩
theorem cnt_wtT : ∀ T : Tree, T.cnt ≤ 3 * (1 + T.wt) := by
  refine Tree.ind ?_
  intro k n s l ks ih
  have hl : ∀ r : List Tree, (∀ U ∈ r, U.cnt ≤ 3 * (1 + U.wt)) → cntL r ≤ 3 * wtL r := fun r => by
    induction r with
    | nil => intro _; simp [cntL, wtL]
    | cons t r ih2 =>
      intro h
      have h1 := h t (List.mem_cons_self ..)
      have h2 := ih2 (fun U hU => h U (List.mem_cons_of_mem _ hU))
      simp only [cntL, wtL]
      omega
  have h3 := hl l ih
  rw [Tree.cnt, wt_mk]
  have h4 : ks.length ≤ bulkS ks := by unfold bulkS; omega
  omega
theorem cnt_kids {T : Tree} (h : T.wt ≤ 1048576) : 1 + cntL T.kids + T.keys.length ≤ 4294967296 := by
  have h1 := cnt_wtT T
  rw [cnt_eq] at h1
  omega
theorem markValO {lo mid hi : Nat} {W : World} {T : Tree} {q1 q2 : Int} {q3 : ByteArray} {q4 : Option Addr} {q5 q6 : Nat} {q7 : Option Addr} {q8 q9 : Nat} (h : ValO lo mid hi W (.agg #[.int .i64 q1, .int .i64 q2, .string q3, .slice q4 q5 q6, .slice q7 q8 q9]) T) (hw : T.wt ≤ 1048576) :
    Calls Tryz.prog 26 #[.agg #[.int .i64 q1, .int .i64 q2, .string q3, .slice q4 q5 q6, .slice q7 q8 q9], .int .i64 1] W fun e w' => e = .returned (.int .i64 ((1 + cntL T.kids + T.keys.length : Nat) : Int)) ∧ Chg (Own lo hi) W w' := by
  obtain ⟨c0, c1, c2, c, u, he, hl, xs, hu, hg⟩ := h.own
  have hO : OwnV W (Own lo mid) (Own mid hi) c u T.kids T.keys.length := ⟨hl, ⟨xs, hu⟩, hg, fun b hb hk => by have := hb.2; have := hk.1; omega⟩
  simp only [Value.agg.injEq, Array.mk.injEq, List.cons.injEq, and_true] at he
  obtain ⟨rfl, rfl, rfl, rfl, rfl⟩ := he
  have h1 := h.h1
  have h2 := h.h2
  have h3 := h.h3
  refine (markVal_c q1 q2 q3 _ _ T.kids T.keys.length 1 _ _ W hO (fun b hb => by rcases hb with hb | hb <;> (have := hb.1; have := hb.2; omega)) (Nat.le_refl _) (cnt_kids hw)).mono ?_
  rintro e w' ⟨rfl, _, ch⟩
  exact ⟨rfl, ch.mono (fun b hb => by rcases hb with hb | hb <;> exact ⟨by have := hb.1; omega, by have := hb.2; omega⟩)⟩

set_option maxHeartbeats 8000000 in
set_option maxRecDepth 100000 in
theorem ruleOf_walk (a0 : ByteArray) (hs0 : a0.size ≤ maxLen) (v : Value) (z0 : Tree) (w : World) (r0 : Lies (· < w.heap.size) w v z0) (eu : TypeId) (ev : Value) (herr : ErrAt w eu ev) :
    Calls Tryz.prog 4 #[.string a0, v] w fun e w' => e = .returned (.bool true) ∧ Below w.heap.size w w' := by
  unfold maxLen at hs0
  obtain ⟨kk1, kk2, kk3, kk4, kk5, kk6, kk7, kk8, kk9, rfl⟩ := r0.parts
  have hbx : Below w.heap.size w (w.alloc (.cells #[.int .i64 kk1, .int .i64 kk2, .string kk3, .slice kk4 kk5 kk6, .slice kk7 kk8 kk9] 48 (0, 0))) := (Below.refl _ _).alloc (Nat.le_refl _) _
  have hA0 : (w.alloc (.cells #[.int .i64 kk1, .int .i64 kk2, .string kk3, .slice kk4 kk5 kk6, .slice kk7 kk8 kk9] 48 (0, 0))).heap[w.heap.size]? = some (.cells #[.int .i64 kk1, .int .i64 kk2, .string kk3, .slice kk4 kk5 kk6, .slice kk7 kk8 kk9] 48 (0, 0)) := vheap_new _ _
  by_cases hbig1 : 1048576 < a0.size
  · have hb : (1048576 : Int) < (a0.size : Int) := by omega
    clear r0 herr
    go_enter Tryz.func4, Tryz.ntmps4
    go_wp2_with fail
    go_ret
    exact ⟨rfl, hbx⟩
  have hb1' : ¬ (1048576 : Int) < (a0.size : Int) := by omega
  have hn1 : a0.size ≤ 1048576 := by omega
  have hin : ∀ w1, Below w.heap.size w w1 → Lies (· < w.heap.size) w1 (.agg #[.int .i64 kk1, .int .i64 kk2, .string kk3, .slice kk4 kk5 kk6, .slice kk7 kk8 kk9]) z0 := fun w1 h => r0.keep (fun b hb => h.block b hb)
  have HZ : Hid (∀ w1, Below w.heap.size w w1 → Calls Tryz.prog 20 #[.agg #[.int .i64 kk1, .int .i64 kk2, .string kk3, .slice kk4 kk5 kk6, .slice kk7 kk8 kk9], .int .i64 1048576] w1 fun e w' => e = .returned (.int .i64 (leftN z0.wt 1048576)) ∧ Below w1.heap.size w1 w') := fun w1 h => szVal_all z0 _ _ w1 _ (hin w1 h) (fun b hb => Nat.lt_of_lt_of_le hb h.size) (by omega) (by omega)
  by_cases hbig : (1048576 : Int) < (z0.wt : Int)
  · have e1 : leftN z0.wt 1048576 = -1 := leftN_bad hbig
    rw [e1] at HZ
    clear e1 hin r0 herr
    go_enter Tryz.func4, Tryz.ntmps4
    go_wp2_with (go_at_call 20; refine (HZ.out _ hbx).mono ?_; rintro e w1 ⟨rfl, hb1⟩)
    go_ret
    exact ⟨rfl, hbx.trans (hb1.mono hbx.size)⟩
  have hwt : z0.wt ≤ 1048576 := by omega
  obtain ⟨p, hp⟩ : ∃ p, p = leftN z0.wt 1048576 := ⟨_, rfl⟩
  rw [← hp] at HZ
  have hp0 : 0 ≤ p := by rw [hp, leftN_good (by omega)]; omega
  clear hp
  have HT : Hid (∀ w1, Below w.heap.size w w1 → Calls Tryz.prog 22 #[.agg #[.int .i64 kk1, .int .i64 kk2, .string kk3, .slice kk4 kk5 kk6, .slice kk7 kk8 kk9]] w1 fun e w' => ∃ q1 q2 q3 q4 q5 q6 q7 q8 q9 mid, e = .returned (.agg #[.int .i64 q1, .int .i64 q2, .string q3, .slice q4 q5 q6, .slice q7 q8 q9]) ∧ ValO w1.heap.size mid w'.heap.size w' (.agg #[.int .i64 q1, .int .i64 q2, .string q3, .slice q4 q5 q6, .slice q7 q8 q9]) z0 ∧ Below w1.heap.size w1 w') := fun w1 h => by
    refine (toVal_own z0 _ _ w1 (hin w1 h) (fun b hb => Nat.lt_of_lt_of_le hb h.size) hwt).mono ?_
    rintro e w' ⟨x, mid, rfl, hl, ho, g1, g2, kb⟩
    obtain ⟨q1, q2, q3, q4, q5, q6, q7, q8, q9, rfl⟩ := hl.parts
    exact ⟨q1, q2, q3, q4, q5, q6, q7, q8, q9, mid, rfl, ⟨hl, ho, g1, g2, Nat.le_refl _⟩, kb⟩
  have hRw := ruleD_wt a0 z0
  obtain ⟨R, hR⟩ : ∃ R, R = ruleD a0 z0 := ⟨_, rfl⟩
  obtain ⟨ok, hok⟩ : ∃ R, R = ruleY a0 z0 := ⟨_, rfl⟩
  rw [← hR] at hRw
  have HSP : Hid (∀ w1 lo mid hi x, ValO lo mid hi w1 x z0 → Calls Tryz.prog 21 #[.string a0, x] w1 fun e w' => ∃ u0 u1 u2, e = .returned (.tuple #[.agg #[.string R.task, u0, u1, u2, .bool R.keep], .bool ok]) ∧ Rec3 w1.heap.size w'.heap.size w' u0 u1 u2 R ∧ Below w1.heap.size w1 w') := fun w1 lo mid hi x h => by
    rw [hR, hok]
    refine (specRuleOf_c z0 _ x a0 w1 h.lies (fun b hb => Nat.lt_of_lt_of_le hb.2 h.h3) hn1).mono ?_
    rintro e w' ⟨kb, u0, u1, u2, rfl, hr⟩
    exact ⟨u0, u1, u2, rfl, hr, kb⟩
  have HIM : Hid (∀ w1 lo mid hi x, Below w.heap.size w w1 → ValO lo mid hi w1 x z0 → Calls Tryz.prog 23 #[.string a0, x] w1 fun e w' => ∃ u0 u1 u2, e = .returned (.tuple #[.agg #[.string R.task, u0, u1, u2, .bool R.keep], .bool ok]) ∧ Rec3 w1.heap.size w'.heap.size w' u0 u1 u2 R ∧ Below w1.heap.size w1 w') := fun w1 lo mid hi x hk h => by
    rw [hR, hok]
    refine (ruleOf_c z0 _ x a0 w1 h.lies (fun b hb => Nat.lt_of_lt_of_le hb.2 h.h3) hwt hn1 eu ev (herr.keep hk)).mono ?_
    rintro e w' ⟨kb, u0, u1, u2, rfl, hr⟩
    exact ⟨u0, u1, u2, rfl, hr, kb⟩
  have HEQ : Hid (∀ W l h l' h' u0 u1 u2 v0 v1 v2, Rec3 l h W u0 u1 u2 R → Rec3 l' h' W v0 v1 v2 R → Calls Tryz.prog 24 #[.agg #[.string R.task, u0, u1, u2, .bool R.keep], .agg #[.string R.task, v0, v1, v2, .bool R.keep]] W fun e w' => e = .returned (.bool true) ∧ Below W.heap.size W w') := fun W l h l' h' u0 u1 u2 v0 v1 v2 a b => eqRule_c (Ow l h) (Ow l' h') R _ _ W a.lies b.lies (fun b' hb => Nat.lt_of_lt_of_le hb.2 a.a0.2) (fun b' hb => Nat.lt_of_lt_of_le hb.2 b.a0.2) hRw
  have HES : Hid (∀ W l m h x l' m' h' x', ValO l m h W x z0 → ValO l' m' h' W x' z0 → Calls Tryz.prog 25 #[x, x'] W fun e w' => e = .returned (.bool true) ∧ Below W.heap.size W w') := fun W l m h x l' m' h' x' a b => eqVal_all z0 _ _ x x' W a.lies b.lies (fun g hg => Nat.lt_of_lt_of_le hg.2 a.h3) (fun g hg => Nat.lt_of_lt_of_le hg.2 b.h3) hwt
  obtain ⟨K1, hK1⟩ : ∃ K, K = 1 + cntL z0.kids + z0.keys.length := ⟨_, rfl⟩
  have hK1n : ¬ (K1 : Int) < 0 := by omega
  have HMX : Hid (∀ W l m h q1 q2 q3 q4 q5 q6 q7 q8 q9, ValO l m h W (.agg #[.int .i64 q1, .int .i64 q2, .string q3, .slice q4 q5 q6, .slice q7 q8 q9]) z0 → Calls Tryz.prog 26 #[.agg #[.int .i64 q1, .int .i64 q2, .string q3, .slice q4 q5 q6, .slice q7 q8 q9], .int .i64 1] W fun e w' => e = .returned (.int .i64 (K1 : Int)) ∧ Chg (Own l h) W w') := fun W l m h q1 q2 q3 q4 q5 q6 q7 q8 q9 a => by rw [hK1]; exact markValO a hwt
  obtain ⟨M1, hM1⟩ : ∃ K, K = 1 + R.on.length + R.ins.length + R.envs.length := ⟨_, rfl⟩
  have hM1n : ¬ (M1 : Int) < 0 := by omega
  have HMV : Hid (∀ W l h u0 u1 u2, Rec3 l h W u0 u1 u2 R → Calls Tryz.prog 27 #[.agg #[.string R.task, u0, u1, u2, .bool R.keep], .int .i64 1] W fun e w' => e = .returned (.int .i64 (M1 : Int)) ∧ RecM (Ow l h) w' u0 u1 u2 R ∧ Chg (Ow l h) W w') := fun W l h u0 u1 u2 a => by rw [hM1]; exact markRule_c l h u0 u1 u2 R W a hRw
  have HHV : Hid (∀ W l h u0 u1 u2, RecM (Ow l h) W u0 u1 u2 R → Calls Tryz.prog 28 #[.agg #[.string R.task, u0, u1, u2, .bool R.keep], .int .i64 1] W fun e w' => e = .returned (.int .i64 (M1 : Int)) ∧ Below W.heap.size W w') := fun W l h u0 u1 u2 a => by rw [hM1]; exact heldRule_c (Ow l h) u0 u1 u2 R W a hRw
  obtain ⟨T, hT⟩ : ∃ T, T = R.task := ⟨_, rfl⟩
  obtain ⟨KP, hKP⟩ : ∃ T, T = R.keep := ⟨_, rfl⟩
  simp only [← hT, ← hKP] at HSP HIM HEQ HMV HHV
  clear hin r0 hbig hK1 hM1 hwt hn1 hbig1 hs0 hR hok hRw hT hKP herr
  cases ok
  · go_enter Tryz.func4, Tryz.ntmps4
    go_wp2_with fail
    go_at_call 20
    refine (HZ.out _ hbx).mono ?_
    rintro e w1 ⟨rfl, b⟩
    have BA := box_staysV hA0 b
    have kA := hbx.trans (b.mono hbx.size)
    have mA := (Array.getElem?_eq_some_iff.1 BA).1
    clear HZ b hA0 hbx
    obtain ⟨a0, a1, a2, a3, a4⟩ := cells5R BA
    go_wp2_with fail
    go_at_call 22
    refine (HT.out _ kA).mono ?_
    rintro e w2 ⟨q1, q2, q3, q4, q5, q6, q7, q8, q9, md2, rfl, V2, b⟩
    clear a0 a1 a2 a3 a4
    have k1 := kA.trans (b.mono kA.size)
    have m1 := b.size
    replace BA := box_staysV BA b
    clear b
    go_wp2_with fail
    go_at_call 21
    refine (HSP.out _ _ _ _ _ V2).mono ?_
    rintro e w3 ⟨u0, u1, u2, rfl, R6, b⟩
    have k2 := k1.trans (b.mono k1.size)
    have m2 := b.size
    replace BA := box_staysV BA b
    clear b V2 HSP
    obtain ⟨x0, y0, x1, y1, x2, y2, eu0, eu1, eu2⟩ := R6.slices
    subst eu0 eu1 eu2
    have b : Below w3.heap.size w3 (w3.alloc (.cells #[.string T, .slice x0 R.on.length y0, .slice x1 R.ins.length y1, .slice x2 R.envs.length y2, .bool KP] 51 (0, 0))) := (Below.refl _ _).alloc (Nat.le_refl _) _
    have hN : (w3.alloc (.cells #[.string T, .slice x0 R.on.length y0, .slice x1 R.ins.length y1, .slice x2 R.envs.length y2, .bool KP] 51 (0, 0))).heap[w3.heap.size]? = some (.cells #[.string T, .slice x0 R.on.length y0, .slice x1 R.ins.length y1, .slice x2 R.envs.length y2, .bool KP] 51 (0, 0)) := vheap_new _ _
    have s3 : (w3.alloc (.cells #[.string T, .slice x0 R.on.length y0, .slice x1 R.ins.length y1, .slice x2 R.envs.length y2, .bool KP] 51 (0, 0))).heap.size = w3.heap.size + 1 := by simp
    obtain ⟨a0, a1, a2, a3, a4⟩ := cells5R (box_staysV BA b)
    go_wp2_with fail
    obtain ⟨wa, hwa⟩ : ∃ wa, wa = w3.alloc (.cells #[.string T, .slice x0 R.on.length y0, .slice x1 R.ins.length y1, .slice x2 R.envs.length y2, .bool KP] 51 (0, 0)) := ⟨_, rfl⟩
    rw [← hwa] at b hN s3 a0 a1 a2 a3 a4
    rw [← hwa]
    clear hwa
    have k3 := k2.trans (b.mono k2.size)
    have m3 := b.size
    replace BA := box_staysV BA b
    replace R6 := R6.below b
    clear b
    have B6 := hN
    clear hN
    go_at_call 22
    refine (HT.out _ k3).mono ?_
    rintro e w4 ⟨p1, p2, p3, p4, p5, p6, p7, p8, p9, md4, rfl, V4, b⟩
    clear a0 a1 a2 a3 a4
    have k4 := k3.trans (b.mono k3.size)
    have m4 := b.size
    replace BA := box_staysV BA b
    replace R6 := R6.below b
    replace B6 := box_staysV B6 b
    clear b
    have b : Below w4.heap.size w4 (w4.alloc (.cells #[.int .i64 p1, .int .i64 p2, .string p3, .slice p4 p5 p6, .slice p7 p8 p9] 56 (0, 0))) := (Below.refl _ _).alloc (Nat.le_refl _) _
    have hN : (w4.alloc (.cells #[.int .i64 p1, .int .i64 p2, .string p3, .slice p4 p5 p6, .slice p7 p8 p9] 56 (0, 0))).heap[w4.heap.size]? = some (.cells #[.int .i64 p1, .int .i64 p2, .string p3, .slice p4 p5 p6, .slice p7 p8 p9] 56 (0, 0)) := vheap_new _ _
    have s4 : (w4.alloc (.cells #[.int .i64 p1, .int .i64 p2, .string p3, .slice p4 p5 p6, .slice p7 p8 p9] 56 (0, 0))).heap.size = w4.heap.size + 1 := by simp
    go_wp2_with fail
    obtain ⟨wx, hwa⟩ : ∃ wa, wa = w4.alloc (.cells #[.int .i64 p1, .int .i64 p2, .string p3, .slice p4 p5 p6, .slice p7 p8 p9] 56 (0, 0)) := ⟨_, rfl⟩
    rw [← hwa] at b hN s4
    rw [← hwa]
    clear hwa
    have k5 := k4.trans (b.mono k4.size)
    have m5 := b.size
    replace BA := box_staysV BA b
    replace R6 := R6.below b
    replace B6 := box_staysV B6 b
    replace V4 := V4.below b
    clear b
    have B5 := hN
    clear hN
    go_at_call 23
    refine (HIM.out _ _ _ _ _ k5 V4).mono ?_
    rintro e w5 ⟨v0, v1, v2, rfl, R9, b⟩
    have k6 := k5.trans (b.mono k5.size)
    have m6 := b.size
    replace BA := box_staysV BA b
    replace R6 := R6.below b
    replace B6 := box_staysV B6 b
    replace V4 := V4.below b
    replace B5 := box_staysV B5 b
    clear b
    obtain ⟨i0, j0, i1, j1, i2, j2, ev0, ev1, ev2⟩ := R9.slices
    subst ev0 ev1 ev2
    have b : Below w5.heap.size w5 (w5.alloc (.cells #[.string T, .slice i0 R.on.length j0, .slice i1 R.ins.length j1, .slice i2 R.envs.length j2, .bool KP] 51 (0, 0))) := (Below.refl _ _).alloc (Nat.le_refl _) _
    have hN : (w5.alloc (.cells #[.string T, .slice i0 R.on.length j0, .slice i1 R.ins.length j1, .slice i2 R.envs.length j2, .bool KP] 51 (0, 0))).heap[w5.heap.size]? = some (.cells #[.string T, .slice i0 R.on.length j0, .slice i1 R.ins.length j1, .slice i2 R.envs.length j2, .bool KP] 51 (0, 0)) := vheap_new _ _
    have s5 : (w5.alloc (.cells #[.string T, .slice i0 R.on.length j0, .slice i1 R.ins.length j1, .slice i2 R.envs.length j2, .bool KP] 51 (0, 0))).heap.size = w5.heap.size + 1 := by simp
    obtain ⟨f0, f1, f2, f3, f4⟩ := cells5R (box_staysV B6 b)
    go_wp2_with fail
    obtain ⟨wb, hwa⟩ : ∃ wa, wa = w5.alloc (.cells #[.string T, .slice i0 R.on.length j0, .slice i1 R.ins.length j1, .slice i2 R.envs.length j2, .bool KP] 51 (0, 0)) := ⟨_, rfl⟩
    rw [← hwa] at b hN s5 f0 f1 f2 f3 f4
    rw [← hwa]
    clear hwa
    have k7 := k6.trans (b.mono k6.size)
    have m7 := b.size
    replace BA := box_staysV BA b
    replace R6 := R6.below b
    replace B6 := box_staysV B6 b
    replace V4 := V4.below b
    replace B5 := box_staysV B5 b
    replace R9 := R9.below b
    clear b
    have B9 := hN
    clear hN
    go_at_call 24
    refine (HEQ.out _ _ _ _ _ _ _ _ _ _ _ R9 R6).mono ?_
    rintro e w6 ⟨rfl, b⟩
    have k8 := k7.trans (b.mono k7.size)
    have m8 := b.size
    replace BA := box_staysV BA b
    replace R6 := R6.below b
    replace B6 := box_staysV B6 b
    replace V4 := V4.below b
    replace B5 := box_staysV B5 b
    replace R9 := R9.below b
    replace B9 := box_staysV B9 b
    clear b
    clear f0 f1 f2 f3 f4
    have h0 : Below w6.heap.size w6 w6.drew := (Below.refl _ _).drew
    have KEEP : Hid (∀ W, Below w6.heap.size w6 W → W.cell? ⟨w4.heap.size, 0, none⟩ = some (.int .i64 p1) ∧ W.cell? ⟨w4.heap.size, 1, none⟩ = some (.int .i64 p2) ∧ W.cell? ⟨w4.heap.size, 2, none⟩ = some (.string p3) ∧ W.cell? ⟨w4.heap.size, 3, none⟩ = some (.slice p4 p5 p6) ∧ W.cell? ⟨w4.heap.size, 4, none⟩ = some (.slice p7 p8 p9) ∧ W.cell? ⟨w.heap.size, 0, none⟩ = some (.int .i64 kk1) ∧ W.cell? ⟨w.heap.size, 1, none⟩ = some (.int .i64 kk2) ∧ W.cell? ⟨w.heap.size, 2, none⟩ = some (.string kk3) ∧ W.cell? ⟨w.heap.size, 3, none⟩ = some (.slice kk4 kk5 kk6) ∧ W.cell? ⟨w.heap.size, 4, none⟩ = some (.slice kk7 kk8 kk9)) := fun W h => by
      obtain ⟨i0, i1, i2, i3, i4⟩ := cells5R (box_staysV B5 h)
      obtain ⟨j0, j1, j2, j3, j4⟩ := cells5R (box_staysV BA h)
      exact ⟨i0, i1, i2, i3, i4, j0, j1, j2, j3, j4⟩
    go_wp2_with fail
    refine wp_region_held_drew (S := (fun W => W.cell? ⟨w4.heap.size, 0, none⟩ = some (.int .i64 p1) ∧ W.cell? ⟨w4.heap.size, 1, none⟩ = some (.int .i64 p2) ∧ W.cell? ⟨w4.heap.size, 2, none⟩ = some (.string p3) ∧ W.cell? ⟨w4.heap.size, 3, none⟩ = some (.slice p4 p5 p6) ∧ W.cell? ⟨w4.heap.size, 4, none⟩ = some (.slice p7 p8 p9) ∧ W.cell? ⟨w.heap.size, 0, none⟩ = some (.int .i64 kk1) ∧ W.cell? ⟨w.heap.size, 1, none⟩ = some (.int .i64 kk2) ∧ W.cell? ⟨w.heap.size, 2, none⟩ = some (.string kk3) ∧ W.cell? ⟨w.heap.size, 3, none⟩ = some (.slice kk4 kk5 kk6) ∧ W.cell? ⟨w.heap.size, 4, none⟩ = some (.slice kk7 kk8 kk9))) (by kernel_rfl) ?SR10 (fun hHeld => ?_)
    case SR10 => (first | (with_reducible exact KEEP.out _ h2) | (with_reducible exact KEEP.out _ h1) | (with_reducible exact KEEP.out _ h0))
    refine wpAnyH_take (i := 0) (oi := _) (v := ?vR10) rfl (by kernel_rfl) (by kernel_rfl) (by kernel_rfl) (fun _ _ _ h => h) (Or.inl ⟨by rfl, ?yR10⟩) hHeld ?_
    case yR10 => (intro w hSw; (try dsimp only at hSw); go_simp <;> with_reducible rfl)
    try simp only [Act.put, List.getElem_toArray, List.getElem_cons_zero, List.getElem_cons_succ, List.setIfInBounds_toArray, List.set_cons_zero, List.set_cons_succ]
    refine wpAnyH_take (i := 1) (oi := _) (v := ?vR11) rfl (by kernel_rfl) (by kernel_rfl) (by kernel_rfl) (fun _ _ _ h => h) (Or.inl ⟨by rfl, ?yR11⟩) hHeld ?_
    case yR11 => (intro w hSw; (try dsimp only at hSw); go_simp <;> with_reducible rfl)
    try simp only [Act.put, List.getElem_toArray, List.getElem_cons_zero, List.getElem_cons_succ, List.setIfInBounds_toArray, List.set_cons_zero, List.set_cons_succ]
    refine wpAnyH_ready (rs := [2]) (by kernel_rfl) (by simp) ?_
    refine AllReadyH.cons rfl (fun K hK => ?_) AllReadyH.nil
    go_simp
    go_wp2_with (go_at_call 22; refine (HT.out _ (k8.trans (h0.mono k8.size))).mono ?_; rintro e w7 ⟨g1, g2, g3, g4, g5, g6, g7, g8, g9, md7, rfl, V7, b7⟩; have h1 : Below w6.heap.size w6 w7 := h0.trans (b7.mono h0.size); have V47 := V4.below h1)
    clear hHeld
    refine hK.out _ _ ?SR13 (fun hHeld => ?_)
    case SR13 => ((try dsimp only); first | (with_reducible exact KEEP.out _ h2) | (with_reducible exact KEEP.out _ h1) | (with_reducible exact KEEP.out _ h0))
    clear hK K
    refine wpAnyH_ready (rs := [3]) (by kernel_rfl) (by simp) ?_
    refine AllReadyH.cons rfl (fun K hK => ?_) AllReadyH.nil
    go_simp
    go_wp2_with (go_at_call 25; refine (HES.out _ _ _ _ _ _ _ _ _ V47 V7).mono ?_; rintro e w8 ⟨rfl, b8⟩; have h2 : Below w6.heap.size w6 w8 := h1.trans (b8.mono h1.size))
    clear hHeld
    refine hK.out _ _ ?SR14 (fun hHeld => ?_)
    case SR14 => ((try dsimp only); first | (with_reducible exact KEEP.out _ h2) | (with_reducible exact KEEP.out _ h1) | (with_reducible exact KEEP.out _ h0))
    clear hK K
    refine wpAnyH_take (i := 4) (oi := _) (v := ?vR14) rfl (by kernel_rfl) (by kernel_rfl) (by kernel_rfl) (fun _ _ _ h => h) (Or.inl ⟨by rfl, ?yR14⟩) hHeld ?_
    case yR14 => (intro w hSw; (try dsimp only at hSw); go_simp <;> with_reducible rfl)
    try simp only [Act.put, List.getElem_toArray, List.getElem_cons_zero, List.getElem_cons_succ, List.setIfInBounds_toArray, List.set_cons_zero, List.set_cons_succ]
    refine wpAnyH_done (by kernel_rfl) ?_ _
    have b := h2
    clear V47 V7 b7 b8 h0 h1 h2 KEEP
    have k9 := k8.trans (b.mono k8.size)
    have m9 := b.size
    replace BA := box_staysV BA b
    replace R6 := R6.below b
    replace B6 := box_staysV B6 b
    replace V4 := V4.below b
    replace B5 := box_staysV B5 b
    replace R9 := R9.below b
    replace B9 := box_staysV B9 b
    clear b HES
    obtain ⟨e0, e1, e2, e3, e4⟩ := cells5R B5
    go_wp2_with fail
    go_at_call 26
    refine (HMX.out _ _ _ _ _ _ _ _ _ _ _ _ _ V4).mono ?_
    rintro e w9 ⟨rfl, ch⟩
    have y1 := V4.h1
    have y2 := V4.h2
    clear e0 e1 e2 e3 e4
    have k10 := below_chgW k9 ch (fun b hb => by have := hb.1; omega) k9.size
    have m10 := ch.size
    replace BA := (ch.block _ (Array.getElem?_eq_some_iff.1 BA).1 (fun h => by have h1 := h.1; have h2 := h.2; omega)).trans BA
    replace R6 := R6.chg ch (fun b hb h => by have h1 := h.1; have h2 := h.2; have h3 := hb.1; have h4 := hb.2; omega)
    replace B6 := (ch.block _ (Array.getElem?_eq_some_iff.1 B6).1 (fun h => by have h1 := h.1; have h2 := h.2; omega)).trans B6
    replace B5 := (ch.block _ (Array.getElem?_eq_some_iff.1 B5).1 (fun h => by have h1 := h.1; have h2 := h.2; omega)).trans B5
    replace R9 := R9.chg ch (fun b hb h => by have h1 := h.1; have h2 := h.2; have h3 := hb.1; have h4 := hb.2; omega)
    replace B9 := (ch.block _ (Array.getElem?_eq_some_iff.1 B9).1 (fun h => by have h1 := h.1; have h2 := h.2; omega)).trans B9
    clear ch HMX V4
    obtain ⟨f0, f1, f2, f3, f4⟩ := cells5R B6
    obtain ⟨d0, d1, d2, d3, d4⟩ := cells5R B9
    go_wp2_with fail
    go_at_call 24
    refine (HEQ.out _ _ _ _ _ _ _ _ _ _ _ R9 R6).mono ?_
    rintro e w10 ⟨rfl, b⟩
    clear f0 f1 f2 f3 f4
    clear d0 d1 d2 d3 d4
    have k11 := k10.trans (b.mono k10.size)
    have m11 := b.size
    replace BA := box_staysV BA b
    replace R6 := R6.below b
    replace B6 := box_staysV B6 b
    replace B5 := box_staysV B5 b
    replace R9 := R9.below b
    replace B9 := box_staysV B9 b
    clear b
    obtain ⟨d0, d1, d2, d3, d4⟩ := cells5R B9
    go_wp2_with fail
    go_at_call 27
    refine (HMV.out _ _ _ _ _ _ R9).mono ?_
    rintro e w11 ⟨rfl, M9, ch⟩
    clear d0 d1 d2 d3 d4
    have k12 := below_chgW k11 ch (fun b hb => by have := hb.1; omega) k11.size
    have m12 := ch.size
    replace BA := (ch.block _ (Array.getElem?_eq_some_iff.1 BA).1 (fun h => by have h1 := h.1; have h2 := h.2; omega)).trans BA
    replace R6 := R6.chg ch (fun b hb h => by have h1 := h.1; have h2 := h.2; have h3 := hb.1; have h4 := hb.2; omega)
    replace B6 := (ch.block _ (Array.getElem?_eq_some_iff.1 B6).1 (fun h => by have h1 := h.1; have h2 := h.2; omega)).trans B6
    replace B5 := (ch.block _ (Array.getElem?_eq_some_iff.1 B5).1 (fun h => by have h1 := h.1; have h2 := h.2; omega)).trans B5
    replace B9 := (ch.block _ (Array.getElem?_eq_some_iff.1 B9).1 (fun h => by have h1 := h.1; have h2 := h.2; omega)).trans B9
    clear ch HMV R9
    obtain ⟨d0, d1, d2, d3, d4⟩ := cells5R B9
    go_wp2_with fail
    go_at_call 28
    refine (HHV.out _ _ _ _ _ _ M9).mono ?_
    rintro e w12 ⟨rfl, b⟩
    clear d0 d1 d2 d3 d4
    have k13 := k12.trans (b.mono k12.size)
    have m13 := b.size
    replace BA := box_staysV BA b
    replace R6 := R6.below b
    replace B6 := box_staysV B6 b
    replace B5 := box_staysV B5 b
    replace B9 := box_staysV B9 b
    replace M9 := M9.keep (Kp.of b (fun b hb => by have := hb.2; omega))
    clear b
    obtain ⟨a0, a1, a2, a3, a4⟩ := cells5R BA
    go_wp2_with fail
    go_at_call 22
    refine (HT.out _ k13).mono ?_
    rintro e w13 ⟨g1, g2, g3, g4, g5, g6, g7, g8, g9, md13, rfl, V13, b⟩
    clear a0 a1 a2 a3 a4
    have k14 := k13.trans (b.mono k13.size)
    have m14 := b.size
    replace BA := box_staysV BA b
    replace R6 := R6.below b
    replace B6 := box_staysV B6 b
    replace B5 := box_staysV B5 b
    replace B9 := box_staysV B9 b
    replace M9 := M9.keep (Kp.of b (fun b hb => by have := hb.2; omega))
    clear b HT
    go_wp2_with fail
    go_at_call 23
    refine (HIM.out _ _ _ _ _ k14 V13).mono ?_
    rintro e w14 ⟨n0, n1, n2, rfl, R14, b⟩
    have k15 := k14.trans (b.mono k14.size)
    have m15 := b.size
    replace BA := box_staysV BA b
    replace R6 := R6.below b
    replace B6 := box_staysV B6 b
    replace B5 := box_staysV B5 b
    replace B9 := box_staysV B9 b
    replace M9 := M9.keep (Kp.of b (fun b hb => by have := hb.2; omega))
    clear b V13 HIM
    obtain ⟨c0, e0, c1, e1, c2, e2, en0, en1, en2⟩ := R14.slices
    subst en0 en1 en2
    have b : Below w14.heap.size w14 (w14.alloc (.cells #[.string T, .slice c0 R.on.length e0, .slice c1 R.ins.length e1, .slice c2 R.envs.length e2, .bool KP] 51 (0, 0))) := (Below.refl _ _).alloc (Nat.le_refl _) _
    have hN : (w14.alloc (.cells #[.string T, .slice c0 R.on.length e0, .slice c1 R.ins.length e1, .slice c2 R.envs.length e2, .bool KP] 51 (0, 0))).heap[w14.heap.size]? = some (.cells #[.string T, .slice c0 R.on.length e0, .slice c1 R.ins.length e1, .slice c2 R.envs.length e2, .bool KP] 51 (0, 0)) := vheap_new _ _
    have s14 : (w14.alloc (.cells #[.string T, .slice c0 R.on.length e0, .slice c1 R.ins.length e1, .slice c2 R.envs.length e2, .bool KP] 51 (0, 0))).heap.size = w14.heap.size + 1 := by simp
    obtain ⟨f0, f1, f2, f3, f4⟩ := cells5R (box_staysV B6 b)
    go_wp2_with fail
    obtain ⟨wc, hwa⟩ : ∃ wa, wa = w14.alloc (.cells #[.string T, .slice c0 R.on.length e0, .slice c1 R.ins.length e1, .slice c2 R.envs.length e2, .bool KP] 51 (0, 0)) := ⟨_, rfl⟩
    rw [← hwa] at b hN s14 f0 f1 f2 f3 f4
    rw [← hwa]
    clear hwa
    have k16 := k15.trans (b.mono k15.size)
    have m16 := b.size
    replace BA := box_staysV BA b
    replace R6 := R6.below b
    replace B6 := box_staysV B6 b
    replace B5 := box_staysV B5 b
    replace B9 := box_staysV B9 b
    replace M9 := M9.keep (Kp.of b (fun b hb => by have := hb.2; omega))
    replace R14 := R14.below b
    clear b
    have B14 := hN
    clear hN
    go_at_call 24
    refine (HEQ.out _ _ _ _ _ _ _ _ _ _ _ R14 R6).mono ?_
    rintro e w15 ⟨rfl, b⟩
    have k17 := k16.trans (b.mono k16.size)
    have m17 := b.size
    replace BA := box_staysV BA b
    replace R6 := R6.below b
    replace B6 := box_staysV B6 b
    replace B5 := box_staysV B5 b
    replace B9 := box_staysV B9 b
    replace M9 := M9.keep (Kp.of b (fun b hb => by have := hb.2; omega))
    replace R14 := R14.below b
    replace B14 := box_staysV B14 b
    clear b
    clear f0 f1 f2 f3 f4
    obtain ⟨d0, d1, d2, d3, d4⟩ := cells5R B9
    go_wp2_with fail
    go_at_call 28
    refine (HHV.out _ _ _ _ _ _ M9).mono ?_
    rintro e w16 ⟨rfl, b⟩
    have k18 := k17.trans (b.mono k17.size)
    have m18 := b.size
    replace BA := box_staysV BA b
    replace R6 := R6.below b
    replace B6 := box_staysV B6 b
    replace B5 := box_staysV B5 b
    replace B9 := box_staysV B9 b
    replace M9 := M9.keep (Kp.of b (fun b hb => by have := hb.2; omega))
    replace R14 := R14.below b
    replace B14 := box_staysV B14 b
    go_wp2_with fail
    go_ret
    exact ⟨rfl, k18⟩
  · go_enter Tryz.func4, Tryz.ntmps4
    go_wp2_with fail
    go_at_call 20
    refine (HZ.out _ hbx).mono ?_
    rintro e w1 ⟨rfl, b⟩
    have BA := box_staysV hA0 b
    have kA := hbx.trans (b.mono hbx.size)
    have mA := (Array.getElem?_eq_some_iff.1 BA).1
    clear HZ b hA0 hbx
    obtain ⟨a0, a1, a2, a3, a4⟩ := cells5R BA
    go_wp2_with fail
    go_at_call 22
    refine (HT.out _ kA).mono ?_
    rintro e w2 ⟨q1, q2, q3, q4, q5, q6, q7, q8, q9, md2, rfl, V2, b⟩
    clear a0 a1 a2 a3 a4
    have k1 := kA.trans (b.mono kA.size)
    have m1 := b.size
    replace BA := box_staysV BA b
    clear b
    go_wp2_with fail
    go_at_call 21
    refine (HSP.out _ _ _ _ _ V2).mono ?_
    rintro e w3 ⟨u0, u1, u2, rfl, R6, b⟩
    have k2 := k1.trans (b.mono k1.size)
    have m2 := b.size
    replace BA := box_staysV BA b
    clear b V2 HSP
    obtain ⟨x0, y0, x1, y1, x2, y2, eu0, eu1, eu2⟩ := R6.slices
    subst eu0 eu1 eu2
    have b : Below w3.heap.size w3 (w3.alloc (.cells #[.string T, .slice x0 R.on.length y0, .slice x1 R.ins.length y1, .slice x2 R.envs.length y2, .bool KP] 51 (0, 0))) := (Below.refl _ _).alloc (Nat.le_refl _) _
    have hN : (w3.alloc (.cells #[.string T, .slice x0 R.on.length y0, .slice x1 R.ins.length y1, .slice x2 R.envs.length y2, .bool KP] 51 (0, 0))).heap[w3.heap.size]? = some (.cells #[.string T, .slice x0 R.on.length y0, .slice x1 R.ins.length y1, .slice x2 R.envs.length y2, .bool KP] 51 (0, 0)) := vheap_new _ _
    have s3 : (w3.alloc (.cells #[.string T, .slice x0 R.on.length y0, .slice x1 R.ins.length y1, .slice x2 R.envs.length y2, .bool KP] 51 (0, 0))).heap.size = w3.heap.size + 1 := by simp
    obtain ⟨a0, a1, a2, a3, a4⟩ := cells5R (box_staysV BA b)
    go_wp2_with fail
    obtain ⟨wa, hwa⟩ : ∃ wa, wa = w3.alloc (.cells #[.string T, .slice x0 R.on.length y0, .slice x1 R.ins.length y1, .slice x2 R.envs.length y2, .bool KP] 51 (0, 0)) := ⟨_, rfl⟩
    rw [← hwa] at b hN s3 a0 a1 a2 a3 a4
    rw [← hwa]
    clear hwa
    have k3 := k2.trans (b.mono k2.size)
    have m3 := b.size
    replace BA := box_staysV BA b
    replace R6 := R6.below b
    clear b
    have B6 := hN
    clear hN
    go_at_call 22
    refine (HT.out _ k3).mono ?_
    rintro e w4 ⟨p1, p2, p3, p4, p5, p6, p7, p8, p9, md4, rfl, V4, b⟩
    clear a0 a1 a2 a3 a4
    have k4 := k3.trans (b.mono k3.size)
    have m4 := b.size
    replace BA := box_staysV BA b
    replace R6 := R6.below b
    replace B6 := box_staysV B6 b
    clear b
    have b : Below w4.heap.size w4 (w4.alloc (.cells #[.int .i64 p1, .int .i64 p2, .string p3, .slice p4 p5 p6, .slice p7 p8 p9] 56 (0, 0))) := (Below.refl _ _).alloc (Nat.le_refl _) _
    have hN : (w4.alloc (.cells #[.int .i64 p1, .int .i64 p2, .string p3, .slice p4 p5 p6, .slice p7 p8 p9] 56 (0, 0))).heap[w4.heap.size]? = some (.cells #[.int .i64 p1, .int .i64 p2, .string p3, .slice p4 p5 p6, .slice p7 p8 p9] 56 (0, 0)) := vheap_new _ _
    have s4 : (w4.alloc (.cells #[.int .i64 p1, .int .i64 p2, .string p3, .slice p4 p5 p6, .slice p7 p8 p9] 56 (0, 0))).heap.size = w4.heap.size + 1 := by simp
    go_wp2_with fail
    obtain ⟨wx, hwa⟩ : ∃ wa, wa = w4.alloc (.cells #[.int .i64 p1, .int .i64 p2, .string p3, .slice p4 p5 p6, .slice p7 p8 p9] 56 (0, 0)) := ⟨_, rfl⟩
    rw [← hwa] at b hN s4
    rw [← hwa]
    clear hwa
    have k5 := k4.trans (b.mono k4.size)
    have m5 := b.size
    replace BA := box_staysV BA b
    replace R6 := R6.below b
    replace B6 := box_staysV B6 b
    replace V4 := V4.below b
    clear b
    have B5 := hN
    clear hN
    go_at_call 23
    refine (HIM.out _ _ _ _ _ k5 V4).mono ?_
    rintro e w5 ⟨v0, v1, v2, rfl, R9, b⟩
    have k6 := k5.trans (b.mono k5.size)
    have m6 := b.size
    replace BA := box_staysV BA b
    replace R6 := R6.below b
    replace B6 := box_staysV B6 b
    replace V4 := V4.below b
    replace B5 := box_staysV B5 b
    clear b
    obtain ⟨i0, j0, i1, j1, i2, j2, ev0, ev1, ev2⟩ := R9.slices
    subst ev0 ev1 ev2
    have b : Below w5.heap.size w5 (w5.alloc (.cells #[.string T, .slice i0 R.on.length j0, .slice i1 R.ins.length j1, .slice i2 R.envs.length j2, .bool KP] 51 (0, 0))) := (Below.refl _ _).alloc (Nat.le_refl _) _
    have hN : (w5.alloc (.cells #[.string T, .slice i0 R.on.length j0, .slice i1 R.ins.length j1, .slice i2 R.envs.length j2, .bool KP] 51 (0, 0))).heap[w5.heap.size]? = some (.cells #[.string T, .slice i0 R.on.length j0, .slice i1 R.ins.length j1, .slice i2 R.envs.length j2, .bool KP] 51 (0, 0)) := vheap_new _ _
    have s5 : (w5.alloc (.cells #[.string T, .slice i0 R.on.length j0, .slice i1 R.ins.length j1, .slice i2 R.envs.length j2, .bool KP] 51 (0, 0))).heap.size = w5.heap.size + 1 := by simp
    obtain ⟨f0, f1, f2, f3, f4⟩ := cells5R (box_staysV B6 b)
    go_wp2_with fail
    obtain ⟨wb, hwa⟩ : ∃ wa, wa = w5.alloc (.cells #[.string T, .slice i0 R.on.length j0, .slice i1 R.ins.length j1, .slice i2 R.envs.length j2, .bool KP] 51 (0, 0)) := ⟨_, rfl⟩
    rw [← hwa] at b hN s5 f0 f1 f2 f3 f4
    rw [← hwa]
    clear hwa
    have k7 := k6.trans (b.mono k6.size)
    have m7 := b.size
    replace BA := box_staysV BA b
    replace R6 := R6.below b
    replace B6 := box_staysV B6 b
    replace V4 := V4.below b
    replace B5 := box_staysV B5 b
    replace R9 := R9.below b
    clear b
    have B9 := hN
    clear hN
    go_at_call 24
    refine (HEQ.out _ _ _ _ _ _ _ _ _ _ _ R9 R6).mono ?_
    rintro e w6 ⟨rfl, b⟩
    have k8 := k7.trans (b.mono k7.size)
    have m8 := b.size
    replace BA := box_staysV BA b
    replace R6 := R6.below b
    replace B6 := box_staysV B6 b
    replace V4 := V4.below b
    replace B5 := box_staysV B5 b
    replace R9 := R9.below b
    replace B9 := box_staysV B9 b
    clear b
    clear f0 f1 f2 f3 f4
    have h0 : Below w6.heap.size w6 w6.drew := (Below.refl _ _).drew
    have KEEP : Hid (∀ W, Below w6.heap.size w6 W → W.cell? ⟨w4.heap.size, 0, none⟩ = some (.int .i64 p1) ∧ W.cell? ⟨w4.heap.size, 1, none⟩ = some (.int .i64 p2) ∧ W.cell? ⟨w4.heap.size, 2, none⟩ = some (.string p3) ∧ W.cell? ⟨w4.heap.size, 3, none⟩ = some (.slice p4 p5 p6) ∧ W.cell? ⟨w4.heap.size, 4, none⟩ = some (.slice p7 p8 p9) ∧ W.cell? ⟨w.heap.size, 0, none⟩ = some (.int .i64 kk1) ∧ W.cell? ⟨w.heap.size, 1, none⟩ = some (.int .i64 kk2) ∧ W.cell? ⟨w.heap.size, 2, none⟩ = some (.string kk3) ∧ W.cell? ⟨w.heap.size, 3, none⟩ = some (.slice kk4 kk5 kk6) ∧ W.cell? ⟨w.heap.size, 4, none⟩ = some (.slice kk7 kk8 kk9)) := fun W h => by
      obtain ⟨i0, i1, i2, i3, i4⟩ := cells5R (box_staysV B5 h)
      obtain ⟨j0, j1, j2, j3, j4⟩ := cells5R (box_staysV BA h)
      exact ⟨i0, i1, i2, i3, i4, j0, j1, j2, j3, j4⟩
    go_wp2_with fail
    refine wp_region_held_drew (S := (fun W => W.cell? ⟨w4.heap.size, 0, none⟩ = some (.int .i64 p1) ∧ W.cell? ⟨w4.heap.size, 1, none⟩ = some (.int .i64 p2) ∧ W.cell? ⟨w4.heap.size, 2, none⟩ = some (.string p3) ∧ W.cell? ⟨w4.heap.size, 3, none⟩ = some (.slice p4 p5 p6) ∧ W.cell? ⟨w4.heap.size, 4, none⟩ = some (.slice p7 p8 p9) ∧ W.cell? ⟨w.heap.size, 0, none⟩ = some (.int .i64 kk1) ∧ W.cell? ⟨w.heap.size, 1, none⟩ = some (.int .i64 kk2) ∧ W.cell? ⟨w.heap.size, 2, none⟩ = some (.string kk3) ∧ W.cell? ⟨w.heap.size, 3, none⟩ = some (.slice kk4 kk5 kk6) ∧ W.cell? ⟨w.heap.size, 4, none⟩ = some (.slice kk7 kk8 kk9))) (by kernel_rfl) ?SR20 (fun hHeld => ?_)
    case SR20 => (first | (with_reducible exact KEEP.out _ h2) | (with_reducible exact KEEP.out _ h1) | (with_reducible exact KEEP.out _ h0))
    refine wpAnyH_take (i := 0) (oi := _) (v := ?vR20) rfl (by kernel_rfl) (by kernel_rfl) (by kernel_rfl) (fun _ _ _ h => h) (Or.inl ⟨by rfl, ?yR20⟩) hHeld ?_
    case yR20 => (intro w hSw; (try dsimp only at hSw); go_simp <;> with_reducible rfl)
    try simp only [Act.put, List.getElem_toArray, List.getElem_cons_zero, List.getElem_cons_succ, List.setIfInBounds_toArray, List.set_cons_zero, List.set_cons_succ]
    refine wpAnyH_take (i := 1) (oi := _) (v := ?vR21) rfl (by kernel_rfl) (by kernel_rfl) (by kernel_rfl) (fun _ _ _ h => h) (Or.inl ⟨by rfl, ?yR21⟩) hHeld ?_
    case yR21 => (intro w hSw; (try dsimp only at hSw); go_simp <;> with_reducible rfl)
    try simp only [Act.put, List.getElem_toArray, List.getElem_cons_zero, List.getElem_cons_succ, List.setIfInBounds_toArray, List.set_cons_zero, List.set_cons_succ]
    refine wpAnyH_ready (rs := [2]) (by kernel_rfl) (by simp) ?_
    refine AllReadyH.cons rfl (fun K hK => ?_) AllReadyH.nil
    go_simp
    go_wp2_with (go_at_call 22; refine (HT.out _ (k8.trans (h0.mono k8.size))).mono ?_; rintro e w7 ⟨g1, g2, g3, g4, g5, g6, g7, g8, g9, md7, rfl, V7, b7⟩; have h1 : Below w6.heap.size w6 w7 := h0.trans (b7.mono h0.size); have V47 := V4.below h1)
    clear hHeld
    refine hK.out _ _ ?SR23 (fun hHeld => ?_)
    case SR23 => ((try dsimp only); first | (with_reducible exact KEEP.out _ h2) | (with_reducible exact KEEP.out _ h1) | (with_reducible exact KEEP.out _ h0))
    clear hK K
    refine wpAnyH_ready (rs := [3]) (by kernel_rfl) (by simp) ?_
    refine AllReadyH.cons rfl (fun K hK => ?_) AllReadyH.nil
    go_simp
    go_wp2_with (go_at_call 25; refine (HES.out _ _ _ _ _ _ _ _ _ V47 V7).mono ?_; rintro e w8 ⟨rfl, b8⟩; have h2 : Below w6.heap.size w6 w8 := h1.trans (b8.mono h1.size))
    clear hHeld
    refine hK.out _ _ ?SR24 (fun hHeld => ?_)
    case SR24 => ((try dsimp only); first | (with_reducible exact KEEP.out _ h2) | (with_reducible exact KEEP.out _ h1) | (with_reducible exact KEEP.out _ h0))
    clear hK K
    refine wpAnyH_take (i := 4) (oi := _) (v := ?vR24) rfl (by kernel_rfl) (by kernel_rfl) (by kernel_rfl) (fun _ _ _ h => h) (Or.inl ⟨by rfl, ?yR24⟩) hHeld ?_
    case yR24 => (intro w hSw; (try dsimp only at hSw); go_simp <;> with_reducible rfl)
    try simp only [Act.put, List.getElem_toArray, List.getElem_cons_zero, List.getElem_cons_succ, List.setIfInBounds_toArray, List.set_cons_zero, List.set_cons_succ]
    refine wpAnyH_done (by kernel_rfl) ?_ _
    have b := h2
    clear V47 V7 b7 b8 h0 h1 h2 KEEP
    have k9 := k8.trans (b.mono k8.size)
    have m9 := b.size
    replace BA := box_staysV BA b
    replace R6 := R6.below b
    replace B6 := box_staysV B6 b
    replace V4 := V4.below b
    replace B5 := box_staysV B5 b
    replace R9 := R9.below b
    replace B9 := box_staysV B9 b
    clear b HES
    obtain ⟨e0, e1, e2, e3, e4⟩ := cells5R B5
    go_wp2_with fail
    go_at_call 26
    refine (HMX.out _ _ _ _ _ _ _ _ _ _ _ _ _ V4).mono ?_
    rintro e w9 ⟨rfl, ch⟩
    have y1 := V4.h1
    have y2 := V4.h2
    clear e0 e1 e2 e3 e4
    have k10 := below_chgW k9 ch (fun b hb => by have := hb.1; omega) k9.size
    have m10 := ch.size
    replace BA := (ch.block _ (Array.getElem?_eq_some_iff.1 BA).1 (fun h => by have h1 := h.1; have h2 := h.2; omega)).trans BA
    replace R6 := R6.chg ch (fun b hb h => by have h1 := h.1; have h2 := h.2; have h3 := hb.1; have h4 := hb.2; omega)
    replace B6 := (ch.block _ (Array.getElem?_eq_some_iff.1 B6).1 (fun h => by have h1 := h.1; have h2 := h.2; omega)).trans B6
    replace B5 := (ch.block _ (Array.getElem?_eq_some_iff.1 B5).1 (fun h => by have h1 := h.1; have h2 := h.2; omega)).trans B5
    replace R9 := R9.chg ch (fun b hb h => by have h1 := h.1; have h2 := h.2; have h3 := hb.1; have h4 := hb.2; omega)
    replace B9 := (ch.block _ (Array.getElem?_eq_some_iff.1 B9).1 (fun h => by have h1 := h.1; have h2 := h.2; omega)).trans B9
    clear ch HMX V4
    obtain ⟨f0, f1, f2, f3, f4⟩ := cells5R B6
    obtain ⟨d0, d1, d2, d3, d4⟩ := cells5R B9
    go_wp2_with fail
    go_at_call 24
    refine (HEQ.out _ _ _ _ _ _ _ _ _ _ _ R9 R6).mono ?_
    rintro e w10 ⟨rfl, b⟩
    clear f0 f1 f2 f3 f4
    clear d0 d1 d2 d3 d4
    have k11 := k10.trans (b.mono k10.size)
    have m11 := b.size
    replace BA := box_staysV BA b
    replace R6 := R6.below b
    replace B6 := box_staysV B6 b
    replace B5 := box_staysV B5 b
    replace R9 := R9.below b
    replace B9 := box_staysV B9 b
    clear b
    obtain ⟨d0, d1, d2, d3, d4⟩ := cells5R B9
    go_wp2_with fail
    go_at_call 27
    refine (HMV.out _ _ _ _ _ _ R9).mono ?_
    rintro e w11 ⟨rfl, M9, ch⟩
    clear d0 d1 d2 d3 d4
    have k12 := below_chgW k11 ch (fun b hb => by have := hb.1; omega) k11.size
    have m12 := ch.size
    replace BA := (ch.block _ (Array.getElem?_eq_some_iff.1 BA).1 (fun h => by have h1 := h.1; have h2 := h.2; omega)).trans BA
    replace R6 := R6.chg ch (fun b hb h => by have h1 := h.1; have h2 := h.2; have h3 := hb.1; have h4 := hb.2; omega)
    replace B6 := (ch.block _ (Array.getElem?_eq_some_iff.1 B6).1 (fun h => by have h1 := h.1; have h2 := h.2; omega)).trans B6
    replace B5 := (ch.block _ (Array.getElem?_eq_some_iff.1 B5).1 (fun h => by have h1 := h.1; have h2 := h.2; omega)).trans B5
    replace B9 := (ch.block _ (Array.getElem?_eq_some_iff.1 B9).1 (fun h => by have h1 := h.1; have h2 := h.2; omega)).trans B9
    clear ch HMV R9
    obtain ⟨d0, d1, d2, d3, d4⟩ := cells5R B9
    go_wp2_with fail
    go_at_call 28
    refine (HHV.out _ _ _ _ _ _ M9).mono ?_
    rintro e w12 ⟨rfl, b⟩
    clear d0 d1 d2 d3 d4
    have k13 := k12.trans (b.mono k12.size)
    have m13 := b.size
    replace BA := box_staysV BA b
    replace R6 := R6.below b
    replace B6 := box_staysV B6 b
    replace B5 := box_staysV B5 b
    replace B9 := box_staysV B9 b
    replace M9 := M9.keep (Kp.of b (fun b hb => by have := hb.2; omega))
    clear b
    obtain ⟨a0, a1, a2, a3, a4⟩ := cells5R BA
    go_wp2_with fail
    go_at_call 22
    refine (HT.out _ k13).mono ?_
    rintro e w13 ⟨g1, g2, g3, g4, g5, g6, g7, g8, g9, md13, rfl, V13, b⟩
    clear a0 a1 a2 a3 a4
    have k14 := k13.trans (b.mono k13.size)
    have m14 := b.size
    replace BA := box_staysV BA b
    replace R6 := R6.below b
    replace B6 := box_staysV B6 b
    replace B5 := box_staysV B5 b
    replace B9 := box_staysV B9 b
    replace M9 := M9.keep (Kp.of b (fun b hb => by have := hb.2; omega))
    clear b HT
    go_wp2_with fail
    go_at_call 23
    refine (HIM.out _ _ _ _ _ k14 V13).mono ?_
    rintro e w14 ⟨n0, n1, n2, rfl, R14, b⟩
    have k15 := k14.trans (b.mono k14.size)
    have m15 := b.size
    replace BA := box_staysV BA b
    replace R6 := R6.below b
    replace B6 := box_staysV B6 b
    replace B5 := box_staysV B5 b
    replace B9 := box_staysV B9 b
    replace M9 := M9.keep (Kp.of b (fun b hb => by have := hb.2; omega))
    clear b V13 HIM
    obtain ⟨c0, e0, c1, e1, c2, e2, en0, en1, en2⟩ := R14.slices
    subst en0 en1 en2
    have b : Below w14.heap.size w14 (w14.alloc (.cells #[.string T, .slice c0 R.on.length e0, .slice c1 R.ins.length e1, .slice c2 R.envs.length e2, .bool KP] 51 (0, 0))) := (Below.refl _ _).alloc (Nat.le_refl _) _
    have hN : (w14.alloc (.cells #[.string T, .slice c0 R.on.length e0, .slice c1 R.ins.length e1, .slice c2 R.envs.length e2, .bool KP] 51 (0, 0))).heap[w14.heap.size]? = some (.cells #[.string T, .slice c0 R.on.length e0, .slice c1 R.ins.length e1, .slice c2 R.envs.length e2, .bool KP] 51 (0, 0)) := vheap_new _ _
    have s14 : (w14.alloc (.cells #[.string T, .slice c0 R.on.length e0, .slice c1 R.ins.length e1, .slice c2 R.envs.length e2, .bool KP] 51 (0, 0))).heap.size = w14.heap.size + 1 := by simp
    obtain ⟨f0, f1, f2, f3, f4⟩ := cells5R (box_staysV B6 b)
    go_wp2_with fail
    obtain ⟨wc, hwa⟩ : ∃ wa, wa = w14.alloc (.cells #[.string T, .slice c0 R.on.length e0, .slice c1 R.ins.length e1, .slice c2 R.envs.length e2, .bool KP] 51 (0, 0)) := ⟨_, rfl⟩
    rw [← hwa] at b hN s14 f0 f1 f2 f3 f4
    rw [← hwa]
    clear hwa
    have k16 := k15.trans (b.mono k15.size)
    have m16 := b.size
    replace BA := box_staysV BA b
    replace R6 := R6.below b
    replace B6 := box_staysV B6 b
    replace B5 := box_staysV B5 b
    replace B9 := box_staysV B9 b
    replace M9 := M9.keep (Kp.of b (fun b hb => by have := hb.2; omega))
    replace R14 := R14.below b
    clear b
    have B14 := hN
    clear hN
    go_at_call 24
    refine (HEQ.out _ _ _ _ _ _ _ _ _ _ _ R14 R6).mono ?_
    rintro e w15 ⟨rfl, b⟩
    have k17 := k16.trans (b.mono k16.size)
    have m17 := b.size
    replace BA := box_staysV BA b
    replace R6 := R6.below b
    replace B6 := box_staysV B6 b
    replace B5 := box_staysV B5 b
    replace B9 := box_staysV B9 b
    replace M9 := M9.keep (Kp.of b (fun b hb => by have := hb.2; omega))
    replace R14 := R14.below b
    replace B14 := box_staysV B14 b
    clear b
    clear f0 f1 f2 f3 f4
    obtain ⟨d0, d1, d2, d3, d4⟩ := cells5R B9
    go_wp2_with fail
    go_at_call 28
    refine (HHV.out _ _ _ _ _ _ M9).mono ?_
    rintro e w16 ⟨rfl, b⟩
    have k18 := k17.trans (b.mono k17.size)
    have m18 := b.size
    replace BA := box_staysV BA b
    replace R6 := R6.below b
    replace B6 := box_staysV B6 b
    replace B5 := box_staysV B5 b
    replace B9 := box_staysV B9 b
    replace M9 := M9.keep (Kp.of b (fun b hb => by have := hb.2; omega))
    replace R14 := R14.below b
    replace B14 := box_staysV B14 b
    go_wp2_with fail
    go_ret
    exact ⟨rfl, k18⟩
end Go.Proofs.YtkkhnldhipfneaaGreatDoor

/-! What comes in as a value of the laws' own type is a tree that lies in memory: no condition. -/
namespace Go.Proofs.YtkkhnldhipfneaaGreatDoor
open Go.ChangeShapes Go.WideShapes Go.ChangeAt Go.RowKit
set_option linter.unusedSimpArgs false
set_option linter.unusedVariables false

theorem list_of {α : Type} {P : Nat → α → Prop} : ∀ n, (∀ i, i < n → ∃ a, P i a) → ∃ l : List α, l.length = n ∧ ∀ i (h : i < l.length), P i l[i]
  | 0, _ => ⟨[], rfl, fun i h => by simp at h⟩
  | n + 1, h => by
    obtain ⟨l, hl, hp⟩ := list_of n (fun i hi => h i (by omega))
    obtain ⟨a, ha⟩ := h n (by omega)
    refine ⟨l ++ [a], by simp [hl], fun i hi => ?_⟩
    by_cases h1 : i < l.length
    · rw [List.getElem_append_left h1]; exact hp i h1
    · have : i = n := by simp at hi; omega
      subst this
      rw [List.getElem_append_right (by omega)]
      simpa using ha

theorem addr_add' (b off i : Nat) : ((⟨b, off, none⟩ : Addr).add i) = ⟨b, off + i, none⟩ := by unfold Addr.add; split <;> simp_all

theorem list5 {cs : List Value} (h : cs.length = 5) : ∃ c0 c1 c2 c3 c4, cs = [c0, c1, c2, c3, c4] := by
  match cs, h with
  | [c0, c1, c2, c3, c4], _ => exact ⟨c0, c1, c2, c3, c4, rfl⟩

theorem reads_open {H : Type} {enc : TypeId × Value → H} {w : World} {spare : Nat → Bool} {held : Bool} {fuel : Nat} {c : Value} {x : DataW H × List MemPlace}
    (hf : DataW.trod enc Tryz.prog w 0 spare held fuel 26 [c] = some x) : ∃ ks, ReadsB (· < w.heap.size) w c (strsV ks) ∧ saneS ks := by
  rcases open_strings Tryz.underlying26 Tryz.underlying9 (by kernel_rfl) hf with ⟨hcs, _⟩ | ⟨x, l, cap, zs, hcs, _, hl, hm, hz, _, hcell, hwz⟩
  · simp at hcs
    subst hcs
    exact ⟨[], ⟨none, 0, rfl, Nat.le_refl _, .inl rfl⟩, by simp [saneS]⟩
  · simp at hcs
    subst hcs
    have hz' : l ≤ zs.length := by rw [hz]; split <;> omega
    have hlen : (zs.take l).length = l := by simp; omega
    refine ⟨zs.take l, ?_, by rw [hlen]; omega, fun s hs => hwz s (List.mem_of_mem_take hs)⟩
    by_cases h0 : l = 0
    · subst h0
      exact ⟨some x, cap, by simp [strsV], by simp [strsV], .inl (by simp [strsV])⟩
    · obtain ⟨b, off, spot⟩ := x
      have hc0 := hcell 0 (by omega)
      have hspot : spot = none := by simpa [Addr.add] using World.cell?_spot hc0
      subst hspot
      refine ⟨some ⟨b, off, none⟩, cap, by simp [strsV]; omega, by simp [strsV]; omega, .inr ⟨b, off, rfl, ?_, fun i hi => ?_⟩⟩
      · rw [addr_add'] at hc0; exact World.block_lt_of_cell? w _ hc0
      · have hi' : i < l := by simp [strsV] at hi; omega
        have := hcell i (by omega)
        rw [addr_add'] at this
        rw [this]
        simp [strsV, List.getD_eq_getElem?_getD, show i < zs.length by omega]

set_option maxRecDepth 100000 in
theorem lies_of_trod {H : Type} {enc : TypeId × Value → H} {w : World} {spare : Nat → Bool} {held : Bool} (fuel : Nat) : ∀ (cs : List Value) (x : DataW H × List MemPlace),
    DataW.trod enc Tryz.prog w 0 spare held fuel 48 cs = some x → ∃ T, Lies (· < w.heap.size) w (.agg cs.toArray) T := by
  induction fuel using Nat.strongRecOn with
  | ind fuel ih =>
    intro cs x h
    obtain ⟨xs, n, rfl, _, hlen, hxl, hf⟩ := DataW.trod_struct Tryz.underlying48 h
    have h5 : Tryz.prog.cellsOf 48 = 5 := by kernel_rfl
    obtain ⟨c0, c1, c2, c3, c4, rfl⟩ := list5 (hlen.trans h5)
    have hx : ∀ i, i < 5 → ∃ y, xs[i]? = some y := fun i hi => ⟨xs[i]'(by rw [hxl]; exact hi), by rw [List.getElem?_eq_getElem]⟩
    obtain ⟨y0, e0⟩ := hx 0 (by omega)
    obtain ⟨y1, e1⟩ := hx 1 (by omega)
    obtain ⟨y2, e2⟩ := hx 2 (by omega)
    obtain ⟨y3, e3⟩ := hx 3 (by omega)
    obtain ⟨y4, e4⟩ := hx 4 (by omega)
    have k3 : Tryz.prog.cellsOf 3 = 1 := by kernel_rfl
    have k9 : Tryz.prog.cellsOf 9 = 1 := by kernel_rfl
    have kL : Tryz.prog.cellsOf 46 = 1 := by kernel_rfl
    have kS : Tryz.prog.cellsOf 26 = 1 := by kernel_rfl
    have f0 : DataW.trod enc Tryz.prog w 0 spare held n 3 [c0] = some y0 := by
      have h : DataW.trod enc Tryz.prog w 0 spare held n 3 ((([c0, c1, c2, c3, c4] : List Value).drop 0).take (Tryz.prog.cellsOf 3)) = some y0 := (hf 0 _ rfl).trans e0
      rw [k3] at h; exact h
    have f1 : DataW.trod enc Tryz.prog w 0 spare held n 3 [c1] = some y1 := by
      have h : DataW.trod enc Tryz.prog w 0 spare held n 3 ((([c0, c1, c2, c3, c4] : List Value).drop 1).take (Tryz.prog.cellsOf 3)) = some y1 := (hf 1 _ rfl).trans e1
      rw [k3] at h; exact h
    have f2 : DataW.trod enc Tryz.prog w 0 spare held n 9 [c2] = some y2 := by
      have h : DataW.trod enc Tryz.prog w 0 spare held n 9 ((([c0, c1, c2, c3, c4] : List Value).drop 2).take (Tryz.prog.cellsOf 9)) = some y2 := (hf 2 _ rfl).trans e2
      rw [k9] at h; exact h
    have f3 : DataW.trod enc Tryz.prog w 0 spare held n 46 [c3] = some y3 := by
      have h : DataW.trod enc Tryz.prog w 0 spare held n 46 ((([c0, c1, c2, c3, c4] : List Value).drop 3).take (Tryz.prog.cellsOf 46)) = some y3 := (hf 3 _ rfl).trans e3
      rw [kL] at h; exact h
    have f4 : DataW.trod enc Tryz.prog w 0 spare held n 26 [c4] = some y4 := by
      have h : DataW.trod enc Tryz.prog w 0 spare held n 26 ((([c0, c1, c2, c3, c4] : List Value).drop 4).take (Tryz.prog.cellsOf 26)) = some y4 := (hf 4 _ rfl).trans e4
      rw [kS] at h; exact h
    obtain ⟨k, hk, _, _⟩ := DataW.trod_int Tryz.underlying3 f0
    obtain ⟨m, hm, _, _⟩ := DataW.trod_int Tryz.underlying3 f1
    obtain ⟨s, hs, _, hsz⟩ := DataW.trod_string Tryz.underlying9 f2
    simp at hk hm hs
    subst hk hm hs
    obtain ⟨ks, hr, hsane⟩ := reads_open f4
    have hL : ∃ l, LiesL (· < w.heap.size) w c3 l := by
      rcases DataW.trod_slice Tryz.underlying46 f3 with ⟨hcs, _⟩ | ⟨a, len, cap, elems, rest, n', hn', hcs, _, _, hl, hcm, hel, hat, _, _⟩
      · simp at hcs
        subst hcs
        exact ⟨[], none, 0, fun _ _ => undef, rfl, by simp, Nat.le_refl _, .inl rfl, fun i h => by simp at h⟩
      · simp at hcs
        subst hcs
        rw [h5] at hat
        have heach : ∀ i, i < len → ∃ q : Tree × (Nat → Value), (∀ j, j < 5 → w.cell? ((a.add (i * 5)).add j) = some (q.2 j)) ∧ Lies (· < w.heap.size) w (.agg #[q.2 0, q.2 1, q.2 2, q.2 3, q.2 4]) q.1 := fun i hi => by
          have hb := hat i hi
          rw [List.getElem?_eq_getElem (by omega)] at hb
          obtain ⟨cs', hc1, hc2⟩ := Option.bind_eq_some_iff.1 hb
          obtain ⟨T, hT⟩ := ih n' (by omega) cs' _ hc2
          obtain ⟨hb1, hl5, hcell⟩ := World.cells?_some hc1
          obtain ⟨d0, d1, d2, d3, d4, rfl⟩ := list5 hl5
          refine ⟨(T, fun j => [d0, d1, d2, d3, d4].getD j undef), fun j hj => ?_, hT⟩
          rw [hcell j hj]
          match j, hj with
          | 0, _ => rfl
          | 1, _ => rfl
          | 2, _ => rfl
          | 3, _ => rfl
          | 4, _ => rfl
        obtain ⟨q, hq, hqp⟩ := list_of len heach
        refine ⟨q.map (·.1), some a, cap, fun i j => (q.getD i (.mk 0 0 ⟨#[]⟩ [] [], fun _ => undef)).2 j, by simp [hq], by simp [hq]; omega, by simp [hq]; omega, ?_, fun i h => ?_⟩
        · by_cases h0 : len = 0
          · left; simp; exact List.eq_nil_of_length_eq_zero (by omega)
          · right
            obtain ⟨b, off, spot⟩ := a
            have hc0 := (hqp 0 (by omega)).1 0 (by omega)
            have hspot : spot = none := by
              have := World.cell?_spot hc0
              simpa [Addr.add] using this
            subst hspot
            refine ⟨b, off, rfl, ?_, fun i hi j hj => ?_⟩
            · rw [addr_add', addr_add'] at hc0; exact World.block_lt_of_cell? w _ hc0
            · simp at hi
              have := (hqp i hi).1 j hj
              rw [addr_add', addr_add'] at this
              rw [this]
              simp [List.getD_eq_getElem?_getD, hi]
        · simp at h
          have := (hqp i h).2
          simpa [List.getD_eq_getElem?_getD, h] using this
    obtain ⟨l, hl⟩ := hL
    exact ⟨.mk k m s l ks, Lies.of hsz hsane hl hr⟩
#print axioms lies_of_trod
end Go.Proofs.YtkkhnldhipfneaaGreatDoor

/-! Whatever task and whatever value come in: the program and the specification read the same rule, or neither does, nothing is written into the value, and the answer owns its memory; no condition (what holds more than 2 to the 20 is passed by, as the law says) but that the program's own error holds at the start what the program text lays, which the card ties. -/
namespace Go.Proofs.YtkkhnldhipfneaaGreatDoor.fnExactRuleOf
open Go.ChangeShapes Go.WideShapes Go.ChangeAt Go.RowKit
open Go.ChangeMaps (open_string shut_string)
set_option linter.unusedVariables false
set_option linter.unusedSimpArgs false

theorem own : ownKnob Tryz.prog.godebug = none := by kernel_rfl
theorem laidOut : laidOutB Tryz.prog = true := by kernel_rfl

theorem addr_add (b off i : Nat) : ((⟨b, off, none⟩ : Addr).add i) = ⟨b, off + i, none⟩ := by unfold Addr.add; split <;> simp_all
theorem reads_mk {w : World} {x : Addr} {len cap : Nat} {xs : List Value} (hl : xs.length = len) (hc : len ≤ cap) (hcell : ∀ i (h : i < xs.length), w.cell? (x.add i) = some xs[i]) : Reads w (.slice (some x) len cap) xs := by
  subst hl
  by_cases h0 : xs.length = 0
  · exact ⟨some x, cap, rfl, hc, .inl (List.eq_nil_of_length_eq_zero h0)⟩
  · obtain ⟨b, off, spot⟩ := x
    have hc0 := hcell 0 (by omega)
    have hspot : spot = none := by simpa [Addr.add] using World.cell?_spot hc0
    subst hspot
    refine ⟨some ⟨b, off, none⟩, cap, rfl, hc, .inr ⟨b, off, rfl, ?_, fun i hi => ?_⟩⟩
    · rw [addr_add] at hc0; exact World.block_lt_of_cell? w _ hc0
    · have := hcell i hi; rw [addr_add] at this; exact this

set_option maxHeartbeats 4000000 in
set_option maxRecDepth 100000 in
theorem walk (a0 : ByteArray) (a1 : Value) (z1 : Tree) (w : World) (w0 : a0.size ≤ maxLen) (r1 : Lies (· < w.heap.size) w a1 z1) (eu : TypeId) (ev : Value) (herr : ErrAt w eu ev) :
    Calls Tryz.prog 4 #[.string a0, a1] w fun e w' => e = .returned (.bool true) ∧ Below w.heap.size w w' := by
  exact ruleOf_walk a0 w0 a1 z1 w r1 eu ev herr

set_option maxRecDepth 100000 in
theorem witnessWorld (os : Os) {H : Type} (enc : TypeId × Value → H) : ∃ W0 : World, W0.os = os ∧ (W0.forCall (fun _ _ => 0) ⟨#[], #[.string ByteArray.empty, .agg #[.int .i64 0, .int .i64 0, .string ByteArray.empty, .slice none 0 0, .slice none 0 0]], []⟩).variablesB Tryz.prog = true ∧
    ((W0.forCall (fun _ _ => 0) ⟨#[], #[.string ByteArray.empty, .agg #[.int .i64 0, .int .i64 0, .string ByteArray.empty, .slice none 0 0, .slice none 0 0]], []⟩).heap.toList.drop Tryz.prog.globals.size).take ((begin Tryz.prog (fun _ _ => 0) default).world.heap.size - Tryz.prog.globals.size) = (begin Tryz.prog (fun _ _ => 0) default).world.heap.toList.drop Tryz.prog.globals.size ∧
    Input.okWideB Tryz.prog (W0.forCall (fun _ _ => 0) ⟨#[], #[.string ByteArray.empty, .agg #[.int .i64 0, .int .i64 0, .string ByteArray.empty, .slice none 0 0, .slice none 0 0]], []⟩) 4 ⟨#[], #[.string ByteArray.empty, .agg #[.int .i64 0, .int .i64 0, .string ByteArray.empty, .slice none 0 0, .slice none 0 0]], []⟩ = true ∧
    laidMetH Tryz.prog Rows.fnExactRuleOfRow.laid (W0.forCall (fun _ _ => 0) ⟨#[], #[.string ByteArray.empty, .agg #[.int .i64 0, .int .i64 0, .string ByteArray.empty, .slice none 0 0, .slice none 0 0]], []⟩).memory ∧
    ChangeSpec.sizedB enc Tryz.checked.prog Tryz.f4 (OpenSpec.ofChange Rows.fnExactRuleOfSpec).bare false (W0.forCall (fun _ _ => 0) ⟨#[], #[.string ByteArray.empty, .agg #[.int .i64 0, .int .i64 0, .string ByteArray.empty, .slice none 0 0, .slice none 0 0]], []⟩).memory #[.string ByteArray.empty, .agg #[.int .i64 0, .int .i64 0, .string ByteArray.empty, .slice none 0 0, .slice none 0 0]] 8 = true ∧
    (DataW.whole enc Tryz.prog (W0.forCall (fun _ _ => 0) ⟨#[], #[.string ByteArray.empty, .agg #[.int .i64 0, .int .i64 0, .string ByteArray.empty, .slice none 0 0, .slice none 0 0]], []⟩).memory Tryz.f4.params.toList Rows.fnExactRuleOfSpec.vars false (#[.string ByteArray.empty, .agg #[.int .i64 0, .int .i64 0, .string ByteArray.empty, .slice none 0 0, .slice none 0 0]] : Array Value).toList 8).isSome = true :=
  ⟨{ World.holding Tryz.prog os ⟨#[.cells #[.string ⟨#[99, 97, 110, 110, 111, 116, 32, 98, 101, 32, 114, 101, 97, 100]⟩] 394], #[], []⟩ with heap := (World.holding Tryz.prog os ⟨#[.cells #[.string ⟨#[99, 97, 110, 110, 111, 116, 32, 98, 101, 32, 114, 101, 97, 100]⟩] 394], #[], []⟩).heap.modify 0 (fun | .cells _ t frozen => .cells #[.iface 380 (.pointer (some ⟨(World.settled Tryz.prog os).heap.size, 0, none⟩))] t frozen | o => o) },
    rfl, by kernel_rfl, by kernel_rfl, by kernel_rfl, laidMetH_of_parts (laidMet_of_run3 8 (by kernel_rfl) (by kernel_rfl) (by kernel_rfl)) (by kernel_rfl), by kernel_rfl, by kernel_rfl⟩

set_option maxRecDepth 100000 in
theorem lifted (os : Os) (started : os.Started) (H : Type) (enc : TypeId × Value → H) (F : Stop.Interp) :
    ReturnsInHanded {} Tryz.checked os 4 .any ((OpenSpec.ofChange Rows.fnExactRuleOfSpec).preRow enc Tryz.prog Tryz.f4 Rows.fnExactRuleOfRow.domain false Rows.fnExactRuleOfRow.laid) (((OpenSpec.ofChange Rows.fnExactRuleOfSpec).at F).post enc Tryz.prog Tryz.f4 false true false false) := by
  obtain ⟨W0, hos, hv, hr, hok, hlaid, hsz, hso⟩ := witnessWorld os enc
  obtain ⟨x, hx⟩ := Option.isSome_iff_exists.1 hso
  refine returnsInHanded_of_row (C := Tryz.checked) (s := OpenSpec.ofChange Rows.fnExactRuleOfSpec) own started (by kernel_rfl) Tryz.func4
    (witness_row_at (enc := enc) (C := Tryz.checked) false W0 #[.string ByteArray.empty, .agg #[.int .i64 0, .int .i64 0, .string ByteArray.empty, .slice none 0 0, .slice none 0 0]] hos hv hr hok
      (OpenSpec.preRow_of_cond 8 hx (by kernel_rfl) (fun k hk => by cases hk) hsz hlaid)) ?_
  intro W base args ds gs before hval0 hW _ _ _ hL hSh _
  have hval : ∀ (j : Nat) t v, Tryz.f4.params[j]? = some t → args[j]? = some v → Value.okWide Tryz.prog W .any base t v := hval0
  have hW' := hW
  obtain ⟨p, q, hA0, hV, rfl, hfz, hnd⟩ := hW
  have hA : DataW.TrodAll enc Tryz.prog W 0 (fun _ => true) true Tryz.f4.params.toList args.toList ds p := hA0
  rw [Tryz.params4] at hA hval
  obtain ⟨v0, vs0, d0, ds0, p0, q0, hargs, rfl, rfl, h0, r0⟩ := trodAll_cons hA
  obtain ⟨v1, vs1, d1, ds1, p1, q1, rfl, rfl, rfl, h1, r1⟩ := trodAll_cons r0
  obtain ⟨rfl, rfl, rfl⟩ := trodAll_nil r1
  obtain rfl : args = #[v0, v1] := by cases args; simp_all
  have hV1 := hV
  obtain ⟨_, _, _, _, dv, _, rfl, _⟩ := trodVars_one hV
  obtain ⟨ev, hev⟩ := err_laid hL
  obtain ⟨a0, rfl, rfl, rfl, w0⟩ := open_string Tryz.underlying9 (hval 0 9 v0 rfl rfl) h0
  obtain ⟨cs1, rfl, _⟩ := okWide_struct Tryz.underlying48 (hval 1 48 v1 rfl rfl)
  have k1 := h1
  have lt1 : ∀ x ∈ p1, x.block < W.heap.size := by obtain ⟨m, hm⟩ := k1; exact DataW.trod_lt m _ _ _ hm
  obtain ⟨z1, t1⟩ : ∃ T, Lies (· < W.heap.size) W (.agg cs1) T := by
    obtain ⟨fuel, hf⟩ := h1
    exact lies_of_trod fuel _ _ hf
  clear hA0 hval0
  refine (walk a0 _ z1 W w0 t1 380 ev hev).mono fun e W' ⟨he, bel⟩ => ?_
  subst he
  exact ⟨_, rfl, _, _, _, [], _, _, hW', trodAll_mk1 (shut_bool Tryz.underlying4 _), (trodAll_cons_mk (shut_string Tryz.underlying9 w0) (trodAll_cons_mk (Below.trod laidOut (by kernel_rfl) (of_decide_eq_true (by kernel_rfl)) k1 bel lt1) trodAll_mk0)), Below.trodVars laidOut bel (by kernel_rfl) hV1, bel.frame _, fun h => by cases h⟩

end Go.Proofs.YtkkhnldhipfneaaGreatDoor.fnExactRuleOf

/-! The closed facts of the row, each by the kernel alone; no condition. -/
namespace Go.Proofs.YtkkhnldhipfneaaGreatDoor.fnExactRuleOf
set_option maxRecDepth 100000
theorem band {a b : Bool} (h : a = true) (k : b = true) : (a && b) = true := by rw [h, k]; rfl
set_option maxHeartbeats 16000000 in
theorem closed : joinedFacts Tryz.prog 4 Tryz.f4 (OpenSpec.ofChange Rows.fnExactRuleOfSpec).bare Rows.fnExactRuleOfRow = true := by
  unfold joinedFacts
  repeat' (with_reducible refine band ?_ ?_)
  all_goals (as_aux_lemma => kernel_rfl)
theorem wfT : Rows.fnExactRuleOfRow.wfByText (OpenSpec.ofChange Rows.fnExactRuleOfSpec) = true := by kernel_rfl
theorem goesT : false = Rows.fnExactRuleOfRow.goesBy Tryz.prog := by kernel_rfl
end Go.Proofs.YtkkhnldhipfneaaGreatDoor.fnExactRuleOf
