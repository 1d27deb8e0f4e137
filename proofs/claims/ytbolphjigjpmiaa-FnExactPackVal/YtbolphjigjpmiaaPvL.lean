/-
  The law on PackVal, walked: both answers are one tree, each in memory of its own; nothing is written into the argument, and the answer owns its memory; condition: what comes in lies in memory.
-/
import Derived.Test.YtbolphjigjpmiaaPvK
import Derived.Deep.RegionHeld
namespace Go.Proofs.Ytbolphjigjpmiaa
open Go.RowKit
set_option linter.unusedSimpArgs false
set_option linter.unusedVariables false

theorem cells4 {w : World} {g : Nat} {a b c d : Value} {t : TypeId} (h : w.heap[g]? = some (.cells #[a, b, c, d] t (0, 0))) : w.cell? ⟨g, 0, none⟩ = some a ∧ w.cell? ⟨g, 1, none⟩ = some b ∧ w.cell? ⟨g, 2, none⟩ = some c ∧ w.cell? ⟨g, 3, none⟩ = some d := by
  have h0 := vblk_cell h 0
  have h1 := vblk_cell h 1
  have h2 := vblk_cell h 2
  have h3 := vblk_cell h 3
  simp only [List.getElem?_toArray, List.getElem?_cons_succ, List.getElem?_cons_zero] at h0 h1 h2 h3
  exact ⟨h0, h1, h2, h3⟩
theorem cells5 {w : World} {g : Nat} {a b c d e : Value} {t : TypeId} (h : w.heap[g]? = some (.cells #[a, b, c, d, e] t (0, 0))) : w.cell? ⟨g, 0, none⟩ = some a ∧ w.cell? ⟨g, 1, none⟩ = some b ∧ w.cell? ⟨g, 2, none⟩ = some c ∧ w.cell? ⟨g, 3, none⟩ = some d ∧ w.cell? ⟨g, 4, none⟩ = some e := by
  have h0 := vblk_cell h 0
  have h1 := vblk_cell h 1
  have h2 := vblk_cell h 2
  have h3 := vblk_cell h 3
  have h4 := vblk_cell h 4
  simp only [List.getElem?_toArray, List.getElem?_cons_succ, List.getElem?_cons_zero] at h0 h1 h2 h3 h4
  exact ⟨h0, h1, h2, h3, h4⟩
theorem box_stays {w w' : World} {g : Nat} {o : Obj} (hb : w.heap[g]? = some o) (h : Below w.heap.size w w') : w'.heap[g]? = some o := (h.block g (Array.getElem?_eq_some_iff.1 hb).1).trans hb
theorem below_chgV {B : Nat} {S : Nat → Prop} {w W W' : World} (h : Below B w W) (k : Chg S W W') (hs : ∀ b, S b → B ≤ b) (hB : B ≤ W.heap.size) : Below B w W' :=
  ⟨k.os.trans h.os, k.tape.trans h.tape, k.output.trans h.output, Nat.le_trans h.size k.size, fun b hb => (k.block b (Nat.lt_of_lt_of_le hb hB) (fun hS => by have := hs b hS; omega)).trans (h.block b hb)⟩
/-- The law's memory: the boxes of the argument, of the first answer, of what was handed in and of the second answer, and what these refer to. -/
structure StV (N1 N4 N5 N6 l4 h4 l5 h5 l6 h6 : Nat) (O1 O4 O5 O6 : Obj) (c4 u4 c6 u6 : Value) (cs : List Value) (d : PackD) (W : World) : Prop where
  b1 : W.heap[N1]? = some O1
  b4 : W.heap[N4]? = some O4
  b5 : W.heap[N5]? = some O5
  b6 : W.heap[N6]? = some O6
  v4 : ValR W l4 h4 c4 u4 d
  p5 : PackR W l5 h5 cs d
  v6 : ValR W l6 h6 c6 u6 d
theorem StV.below {N1 N4 N5 N6 l4 h4 l5 h5 l6 h6 : Nat} {O1 O4 O5 O6 : Obj} {c4 u4 c6 u6 : Value} {cs : List Value} {d : PackD} {W W' : World} (h : StV N1 N4 N5 N6 l4 h4 l5 h5 l6 h6 O1 O4 O5 O6 c4 u4 c6 u6 cs d W) (k : Below W.heap.size W W') : StV N1 N4 N5 N6 l4 h4 l5 h5 l6 h6 O1 O4 O5 O6 c4 u4 c6 u6 cs d W' :=
  ⟨box_stays h.b1 k, box_stays h.b4 k, box_stays h.b5 k, box_stays h.b6 k, h.v4.below k, h.p5.below k, h.v6.below k⟩

set_option maxHeartbeats 8000000 in
set_option maxRecDepth 100000 in
theorem packVal_walk (b0 : List Value) (d : PackD) (w : World) (r0 : shPack.lies (· < w.heap.size) w b0 d) :
    Calls Try.prog 4 #[.agg b0.toArray] w fun e w' => e = .returned (.bool true) ∧ Below w.heap.size w w' := by
  obtain ⟨x0, y0, x1, y1, x2, y2, rfl⟩ := pack_cells r0
  have hin : ∀ w1, Below w.heap.size w w1 → shPack.lies (· < w.heap.size) w1 [.string d.name, .slice x0 d.uses.length y0, .slice x1 d.needs.length y1, .slice x2 d.cmds.length y2] d := fun w1 h => shPack.keep (Kp.of h (fun b h => h)) r0
  have hbx : Below w.heap.size w (w.alloc (.cells #[.string d.name, .slice x0 d.uses.length y0, .slice x1 d.needs.length y1, .slice x2 d.cmds.length y2] 36 (0, 0))) := (Below.refl _ _).alloc (Nat.le_refl _) _
  have hA0 : (w.alloc (.cells #[.string d.name, .slice x0 d.uses.length y0, .slice x1 d.needs.length y1, .slice x2 d.cmds.length y2] 36 (0, 0))).heap[w.heap.size]? = some (.cells #[.string d.name, .slice x0 d.uses.length y0, .slice x1 d.needs.length y1, .slice x2 d.cmds.length y2] 36 (0, 0)) := vheap_new _ _
  have HZ : Hid (∀ w1, Below w.heap.size w w1 → Calls Try.prog 12 #[.agg #[.string d.name, .slice x0 d.uses.length y0, .slice x1 d.needs.length y1, .slice x2 d.cmds.length y2], .int .i64 1048576] w1 fun e w' => e = .returned (.int .i64 (leftW (wtPack d) 1048576)) ∧ Below w1.heap.size w1 w') := fun w1 h => szPack_c _ d _ _ (by omega) (by omega) w1 (hin w1 h) (fun b hb => Nat.lt_of_lt_of_le hb h.size)
  by_cases hbig : 1048576 < wtPack d
  · have e1 : leftW (wtPack d) 1048576 = -1 := leftW_bad (by omega)
    rw [e1] at HZ
    clear e1 hin r0
    go_enter Try.func4, Try.ntmps4
    go_wp2_with (go_at_call 12; refine (HZ.out _ hbx).mono ?_; rintro e w1 ⟨rfl, hb1⟩)
    go_ret
    exact ⟨rfl, hbx.trans (hb1.mono hbx.size)⟩
  have hwt : wtPack d ≤ 1048576 := by omega
  obtain ⟨p, hp⟩ : ∃ p, p = leftW (wtPack d) 1048576 := ⟨_, rfl⟩
  rw [← hp] at HZ
  have hp0 : 0 ≤ p := by rw [hp, leftW_good (by omega)]; omega
  clear hp
  have HT : Hid (∀ w1, Below w.heap.size w w1 → Calls Try.prog 14 #[.agg #[.string d.name, .slice x0 d.uses.length y0, .slice x1 d.needs.length y1, .slice x2 d.cmds.length y2]] w1 fun e w' => ∃ p0 q0 p1 q1 p2 q2, e = .returned (.agg #[.string d.name, .slice p0 d.uses.length q0, .slice p1 d.needs.length q1, .slice p2 d.cmds.length q2]) ∧ PackR w' w1.heap.size w'.heap.size [.string d.name, .slice p0 d.uses.length q0, .slice p1 d.needs.length q1, .slice p2 d.cmds.length q2] d ∧ Below w1.heap.size w1 w') := fun w1 h => toPackL _ d x0 y0 x1 y1 x2 y2 w1 (hin w1 h) (fun b hb => Nat.lt_of_lt_of_le hb h.size) hwt
  have HWT := hidden hwt
  obtain ⟨mq, hmq⟩ : ∃ mq, mq = 1 + cntL (packKids d) + 4 := ⟨_, rfl⟩
  have HMV : Hid (∀ w1 lo hi n c g u v, ValR w1 lo hi (.slice c n g) (.slice u n v) d → Calls Try.prog 18 #[.agg #[.int .i64 5, .int .i64 0, .string ⟨#[]⟩, .slice c n g, .slice u n v], .int .i64 1] w1 fun e w' => e = .returned (.int .i64 (mq : Int)) ∧ (∃ D : Nat → Prop, MarkV w' D 1 (.slice c n g) (.slice u n v) (packKids d) 4 ∧ ∀ b, D b → lo ≤ b ∧ b < hi) ∧ Chg (Ow lo hi) w1 w') := fun w1 lo hi n c g u v h => by rw [hmq]; exact markValL lo hi d n c g u v w1 h hwt
  have HHV : Hid (∀ w1 (D : Nat → Prop) n c g u v, MarkV w1 D 1 (.slice c n g) (.slice u n v) (packKids d) 4 → (∀ b, D b → b < w1.heap.size) → Calls Try.prog 19 #[.agg #[.int .i64 5, .int .i64 0, .string ⟨#[]⟩, .slice c n g, .slice u n v], .int .i64 1] w1 fun e w' => e = .returned (.int .i64 (mq : Int)) ∧ Below w1.heap.size w1 w') := fun w1 D n c g u v h hD => by rw [hmq]; exact heldValL D d n c g u v w1 h hD hwt
  have hmq0 : ¬ (mq : Int) < 0 := by omega
  have hmax : ∀ {n : Nat}, True → True := fun _ => trivial
  clear hmq hin r0 hbig hwt hmax
  go_enter Try.func4, Try.ntmps4
  go_wp2_with fail
  go_at_call 12
  refine (HZ.out _ hbx).mono ?_
  rintro e w1 ⟨rfl, b1⟩
  have hA1 := box_stays hA0 b1
  have k1 := hbx.trans (b1.mono hbx.size)
  have m1 : w.heap.size < w1.heap.size := (Array.getElem?_eq_some_iff.1 hA1).1
  clear HZ b1 hA0 hbx
  obtain ⟨a0, a1, a2, a3⟩ := cells4 hA1
  go_wp2_with fail
  go_at_call 14
  refine (HT.out _ k1).mono ?_
  rintro e w2 ⟨p0, q0, p1, q1, p2, q2, rfl, P2, b2⟩
  have hA2 := box_stays hA1 b2
  have k2 := k1.trans (b2.mono k1.size)
  have m2 := b2.size
  clear hA1 b2 a0 a1 a2 a3
  go_wp2_with fail
  go_at_call 13
  refine (specPackL _ _ d _ _ _ _ _ _ w2 P2 HWT.out).mono ?_
  rintro e w3 ⟨n4, c4, g4, u4, v4, rfl, V3, b3⟩
  have hA3 := box_stays hA2 b3
  have k3 := k2.trans (b3.mono k2.size)
  have m3 := b3.size
  clear hA2 b3 P2
  have x3 : Below w3.heap.size w3 (w3.alloc (.cells #[.int .i64 5, .int .i64 0, .string ⟨#[]⟩, .slice c4 n4 g4, .slice u4 n4 v4] 30 (0, 0))) := (Below.refl _ _).alloc (Nat.le_refl _) _
  have h4 : (w3.alloc (.cells #[.int .i64 5, .int .i64 0, .string ⟨#[]⟩, .slice c4 n4 g4, .slice u4 n4 v4] 30 (0, 0))).heap[w3.heap.size]? = some (.cells #[.int .i64 5, .int .i64 0, .string ⟨#[]⟩, .slice c4 n4 g4, .slice u4 n4 v4] 30 (0, 0)) := vheap_new _ _
  have s3 : (w3.alloc (.cells #[.int .i64 5, .int .i64 0, .string ⟨#[]⟩, .slice c4 n4 g4, .slice u4 n4 v4] 30 (0, 0))).heap.size = w3.heap.size + 1 := by simp
  obtain ⟨a0, a1, a2, a3⟩ := cells4 (box_stays hA3 x3)
  go_wp2_with fail
  obtain ⟨wa, hwa⟩ : ∃ wa, wa = w3.alloc (.cells #[.int .i64 5, .int .i64 0, .string ⟨#[]⟩, .slice c4 n4 g4, .slice u4 n4 v4] 30 (0, 0)) := ⟨_, rfl⟩
  rw [← hwa] at x3 h4 s3 a0 a1 a2 a3
  rw [← hwa]
  clear hwa
  have ka := k3.trans (x3.mono k3.size)
  have hAa := box_stays hA3 x3
  have Va := V3.below x3
  clear hA3 V3 x3
  go_at_call 14
  refine (HT.out _ ka).mono ?_
  rintro e w4 ⟨p0, q0, p1, q1, p2, q2, rfl, P4, b4⟩
  have k4 := ka.trans (b4.mono ka.size)
  have hA4 := box_stays hAa b4
  have h44 := box_stays h4 b4
  have V4 := Va.below b4
  have m4 := b4.size
  clear hAa h4 Va b4 a0 a1 a2 a3
  have x4 : Below w4.heap.size w4 (w4.alloc (.cells #[.string d.name, .slice p0 d.uses.length q0, .slice p1 d.needs.length q1, .slice p2 d.cmds.length q2] 42 (0, 0))) := (Below.refl _ _).alloc (Nat.le_refl _) _
  have h5 : (w4.alloc (.cells #[.string d.name, .slice p0 d.uses.length q0, .slice p1 d.needs.length q1, .slice p2 d.cmds.length q2] 42 (0, 0))).heap[w4.heap.size]? = some (.cells #[.string d.name, .slice p0 d.uses.length q0, .slice p1 d.needs.length q1, .slice p2 d.cmds.length q2] 42 (0, 0)) := vheap_new _ _
  have s4 : (w4.alloc (.cells #[.string d.name, .slice p0 d.uses.length q0, .slice p1 d.needs.length q1, .slice p2 d.cmds.length q2] 42 (0, 0))).heap.size = w4.heap.size + 1 := by simp
  go_wp2_with fail
  obtain ⟨wb, hwb⟩ : ∃ wb, wb = w4.alloc (.cells #[.string d.name, .slice p0 d.uses.length q0, .slice p1 d.needs.length q1, .slice p2 d.cmds.length q2] 42 (0, 0)) := ⟨_, rfl⟩
  rw [← hwb] at x4 h5 s4
  rw [← hwb]
  clear hwb
  have kb := k4.trans (x4.mono k4.size)
  have hAb := box_stays hA4 x4
  have h4b := box_stays h44 x4
  have Vb := V4.below x4
  have Pb := P4.below x4
  clear hA4 h44 V4 P4 x4
  go_at_call 15
  refine (implPackL _ _ d _ _ _ _ _ _ wb Pb HWT.out).mono ?_
  rintro e w5 ⟨n6, c6, g6, u6, v6, rfl, W5, b5⟩
  have k5 := kb.trans (b5.mono kb.size)
  have hA5 := box_stays hAb b5
  have h45 := box_stays h4b b5
  have h55 := box_stays h5 b5
  have V5 := Vb.below b5
  have P5 := Pb.below b5
  have m5 := b5.size
  clear hAb h4b h5 Vb Pb b5
  have x5 : Below w5.heap.size w5 (w5.alloc (.cells #[.int .i64 5, .int .i64 0, .string ⟨#[]⟩, .slice c6 n6 g6, .slice u6 n6 v6] 30 (0, 0))) := (Below.refl _ _).alloc (Nat.le_refl _) _
  have h6 : (w5.alloc (.cells #[.int .i64 5, .int .i64 0, .string ⟨#[]⟩, .slice c6 n6 g6, .slice u6 n6 v6] 30 (0, 0))).heap[w5.heap.size]? = some (.cells #[.int .i64 5, .int .i64 0, .string ⟨#[]⟩, .slice c6 n6 g6, .slice u6 n6 v6] 30 (0, 0)) := vheap_new _ _
  have s5 : (w5.alloc (.cells #[.int .i64 5, .int .i64 0, .string ⟨#[]⟩, .slice c6 n6 g6, .slice u6 n6 v6] 30 (0, 0))).heap.size = w5.heap.size + 1 := by simp
  obtain ⟨f0, f1, f2, f3, f4⟩ := cells5 (box_stays h45 x5)
  go_wp2_with fail
  obtain ⟨wc, hwc⟩ : ∃ wc, wc = w5.alloc (.cells #[.int .i64 5, .int .i64 0, .string ⟨#[]⟩, .slice c6 n6 g6, .slice u6 n6 v6] 30 (0, 0)) := ⟨_, rfl⟩
  rw [← hwc] at x5 h6 s5 f0 f1 f2 f3 f4
  rw [← hwc]
  clear hwc
  have kc := k5.trans (x5.mono k5.size)
  have st : StV w.heap.size w3.heap.size w4.heap.size w5.heap.size w2.heap.size w3.heap.size wa.heap.size w4.heap.size wb.heap.size w5.heap.size (.cells #[.string d.name, .slice x0 d.uses.length y0, .slice x1 d.needs.length y1, .slice x2 d.cmds.length y2] 36 (0, 0)) (.cells #[.int .i64 5, .int .i64 0, .string ⟨#[]⟩, .slice c4 n4 g4, .slice u4 n4 v4] 30 (0, 0)) (.cells #[.string d.name, .slice p0 d.uses.length q0, .slice p1 d.needs.length q1, .slice p2 d.cmds.length q2] 42 (0, 0)) (.cells #[.int .i64 5, .int .i64 0, .string ⟨#[]⟩, .slice c6 n6 g6, .slice u6 n6 v6] 30 (0, 0)) (.slice c4 n4 g4) (.slice u4 n4 v4) (.slice c6 n6 g6) (.slice u6 n6 v6) [.string d.name, .slice p0 d.uses.length q0, .slice p1 d.needs.length q1, .slice p2 d.cmds.length q2] d wc := ⟨box_stays hA5 x5, box_stays h45 x5, box_stays h55 x5, h6, V5.below x5, P5.below x5, W5.below x5⟩
  clear hA5 h45 h55 h6 V5 P5 W5 x5
  go_at_call 11
  refine (eqValL _ _ _ _ d _ _ _ _ _ _ _ _ _ _ wc st.v6 st.v4 HWT.out).mono ?_
  rintro e w6 ⟨rfl, b6⟩
  have k6 := kc.trans (b6.mono kc.size)
  have st6 := st.below b6
  have m6 := b6.size
  clear st b6 f0 f1 f2 f3 f4
  have h0 : Below w6.heap.size w6 w6.drew := (Below.refl _ _).drew
  have KEEP : Hid (∀ W, Below w6.heap.size w6 W → W.cell? ⟨w4.heap.size, 0, none⟩ = some (.string d.name) ∧ W.cell? ⟨w4.heap.size, 1, none⟩ = some (.slice p0 d.uses.length q0) ∧ W.cell? ⟨w4.heap.size, 2, none⟩ = some (.slice p1 d.needs.length q1) ∧ W.cell? ⟨w4.heap.size, 3, none⟩ = some (.slice p2 d.cmds.length q2) ∧ W.cell? ⟨w.heap.size, 0, none⟩ = some (.string d.name) ∧ W.cell? ⟨w.heap.size, 1, none⟩ = some (.slice x0 d.uses.length y0) ∧ W.cell? ⟨w.heap.size, 2, none⟩ = some (.slice x1 d.needs.length y1) ∧ W.cell? ⟨w.heap.size, 3, none⟩ = some (.slice x2 d.cmds.length y2)) := fun W h => by
    have t := st6.below h
    obtain ⟨i0, i1, i2, i3⟩ := cells4 t.b5
    obtain ⟨j0, j1, j2, j3⟩ := cells4 t.b1
    exact ⟨i0, i1, i2, i3, j0, j1, j2, j3⟩
  go_wp2_with fail
  refine wp_region_held_drew (S := (fun W => W.cell? ⟨w4.heap.size, 0, none⟩ = some (.string d.name) ∧ W.cell? ⟨w4.heap.size, 1, none⟩ = some (.slice p0 d.uses.length q0) ∧ W.cell? ⟨w4.heap.size, 2, none⟩ = some (.slice p1 d.needs.length q1) ∧ W.cell? ⟨w4.heap.size, 3, none⟩ = some (.slice p2 d.cmds.length q2) ∧ W.cell? ⟨w.heap.size, 0, none⟩ = some (.string d.name) ∧ W.cell? ⟨w.heap.size, 1, none⟩ = some (.slice x0 d.uses.length y0) ∧ W.cell? ⟨w.heap.size, 2, none⟩ = some (.slice x1 d.needs.length y1) ∧ W.cell? ⟨w.heap.size, 3, none⟩ = some (.slice x2 d.cmds.length y2))) (by kernel_rfl) ?SR10 (fun hHeld => ?_)
  case SR10 => (first | (with_reducible exact KEEP.out _ h2) | (with_reducible exact KEEP.out _ h1) | (with_reducible exact KEEP.out _ h0))
  refine wpAnyH_take (i := 0) (oi := _) (v := ?vR10) rfl (by kernel_rfl) (by kernel_rfl) (by kernel_rfl) (fun _ _ _ h => h) (Or.inl ⟨by rfl, ?yR10⟩) hHeld ?_
  case yR10 => (intro w hSw; (try dsimp only at hSw); go_simp <;> with_reducible rfl)
  try simp only [Act.put, List.getElem_toArray, List.getElem_cons_zero, List.getElem_cons_succ, List.setIfInBounds_toArray, List.set_cons_zero, List.set_cons_succ]
  refine wpAnyH_take (i := 1) (oi := _) (v := ?vR11) rfl (by kernel_rfl) (by kernel_rfl) (by kernel_rfl) (fun _ _ _ h => h) (Or.inl ⟨by rfl, ?yR11⟩) hHeld ?_
  case yR11 => (intro w hSw; (try dsimp only at hSw); go_simp <;> with_reducible rfl)
  try simp only [Act.put, List.getElem_toArray, List.getElem_cons_zero, List.getElem_cons_succ, List.setIfInBounds_toArray, List.set_cons_zero, List.set_cons_succ]
  refine wpAnyH_ready (rs := [2]) (by kernel_rfl) (by simp) ?_
  refine AllReadyH.cons rfl (fun K hK => ?_) AllReadyH.nil
  go_simp
  go_wp2_with (go_at_call 14; refine (HT.out _ (k6.trans (h0.mono k6.size))).mono ?_; rintro e w7 ⟨s0, t0, s1, t1, s2, t2, rfl, P7, b7⟩; have h1 : Below w6.heap.size w6 w7 := h0.trans (b7.mono h0.size))
  clear hHeld
  refine hK.out _ _ ?SR13 (fun hHeld => ?_)
  case SR13 => ((try dsimp only); first | (with_reducible exact KEEP.out _ h2) | (with_reducible exact KEEP.out _ h1) | (with_reducible exact KEEP.out _ h0))
  clear hK K
  refine wpAnyH_ready (rs := [3]) (by kernel_rfl) (by simp) ?_
  refine AllReadyH.cons rfl (fun K hK => ?_) AllReadyH.nil
  go_simp
  go_wp2_with (go_at_call 16; refine (eqPackL _ _ _ _ d _ _ _ _ _ _ _ _ _ _ _ _ w7 (st6.below h1).p5 P7 HWT.out).mono ?_; rintro e w8 ⟨rfl, b8⟩; have h2 : Below w6.heap.size w6 w8 := h1.trans (b8.mono h1.size))
  clear hHeld
  refine hK.out _ _ ?SR14 (fun hHeld => ?_)
  case SR14 => ((try dsimp only); first | (with_reducible exact KEEP.out _ h2) | (with_reducible exact KEEP.out _ h1) | (with_reducible exact KEEP.out _ h0))
  clear hK K
  refine wpAnyH_take (i := 4) (oi := _) (v := ?vR14) rfl (by kernel_rfl) (by kernel_rfl) (by kernel_rfl) (fun _ _ _ h => h) (Or.inl ⟨by rfl, ?yR14⟩) hHeld ?_
  case yR14 => (intro w hSw; (try dsimp only at hSw); go_simp <;> with_reducible rfl)
  try simp only [Act.put, List.getElem_toArray, List.getElem_cons_zero, List.getElem_cons_succ, List.setIfInBounds_toArray, List.set_cons_zero, List.set_cons_succ]
  refine wpAnyH_done (by kernel_rfl) ?_ _
  have k8 := k6.trans (h2.mono k6.size)
  have st8 := st6.below h2
  have m8 := h2.size
  clear st6 KEEP h0 h1 h2 P7 b7 b8 hHeld
  obtain ⟨i0, i1, i2, i3⟩ := cells4 st8.b5
  go_wp2_with fail
  go_at_call 17
  refine (markPackL _ _ d _ _ _ _ _ _ w8 st8.p5 HWT.out).mono ?_
  rintro e w9 ⟨qq, rfl, ch9⟩
  have k9 := below_chgV k8 ch9 (fun b hb => by have := hb.1; omega) k8.size
  have b19 := (ch9.block _ (Array.getElem?_eq_some_iff.1 st8.b1).1 (fun h => by have := h.1; omega)).trans st8.b1
  have b49 := (ch9.block _ (Array.getElem?_eq_some_iff.1 st8.b4).1 (fun h => by have := h.1; omega)).trans st8.b4
  have b69 := (ch9.block _ (Array.getElem?_eq_some_iff.1 st8.b6).1 (fun h => by have := h.2; omega)).trans st8.b6
  have v49 := st8.v4.chg ch9 (fun b _ hb h => by have := h.1; omega)
  have v69 := st8.v6.chg ch9 (fun b hb _ h => by have := h.2; omega)
  have m9 := ch9.size
  have hq0 : ¬ (qq : Int) < 0 := by omega
  clear st8 ch9 i0 i1 i2 i3
  obtain ⟨f0, f1, f2, f3, f4⟩ := cells5 b49
  obtain ⟨i0, i1, i2, i3, i4⟩ := cells5 b69
  go_wp2_with fail
  go_at_call 11
  refine (eqValL _ _ _ _ d _ _ _ _ _ _ _ _ _ _ w9 v69 v49 HWT.out).mono ?_
  rintro e w10 ⟨rfl, b10⟩
  have k10 := k9.trans (b10.mono k9.size)
  have b1a := box_stays b19 b10
  have b4a := box_stays b49 b10
  have b6a := box_stays b69 b10
  have v4a := v49.below b10
  have v6a := v69.below b10
  have m10 := b10.size
  clear b19 b49 b69 v49 v69 b10 f0 f1 f2 f3 f4 i0 i1 i2 i3 i4
  obtain ⟨i0, i1, i2, i3, i4⟩ := cells5 b6a
  go_wp2_with fail
  go_at_call 18
  refine (HMV.out w10 _ _ _ _ _ _ _ v6a).mono ?_
  rintro e w11 ⟨rfl, ⟨DM, mk11, hDM⟩, ch11⟩
  have k11 := below_chgV k10 ch11 (fun b hb => by have := hb.1; omega) k10.size
  have b1b := (ch11.block _ (Array.getElem?_eq_some_iff.1 b1a).1 (fun h => by have := h.1; omega)).trans b1a
  have b4b := (ch11.block _ (Array.getElem?_eq_some_iff.1 b4a).1 (fun h => by have := h.1; omega)).trans b4a
  have b6b := (ch11.block _ (Array.getElem?_eq_some_iff.1 b6a).1 (fun h => by have := h.2; omega)).trans b6a
  have v4b := v4a.chg ch11 (fun b _ hb h => by have := h.1; omega)
  have m11 := ch11.size
  clear b1a b4a b6a v4a v6a ch11 i0 i1 i2 i3 i4 HMV
  obtain ⟨i0, i1, i2, i3, i4⟩ := cells5 b6b
  go_wp2_with fail
  go_at_call 19
  refine (HHV.out w11 DM _ _ _ _ _ mk11 (fun b hb => by have := hDM b hb; omega)).mono ?_
  rintro e w12 ⟨rfl, b12⟩
  have k12 := k11.trans (b12.mono k11.size)
  have b1c := box_stays b1b b12
  have b4c := box_stays b4b b12
  have b6c := box_stays b6b b12
  have v4c := v4b.below b12
  have mk12 := mk11.keep (Kp.of b12 (fun b hb => by have := hDM b hb; omega))
  have m12 := b12.size
  clear b1b b4b b6b v4b mk11 b12 i0 i1 i2 i3 i4
  obtain ⟨a0, a1, a2, a3⟩ := cells4 b1c
  go_wp2_with fail
  go_at_call 14
  refine (HT.out _ k12).mono ?_
  rintro e w13 ⟨s0, t0, s1, t1, s2, t2, rfl, P13, b13⟩
  have k13 := k12.trans (b13.mono k12.size)
  have b4d := box_stays b4c b13
  have b6d := box_stays b6c b13
  have v4d := v4c.below b13
  have mk13 := mk12.keep (Kp.of b13 (fun b hb => by have := hDM b hb; omega))
  have m13 := b13.size
  clear b1c b4c b6c v4c mk12 b13 a0 a1 a2 a3 HT
  go_wp2_with fail
  go_at_call 15
  refine (implPackL _ _ d _ _ _ _ _ _ w13 P13 HWT.out).mono ?_
  rintro e w14 ⟨nA, cA, gA, uA, vA, rfl, V14, b14⟩
  have k14 := k13.trans (b14.mono k13.size)
  have b4e := box_stays b4d b14
  have b6e := box_stays b6d b14
  have v4e := v4d.below b14
  have mk14 := mk13.keep (Kp.of b14 (fun b hb => by have := hDM b hb; omega))
  have m14 := b14.size
  clear b4d b6d v4d mk13 b14 P13
  have x14 : Below w14.heap.size w14 (w14.alloc (.cells #[.int .i64 5, .int .i64 0, .string ⟨#[]⟩, .slice cA nA gA, .slice uA nA vA] 30 (0, 0))) := (Below.refl _ _).alloc (Nat.le_refl _) _
  obtain ⟨f0, f1, f2, f3, f4⟩ := cells5 (box_stays b4e x14)
  go_wp2_with fail
  obtain ⟨wd, hwd⟩ : ∃ wd, wd = w14.alloc (.cells #[.int .i64 5, .int .i64 0, .string ⟨#[]⟩, .slice cA nA gA, .slice uA nA vA] 30 (0, 0)) := ⟨_, rfl⟩
  rw [← hwd] at x14 f0 f1 f2 f3 f4
  rw [← hwd]
  clear hwd
  have kd := k14.trans (x14.mono k14.size)
  have b6f := box_stays b6e x14
  have v4f := v4e.below x14
  have V15 := V14.below x14
  have mk15 := mk14.keep (Kp.of x14 (fun b hb => by have := hDM b hb; omega))
  have m15 := x14.size
  clear b4e b6e v4e mk14 V14 x14
  go_at_call 11
  refine (eqValL _ _ _ _ d _ _ _ _ _ _ _ _ _ _ wd V15 v4f HWT.out).mono ?_
  rintro e w16 ⟨rfl, b16⟩
  have k16 := kd.trans (b16.mono kd.size)
  have b6g := box_stays b6f b16
  have mk16 := mk15.keep (Kp.of b16 (fun b hb => by have := hDM b hb; omega))
  have m16 := b16.size
  clear b6f v4f V15 mk15 b16 f0 f1 f2 f3 f4
  obtain ⟨i0, i1, i2, i3, i4⟩ := cells5 b6g
  go_wp2_with fail
  go_at_call 19
  refine (HHV.out w16 DM _ _ _ _ _ mk16 (fun b hb => by have := hDM b hb; omega)).mono ?_
  rintro e w17 ⟨rfl, b17⟩
  have k17 := k16.trans (b17.mono k16.size)
  go_wp2_with fail
  go_ret
  exact ⟨rfl, k17⟩
end Go.Proofs.Ytbolphjigjpmiaa
