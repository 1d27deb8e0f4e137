/-
  The law on ValText, walked: whatever value comes in, the program and the specification tell the same text, and nothing is written into it; conditions: it lies in memory, and the library's powers of ten are there.
-/
import Derived.Test.YtbolphjigjpmiaaDoorVtG
import Derived.Test.YtbolphjigjpmiaaDoorTreeSz
import Derived.Test.YtbolphjigjpmiaaDoorTreeToL
import Derived.Test.YtbolphjigjpmiaaDoorTreeEq
import Derived.Deep.RegionHeld
namespace Go.Proofs.YtbolphjigjpmiaaDoor
open Go.RowKit
set_option linter.unusedSimpArgs false
set_option linter.unusedVariables false

theorem same_list (X : ByteArray) : (X.toList == X.toList) = true := by simp

set_option maxHeartbeats 8000000 in
set_option maxRecDepth 100000 in
theorem valText_walk (a0 : Value) (z0 : Tree) (w : World) (r0 : Lies (· < w.heap.size) w a0 z0) (htab : Lib.TabIs Tryd.prog w "internal/strconv.uint64pow10" .u64 Lib.pow10Tab) :
    Calls Tryd.prog 3 #[a0] w fun e w' => e = .returned (.bool true) ∧ Below w.heap.size w w' := by
  have hbx : ∀ o, Below w.heap.size w (w.alloc o) := fun o => (Below.refl _ _).alloc (Nat.le_refl _) _
  have HSz : Hid (∀ w1, Below w.heap.size w w1 → Calls Tryd.prog 4 #[a0, .int .i64 1048576] w1 fun e w' => e = .returned (.int .i64 (leftN z0.wt 1048576)) ∧ Below w1.heap.size w1 w') := fun w1 h1 => szVal_all z0 _ a0 w1 1048576 (r0.keep (.of h1 fun _ h => h)) (fun b h => Nat.lt_of_lt_of_le h h1.size) (by omega) (by omega)
  obtain ⟨k, n, s, a, m, cap, a', m', cap', rfl⟩ := r0.parts
  by_cases hbig : (1048576 : Int) < (z0.wt : Int)
  · have e1 : leftN z0.wt 1048576 = -1 := leftN_bad hbig
    rw [e1] at HSz
    clear e1 htab
    go_enter Tryd.func3, Tryd.ntmps3
    go_wp2_with (go_at_call 4; refine (HSz.out _ (hbx _)).mono ?_; rintro e w1 ⟨rfl, hb1⟩)
    go_ret
    exact ⟨rfl, (hbx _).trans (hb1.mono (by simp))⟩
  have hw : z0.wt ≤ 1048576 := by omega
  have HTo : Hid (∀ w1, Below w.heap.size w w1 → Calls Tryd.prog 6 #[.agg #[.int .i64 k, .int .i64 n, .string s, .slice a m cap, .slice a' m' cap']] w1 fun e w' => ∃ x, e = .returned x ∧ Lies (Own w1.heap.size w'.heap.size) w' x z0 ∧ Below w1.heap.size w1 w') := fun w1 h1 => toVal_all z0 _ _ w1 (r0.keep (.of h1 fun _ h => h)) (fun b h => Nat.lt_of_lt_of_le h h1.size) hw
  obtain ⟨p, hp⟩ : ∃ p, p = leftN z0.wt 1048576 := ⟨_, rfl⟩
  rw [← hp] at HSz
  have hp0 : 0 ≤ p := by rw [hp, leftN_good (by omega)]; omega
  obtain ⟨X, hX⟩ : ∃ X, X = vtxt z0 := ⟨_, rfl⟩
  have HSV : Hid (∀ w1 lo v, Lies (Own lo w1.heap.size) w1 v z0 → Calls Tryd.prog 5 #[v] w1 fun e w' => e = .returned (.string X) ∧ Below w1.heap.size w1 w') := fun w1 lo v h => by rw [hX]; exact specValText_c z0 _ v w1 h (fun b h => h.2) hw
  have HIV : Hid (∀ w1 lo hi v, Below w.heap.size w w1 → Lies (Own lo hi) w1 v z0 → hi ≤ w1.heap.size → Calls Tryd.prog 7 #[v] w1 fun e w' => e = .returned (.string X) ∧ Below w1.heap.size w1 w') := fun w1 lo hi v hb h hh => by rw [hX]; exact implValText_c z0 _ v w1 h (fun b h => Nat.lt_of_lt_of_le h.2 hh) hw (tabIs_below hb htab)
  have hXX := same_list X
  clear hp r0 hX htab
  go_enter Tryd.func3, Tryd.ntmps3
  go_wp2_with (go_at_call 4; refine (HSz.out _ (hbx _)).mono ?_; rintro e w1 ⟨rfl, hb1⟩; obtain ⟨x0, x1, x2, x3, x4⟩ := box5 hb1; have hw1 := (hbx _).trans (hb1.mono (by simp)); have hN1 : w.heap.size < w1.heap.size := by (have := hb1.size; simp at this; omega))
  go_at_call 6
  refine (HTo.out w1 hw1).mono ?_
  rintro e w2 ⟨v2, rfl, hX2, b2⟩
  have hw2 := hw1.trans (b2.mono hw1.size)
  go_wp2_with fail
  go_at_call 5
  refine (HSV.out w2 _ v2 hX2).mono ?_
  rintro e w3 ⟨rfl, b3⟩
  have hw3 := hw2.trans (b3.mono hw2.size)
  have b13 : Below w1.heap.size w1 w3 := b2.trans (b3.mono b2.size)
  rw [← b13.cell (p := ⟨w.heap.size, _, none⟩) hN1] at x0 x1 x2 x3 x4
  clear hX2 b2 HSV
  go_wp2_with fail
  go_at_call 6
  refine (HTo.out w3 hw3).mono ?_
  rintro e w4 ⟨v4, rfl, hX4, b4⟩
  obtain ⟨q1, q2, q3, q4, q5, q6, q7, q8, q9, rfl⟩ := hX4.parts
  have hw4 := hw3.trans (b4.mono hw3.size)
  have hN3 : w.heap.size < w3.heap.size := Nat.lt_of_lt_of_le hN1 b13.size
  rw [← b4.cell (p := ⟨w.heap.size, _, none⟩) hN3] at x0 x1 x2 x3 x4
  go_wp2_with fail
  go_at_call 7
  have hA : Below w4.heap.size w4 (w4.alloc (.cells #[.int .i64 q1, .int .i64 q2, .string q3, .slice q4 q5 q6, .slice q7 q8 q9] 30)) := (Below.refl _ _).alloc (Nat.le_refl _) _
  have hXA := hX4.keep (Own.below (lo := w3.heap.size) hA)
  refine (HIV.out _ _ _ _ (hw4.trans (hA.mono hw4.size)) hXA hA.size).mono ?_
  rintro e w5 ⟨rfl, b5⟩
  obtain ⟨y0, y1, y2, y3, y4⟩ := box5 b5
  have hN4 : w.heap.size < w4.heap.size := Nat.lt_of_lt_of_le hN3 b4.size
  have b45 : Below w4.heap.size w4 w5 := hA.trans (b5.mono (by simp))
  have hN5 : w4.heap.size < w5.heap.size := by have := b5.size; simp at this; omega
  rw [← b45.cell (p := ⟨w.heap.size, _, none⟩) hN4] at x0 x1 x2 x3 x4
  have hw5 := hw4.trans (b45.mono hw4.size)
  have hX5 := hX4.keep (Own.below (lo := w3.heap.size) b45)
  have HEq : Hid (∀ w6 lo v6, Below w5.heap.size w5 w6 → Lies (Own lo w6.heap.size) w6 v6 z0 → Calls Tryd.prog 8 #[.agg #[.int .i64 q1, .int .i64 q2, .string q3, .slice q4 q5 q6, .slice q7 q8 q9], v6] w6 fun e w' => e = .returned (.bool true) ∧ Below w6.heap.size w6 w') := fun w6 lo v6 h6 l6 => eqVal_all z0 _ _ _ v6 w6 (hX5.keep (.of h6 fun b h => Nat.lt_of_lt_of_le h.2 b45.size)) l6 (fun b h => Nat.lt_of_lt_of_le h.2 (Nat.le_trans b45.size h6.size)) (fun b h => h.2) hw
  have hN6 : w.heap.size < w5.heap.size := Nat.lt_of_lt_of_le hN4 b45.size
  have KEEP : Hid (∀ W, Below w5.heap.size w5 W → W.cell? ⟨w4.heap.size, 0, none⟩ = some (.int .i64 q1) ∧ W.cell? ⟨w4.heap.size, 1, none⟩ = some (.int .i64 q2) ∧ W.cell? ⟨w4.heap.size, 2, none⟩ = some (.string q3) ∧ W.cell? ⟨w4.heap.size, 3, none⟩ = some (.slice q4 q5 q6) ∧ W.cell? ⟨w4.heap.size, 4, none⟩ = some (.slice q7 q8 q9) ∧ W.cell? ⟨w.heap.size, 0, none⟩ = some (.int .i64 k) ∧ W.cell? ⟨w.heap.size, 1, none⟩ = some (.int .i64 n) ∧ W.cell? ⟨w.heap.size, 2, none⟩ = some (.string s) ∧ W.cell? ⟨w.heap.size, 3, none⟩ = some (.slice a m cap) ∧ W.cell? ⟨w.heap.size, 4, none⟩ = some (.slice a' m' cap')) := fun W h => ⟨(h.cell (p := ⟨w4.heap.size, _, none⟩) hN5).trans y0, (h.cell (p := ⟨w4.heap.size, _, none⟩) hN5).trans y1, (h.cell (p := ⟨w4.heap.size, _, none⟩) hN5).trans y2, (h.cell (p := ⟨w4.heap.size, _, none⟩) hN5).trans y3, (h.cell (p := ⟨w4.heap.size, _, none⟩) hN5).trans y4, (h.cell (p := ⟨w.heap.size, _, none⟩) hN6).trans x0, (h.cell (p := ⟨w.heap.size, _, none⟩) hN6).trans x1, (h.cell (p := ⟨w.heap.size, _, none⟩) hN6).trans x2, (h.cell (p := ⟨w.heap.size, _, none⟩) hN6).trans x3, (h.cell (p := ⟨w.heap.size, _, none⟩) hN6).trans x4⟩
  have h0 : Below w5.heap.size w5 w5.drew := (Below.refl _ _).drew
  clear hX4 hXA hX5 hA b4 b45 b5 b13 b3 hb1 HIV x0 x1 x2 x3 x4 y0 y1 y2 y3 y4
  go_wp2_with fail
  refine wp_region_held_drew (S := (fun W => W.cell? ⟨w4.heap.size, 0, none⟩ = some (.int .i64 q1) ∧ W.cell? ⟨w4.heap.size, 1, none⟩ = some (.int .i64 q2) ∧ W.cell? ⟨w4.heap.size, 2, none⟩ = some (.string q3) ∧ W.cell? ⟨w4.heap.size, 3, none⟩ = some (.slice q4 q5 q6) ∧ W.cell? ⟨w4.heap.size, 4, none⟩ = some (.slice q7 q8 q9) ∧ W.cell? ⟨w.heap.size, 0, none⟩ = some (.int .i64 k) ∧ W.cell? ⟨w.heap.size, 1, none⟩ = some (.int .i64 n) ∧ W.cell? ⟨w.heap.size, 2, none⟩ = some (.string s) ∧ W.cell? ⟨w.heap.size, 3, none⟩ = some (.slice a m cap) ∧ W.cell? ⟨w.heap.size, 4, none⟩ = some (.slice a' m' cap'))) (by kernel_rfl) ?SR10 (fun hHeld => ?_)
  case SR10 => (first | (with_reducible exact KEEP.out _ h2) | (with_reducible exact KEEP.out _ h1) | (with_reducible exact KEEP.out _ h0))
  refine wpAnyH_take (i := 0) (oi := _) (v := ?vR10) rfl (by kernel_rfl) (by kernel_rfl) (by kernel_rfl) (fun _ _ _ h => h) (Or.inl ⟨by rfl, ?yR10⟩) hHeld ?_
  case yR10 => (intro w hSw; (try dsimp only at hSw); go_simp <;> with_reducible rfl)
  try simp only [Act.put, List.getElem_toArray, List.getElem_cons_zero, List.getElem_cons_succ, List.setIfInBounds_toArray, List.set_cons_zero, List.set_cons_succ]
  refine wpAnyH_take (i := 1) (oi := _) (v := ?vR11) rfl (by kernel_rfl) (by kernel_rfl) (by kernel_rfl) (fun _ _ _ h => h) (Or.inl ⟨by rfl, ?yR11⟩) hHeld ?_
  case yR11 => (intro w hSw; (try dsimp only at hSw); go_simp <;> with_reducible rfl)
  try simp only [Act.put, List.getElem_toArray, List.getElem_cons_zero, List.getElem_cons_succ, List.setIfInBounds_toArray, List.set_cons_zero, List.set_cons_succ]
  refine wpAnyH_ready (rs := [2]) (by kernel_rfl) (by simp) ?_
  refine AllReadyH.cons rfl (fun K hK => ?_) AllReadyH.nil
  go_simp
  go_wp2_with (go_at_call 6; refine (HTo.out _ (hw5.trans (h0.mono hw5.size))).mono ?_; rintro e w6 ⟨v6, rfl, hX6, b6⟩; have h1 : Below w5.heap.size w5 w6 := h0.trans (b6.mono h0.size); obtain ⟨p1, p2, p3, p4, p5, p6, p7, p8, p9, hp6⟩ := hX6.parts; subst hp6)
  clear hHeld
  refine hK.out _ _ ?SR13 (fun hHeld => ?_)
  case SR13 => ((try dsimp only); first | (with_reducible exact KEEP.out _ h2) | (with_reducible exact KEEP.out _ h1) | (with_reducible exact KEEP.out _ h0))
  clear hK K
  refine wpAnyH_ready (rs := [3]) (by kernel_rfl) (by simp) ?_
  refine AllReadyH.cons rfl (fun K hK => ?_) AllReadyH.nil
  go_simp
  go_wp2_with (go_at_call 8; refine (HEq.out w6 _ _ h1 hX6).mono ?_; rintro e w7 ⟨rfl, b7⟩; have h2 : Below w5.heap.size w5 w7 := h1.trans (b7.mono h1.size))
  clear hHeld
  refine hK.out _ _ ?SR14 (fun hHeld => ?_)
  case SR14 => ((try dsimp only); first | (with_reducible exact KEEP.out _ h2) | (with_reducible exact KEEP.out _ h1) | (with_reducible exact KEEP.out _ h0))
  clear hK K
  refine wpAnyH_take (i := 4) (oi := _) (v := ?vR14) rfl (by kernel_rfl) (by kernel_rfl) (by kernel_rfl) (fun _ _ _ h => h) (Or.inl ⟨by rfl, ?yR14⟩) hHeld ?_
  case yR14 => (intro w hSw; (try dsimp only at hSw); go_simp <;> with_reducible rfl)
  try simp only [Act.put, List.getElem_toArray, List.getElem_cons_zero, List.getElem_cons_succ, List.setIfInBounds_toArray, List.set_cons_zero, List.set_cons_succ]
  refine wpAnyH_done (by kernel_rfl) ?_ _
  have k7 := hw5.trans (h2.mono hw5.size)
  go_wp2_with fail
  go_ret
  exact ⟨rfl, k7⟩
end Go.Proofs.YtbolphjigjpmiaaDoor
