/-
  At every range and version that come in, the program answers InRange as the specification does, and what came in reads as it did; no condition.
-/
import Derived.Test.YtdnpfkknnaepoaaRows
import Derived.WalkKit
import Derived.Test.YtdnpfkknnaepoaaRgD
import Derived.Test.YtdnpfkknnaepoaaRgE
import Derived.Test.YtdnpfkknnaepoaaRgF
import Derived.Test.YtdnpfkknnaepoaaRgH
import Derived.Test.YtdnpfkknnaepoaaRgI
import Derived.Test.YtdnpfkknnaepoaaOpenR
import Derived.ProofKit
import Derived.OpenShut
import Derived.ShutString
import Derived.SliceStrings
import Derived.ChangeOld
import Derived.Below
namespace Go.Proofs.Ytdnpfkknnaepoaa.fnExactInRange
open Go.ChangeShapes Go.WideShapes Go.ChangeAt Go.RowKit
open Go.ChangeMaps (open_string shut_string)
set_option linter.unusedVariables false
set_option linter.unusedSimpArgs false

theorem own : ownKnob Try.prog.godebug = none := by kernel_rfl
theorem laidOut : laidOutB Try.prog = true := by kernel_rfl

theorem addr_add (b off i : Nat) : ((⟨b, off, none⟩ : Addr).add i) = ⟨b, off + i, none⟩ := by unfold Addr.add; split <;> simp_all
theorem reads_mk {w : World} {x : Addr} {len cap : Nat} {xs : List Value} (hl : xs.length = len) (hc : len ≤ cap) (hcell : ∀ i (h : i < xs.length), w.cell? (x.add i) = some xs[i]) : Reads w (.slice (some x) len cap) xs := by
  subst hl
  by_cases h0 : xs.length = 0
  · exact ⟨some x, cap, rfl, hc, .inl (List.eq_nil_of_length_eq_zero h0)⟩
  · obtain ⟨b, off, spot⟩ := x
    have hc0 := hcell 0 (by omega)
    have hspot : spot = none := by simpa [Addr.add] using World.cell?_spot hc0
    subst hspot
    refine ⟨some ⟨b, off, none⟩, cap, rfl, hc, .inr ⟨b, off, rfl, ?_, fun i hi => ?_⟩⟩
    · rw [addr_add] at hc0; exact World.block_lt_of_cell? w _ hc0
    · have := hcell i hi; rw [addr_add] at this; exact this

set_option maxHeartbeats 4000000 in
set_option maxRecDepth 100000 in
theorem walk (a0 : Value) (z0 : List (List CmpD)) (xa1 xb1 xc1 : Int) (u1 : Value) (z1 : List ByteArray) (w : World) (r0 : RangeIn (· < w.heap.size) w a0 z0) (r1 : Reads w u1 (strsV z1)) (s1 : saneP z1) :
    Calls Try.prog 6 #[a0, .agg #[.int .i64 xa1, .int .i64 xb1, .int .i64 xc1, u1]] w fun e w' => e = .returned (.bool true) ∧ Below w.heap.size w w' := by
  have hbx : ∀ o, Below w.heap.size w (w.alloc o) := fun o => (Below.refl _ _).alloc (Nat.le_refl _) _
  have hS : ∀ w1, Below w.heap.size w w1 → ∀ b, b < w.heap.size → b < w1.heap.size := fun w1 h b hb => Nat.lt_of_lt_of_le hb h.size
  have hr0 : ∀ w1, Below w.heap.size w w1 → RangeIn (· < w.heap.size) w1 a0 z0 := fun w1 h => r0.keep (.of h (fun b hb => hb))
  have HZ0 : Hid (∀ w1, Below w.heap.size w w1 → Calls Try.prog 30 #[a0, .int .i64 1048576] w1 fun e w' => e = .returned (.int .i64 (leftW (wtR z0) 1048576)) ∧ Below w1.heap.size w1 w') := fun w1 h => szCmpSS_c _ a0 z0 _ (by omega) (by omega) w1 (hr0 w1 h) (hS w1 h)
  have HZ1 : Hid (∀ p, 0 ≤ p → p ≤ 1048576 → ∀ w1, Below w.heap.size w w1 → Calls Try.prog 23 #[.agg #[.int .i64 xa1, .int .i64 xb1, .int .i64 xc1, u1], .int .i64 p] w1 fun e w' => e = .returned (.int .i64 (leftS z1 p)) ∧ Below w1.heap.size w1 w') := fun p h0 h1 w1 hw => szVer_c _ _ _ _ z1 _ h0 h1 w1 (r1.below hw) s1
  have hr1 : ∀ w1, Below w.heap.size w w1 → Reads w1 u1 (strsV z1) := fun w1 h => r1.below h
  obtain ⟨q1, cap1, hq1, _, _⟩ := reads_strs r1
  subst hq1
  have A0 := four_new w 42 (.int .i64 xa1) (.int .i64 xb1) (.int .i64 xc1) (.slice q1 z1.length cap1)
  by_cases hbig : 1048576 < wtR z0
  · have e1 : leftW (wtR z0) 1048576 = -1 := leftW_bad (by omega)
    rw [e1] at HZ0
    obtain ⟨q0, cap0, hq0, _⟩ := id r0
    subst hq0
    clear e1 hr0 hr1 r0 r1 HZ1
    go_enter Try.func6, Try.ntmps6
    go_wp2_with (go_at_call 30; refine (HZ0.out _ (hbx _)).mono ?_; rintro e w1 ⟨rfl, hb1⟩)
    go_ret
    exact ⟨rfl, (hbx _).trans (hb1.mono (by simp))⟩
  have hwt : wtR z0 ≤ 1048576 := by omega
  have HT0 : Hid (∀ w1, Below w.heap.size w w1 → Calls Try.prog 32 #[a0] w1 fun e w' => ∃ g, e = .returned (.slice (some ⟨g, 0, none⟩) z0.length z0.length) ∧ RangeIn (Ow w1.heap.size w'.heap.size) w' (.slice (some ⟨g, 0, none⟩) z0.length z0.length) z0 ∧ Below w1.heap.size w1 w') := fun w1 h => toCmpSS_c _ a0 z0 w1 (hr0 w1 h) (hS w1 h) hwt
  obtain ⟨p, hp⟩ : ∃ p, p = leftW (wtR z0) 1048576 := ⟨_, rfl⟩
  rw [← hp] at HZ0
  have hp1 : p ≤ 1048576 := by rw [hp, leftW_good (by omega)]; omega
  have hp0 : 0 ≤ p := by rw [hp, leftW_good (by omega)]; omega
  have HZ1 : Hid (∀ w1, Below w.heap.size w w1 → Calls Try.prog 23 #[.agg #[.int .i64 xa1, .int .i64 xb1, .int .i64 xc1, .slice q1 z1.length cap1], .int .i64 p] w1 fun e w' => e = .returned (.int .i64 (leftS z1 p)) ∧ Below w1.heap.size w1 w') := HZ1.out p hp0 hp1
  obtain ⟨q0, cap0, hq0, _⟩ := id r0
  subst hq0
  clear hp hr0 r0
  by_cases hbig1 : p < (bulkS z1 : Int)
  · have e1 : leftS z1 p = -1 := by rw [leftS, if_neg (by omega)]
    rw [e1] at HZ1
    clear e1 hr1 r1 HT0
    go_enter Try.func6, Try.ntmps6
    go_wp2_with (first
      | (go_at_call 30; refine (HZ0.out _ (hbx _)).mono ?_; rintro e w1 ⟨rfl, hb1⟩; have A1 := A0.keep hb1; obtain ⟨x0, x1, x2, x3⟩ := A1.cells; have hw1 := (hbx (.cells #[.int .i64 xa1, .int .i64 xb1, .int .i64 xc1, .slice q1 z1.length cap1] 42)).trans (hb1.mono (by simp)))
      | (go_at_call 23; refine (HZ1.out w1 hw1).mono ?_; rintro e w2 ⟨rfl, hb2⟩))
    go_ret
    exact ⟨rfl, hw1.trans (hb2.mono hw1.size)⟩
  have hbk1 : bulkS z1 ≤ 1048576 := by omega
  have hn1 : z1.length ≤ 1048576 := by unfold bulkS at hbk1; omega
  obtain ⟨pp, hpp⟩ : ∃ pp, pp = leftS z1 p := ⟨_, rfl⟩
  rw [← hpp] at HZ1
  have hpp0 : 0 ≤ pp := by rw [hpp, leftS, if_pos (by omega)]; omega
  clear hpp
  have HT1 : Hid (∀ w1, Below w.heap.size w w1 → Calls Try.prog 26 #[.agg #[.int .i64 xa1, .int .i64 xb1, .int .i64 xc1, .slice q1 z1.length cap1]] w1 fun e w' => ∃ g, e = .returned (.agg #[.int .i64 xa1, .int .i64 xb1, .int .i64 xc1, .slice (some ⟨g, 0, none⟩) z1.length z1.length]) ∧ Reads w' (.slice (some ⟨g, 0, none⟩) z1.length z1.length) (strsV z1) ∧ Below w1.heap.size w1 w') := fun w1 h1 => toVer_c _ _ _ _ z1 w1 (hr1 w1 h1) hn1
  obtain ⟨RR, hRR⟩ : ∃ r, r = inRB xa1 xb1 xc1 z1 z0 := ⟨_, rfl⟩
  have HR : Hid (∀ w1 S' g g', RangeIn S' w1 (.slice (some ⟨g, 0, none⟩) z0.length z0.length) z0 → (∀ b, S' b → b < w1.heap.size) → Reads w1 (.slice (some ⟨g', 0, none⟩) z1.length z1.length) (strsV z1) → Calls Try.prog 31 #[.slice (some ⟨g, 0, none⟩) z0.length z0.length, .agg #[.int .i64 xa1, .int .i64 xb1, .int .i64 xc1, .slice (some ⟨g', 0, none⟩) z1.length z1.length]] w1 fun e w' => e = .returned (.bool RR) ∧ Below w1.heap.size w1 w') := fun w1 S' g g' h hs h' => by rw [hRR]; exact specInRange_c S' _ z0 _ _ _ _ z1 w1 h hs hwt h' hbk1
  have HI : Hid (∀ w1 S' g g', RangeIn S' w1 (.slice (some ⟨g, 0, none⟩) z0.length z0.length) z0 → (∀ b, S' b → b < w1.heap.size) → Reads w1 (.slice (some ⟨g', 0, none⟩) z1.length z1.length) (strsV z1) → Calls Try.prog 33 #[.slice (some ⟨g, 0, none⟩) z0.length z0.length, .agg #[.int .i64 xa1, .int .i64 xb1, .int .i64 xc1, .slice (some ⟨g', 0, none⟩) z1.length z1.length]] w1 fun e w' => e = .returned (.bool RR) ∧ Below w1.heap.size w1 w') := fun w1 S' g g' h hs h' => by rw [hRR]; exact implInRange_c S' _ z0 _ _ _ _ z1 w1 h hs hwt h' hbk1
  have HE0 : Hid (∀ w1 S' S'' g g', RangeIn S' w1 (.slice (some ⟨g, 0, none⟩) z0.length z0.length) z0 → RangeIn S'' w1 (.slice (some ⟨g', 0, none⟩) z0.length z0.length) z0 → (∀ b, S' b → b < w1.heap.size) → (∀ b, S'' b → b < w1.heap.size) → Calls Try.prog 34 #[.slice (some ⟨g, 0, none⟩) z0.length z0.length, .slice (some ⟨g', 0, none⟩) z0.length z0.length] w1 fun e w' => e = .returned (.bool true) ∧ Below w1.heap.size w1 w') := fun w1 S' S'' g g' h h' hs hs' => eqCmpSS_c S' S'' _ _ z0 w1 h h' hs hs' hwt
  have HE1 : Hid (∀ w1 g g', Reads w1 (.slice (some ⟨g, 0, none⟩) z1.length z1.length) (strsV z1) → Reads w1 (.slice (some ⟨g', 0, none⟩) z1.length z1.length) (strsV z1) → Calls Try.prog 29 #[.agg #[.int .i64 xa1, .int .i64 xb1, .int .i64 xc1, .slice (some ⟨g, 0, none⟩) z1.length z1.length], .agg #[.int .i64 xa1, .int .i64 xb1, .int .i64 xc1, .slice (some ⟨g', 0, none⟩) z1.length z1.length]] w1 fun e w' => e = .returned (.bool true) ∧ Below w1.heap.size w1 w') := fun w1 g g' h h' => eqVer_c _ _ _ _ _ z1 w1 h h' hn1
  clear hRR hr1 r1
  go_enter Try.func6, Try.ntmps6
  go_wp2_with (first
    | (go_at_call 30; refine (HZ0.out _ (hbx _)).mono ?_; rintro e w1 ⟨rfl, hb1⟩; have A1 := A0.keep hb1; obtain ⟨x0, x1, x2, x3⟩ := A1.cells; have hw1 := (hbx (.cells #[.int .i64 xa1, .int .i64 xb1, .int .i64 xc1, .slice q1 z1.length cap1] 42)).trans (hb1.mono (by simp)))
    | (go_at_call 23; refine (HZ1.out w1 hw1).mono ?_; rintro e w2 ⟨rfl, hb2⟩; have A2 := A1.keep hb2; have hw2 := hw1.trans (hb2.mono hw1.size)))
  clear x0 x1 x2 x3 A0 A1 hb1 hb2 hw1
  refine wp_region_held_drew (S := (fun w' => w'.cell? ⟨w.heap.size, 0, none⟩ = some (.int .i64 xa1) ∧ w'.cell? ⟨w.heap.size, 1, none⟩ = some (.int .i64 xb1) ∧ w'.cell? ⟨w.heap.size, 2, none⟩ = some (.int .i64 xc1) ∧ w'.cell? ⟨w.heap.size, 3, none⟩ = some (.slice q1 z1.length cap1))) (by kernel_rfl) ?SR10 (fun hHeld => ?_)
  case SR10 => (first | exact A2.drew.cells | exact A3.cells | exact A4.cells | exact A5.cells)
  refine wpAnyH_take (i := 0) (oi := _) (v := ?vR10) rfl (by kernel_rfl) (by kernel_rfl) (by kernel_rfl) (fun _ _ _ h => h) (Or.inl ⟨by rfl, ?yR10⟩) hHeld ?_
  case yR10 => (intro w hSw; (try dsimp only at hSw); go_simp <;> with_reducible rfl)
  try simp only [Act.put, List.getElem_toArray, List.getElem_cons_zero, List.getElem_cons_succ, List.setIfInBounds_toArray, List.set_cons_zero, List.set_cons_succ]
  refine wpAnyH_take (i := 2) (oi := _) (v := ?vR11) rfl (by kernel_rfl) (by kernel_rfl) (by kernel_rfl) (fun _ _ _ h => h) (Or.inl ⟨by rfl, ?yR11⟩) hHeld ?_
  case yR11 => (intro w hSw; (try dsimp only at hSw); go_simp <;> with_reducible rfl)
  try simp only [Act.put, List.getElem_toArray, List.getElem_cons_zero, List.getElem_cons_succ, List.setIfInBounds_toArray, List.set_cons_zero, List.set_cons_succ]
  refine wpAnyH_ready (rs := [1]) (by kernel_rfl) (by simp) ?_
  refine AllReadyH.cons rfl (fun K hK => ?_) AllReadyH.nil
  go_simp
  go_wp2_with (go_at_call 32; refine (HT0.out _ hw2.drew).mono ?_; rintro e w3 ⟨g3, rfl, hX3, b3⟩; have A3 := A2.drew.keep b3; have hw3 := hw2.drew.trans (b3.mono hw2.size))
  clear hHeld
  refine hK.out _ _ ?SR13 (fun hHeld => ?_)
  case SR13 => ((try dsimp only); first | exact A2.drew.cells | exact A3.cells | exact A4.cells | exact A5.cells)
  clear hK K
  refine wpAnyH_ready (rs := [3]) (by kernel_rfl) (by simp) ?_
  refine AllReadyH.cons rfl (fun K hK => ?_) AllReadyH.nil
  go_simp
  go_wp2_with (go_at_call 26; refine (HT1.out _ hw3).mono ?_; rintro e w4 ⟨g4, rfl, hX4, b4⟩; have A4 := A3.keep b4; have hX34 := hX3.keep (Ow.below b4); have hS34 : ∀ b, Ow w2.drew.heap.size w3.heap.size b → b < w4.heap.size := (fun b hb => Nat.lt_of_lt_of_le hb.2 b4.size); have hw4 := hw3.trans (b4.mono hw3.size))
  clear hHeld
  refine hK.out _ _ ?SR14 (fun hHeld => ?_)
  case SR14 => ((try dsimp only); first | exact A2.drew.cells | exact A3.cells | exact A4.cells | exact A5.cells)
  clear hK K
  refine wpAnyH_ready (rs := [4]) (by kernel_rfl) (by simp) ?_
  refine AllReadyH.cons rfl (fun K hK => ?_) AllReadyH.nil
  go_simp
  go_wp2_with (go_at_call 31; refine (HR.out w4 _ g3 g4 hX34 hS34 hX4).mono ?_; rintro e w5 ⟨rfl, b5⟩; have A5 := A4.keep b5; have hw5 := hw4.trans (b5.mono hw4.size))
  clear hHeld
  refine hK.out _ _ ?SR15 (fun hHeld => ?_)
  case SR15 => ((try dsimp only); first | exact A2.drew.cells | exact A3.cells | exact A4.cells | exact A5.cells)
  clear hK K
  refine wpAnyH_take (i := 5) (oi := _) (v := ?vR15) rfl (by kernel_rfl) (by kernel_rfl) (by kernel_rfl) (fun _ _ _ h => h) (Or.inl ⟨by rfl, ?yR15⟩) hHeld ?_
  case yR15 => (intro w hSw; (try dsimp only at hSw); go_simp <;> with_reducible rfl)
  try simp only [Act.put, List.getElem_toArray, List.getElem_cons_zero, List.getElem_cons_succ, List.setIfInBounds_toArray, List.set_cons_zero, List.set_cons_succ]
  refine wpAnyH_done (by kernel_rfl) ?_ _
  clear hX3 hX34 hS34 hX4 b3 b4 b5 A2 A3 A4 HR hw2 hw3 hw4 hHeld
  obtain ⟨x0, x1, x2, x3⟩ := A5.cells
  go_wp2_with fail
  go_at_call 32
  refine (HT0.out w5 hw5).mono ?_
  rintro e w6 ⟨g6, rfl, hX6, b6⟩
  have A6 := A5.keep b6
  have hw6 := hw5.trans (b6.mono hw5.size)
  have hS6 : ∀ w1, Below w6.heap.size w6 w1 → ∀ b, Ow w5.heap.size w6.heap.size b → b < w1.heap.size := fun w1 h b hb => Nat.lt_of_lt_of_le hb.2 h.size
  have hK6 : Hid (∀ w1, Below w6.heap.size w6 w1 → RangeIn (Ow w5.heap.size w6.heap.size) w1 (.slice (some ⟨g6, 0, none⟩) z0.length z0.length) z0) := fun w1 h => hX6.keep (Ow.below h)
  have hK6S : Hid (∀ w1, Below w6.heap.size w6 w1 → ∀ b, Ow w5.heap.size w6.heap.size b → b < w1.heap.size) := hS6
  clear x0 x1 x2 x3 A5 b6 hX6 hS6
  obtain ⟨x0, x1, x2, x3⟩ := A6.cells
  go_wp2_with fail
  go_at_call 26
  refine (HT1.out w6 hw6).mono ?_
  rintro e w7 ⟨g7, rfl, hX7, b7⟩
  have A7 := A6.keep b7
  have hw7 := hw6.trans (b7.mono hw6.size)
  clear x0 x1 x2 x3 A6
  obtain ⟨x0, x1, x2, x3⟩ := A7.cells
  have kB : Below w7.heap.size w7 (w7.alloc (.cells #[.int .i64 xa1, .int .i64 xb1, .int .i64 xc1, .slice (some ⟨g7, 0, none⟩) z1.length z1.length] 26)) := (Below.refl _ _).alloc (Nat.le_refl _) _
  have D7 := four_new w7 26 (.int .i64 xa1) (.int .i64 xb1) (.int .i64 xc1) (.slice (some ⟨g7, 0, none⟩) z1.length z1.length)
  have kB6 := b7.trans (kB.mono b7.size)
  go_wp2_with fail
  go_at_call 33
  refine (HI.out _ _ g6 g7 (hK6.out _ kB6) (hK6S.out _ kB6) (hX7.below kB)).mono ?_
  rintro e w8 ⟨rfl, b8⟩
  have A8 := (A7.keep kB).keep b8
  have D8 := D7.keep b8
  have hX78 := (hX7.below kB).below b8
  have k68 := kB6.trans (b8.mono kB6.size)
  have hw8 := hw6.trans (k68.mono hw6.size)
  obtain ⟨N7, hN7⟩ : ∃ N7, N7 = w7.heap.size := ⟨_, rfl⟩
  rw [← hN7] at D8 ⊢
  clear hN7 x0 x1 x2 x3 A7 D7 hX7 b7 b8 kB kB6 hw7
  obtain ⟨x0, x1, x2, x3⟩ := A8.cells
  cases RR
  all_goals (
    go_wp2_with fail
    go_at_call 32
    refine (HT0.out w8 hw8).mono ?_
    rintro e w88 ⟨g8, rfl, hX8, b88⟩
    have A88 := A8.keep b88
    have D88 := D8.keep b88
    have hX788 := hX78.below b88
    have k688 := k68.trans (b88.mono k68.size)
    have hw88 := hw8.trans (b88.mono hw8.size)
    have hS8 : ∀ b, Ow w8.heap.size w88.heap.size b → b < w88.heap.size := fun b hb => hb.2
    have hF6 := hK6.out w88 k688
    have hF6S := hK6S.out w88 k688
    clear x0 x1 x2 x3
    go_wp2_with fail
    go_at_call 34
    refine (HE0.out w88 _ _ g6 g8 hF6 hX8 hF6S hS8).mono ?_
    rintro e w9 ⟨rfl, b9⟩
    have A9 := A88.keep b9
    have D9 := D88.keep b9
    have hX79 := hX788.below b9
    have hw9 := hw88.trans (b9.mono hw88.size)
    clear hF6 hF6S hX8 hS8 b88 b9 A88 D88 hX788 k688
    go_wp2_with fail
    refine wp_region_held_drew (S := (fun w' => w'.cell? ⟨w.heap.size, 0, none⟩ = some (.int .i64 xa1) ∧ w'.cell? ⟨w.heap.size, 1, none⟩ = some (.int .i64 xb1) ∧ w'.cell? ⟨w.heap.size, 2, none⟩ = some (.int .i64 xc1) ∧ w'.cell? ⟨w.heap.size, 3, none⟩ = some (.slice q1 z1.length cap1) ∧ w'.cell? ⟨N7, 0, none⟩ = some (.int .i64 xa1) ∧ w'.cell? ⟨N7, 1, none⟩ = some (.int .i64 xb1) ∧ w'.cell? ⟨N7, 2, none⟩ = some (.int .i64 xc1) ∧ w'.cell? ⟨N7, 3, none⟩ = some (.slice (some ⟨g7, 0, none⟩) z1.length z1.length))) (by kernel_rfl) ?SR20 (fun hHeld => ?_)
    case SR20 => (first | exact ⟨A9.drew.cells.1, A9.drew.cells.2.1, A9.drew.cells.2.2.1, A9.drew.cells.2.2.2, D9.drew.cells⟩ | exact ⟨AA.cells.1, AA.cells.2.1, AA.cells.2.2.1, AA.cells.2.2.2, DA.cells⟩ | exact ⟨AB.cells.1, AB.cells.2.1, AB.cells.2.2.1, AB.cells.2.2.2, DB.cells⟩)
    refine wpAnyH_take (i := 0) (oi := _) (v := ?vR20) rfl (by kernel_rfl) (by kernel_rfl) (by kernel_rfl) (fun _ _ _ h => h) (Or.inl ⟨by rfl, ?yR20⟩) hHeld ?_
    case yR20 => (intro w hSw; (try dsimp only at hSw); go_simp <;> with_reducible rfl)
    try simp only [Act.put, List.getElem_toArray, List.getElem_cons_zero, List.getElem_cons_succ, List.setIfInBounds_toArray, List.set_cons_zero, List.set_cons_succ]
    refine wpAnyH_take (i := 1) (oi := _) (v := ?vR21) rfl (by kernel_rfl) (by kernel_rfl) (by kernel_rfl) (fun _ _ _ h => h) (Or.inl ⟨by rfl, ?yR21⟩) hHeld ?_
    case yR21 => (intro w hSw; (try dsimp only at hSw); go_simp <;> with_reducible rfl)
    try simp only [Act.put, List.getElem_toArray, List.getElem_cons_zero, List.getElem_cons_succ, List.setIfInBounds_toArray, List.set_cons_zero, List.set_cons_succ]
    refine wpAnyH_ready (rs := [2]) (by kernel_rfl) (by simp) ?_
    refine AllReadyH.cons rfl (fun K hK => ?_) AllReadyH.nil
    go_simp
    go_wp2_with (go_at_call 26; refine (HT1.out _ hw9.drew).mono ?_; rintro e wA ⟨gA, rfl, hXA, bA⟩; have AA := A9.drew.keep bA; have DA := D9.drew.keep bA; have hX7A := hX79.below ((Below.refl _ _).drew.trans (bA.mono (Nat.le_refl _))); have hwA := hw9.drew.trans (bA.mono hw9.size))
    clear hHeld
    refine hK.out _ _ ?SR23 (fun hHeld => ?_)
    case SR23 => ((try dsimp only); first | exact ⟨A9.drew.cells.1, A9.drew.cells.2.1, A9.drew.cells.2.2.1, A9.drew.cells.2.2.2, D9.drew.cells⟩ | exact ⟨AA.cells.1, AA.cells.2.1, AA.cells.2.2.1, AA.cells.2.2.2, DA.cells⟩ | exact ⟨AB.cells.1, AB.cells.2.1, AB.cells.2.2.1, AB.cells.2.2.2, DB.cells⟩)
    clear hK K
    refine wpAnyH_ready (rs := [3]) (by kernel_rfl) (by simp) ?_
    refine AllReadyH.cons rfl (fun K hK => ?_) AllReadyH.nil
    go_simp
    go_wp2_with (go_at_call 29; refine (HE1.out wA g7 gA hX7A hXA).mono ?_; rintro e wB ⟨rfl, bB⟩; have AB := AA.keep bB; have DB := DA.keep bB; have hwB := hwA.trans (bB.mono hwA.size))
    clear hHeld
    refine hK.out _ _ ?SR24 (fun hHeld => ?_)
    case SR24 => ((try dsimp only); first | exact ⟨A9.drew.cells.1, A9.drew.cells.2.1, A9.drew.cells.2.2.1, A9.drew.cells.2.2.2, D9.drew.cells⟩ | exact ⟨AA.cells.1, AA.cells.2.1, AA.cells.2.2.1, AA.cells.2.2.2, DA.cells⟩ | exact ⟨AB.cells.1, AB.cells.2.1, AB.cells.2.2.1, AB.cells.2.2.2, DB.cells⟩)
    clear hK K
    refine wpAnyH_take (i := 4) (oi := _) (v := ?vR24) rfl (by kernel_rfl) (by kernel_rfl) (by kernel_rfl) (fun _ _ _ h => h) (Or.inl ⟨by rfl, ?yR24⟩) hHeld ?_
    case yR24 => (intro w hSw; (try dsimp only at hSw); go_simp <;> with_reducible rfl)
    try simp only [Act.put, List.getElem_toArray, List.getElem_cons_zero, List.getElem_cons_succ, List.setIfInBounds_toArray, List.set_cons_zero, List.set_cons_succ]
    refine wpAnyH_done (by kernel_rfl) ?_ _
    go_wp2_with fail
    go_ret
    exact ⟨rfl, hwB⟩)

set_option maxRecDepth 100000 in
theorem lifted (os : Os) (started : os.Started) (H : Type) (enc : TypeId × Value → H) :
    ReturnsInHanded {} Try.checked os 6 .any (Rows.fnExactInRangeSpec.pre6 enc Try.prog Try.f6 Rows.fnExactInRangeRow.domain false) (Rows.fnExactInRangeSpec.post enc Try.prog Try.f6 false true false false) := by
  refine returnsInHanded_of_change (C := Try.checked) own started (by kernel_rfl) Try.func6
    (ChangeSpec.witness6 (enc := enc) (C := Try.checked) false ⟨#[], #[.slice none 0 0, .agg #[.int .i64 0, .int .i64 0, .int .i64 0, .slice none 0 0]], []⟩ 8 (by kernel_rfl) (by kernel_rfl) (by kernel_rfl) (by kernel_rfl)) ?_
  intro W base args ds gs before hval0 hW hcnd _
  have hval : ∀ (j : Nat) t v, Try.f6.params[j]? = some t → args[j]? = some v → Value.okWide Try.prog W .any base t v := hval0
  have hW' := hW
  obtain ⟨p, q, hA0, hV, rfl, hfz, hnd⟩ := hW
  have hA : DataW.TrodAll enc Try.prog W 0 (fun _ => true) true Try.f6.params.toList args.toList ds p := hA0
  rw [Try.params6] at hA hval
  obtain ⟨v0, vs0, d0, ds0, p0, q0, hargs, rfl, rfl, h0, r0⟩ := trodAll_cons hA
  obtain ⟨v1, vs1, d1, ds1, p1, q1, rfl, rfl, rfl, h1, r1⟩ := trodAll_cons r0
  obtain ⟨rfl, rfl, rfl⟩ := trodAll_nil r1
  obtain rfl : args = #[v0, v1] := by cases args; simp_all
  obtain ⟨rfl, rfl⟩ := trodVars_none hV
  obtain ⟨a0, len0, cap0, rfl⟩ := okWide_slice Try.underlying54 (hval 0 54 v0 rfl rfl)
  have k0 := h0
  have lt0 : ∀ x ∈ p0, x.block < W.heap.size := by obtain ⟨m, hm⟩ := k0; exact DataW.trod_lt m _ _ _ hm
  obtain ⟨z0, t0⟩ : ∃ dss, RangeIn (· < W.heap.size) W (.slice a0 len0 cap0) dss := by
    obtain ⟨fuel, hf⟩ := h0
    exact range_of_trod fuel _ _ hf
  obtain ⟨cs1, rfl, _⟩ := okWide_struct Try.underlying42 (hval 1 42 v1 rfl rfl)
  have k1 := h1
  have lt1 : ∀ x ∈ p1, x.block < W.heap.size := by obtain ⟨m, hm⟩ := k1; exact DataW.trod_lt m _ _ _ hm
  obtain ⟨xa1, xb1, xc1, u1, z1, hcs1, t1, s1⟩ : ∃ a b c u ps, cs1.toList = [.int .i64 a, .int .i64 b, .int .i64 c, u] ∧ Reads W u (strsV ps) ∧ saneP ps := by
    obtain ⟨fuel, hf⟩ := h1
    exact ver_of_trod fuel _ _ hf
  obtain rfl : cs1 = #[.int .i64 xa1, .int .i64 xb1, .int .i64 xc1, u1] := by cases cs1; simp_all
  clear hA0 hval0
  refine (walk _ z0 _ _ _ _ z1 W t0 t1 s1).mono fun e W' ⟨he, bel⟩ => ?_
  subst he
  exact ⟨_, rfl, _, _, _, [], _, [], hW', trodAll_mk1 (shut_bool Try.underlying4 _), (trodAll_cons_mk (Below.trod laidOut (by kernel_rfl) (of_decide_eq_true (by kernel_rfl)) k0 bel lt0) (trodAll_cons_mk (Below.trod laidOut (by kernel_rfl) (of_decide_eq_true (by kernel_rfl)) k1 bel lt1) trodAll_mk0)), rfl, bel.frame _, fun h => by cases h⟩

theorem over : Rows.fnExactInRangeRow.holds Try.pinned (OpenSpec.ofChange Rows.fnExactInRangeSpec) :=
  OpenClaim.holds_of_wide 6 Try.f6 rfl rfl rfl rfl rfl rfl rfl ⟨rfl, rfl, rfl, rfl, rfl⟩ rfl rfl rfl rfl rfl (by kernel_rfl) Try.func6 (by kernel_rfl)
    (of_decide_eq_true (by kernel_rfl)) (by unfold Func.isWrapper; first | (rw [if_pos (by decide +kernel)]; kernel_rfl) | (rw [if_neg (by decide +kernel)]; exact ⟨rfl, rfl⟩))
    (fun os started H enc _ => lifted os started H enc)

theorem proved : Rows.FnExactInRangeSaid := over
end Go.Proofs.Ytdnpfkknnaepoaa.fnExactInRange
namespace Go.Proofs.Ytdnpfkknnaepoaa
theorem fnExactInRange_holds : Rows.FnExactInRangeSaid := fnExactInRange.proved
#print axioms fnExactInRange_holds
end Go.Proofs.Ytdnpfkknnaepoaa
