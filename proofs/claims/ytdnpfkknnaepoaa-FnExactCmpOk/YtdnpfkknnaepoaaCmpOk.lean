/-
  At every Cmp and version that come in, the program answers CmpOk as the specification does, and what came in reads as it did; no condition.
-/
import Derived.Test.YtdnpfkknnaepoaaRows
import Derived.WalkKit
import Derived.Test.YtdnpfkknnaepoaaRgA
import Derived.Test.YtdnpfkknnaepoaaRgB
import Derived.Test.YtdnpfkknnaepoaaOpenC
import Derived.ProofKit
import Derived.OpenShut
import Derived.ShutString
import Derived.SliceStrings
import Derived.ChangeOld
import Derived.Below
namespace Go.Proofs.Ytdnpfkknnaepoaa.fnExactCmpOk
open Go.ChangeShapes Go.WideShapes Go.ChangeAt Go.RowKit
open Go.ChangeMaps (open_string shut_string)
set_option linter.unusedVariables false
set_option linter.unusedSimpArgs false

theorem own : ownKnob Try.prog.godebug = none := by kernel_rfl
theorem laidOut : laidOutB Try.prog = true := by kernel_rfl

theorem addr_add (b off i : Nat) : ((⟨b, off, none⟩ : Addr).add i) = ⟨b, off + i, none⟩ := by unfold Addr.add; split <;> simp_all
theorem reads_mk {w : World} {x : Addr} {len cap : Nat} {xs : List Value} (hl : xs.length = len) (hc : len ≤ cap) (hcell : ∀ i (h : i < xs.length), w.cell? (x.add i) = some xs[i]) : Reads w (.slice (some x) len cap) xs := by
  subst hl
  by_cases h0 : xs.length = 0
  · exact ⟨some x, cap, rfl, hc, .inl (List.eq_nil_of_length_eq_zero h0)⟩
  · obtain ⟨b, off, spot⟩ := x
    have hc0 := hcell 0 (by omega)
    have hspot : spot = none := by simpa [Addr.add] using World.cell?_spot hc0
    subst hspot
    refine ⟨some ⟨b, off, none⟩, cap, rfl, hc, .inr ⟨b, off, rfl, ?_, fun i hi => ?_⟩⟩
    · rw [addr_add] at hc0; exact World.block_lt_of_cell? w _ hc0
    · have := hcell i hi; rw [addr_add] at this; exact this

set_option maxHeartbeats 4000000 in
set_option maxRecDepth 100000 in
theorem walk (xo0 xa0 xb0 xc0 : Int) (u0 : Value) (z0 : List ByteArray) (xa1 xb1 xc1 : Int) (u1 : Value) (z1 : List ByteArray) (w : World) (r0 : Reads w u0 (strsV z0)) (s0 : saneP z0) (r1 : Reads w u1 (strsV z1)) (s1 : saneP z1) :
    Calls Try.prog 5 #[.agg #[.int .i64 xo0, .int .i64 xa0, .int .i64 xb0, .int .i64 xc0, u0], .agg #[.int .i64 xa1, .int .i64 xb1, .int .i64 xc1, u1]] w fun e w' => e = .returned (.bool true) ∧ Below w.heap.size w w' := by
  have hrw : ∀ w1, Below w.heap.size w w1 → Reads w1 u0 (strsV z0) ∧ Reads w1 u1 (strsV z1) := fun w1 h1 => ⟨r0.below h1, r1.below h1⟩
  have HZ0 : Hid (∀ w1, Below w.heap.size w w1 → Calls Try.prog 22 #[.agg #[.int .i64 xo0, .int .i64 xa0, .int .i64 xb0, .int .i64 xc0, u0], .int .i64 1048576] w1 fun e w' => e = .returned (.int .i64 (leftS z0 1048576)) ∧ Below w1.heap.size w1 w') := fun w1 h1 => szCmp_c _ _ _ _ _ z0 _ (by omega) (by omega) w1 (hrw w1 h1).1 s0
  have HZ1 : Hid (∀ p, 0 ≤ p → p ≤ 1048576 → ∀ w1, Below w.heap.size w w1 → Calls Try.prog 23 #[.agg #[.int .i64 xa1, .int .i64 xb1, .int .i64 xc1, u1], .int .i64 p] w1 fun e w' => e = .returned (.int .i64 (leftS z1 p)) ∧ Below w1.heap.size w1 w') := fun p h0 h1 w1 hw => szVer_c _ _ _ _ z1 _ h0 h1 w1 (hrw w1 hw).2 s1
  obtain ⟨q0, cap0, hq0, _, _⟩ := reads_strs r0
  obtain ⟨q1, cap1, hq1, _, _⟩ := reads_strs r1
  subst hq0 hq1
  have hb2 : ∀ o o', Below w.heap.size w ((w.alloc o).alloc o') := fun o o' => ((Below.refl _ _).alloc (Nat.le_refl _) _).alloc (by simp) _
  have hs2 : ∀ o o', w.heap.size ≤ ((w.alloc o).alloc o').heap.size := fun o o' => (hb2 o o').size
  by_cases hbig : 1048576 < bulkS z0
  · have e1 : leftS z0 1048576 = -1 := by rw [leftS, if_neg (by omega)]
    rw [e1] at HZ0
    clear e1 hrw r0 r1 HZ1
    go_enter Try.func5, Try.ntmps5
    go_wp2_with (go_at_call 22; refine (HZ0.out _ (hb2 _ _)).mono ?_; rintro e w1 ⟨rfl, hb1⟩)
    go_ret
    exact ⟨rfl, (hb2 _ _).trans (hb1.mono (hs2 _ _))⟩
  have hbk0 : bulkS z0 ≤ 1048576 := by omega
  have hn0 : z0.length ≤ 1048576 := by unfold bulkS at hbk0; omega
  obtain ⟨p, hp⟩ : ∃ p, p = leftS z0 1048576 := ⟨_, rfl⟩
  rw [← hp] at HZ0
  have hp1 : p ≤ 1048576 := by rw [hp, leftS, if_pos (by omega)]; omega
  have hp0 : 0 ≤ p := by rw [hp, leftS, if_pos (by omega)]; omega
  have HZ1 : Hid (∀ w1, Below w.heap.size w w1 → Calls Try.prog 23 #[.agg #[.int .i64 xa1, .int .i64 xb1, .int .i64 xc1, .slice q1 z1.length cap1], .int .i64 p] w1 fun e w' => e = .returned (.int .i64 (leftS z1 p)) ∧ Below w1.heap.size w1 w') := HZ1.out p hp0 hp1
  clear hp
  by_cases hbig1 : p < (bulkS z1 : Int)
  · have e1 : leftS z1 p = -1 := by rw [leftS, if_neg (by omega)]
    rw [e1] at HZ1
    clear e1 hrw r0 r1
    go_enter Try.func5, Try.ntmps5
    go_wp2_with fail
    go_at_call 22
    refine (HZ0.out _ (hb2 _ _)).mono ?_
    rintro e w1 ⟨rfl, hb1⟩
    obtain ⟨A0, B0⟩ := five_four w 44 42 (.int .i64 xo0) (.int .i64 xa0) (.int .i64 xb0) (.int .i64 xc0) (.slice q0 z0.length cap0) (.int .i64 xa1) (.int .i64 xb1) (.int .i64 xc1) (.slice q1 z1.length cap1)
    have A1 := A0.keep hb1
    have B1 := B0.keep hb1
    obtain ⟨x0, x1, x2, x3, x4⟩ := A1.cells; obtain ⟨y0, y1, y2, y3⟩ := B1.cells
    have hw1 := (hb2 _ _).trans (hb1.mono (hs2 _ _))
    go_wp2_with (go_at_call 23; refine (HZ1.out w1 hw1).mono ?_; rintro e w2 ⟨rfl, bb2⟩)
    go_ret
    exact ⟨rfl, hw1.trans (bb2.mono hw1.size)⟩
  have hbk1 : bulkS z1 ≤ 1048576 := by omega
  have hn1 : z1.length ≤ 1048576 := by unfold bulkS at hbk1; omega
  obtain ⟨pp, hpp⟩ : ∃ pp, pp = leftS z1 p := ⟨_, rfl⟩
  rw [← hpp] at HZ1
  have hpp0 : 0 ≤ pp := by rw [hpp, leftS, if_pos (by omega)]; omega
  clear hpp
  have HT0 : Hid (∀ w1, Below w.heap.size w w1 → Calls Try.prog 25 #[.agg #[.int .i64 xo0, .int .i64 xa0, .int .i64 xb0, .int .i64 xc0, .slice q0 z0.length cap0]] w1 fun e w' => ∃ g, e = .returned (.agg #[.int .i64 xo0, .int .i64 xa0, .int .i64 xb0, .int .i64 xc0, .slice (some ⟨g, 0, none⟩) z0.length z0.length]) ∧ Reads w' (.slice (some ⟨g, 0, none⟩) z0.length z0.length) (strsV z0) ∧ Below w1.heap.size w1 w') := fun w1 h1 => (toCmp_o _ _ _ _ _ z0 w1 (hrw w1 h1).1 hn0).mono fun e w' ⟨g, h, o, b⟩ => ⟨g, h, reads_of_owns o, b⟩
  have HT1 : Hid (∀ w1, Below w.heap.size w w1 → Calls Try.prog 26 #[.agg #[.int .i64 xa1, .int .i64 xb1, .int .i64 xc1, .slice q1 z1.length cap1]] w1 fun e w' => ∃ g, e = .returned (.agg #[.int .i64 xa1, .int .i64 xb1, .int .i64 xc1, .slice (some ⟨g, 0, none⟩) z1.length z1.length]) ∧ Reads w' (.slice (some ⟨g, 0, none⟩) z1.length z1.length) (strsV z1) ∧ Below w1.heap.size w1 w') := fun w1 h1 => toVer_c _ _ _ _ z1 w1 (hrw w1 h1).2 hn1
  clear hrw r0 r1
  go_enter Try.func5, Try.ntmps5
  go_wp2_with fail
  go_at_call 22
  refine (HZ0.out _ (hb2 _ _)).mono ?_
  rintro e w1 ⟨rfl, hb1⟩
  obtain ⟨A0, B0⟩ := five_four w 44 42 (.int .i64 xo0) (.int .i64 xa0) (.int .i64 xb0) (.int .i64 xc0) (.slice q0 z0.length cap0) (.int .i64 xa1) (.int .i64 xb1) (.int .i64 xc1) (.slice q1 z1.length cap1)
  have A1 := A0.keep hb1
  have B1 := B0.keep hb1
  obtain ⟨x0, x1, x2, x3, x4⟩ := A1.cells; obtain ⟨y0, y1, y2, y3⟩ := B1.cells
  have hw1 := (hb2 _ _).trans (hb1.mono (hs2 _ _))
  clear A0 B0 hb1
  go_wp2_with fail
  go_at_call 23
  refine (HZ1.out w1 hw1).mono ?_
  rintro e w2 ⟨rfl, bb2⟩
  have A2 := A1.keep bb2
  have B2 := B1.keep bb2
  clear x0 x1 x2 x3 x4 y0 y1 y2 y3
  obtain ⟨x0, x1, x2, x3, x4⟩ := A2.cells; obtain ⟨y0, y1, y2, y3⟩ := B2.cells
  have hw2 := hw1.trans (bb2.mono hw1.size)
  clear A1 B1 bb2 hw1 HZ0 HZ1
  go_wp2_with fail
  have HT0a := HT0.out w2.drew hw2.drew
  have HR : Hid (∀ w1 g g', Reads w1 (.slice (some ⟨g, 0, none⟩) z0.length z0.length) (strsV z0) → Reads w1 (.slice (some ⟨g', 0, none⟩) z1.length z1.length) (strsV z1) → Calls Try.prog 24 #[.agg #[.int .i64 xo0, .int .i64 xa0, .int .i64 xb0, .int .i64 xc0, .slice (some ⟨g, 0, none⟩) z0.length z0.length], .agg #[.int .i64 xa1, .int .i64 xb1, .int .i64 xc1, .slice (some ⟨g', 0, none⟩) z1.length z1.length]] w1 fun e w' => e = .returned (.bool (cmpB xo0 xa0 xb0 xc0 z0 xa1 xb1 xc1 z1)) ∧ Below w1.heap.size w1 w') := fun w1 g g' h h' => specCmpOk_c _ _ _ _ _ z0 _ _ _ _ z1 w1 h h' hbk0 hbk1
  go_region_held (fun w' => w'.cell? ⟨w.heap.size, 0, none⟩ = some (.int .i64 xo0) ∧ w'.cell? ⟨w.heap.size, 1, none⟩ = some (.int .i64 xa0) ∧ w'.cell? ⟨w.heap.size, 2, none⟩ = some (.int .i64 xb0) ∧ w'.cell? ⟨w.heap.size, 3, none⟩ = some (.int .i64 xc0) ∧ w'.cell? ⟨w.heap.size, 4, none⟩ = some (.slice q0 z0.length cap0) ∧ w'.cell? ⟨w.heap.size + 1, 0, none⟩ = some (.int .i64 xa1) ∧ w'.cell? ⟨w.heap.size + 1, 1, none⟩ = some (.int .i64 xb1) ∧ w'.cell? ⟨w.heap.size + 1, 2, none⟩ = some (.int .i64 xc1) ∧ w'.cell? ⟨w.heap.size + 1, 3, none⟩ = some (.slice q1 z1.length cap1)) (go_keep) (first
    | (go_at_call 25
       refine HT0a.mono ?_
       rintro e w3 ⟨g3, rfl, hX3, b3⟩
       have A3 := A2.drew.keep b3
       have B3 := B2.drew.keep b3
       obtain ⟨xx0, xx1, xx2, xx3, xx4⟩ := A3.cells
       obtain ⟨yy0, yy1, yy2, yy3⟩ := B3.cells
       have hw3 := hw2.drew.trans (b3.mono hw2.size)
       have HT1a := HT1.out w3 hw3
       clear HT0a b3 A2 B2)
    | (go_at_call 26
       refine HT1a.mono ?_
       rintro e w4 ⟨g4, rfl, hX4, b4⟩
       have A4 := A3.keep b4
       have B4 := B3.keep b4
       have hX3' := hX3.below b4
       obtain ⟨xv0, xv1, xv2, xv3, xv4⟩ := A4.cells
       obtain ⟨yv0, yv1, yv2, yv3⟩ := B4.cells
       have hw4 := hw3.trans (b4.mono hw3.size)
       clear HT1a b4 A3 B3 hX3)
    | (go_at_call 24
       refine (HR.out w4 g3 g4 hX3' hX4).mono ?_
       rintro e w5 ⟨rfl, b5⟩
       have A5 := A4.keep b5
       have B5 := B4.keep b5
       obtain ⟨xu0, xu1, xu2, xu3, xu4⟩ := A5.cells
       obtain ⟨yu0, yu1, yu2, yu3⟩ := B5.cells
       have hw5 := hw4.trans (b5.mono hw4.size)
       clear b5 A4 B4))
  clear x0 x1 x2 x3 x4 y0 y1 y2 y3
  go_wp2_with fail
  go_at_call 25
  refine (HT0.out w5 hw5).mono ?_
  rintro e w6 ⟨g6, rfl, hX6, b6⟩
  have A6 := A5.keep b6
  have B6 := B5.keep b6
  obtain ⟨xt0, xt1, xt2, xt3, xt4⟩ := A6.cells
  obtain ⟨yt0, yt1, yt2, yt3⟩ := B6.cells
  have hw6 := hw5.trans (b6.mono hw5.size)
  have la6 := A6.lt
  have lb6 := B6.lt
  clear b6 A5 B5 hX3' hX4 HR
  go_wp2_with fail
  go_at_call 26
  have kA : Below w6.heap.size w6 (w6.alloc (.cells #[.int .i64 xo0, .int .i64 xa0, .int .i64 xb0, .int .i64 xc0, .slice (some ⟨g6, 0, none⟩) z0.length z0.length] 49)) := (Below.refl _ _).alloc (Nat.le_refl _) _
  have C7 := five_new w6 49 (.int .i64 xo0) (.int .i64 xa0) (.int .i64 xb0) (.int .i64 xc0) (.slice (some ⟨g6, 0, none⟩) z0.length z0.length)
  refine (HT1.out _ (hw6.trans (kA.mono hw6.size))).mono ?_
  rintro e w7 ⟨g7, rfl, hX7, b7⟩
  have A7 := (A6.keep kA).keep b7
  have B7 := (B6.keep kA).keep b7
  have C8 := C7.keep b7
  have hX67 := (hX6.below kA).below b7
  have hw7 := (hw6.trans (kA.mono hw6.size)).trans (b7.mono (hw6.trans (kA.mono hw6.size)).size)
  obtain ⟨xs0, xs1, xs2, xs3, xs4⟩ := A7.cells
  obtain ⟨ys0, ys1, ys2, ys3⟩ := B7.cells
  obtain ⟨cs0, cs1, cs2, cs3, cs4⟩ := C8.cells
  have la7 := A7.lt
  have lb7 := B7.lt
  have lc7 := C8.lt
  obtain ⟨N6, hN6⟩ : ∃ N6, N6 = w6.heap.size := ⟨_, rfl⟩
  rw [← hN6] at C8 cs0 cs1 cs2 cs3 cs4 lc7 la6 lb6 ⊢
  clear b7 A6 B6 C7 hX6 kA hN6
  go_wp2_with fail
  go_at_call 27
  have kB : Below w7.heap.size w7 (w7.alloc (.cells #[.int .i64 xa1, .int .i64 xb1, .int .i64 xc1, .slice (some ⟨g7, 0, none⟩) z1.length z1.length] 26)) := (Below.refl _ _).alloc (Nat.le_refl _) _
  have D8 := four_new w7 26 (.int .i64 xa1) (.int .i64 xb1) (.int .i64 xc1) (.slice (some ⟨g7, 0, none⟩) z1.length z1.length)
  have HI : Hid (∀ w1 g g', Reads w1 (.slice (some ⟨g, 0, none⟩) z0.length z0.length) (strsV z0) → Reads w1 (.slice (some ⟨g', 0, none⟩) z1.length z1.length) (strsV z1) → Calls Try.prog 27 #[.agg #[.int .i64 xo0, .int .i64 xa0, .int .i64 xb0, .int .i64 xc0, .slice (some ⟨g, 0, none⟩) z0.length z0.length], .agg #[.int .i64 xa1, .int .i64 xb1, .int .i64 xc1, .slice (some ⟨g', 0, none⟩) z1.length z1.length]] w1 fun e w' => e = .returned (.bool (cmpB xo0 xa0 xb0 xc0 z0 xa1 xb1 xc1 z1)) ∧ Below w1.heap.size w1 w') := fun w1 g g' h h' => implCmpOk_c _ _ _ _ _ z0 _ _ _ _ z1 w1 h h' hbk0 hbk1
  refine (HI.out _ g6 g7 (hX67.below kB) (hX7.below kB)).mono ?_
  rintro e w8 ⟨rfl, b8⟩
  have A8 := (A7.keep kB).keep b8
  have B8 := (B7.keep kB).keep b8
  have C9 := (C8.keep kB).keep b8
  have D9 := D8.keep b8
  have hX68 := (hX67.below kB).below b8
  have hX78 := (hX7.below kB).below b8
  have hw8 := (hw7.trans (kB.mono hw7.size)).trans (b8.mono (hw7.trans (kB.mono hw7.size)).size)
  obtain ⟨N7, hN7⟩ : ∃ N7, N7 = w7.heap.size := ⟨_, rfl⟩
  rw [← hN7] at D9 ⊢
  clear b8 A7 B7 C8 D8 hX67 hX7 kB hN7 HI
  obtain ⟨RR, hRR⟩ : ∃ r, r = (cmpB xo0 xa0 xb0 xc0 z0 xa1 xb1 xc1 z1) := ⟨_, rfl⟩
  rw [← hRR]
  clear hRR
  obtain ⟨xr0, xr1, xr2, xr3, xr4⟩ := A8.cells
  obtain ⟨yr0, yr1, yr2, yr3⟩ := B8.cells
  obtain ⟨cr0, cr1, cr2, cr3, cr4⟩ := C9.cells
  obtain ⟨dr0, dr1, dr2, dr3⟩ := D9.cells
  have HT8 := HT0.out w8.drew hw8.drew
  have HE0 : Hid (∀ w1 g g', Reads w1 (.slice (some ⟨g, 0, none⟩) z0.length z0.length) (strsV z0) → Reads w1 (.slice (some ⟨g', 0, none⟩) z0.length z0.length) (strsV z0) → Calls Try.prog 28 #[.agg #[.int .i64 xo0, .int .i64 xa0, .int .i64 xb0, .int .i64 xc0, .slice (some ⟨g, 0, none⟩) z0.length z0.length], .agg #[.int .i64 xo0, .int .i64 xa0, .int .i64 xb0, .int .i64 xc0, .slice (some ⟨g', 0, none⟩) z0.length z0.length]] w1 fun e w' => e = .returned (.bool true) ∧ Below w1.heap.size w1 w') := fun w1 g g' h h' => eqCmp_c _ _ _ _ _ _ z0 w1 h h' hn0
  have HE1 : Hid (∀ w1 g g', Reads w1 (.slice (some ⟨g, 0, none⟩) z1.length z1.length) (strsV z1) → Reads w1 (.slice (some ⟨g', 0, none⟩) z1.length z1.length) (strsV z1) → Calls Try.prog 29 #[.agg #[.int .i64 xa1, .int .i64 xb1, .int .i64 xc1, .slice (some ⟨g, 0, none⟩) z1.length z1.length], .agg #[.int .i64 xa1, .int .i64 xb1, .int .i64 xc1, .slice (some ⟨g', 0, none⟩) z1.length z1.length]] w1 fun e w' => e = .returned (.bool true) ∧ Below w1.heap.size w1 w') := fun w1 g g' h h' => eqVer_c _ _ _ _ _ z1 w1 h h' hn1
  cases RR
  all_goals (
    go_wp2_with fail
    go_region_held (fun w' => w'.cell? ⟨w.heap.size, 0, none⟩ = some (.int .i64 xo0) ∧ w'.cell? ⟨w.heap.size, 1, none⟩ = some (.int .i64 xa0) ∧ w'.cell? ⟨w.heap.size, 2, none⟩ = some (.int .i64 xb0) ∧ w'.cell? ⟨w.heap.size, 3, none⟩ = some (.int .i64 xc0) ∧ w'.cell? ⟨w.heap.size, 4, none⟩ = some (.slice q0 z0.length cap0) ∧ w'.cell? ⟨N6, 0, none⟩ = some (.int .i64 xo0) ∧ w'.cell? ⟨N6, 1, none⟩ = some (.int .i64 xa0) ∧ w'.cell? ⟨N6, 2, none⟩ = some (.int .i64 xb0) ∧ w'.cell? ⟨N6, 3, none⟩ = some (.int .i64 xc0) ∧ w'.cell? ⟨N6, 4, none⟩ = some (.slice (some ⟨g6, 0, none⟩) z0.length z0.length)) (go_keep) (first
      | (go_at_call 25
         refine HT8.mono ?_
         rintro e w9 ⟨g9, rfl, hX9, b9⟩
         have A10 := A8.drew.keep b9
         have B10 := B8.drew.keep b9
         have C10 := C9.drew.keep b9
         have D10 := D9.drew.keep b9
         have hX69 := hX68.below ((Below.refl _ _).drew.trans (b9.mono (Nat.le_refl _)))
         have hX79 := hX78.below ((Below.refl _ _).drew.trans (b9.mono (Nat.le_refl _)))
         obtain ⟨xq0, xq1, xq2, xq3, xq4⟩ := A10.cells
         obtain ⟨cq0, cq1, cq2, cq3, cq4⟩ := C10.cells
         have hw9 := hw8.drew.trans (b9.mono hw8.size)
         clear HT8 b9 A8 B8 C9 D9 hX68 hX78)
      | (go_at_call 28
         refine (HE0.out w9 g6 g9 hX69 hX9).mono ?_
         rintro e wA ⟨rfl, bA⟩
         have A11 := A10.keep bA
         have B11 := B10.keep bA
         have C11 := C10.keep bA
         have D11 := D10.keep bA
         have hX7A := hX79.below bA
         obtain ⟨xo0, xo1, xo2, xo3, xo4⟩ := A11.cells
         obtain ⟨co0, co1, co2, co3, co4⟩ := C11.cells
         have hwA := hw9.trans (bA.mono hw9.size)
         clear bA A10 B10 C10 D10 hX69 hX9 hX79))
    obtain ⟨yo0, yo1, yo2, yo3⟩ := B11.cells
    obtain ⟨do0, do1, do2, do3⟩ := D11.cells
    have HTA := HT1.out wA.drew hwA.drew
    go_wp2_with fail
    go_region_held (fun w' => w'.cell? ⟨w.heap.size + 1, 0, none⟩ = some (.int .i64 xa1) ∧ w'.cell? ⟨w.heap.size + 1, 1, none⟩ = some (.int .i64 xb1) ∧ w'.cell? ⟨w.heap.size + 1, 2, none⟩ = some (.int .i64 xc1) ∧ w'.cell? ⟨w.heap.size + 1, 3, none⟩ = some (.slice q1 z1.length cap1) ∧ w'.cell? ⟨N7, 0, none⟩ = some (.int .i64 xa1) ∧ w'.cell? ⟨N7, 1, none⟩ = some (.int .i64 xb1) ∧ w'.cell? ⟨N7, 2, none⟩ = some (.int .i64 xc1) ∧ w'.cell? ⟨N7, 3, none⟩ = some (.slice (some ⟨g7, 0, none⟩) z1.length z1.length)) (go_keep) (first
      | (go_at_call 26
         refine HTA.mono ?_
         rintro e wB ⟨gB, rfl, hXB, bB⟩
         have B12 := B11.drew.keep bB
         have D12 := D11.drew.keep bB
         have hX7B := hX7A.below ((Below.refl _ _).drew.trans (bB.mono (Nat.le_refl _)))
         obtain ⟨yn0, yn1, yn2, yn3⟩ := B12.cells
         obtain ⟨dn0, dn1, dn2, dn3⟩ := D12.cells
         have hwB := hwA.drew.trans (bB.mono hwA.size)
         clear HTA bB)
      | (go_at_call 29
         refine (HE1.out wB g7 gB hX7B hXB).mono ?_
         rintro e wC ⟨rfl, bC⟩
         have B13 := B12.keep bC
         have D13 := D12.keep bC
         obtain ⟨ym0, ym1, ym2, ym3⟩ := B13.cells
         obtain ⟨dm0, dm1, dm2, dm3⟩ := D13.cells
         have hwC := hwB.trans (bC.mono hwB.size)))
    go_wp2_with fail
    go_ret
    exact ⟨rfl, hwC⟩)

set_option maxRecDepth 100000 in
theorem lifted (os : Os) (started : os.Started) (H : Type) (enc : TypeId × Value → H) :
    ReturnsInHanded {} Try.checked os 5 .any (Rows.fnExactCmpOkSpec.pre6 enc Try.prog Try.f5 Rows.fnExactCmpOkRow.domain false) (Rows.fnExactCmpOkSpec.post enc Try.prog Try.f5 false true false false) := by
  refine returnsInHanded_of_change (C := Try.checked) own started (by kernel_rfl) Try.func5
    (ChangeSpec.witness6 (enc := enc) (C := Try.checked) false ⟨#[], #[.agg #[.int .i64 0, .int .i64 0, .int .i64 0, .int .i64 0, .slice none 0 0], .agg #[.int .i64 0, .int .i64 0, .int .i64 0, .slice none 0 0]], []⟩ 8 (by kernel_rfl) (by kernel_rfl) (by kernel_rfl) (by kernel_rfl)) ?_
  intro W base args ds gs before hval0 hW hcnd _
  have hval : ∀ (j : Nat) t v, Try.f5.params[j]? = some t → args[j]? = some v → Value.okWide Try.prog W .any base t v := hval0
  have hW' := hW
  obtain ⟨p, q, hA0, hV, rfl, hfz, hnd⟩ := hW
  have hA : DataW.TrodAll enc Try.prog W 0 (fun _ => true) true Try.f5.params.toList args.toList ds p := hA0
  rw [Try.params5] at hA hval
  obtain ⟨v0, vs0, d0, ds0, p0, q0, hargs, rfl, rfl, h0, r0⟩ := trodAll_cons hA
  obtain ⟨v1, vs1, d1, ds1, p1, q1, rfl, rfl, rfl, h1, r1⟩ := trodAll_cons r0
  obtain ⟨rfl, rfl, rfl⟩ := trodAll_nil r1
  obtain rfl : args = #[v0, v1] := by cases args; simp_all
  obtain ⟨rfl, rfl⟩ := trodVars_none hV
  obtain ⟨cs0, rfl, _⟩ := okWide_struct Try.underlying44 (hval 0 44 v0 rfl rfl)
  have k0 := h0
  have lt0 : ∀ x ∈ p0, x.block < W.heap.size := by obtain ⟨m, hm⟩ := k0; exact DataW.trod_lt m _ _ _ hm
  obtain ⟨xo0, xa0, xb0, xc0, u0, z0, hcs0, t0, s0⟩ : ∃ o a b c u ps, cs0.toList = [.int .i64 o, .int .i64 a, .int .i64 b, .int .i64 c, u] ∧ Reads W u (strsV ps) ∧ saneP ps := by
    obtain ⟨fuel, hf⟩ := h0
    exact cmp_of_trod fuel _ _ hf
  obtain rfl : cs0 = #[.int .i64 xo0, .int .i64 xa0, .int .i64 xb0, .int .i64 xc0, u0] := by cases cs0; simp_all
  obtain ⟨cs1, rfl, _⟩ := okWide_struct Try.underlying42 (hval 1 42 v1 rfl rfl)
  have k1 := h1
  have lt1 : ∀ x ∈ p1, x.block < W.heap.size := by obtain ⟨m, hm⟩ := k1; exact DataW.trod_lt m _ _ _ hm
  obtain ⟨xa1, xb1, xc1, u1, z1, hcs1, t1, s1⟩ : ∃ a b c u ps, cs1.toList = [.int .i64 a, .int .i64 b, .int .i64 c, u] ∧ Reads W u (strsV ps) ∧ saneP ps := by
    obtain ⟨fuel, hf⟩ := h1
    exact ver_of_trod fuel _ _ hf
  obtain rfl : cs1 = #[.int .i64 xa1, .int .i64 xb1, .int .i64 xc1, u1] := by cases cs1; simp_all
  clear hA0 hval0
  refine (walk _ _ _ _ _ z0 _ _ _ _ z1 W t0 s0 t1 s1).mono fun e W' ⟨he, bel⟩ => ?_
  subst he
  exact ⟨_, rfl, _, _, _, [], _, [], hW', trodAll_mk1 (shut_bool Try.underlying4 _), (trodAll_cons_mk (Below.trod laidOut (by kernel_rfl) (of_decide_eq_true (by kernel_rfl)) k0 bel lt0) (trodAll_cons_mk (Below.trod laidOut (by kernel_rfl) (of_decide_eq_true (by kernel_rfl)) k1 bel lt1) trodAll_mk0)), rfl, bel.frame _, fun h => by cases h⟩

theorem over : Rows.fnExactCmpOkRow.holds Try.pinned (OpenSpec.ofChange Rows.fnExactCmpOkSpec) :=
  OpenClaim.holds_of_wide 5 Try.f5 rfl rfl rfl rfl rfl rfl rfl ⟨rfl, rfl, rfl, rfl, rfl⟩ rfl rfl rfl rfl rfl (by kernel_rfl) Try.func5 (by kernel_rfl)
    (of_decide_eq_true (by kernel_rfl)) (by unfold Func.isWrapper; first | (rw [if_pos (by decide +kernel)]; kernel_rfl) | (rw [if_neg (by decide +kernel)]; exact ⟨rfl, rfl⟩))
    (fun os started H enc _ => lifted os started H enc)

theorem proved : Rows.FnExactCmpOkSaid := over
end Go.Proofs.Ytdnpfkknnaepoaa.fnExactCmpOk
namespace Go.Proofs.Ytdnpfkknnaepoaa
theorem fnExactCmpOk_holds : Rows.FnExactCmpOkSaid := fnExactCmpOk.proved
#print axioms fnExactCmpOk_holds
end Go.Proofs.Ytdnpfkknnaepoaa
