/-
  Contracts for the walks, several texts in one: each part says what it proves, and under which conditions.
-/
import Derived.Lib.Strings
import Derived.Lib.IndexLaws
import Derived.WalkSpells
import Derived.Shelf.LaysM
import Derived.Shelf.Strconv.Clone
import Derived.Shelf.Sort.Plain
import Derived.Shelf.Slices.Turned
import Derived.Shelf.Slices.Reverse
import Derived.Shelf.Slices.CompactS
import Derived.Shelf.Slices.Cells
import Derived.Shelf.Slices.In.SortNone
import Derived.Test.YtbhedlobiagngaaProg
import Derived.Deep.RegionHeld
import Derived.RangeFuncNested
import Derived.RangeFuncBound
import Derived.RangeFuncCalls
import Derived.RangeFuncLeaves
import Derived.Shelf.Abstract
import Derived.Shelf.RegionOpen
import Derived.WalkKit
import Derived.OwnWalkIn
import Derived.TacticsInMore
import Derived.LoopNIn
import Derived.LoopIn
import Derived.ArgAppend
import Derived.Test.YtbhedlobiagngaaQ1
import Derived.Test.YtbhedlobiagngaaQ3
import Derived.Test.YtbhedlobiagngaaQ2

/-! Copies of needs and commands, and of rows of them, in memory of their own, as the law makes them: contracts for the walks; condition: what is copied holds at most 2 to the 20. -/
namespace Go.Proofs.Ytbhedlobiagngaa
open Go.RowKit
set_option linter.unusedSimpArgs false
set_option linter.unusedVariables false

theorem owns_sliceP {w : World} {lo : Nat} {e : TypeId} {sz n : Nat} {v : Value} {xs : List Value} (hg : w.ownsRow lo e sz v n xs) : ∃ q cap, v = .slice q n cap := by
  rcases hg.2 with ⟨h1, h2⟩ | ⟨g, cap, cur, h1, _⟩
  · exact ⟨none, 0, by rw [h1, h2]⟩
  · exact ⟨_, _, h1⟩
theorem StrsOwn.slice {S : Nat → Prop} {w : World} {u : Value} {ss : List ByteArray} (h : StrsOwn S w u ss) : ∃ q cap, u = .slice q ss.length cap := owns_sliceP h.1
theorem RowOwn.slice {α : Type} {sh : Sh α} {t : TypeId} {S : Nat → Prop} {w : World} {v : Value} {xs : List α} (h : RowOwn sh t S w v xs) : ∃ q cap, v = .slice q xs.length cap := by
  obtain ⟨_, ys, h1, _⟩ := h; exact owns_sliceP h1

set_option maxHeartbeats 2000000 in
set_option maxRecDepth 100000 in
theorem toNeed_c (S : Nat → Prop) (d : NeedD) (cs : List Value) (w : World) (hd : shNeed.lies S w cs d) (hB : ∀ b, S b → b < w.heap.size) (hw : wtNeed d ≤ 1048576) :
    Calls Try.prog 87 #[.agg cs.toArray] w fun e w' => ∃ cs', e = .returned (.agg cs'.toArray) ∧ shNeed.lies (Ow w.heap.size w'.heap.size) w' cs' d ∧ Below w.heap.size w w' := by
  obtain ⟨rfl, s_n, s_r⟩ := hd
  have hb3 : ∀ A R O, Below w.heap.size w (((w.alloc A).alloc R).alloc O) := fun A R O => (((Below.refl _ _).alloc (Nat.le_refl _) _).alloc (by simp) _).alloc (by simp; omega) _
  go_enter Try.func87, Try.ntmps87
  go_wp2_with fail
  refine bodyPost_ret (v := .agg #[.string d.n, .string d.r]) (by simp [results, Try.results87, go_sem]) rfl ⟨_, rfl, ⟨rfl, s_n, s_r⟩, ?_⟩
  exact hb3 _ _ _

set_option maxHeartbeats 2000000 in
set_option maxRecDepth 100000 in
theorem infoNeed : (Try.prog.info? 105).map (fun i => (i.zero, i.size, i.bytes)) = some (some (.agg #[.string ⟨#[]⟩, .string ⟨#[]⟩]), 2, 32) := by kernel_rfl
set_option maxHeartbeats 2000000 in
set_option maxRecDepth 100000 in
theorem toNeedS_c (S : Nat → Prop) (v : Value) (xs : List NeedD) (w : World) (hv : RowIn shNeed S w v xs) (hB : ∀ b, S b → b < w.heap.size) (hw : wtRow wtNeed xs ≤ 1048576) :
    Calls Try.prog 70 #[v] w fun e w' => ∃ g, e = .returned (.slice (some ⟨g, 0, none⟩) xs.length xs.length) ∧ RowOwn shNeed 105 (Ow w.heap.size w'.heap.size) w' (.slice (some ⟨g, 0, none⟩) xs.length xs.length) xs ∧ Below w.heap.size w w' := by
  obtain ⟨a, cap, rfl, hl, hc, ha⟩ := hv
  have hn := len_wtRow wtNeed xs
  have hlm : xs.length ≤ maxLen := hl
  unfold maxLen at hl
  obtain ⟨i0, hi, hz0, hz1, hz2⟩ := info_parts infoNeed
  go_enter Try.func70, Try.ntmps70
  go_wp2_with (first
    | (at_make; refine wpList_make_full _ rfl _ _ 30 rfl w.heap.size 105 i0 _ 2 Try.underlying30 hi hz0 hz1 _ _ _ _ xs.length rfl rfl rfl rfl (by rw [hz2]; omega) (by unfold maxLen; omega) (Nat.le_refl _) ?_))
  intro w1 hown hgrow
  have hb1 := below_of_grown hgrow
  have hs1 : w.heap.size + 1 ≤ w1.heap.size := by
    rcases hown.2 with ⟨h, _⟩ | ⟨g, cap, cur, h, _, hg, _⟩
    · simp at h
    · simp at h
      have := (Array.getElem?_eq_some_iff.1 hg).1
      omega
  obtain ⟨ys1, hown1⟩ : ∃ ys, w1.ownsRow w.heap.size 105 2 (.slice (some ⟨w.heap.size, 0, none⟩) xs.length xs.length) xs.length ys := ⟨_, hown⟩
  clear hgrow hown
  go_wp2_with fail
  go_loopw [4] (fun vi wr => ∃ (k : Nat) (ys : List Value), k ≤ xs.length ∧ vi = .int .i64 (k : Int) ∧ wr.ownsRow w.heap.size 105 2 (.slice (some ⟨w.heap.size, 0, none⟩) xs.length xs.length) xs.length ys ∧ Hid (Laid shNeed (Ow (w.heap.size + 1) wr.heap.size) wr ys xs k) ∧ Below w.heap.size w wr ∧ w.heap.size + 1 ≤ wr.heap.size) (fun vi _ => xs.length - (intOf vi).toNat)
  case atStart => exact ⟨0, ys1, Nat.zero_le _, rfl, hown1, (fun i h h0 => by omega), hb1, hs1⟩
  case round =>
    obtain ⟨k, ys, hk, rfl, hownr, hy, hbr, hsr⟩ := hrel
    by_cases hlt' : k < xs.length
    · rcases ha with rfl | ⟨b, off, rfl, hlt, ha⟩
      · simp at hlt'
      obtain ⟨cs, hL, hcell⟩ := ha k hlt'
      have hL2 := shNeed.keep (.of hbr hB) hL
      have hcell2 := hcell.keep (.of hbr hB) hlt
      have hBr : ∀ b, S b → b < wr.heap.size := fun b h => Nat.lt_of_lt_of_le (hB b h) hbr.size
      have hwt : wtNeed xs[k] ≤ 1048576 := by have := wt_wtRow wtNeed (List.getElem_mem hlt'); omega
      have hown2 : ∀ w2, Below wr.heap.size wr w2 → w2.ownsRow w.heap.size 105 2 (.slice (some ⟨w.heap.size, 0, none⟩) xs.length xs.length) xs.length ys := fun w2 h2 => hownr.kept (grown_of_below h2 none) (by simp [Value.ownBlock])
      have hlen := hownr.1
      have HC : Hid (∀ w2, Below wr.heap.size wr w2 → ∀ j, j < 2 → ∃ x, w2.cell? ⟨w.heap.size, k * 2 + j, none⟩ = some x) := fun w2 h2 j hj => ⟨ys.getD (k * 2 + j) undef, by rw [(hown2 w2 h2).cellAt _ (by omega)]; simp [List.getD_eq_getElem?_getD, show k * 2 + j < ys.length by omega]⟩
      have HF : Hid (∀ w2, Below wr.heap.size wr w2 → ∀ j, w2.frozen? ⟨w.heap.size, j, none⟩ = false) := fun w2 h2 j => (hown2 w2 h2).frozenAt j
      have HO : Hid (∀ w2, Below wr.heap.size wr w2 → w2.ownsRow w.heap.size 105 2 (.slice (some ⟨w.heap.size, 0, none⟩) xs.length xs.length) xs.length ys) := hown2
      have HST : Hid (∀ w2 cs, Below wr.heap.size wr w2 → cs.length = 2 → shNeed.lies (Ow (w.heap.size + 1) w2.heap.size) w2 cs xs[k] → Laid shNeed (Ow (w.heap.size + 1) (setW w2 w.heap.size (k * 2) cs).heap.size) (setW w2 w.heap.size (k * 2) cs) (putL ys (k * 2) cs) xs (k + 1)) := fun w2 cs h2 hc hr => hy.out.step (sh := shNeed) hlt' hlen h2 (by omega) hc hr
      obtain ⟨d, hd⟩ : ∃ d, d = xs[k] := ⟨_, rfl⟩
      rw [← hd] at hL2 hwt HST
      have HC1 := toNeed_c S d cs wr hL2 hBr hwt
      clear ha hL hcell hd hown2 hi hz0 hz1 hz2 hown1 hb1 hlen hwt
      obtain ⟨rfl, s_n, s_r⟩ := hL2
      clear s_n s_r
      have e0 : wr.cell? ⟨b, off + k * 2, none⟩ = some (.string d.n) := hcell2 0 (by simp)
      have e1 : wr.cell? ⟨b, off + k * 2 + 1, none⟩ = some (.string d.r) := hcell2 1 (by simp)
      have HC2 := hidden HC1
      have hki : (k : Int) < (xs.length : Int) := by omega
      clear hcell2 HC1
      go_wp2_with (go_at_call 87; refine HC2.out.mono ?_; rintro e w2 ⟨cs, rfl, hX, hb2⟩; have HX := hidden (HST.out w2 cs hb2 (by have h := hX; obtain ⟨h9, s_n, s_r⟩ := h; rw [h9]; rfl) (shNeed.mono (Ow.mono hsr (Nat.le_refl _)) hX)); obtain ⟨rfl, s_n, s_r⟩ := hX; obtain ⟨y0, d0⟩ := HC.out w2 hb2 0 (by omega); obtain ⟨y1, d1⟩ := HC.out w2 hb2 1 (by omega); rw [Nat.add_zero] at d0; have f9 := HF.out w2 hb2)
      go_roundw
      case rel =>
        refine ⟨k + 1, _, by omega, by go_num, setW_owns [.string d.n, .string d.r] w2 ys (k * 2) (HO.out w2 hb2), HX.out, setW_below (Nat.le_refl _) [.string d.n, .string d.r] w2 w (k * 2) (hbr.trans (hb2.mono hbr.size)), ?_⟩
        have h9 := setW_size [.string d.n, .string d.r] w2 w.heap.size (k * 2)
        have := hb2.size
        exact Nat.le_trans (show w.heap.size + 1 ≤ w2.heap.size by omega) (Nat.le_of_eq h9.symm)
      case measure => simp [intOf]; omega
    · have he : k = xs.length := by omega
      subst he
      clear ha
      go_wp2_with fail
      go_ret
      exact ⟨_, rfl, rowOwn_of hownr hlm hy.out, hbr⟩

set_option maxHeartbeats 2000000 in
set_option maxRecDepth 100000 in
theorem toCmd_c (S : Nat → Prop) (d : CmdD) (cs : List Value) (w : World) (hd : shCmd.lies S w cs d) (hB : ∀ b, S b → b < w.heap.size) (hw : wtCmd d ≤ 1048576) :
    Calls Try.prog 88 #[.agg cs.toArray] w fun e w' => ∃ cs', e = .returned (.agg cs'.toArray) ∧ shCmdO.lies (Ow w.heap.size w'.heap.size) w' cs' d ∧ Below w.heap.size w w' := by
  obtain ⟨u0, rfl, s_t, r0, p0⟩ := hd
  have hb3 : ∀ A R O, Below w.heap.size w (((w.alloc A).alloc R).alloc O) := fun A R O => (((Below.refl _ _).alloc (Nat.le_refl _) _).alloc (by simp) _).alloc (by simp; omega) _
  unfold wtCmd at hw
  have HS0 : Hid (∀ w1, Below w.heap.size w w1 → Calls Try.prog 69 #[u0] w1 fun e w' => ∃ g, e = .returned (.slice (some ⟨g, 0, none⟩) d.acts.length d.acts.length) ∧ StrsOwn (Ow w1.heap.size w'.heap.size) w' (.slice (some ⟨g, 0, none⟩) d.acts.length d.acts.length) d.acts ∧ Below w1.heap.size w1 w') := fun w1 hb =>
    (toStrs_c u0 d.acts w1 ((r0.keep (.of hb hB)).reads (fun b h => Nat.lt_of_lt_of_le (hB b h) hb.size)) (by unfold bulkS at hw; omega)).mono fun e w' ⟨g, h1, h2, h3⟩ => ⟨g, h1, ⟨owns_lo (Nat.zero_le _) h2, owns_in h2⟩, h3⟩
  obtain ⟨a0, cap0, eu0, _⟩ := id r0
  rw [length_strsV] at eu0
  subst eu0
  clear r0
  go_enter Try.func88, Try.ntmps88
  go_wp2_with fail
  go_at_call 69
  refine (HS0.out _ (hb3 _ _ _)).mono ?_
  rintro e w1 ⟨g1, rfl, R0, b1⟩
  obtain ⟨hA1, hR1, hO1⟩ := vthree b1
  have s3 : ∀ A R O, (((w.alloc A).alloc R).alloc O).heap.size = w.heap.size + 1 + 1 + 1 := fun A R O => by simp
  rw [s3] at b1 R0
  have m1 : w.heap.size + 3 ≤ w1.heap.size := by have := b1.size; rw [s3] at this; omega
  have kw1 : Below w.heap.size w w1 := (hb3 _ _ _).trans (b1.mono (by omega))
  replace R0 := R0.mono (S' := Ow (w.heap.size + 3) w1.heap.size) (Ow.mono (by omega) (Nat.le_refl _))
  have m1' : w.heap.size + 3 ≤ w1.heap.size := by omega
  have o0 := vblk_cell hO1 0
  have q0 := vblk_cell hR1 0
  have y0 := vblk_cell hA1 0
  have o1 := vblk_cell hO1 1
  have q1 := vblk_cell hR1 1
  have y1 := vblk_cell hA1 1
  have fo := vblk_frozen hO1
  have fr := vblk_frozen hR1
  simp only [List.getElem?_toArray, List.getElem?_cons_succ, List.getElem?_cons_zero, List.setIfInBounds_toArray, List.set_cons_succ, List.set_cons_zero] at o0 q0 y0 o1 q1 y1
  go_wp2_with fail
  refine bodyPost_ret (v := .agg #[.string d.t, .slice (some ⟨g1, 0, none⟩) d.acts.length d.acts.length]) (by simp [results, Try.results88, go_sem, o0, q0, o1, q1]) rfl ⟨[.string d.t, .slice (some ⟨g1, 0, none⟩) d.acts.length d.acts.length], rfl, ?_, ?_⟩
  · have hS : ∀ {W : World}, w1.heap.size ≤ W.heap.size → ∀ b, Ow (w.heap.size + 3) w1.heap.size b → Ow w.heap.size W.heap.size b := fun h => Ow.mono (by omega) h
    refine ⟨_, rfl, s_t, (R0.keep ?_).mono (hS ?_), p0⟩
    all_goals first
      | (simp [World.setCell]; done)
      | ((repeat (refine Kp.trans ?_ (Kp.set (Ow.not (by omega))))); exact fun b hb => rfl)
  · refine ?_
    (repeat (refine Below.setCell ?_ (by simp <;> omega) _))
    exact kw1

set_option maxHeartbeats 2000000 in
set_option maxRecDepth 100000 in
theorem infoCmd : (Try.prog.info? 107).map (fun i => (i.zero, i.size, i.bytes)) = some (some (.agg #[.string ⟨#[]⟩, .slice none 0 0]), 2, 40) := by kernel_rfl
set_option maxHeartbeats 2000000 in
set_option maxRecDepth 100000 in
theorem toCmdS_c (S : Nat → Prop) (v : Value) (xs : List CmdD) (w : World) (hv : RowIn shCmd S w v xs) (hB : ∀ b, S b → b < w.heap.size) (hw : wtRow wtCmd xs ≤ 1048576) :
    Calls Try.prog 71 #[v] w fun e w' => ∃ g, e = .returned (.slice (some ⟨g, 0, none⟩) xs.length xs.length) ∧ RowOwn shCmdO 107 (Ow w.heap.size w'.heap.size) w' (.slice (some ⟨g, 0, none⟩) xs.length xs.length) xs ∧ Below w.heap.size w w' := by
  obtain ⟨a, cap, rfl, hl, hc, ha⟩ := hv
  have hn := len_wtRow wtCmd xs
  have hlm : xs.length ≤ maxLen := hl
  unfold maxLen at hl
  obtain ⟨i0, hi, hz0, hz1, hz2⟩ := info_parts infoCmd
  go_enter Try.func71, Try.ntmps71
  go_wp2_with (first
    | (at_make; refine wpList_make_full _ rfl _ _ 31 rfl w.heap.size 107 i0 _ 2 Try.underlying31 hi hz0 hz1 _ _ _ _ xs.length rfl rfl rfl rfl (by rw [hz2]; omega) (by unfold maxLen; omega) (Nat.le_refl _) ?_))
  intro w1 hown hgrow
  have hb1 := below_of_grown hgrow
  have hs1 : w.heap.size + 1 ≤ w1.heap.size := by
    rcases hown.2 with ⟨h, _⟩ | ⟨g, cap, cur, h, _, hg, _⟩
    · simp at h
    · simp at h
      have := (Array.getElem?_eq_some_iff.1 hg).1
      omega
  obtain ⟨ys1, hown1⟩ : ∃ ys, w1.ownsRow w.heap.size 107 2 (.slice (some ⟨w.heap.size, 0, none⟩) xs.length xs.length) xs.length ys := ⟨_, hown⟩
  clear hgrow hown
  go_wp2_with fail
  go_loopw [4] (fun vi wr => ∃ (k : Nat) (ys : List Value), k ≤ xs.length ∧ vi = .int .i64 (k : Int) ∧ wr.ownsRow w.heap.size 107 2 (.slice (some ⟨w.heap.size, 0, none⟩) xs.length xs.length) xs.length ys ∧ Hid (Laid shCmdO (Ow (w.heap.size + 1) wr.heap.size) wr ys xs k) ∧ Below w.heap.size w wr ∧ w.heap.size + 1 ≤ wr.heap.size) (fun vi _ => xs.length - (intOf vi).toNat)
  case atStart => exact ⟨0, ys1, Nat.zero_le _, rfl, hown1, (fun i h h0 => by omega), hb1, hs1⟩
  case round =>
    obtain ⟨k, ys, hk, rfl, hownr, hy, hbr, hsr⟩ := hrel
    by_cases hlt' : k < xs.length
    · rcases ha with rfl | ⟨b, off, rfl, hlt, ha⟩
      · simp at hlt'
      obtain ⟨cs, hL, hcell⟩ := ha k hlt'
      have hL2 := shCmd.keep (.of hbr hB) hL
      have hcell2 := hcell.keep (.of hbr hB) hlt
      have hBr : ∀ b, S b → b < wr.heap.size := fun b h => Nat.lt_of_lt_of_le (hB b h) hbr.size
      have hwt : wtCmd xs[k] ≤ 1048576 := by have := wt_wtRow wtCmd (List.getElem_mem hlt'); omega
      have hown2 : ∀ w2, Below wr.heap.size wr w2 → w2.ownsRow w.heap.size 107 2 (.slice (some ⟨w.heap.size, 0, none⟩) xs.length xs.length) xs.length ys := fun w2 h2 => hownr.kept (grown_of_below h2 none) (by simp [Value.ownBlock])
      have hlen := hownr.1
      have HC : Hid (∀ w2, Below wr.heap.size wr w2 → ∀ j, j < 2 → ∃ x, w2.cell? ⟨w.heap.size, k * 2 + j, none⟩ = some x) := fun w2 h2 j hj => ⟨ys.getD (k * 2 + j) undef, by rw [(hown2 w2 h2).cellAt _ (by omega)]; simp [List.getD_eq_getElem?_getD, show k * 2 + j < ys.length by omega]⟩
      have HF : Hid (∀ w2, Below wr.heap.size wr w2 → ∀ j, w2.frozen? ⟨w.heap.size, j, none⟩ = false) := fun w2 h2 j => (hown2 w2 h2).frozenAt j
      have HO : Hid (∀ w2, Below wr.heap.size wr w2 → w2.ownsRow w.heap.size 107 2 (.slice (some ⟨w.heap.size, 0, none⟩) xs.length xs.length) xs.length ys) := hown2
      have HST : Hid (∀ w2 cs, Below wr.heap.size wr w2 → cs.length = 2 → shCmdO.lies (Ow (w.heap.size + 1) w2.heap.size) w2 cs xs[k] → Laid shCmdO (Ow (w.heap.size + 1) (setW w2 w.heap.size (k * 2) cs).heap.size) (setW w2 w.heap.size (k * 2) cs) (putL ys (k * 2) cs) xs (k + 1)) := fun w2 cs h2 hc hr => hy.out.step (sh := shCmdO) hlt' hlen h2 (by omega) hc hr
      obtain ⟨d, hd⟩ : ∃ d, d = xs[k] := ⟨_, rfl⟩
      rw [← hd] at hL2 hwt HST
      have HC1 := toCmd_c S d cs wr hL2 hBr hwt
      clear ha hL hcell hd hown2 hi hz0 hz1 hz2 hown1 hb1 hlen hwt
      obtain ⟨u0, rfl, s_t, r0, p0⟩ := hL2
      clear s_t p0
      obtain ⟨a0, cap0, eu0, _⟩ := id r0
      rw [length_strsV] at eu0
      subst eu0
      clear r0
      have e0 : wr.cell? ⟨b, off + k * 2, none⟩ = some (.string d.t) := hcell2 0 (by simp)
      have e1 : wr.cell? ⟨b, off + k * 2 + 1, none⟩ = some (.slice a0 d.acts.length cap0) := hcell2 1 (by simp)
      have HC2 := hidden HC1
      have hki : (k : Int) < (xs.length : Int) := by omega
      clear hcell2 HC1
      go_wp2_with (go_at_call 88; refine HC2.out.mono ?_; rintro e w2 ⟨cs, rfl, hX, hb2⟩; have HX := hidden (HST.out w2 cs hb2 (by have h := hX; obtain ⟨u0, h9, s_t, r0, p0⟩ := h; rw [h9]; rfl) (shCmdO.mono (Ow.mono hsr (Nat.le_refl _)) hX)); obtain ⟨u0, rfl, s_t, z0, p0⟩ := hX; obtain ⟨b0, bap0, ev0⟩ := z0.slice; subst ev0; obtain ⟨y0, d0⟩ := HC.out w2 hb2 0 (by omega); obtain ⟨y1, d1⟩ := HC.out w2 hb2 1 (by omega); rw [Nat.add_zero] at d0; have f9 := HF.out w2 hb2)
      go_roundw
      case rel =>
        refine ⟨k + 1, _, by omega, by go_num, setW_owns [.string d.t, .slice b0 d.acts.length bap0] w2 ys (k * 2) (HO.out w2 hb2), HX.out, setW_below (Nat.le_refl _) [.string d.t, .slice b0 d.acts.length bap0] w2 w (k * 2) (hbr.trans (hb2.mono hbr.size)), ?_⟩
        have h9 := setW_size [.string d.t, .slice b0 d.acts.length bap0] w2 w.heap.size (k * 2)
        have := hb2.size
        exact Nat.le_trans (show w.heap.size + 1 ≤ w2.heap.size by omega) (Nat.le_of_eq h9.symm)
      case measure => simp [intOf]; omega
    · have he : k = xs.length := by omega
      subst he
      clear ha
      go_wp2_with fail
      go_ret
      exact ⟨_, rfl, rowOwn_of hownr hlm hy.out, hbr⟩

end Go.Proofs.Ytbhedlobiagngaa

/-! Copies in memory of their own, as the law makes them: contracts for the walks; condition: what is copied holds at most 2 to the 20. -/
namespace Go.Proofs.Ytbhedlobiagngaa
open Go.RowKit
set_option linter.unusedSimpArgs false
set_option linter.unusedVariables false

end Go.Proofs.Ytbhedlobiagngaa

/-! What a text falls into between the bytes c, and what the specification's Split answers: just that list; conditions: the text has at most 2 to the 20 bytes and a few more. -/
namespace Go.Proofs.Ytbhedlobiagngaa
open Go.RowKit
set_option linter.unusedSimpArgs false
set_option linter.unusedVariables false

/-- The pieces behind place i, the piece at hand having begun at place b. -/
def splitGo (s : ByteArray) (c : Int) : Nat → Nat → Nat → List ByteArray
  | 0, _, b => [s.extract b s.size]
  | f + 1, i, b => if ((s.data[i]!).toNat : Int) = c then s.extract b i :: splitGo s c f (i + 1) (i + 1) else splitGo s c f (i + 1) b
def splitS (s : ByteArray) (c : Int) : List ByteArray := splitGo s c s.size 0 0

theorem splitGo_hit (s : ByteArray) (c : Int) (i b : Nat) (hi : i < s.size) (h : ((s.data[i]!).toNat : Int) = c) : splitGo s c (s.size - i) i b = s.extract b i :: splitGo s c (s.size - (i + 1)) (i + 1) (i + 1) := by
  obtain ⟨f, hf⟩ : ∃ f, s.size - i = f + 1 := ⟨s.size - i - 1, by omega⟩
  rw [hf, splitGo, if_pos h, show s.size - (i + 1) = f by omega]
theorem splitGo_miss (s : ByteArray) (c : Int) (i b : Nat) (hi : i < s.size) (h : ¬ ((s.data[i]!).toNat : Int) = c) : splitGo s c (s.size - i) i b = splitGo s c (s.size - (i + 1)) (i + 1) b := by
  obtain ⟨f, hf⟩ : ∃ f, s.size - i = f + 1 := ⟨s.size - i - 1, by omega⟩
  rw [hf, splitGo, if_neg h, show s.size - (i + 1) = f by omega]
theorem splitGo_end (s : ByteArray) (c : Int) (b : Nat) : splitGo s c (s.size - s.size) s.size b = [s.extract b s.size] := by
  rw [Nat.sub_self, splitGo]

theorem strs_append (xs ys : List ByteArray) : strsV xs ++ strsV ys = strsV (xs ++ ys) := by simp [strsV]

end Go.Proofs.Ytbhedlobiagngaa

/-! Contracts of two functions of the library (the first place of a byte in a text; a copy of a text), taken over from the library of contracts at the numbers of this program; conditions as each says. -/
namespace Go.Proofs
open Go.Shelf
def Try.laysM316_ren : Go.Shelf.Ren := ⟨fun | 316 => 81 | n => n, fun | 9 => 9 | 3 => 3 | 4 => 4 | 37 => 22 | 0 => 0 | 127 => 129 | 5 => 5 | n => n, fun | n => n⟩
theorem Try.laysM316 : Go.Proofs.LaysM.n316 Try.prog Try.laysM316_ren := {
  mixed := by kernel_rfl
  f316 := Try.func81.trans (congrArg some (by kernel_rfl))
  t0 := Try.underlying0
  a0 := Try.isAgg0
  z0 := Try.sizeOf0
  v0 := Try.zeroValue0
  t3 := Try.underlying3
  a3 := Try.isAgg3
  z3 := Try.sizeOf3
  v3 := Try.zeroValue3
  t4 := Try.underlying4
  a4 := Try.isAgg4
  z4 := Try.sizeOf4
  v4 := Try.zeroValue4
  t9 := Try.underlying9
  a9 := Try.isAgg9
  z9 := Try.sizeOf9
  v9 := Try.zeroValue9
  t37 := Try.underlying22
  a37 := Try.isAgg22
  z37 := Try.sizeOf22
  v37 := Try.zeroValue22
  t127 := Try.underlying129
  a127 := Try.isAgg129
  z127 := Try.sizeOf129
  v127 := Try.zeroValue129
  t5 := Try.underlying5
  a5 := Try.isAgg5
  z5 := Try.sizeOf5
  v5 := Try.zeroValue5
  i0 := by kernel_rfl
  i3 := by kernel_rfl
  i4 := by kernel_rfl
  i5 := by kernel_rfl
  i9 := by kernel_rfl
  i37 := by kernel_rfl
  i127 := by kernel_rfl }
open Go.RowKit in
theorem Try.stringslite_Clone (s : ByteArray) (w : World) (hlim : s.size ≤ 281474976710656) :
    Calls Try.prog 81 #[.string s] w fun e w' => e = .returned (.string s) ∧ Below w.heap.size w w' := Any.stringslite_Clone Try.laysM316 s w hlim
end Go.Proofs

/-! What the program's Split answers: the same list as the specification's, in memory of its own; condition: the text has at most 2 to the 20 bytes. -/
namespace Go.Proofs.Ytbhedlobiagngaa
open Go.RowKit
set_option linter.unusedSimpArgs false
set_option linter.unusedVariables false

theorem split_none (s : ByteArray) (c : Int) (b : Nat) : ∀ (n i : Nat), n = s.size - i → i ≤ s.size → (∀ j, i ≤ j → j < s.size → ¬ ((s.data[j]!).toNat : Int) = c) → splitGo s c (s.size - i) i b = [s.extract b s.size]
  | 0, i, hn, hi, h => by
    have : i = s.size := by omega
    subst this
    exact splitGo_end s c b
  | n + 1, i, hn, hi, h => by
    rw [splitGo_miss s c i b (by omega) (h i (Nat.le_refl _) (by omega))]
    exact split_none s c b n (i + 1) (by omega) (by omega) (fun j h1 h2 => h j (by omega) h2)
theorem split_some (s : ByteArray) (c : Int) (b j : Nat) (hj : j < s.size) (hc : ((s.data[j]!).toNat : Int) = c) : ∀ (n i : Nat), n = j - i → i ≤ j → (∀ k, i ≤ k → k < j → ¬ ((s.data[k]!).toNat : Int) = c) → splitGo s c (s.size - i) i b = s.extract b j :: splitGo s c (s.size - (j + 1)) (j + 1) (j + 1)
  | 0, i, hn, hi, h => by
    have : i = j := by omega
    subst this
    exact splitGo_hit s c i b hj hc
  | n + 1, i, hn, hi, h => by
    rw [splitGo_miss s c i b (by omega) (h i (Nat.le_refl _) (by omega))]
    exact split_some s c b j hj hc n (i + 1) (by omega) (by omega) (fun k h1 h2 => h k (by omega) h2)

def strSize : Value → Nat | .string s => s.size | _ => 0

theorem ext_list {a b : ByteArray} (h : a.data.toList = b.data.toList) : a = b := ByteArray.ext (Array.toList_inj.1 h)
theorem extract_list (s : ByteArray) (a b : Nat) : (s.extract a b).data.toList = (s.data.toList.drop a).take (b - a) := Lib.extract_data s a b
theorem len_list (s : ByteArray) : s.data.toList.length = s.size := by rw [Array.length_toList]; rfl
theorem size_tail (s : ByteArray) (b : Nat) (h : b ≤ s.size) : (s.extract b s.size).size = s.size - b := by
  rw [← len_list, extract_list, List.length_take, List.length_drop, len_list]; omega
theorem tail_list (s : ByteArray) (b : Nat) : (s.extract b s.size).data.toList = s.data.toList.drop b := by
  rw [extract_list, List.take_of_length_le (by rw [List.length_drop, len_list]; omega)]
theorem tail_head (s : ByteArray) (b k : Nat) : (s.extract b s.size).extract 0 k = s.extract b (b + k) := by
  apply ext_list
  rw [extract_list, tail_list, extract_list]
  simp
theorem tail_tail (s : ByteArray) (b k : Nat) : (s.extract b s.size).extract k (s.extract b s.size).size = s.extract (b + k) s.size := by
  apply ext_list
  rw [tail_list, tail_list, tail_list, List.drop_drop]

theorem bang_list (s : ByteArray) (j : Nat) (h : j < s.size) : s.data.toList[j]? = some (s.data[j]!) := by
  rw [byteBang s j h, List.getElem?_eq_getElem (by rw [len_list]; exact h)]
  rfl

/-- What the search for the byte says of the text behind place b. -/
theorem search (s : ByteArray) (c : Int) (b : Nat) (hb : b ≤ s.size) (h0 : 0 ≤ c) (h1 : c ≤ 255) :
    (Lib.indexByte (s.extract b s.size).data.toList c.toNat.toUInt8 = -1 ∧ splitGo s c (s.size - b) b b = [s.extract b s.size]) ∨
    ∃ k : Nat, Lib.indexByte (s.extract b s.size).data.toList c.toNat.toUInt8 = (k : Int) ∧ b + k < s.size ∧ splitGo s c (s.size - b) b b = s.extract b (b + k) :: splitGo s c (s.size - (b + k + 1)) (b + k + 1) (b + k + 1) := by
  have hcn : ∀ u : UInt8, (u.toNat : Int) = c ↔ u = c.toNat.toUInt8 := fun u => by
    have hu := u.toNat_lt
    constructor
    · intro e
      have : u.toNat = c.toNat := by omega
      rw [← this]; simp
    · intro e
      subst e
      simp [UInt8.toNat_ofNat']
      omega
  rw [tail_list]
  have hge := Lib.indexByte_ge (s.data.toList.drop b) c.toNat.toUInt8
  by_cases hm : Lib.indexByte (s.data.toList.drop b) c.toNat.toUInt8 = -1
  · refine .inl ⟨hm, split_none s c b _ b rfl hb (fun j h1 h2 e => ?_)⟩
    have := Lib.indexByte_none hm (j - b)
    rw [List.getElem?_drop, show b + (j - b) = j by omega, bang_list s j h2] at this
    exact this (by rw [(hcn _).1 e])
  · obtain ⟨k, hk⟩ := Int.eq_ofNat_of_zero_le (show 0 ≤ Lib.indexByte (s.data.toList.drop b) c.toNat.toUInt8 by omega)
    obtain ⟨hh, hbef⟩ := Lib.indexByte_some hk
    rw [List.getElem?_drop] at hh
    have hlt : b + k < s.size := by
      rw [← len_list]
      exact (List.getElem?_eq_some_iff.1 hh).1
    refine .inr ⟨k, hk, hlt, split_some s c b (b + k) hlt ?_ _ b rfl (by omega) (fun j h1 h2 e => ?_)⟩
    · rw [bang_list s _ hlt] at hh
      exact (hcn _).2 (by simpa using hh)
    · have := hbef (j - b) (by omega)
      rw [List.getElem?_drop, show b + (j - b) = j by omega, bang_list s j (by omega)] at this
      exact this (by rw [(hcn _).1 e])

set_option maxHeartbeats 1000000 in
theorem clone_c (s : ByteArray) (w : World) (h : s.size ≤ 1048576) : Calls Try.prog 60 #[.string s] w fun e w' => e = .returned (.string s) ∧ Below w.heap.size w w' := by
  go_enter Try.func60, Try.ntmps60
  go_wp2_with (go_at_call 81; refine (Try.stringslite_Clone s _ (by omega)).mono ?_; rintro e w1 ⟨rfl, b1⟩)
  go_ret
  exact ⟨rfl, b1⟩

end Go.Proofs.Ytbhedlobiagngaa

/-! Copies of versions, needs and entries, as the program makes them: contracts for the walks; conditions: they lie in memory, and hold at most 2 to the 20. -/
namespace Go.Proofs.Ytbhedlobiagngaa
open Go.RowKit
set_option linter.unusedSimpArgs false
set_option linter.unusedVariables false

/-- A block of another type than a row's is not the row's. -/
theorem row_box {w : World} {lo sz n g : Nat} {e t : TypeId} {v : Value} {xs : List Value} {cs : Array Value} {fz : Nat × Nat} (h : w.ownsRow lo e sz v n xs) (hb : w.heap[g]? = some (.cells cs t fz)) (hne : e ≠ t) : v.ownBlock ≠ some g := fun he => by
  rcases h.2 with ⟨rfl, _⟩ | ⟨g', cap, cur, rfl, _, hg, _⟩
  · simp [Value.ownBlock] at he
  · simp [Value.ownBlock] at he
    subst he
    rw [hg] at hb
    simp at hb
    exact hne hb.2.1
theorem box_grown {w w' : World} {row : Option Nat} {g : Nat} {o : Obj} (hb : w.heap[g]? = some o) (hg : w.grownBy w' row) (hne : row ≠ some g) : w'.heap[g]? = some o :=
  (hg.block g (Array.getElem?_eq_some_iff.1 hb).1 (fun e => hne e.symm)).trans hb
theorem box_below {w w' : World} {g : Nat} {o : Obj} (hb : w.heap[g]? = some o) (h : Below w.heap.size w w') : w'.heap[g]? = some o :=
  (h.block g (Array.getElem?_eq_some_iff.1 hb).1).trans hb
theorem row_put {w : World} {lo sz n g j : Nat} {e t : TypeId} {v x : Value} {xs : List Value} {cs : Array Value} {fz : Nat × Nat} (h : w.ownsRow lo e sz v n xs) (hb : w.heap[g]? = some (.cells cs t fz)) (hne : e ≠ t) : (w.setCell ⟨g, j, none⟩ x).ownsRow lo e sz v n xs :=
  owns_kept (S := fun b => b ≠ g) (Kp.set (by simp)) (fun b hb' => by rintro rfl; exact row_box h hb hne hb') h
theorem List.single_le_sum_natC {ss : List ByteArray} {t : ByteArray} (h : t ∈ ss) : t.size ≤ (ss.map ByteArray.size).sum := by
  induction ss with
  | nil => simp at h
  | cons a l ih =>
    simp only [List.map_cons, List.sum_cons]
    rcases List.mem_cons.1 h with rfl | h
    · omega
    · have := ih h; omega
theorem two_boxes {w : World} (A R : Obj) : ((w.alloc A).alloc R).heap[w.heap.size]? = some A ∧ ((w.alloc A).alloc R).heap[w.heap.size + 1]? = some R := by
  have s1 : (w.alloc A).heap.size = w.heap.size + 1 := by simp
  refine ⟨?_, ?_⟩
  · rw [vheap_old _ _ (by simp), vheap_new]
  · rw [← s1, vheap_new]

end Go.Proofs.Ytbhedlobiagngaa

/-! The graph of packs, as the program makes it: a contract for the walks; conditions: the packs lie in memory, and hold at most 2 to the 20. -/
namespace Go.Proofs.Ytbhedlobiagngaa
open Go.RowKit Go.Maps
set_option linter.unusedSimpArgs false
set_option linter.unusedVariables false

/-- Packs as names and what they use. -/
def plOf (xs : List PackD) : PL := xs.map fun d => (d.name, d.uses)
theorem plOf_take (xs : List PackD) (k : Nat) : plOf (xs.take k) = (plOf xs).take k := by unfold plOf; rw [List.map_take]
theorem plOf_names (xs : List PackD) : (plOf xs).map (·.1) = xs.map (·.name) := by unfold plOf; rw [List.map_map]; rfl
theorem GrM.below {lo : Nat} {w w' : World} {p own : Nat} {g : GD} (h : GrM lo w p own g) (hb : Below w.heap.size w w') : GrM lo w' p own g := by
  obtain ⟨mb, vn, vu, vb, us, bs, hbox, hp, C⟩ := h
  exact ⟨mb, vn, vu, vb, us, bs, (hb.block p (Array.getElem?_eq_some_iff.1 hbox).1).trans hbox, hp, C.new (r := none) (grown_of_below hb none) (fun q e => by cases e)⟩
theorem GrM.lo {lo : Nat} {w : World} {p own : Nat} {g : GD} (h : GrM lo w p own g) : lo ≤ w.heap.size := by
  obtain ⟨_, _, _, _, _, _, hb, hp, _⟩ := h
  have := (Array.getElem?_eq_some_iff.1 hb).1
  omega
theorem GrC.low {lo mb q : Nat} {w w' : World} {vn vu vb : Value} {us bs : List Value} {M N : List ByteArray} {U B : List (List Nat)} {xa xb : Nat → Prop} (h : GrC lo w mb vn vu vb us bs M N U B xa xb) (hg : w.grownBy w' (some q)) (hq : q < lo) : GrC lo w' mb vn vu vb us bs M N U B xa xb := by
  have hr : ∀ {sz n : Nat} {e : TypeId} {v : Value} {xs : List Value}, w.ownsRow lo e sz v n xs → v.ownBlock = none ∨ v.ownBlock ≠ some q := fun hv => .inr fun e => by have := (hv.lt q e).1; omega
  exact h.kept hg (fun e => by have := Option.some.inj e; have := h.mlo; omega) (hr h.names) (hr h.ru) (hr h.rb) (fun i u hx hi => hr (h.eu i u hx hi)) (fun i u hx hi => hr (h.eb i u hx hi))
theorem GrC.lower {lo lo' mb : Nat} {w : World} {vn vu vb : Value} {us bs : List Value} {M N : List ByteArray} {U B : List (List Nat)} {xa xb : Nat → Prop} (h : GrC lo w mb vn vu vb us bs M N U B xa xb) (hl : lo' ≤ lo) : GrC lo' w mb vn vu vb us bs M N U B xa xb :=
  ⟨h.map, Nat.le_trans hl h.mlo, owns_lo hl h.names, owns_lo hl h.ru, owns_lo hl h.rb, fun i u hx hi => owns_lo hl (h.eu i u hx hi), fun i u hx hi => owns_lo hl (h.eb i u hx hi), h.vv, h.ap, h.ltu, h.ltb⟩
theorem gNames_len (ns : List ByteArray) : (gNames ns).N.length ≤ ns.length := by
  rcases (gNames_ok ns).2.2.1 with h | h
  · rw [h]; exact Nat.le_refl _
  · omega
theorem gNames_take (ns : List ByteArray) (k : Nat) (h : k < ns.length) : gNames (ns.take (k + 1)) = (gNames (ns.take k)).add ns[k] := by rw [List.take_succ_eq_append_getElem h, gNames_snoc]
theorem gUses_take (g : GD) (P : PL) (k : Nat) (h : k < P.length) : gUses g (P.take (k + 1)) = (gUses g (P.take k)).uses P[k].1 P[k].2 := by rw [List.take_succ_eq_append_getElem h, gUses_snoc]
/-- How much packs use. -/
def sumU (P : PL) : Nat := (P.map fun d => 1 + d.2.length).sum
theorem sumU_snoc (P : PL) (d : ByteArray × List ByteArray) : sumU (P ++ [d]) = sumU P + (1 + d.2.length) := by unfold sumU; simp
theorem gUses_size (g : GD) (P : PL) : (gUses g P).N.length ≤ g.N.length + sumU P ∧ ∀ i, (rowAt (gUses g P).U i).length ≤ (rowAt g.U i).length + sumU P ∧ (rowAt (gUses g P).B i).length ≤ (rowAt g.B i).length + sumU P := by
  refine rev_ind (p := fun P => (gUses g P).N.length ≤ g.N.length + sumU P ∧ ∀ i, (rowAt (gUses g P).U i).length ≤ (rowAt g.U i).length + sumU P ∧ (rowAt (gUses g P).B i).length ≤ (rowAt g.B i).length + sumU P) ⟨by simp [gUses], fun i => by simp [gUses]⟩ (fun P d ⟨h1, h2⟩ => ?_) P
  rw [gUses_snoc, sumU_snoc]
  unfold GD.uses
  have h3 := fold_use_len (posN ((gUses g P).add d.1).N d.1) d.2 ((gUses g P).add d.1)
  have h4 := GD.add_len (gUses g P) d.1
  refine ⟨by omega, fun i => ?_⟩
  have h5 := fold_use_rows (posN ((gUses g P).add d.1).N d.1) d.2 ((gUses g P).add d.1) i
  rw [(GD.add_row _ _ i).1, (GD.add_row _ _ i).2] at h5
  have h6 := h2 i
  omega
theorem sumU_take (P : PL) (k : Nat) (h : k < P.length) : sumU (P.take k) + (1 + P[k].2.length) ≤ sumU P := by
  have h1 : sumU P = sumU (P.take (k + 1)) + sumU (P.drop (k + 1)) := by unfold sumU; rw [← List.sum_append, ← List.map_append, List.take_append_drop]
  rw [List.take_succ_eq_append_getElem h, sumU_snoc] at h1
  omega
theorem sumU_wt : ∀ xs : List PackD, sumU (plOf xs) ≤ wtRow wtPack xs
  | [] => by simp [sumU, plOf, wtRow]
  | d :: xs => by
    have h1 := sumU_wt xs
    have e1 : sumU (plOf (d :: xs)) = (1 + d.uses.length) + sumU (plOf xs) := by simp [sumU, plOf]
    have e2 : wtRow wtPack (d :: xs) = (1 + wtPack d) + wtRow wtPack xs := by simp [wtRow]
    have h2 : d.uses.length ≤ wtPack d := by unfold wtPack bulkS; omega
    omega
theorem gNames_rows (ns : List ByteArray) (i : Nat) : rowAt (gNames ns).U i = [] ∧ rowAt (gNames ns).B i = [] := by
  obtain ⟨h1, _, _, h4⟩ := gNames_ok ns
  refine ⟨h4 i, ?_⟩
  refine List.eq_nil_iff_forall_not_mem.2 fun x hx => ?_
  have := h1.iff.1 hx
  rw [h4 x] at this
  cases this

set_option maxHeartbeats 8000000 in
set_option maxRecDepth 100000 in
theorem graphOf_c (S : Nat → Prop) (v : Value) (xs : List PackD) (w : World) (hv : RowIn shPack S w v xs) (hB : ∀ b, S b → b < w.heap.size) (hw : wtRow wtPack xs ≤ 1048576) :
    Calls Try.prog 29 #[v] w fun e w' => ∃ mb vn vu vb us bs, e = .returned (.agg #[.map (some mb), vn, .int .i64 (ownOf (plOf xs) : Int), vu, vb]) ∧ GrC w.heap.size w' mb vn vu vb us bs (gOf (plOf xs)).N (gOf (plOf xs)).N (gOf (plOf xs)).U (gOf (plOf xs)).B noX noX ∧ Below w.heap.size w w' := by
  have hl2 := len_wtRow wtPack xs
  have hlen : xs.length ≤ 1048576 := by omega
  have hsu := sumU_wt xs
  have hwe : ∀ d ∈ xs, d.uses.length ≤ 1048576 ∧ d.name.size ≤ 1048576 ∧ ∀ x ∈ d.uses, x.size ≤ maxLen := fun d hd => by
    have h1 := Nat.le_trans (wt_wtRow wtPack hd) hw
    unfold wtPack bulkS at h1
    refine ⟨by omega, by omega, fun x hx => ?_⟩
    have h2 : x.size ≤ (d.uses.map ByteArray.size).sum := List.single_le_sum_natC hx
    unfold maxLen
    omega
  have hPl : (plOf xs).length = xs.length := by unfold plOf; simp
  obtain ⟨hnok, hnm, _, _⟩ := gNames_ok (xs.map (·.name))
  have hnl := gNames_len (xs.map (·.name))
  rw [List.length_map] at hnl
  obtain ⟨a, cap, rfl, hl, hc, ha⟩ := hv
  unfold maxLen at hl
  obtain ⟨g1, hg1⟩ : ∃ g, g = gNames (xs.map (·.name)) := ⟨_, rfl⟩
  have HGO : Hid (gOf (plOf xs) = gUses g1 (plOf xs) ∧ ownOf (plOf xs) = g1.N.length) := by
    show _ ∧ _
    unfold gOf ownOf
    rw [plOf_names, ← hg1]
    exact ⟨rfl, rfl⟩
  rw [HGO.out.1, HGO.out.2]
  rw [← hg1] at hnok hnm hnl
  have HG1 := hidden hg1
  have hrows1 : ∀ i, rowAt g1.U i = [] ∧ rowAt g1.B i = [] := fun i => by rw [hg1]; exact gNames_rows _ i
  clear hg1 HGO
  have k1 : Below w.heap.size w (w.alloc (.cells #[.map none, .slice none 0 0, .int .i64 0, .slice none 0 0, .slice none 0 0] 53)) := (Below.refl _ _).alloc (Nat.le_refl _) _
  have HW0 : Hid (∀ W, W = ((w.alloc (.cells #[.map none, .slice none 0 0, .int .i64 0, .slice none 0 0, .slice none 0 0] 53)).alloc (.map #[] 0)).alloc (.cells #[.map (some (w.heap.size + 1)), .slice none 0 0, .int .i64 0, .slice none 0 0, .slice none 0 0] 53) → GrM (w.heap.size + 1) W (w.heap.size + 2) 0 ⟨[], [], []⟩ ∧ W.heap[w.heap.size]? = some (.cells #[.map none, .slice none 0 0, .int .i64 0, .slice none 0 0, .slice none 0 0] 53 (0, 0)) ∧ Below w.heap.size w W) := by
    intro W hW
    subst hW
    have z1 : (w.alloc (.cells #[.map none, .slice none 0 0, .int .i64 0, .slice none 0 0, .slice none 0 0] 53)).heap.size = w.heap.size + 1 := by simp
    have m0 := MapI_made (w.alloc (.cells #[.map none, .slice none 0 0, .int .i64 0, .slice none 0 0, .slice none 0 0] 53))
    rw [z1] at m0
    have z2 : ((w.alloc (.cells #[.map none, .slice none 0 0, .int .i64 0, .slice none 0 0, .slice none 0 0] 53)).alloc (.map #[] 0)).heap.size = w.heap.size + 2 := by simp
    refine ⟨⟨w.heap.size + 1, .slice none 0 0, .slice none 0 0, .slice none 0 0, [], [], ?_, by omega, ⟨⟨0, ?_⟩, by omega, World.ownsRow_nil _ _ _ _, World.ownsRow_nil _ _ _ _, World.ownsRow_nil _ _ _ _, fun i u _ h => (by simp at h), fun i u _ h => (by simp at h), fun g h => (by cases h), ⟨fun i j g u v h => (by simp at h), fun i j g u v h => (by simp at h), fun i j g u v h => (by simp at h)⟩, fun i g u h => (by simp at h), fun i g u h => (by simp at h)⟩⟩, ?_, ?_⟩
    · have := vheap_new ((w.alloc (.cells #[.map none, .slice none 0 0, .int .i64 0, .slice none 0 0, .slice none 0 0] 53)).alloc (.map #[] 0)) (.cells #[.map (some (w.heap.size + 1)), .slice none 0 0, .int .i64 0, .slice none 0 0, .slice none 0 0] 53)
      rw [z2] at this
      exact this
    · refine (m0.below ((Below.refl _ _).alloc (Nat.le_refl _) _)).same fun q => ?_
      rw [mOf_none (by simp)]
    · rw [vheap_old _ _ (by simp; omega), vheap_old _ _ (by simp), vheap_new]
    · exact ((k1.alloc (by simp) _).alloc (by simp; omega) _)
  clear k1
  have hmm := @run_makeMap Try.prog
  go_enter Try.func29, Try.ntmps29
  go_wp2_with fail
  go_loopw [12] (fun vi wr => ∃ k : Nat, k ≤ xs.length ∧ vi = .int .i64 (k : Int) ∧ Hid (GrM (w.heap.size + 1) wr (w.heap.size + 2) 0 (gNames ((xs.map (·.name)).take k))) ∧ Hid (wr.heap[w.heap.size]? = some (.cells #[.map none, .slice none 0 0, .int .i64 0, .slice none 0 0, .slice none 0 0] 53 (0, 0))) ∧ Below w.heap.size w wr) (fun vi _ => xs.length - (intOf vi).toNat)
  case atStart => exact ⟨0, Nat.zero_le _, rfl, (HW0.out _ rfl).1, (HW0.out _ rfl).2.1, (HW0.out _ rfl).2.2⟩
  case round =>
    clear HW0 hmm
    obtain ⟨k, hk, rfl, HG, HX, hbr⟩ := hrel
    by_cases hlt' : k < xs.length
    · have HT : Hid (gNames ((xs.map (·.name)).take (k + 1)) = (gNames ((xs.map (·.name)).take k)).add xs[k].name) := by
        have := gNames_take (xs.map (·.name)) k (by rw [List.length_map]; exact hlt')
        rw [List.getElem_map] at this
        exact this
      have hnk := gNames_len ((xs.map (·.name)).take k)
      have hnk2 : ((xs.map (·.name)).take k).length ≤ k := by rw [List.length_take]; omega
      have hokk := (gNames_ok ((xs.map (·.name)).take k)).1
      rcases ha with rfl | ⟨b, off, rfl, hlt, ha⟩
      · simp at hlt'
      obtain ⟨cs, hL, hcell⟩ := ha k hlt'
      have hBr : ∀ b, S b → b < wr.heap.size := fun b h => Nat.lt_of_lt_of_le (hB b h) hbr.size
      have hcell2 := hcell.keep (.of hbr hB) hlt
      replace hL := shPack.keep (.of hbr hB) hL
      obtain ⟨hw1, hw2, hw3⟩ := hwe xs[k] (List.getElem_mem hlt')
      obtain ⟨G, hG⟩ : ∃ G, G = gNames ((xs.map (·.name)).take k) := ⟨_, rfl⟩
      rw [← hG] at HG HT hnk hokk
      obtain ⟨d, hd⟩ : ∃ d, d = xs[k] := ⟨_, rfl⟩
      rw [← hd] at hL HT hw2
      obtain ⟨u0, u1, u2, rfl, _, r0, p0, r1', r2'⟩ := hL
      obtain ⟨a0, c0, eu0, _⟩ := id r0
      rw [length_strsV] at eu0
      obtain ⟨a1, c1, eu1, _⟩ := id r1'
      obtain ⟨a2, c2, eu2, _⟩ := id r2'
      subst eu0 eu1 eu2
      have e0 : wr.cell? ⟨b, off + k * 4, none⟩ = some (.string d.name) := hcell2 0 (by simp)
      have e1 : wr.cell? ⟨b, off + k * 4 + 1, none⟩ = some (.slice a0 d.uses.length c0) := hcell2 1 (by simp)
      have e2 : wr.cell? ⟨b, off + k * 4 + 2, none⟩ = some (.slice a1 d.needs.length c1) := hcell2 2 (by simp)
      have e3 : wr.cell? ⟨b, off + k * 4 + 3, none⟩ = some (.slice a2 d.cmds.length c2) := hcell2 3 (by simp)
      have hki : (k : Int) < (xs.length : Int) := by omega
      obtain ⟨t, ht⟩ : ∃ t, t = d.name := ⟨_, rfl⟩
      rw [← ht] at e0 HT hw2
      have hb0 : Below wr.heap.size wr (wr.alloc (.cells #[.string t, .slice a0 d.uses.length c0, .slice a1 d.needs.length c1, .slice a2 d.cmds.length c2] 33)) := (Below.refl _ _).alloc (Nat.le_refl _) _
      have HN := hidden (numberOf_c (w.heap.size + 1) (w.heap.size + 2) 0 G t _ (HG.out.below hb0) hokk (by unfold maxLen; omega) (by omega))
      have k0 := hbr.trans (hb0.mono hbr.size)
      have hrl : w.heap.size < wr.heap.size := (Array.getElem?_eq_some_iff.1 HX.out).1
      have HX0 := hidden ((hb0.block _ hrl).trans HX.out)
      clear ha hd ht hcell hcell2 r0 r1' r2' p0 hG HG HX hw3 hw1 hnk hnk2 hbr
      go_wp2_with (go_at_call 54; refine HN.out.mono ?_; rintro e w1 ⟨rfl, G1, b1⟩)
      have k1 : Below w.heap.size w w1 := k0.trans (b1.mono (by omega))
      have HX1 := hidden ((b1.block w.heap.size (by omega)).trans HX0.out)
      have HG1' := hidden G1
      clear HN b1 k0 HX0 e0 e1 e2 e3 hb0 G1
      go_wp2_with fail
      go_roundw
      case rel => exact ⟨k + 1, by omega, by go_num, by rw [HT.out]; exact HG1'.out, HX1, k1⟩
      case measure => simp [intOf]; omega
    · have he : k = xs.length := by omega
      subst he
      have HGe : Hid (GrM (w.heap.size + 1) wr (w.heap.size + 2) 0 g1) := by
        have := HG.out
        rw [show (xs.map (·.name)).take xs.length = xs.map (·.name) by rw [← List.length_map (f := fun d : PackD => d.name), List.take_length], ← HG1.out] at this
        exact this
      clear HG
      obtain ⟨mb, vn, vu, vb, us, bs, hbox, hp, C⟩ := HGe.out
      obtain ⟨qn, xn, en⟩ := owns_slG C.names
      subst en
      have c1 : wr.cell? ⟨w.heap.size + 2, 1, none⟩ = some (.slice qn g1.N.length xn) := vblk_cell hbox 1
      have c2 : wr.cell? ⟨w.heap.size + 2, 2, none⟩ = some (.int .i64 0) := vblk_cell hbox 2
      have f2 := vblk_frozen hbox 2
      have HG2 : Hid (GrM (w.heap.size + 1) (wr.setCell ⟨w.heap.size + 2, 2, none⟩ (.int .i64 (g1.N.length : Int))) (w.heap.size + 2) g1.N.length g1) := ⟨mb, _, vu, vb, us, bs, heap_setCell_same wr (w.heap.size + 2) 2 _ _ (.int .i64 (g1.N.length : Int)) hbox, hp, C.other (grown_set wr (w.heap.size + 2) 2 _) hbox ⟨by decide, by decide, by decide⟩⟩
      have HB2 : Hid (Below w.heap.size w (wr.setCell ⟨w.heap.size + 2, 2, none⟩ (.int .i64 (g1.N.length : Int)))) := Below.setCell hbr (by show _ ≤ w.heap.size + 2; omega) _
      have HX2 : Hid ((wr.setCell ⟨w.heap.size + 2, 2, none⟩ (.int .i64 (g1.N.length : Int))).heap[w.heap.size]? = some (.cells #[.map none, .slice none 0 0, .int .i64 0, .slice none 0 0, .slice none 0 0] 53 (0, 0))) := ((grown_set wr (w.heap.size + 2) 2 _).block w.heap.size (Array.getElem?_eq_some_iff.1 HX.out).1 (fun e => by have := Option.some.inj e; omega)).trans HX.out
      obtain ⟨nv, hnv⟩ : ∃ n : Int, n = (g1.N.length : Int) := ⟨_, rfl⟩
      rw [← hnv] at HG2 HB2 HX2
      have HNV := hidden hnv
      rw [HNV.out] at HG2 HB2 HX2
      clear C hbox HGe HX hbr hnv
      go_wp2_with fail
      go_loopw [26] (fun vi wr => ∃ k : Nat, k ≤ xs.length ∧ vi = .int .i64 (k : Int) ∧ Hid (GrM (w.heap.size + 1) wr (w.heap.size + 2) g1.N.length (gUses g1 ((plOf xs).take k))) ∧ Hid (wr.heap[w.heap.size]? = some (.cells #[.map none, .slice none 0 0, .int .i64 0, .slice none 0 0, .slice none 0 0] 53 (0, 0))) ∧ Below w.heap.size w wr) (fun vi _ => xs.length - (intOf vi).toNat)
      case atStart => exact ⟨0, Nat.zero_le _, rfl, HG2, HX2, HB2.out⟩
      case round =>
        clear HG2 HX2 HB2 c1 c2 f2
        obtain ⟨k, hk, rfl, HG, HX, hbr⟩ := hrel
        by_cases hlt' : k < xs.length
        · have hkP : k < (plOf xs).length := by omega
          have HT : Hid (gUses g1 ((plOf xs).take (k + 1)) = (gUses g1 ((plOf xs).take k)).uses xs[k].name xs[k].uses) := by
            have := gUses_take g1 (plOf xs) k hkP
            simp only [plOf, List.getElem_map] at this ⊢
            exact this
          have hsz := gUses_size g1 ((plOf xs).take k)
          have hsk := sumU_take (plOf xs) k hkP
          have hsk2 : (plOf xs)[k].2.length = xs[k].uses.length := by simp [plOf]
          rw [hsk2] at hsk
          have hokk := (gUses_ok g1 hnok (fun i => (hrows1 i).1) ((plOf xs).take k) (fun d hd => (hnm _).2 (by
            have hd2 := List.mem_of_mem_take hd
            unfold plOf at hd2
            obtain ⟨d', hd', rfl⟩ := List.mem_map.1 hd2
            exact List.mem_map.2 ⟨d', hd', rfl⟩))).1
          rcases ha with rfl | ⟨b, off, rfl, hlt, ha⟩
          · simp at hlt'
          obtain ⟨cs, hL, hcell⟩ := ha k hlt'
          have hBr : ∀ b, S b → b < wr.heap.size := fun b h => Nat.lt_of_lt_of_le (hB b h) hbr.size
          have hcell2 := hcell.keep (.of hbr hB) hlt
          replace hL := shPack.keep (.of hbr hB) hL
          obtain ⟨hw1, hw2, hw3⟩ := hwe xs[k] (List.getElem_mem hlt')
          obtain ⟨G, hG⟩ : ∃ G, G = gUses g1 ((plOf xs).take k) := ⟨_, rfl⟩
          rw [← hG] at HG HT hsz hokk
          obtain ⟨d, hd⟩ : ∃ d, d = xs[k] := ⟨_, rfl⟩
          rw [← hd] at hL HT hw1 hw2 hw3 hsk
          obtain ⟨u0, u1, u2, rfl, _, r0, p0, r1', r2'⟩ := hL
          have hEE : ∀ i, (rowAt G.U i).length + d.uses.length ≤ 1099511627776 ∧ (rowAt G.B i).length + d.uses.length ≤ 1099511627776 := fun i => by
            have h1 := hsz.2 i
            rw [(hrows1 i).1, (hrows1 i).2] at h1
            simp only [List.length_nil] at h1
            omega
          have hNN : G.N.length + d.uses.length ≤ 4194303 := by have := hsz.1; omega
          have HN' : ∀ w1, Below wr.heap.size wr w1 → Calls Try.prog 55 #[.pointer (some ⟨w.heap.size + 2, 0, none⟩), .string d.name, u0] w1 fun e w' => e = .returned (.tuple #[]) ∧ GrM (w.heap.size + 1) w' (w.heap.size + 2) g1.N.length (G.uses d.name d.uses) ∧ Below (w.heap.size + 1) w1 w' := fun w1 h1 =>
            addUses_c (w.heap.size + 1) (w.heap.size + 2) g1.N.length G d.name S u0 d.uses w1 (HG.out.below h1) hokk (r0.keep (.of h1 hBr)) (fun b hb => by have := hB b hb; omega) (by unfold maxLen; omega) hw3 hNN hEE
          have HN := hidden HN'
          clear HN'
          obtain ⟨a0, c0, eu0, _⟩ := id r0
          rw [length_strsV] at eu0
          obtain ⟨a1, c1, eu1, _⟩ := id r1'
          obtain ⟨a2, c2, eu2, _⟩ := id r2'
          subst eu0 eu1 eu2
          have e0 : wr.cell? ⟨b, off + k * 4, none⟩ = some (.string d.name) := hcell2 0 (by simp)
          have e1 : wr.cell? ⟨b, off + k * 4 + 1, none⟩ = some (.slice a0 d.uses.length c0) := hcell2 1 (by simp)
          have e2 : wr.cell? ⟨b, off + k * 4 + 2, none⟩ = some (.slice a1 d.needs.length c1) := hcell2 2 (by simp)
          have e3 : wr.cell? ⟨b, off + k * 4 + 3, none⟩ = some (.slice a2 d.cmds.length c2) := hcell2 3 (by simp)
          have hki : (k : Int) < (xs.length : Int) := by omega
          obtain ⟨t, ht⟩ : ∃ t, t = d.name := ⟨_, rfl⟩
          rw [← ht] at e0 HT HN
          have hb0 : Below wr.heap.size wr (wr.alloc (.cells #[.string t, .slice a0 d.uses.length c0, .slice a1 d.needs.length c1, .slice a2 d.cmds.length c2] 33)) := (Below.refl _ _).alloc (Nat.le_refl _) _
          have k0 := hbr.trans (hb0.mono hbr.size)
          have hrl : w.heap.size < wr.heap.size := (Array.getElem?_eq_some_iff.1 HX.out).1
          have HX0 := hidden ((hb0.block _ hrl).trans HX.out)
          clear ha hd ht hcell hcell2 r0 r1' r2' p0 hG HG HX hw3 hw1 hw2 hbr hEE hNN hsz hsk hsk2 hokk
          go_wp2_with (go_at_call 55; refine (HN.out _ hb0).mono ?_; rintro e w1 ⟨rfl, G1, b1⟩)
          have k1 : Below w.heap.size w w1 := k0.trans (b1.mono (by omega))
          have HX1 := hidden ((b1.block w.heap.size (by omega)).trans HX0.out)
          have HG1' := hidden G1
          clear HN b1 k0 HX0 e0 e1 e2 e3 hb0 G1
          go_wp2_with fail
          go_roundw
          case rel => exact ⟨k + 1, by omega, by go_num, by rw [HT.out]; exact HG1'.out, HX1, k1⟩
          case measure => simp [intOf]; omega
        · have he : k = xs.length := by omega
          subst he
          have HGe : Hid (GrM (w.heap.size + 1) wr (w.heap.size + 2) g1.N.length (gUses g1 (plOf xs))) := by
            have := HG.out
            rw [← hPl, List.take_length] at this
            exact this
          clear HG ha
          obtain ⟨mb, vn, vu, vb, us, bs, hbox, hp, C⟩ := HGe.out
          obtain ⟨qn, nn, xn, en⟩ : ∃ q n c, vn = .slice q n c := by obtain ⟨q, c, e⟩ := owns_slG C.names; exact ⟨q, _, c, e⟩
          obtain ⟨qu, nu, xu, eu⟩ : ∃ q n c, vu = .slice q n c := by obtain ⟨q, c, e⟩ := owns_slG C.ru; exact ⟨q, _, c, e⟩
          obtain ⟨qb, nb, xb, eb⟩ : ∃ q n c, vb = .slice q n c := by obtain ⟨q, c, e⟩ := owns_slG C.rb; exact ⟨q, _, c, e⟩
          subst en eu eb
          have c0 : wr.cell? ⟨w.heap.size + 1 + 1, 0, none⟩ = some (.map (some mb)) := vblk_cell hbox 0
          have c1 : wr.cell? ⟨w.heap.size + 1 + 1, 1, none⟩ = some (.slice qn nn xn) := vblk_cell hbox 1
          have c2 : wr.cell? ⟨w.heap.size + 1 + 1, 2, none⟩ = some (.int .i64 (g1.N.length : Int)) := vblk_cell hbox 2
          have c3 : wr.cell? ⟨w.heap.size + 1 + 1, 3, none⟩ = some (.slice qu nu xu) := vblk_cell hbox 3
          have c4 : wr.cell? ⟨w.heap.size + 1 + 1, 4, none⟩ = some (.slice qb nb xb) := vblk_cell hbox 4
          have hx := HX.out
          have r0 : wr.cell? ⟨w.heap.size, 0, none⟩ = some (.map none) := vblk_cell hx 0
          have r1 : wr.cell? ⟨w.heap.size, 1, none⟩ = some (.slice none 0 0) := vblk_cell hx 1
          have r2 : wr.cell? ⟨w.heap.size, 2, none⟩ = some (.int .i64 0) := vblk_cell hx 2
          have r3 : wr.cell? ⟨w.heap.size, 3, none⟩ = some (.slice none 0 0) := vblk_cell hx 3
          have r4 : wr.cell? ⟨w.heap.size, 4, none⟩ = some (.slice none 0 0) := vblk_cell hx 4
          have fz := vblk_frozen hx
          have HC : Hid (∀ v0 v1 v2 v3 v4 : Value, GrC w.heap.size (((((wr.setCell ⟨w.heap.size, 0, none⟩ v0).setCell ⟨w.heap.size, 1, none⟩ v1).setCell ⟨w.heap.size, 2, none⟩ v2).setCell ⟨w.heap.size, 3, none⟩ v3).setCell ⟨w.heap.size, 4, none⟩ v4) mb (.slice qn nn xn) (.slice qu nu xu) (.slice qb nb xb) us bs (gUses g1 (plOf xs)).N (gUses g1 (plOf xs)).N (gUses g1 (plOf xs)).U (gUses g1 (plOf xs)).B noX noX ∧ Below w.heap.size w (((((wr.setCell ⟨w.heap.size, 0, none⟩ v0).setCell ⟨w.heap.size, 1, none⟩ v1).setCell ⟨w.heap.size, 2, none⟩ v2).setCell ⟨w.heap.size, 3, none⟩ v3).setCell ⟨w.heap.size, 4, none⟩ v4)) := fun v0 v1 v2 v3 v4 => by
            have hl : w.heap.size < w.heap.size + 1 := by omega
            have h0 := C.low (grown_set wr w.heap.size 0 v0) hl
            have h1 := h0.low (grown_set _ w.heap.size 1 v1) hl
            have h2 := h1.low (grown_set _ w.heap.size 2 v2) hl
            have h3 := h2.low (grown_set _ w.heap.size 3 v3) hl
            have h4 := h3.low (grown_set _ w.heap.size 4 v4) hl
            exact ⟨h4.lower (by omega), Below.setCell (Below.setCell (Below.setCell (Below.setCell (Below.setCell hbr (Nat.le_refl _) _) (Nat.le_refl _) _) (Nat.le_refl _) _) (Nat.le_refl _) _) (Nat.le_refl _) _⟩
          have HX5 : Hid (∀ v0 v1 v2 v3 v4 : Value, (((((wr.setCell ⟨w.heap.size, 0, none⟩ v0).setCell ⟨w.heap.size, 1, none⟩ v1).setCell ⟨w.heap.size, 2, none⟩ v2).setCell ⟨w.heap.size, 3, none⟩ v3).setCell ⟨w.heap.size, 4, none⟩ v4).heap[w.heap.size]? = some (.cells #[v0, v1, v2, v3, v4] 53 (0, 0))) := fun v0 v1 v2 v3 v4 =>
            heap_setCell_same _ w.heap.size 4 _ _ v4 (heap_setCell_same _ w.heap.size 3 _ _ v3 (heap_setCell_same _ w.heap.size 2 _ _ v2 (heap_setCell_same _ w.heap.size 1 _ _ v1 (heap_setCell_same wr w.heap.size 0 _ _ v0 hx))))
          clear C hbox HGe hbr HX hx
          go_wp2_with fail
          obtain ⟨F1, F2⟩ := HC.out (.map (some mb)) (.slice qn nn xn) (.int .i64 (g1.N.length : Int)) (.slice qu nu xu) (.slice qb nb xb)
          have F3 := HX5.out (.map (some mb)) (.slice qn nn xn) (.int .i64 (g1.N.length : Int)) (.slice qu nu xu) (.slice qb nb xb)
          generalize (((((wr.setCell ⟨w.heap.size, 0, none⟩ (.map (some mb))).setCell ⟨w.heap.size, 1, none⟩ (.slice qn nn xn)).setCell ⟨w.heap.size, 2, none⟩ (.int .i64 (g1.N.length : Int))).setCell ⟨w.heap.size, 3, none⟩ (.slice qu nu xu)).setCell ⟨w.heap.size, 4, none⟩ (.slice qb nb xb)) = W5 at F1 F2 F3 ⊢
          have o0 := vblk_cell F3 0
          have o1 := vblk_cell F3 1
          have o2 := vblk_cell F3 2
          have o3 := vblk_cell F3 3
          have o4 := vblk_cell F3 4
          simp only [List.getElem?_toArray, List.getElem?_cons_succ, List.getElem?_cons_zero] at o0 o1 o2 o3 o4
          clear HC HX5 c0 c1 c2 c3 c4 r0 r1 r2 r3 r4 fz
          refine bodyPost_ret (v := .agg #[.map (some mb), .slice qn nn xn, .int .i64 (g1.N.length : Int), .slice qu nu xu, .slice qb nb xb]) (by simp [results, Try.results29, go_sem, o0, o1, o2, o3, o4]) rfl ⟨mb, _, _, _, us, bs, rfl, F1, F2⟩
end Go.Proofs.Ytbhedlobiagngaa

/-! A range over a function whose body always goes on: what the iterator writes and what the body writes are told apart by the types of blocks: a law for the walks; conditions as it says. -/
namespace Go.Proofs.Ytbhedlobiagngaa
open Go.RowKit Go.Shelf
set_option linter.unusedSimpArgs false
set_option linter.unusedVariables false

/-- What an iterator may turn: new blocks, and blocks of numbers and of bools. -/
def ItRow (n₀ : Nat) (W : World) (row : Option Nat) : Prop := ∀ r, row = some r → n₀ ≤ r ∧ ∃ cs t fz, (t = 3 ∨ t = 4) ∧ W.heap[r]? = some (.cells cs t fz)
def AbT {β : Type} (n₀ : Nat) (J : β → World → Prop) : Prop := ∀ s W W' row, J s W → W.grownBy W' row → ItRow n₀ W row → J s W'
/-- What the loop's own record may turn. -/
def RecRow (B : Nat) (W : World) (row : Option Nat) : Prop := ∀ r, row = some r → B ≤ r ∧ ∃ o : Obj, W.heap[r]? = some o ∧ o.isCells = false
def AbR {β : Type} (B : Nat) (J : β → World → Prop) : Prop := ∀ s W W' row, J s W → W.grownBy W' row → RecRow B W row → J s W'
/-- What a round keeps: all below n₀, and all blocks but those of texts and of lists of texts. -/
structure KpT (n₀ : Nat) (W W' : World) : Prop where
  below : Below n₀ W W'
  same : ∀ (r : Nat) (cs : Array Value) (t : TypeId) (fz : Nat × Nat), t ≠ 26 → t ≠ 9 → W.heap[r]? = some (.cells cs t fz) → W'.heap[r]? = some (.cells cs t fz)
theorem KpT.trans {n₀ : Nat} {A B C : World} (h : KpT n₀ A B) (k : KpT n₀ B C) : KpT n₀ A C := ⟨h.below.trans k.below, fun r cs t fz h1 h2 hr => k.same r cs t fz h1 h2 (h.same r cs t fz h1 h2 hr)⟩
theorem kpt_rec {n₀ l : Nat} {W : World} {o : Obj} (o' : Obj) (hn : n₀ ≤ l) (hl : W.heap[l]? = some o) (ho : o.isCells = false) : KpT n₀ W (W.putObj l o') := by
  have hg := grownBy_putObj' W l o'
  refine ⟨⟨hg.os, hg.tape, hg.output, hg.size, fun k hk => hg.block k (by have := (Array.getElem?_eq_some_iff.1 hl).1; omega) (fun e => by have := Option.some.inj e; omega)⟩, fun r cs t fz _ _ hr => ?_⟩
  rw [hg.block r (Array.getElem?_eq_some_iff.1 hr).1 (fun e => by
    obtain rfl : r = l := Option.some.inj e
    rw [hl] at hr
    cases hr
    simp [Obj.isCells] at ho)]
  exact hr
/-- What an iterator promises: what comes is S, whatever the rounds keep. -/
def SeqT {α : Type} (n : Nat) (P : Program) (g : Nat) (lb : Array Value) (encs : α → Array Value) (n₀ : Nat) (Ok : List α → α → Prop) (S : List α → Prop) (w : World) : Prop :=
  ∀ (l : Nat) (J : List α → World → Prop) (W : World), Below w.heap.size w W → AbT n₀ J →
    (∀ pre x W1, J pre W1 → Ok pre x → YieldAt Fence.wide (n - 1) P l (encs x) W1 fun e W' => e = .returned (.bool true) ∧ J (pre ++ [x]) W' ∧ KpT n₀ W1 W') →
    J [] W → CallsIn Fence.wide n P g (#[.func (.yield l) #[] #[]] ++ lb) W fun e W' => (∃ v, e = .returned v) ∧ ∃ xs, S xs ∧ J xs W'
/-- How a body that always goes on is left. -/
def goPost {α : Type} (n₀ : Nat) (I : List α → World → Prop) (xs : List α) (W : World) : Exit → Act → World → Prop
  | .normal, _, W' => KeepsOthers W W' ∧ KpT n₀ W W' ∧ I xs W'
  | _, _, _ => False
theorem range_goes {α : Type} {P : Program} {n : Nat} {g : Operand} {ps : Array Tmp} {assign body : Code} {Q : Exit → Act → World → Prop} {a : Act} {w : World}
    {gf : Nat} {lb : Array Value} (hg : a.eval g = .func (.func gf) #[] lb) (eg : ∀ args w, (callFunc gf args).run P w = .ok (.enter gf args) w)
    {encs : α → Array Value} {n₀ : Nat} {Ok : List α → α → Prop} {S : List α → Prop} (hseq : SeqT (n - 1) P gf lb encs n₀ Ok S w) (hn : n₀ ≤ w.heap.size) (hps : ∀ x, (encs x).size = ps.size)
    (I : List α → World → Prop) (hIt : AbT n₀ I) (hIr : AbR w.heap.size I) (h0 : I [] w) (a₁ : α → Act)
    (hassign : ∀ (l : Nat) (x : α) (W : World) (K : Act → World → Prop), K (a₁ x) W → assign.wpIn (Fence.wide.inRound l) (n - 1 - 1) P (Exit.then K (fun _ _ _ => False)) { tmps := (ps.zip (encs x)).foldl (fun t (p, v) => t.setIfInBounds p v) a.tmps, defers := [] } W)
    (hbody : ∀ (l : Nat) (pre : List α) (x : α) (W : World), I pre W → Ok pre x → body.wpIn (Fence.wide.inRound l) (n - 1 - 1) P (goPost n₀ I (pre ++ [x]) W) (a₁ x) W)
    (hdone : ∀ (D : Nat) (xs : List α) (W : World), w.heap.size ≤ D → S xs → I xs W → W.heap[D]? = some (.deferred (some [])) → Q .normal { a with defers := { target := .collected D, args := #[] } :: a.defers } W) :
    (Code.rangeFunc g ps assign body).wpIn Fence.wide n P Q a w := by
  refine wpIn_rangeFunc fun fn hfn => ?_
  show ∃ (l : Nat) (mark : List Deferred) (w₁ : World) (d : Deferred) (w₁' : World) (f : FuncId) (args : Array Value) (w₂ : World), (Instr.enterLoop fn a.tmps ps assign body none).run P w = .ok (l, mark) w₁ ∧ _
  obtain ⟨rc, hrc⟩ : ∃ rc : LoopState → Option Code → Loop, rc = fun st pe => { state := st, pending := pe, fn, tmps := a.tmps, params := ps, assign, body, defers := w.heap.size } := ⟨_, rfl⟩
  have hen := run_enterLoop_outer (P := P) (w := w) fn a.tmps ps assign body
  have hrd : (⟨.ready, none, fn, a.tmps, ps, assign, body, w.heap.size⟩ : Loop) = rc .ready none := by rw [hrc]
  obtain ⟨V, hV⟩ : ∃ V, V = (w.alloc (.deferred (some []))).alloc (.loop (rc .ready none)) := ⟨_, rfl⟩
  have z1 : (w.alloc (.deferred (some []))).heap.size = w.heap.size + 1 := World.size_alloc _ _
  have vl : V.heap[w.heap.size + 1]? = some (.loop (rc .ready none)) := by
    rw [hV, ← z1]; exact World.alloc_heap_new _ _
  have vd : V.heap[w.heap.size]? = some (.deferred (some [])) := by
    rw [hV, Below.heap_alloc _ _ _ (by rw [z1]; omega)]; exact World.alloc_heap_new w _
  have vb : Below w.heap.size w V := by rw [hV]; exact ((Below.refl _ w).alloc (Nat.le_refl _) _).alloc (by rw [z1]; omega) _
  have vi : I [] V := by
    rw [hV]
    exact hIr [] _ _ none (hIr [] _ _ none h0 (World.grownBy_alloc w _ none) (fun r e => by cases e)) (World.grownBy_alloc _ _ none) (fun r e => by cases e)
  refine ⟨w.heap.size + 1, [{ target := .collected w.heap.size, args := #[] }], V, { target := .fn (.func gf) lb, args := #[.func (.yield (w.heap.size + 1)) #[] #[]] }, V, gf, #[.func (.yield (w.heap.size + 1)) #[] #[]] ++ lb, V, ?_, ?_, fun _ _ => trivial, ?_, fun h => (by cases h), ?_⟩
  · rw [hen, hV, hrc]
  · simp only [resolve, hg]
    simp [go_sem]
  · simp [invoke, go_sem, eg]
  -- cells and the loop's own blocks are apart
  have far : ∀ {A B : World} {row : Option Nat} {k : Nat} {o : Obj}, A.grownBy B row → ItRow n₀ A row → A.heap[k]? = some o → o.isCells = false → B.heap[k]? = some o := fun {A B row k o} hgr hr hk ho => by
    rw [hgr.block k (Array.getElem?_eq_some_iff.1 hk).1 (fun e => by
      obtain ⟨_, cs, t, fz, _, hc⟩ := hr k e.symm
      rw [hk] at hc
      cases hc
      simp [Obj.isCells] at ho)]
    exact hk
  refine (hseq (w.heap.size + 1) (fun pre W => I pre W ∧ W.heap[w.heap.size + 1]? = some (.loop (rc .ready none)) ∧ W.heap[w.heap.size]? = some (.deferred (some []))) V vb (fun s A B row hs hgr hr => ⟨hIt s A B row hs.1 hgr hr, far hgr hr hs.2.1 rfl, far hgr hr hs.2.2 rfl⟩) ?_ ⟨vi, vl, vd⟩).mono ?_
  · rintro pre x W ⟨hi, hl, hd⟩ hok
    have hlt : w.heap.size + 1 < W.heap.size := (Array.getElem?_eq_some_iff.1 hl).1
    have hy := run_yield (P := P) (args := encs x) hl (by rw [hrc]; exact hps x)
    rw [hrc] at hy
    obtain ⟨busy, hbusy⟩ : ∃ r : Loop, r = { rc .ready none with state := .busy } := ⟨_, rfl⟩
    have hbr : (Instr.beginRound (w.heap.size + 1)).run P W = .ok () (W.putObj (w.heap.size + 1) (.loop busy)) := by rw [hbusy]; exact run_beginRound hl (by rw [hrc])
    have bl : (W.putObj (w.heap.size + 1) (.loop busy)).heap[w.heap.size + 1]? = some (.loop busy) := World.putObj_heap_same hlt
    have bd : (W.putObj (w.heap.size + 1) (.loop busy)).heap[w.heap.size]? = some (.deferred (some [])) := (World.putObj_heap_other (by omega)).trans hd
    have bi : I pre (W.putObj (w.heap.size + 1) (.loop busy)) := hIr pre _ _ (some (w.heap.size + 1)) hi (grownBy_putObj' _ _ _) (fun r e => by cases e; exact ⟨by omega, _, hl, rfl⟩)
    have bk : KpT n₀ W (W.putObj (w.heap.size + 1) (.loop busy)) := kpt_rec _ (by omega) hl rfl
    refine ⟨fn, _, assign, body, hy, roundIn_of_wpIn hfn (hassign _ x W _ ⟨_, hbr, wpIn_mono (hbody _ pre x _ bi hok) ?_⟩)⟩
    rintro e a3 W3 hp
    cases e with
    | normal =>
      obtain ⟨ho, hk, hi3⟩ := hp
      have l3 := ho.same _ _ bl rfl
      have d3 := ho.same _ _ bd rfl
      have hlt3 := (Array.getElem?_eq_some_iff.1 l3).1
      have her := run_endRound (P := P) none l3
      have hback : ({ busy with state := if (none : Option Code).isNone then .ready else .done, pending := none } : Loop) = rc .ready none := by rw [hbusy, hrc]; rfl
      rw [hback] at her
      refine ⟨_, _, her, rfl, ⟨?_, World.putObj_heap_same hlt3, (World.putObj_heap_other (by omega)).trans d3⟩, (bk.trans hk).trans (kpt_rec _ (by omega) l3 rfl)⟩
      exact hIr _ _ _ (some (w.heap.size + 1)) hi3 (grownBy_putObj' _ _ _) (fun r e => by cases e; exact ⟨by omega, _, l3, rfl⟩)
    | ret => exact hp.elim
    | exit id => exact hp.elim
    | goto t => exact hp.elim
    | panic ch => exact hp.elim
    | outgrown => exact hp.elim
  · rintro e W2 ⟨⟨v, rfl⟩, xs, hS, hi, hl, hd⟩
    have hel := run_endLoop (P := P) hl (by rw [hrc]; simp)
    rw [hrc] at hel
    refine ⟨none, _, hel, hdone w.heap.size xs _ (Nat.le_refl _) hS ?_ ((World.putObj_heap_other (by omega)).trans hd)⟩
    exact hIr _ _ _ (some (w.heap.size + 1)) hi (grownBy_putObj' _ _ _) (fun r e => by cases e; exact ⟨by omega, _, hl, rfl⟩)
end Go.Proofs.Ytbhedlobiagngaa

/-! A row of numbers that is gone through from its front and added to behind: what lies in memory, one taken, one added: laws for the walks; conditions as each says. -/
namespace Go.Proofs.Ytbhedlobiagngaa
open Go.RowKit Go.Shelf
set_option linter.unusedSimpArgs false
set_option linter.unusedVariables false

/-- A row of numbers at some place of a block. -/
def Que (lo : Nat) (w : World) (v : Value) (q : List Nat) : Prop := ∃ (g off cap : Nat) (cur : Array Value), v = .slice (some ⟨g, off, none⟩) q.length cap ∧ lo ≤ g ∧ w.heap[g]? = some (.cells cur 3 (0, 0)) ∧ q.length ≤ cap ∧ off + cap ≤ cur.size ∧ ∀ j (h : j < q.length), cur[off + j]? = some (.int .i64 (q[j] : Int))
theorem Que.kept {lo : Nat} {w w' : World} {v : Value} {q : List Nat} (h : Que lo w v q) (hk : ∀ (g : Nat) (cur : Array Value), w.heap[g]? = some (Obj.cells cur 3 (0, 0)) → w'.heap[g]? = some (Obj.cells cur 3 (0, 0))) : Que lo w' v q := by
  obtain ⟨g, off, cap, cur, h1, h2, h3, h4⟩ := h
  exact ⟨g, off, cap, cur, h1, h2, hk g cur h3, h4⟩
theorem Que.of_row {lo : Nat} {w : World} {v : Value} {q : List Nat} {g : Nat} (h : w.ownsRow lo 3 1 v q.length (intsV q)) (hg : v.ownBlock = some g) : Que lo w v q := by
  rcases h.2 with ⟨rfl, _⟩ | ⟨g', cap, cur, rfl, hb, hh, hnc, _, hcs, ht⟩
  · cases hg
  · refine ⟨g', 0, cap, cur, rfl, hb, hh, hnc, by omega, fun j hj => ?_⟩
    have h1 := intsV_at hj
    rw [← ht, List.getElem?_take] at h1
    rw [if_pos (by omega)] at h1
    rw [Nat.zero_add, ← h1]
    simp
theorem Que.head {lo : Nat} {w : World} {g off n cap : Nat} {x : Nat} {q : List Nat} (h : Que lo w (.slice (some ⟨g, off, none⟩) n cap) (x :: q)) : w.cell? ⟨g, off, none⟩ = some (.int .i64 (x : Int)) ∧ n = q.length + 1 ∧ q.length + 1 ≤ cap := by
  obtain ⟨g', off', cap', cur, h1, _, h3, h4, _, h6⟩ := h
  injection h1 with e1 e2 e3
  injection e1 with e1
  injection e1 with e4 e5
  subst e4 e5 e3
  refine ⟨?_, by rw [e2, List.length_cons], by rw [List.length_cons] at h4; exact h4⟩
  rw [vblk_cell h3]
  have := h6 0 (by simp)
  simpa using this
/-- One is taken. -/
theorem Que.tail {lo : Nat} {w : World} {g off n cap : Nat} {x : Nat} {q : List Nat} (h : Que lo w (.slice (some ⟨g, off, none⟩) n cap) (x :: q)) : Que lo w (.slice (if cap = 1 then some ⟨g, off, none⟩ else some ⟨g, off + 1, none⟩) q.length (cap - 1)) q := by
  obtain ⟨g', off', cap', cur, h1, h2, h3, h4, h5, h6⟩ := h
  injection h1 with e1 e2 e3
  injection e1 with e1
  injection e1 with e4 e5
  subst e4 e5 e3
  rw [List.length_cons] at h4
  by_cases hc : cap = 1
  · rw [if_pos hc]
    have hq : q = [] := List.eq_nil_of_length_eq_zero (by omega)
    subst hq
    exact ⟨g, off, cap - 1, cur, rfl, h2, h3, by simp, by omega, fun j hj => by simp at hj⟩
  · rw [if_neg hc]
    refine ⟨g, off + 1, cap - 1, cur, rfl, h2, h3, by omega, by omega, fun j hj => ?_⟩
    have := h6 (j + 1) (by simp; omega)
    rw [List.getElem_cons_succ] at this
    rw [show off + 1 + j = off + (j + 1) by omega]
    exact this
/-- One is added. -/
theorem wp_que {lo : Nat} {w : World} {o : Oper} {a : Act} {K : Act → World → Prop} {Q : Exit → Act → World → Prop} (s y : Operand)
    (ho : o.op = .call { callee := .builtin .append, args := #[s, y], argTypes := #[59, 59] }) (v : Value) (q : List Nat) (hs : a.eval s = v) (hq : Que lo w v q)
    (q1 x : Nat) (hx : a.eval y = .slice (some ⟨q1, 0, none⟩) 1 1) (hsrc : w.cell? ⟨q1, 0, none⟩ = some (.int .i64 (x : Int))) (hl : q.length ≤ 1099511627776) (hlo : lo ≤ w.heap.size)
    (h : ∀ v' w' row, Que lo w' v' (q ++ [x]) → w.grownBy w' row → ItRow lo w row → (∀ r, row = some r → lo ≤ r) → K (a.put o.dst v') w') : o.wp Try.prog a w K Q := by
  obtain ⟨i0, hi, hz0, hz1, hz2⟩ := info_parts infoI
  obtain ⟨g, off, cap, cur, rfl, h2, h3, h4, h5, h6⟩ := hq
  have hnews : ∀ j u, [Value.int .i64 (x : Int)][j]? = some u → w.cell? ((⟨q1, 0, none⟩ : Addr).add j) = some u := fun j u hu => by
    have hj : j = 0 := by have := (List.getElem?_eq_some_iff.1 hu).1; simp at this; exact this
    subst hj
    simp at hu
    subst hu
    rw [addr_addZ]
    exact hsrc
  by_cases hroom : q.length + 1 ≤ cap
  · have hin : off + q.length < cur.size := by omega
    have hr := run_append_room_cells (P := Try.prog) w 59 o.type 3 i0 Try.underlying59 hi g off q.length cap ⟨q1, 0, none⟩ 1 1 [.int .i64 (x : Int)] (by rw [hz1]; rfl) hnews (fun u hu => by simp at hu; subst hu; rfl) hroom
      (fun j hj => by
        have hj : j = 0 := by simp at hj; exact hj
        subst hj
        rw [hz1, vblk_cell h3]
        simp [hin])
      (fun j hj => vblk_frozen h3 _)
    rw [hz1, Nat.mul_one] at hr
    have hset : w.setCells g (off + q.length) [.int .i64 (x : Int)] = w.setCell ⟨g, off + q.length, none⟩ (.int .i64 (x : Int)) := rfl
    rw [hset] at hr
    unfold Oper.wp execOp
    simp only [ho, resolve, invoke, builtin, Sem.run_bind, Sem.run_pure, Result.andThen_ok, List.map_toArray, List.map_cons, List.map_nil, hs, hx, hr]
    refine h _ _ (some g) ⟨g, off, cap, cur.setIfInBounds (off + q.length) (.int .i64 (x : Int)), by rw [List.length_append, List.length_singleton], h2, heap_setCell_same w g (off + q.length) cur 3 _ h3, by rw [List.length_append, List.length_singleton]; exact hroom, by simpa using h5, fun j hj => ?_⟩ (grown_set w g (off + q.length) _) (fun r e => by cases e; exact ⟨h2, cur, 3, (0, 0), .inl rfl, h3⟩) (fun r e => by cases e; exact h2)
    rw [List.length_append, List.length_singleton] at hj
    by_cases e : j = q.length
    · subst e
      rw [Array.getElem?_setIfInBounds_self_of_lt hin]
      simp
    · rw [Array.getElem?_setIfInBounds_ne (by omega), h6 j (by omega)]
      rw [List.getElem_append_left (by omega)]
  · obtain ⟨v', w', hr, ho', hg'⟩ := run_append_arg_grows (P := Try.prog) w 59 o.type 3 i0 (.int .i64 0) 1 8 Try.underlying59 hi hz0 hz1 hz2 rfl (by decide) ⟨g, off, none⟩ q.length cap (intsV q) (by simp) (fun j u hu => by
        have hj : j < q.length := by have := (List.getElem?_eq_some_iff.1 hu).1; simpa using this
        rw [intsV_at hj] at hu
        have e : ((⟨g, off, none⟩ : Addr).add j) = ⟨g, off + j, none⟩ := by unfold Addr.add; split <;> simp_all
        rw [e, vblk_cell h3, h6 j hj]
        exact hu) ⟨q1, 0, none⟩ 1 1 [.int .i64 (x : Int)] rfl hnews (by omega) (by unfold maxLen; omega) (by omega)
    unfold Oper.wp execOp
    simp only [ho, resolve, invoke, builtin, Sem.run_bind, Sem.run_pure, Result.andThen_ok, List.map_toArray, List.map_cons, List.map_nil, hs, hx, hr]
    rw [← intsV_app] at ho'
    obtain ⟨g2, c2, e2⟩ := owns_pos ho' (by omega)
    refine h v' w' none ?_ hg' (fun r e => by cases e) (fun r e => by cases e)
    have := Que.of_row (q := q ++ [x]) (by rw [List.length_append, List.length_singleton]; exact owns_lo hlo ho') (g := g2) (by rw [e2]; rfl)
    exact this
end Go.Proofs.Ytbhedlobiagngaa

/-! Numbers gone through, the nearest first: told plainly; no condition. -/
namespace Go.Proofs.Ytbhedlobiagngaa
open Go.RowKit
set_option linter.unusedSimpArgs false
set_option linter.unusedVariables false

/-- What is reached by numbers. -/
inductive RchN (L : List (List Nat)) (s : Nat) : Nat → Prop
  | one {t : Nat} : t ∈ rowAt L s → RchN L s t
  | step {u t : Nat} : RchN L s u → t ∈ rowAt L u → RchN L s t
/-- While numbers are gone through, the nearest first. -/
structure Bfs (n : Nat) (L : List (List Nat)) (s : Nat) (que : List Nat) (pre : List (Nat × Nat)) : Prop where
  nd : (pre.map (·.1)).Nodup
  r : ∀ t ∈ pre.map (·.1), RchN L s t
  lt : ∀ t ∈ pre.map (·.1), t < n
  q : ∀ u ∈ que, u = s ∨ u ∈ pre.map (·.1)
  c : ∀ u, (u = s ∨ u ∈ pre.map (·.1)) → u ∈ que ∨ ∀ t ∈ rowAt L u, t ∈ pre.map (·.1)
/-- .. in the middle of one's list. -/
structure BfsMid (n : Nat) (L : List (List Nat)) (s f j : Nat) (que : List Nat) (pre : List (Nat × Nat)) : Prop where
  nd : (pre.map (·.1)).Nodup
  r : ∀ t ∈ pre.map (·.1), RchN L s t
  lt : ∀ t ∈ pre.map (·.1), t < n
  q : ∀ u ∈ que, u = s ∨ u ∈ pre.map (·.1)
  ff : f = s ∨ f ∈ pre.map (·.1)
  c : ∀ u, (u = s ∨ u ∈ pre.map (·.1)) → u ∈ que ∨ u = f ∨ ∀ t ∈ rowAt L u, t ∈ pre.map (·.1)
  d : ∀ t ∈ (rowAt L f).take j, t ∈ pre.map (·.1)
theorem Bfs.start (n : Nat) (L : List (List Nat)) (s : Nat) : Bfs n L s [s] [] :=
  ⟨List.nodup_nil, fun t h => (nomatch h), fun t h => (nomatch h), fun u h => .inl (by simpa using h), fun u h => .inl (by rcases h with h | h; simp [h]; cases h)⟩
theorem Bfs.pop {n : Nat} {L : List (List Nat)} {s f : Nat} {que : List Nat} {pre : List (Nat × Nat)} (h : Bfs n L s (f :: que) pre) : BfsMid n L s f 0 que pre :=
  ⟨h.nd, h.r, h.lt, fun u hu => h.q u (by simp [hu]), h.q f (by simp), fun u hu => by
    rcases h.c u hu with h1 | h1
    · rcases List.mem_cons.1 h1 with h1 | h1
      · exact .inr (.inl h1)
      · exact .inl h1
    · exact .inr (.inr h1), fun t ht => by simp at ht⟩
theorem BfsMid.skip {n : Nat} {L : List (List Nat)} {s f j : Nat} {que : List Nat} {pre : List (Nat × Nat)} (h : BfsMid n L s f j que pre) (hj : j < (rowAt L f).length) (hs : (rowAt L f)[j] ∈ pre.map (·.1)) : BfsMid n L s f (j + 1) que pre :=
  ⟨h.nd, h.r, h.lt, h.q, h.ff, h.c, fun t ht => by
    rw [List.take_succ_eq_append_getElem hj] at ht
    rcases List.mem_append.1 ht with ht | ht
    · exact h.d t ht
    · simp at ht; rw [ht]; exact hs⟩
theorem BfsMid.push {n : Nat} {L : List (List Nat)} {s f j : Nat} {que : List Nat} {pre : List (Nat × Nat)} (h : BfsMid n L s f j que pre) (hj : j < (rowAt L f).length) (hs : (rowAt L f)[j] ∉ pre.map (·.1)) (hn : (rowAt L f)[j] < n) : BfsMid n L s f (j + 1) (que ++ [(rowAt L f)[j]]) (pre ++ [((rowAt L f)[j], f)]) := by
  obtain ⟨t, ht⟩ : ∃ t, t = (rowAt L f)[j] := ⟨_, rfl⟩
  have hm : t ∈ rowAt L f := by rw [ht]; exact List.getElem_mem hj
  have hrt : RchN L s t := by
    rcases h.ff with e | e
    · rw [e] at hm; exact .one hm
    · exact .step (h.r f e) hm
  rw [← ht] at hs hn ⊢
  have hmap : (pre ++ [(t, f)]).map (·.1) = pre.map (·.1) ++ [t] := by simp
  have up : ∀ u, u ∈ pre.map (·.1) → u ∈ (pre ++ [(t, f)]).map (·.1) := fun u hu => by rw [hmap]; simp only [List.mem_append]; exact .inl hu
  refine ⟨?_, fun u hu => ?_, fun u hu => ?_, fun u hu => ?_, h.ff.imp_right (up f), fun u hu => ?_, fun u hu => ?_⟩
  · rw [hmap, List.nodup_append]
    exact ⟨h.nd, by simp, fun a ha b hb e => by simp only [List.mem_singleton] at hb; subst hb; subst e; exact hs ha⟩
  · rw [hmap] at hu
    rcases List.mem_append.1 hu with hu | hu
    · exact h.r u hu
    · simp only [List.mem_singleton] at hu; subst hu; exact hrt
  · rw [hmap] at hu
    rcases List.mem_append.1 hu with hu | hu
    · exact h.lt u hu
    · simp only [List.mem_singleton] at hu; subst hu; exact hn
  · rcases List.mem_append.1 hu with hu | hu
    · exact (h.q u hu).imp_right (up u)
    · simp only [List.mem_singleton] at hu; subst hu; rw [hmap]; exact .inr (by simp)
  · rw [hmap] at hu
    have hc : (u = s ∨ u ∈ pre.map (·.1)) ∨ u = t := by
      rcases hu with hu | hu
      · exact .inl (.inl hu)
      · rcases List.mem_append.1 hu with hu | hu
        · exact .inl (.inr hu)
        · simp only [List.mem_singleton] at hu; exact .inr hu
    rcases hc with hc | hc
    · rcases h.c u hc with h1 | h1 | h1
      · exact .inl (by simp [h1])
      · exact .inr (.inl h1)
      · exact .inr (.inr fun y hy => up y (h1 y hy))
    · exact .inl (by simp [hc])
  · rw [List.take_succ_eq_append_getElem hj, ← ht] at hu
    rcases List.mem_append.1 hu with hu | hu
    · exact up u (h.d u hu)
    · simp only [List.mem_singleton] at hu; subst hu; rw [hmap]; simp
theorem BfsMid.close {n : Nat} {L : List (List Nat)} {s f : Nat} {que : List Nat} {pre : List (Nat × Nat)} (h : BfsMid n L s f (rowAt L f).length que pre) : Bfs n L s que pre :=
  ⟨h.nd, h.r, h.lt, h.q, fun u hu => by
    rcases h.c u hu with h1 | h1 | h1
    · exact .inl h1
    · subst h1; exact .inr fun t ht => h.d t (by rw [List.take_length]; exact ht)
    · exact .inr h1⟩
theorem Bfs.all {n : Nat} {L : List (List Nat)} {s : Nat} {pre : List (Nat × Nat)} (h : Bfs n L s [] pre) (t : Nat) : t ∈ pre.map (·.1) ↔ RchN L s t := by
  have cl : ∀ u, (u = s ∨ u ∈ pre.map (·.1)) → ∀ t ∈ rowAt L u, t ∈ pre.map (·.1) := fun u hu => (h.c u hu).elim (fun e => nomatch e) id
  constructor
  · exact h.r t
  · intro hr
    induction hr with
    | one ht => exact cl s (.inl rfl) _ ht
    | step _ ht ih => exact cl _ (.inr ih) _ ht
theorem count_false_set : ∀ (sn : List Bool) (t : Nat), sn[t]? = some false → (sn.set t true).count false + 1 = sn.count false
  | [], t, h => by simp at h
  | b :: sn, 0, h => by simp at h; subst h; simp
  | b :: sn, t + 1, h => by
    have := count_false_set sn t (by simpa using h)
    rw [List.set_cons_succ, List.count_cons, List.count_cons]
    omega
end Go.Proofs.Ytbhedlobiagngaa

/-! Which names come in order one behind the other, the first that can be next always: told as a plain function; no condition. -/
namespace Go.Proofs.Ytbhedlobiagngaa
open Go.RowKit
set_option linter.unusedSimpArgs false
set_option linter.unusedVariables false

/-- Can a name be next, where these are done? -/
def rdyN (ns : List ByteArray) (nx : ByteArray → List ByteArray) (done : List ByteArray) (s : ByteArray) : Prop := s ∉ done ∧ ∀ x ∈ nx s, x ∈ done ∨ x ∉ ns
open Classical in
/-- The first name that can be next. -/
noncomputable def pickN (ns : List ByteArray) (nx : ByteArray → List ByteArray) (done : List ByteArray) : Option ByteArray := ns.find? fun s => decide (rdyN ns nx done s)
/-- What is in order behind so many steps. -/
noncomputable def ordN (ns : List ByteArray) (nx : ByteArray → List ByteArray) : Nat → List ByteArray
  | 0 => []
  | m + 1 => match pickN ns nx (ordN ns nx m) with
    | none => ordN ns nx m
    | some s => ordN ns nx m ++ [s]
theorem ordN_len (ns : List ByteArray) (nx : ByteArray → List ByteArray) (m : Nat) : (ordN ns nx m).length ≤ m := by
  induction m with
  | zero => simp [ordN]
  | succ m ih =>
    unfold ordN
    cases pickN ns nx (ordN ns nx m) with
    | none => simp; omega
    | some s => simp; omega
theorem ordN_stuck {ns : List ByteArray} {nx : ByteArray → List ByteArray} {m : Nat} (h : pickN ns nx (ordN ns nx m) = none) (j : Nat) : ordN ns nx (m + j) = ordN ns nx m := by
  induction j with
  | zero => rfl
  | succ j ih =>
    show ordN ns nx (m + j + 1) = _
    rw [ordN, ih, h]
theorem ordN_step {ns : List ByteArray} {nx : ByteArray → List ByteArray} {m : Nat} {s : ByteArray} (h : pickN ns nx (ordN ns nx m) = some s) : ordN ns nx (m + 1) = ordN ns nx m ++ [s] := by
  rw [ordN, h]
theorem pickN_some {ns : List ByteArray} {nx : ByteArray → List ByteArray} {done : List ByteArray} {k : Nat} (hk : k < ns.length) (hr : rdyN ns nx done ns[k]) (hn : ∀ j (hj : j < ns.length), j < k → ¬ rdyN ns nx done ns[j]) : pickN ns nx done = some ns[k] := by
  unfold pickN
  rw [List.find?_eq_some_iff_getElem]
  exact ⟨by simpa using hr, k, hk, rfl, fun j hj => by simpa using hn j (by omega) hj⟩
theorem pickN_none {ns : List ByteArray} {nx : ByteArray → List ByteArray} {done : List ByteArray} (hn : ∀ j (hj : j < ns.length), ¬ rdyN ns nx done ns[j]) : pickN ns nx done = none := by
  unfold pickN
  rw [List.find?_eq_none]
  intro s hs
  obtain ⟨j, hj, rfl⟩ := List.mem_iff_getElem.1 hs
  simpa using hn j hj
theorem pickN_mem {ns : List ByteArray} {nx : ByteArray → List ByteArray} {done : List ByteArray} {s : ByteArray} (h : pickN ns nx done = some s) : s ∈ ns ∧ s ∉ done := by
  unfold pickN at h
  have h1 := List.find?_some h
  exact ⟨List.mem_of_find?_eq_some h, (by simpa using h1 : rdyN ns nx done s).1⟩
theorem ordN_sub (ns : List ByteArray) (nx : ByteArray → List ByteArray) (m : Nat) : (ordN ns nx m).Nodup ∧ ∀ s ∈ ordN ns nx m, s ∈ ns := by
  induction m with
  | zero => simp [ordN]
  | succ m ih =>
    cases h : pickN ns nx (ordN ns nx m) with
    | none => rw [ordN, h]; exact ih
    | some s =>
      rw [ordN_step h]
      obtain ⟨h1, h2⟩ := pickN_mem h
      refine ⟨?_, fun x hx => ?_⟩
      · rw [List.nodup_append]
        exact ⟨ih.1, by simp, fun a ha b hb => by simp at hb; subst hb; exact fun e => h2 (e ▸ ha)⟩
      · rcases List.mem_append.1 hx with hx | hx
        · exact ih.2 x hx
        · simp at hx; subst hx; exact h1
/-- The answer: all names in order and true, or none and false. -/
noncomputable def ordR (ns : List ByteArray) (nx : ByteArray → List ByteArray) : List ByteArray × Bool := if (ordN ns nx ns.length).length = ns.length then (ordN ns nx ns.length, true) else ([], false)
theorem ordR_full {ns : List ByteArray} {nx : ByteArray → List ByteArray} {out : List ByteArray} (h : out = ordN ns nx out.length) (hl : out.length = ns.length) : ordR ns nx = (out, true) := by
  unfold ordR
  rw [← hl, ← h, if_pos rfl]
theorem ordR_stuck {ns : List ByteArray} {nx : ByteArray → List ByteArray} {out : List ByteArray} (h : out = ordN ns nx out.length) (hl : out.length < ns.length) (hp : pickN ns nx out = none) : ordR ns nx = ([], false) := by
  unfold ordR
  have h1 : pickN ns nx (ordN ns nx out.length) = none := by rw [← h]; exact hp
  have h2 := ordN_stuck h1 (ns.length - out.length)
  rw [show out.length + (ns.length - out.length) = ns.length by omega, ← h] at h2
  rw [h2, if_neg (by omega)]
theorem nodup_sub_len {α : Type} [DecidableEq α] : ∀ (a b : List α), a.Nodup → (∀ x ∈ a, x ∈ b) → a.length ≤ b.length
  | [], b, _, _ => by simp
  | x :: a, b, h, hs => by
    obtain ⟨h1, h2⟩ := List.nodup_cons.1 h
    have hx := hs x (by simp)
    have h3 := nodup_sub_len a (b.erase x) h2 (fun y hy => (List.mem_erase_of_ne (fun e : y = x => h1 (e ▸ hy))).2 (hs y (by simp [hy])))
    rw [List.length_erase_of_mem hx] at h3
    have := List.length_pos_of_mem hx
    simp; omega
/-- Two of one name: never all. -/
theorem ordR_few {ns : List ByteArray} {nx : ByteArray → List ByteArray} (dn : List ByteArray) (hs : ∀ x ∈ ns, x ∈ dn) (hl : dn.length < ns.length) : ordR ns nx = ([], false) := by
  unfold ordR
  obtain ⟨h1, h2⟩ := ordN_sub ns nx ns.length
  have := nodup_sub_len _ dn h1 (fun x hx => hs x (h2 x hx))
  rw [if_neg (by omega)]
end Go.Proofs.Ytbhedlobiagngaa

/-! Which numbers come in order one behind the other, and what is counted meanwhile: told as plain functions; no condition. -/
namespace Go.Proofs.Ytbhedlobiagngaa
open Go.RowKit
set_option linter.unusedSimpArgs false
set_option linter.unusedVariables false

/-- How many of what a number leads to are packs that are not out yet. -/
def cntI (own : Nat) (U : List (List Nat)) (out : List Nat) (i : Nat) : Nat := ((rowAt U i).filter fun t => decide (t < own) && !out.contains t).length
/-- The first number that can be next. -/
def pickI (own : Nat) (U : List (List Nat)) (out : List Nat) : Option Nat := (List.range own).find? fun i => !out.contains i && cntI own U out i == 0
/-- What is in order behind so many steps, by numbers. -/
def ordI (own : Nat) (U : List (List Nat)) : Nat → List Nat
  | 0 => []
  | m + 1 => match pickI own U (ordI own U m) with
    | none => ordI own U m
    | some i => ordI own U m ++ [i]
theorem ordI_step {own : Nat} {U : List (List Nat)} {m i : Nat} (h : pickI own U (ordI own U m) = some i) : ordI own U (m + 1) = ordI own U m ++ [i] := by rw [ordI, h]
theorem pickI_some {own : Nat} {U : List (List Nat)} {out : List Nat} {i : Nat} (hi : i < own) (ho : i ∉ out) (hc : cntI own U out i = 0) (hn : ∀ j, j < i → j ∉ out → cntI own U out j ≠ 0) : pickI own U out = some i := by
  unfold pickI
  rw [List.find?_eq_some_iff_getElem]
  refine ⟨by simp [ho, hc], i, by simpa using hi, by simp, fun j hj => ?_⟩
  simp only [List.getElem_range]
  by_cases h : j ∈ out
  · simp [h]
  · simp [h, hn j hj h]
theorem pickI_none {own : Nat} {U : List (List Nat)} {out : List Nat} (hn : ∀ j, j < own → j ∉ out → cntI own U out j ≠ 0) : pickI own U out = none := by
  unfold pickI
  rw [List.find?_eq_none]
  intro j hj
  have hj2 := List.mem_range.1 hj
  by_cases h : j ∈ out
  · simp [h]
  · simp [h, hn j hj2 h]
theorem cntI_zero {own : Nat} {U : List (List Nat)} {out : List Nat} {i : Nat} : cntI own U out i = 0 ↔ ∀ t ∈ rowAt U i, t < own → t ∈ out := by
  unfold cntI
  rw [List.length_eq_zero_iff, List.filter_eq_nil_iff]
  constructor
  · intro h t ht hl
    have := h t ht
    simp [hl] at this
    exact this
  · intro h t ht hc
    simp at hc
    exact hc.2 (h t ht hc.1)
theorem cntI_snoc (own : Nat) (U : List (List Nat)) (out : List Nat) (at_ i : Nat) (ha : at_ < own) (ho : at_ ∉ out) : cntI own U out i = cntI own U (out ++ [at_]) i + (rowAt U i).count at_ := by
  unfold cntI
  induction rowAt U i with
  | nil => rfl
  | cons t l ih =>
    by_cases e : t = at_
    · subst e
      rw [List.filter_cons_of_pos (by simp [ha, ho]), List.filter_cons_of_neg (by simp), List.count_cons_self, List.length_cons, ih]
      omega
    · rw [List.count_cons_of_ne e]
      by_cases h : (decide (t < own) && !out.contains t) = true
      · have h2 : (decide (t < own) && !(out ++ [at_]).contains t) = true := by simp at h ⊢; exact ⟨h.1, h.2, e⟩
        rw [List.filter_cons, List.filter_cons, if_pos h, if_pos h2, List.length_cons, List.length_cons, ih]
        omega
      · have h2 : ¬ (decide (t < own) && !(out ++ [at_]).contains t) = true := by simp at h ⊢; exact fun h3 h4 => absurd (h h3) h4
        rw [List.filter_cons, List.filter_cons, if_neg h, if_neg h2, ih]
/-- What is counted while the order is made. -/
structure OrdInv (own : Nat) (U : List (List Nat)) (out : List Nat) (ws : List Int) : Prop where
  nd : out.Nodup
  lt : ∀ i ∈ out, i < own
  len : ws.length = own
  wait : ∀ i, i < own → i ∉ out → ws[i]? = some (cntI own U out i : Int)
  done : ∀ i ∈ out, ws[i]? = some (-1) ∧ cntI own U out i = 0
  proc : out = ordI own U out.length
/-- One more is out: each that uses it waits for one less. -/
theorem OrdInv.next {own at_ : Nat} {U : List (List Nat)} {out : List Nat} {ws ws' : List Int} {L : List Nat} (h : OrdInv own U out ws) (ha : at_ < own) (h0 : ws[at_]? = some 0) (hn : ∀ j, j < at_ → j ∉ out → ws[j]? ≠ some 0)
    (hl : ws'.length = own) (hL : ∀ i, i < own → L.count i = (rowAt U i).count at_) (hw : ∀ i, i < own → ws'[i]? = ((ws.set at_ (-1))[i]?).map fun z => z - (L.count i : Int)) : OrdInv own U (out ++ [at_]) ws' := by
  have ho : at_ ∉ out := fun hm => by rw [(h.done at_ hm).1] at h0; simp at h0
  have hc : cntI own U out at_ = 0 := by have := h.wait at_ ha ho; rw [h0] at this; have := Option.some.inj this; omega
  have hcz : ∀ i ∈ out ++ [at_], cntI own U out i = 0 := fun i hi => by
    rcases List.mem_append.1 hi with hi | hi
    · exact (h.done i hi).2
    · simp at hi; subst hi; exact hc
  have hct : ∀ i ∈ out ++ [at_], (rowAt U i).count at_ = 0 ∧ cntI own U (out ++ [at_]) i = 0 := fun i hi => by
    have h1 := cntI_snoc own U out at_ i ha ho
    rw [hcz i hi] at h1
    omega
  refine ⟨?_, fun i hi => ?_, hl, fun i hi hio => ?_, fun i hi => ?_, ?_⟩
  · rw [List.nodup_append]
    exact ⟨h.nd, by simp, fun a ha9 b hb e => by simp at hb; subst hb; subst e; exact ho ha9⟩
  · rcases List.mem_append.1 hi with hi | hi
    · exact h.lt i hi
    · simp at hi; subst hi; exact ha
  · have hia : i ≠ at_ := fun e => hio (by simp [e])
    have hio2 : i ∉ out := fun e => hio (by simp [e])
    rw [hw i hi, List.getElem?_set_ne (fun e => hia e.symm), h.wait i hi hio2, hL i hi, cntI_snoc own U out at_ i ha ho]
    simp only [Option.map_some, Option.some.injEq]
    omega
  · obtain ⟨h1, h2⟩ := hct i hi
    have hlt : i < own := by
      rcases List.mem_append.1 hi with hi | hi
      · exact h.lt i hi
      · simp at hi; subst hi; exact ha
    refine ⟨?_, h2⟩
    rw [hw i hlt, hL i hlt, h1]
    rcases List.mem_append.1 hi with hi | hi
    · have hia : i ≠ at_ := fun e => ho (e ▸ hi)
      rw [List.getElem?_set_ne (fun e => hia e.symm), (h.done i hi).1]
      rfl
    · simp at hi; subst hi
      rw [List.getElem?_set_self (by rw [h.len]; exact ha)]
      rfl
  · have hp : pickI own U (ordI own U out.length) = some at_ := by
      rw [← h.proc]
      refine pickI_some ha ho hc fun j hj hjo hcz => ?_
      have h3 := h.wait j (by omega) hjo
      rw [hcz] at h3
      exact hn j hj hjo h3
    rw [List.length_append, List.length_singleton, ordI_step hp, ← h.proc]
theorem OrdInv.start {own : Nat} {U : List (List Nat)} {ws : List Int} (hl : ws.length = own) (hw : ∀ i, i < own → ws[i]? = some (cntI own U [] i : Int)) : OrdInv own U [] ws :=
  ⟨List.nodup_nil, fun i hi => (nomatch hi), hl, fun i hi _ => hw i hi, fun i hi => (nomatch hi), rfl⟩
theorem OrdInv.few {own : Nat} {U : List (List Nat)} {out : List Nat} {ws : List Int} (h : OrdInv own U out ws) : out.length ≤ own := by
  have := nodup_sub_len out (List.range own) h.nd (fun i hi => List.mem_range.2 (h.lt i hi))
  simpa using this
theorem find_congr {α : Type} {p q : α → Bool} : ∀ {l : List α}, (∀ x ∈ l, p x = q x) → l.find? p = l.find? q
  | [], _ => rfl
  | x :: l, h => by rw [List.find?_cons, List.find?_cons, h x (by simp), find_congr fun y hy => h y (by simp [hy])]
/-- Numbers and names come in the same order. -/
theorem ordI_names (own : Nat) (U : List (List Nat)) (ns : List ByteArray) (nx : ByteArray → List ByteArray) (f : Nat → ByteArray) (hns : ns = (List.range own).map f)
    (hr : ∀ out, (∀ i ∈ out, i < own) → ∀ i, i < own → (rdyN ns nx (out.map f) (f i) ↔ i ∉ out ∧ cntI own U out i = 0)) : ∀ m, ordN ns nx m = (ordI own U m).map f ∧ ∀ i ∈ ordI own U m, i < own := by
  have hp : ∀ out, (∀ i ∈ out, i < own) → pickN ns nx (out.map f) = (pickI own U out).map f := fun out ho => by
    unfold pickN pickI
    rw [hns, List.find?_map]
    congr 1
    refine find_congr fun i hi => ?_
    have hi2 := List.mem_range.1 hi
    simp only [Function.comp_apply]
    rw [Bool.eq_iff_iff]
    have h1 := hr out ho i hi2
    rw [hns] at h1
    simp only [decide_eq_true_eq, Bool.and_eq_true, Bool.not_eq_true', beq_iff_eq]
    rw [h1]
    simp
  intro m
  induction m with
  | zero => exact ⟨rfl, fun i hi => by cases hi⟩
  | succ m ih =>
    have h1 := hp _ ih.2
    cases hq : pickI own U (ordI own U m) with
    | none =>
      rw [hq] at h1
      rw [ordI, hq, ordN, ih.1, h1]
      exact ⟨rfl, ih.2⟩
    | some i =>
      rw [hq] at h1
      have hi : i < own := by unfold pickI at hq; exact List.mem_range.1 (List.mem_of_find?_eq_some hq)
      rw [ordI, hq, ordN, ih.1, h1]
      refine ⟨by simp, fun j hj => ?_⟩
      rcases List.mem_append.1 hj with hj | hj
      · exact ih.2 j hj
      · simp at hj; subst hj; exact hi
end Go.Proofs.Ytbhedlobiagngaa

/-! The order of packs by numbers and by names: the same; no condition. -/
namespace Go.Proofs.Ytbhedlobiagngaa
open Go.RowKit
set_option linter.unusedSimpArgs false
set_option linter.unusedVariables false

theorem idxS_get {ns : List ByteArray} (hn : ns.Nodup) {i : Nat} (hi : i < ns.length) : idxS ns ns[i] = (i : Int) := idxS_here hi rfl (fun j hj hji e => by
  have := nodup_inj hn hj hi e
  omega)
/-- The order of packs, as both answer it. -/
noncomputable def ordPk (xs : List PackD) : List ByteArray × Bool := ordR (xs.map (·.name)) (nextS (xs.map (·.name)) (xs.map (·.uses)))
theorem mem_flat_at {xs : List PackD} (hn : (xs.map (·.name)).Nodup) {i : Nat} (hi : i < xs.length) (x : ByteArray) : x ∈ flatU (plOf xs) xs[i].name ↔ x ∈ xs[i].uses := by
  rw [mem_flatU]
  constructor
  · rintro ⟨d, hd, h1, h2⟩
    unfold plOf at hd
    obtain ⟨d', hd', rfl⟩ := List.mem_map.1 hd
    obtain ⟨j, hj, rfl⟩ := List.mem_iff_getElem.1 hd'
    have hij := nodup_inj hn (i := j) (j := i) (by simpa using hj) (by simpa using hi) (by simpa using h1)
    subst hij
    exact h2
  · intro h
    exact ⟨(xs[i].name, xs[i].uses), List.mem_map.2 ⟨xs[i], List.getElem_mem hi, rfl⟩, rfl, h⟩
theorem order_final {xs : List PackD} {out : List Nat} {ws : List Int} (h : OrdInv (ownOf (plOf xs)) (gOf (plOf xs)).U out ws) (hn : ∀ j, j < ownOf (plOf xs) → j ∉ out → cntI (ownOf (plOf xs)) (gOf (plOf xs)).U out j ≠ 0) :
    ordPk xs = if out.length < xs.length then ([], false) else (out.map (nmOf (gOf (plOf xs)).N), true) := by
  obtain ⟨g1, g2, g3, g4, g5⟩ := gOf_ok (plOf xs)
  obtain ⟨n1, n2, n3, n4⟩ := gNames_ok ((plOf xs).map (·.1))
  have hown : ownOf (plOf xs) = (gNames ((plOf xs).map (·.1))).N.length := rfl
  obtain ⟨M, hM⟩ := g2
  rw [plOf_names] at n2 n3 hM hown
  have hfew := h.few
  unfold ordPk
  have hlm : (xs.map (·.name)).length = xs.length := List.length_map _
  rcases n3 with n3 | n3
  · rw [n3] at hM hown
    rw [hlm] at hown
    have hnd : (xs.map (·.name)).Nodup := by have := g1.nd; rw [hM, List.nodup_append] at this; exact this.1
    obtain ⟨f, hf⟩ : ∃ f, f = nmOf (gOf (plOf xs)).N := ⟨_, rfl⟩
    have hfi : ∀ i (hi : i < xs.length), f i = xs[i].name := fun i hi => by
      rw [hf, hM, nmOf_app (by rw [hlm]; exact hi), nmOf_lt (by rw [hlm]; exact hi), List.getElem_map]
    have hNl : xs.length ≤ (gOf (plOf xs)).N.length := by rw [hM, List.length_append, hlm]; omega
    have hinj : ∀ i j, i < (gOf (plOf xs)).N.length → j < (gOf (plOf xs)).N.length → f i = f j → i = j := fun i j hi hj e => by
      rw [hf, nmOf_lt hi, nmOf_lt hj] at e
      exact nodup_inj g1.nd hi hj e
    have hns : xs.map (·.name) = (List.range (ownOf (plOf xs))).map f := by
      rw [hown]
      refine List.ext_getElem (by simp) fun i h1 h2 => ?_
      simp only [List.getElem_map, List.getElem_range]
      rw [hfi i (by simpa using h1)]
    have hr : ∀ out : List Nat, (∀ i ∈ out, i < ownOf (plOf xs)) → ∀ i, i < ownOf (plOf xs) → (rdyN (xs.map (·.name)) (nextS (xs.map (·.name)) (xs.map (·.uses))) (out.map f) (f i) ↔ i ∉ out ∧ cntI (ownOf (plOf xs)) (gOf (plOf xs)).U out i = 0) := fun out ho i hi => by
      have hi2 : i < xs.length := by omega
      have hmo : ∀ t, t < (gOf (plOf xs)).N.length → (f t ∈ out.map f ↔ t ∈ out) := fun t ht => by
        rw [List.mem_map]
        constructor
        · rintro ⟨j, hj, e⟩
          have := hinj j t (by have := ho j hj; omega) ht e
          subst this
          exact hj
        · intro h; exact ⟨t, h, rfl⟩
      have hmn : ∀ t, t < (gOf (plOf xs)).N.length → (f t ∈ xs.map (·.name) ↔ t < ownOf (plOf xs)) := fun t ht => by
        rw [hns, List.mem_map]
        constructor
        · rintro ⟨j, hj, e⟩
          have hj2 := List.mem_range.1 hj
          have := hinj j t (by omega) ht e
          omega
        · intro h; exact ⟨t, List.mem_range.2 h, rfl⟩
      have hnx : nextS (xs.map (·.name)) (xs.map (·.uses)) (f i) = xs[i].uses := by
        rw [hfi i hi2]
        unfold nextS
        have e : idxS (xs.map (·.name)) xs[i].name = (i : Int) := by
          have := idxS_get hnd (i := i) (by rw [hlm]; exact hi2)
          rw [List.getElem_map] at this
          exact this
        rw [e, if_neg (by omega)]
        simp [hi2]
      have hrow : (rowAt (gOf (plOf xs)).U i).map f = flatU (plOf xs) xs[i].name := by
        have := g3 i (by omega)
        rw [← hf, hfi i hi2] at this
        exact this
      unfold rdyN
      rw [hnx, hmo i (by omega), cntI_zero]
      refine and_congr_right fun _ => ?_
      constructor
      · intro h t ht htl
        have h1 : f t ∈ xs[i].uses := by rw [← mem_flat_at hnd hi2, ← hrow]; exact List.mem_map.2 ⟨t, ht, rfl⟩
        have htN := g1.lt i t ht
        rcases h (f t) h1 with h2 | h2
        · exact (hmo t htN).1 h2
        · exact absurd ((hmn t htN).2 htl) h2
      · intro h x hx
        rw [← mem_flat_at hnd hi2, ← hrow] at hx
        obtain ⟨t, ht, rfl⟩ := List.mem_map.1 hx
        have htN := g1.lt i t ht
        by_cases htl : t < ownOf (plOf xs)
        · exact .inl ((hmo t htN).2 (h t ht htl))
        · exact .inr fun h2 => htl ((hmn t htN).1 h2)
    have hord := (ordI_names (ownOf (plOf xs)) (gOf (plOf xs)).U _ _ f hns hr out.length).1
    rw [← h.proc] at hord
    by_cases hl : out.length < xs.length
    · rw [if_pos hl]
      refine ordR_stuck (out := out.map f) (by rw [List.length_map]; exact hord.symm) (by rw [List.length_map, hlm]; exact hl) (pickN_none fun j hj => ?_)
      have hj2 : j < xs.length := by rw [hlm] at hj; exact hj
      have e : (xs.map (·.name))[j] = f j := by rw [List.getElem_map, hfi j hj2]
      rw [e, hr out h.lt j (by omega)]
      exact fun ⟨a, b⟩ => hn j (by omega) a b
    · rw [if_neg hl, ← hf]
      exact ordR_full (by rw [List.length_map]; exact hord.symm) (by rw [List.length_map, hlm]; omega)
  · rw [hlm] at n3
    rw [if_pos (by omega)]
    exact ordR_few (gNames (xs.map (·.name))).N (fun x hx => (n2 x).2 hx) (by rw [hlm]; exact n3)
end Go.Proofs.Ytbhedlobiagngaa

/-! How many packs each pack waits for, as the program counts it: a contract for the walks; conditions: the graph lies in memory, its lists are of at most 2 to the 40. -/
namespace Go.Proofs.Ytbhedlobiagngaa
open Go.RowKit Go.Maps
set_option linter.unusedSimpArgs false
set_option linter.unusedVariables false

/-- Whole numbers as values. -/
def zV (l : List Int) : List Value := l.map fun z => .int .i64 z
@[simp] theorem length_zV (l : List Int) : (zV l).length = l.length := by simp [zV]
theorem zV_at {l : List Int} {j : Nat} {z : Int} (h : l[j]? = some z) : (zV l)[j]? = some (.int .i64 z) := by simp [zV, h]
theorem zV_set (l : List Int) (j : Nat) (z : Int) : (zV l).set j (.int .i64 z) = zV (l.set j z) := by simp [zV, List.map_set]
theorem made_zV (n : Nat) : (madeCells #[Value.int .i64 0] n).toList = zV (List.replicate n 0) := by
  rw [toList_madeCells_one]
  simp [zV]
theorem set_same {l : List Int} {k : Nat} {z : Int} (h : l[k]? = some z) : l.set k z = l := by
  obtain ⟨hk, e⟩ := List.getElem?_eq_some_iff.1 h
  rw [← e]
  exact List.set_getElem_self hk
/-- How many of a list are packs. -/
def cl (own : Nat) (l : List Nat) : Nat := (l.filter fun t => decide (t < own)).length
theorem cl_cnt (own : Nat) (U : List (List Nat)) (i : Nat) : cntI own U [] i = cl own (rowAt U i) := by unfold cntI cl; simp
theorem cl_take (own : Nat) (l : List Nat) (k : Nat) (h : k < l.length) : cl own (l.take (k + 1)) = cl own (l.take k) + (if l[k] < own then 1 else 0) := by
  unfold cl
  rw [List.take_succ_eq_append_getElem h, List.filter_append, List.length_append]
  by_cases e : l[k] < own
  · rw [if_pos e, List.filter_cons_of_pos (by simpa using e)]; rfl
  · rw [if_neg e, List.filter_cons_of_neg (by simpa using e)]; rfl
theorem cl_le (own : Nat) (l : List Nat) : cl own l ≤ l.length := List.length_filter_le _ _

set_option maxHeartbeats 8000000 in
set_option maxRecDepth 100000 in
theorem waits_c (lo mb own : Nat) (vn vu vb : Value) (us bs : List Value) (M N : List ByteArray) (U B : List (List Nat)) (w : World) (C : GrC lo w mb vn vu vb us bs M N U B noX noX) (ho : own ≤ U.length) (hU : U.length ≤ 4194304) (hR : ∀ i, (rowAt U i).length ≤ 1099511627776) :
    Calls Try.prog 62 #[.agg #[.map (some mb), vn, .int .i64 (own : Int), vu, vb]] w fun e w' => ∃ g ws, e = .returned (.slice (some ⟨g, 0, none⟩) own own) ∧ w'.ownsRow w.heap.size 3 1 (.slice (some ⟨g, 0, none⟩) own own) own (zV ws) ∧ OrdInv own U [] ws ∧ Below w.heap.size w w' := by
  obtain ⟨iI, hiI, hzI0, hzI1, hzI2⟩ := info_parts infoI
  obtain ⟨qn, nn, xn, en⟩ : ∃ q n c, vn = .slice q n c := by obtain ⟨q, c, e⟩ := owns_slG C.names; exact ⟨q, _, c, e⟩
  obtain ⟨qu, xu, eu⟩ := owns_slG C.ru
  obtain ⟨qb, nb, xb, eb⟩ : ∃ q n c, vb = .slice q n c := by obtain ⟨q, c, e⟩ := owns_slG C.rb; exact ⟨q, _, c, e⟩
  subst en eu eb
  have HC : Hid (∀ w1, Below w.heap.size w w1 → GrC lo w1 mb (.slice qn nn xn) (.slice qu U.length xu) (.slice qb nb xb) us bs M N U B noX noX) := fun w1 h => C.new (r := none) (grown_of_below h none) (fun q e => by cases e)
  have hul := C.len_u
  clear C
  have k1 : Below w.heap.size w (w.alloc (.cells #[.map (some mb), .slice qn nn xn, .int .i64 (own : Int), .slice qu U.length xu, .slice qb nb xb] 53)) := (Below.refl _ _).alloc (Nat.le_refl _) _
  have hx0 : (w.alloc (.cells #[.map (some mb), .slice qn nn xn, .int .i64 (own : Int), .slice qu U.length xu, .slice qb nb xb] 53)).heap[w.heap.size]? = some (.cells #[.map (some mb), .slice qn nn xn, .int .i64 (own : Int), .slice qu U.length xu, .slice qb nb xb] 53 (0, 0)) := vheap_new _ _
  have z0 : (w.alloc (.cells #[.map (some mb), .slice qn nn xn, .int .i64 (own : Int), .slice qu U.length xu, .slice qb nb xb] 53)).heap.size = w.heap.size + 1 := by simp
  have x2 : (w.alloc (.cells #[.map (some mb), .slice qn nn xn, .int .i64 (own : Int), .slice qu U.length xu, .slice qb nb xb] 53)).cell? ⟨w.heap.size, 2, none⟩ = some (.int .i64 (own : Int)) := vblk_cell hx0 2
  go_enter Try.func62, Try.ntmps62
  go_wp2_with (at_make; refine wpList_make_full _ rfl _ _ 59 rfl w.heap.size 3 iI (.int .i64 0) 1 Try.underlying59 hiI hzI0 hzI1 _ _ _ _ own rfl rfl rfl rfl (by rw [hzI2]; omega) (by unfold maxLen; omega) (by simp) ?_)
  intro w1 hown hgrow
  have hb1 : Below w.heap.size w w1 := k1.trans (⟨hgrow.os, hgrow.tape, hgrow.output, hgrow.size, fun k hk => hgrow.block k (by rw [z0]; omega) (by simp)⟩)
  have hx1 : w1.heap[w.heap.size]? = some (.cells #[.map (some mb), .slice qn nn xn, .int .i64 (own : Int), .slice qu U.length xu, .slice qb nb xb] 53 (0, 0)) := (hgrow.block _ (by rw [z0]; omega) (by simp)).trans hx0
  have hown1 : w1.ownsRow w.heap.size 3 1 (.slice (some ⟨w.heap.size + 1, 0, none⟩) own own) own (zV (List.replicate own 0)) := by
    rw [← made_zV]
    exact hown
  clear hgrow hown k1 hx0 z0 x2
  go_wp2_with fail
  go_loopw [12] (fun vi wr => ∃ (k : Nat) (ws : List Int), k ≤ own ∧ vi = .int .i64 (k : Int) ∧ wr.ownsRow w.heap.size 3 1 (.slice (some ⟨w.heap.size + 1, 0, none⟩) own own) own (zV ws) ∧ Hid (ws.length = own ∧ (∀ j, j < k → ws[j]? = some (cntI own U [] j : Int)) ∧ ∀ j, k ≤ j → j < own → ws[j]? = some 0) ∧ Hid (wr.heap[w.heap.size]? = some (.cells #[.map (some mb), .slice qn nn xn, .int .i64 (own : Int), .slice qu U.length xu, .slice qb nb xb] 53 (0, 0))) ∧ Below w.heap.size w wr) (fun vi _ => own - (intOf vi).toNat)
  case atStart => exact ⟨0, List.replicate own 0, Nat.zero_le _, rfl, hown1, ⟨by simp, fun j hj => by omega, fun j _ hj => by simp [hj]⟩, hx1, hb1⟩
  case round =>
    clear hown1 hx1 hb1
    obtain ⟨k, ws, hk, rfl, hown, hws, HX, hbr⟩ := hrel
    by_cases hlt' : k < own
    · have hki : (k : Int) < (own : Int) := by omega
      have Cr := HC.out wr hbr
      have hkU : k < us.length := by omega
      have hua : us[k]? = some us[k] := List.getElem?_eq_getElem hkU
      have Er := Cr.eu k _ (fun h => h) hua
      obtain ⟨u, hu⟩ : ∃ u, u = us[k] := ⟨_, rfl⟩
      rw [← hu] at hua Er
      obtain ⟨q, c, eu⟩ := owns_slG Er
      subst eu
      obtain ⟨gu, xu', equ⟩ := owns_pos Cr.ru (by omega)
      obtain ⟨equ1, equ2⟩ : qu = some ⟨gu, 0, none⟩ ∧ xu = xu' := by injection equ with h1 _ h3; exact ⟨h1, h3⟩
      subst equ1 equ2
      have cu : wr.cell? ⟨gu, k, none⟩ = some (.slice q (rowAt U k).length c) := by rw [Cr.ru.cellAt k (by omega)]; exact hua
      have x3 : wr.cell? ⟨w.heap.size, 3, none⟩ = some (.slice (some ⟨gu, 0, none⟩) U.length xu) := vblk_cell HX.out 3
      have hkU2 : (k : Int) < (U.length : Int) := by omega
      have hrl := hR k
      obtain ⟨L, hL⟩ : ∃ L, L = rowAt U k := ⟨_, rfl⟩
      rw [← hL] at cu hrl Er
      have HL := hidden hL
      have HGU : Hid (∀ w2, Below w.heap.size w w2 → ∀ j (h : j < L.length), ∃ g0, q = some ⟨g0, 0, none⟩ ∧ w2.cell? ⟨g0, j, none⟩ = some (.int .i64 (L[j] : Int))) := fun w2 h2 j h => by
        have E2 := (HC.out w2 h2).eu k _ (fun h => h) hua
        rw [← hL] at E2
        obtain ⟨g0, c0, e0⟩ := owns_pos E2 (by omega)
        injection e0 with e1 _ e3
        subst e1 e3
        exact ⟨g0, rfl, by rw [E2.cellAt j (by omega)]; exact intsV_at h⟩
      clear Cr hua hu equ hL
      go_wp2_with fail
      obtain ⟨wo, hwo⟩ : ∃ wo, wo = wr := ⟨_, rfl⟩
      subst hwo
      go_loopw [21] (fun vi wr => ∃ (j : Nat) (wt : List Int), j ≤ L.length ∧ vi = .int .i64 (j : Int) ∧ wr.ownsRow w.heap.size 3 1 (.slice (some ⟨w.heap.size + 1, 0, none⟩) own own) own (zV wt) ∧ Hid (wt = ws.set k (cl own (L.take j) : Int)) ∧ Hid (wr.heap[w.heap.size]? = some (.cells #[.map (some mb), .slice qn nn xn, .int .i64 (own : Int), .slice (some ⟨gu, 0, none⟩) U.length xu, .slice qb nb xb] 53 (0, 0))) ∧ Below w.heap.size w wr) (fun vi _ => L.length - (intOf vi).toNat)
      case atStart =>
        refine ⟨0, ws, Nat.zero_le _, rfl, hown, ?_, HX, hbr⟩
        show ws = ws.set k _
        have h9 := hws.out.2.2 k (Nat.le_refl _) hlt'
        exact (set_same h9).symm
      case round =>
        clear hown HX hbr x3 cu
        obtain ⟨j, wt, hj, rfl, hownj, hwt, HXj, hbj⟩ := hrel
        by_cases hjl : j < L.length
        · obtain ⟨g0, eq0, cj⟩ := HGU.out wr hbj j hjl
          subst eq0
          have HT := hidden (cl_take own L j hjl)
          obtain ⟨t, ht⟩ : ∃ t, t = L[j] := ⟨_, rfl⟩
          rw [← ht] at cj HT
          have hcb : cl own (L.take j) ≤ 1099511627776 := by
            have h1 := cl_le own (L.take j)
            rw [List.length_take] at h1
            omega
          have hck : wt[k]? = some (cl own (L.take j) : Int) := by rw [hwt.out, List.getElem?_set_self (by rw [hws.out.1]; exact hlt')]
          obtain ⟨cc, hcc⟩ : ∃ cc, cc = cl own (L.take j) := ⟨_, rfl⟩
          rw [← hcc] at HT hcb hck
          have HW : Hid (wt = ws.set k (cc : Int)) := by rw [hcc]; exact hwt.out
          have cw : wr.cell? ⟨w.heap.size + 1, k, none⟩ = some (.int .i64 (cc : Int)) := by rw [hownj.cellAt k (by omega)]; exact zV_at hck
          have fz := hownj.frozenAt k
          have x2 : wr.cell? ⟨w.heap.size, 2, none⟩ = some (.int .i64 (own : Int)) := vblk_cell HXj.out 2
          have hji : (j : Int) < (L.length : Int) := by omega
          have hst := hidden (hownj.stored k (.int .i64 ((cc : Int) + 1)))
          have HX2 : Hid ((wr.setCell ⟨w.heap.size + 1, k, none⟩ (.int .i64 ((cc : Int) + 1))).heap[w.heap.size]? = some (.cells #[.map (some mb), .slice qn nn xn, .int .i64 (own : Int), .slice (some ⟨gu, 0, none⟩) U.length xu, .slice qb nb xb] 53 (0, 0))) := (hst.out.2.block w.heap.size (Array.getElem?_eq_some_iff.1 HXj.out).1 (fun e => by have := Option.some.inj e; omega)).trans HXj.out
          clear ht hwt hck hcc
          by_cases htl : t < own
          · have hti : (t : Int) < (own : Int) := by omega
            rw [if_pos htl] at HT
            have HS : Hid (wt.set k ((cc : Int) + 1) = ws.set k (cl own (L.take (j + 1)) : Int)) := by
              show _ = _
              rw [HW.out, HT.out, List.set_set]
              rfl
            go_wp2_with fail
            go_roundw
            case rel => exact ⟨j + 1, wt.set k ((cc : Int) + 1), by omega, by go_num, by rw [← zV_set]; exact hst.out.1, HS, HX2, hbj.setCell (by show _ ≤ w.heap.size + 1; omega) _⟩
            case measure => simp [intOf]; omega
          · have hti : ¬ (t : Int) < (own : Int) := by omega
            rw [if_neg htl] at HT
            have HS : Hid (wt = ws.set k (cl own (L.take (j + 1)) : Int)) := by show _ = _; rw [HW.out, HT.out]; rfl
            go_wp2_with fail
            go_roundw
            case rel => exact ⟨j + 1, wt, by omega, by go_num, hownj, HS, HXj, hbj⟩
            case measure => simp [intOf]; omega
        · have he : j = L.length := by omega
          subst he
          have HN : Hid (wt.length = own ∧ (∀ i, i < k + 1 → wt[i]? = some (cntI own U [] i : Int)) ∧ ∀ i, k + 1 ≤ i → i < own → wt[i]? = some 0) := by
            have h1 := hwt.out
            rw [List.take_length] at h1
            obtain ⟨h2, h3, h4⟩ := hws.out
            refine ⟨by rw [h1, List.length_set]; exact h2, fun i hi => ?_, fun i hi hio => ?_⟩
            · by_cases e : i = k
              · subst e
                rw [h1, List.getElem?_set_self (by omega), cl_cnt, ← HL.out]
              · rw [h1, List.getElem?_set_ne (fun e' => e e'.symm), h3 i (by omega)]
            · rw [h1, List.getElem?_set_ne (by omega), h4 i (by omega) hio]
          clear hwt hws
          go_wp2_with fail
          go_roundw
          case rel => exact ⟨k + 1, wt, by omega, by go_num, hownj, HN, HXj, hbj⟩
          case measure => simp [intOf]; omega
    · have he : k = own := by omega
      subst he
      have HW : Hid (OrdInv k U [] ws) := OrdInv.start hws.out.1 hws.out.2.1
      clear hws HC
      go_wp2_with fail
      go_ret
      exact ⟨_, ws, rfl, hown, HW.out, hbr⟩
end Go.Proofs.Ytbhedlobiagngaa
