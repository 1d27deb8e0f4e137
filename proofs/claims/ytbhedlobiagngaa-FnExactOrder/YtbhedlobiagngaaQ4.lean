/-
  Contracts for the walks, several texts in one: each part says what it proves, and under which conditions.
-/
import Derived.Lib.Strings
import Derived.Lib.IndexLaws
import Derived.WalkSpells
import Derived.Shelf.LaysM
import Derived.Shelf.Strconv.Clone
import Derived.Shelf.Sort.Plain
import Derived.Shelf.Slices.Turned
import Derived.Shelf.Slices.Reverse
import Derived.Shelf.Slices.CompactS
import Derived.Shelf.Slices.Cells
import Derived.Shelf.Slices.In.SortNone
import Derived.Test.YtbhedlobiagngaaProg
import Derived.Deep.RegionHeld
import Derived.Maps.AppendAt
import Derived.Laws.CopyOwn
import Derived.Test.YtbhedlobiagngaaQ1
import Derived.Test.YtbhedlobiagngaaQ3
import Derived.Test.YtbhedlobiagngaaQ2

/-! Copies of needs and commands, and of rows of them, in memory of their own, as the law makes them: contracts for the walks; condition: what is copied holds at most 2 to the 20. -/
namespace Go.Proofs.Ytbhedlobiagngaa
open Go.RowKit
set_option linter.unusedSimpArgs false
set_option linter.unusedVariables false

theorem owns_sliceP {w : World} {lo : Nat} {e : TypeId} {sz n : Nat} {v : Value} {xs : List Value} (hg : w.ownsRow lo e sz v n xs) : ∃ q cap, v = .slice q n cap := by
  rcases hg.2 with ⟨h1, h2⟩ | ⟨g, cap, cur, h1, _⟩
  · exact ⟨none, 0, by rw [h1, h2]⟩
  · exact ⟨_, _, h1⟩
theorem StrsOwn.slice {S : Nat → Prop} {w : World} {u : Value} {ss : List ByteArray} (h : StrsOwn S w u ss) : ∃ q cap, u = .slice q ss.length cap := owns_sliceP h.1
theorem RowOwn.slice {α : Type} {sh : Sh α} {t : TypeId} {S : Nat → Prop} {w : World} {v : Value} {xs : List α} (h : RowOwn sh t S w v xs) : ∃ q cap, v = .slice q xs.length cap := by
  obtain ⟨_, ys, h1, _⟩ := h; exact owns_sliceP h1

set_option maxHeartbeats 2000000 in
set_option maxRecDepth 100000 in
theorem toNeed_c (S : Nat → Prop) (d : NeedD) (cs : List Value) (w : World) (hd : shNeed.lies S w cs d) (hB : ∀ b, S b → b < w.heap.size) (hw : wtNeed d ≤ 1048576) :
    Calls Try.prog 87 #[.agg cs.toArray] w fun e w' => ∃ cs', e = .returned (.agg cs'.toArray) ∧ shNeed.lies (Ow w.heap.size w'.heap.size) w' cs' d ∧ Below w.heap.size w w' := by
  obtain ⟨rfl, s_n, s_r⟩ := hd
  have hb3 : ∀ A R O, Below w.heap.size w (((w.alloc A).alloc R).alloc O) := fun A R O => (((Below.refl _ _).alloc (Nat.le_refl _) _).alloc (by simp) _).alloc (by simp; omega) _
  go_enter Try.func87, Try.ntmps87
  go_wp2_with fail
  refine bodyPost_ret (v := .agg #[.string d.n, .string d.r]) (by simp [results, Try.results87, go_sem]) rfl ⟨_, rfl, ⟨rfl, s_n, s_r⟩, ?_⟩
  exact hb3 _ _ _

set_option maxHeartbeats 2000000 in
set_option maxRecDepth 100000 in
theorem infoNeed : (Try.prog.info? 105).map (fun i => (i.zero, i.size, i.bytes)) = some (some (.agg #[.string ⟨#[]⟩, .string ⟨#[]⟩]), 2, 32) := by kernel_rfl
set_option maxHeartbeats 2000000 in
set_option maxRecDepth 100000 in
theorem toNeedS_c (S : Nat → Prop) (v : Value) (xs : List NeedD) (w : World) (hv : RowIn shNeed S w v xs) (hB : ∀ b, S b → b < w.heap.size) (hw : wtRow wtNeed xs ≤ 1048576) :
    Calls Try.prog 70 #[v] w fun e w' => ∃ g, e = .returned (.slice (some ⟨g, 0, none⟩) xs.length xs.length) ∧ RowOwn shNeed 105 (Ow w.heap.size w'.heap.size) w' (.slice (some ⟨g, 0, none⟩) xs.length xs.length) xs ∧ Below w.heap.size w w' := by
  obtain ⟨a, cap, rfl, hl, hc, ha⟩ := hv
  have hn := len_wtRow wtNeed xs
  have hlm : xs.length ≤ maxLen := hl
  unfold maxLen at hl
  obtain ⟨i0, hi, hz0, hz1, hz2⟩ := info_parts infoNeed
  go_enter Try.func70, Try.ntmps70
  go_wp2_with (first
    | (at_make; refine wpList_make_full _ rfl _ _ 30 rfl w.heap.size 105 i0 _ 2 Try.underlying30 hi hz0 hz1 _ _ _ _ xs.length rfl rfl rfl rfl (by rw [hz2]; omega) (by unfold maxLen; omega) (Nat.le_refl _) ?_))
  intro w1 hown hgrow
  have hb1 := below_of_grown hgrow
  have hs1 : w.heap.size + 1 ≤ w1.heap.size := by
    rcases hown.2 with ⟨h, _⟩ | ⟨g, cap, cur, h, _, hg, _⟩
    · simp at h
    · simp at h
      have := (Array.getElem?_eq_some_iff.1 hg).1
      omega
  obtain ⟨ys1, hown1⟩ : ∃ ys, w1.ownsRow w.heap.size 105 2 (.slice (some ⟨w.heap.size, 0, none⟩) xs.length xs.length) xs.length ys := ⟨_, hown⟩
  clear hgrow hown
  go_wp2_with fail
  go_loopw [4] (fun vi wr => ∃ (k : Nat) (ys : List Value), k ≤ xs.length ∧ vi = .int .i64 (k : Int) ∧ wr.ownsRow w.heap.size 105 2 (.slice (some ⟨w.heap.size, 0, none⟩) xs.length xs.length) xs.length ys ∧ Hid (Laid shNeed (Ow (w.heap.size + 1) wr.heap.size) wr ys xs k) ∧ Below w.heap.size w wr ∧ w.heap.size + 1 ≤ wr.heap.size) (fun vi _ => xs.length - (intOf vi).toNat)
  case atStart => exact ⟨0, ys1, Nat.zero_le _, rfl, hown1, (fun i h h0 => by omega), hb1, hs1⟩
  case round =>
    obtain ⟨k, ys, hk, rfl, hownr, hy, hbr, hsr⟩ := hrel
    by_cases hlt' : k < xs.length
    · rcases ha with rfl | ⟨b, off, rfl, hlt, ha⟩
      · simp at hlt'
      obtain ⟨cs, hL, hcell⟩ := ha k hlt'
      have hL2 := shNeed.keep (.of hbr hB) hL
      have hcell2 := hcell.keep (.of hbr hB) hlt
      have hBr : ∀ b, S b → b < wr.heap.size := fun b h => Nat.lt_of_lt_of_le (hB b h) hbr.size
      have hwt : wtNeed xs[k] ≤ 1048576 := by have := wt_wtRow wtNeed (List.getElem_mem hlt'); omega
      have hown2 : ∀ w2, Below wr.heap.size wr w2 → w2.ownsRow w.heap.size 105 2 (.slice (some ⟨w.heap.size, 0, none⟩) xs.length xs.length) xs.length ys := fun w2 h2 => hownr.kept (grown_of_below h2 none) (by simp [Value.ownBlock])
      have hlen := hownr.1
      have HC : Hid (∀ w2, Below wr.heap.size wr w2 → ∀ j, j < 2 → ∃ x, w2.cell? ⟨w.heap.size, k * 2 + j, none⟩ = some x) := fun w2 h2 j hj => ⟨ys.getD (k * 2 + j) undef, by rw [(hown2 w2 h2).cellAt _ (by omega)]; simp [List.getD_eq_getElem?_getD, show k * 2 + j < ys.length by omega]⟩
      have HF : Hid (∀ w2, Below wr.heap.size wr w2 → ∀ j, w2.frozen? ⟨w.heap.size, j, none⟩ = false) := fun w2 h2 j => (hown2 w2 h2).frozenAt j
      have HO : Hid (∀ w2, Below wr.heap.size wr w2 → w2.ownsRow w.heap.size 105 2 (.slice (some ⟨w.heap.size, 0, none⟩) xs.length xs.length) xs.length ys) := hown2
      have HST : Hid (∀ w2 cs, Below wr.heap.size wr w2 → cs.length = 2 → shNeed.lies (Ow (w.heap.size + 1) w2.heap.size) w2 cs xs[k] → Laid shNeed (Ow (w.heap.size + 1) (setW w2 w.heap.size (k * 2) cs).heap.size) (setW w2 w.heap.size (k * 2) cs) (putL ys (k * 2) cs) xs (k + 1)) := fun w2 cs h2 hc hr => hy.out.step (sh := shNeed) hlt' hlen h2 (by omega) hc hr
      obtain ⟨d, hd⟩ : ∃ d, d = xs[k] := ⟨_, rfl⟩
      rw [← hd] at hL2 hwt HST
      have HC1 := toNeed_c S d cs wr hL2 hBr hwt
      clear ha hL hcell hd hown2 hi hz0 hz1 hz2 hown1 hb1 hlen hwt
      obtain ⟨rfl, s_n, s_r⟩ := hL2
      clear s_n s_r
      have e0 : wr.cell? ⟨b, off + k * 2, none⟩ = some (.string d.n) := hcell2 0 (by simp)
      have e1 : wr.cell? ⟨b, off + k * 2 + 1, none⟩ = some (.string d.r) := hcell2 1 (by simp)
      have HC2 := hidden HC1
      have hki : (k : Int) < (xs.length : Int) := by omega
      clear hcell2 HC1
      go_wp2_with (go_at_call 87; refine HC2.out.mono ?_; rintro e w2 ⟨cs, rfl, hX, hb2⟩; have HX := hidden (HST.out w2 cs hb2 (by have h := hX; obtain ⟨h9, s_n, s_r⟩ := h; rw [h9]; rfl) (shNeed.mono (Ow.mono hsr (Nat.le_refl _)) hX)); obtain ⟨rfl, s_n, s_r⟩ := hX; obtain ⟨y0, d0⟩ := HC.out w2 hb2 0 (by omega); obtain ⟨y1, d1⟩ := HC.out w2 hb2 1 (by omega); rw [Nat.add_zero] at d0; have f9 := HF.out w2 hb2)
      go_roundw
      case rel =>
        refine ⟨k + 1, _, by omega, by go_num, setW_owns [.string d.n, .string d.r] w2 ys (k * 2) (HO.out w2 hb2), HX.out, setW_below (Nat.le_refl _) [.string d.n, .string d.r] w2 w (k * 2) (hbr.trans (hb2.mono hbr.size)), ?_⟩
        have h9 := setW_size [.string d.n, .string d.r] w2 w.heap.size (k * 2)
        have := hb2.size
        exact Nat.le_trans (show w.heap.size + 1 ≤ w2.heap.size by omega) (Nat.le_of_eq h9.symm)
      case measure => simp [intOf]; omega
    · have he : k = xs.length := by omega
      subst he
      clear ha
      go_wp2_with fail
      go_ret
      exact ⟨_, rfl, rowOwn_of hownr hlm hy.out, hbr⟩

set_option maxHeartbeats 2000000 in
set_option maxRecDepth 100000 in
theorem toCmd_c (S : Nat → Prop) (d : CmdD) (cs : List Value) (w : World) (hd : shCmd.lies S w cs d) (hB : ∀ b, S b → b < w.heap.size) (hw : wtCmd d ≤ 1048576) :
    Calls Try.prog 88 #[.agg cs.toArray] w fun e w' => ∃ cs', e = .returned (.agg cs'.toArray) ∧ shCmdO.lies (Ow w.heap.size w'.heap.size) w' cs' d ∧ Below w.heap.size w w' := by
  obtain ⟨u0, rfl, s_t, r0, p0⟩ := hd
  have hb3 : ∀ A R O, Below w.heap.size w (((w.alloc A).alloc R).alloc O) := fun A R O => (((Below.refl _ _).alloc (Nat.le_refl _) _).alloc (by simp) _).alloc (by simp; omega) _
  unfold wtCmd at hw
  have HS0 : Hid (∀ w1, Below w.heap.size w w1 → Calls Try.prog 69 #[u0] w1 fun e w' => ∃ g, e = .returned (.slice (some ⟨g, 0, none⟩) d.acts.length d.acts.length) ∧ StrsOwn (Ow w1.heap.size w'.heap.size) w' (.slice (some ⟨g, 0, none⟩) d.acts.length d.acts.length) d.acts ∧ Below w1.heap.size w1 w') := fun w1 hb =>
    (toStrs_c u0 d.acts w1 ((r0.keep (.of hb hB)).reads (fun b h => Nat.lt_of_lt_of_le (hB b h) hb.size)) (by unfold bulkS at hw; omega)).mono fun e w' ⟨g, h1, h2, h3⟩ => ⟨g, h1, ⟨owns_lo (Nat.zero_le _) h2, owns_in h2⟩, h3⟩
  obtain ⟨a0, cap0, eu0, _⟩ := id r0
  rw [length_strsV] at eu0
  subst eu0
  clear r0
  go_enter Try.func88, Try.ntmps88
  go_wp2_with fail
  go_at_call 69
  refine (HS0.out _ (hb3 _ _ _)).mono ?_
  rintro e w1 ⟨g1, rfl, R0, b1⟩
  obtain ⟨hA1, hR1, hO1⟩ := vthree b1
  have s3 : ∀ A R O, (((w.alloc A).alloc R).alloc O).heap.size = w.heap.size + 1 + 1 + 1 := fun A R O => by simp
  rw [s3] at b1 R0
  have m1 : w.heap.size + 3 ≤ w1.heap.size := by have := b1.size; rw [s3] at this; omega
  have kw1 : Below w.heap.size w w1 := (hb3 _ _ _).trans (b1.mono (by omega))
  replace R0 := R0.mono (S' := Ow (w.heap.size + 3) w1.heap.size) (Ow.mono (by omega) (Nat.le_refl _))
  have m1' : w.heap.size + 3 ≤ w1.heap.size := by omega
  have o0 := vblk_cell hO1 0
  have q0 := vblk_cell hR1 0
  have y0 := vblk_cell hA1 0
  have o1 := vblk_cell hO1 1
  have q1 := vblk_cell hR1 1
  have y1 := vblk_cell hA1 1
  have fo := vblk_frozen hO1
  have fr := vblk_frozen hR1
  simp only [List.getElem?_toArray, List.getElem?_cons_succ, List.getElem?_cons_zero, List.setIfInBounds_toArray, List.set_cons_succ, List.set_cons_zero] at o0 q0 y0 o1 q1 y1
  go_wp2_with fail
  refine bodyPost_ret (v := .agg #[.string d.t, .slice (some ⟨g1, 0, none⟩) d.acts.length d.acts.length]) (by simp [results, Try.results88, go_sem, o0, q0, o1, q1]) rfl ⟨[.string d.t, .slice (some ⟨g1, 0, none⟩) d.acts.length d.acts.length], rfl, ?_, ?_⟩
  · have hS : ∀ {W : World}, w1.heap.size ≤ W.heap.size → ∀ b, Ow (w.heap.size + 3) w1.heap.size b → Ow w.heap.size W.heap.size b := fun h => Ow.mono (by omega) h
    refine ⟨_, rfl, s_t, (R0.keep ?_).mono (hS ?_), p0⟩
    all_goals first
      | (simp [World.setCell]; done)
      | ((repeat (refine Kp.trans ?_ (Kp.set (Ow.not (by omega))))); exact fun b hb => rfl)
  · refine ?_
    (repeat (refine Below.setCell ?_ (by simp <;> omega) _))
    exact kw1

set_option maxHeartbeats 2000000 in
set_option maxRecDepth 100000 in
theorem infoCmd : (Try.prog.info? 107).map (fun i => (i.zero, i.size, i.bytes)) = some (some (.agg #[.string ⟨#[]⟩, .slice none 0 0]), 2, 40) := by kernel_rfl
set_option maxHeartbeats 2000000 in
set_option maxRecDepth 100000 in
theorem toCmdS_c (S : Nat → Prop) (v : Value) (xs : List CmdD) (w : World) (hv : RowIn shCmd S w v xs) (hB : ∀ b, S b → b < w.heap.size) (hw : wtRow wtCmd xs ≤ 1048576) :
    Calls Try.prog 71 #[v] w fun e w' => ∃ g, e = .returned (.slice (some ⟨g, 0, none⟩) xs.length xs.length) ∧ RowOwn shCmdO 107 (Ow w.heap.size w'.heap.size) w' (.slice (some ⟨g, 0, none⟩) xs.length xs.length) xs ∧ Below w.heap.size w w' := by
  obtain ⟨a, cap, rfl, hl, hc, ha⟩ := hv
  have hn := len_wtRow wtCmd xs
  have hlm : xs.length ≤ maxLen := hl
  unfold maxLen at hl
  obtain ⟨i0, hi, hz0, hz1, hz2⟩ := info_parts infoCmd
  go_enter Try.func71, Try.ntmps71
  go_wp2_with (first
    | (at_make; refine wpList_make_full _ rfl _ _ 31 rfl w.heap.size 107 i0 _ 2 Try.underlying31 hi hz0 hz1 _ _ _ _ xs.length rfl rfl rfl rfl (by rw [hz2]; omega) (by unfold maxLen; omega) (Nat.le_refl _) ?_))
  intro w1 hown hgrow
  have hb1 := below_of_grown hgrow
  have hs1 : w.heap.size + 1 ≤ w1.heap.size := by
    rcases hown.2 with ⟨h, _⟩ | ⟨g, cap, cur, h, _, hg, _⟩
    · simp at h
    · simp at h
      have := (Array.getElem?_eq_some_iff.1 hg).1
      omega
  obtain ⟨ys1, hown1⟩ : ∃ ys, w1.ownsRow w.heap.size 107 2 (.slice (some ⟨w.heap.size, 0, none⟩) xs.length xs.length) xs.length ys := ⟨_, hown⟩
  clear hgrow hown
  go_wp2_with fail
  go_loopw [4] (fun vi wr => ∃ (k : Nat) (ys : List Value), k ≤ xs.length ∧ vi = .int .i64 (k : Int) ∧ wr.ownsRow w.heap.size 107 2 (.slice (some ⟨w.heap.size, 0, none⟩) xs.length xs.length) xs.length ys ∧ Hid (Laid shCmdO (Ow (w.heap.size + 1) wr.heap.size) wr ys xs k) ∧ Below w.heap.size w wr ∧ w.heap.size + 1 ≤ wr.heap.size) (fun vi _ => xs.length - (intOf vi).toNat)
  case atStart => exact ⟨0, ys1, Nat.zero_le _, rfl, hown1, (fun i h h0 => by omega), hb1, hs1⟩
  case round =>
    obtain ⟨k, ys, hk, rfl, hownr, hy, hbr, hsr⟩ := hrel
    by_cases hlt' : k < xs.length
    · rcases ha with rfl | ⟨b, off, rfl, hlt, ha⟩
      · simp at hlt'
      obtain ⟨cs, hL, hcell⟩ := ha k hlt'
      have hL2 := shCmd.keep (.of hbr hB) hL
      have hcell2 := hcell.keep (.of hbr hB) hlt
      have hBr : ∀ b, S b → b < wr.heap.size := fun b h => Nat.lt_of_lt_of_le (hB b h) hbr.size
      have hwt : wtCmd xs[k] ≤ 1048576 := by have := wt_wtRow wtCmd (List.getElem_mem hlt'); omega
      have hown2 : ∀ w2, Below wr.heap.size wr w2 → w2.ownsRow w.heap.size 107 2 (.slice (some ⟨w.heap.size, 0, none⟩) xs.length xs.length) xs.length ys := fun w2 h2 => hownr.kept (grown_of_below h2 none) (by simp [Value.ownBlock])
      have hlen := hownr.1
      have HC : Hid (∀ w2, Below wr.heap.size wr w2 → ∀ j, j < 2 → ∃ x, w2.cell? ⟨w.heap.size, k * 2 + j, none⟩ = some x) := fun w2 h2 j hj => ⟨ys.getD (k * 2 + j) undef, by rw [(hown2 w2 h2).cellAt _ (by omega)]; simp [List.getD_eq_getElem?_getD, show k * 2 + j < ys.length by omega]⟩
      have HF : Hid (∀ w2, Below wr.heap.size wr w2 → ∀ j, w2.frozen? ⟨w.heap.size, j, none⟩ = false) := fun w2 h2 j => (hown2 w2 h2).frozenAt j
      have HO : Hid (∀ w2, Below wr.heap.size wr w2 → w2.ownsRow w.heap.size 107 2 (.slice (some ⟨w.heap.size, 0, none⟩) xs.length xs.length) xs.length ys) := hown2
      have HST : Hid (∀ w2 cs, Below wr.heap.size wr w2 → cs.length = 2 → shCmdO.lies (Ow (w.heap.size + 1) w2.heap.size) w2 cs xs[k] → Laid shCmdO (Ow (w.heap.size + 1) (setW w2 w.heap.size (k * 2) cs).heap.size) (setW w2 w.heap.size (k * 2) cs) (putL ys (k * 2) cs) xs (k + 1)) := fun w2 cs h2 hc hr => hy.out.step (sh := shCmdO) hlt' hlen h2 (by omega) hc hr
      obtain ⟨d, hd⟩ : ∃ d, d = xs[k] := ⟨_, rfl⟩
      rw [← hd] at hL2 hwt HST
      have HC1 := toCmd_c S d cs wr hL2 hBr hwt
      clear ha hL hcell hd hown2 hi hz0 hz1 hz2 hown1 hb1 hlen hwt
      obtain ⟨u0, rfl, s_t, r0, p0⟩ := hL2
      clear s_t p0
      obtain ⟨a0, cap0, eu0, _⟩ := id r0
      rw [length_strsV] at eu0
      subst eu0
      clear r0
      have e0 : wr.cell? ⟨b, off + k * 2, none⟩ = some (.string d.t) := hcell2 0 (by simp)
      have e1 : wr.cell? ⟨b, off + k * 2 + 1, none⟩ = some (.slice a0 d.acts.length cap0) := hcell2 1 (by simp)
      have HC2 := hidden HC1
      have hki : (k : Int) < (xs.length : Int) := by omega
      clear hcell2 HC1
      go_wp2_with (go_at_call 88; refine HC2.out.mono ?_; rintro e w2 ⟨cs, rfl, hX, hb2⟩; have HX := hidden (HST.out w2 cs hb2 (by have h := hX; obtain ⟨u0, h9, s_t, r0, p0⟩ := h; rw [h9]; rfl) (shCmdO.mono (Ow.mono hsr (Nat.le_refl _)) hX)); obtain ⟨u0, rfl, s_t, z0, p0⟩ := hX; obtain ⟨b0, bap0, ev0⟩ := z0.slice; subst ev0; obtain ⟨y0, d0⟩ := HC.out w2 hb2 0 (by omega); obtain ⟨y1, d1⟩ := HC.out w2 hb2 1 (by omega); rw [Nat.add_zero] at d0; have f9 := HF.out w2 hb2)
      go_roundw
      case rel =>
        refine ⟨k + 1, _, by omega, by go_num, setW_owns [.string d.t, .slice b0 d.acts.length bap0] w2 ys (k * 2) (HO.out w2 hb2), HX.out, setW_below (Nat.le_refl _) [.string d.t, .slice b0 d.acts.length bap0] w2 w (k * 2) (hbr.trans (hb2.mono hbr.size)), ?_⟩
        have h9 := setW_size [.string d.t, .slice b0 d.acts.length bap0] w2 w.heap.size (k * 2)
        have := hb2.size
        exact Nat.le_trans (show w.heap.size + 1 ≤ w2.heap.size by omega) (Nat.le_of_eq h9.symm)
      case measure => simp [intOf]; omega
    · have he : k = xs.length := by omega
      subst he
      clear ha
      go_wp2_with fail
      go_ret
      exact ⟨_, rfl, rowOwn_of hownr hlm hy.out, hbr⟩

end Go.Proofs.Ytbhedlobiagngaa

/-! Copies in memory of their own, as the law makes them: contracts for the walks; condition: what is copied holds at most 2 to the 20. -/
namespace Go.Proofs.Ytbhedlobiagngaa
open Go.RowKit
set_option linter.unusedSimpArgs false
set_option linter.unusedVariables false

end Go.Proofs.Ytbhedlobiagngaa

/-! What a text falls into between the bytes c, and what the specification's Split answers: just that list; conditions: the text has at most 2 to the 20 bytes and a few more. -/
namespace Go.Proofs.Ytbhedlobiagngaa
open Go.RowKit
set_option linter.unusedSimpArgs false
set_option linter.unusedVariables false

/-- The pieces behind place i, the piece at hand having begun at place b. -/
def splitGo (s : ByteArray) (c : Int) : Nat → Nat → Nat → List ByteArray
  | 0, _, b => [s.extract b s.size]
  | f + 1, i, b => if ((s.data[i]!).toNat : Int) = c then s.extract b i :: splitGo s c f (i + 1) (i + 1) else splitGo s c f (i + 1) b
def splitS (s : ByteArray) (c : Int) : List ByteArray := splitGo s c s.size 0 0

theorem splitGo_hit (s : ByteArray) (c : Int) (i b : Nat) (hi : i < s.size) (h : ((s.data[i]!).toNat : Int) = c) : splitGo s c (s.size - i) i b = s.extract b i :: splitGo s c (s.size - (i + 1)) (i + 1) (i + 1) := by
  obtain ⟨f, hf⟩ : ∃ f, s.size - i = f + 1 := ⟨s.size - i - 1, by omega⟩
  rw [hf, splitGo, if_pos h, show s.size - (i + 1) = f by omega]
theorem splitGo_miss (s : ByteArray) (c : Int) (i b : Nat) (hi : i < s.size) (h : ¬ ((s.data[i]!).toNat : Int) = c) : splitGo s c (s.size - i) i b = splitGo s c (s.size - (i + 1)) (i + 1) b := by
  obtain ⟨f, hf⟩ : ∃ f, s.size - i = f + 1 := ⟨s.size - i - 1, by omega⟩
  rw [hf, splitGo, if_neg h, show s.size - (i + 1) = f by omega]
theorem splitGo_end (s : ByteArray) (c : Int) (b : Nat) : splitGo s c (s.size - s.size) s.size b = [s.extract b s.size] := by
  rw [Nat.sub_self, splitGo]

theorem strs_append (xs ys : List ByteArray) : strsV xs ++ strsV ys = strsV (xs ++ ys) := by simp [strsV]

end Go.Proofs.Ytbhedlobiagngaa

/-! Contracts of two functions of the library (the first place of a byte in a text; a copy of a text), taken over from the library of contracts at the numbers of this program; conditions as each says. -/
namespace Go.Proofs
open Go.Shelf
def Try.laysM316_ren : Go.Shelf.Ren := ⟨fun | 316 => 81 | n => n, fun | 9 => 9 | 3 => 3 | 4 => 4 | 37 => 22 | 0 => 0 | 127 => 129 | 5 => 5 | n => n, fun | n => n⟩
theorem Try.laysM316 : Go.Proofs.LaysM.n316 Try.prog Try.laysM316_ren := {
  mixed := by kernel_rfl
  f316 := Try.func81.trans (congrArg some (by kernel_rfl))
  t0 := Try.underlying0
  a0 := Try.isAgg0
  z0 := Try.sizeOf0
  v0 := Try.zeroValue0
  t3 := Try.underlying3
  a3 := Try.isAgg3
  z3 := Try.sizeOf3
  v3 := Try.zeroValue3
  t4 := Try.underlying4
  a4 := Try.isAgg4
  z4 := Try.sizeOf4
  v4 := Try.zeroValue4
  t9 := Try.underlying9
  a9 := Try.isAgg9
  z9 := Try.sizeOf9
  v9 := Try.zeroValue9
  t37 := Try.underlying22
  a37 := Try.isAgg22
  z37 := Try.sizeOf22
  v37 := Try.zeroValue22
  t127 := Try.underlying129
  a127 := Try.isAgg129
  z127 := Try.sizeOf129
  v127 := Try.zeroValue129
  t5 := Try.underlying5
  a5 := Try.isAgg5
  z5 := Try.sizeOf5
  v5 := Try.zeroValue5
  i0 := by kernel_rfl
  i3 := by kernel_rfl
  i4 := by kernel_rfl
  i5 := by kernel_rfl
  i9 := by kernel_rfl
  i37 := by kernel_rfl
  i127 := by kernel_rfl }
open Go.RowKit in
theorem Try.stringslite_Clone (s : ByteArray) (w : World) (hlim : s.size ≤ 281474976710656) :
    Calls Try.prog 81 #[.string s] w fun e w' => e = .returned (.string s) ∧ Below w.heap.size w w' := Any.stringslite_Clone Try.laysM316 s w hlim
end Go.Proofs

/-! What the program's Split answers: the same list as the specification's, in memory of its own; condition: the text has at most 2 to the 20 bytes. -/
namespace Go.Proofs.Ytbhedlobiagngaa
open Go.RowKit
set_option linter.unusedSimpArgs false
set_option linter.unusedVariables false

theorem split_none (s : ByteArray) (c : Int) (b : Nat) : ∀ (n i : Nat), n = s.size - i → i ≤ s.size → (∀ j, i ≤ j → j < s.size → ¬ ((s.data[j]!).toNat : Int) = c) → splitGo s c (s.size - i) i b = [s.extract b s.size]
  | 0, i, hn, hi, h => by
    have : i = s.size := by omega
    subst this
    exact splitGo_end s c b
  | n + 1, i, hn, hi, h => by
    rw [splitGo_miss s c i b (by omega) (h i (Nat.le_refl _) (by omega))]
    exact split_none s c b n (i + 1) (by omega) (by omega) (fun j h1 h2 => h j (by omega) h2)
theorem split_some (s : ByteArray) (c : Int) (b j : Nat) (hj : j < s.size) (hc : ((s.data[j]!).toNat : Int) = c) : ∀ (n i : Nat), n = j - i → i ≤ j → (∀ k, i ≤ k → k < j → ¬ ((s.data[k]!).toNat : Int) = c) → splitGo s c (s.size - i) i b = s.extract b j :: splitGo s c (s.size - (j + 1)) (j + 1) (j + 1)
  | 0, i, hn, hi, h => by
    have : i = j := by omega
    subst this
    exact splitGo_hit s c i b hj hc
  | n + 1, i, hn, hi, h => by
    rw [splitGo_miss s c i b (by omega) (h i (Nat.le_refl _) (by omega))]
    exact split_some s c b j hj hc n (i + 1) (by omega) (by omega) (fun k h1 h2 => h k (by omega) h2)

def strSize : Value → Nat | .string s => s.size | _ => 0

theorem ext_list {a b : ByteArray} (h : a.data.toList = b.data.toList) : a = b := ByteArray.ext (Array.toList_inj.1 h)
theorem extract_list (s : ByteArray) (a b : Nat) : (s.extract a b).data.toList = (s.data.toList.drop a).take (b - a) := Lib.extract_data s a b
theorem len_list (s : ByteArray) : s.data.toList.length = s.size := by rw [Array.length_toList]; rfl
theorem size_tail (s : ByteArray) (b : Nat) (h : b ≤ s.size) : (s.extract b s.size).size = s.size - b := by
  rw [← len_list, extract_list, List.length_take, List.length_drop, len_list]; omega
theorem tail_list (s : ByteArray) (b : Nat) : (s.extract b s.size).data.toList = s.data.toList.drop b := by
  rw [extract_list, List.take_of_length_le (by rw [List.length_drop, len_list]; omega)]
theorem tail_head (s : ByteArray) (b k : Nat) : (s.extract b s.size).extract 0 k = s.extract b (b + k) := by
  apply ext_list
  rw [extract_list, tail_list, extract_list]
  simp
theorem tail_tail (s : ByteArray) (b k : Nat) : (s.extract b s.size).extract k (s.extract b s.size).size = s.extract (b + k) s.size := by
  apply ext_list
  rw [tail_list, tail_list, tail_list, List.drop_drop]

theorem bang_list (s : ByteArray) (j : Nat) (h : j < s.size) : s.data.toList[j]? = some (s.data[j]!) := by
  rw [byteBang s j h, List.getElem?_eq_getElem (by rw [len_list]; exact h)]
  rfl

/-- What the search for the byte says of the text behind place b. -/
theorem search (s : ByteArray) (c : Int) (b : Nat) (hb : b ≤ s.size) (h0 : 0 ≤ c) (h1 : c ≤ 255) :
    (Lib.indexByte (s.extract b s.size).data.toList c.toNat.toUInt8 = -1 ∧ splitGo s c (s.size - b) b b = [s.extract b s.size]) ∨
    ∃ k : Nat, Lib.indexByte (s.extract b s.size).data.toList c.toNat.toUInt8 = (k : Int) ∧ b + k < s.size ∧ splitGo s c (s.size - b) b b = s.extract b (b + k) :: splitGo s c (s.size - (b + k + 1)) (b + k + 1) (b + k + 1) := by
  have hcn : ∀ u : UInt8, (u.toNat : Int) = c ↔ u = c.toNat.toUInt8 := fun u => by
    have hu := u.toNat_lt
    constructor
    · intro e
      have : u.toNat = c.toNat := by omega
      rw [← this]; simp
    · intro e
      subst e
      simp [UInt8.toNat_ofNat']
      omega
  rw [tail_list]
  have hge := Lib.indexByte_ge (s.data.toList.drop b) c.toNat.toUInt8
  by_cases hm : Lib.indexByte (s.data.toList.drop b) c.toNat.toUInt8 = -1
  · refine .inl ⟨hm, split_none s c b _ b rfl hb (fun j h1 h2 e => ?_)⟩
    have := Lib.indexByte_none hm (j - b)
    rw [List.getElem?_drop, show b + (j - b) = j by omega, bang_list s j h2] at this
    exact this (by rw [(hcn _).1 e])
  · obtain ⟨k, hk⟩ := Int.eq_ofNat_of_zero_le (show 0 ≤ Lib.indexByte (s.data.toList.drop b) c.toNat.toUInt8 by omega)
    obtain ⟨hh, hbef⟩ := Lib.indexByte_some hk
    rw [List.getElem?_drop] at hh
    have hlt : b + k < s.size := by
      rw [← len_list]
      exact (List.getElem?_eq_some_iff.1 hh).1
    refine .inr ⟨k, hk, hlt, split_some s c b (b + k) hlt ?_ _ b rfl (by omega) (fun j h1 h2 e => ?_)⟩
    · rw [bang_list s _ hlt] at hh
      exact (hcn _).2 (by simpa using hh)
    · have := hbef (j - b) (by omega)
      rw [List.getElem?_drop, show b + (j - b) = j by omega, bang_list s j (by omega)] at this
      exact this (by rw [(hcn _).1 e])

set_option maxHeartbeats 1000000 in
theorem clone_c (s : ByteArray) (w : World) (h : s.size ≤ 1048576) : Calls Try.prog 60 #[.string s] w fun e w' => e = .returned (.string s) ∧ Below w.heap.size w w' := by
  go_enter Try.func60, Try.ntmps60
  go_wp2_with (go_at_call 81; refine (Try.stringslite_Clone s _ (by omega)).mono ?_; rintro e w1 ⟨rfl, b1⟩)
  go_ret
  exact ⟨rfl, b1⟩

end Go.Proofs.Ytbhedlobiagngaa

/-! Copies of versions, needs and entries, as the program makes them: contracts for the walks; conditions: they lie in memory, and hold at most 2 to the 20. -/
namespace Go.Proofs.Ytbhedlobiagngaa
open Go.RowKit
set_option linter.unusedSimpArgs false
set_option linter.unusedVariables false

/-- A block of another type than a row's is not the row's. -/
theorem row_box {w : World} {lo sz n g : Nat} {e t : TypeId} {v : Value} {xs : List Value} {cs : Array Value} {fz : Nat × Nat} (h : w.ownsRow lo e sz v n xs) (hb : w.heap[g]? = some (.cells cs t fz)) (hne : e ≠ t) : v.ownBlock ≠ some g := fun he => by
  rcases h.2 with ⟨rfl, _⟩ | ⟨g', cap, cur, rfl, _, hg, _⟩
  · simp [Value.ownBlock] at he
  · simp [Value.ownBlock] at he
    subst he
    rw [hg] at hb
    simp at hb
    exact hne hb.2.1
theorem box_grown {w w' : World} {row : Option Nat} {g : Nat} {o : Obj} (hb : w.heap[g]? = some o) (hg : w.grownBy w' row) (hne : row ≠ some g) : w'.heap[g]? = some o :=
  (hg.block g (Array.getElem?_eq_some_iff.1 hb).1 (fun e => hne e.symm)).trans hb
theorem box_below {w w' : World} {g : Nat} {o : Obj} (hb : w.heap[g]? = some o) (h : Below w.heap.size w w') : w'.heap[g]? = some o :=
  (h.block g (Array.getElem?_eq_some_iff.1 hb).1).trans hb
theorem row_put {w : World} {lo sz n g j : Nat} {e t : TypeId} {v x : Value} {xs : List Value} {cs : Array Value} {fz : Nat × Nat} (h : w.ownsRow lo e sz v n xs) (hb : w.heap[g]? = some (.cells cs t fz)) (hne : e ≠ t) : (w.setCell ⟨g, j, none⟩ x).ownsRow lo e sz v n xs :=
  owns_kept (S := fun b => b ≠ g) (Kp.set (by simp)) (fun b hb' => by rintro rfl; exact row_box h hb hne hb') h
theorem List.single_le_sum_natC {ss : List ByteArray} {t : ByteArray} (h : t ∈ ss) : t.size ≤ (ss.map ByteArray.size).sum := by
  induction ss with
  | nil => simp at h
  | cons a l ih =>
    simp only [List.map_cons, List.sum_cons]
    rcases List.mem_cons.1 h with rfl | h
    · omega
    · have := ih h; omega
theorem two_boxes {w : World} (A R : Obj) : ((w.alloc A).alloc R).heap[w.heap.size]? = some A ∧ ((w.alloc A).alloc R).heap[w.heap.size + 1]? = some R := by
  have s1 : (w.alloc A).heap.size = w.heap.size + 1 := by simp
  refine ⟨?_, ?_⟩
  · rw [vheap_old _ _ (by simp), vheap_new]
  · rw [← s1, vheap_new]

end Go.Proofs.Ytbhedlobiagngaa

/-! The graph of packs, as the program makes it: a contract for the walks; conditions: the packs lie in memory, and hold at most 2 to the 20. -/
namespace Go.Proofs.Ytbhedlobiagngaa
open Go.RowKit Go.Maps
set_option linter.unusedSimpArgs false
set_option linter.unusedVariables false

/-- Packs as names and what they use. -/
def plOf (xs : List PackD) : PL := xs.map fun d => (d.name, d.uses)
theorem plOf_take (xs : List PackD) (k : Nat) : plOf (xs.take k) = (plOf xs).take k := by unfold plOf; rw [List.map_take]
theorem plOf_names (xs : List PackD) : (plOf xs).map (·.1) = xs.map (·.name) := by unfold plOf; rw [List.map_map]; rfl
theorem GrM.below {lo : Nat} {w w' : World} {p own : Nat} {g : GD} (h : GrM lo w p own g) (hb : Below w.heap.size w w') : GrM lo w' p own g := by
  obtain ⟨mb, vn, vu, vb, us, bs, hbox, hp, C⟩ := h
  exact ⟨mb, vn, vu, vb, us, bs, (hb.block p (Array.getElem?_eq_some_iff.1 hbox).1).trans hbox, hp, C.new (r := none) (grown_of_below hb none) (fun q e => by cases e)⟩
theorem GrM.lo {lo : Nat} {w : World} {p own : Nat} {g : GD} (h : GrM lo w p own g) : lo ≤ w.heap.size := by
  obtain ⟨_, _, _, _, _, _, hb, hp, _⟩ := h
  have := (Array.getElem?_eq_some_iff.1 hb).1
  omega
theorem GrC.low {lo mb q : Nat} {w w' : World} {vn vu vb : Value} {us bs : List Value} {M N : List ByteArray} {U B : List (List Nat)} {xa xb : Nat → Prop} (h : GrC lo w mb vn vu vb us bs M N U B xa xb) (hg : w.grownBy w' (some q)) (hq : q < lo) : GrC lo w' mb vn vu vb us bs M N U B xa xb := by
  have hr : ∀ {sz n : Nat} {e : TypeId} {v : Value} {xs : List Value}, w.ownsRow lo e sz v n xs → v.ownBlock = none ∨ v.ownBlock ≠ some q := fun hv => .inr fun e => by have := (hv.lt q e).1; omega
  exact h.kept hg (fun e => by have := Option.some.inj e; have := h.mlo; omega) (hr h.names) (hr h.ru) (hr h.rb) (fun i u hx hi => hr (h.eu i u hx hi)) (fun i u hx hi => hr (h.eb i u hx hi))
theorem GrC.lower {lo lo' mb : Nat} {w : World} {vn vu vb : Value} {us bs : List Value} {M N : List ByteArray} {U B : List (List Nat)} {xa xb : Nat → Prop} (h : GrC lo w mb vn vu vb us bs M N U B xa xb) (hl : lo' ≤ lo) : GrC lo' w mb vn vu vb us bs M N U B xa xb :=
  ⟨h.map, Nat.le_trans hl h.mlo, owns_lo hl h.names, owns_lo hl h.ru, owns_lo hl h.rb, fun i u hx hi => owns_lo hl (h.eu i u hx hi), fun i u hx hi => owns_lo hl (h.eb i u hx hi), h.vv, h.ap, h.ltu, h.ltb⟩
theorem gNames_len (ns : List ByteArray) : (gNames ns).N.length ≤ ns.length := by
  rcases (gNames_ok ns).2.2.1 with h | h
  · rw [h]; exact Nat.le_refl _
  · omega
theorem gNames_take (ns : List ByteArray) (k : Nat) (h : k < ns.length) : gNames (ns.take (k + 1)) = (gNames (ns.take k)).add ns[k] := by rw [List.take_succ_eq_append_getElem h, gNames_snoc]
theorem gUses_take (g : GD) (P : PL) (k : Nat) (h : k < P.length) : gUses g (P.take (k + 1)) = (gUses g (P.take k)).uses P[k].1 P[k].2 := by rw [List.take_succ_eq_append_getElem h, gUses_snoc]
/-- How much packs use. -/
def sumU (P : PL) : Nat := (P.map fun d => 1 + d.2.length).sum
theorem sumU_snoc (P : PL) (d : ByteArray × List ByteArray) : sumU (P ++ [d]) = sumU P + (1 + d.2.length) := by unfold sumU; simp
theorem gUses_size (g : GD) (P : PL) : (gUses g P).N.length ≤ g.N.length + sumU P ∧ ∀ i, (rowAt (gUses g P).U i).length ≤ (rowAt g.U i).length + sumU P ∧ (rowAt (gUses g P).B i).length ≤ (rowAt g.B i).length + sumU P := by
  refine rev_ind (p := fun P => (gUses g P).N.length ≤ g.N.length + sumU P ∧ ∀ i, (rowAt (gUses g P).U i).length ≤ (rowAt g.U i).length + sumU P ∧ (rowAt (gUses g P).B i).length ≤ (rowAt g.B i).length + sumU P) ⟨by simp [gUses], fun i => by simp [gUses]⟩ (fun P d ⟨h1, h2⟩ => ?_) P
  rw [gUses_snoc, sumU_snoc]
  unfold GD.uses
  have h3 := fold_use_len (posN ((gUses g P).add d.1).N d.1) d.2 ((gUses g P).add d.1)
  have h4 := GD.add_len (gUses g P) d.1
  refine ⟨by omega, fun i => ?_⟩
  have h5 := fold_use_rows (posN ((gUses g P).add d.1).N d.1) d.2 ((gUses g P).add d.1) i
  rw [(GD.add_row _ _ i).1, (GD.add_row _ _ i).2] at h5
  have h6 := h2 i
  omega
theorem sumU_take (P : PL) (k : Nat) (h : k < P.length) : sumU (P.take k) + (1 + P[k].2.length) ≤ sumU P := by
  have h1 : sumU P = sumU (P.take (k + 1)) + sumU (P.drop (k + 1)) := by unfold sumU; rw [← List.sum_append, ← List.map_append, List.take_append_drop]
  rw [List.take_succ_eq_append_getElem h, sumU_snoc] at h1
  omega
theorem sumU_wt : ∀ xs : List PackD, sumU (plOf xs) ≤ wtRow wtPack xs
  | [] => by simp [sumU, plOf, wtRow]
  | d :: xs => by
    have h1 := sumU_wt xs
    have e1 : sumU (plOf (d :: xs)) = (1 + d.uses.length) + sumU (plOf xs) := by simp [sumU, plOf]
    have e2 : wtRow wtPack (d :: xs) = (1 + wtPack d) + wtRow wtPack xs := by simp [wtRow]
    have h2 : d.uses.length ≤ wtPack d := by unfold wtPack bulkS; omega
    omega
theorem gNames_rows (ns : List ByteArray) (i : Nat) : rowAt (gNames ns).U i = [] ∧ rowAt (gNames ns).B i = [] := by
  obtain ⟨h1, _, _, h4⟩ := gNames_ok ns
  refine ⟨h4 i, ?_⟩
  refine List.eq_nil_iff_forall_not_mem.2 fun x hx => ?_
  have := h1.iff.1 hx
  rw [h4 x] at this
  cases this

set_option maxHeartbeats 8000000 in
set_option maxRecDepth 100000 in
theorem graphOf_c (S : Nat → Prop) (v : Value) (xs : List PackD) (w : World) (hv : RowIn shPack S w v xs) (hB : ∀ b, S b → b < w.heap.size) (hw : wtRow wtPack xs ≤ 1048576) :
    Calls Try.prog 29 #[v] w fun e w' => ∃ mb vn vu vb us bs, e = .returned (.agg #[.map (some mb), vn, .int .i64 (ownOf (plOf xs) : Int), vu, vb]) ∧ GrC w.heap.size w' mb vn vu vb us bs (gOf (plOf xs)).N (gOf (plOf xs)).N (gOf (plOf xs)).U (gOf (plOf xs)).B noX noX ∧ Below w.heap.size w w' := by
  have hl2 := len_wtRow wtPack xs
  have hlen : xs.length ≤ 1048576 := by omega
  have hsu := sumU_wt xs
  have hwe : ∀ d ∈ xs, d.uses.length ≤ 1048576 ∧ d.name.size ≤ 1048576 ∧ ∀ x ∈ d.uses, x.size ≤ maxLen := fun d hd => by
    have h1 := Nat.le_trans (wt_wtRow wtPack hd) hw
    unfold wtPack bulkS at h1
    refine ⟨by omega, by omega, fun x hx => ?_⟩
    have h2 : x.size ≤ (d.uses.map ByteArray.size).sum := List.single_le_sum_natC hx
    unfold maxLen
    omega
  have hPl : (plOf xs).length = xs.length := by unfold plOf; simp
  obtain ⟨hnok, hnm, _, _⟩ := gNames_ok (xs.map (·.name))
  have hnl := gNames_len (xs.map (·.name))
  rw [List.length_map] at hnl
  obtain ⟨a, cap, rfl, hl, hc, ha⟩ := hv
  unfold maxLen at hl
  obtain ⟨g1, hg1⟩ : ∃ g, g = gNames (xs.map (·.name)) := ⟨_, rfl⟩
  have HGO : Hid (gOf (plOf xs) = gUses g1 (plOf xs) ∧ ownOf (plOf xs) = g1.N.length) := by
    show _ ∧ _
    unfold gOf ownOf
    rw [plOf_names, ← hg1]
    exact ⟨rfl, rfl⟩
  rw [HGO.out.1, HGO.out.2]
  rw [← hg1] at hnok hnm hnl
  have HG1 := hidden hg1
  have hrows1 : ∀ i, rowAt g1.U i = [] ∧ rowAt g1.B i = [] := fun i => by rw [hg1]; exact gNames_rows _ i
  clear hg1 HGO
  have k1 : Below w.heap.size w (w.alloc (.cells #[.map none, .slice none 0 0, .int .i64 0, .slice none 0 0, .slice none 0 0] 53)) := (Below.refl _ _).alloc (Nat.le_refl _) _
  have HW0 : Hid (∀ W, W = ((w.alloc (.cells #[.map none, .slice none 0 0, .int .i64 0, .slice none 0 0, .slice none 0 0] 53)).alloc (.map #[] 0)).alloc (.cells #[.map (some (w.heap.size + 1)), .slice none 0 0, .int .i64 0, .slice none 0 0, .slice none 0 0] 53) → GrM (w.heap.size + 1) W (w.heap.size + 2) 0 ⟨[], [], []⟩ ∧ W.heap[w.heap.size]? = some (.cells #[.map none, .slice none 0 0, .int .i64 0, .slice none 0 0, .slice none 0 0] 53 (0, 0)) ∧ Below w.heap.size w W) := by
    intro W hW
    subst hW
    have z1 : (w.alloc (.cells #[.map none, .slice none 0 0, .int .i64 0, .slice none 0 0, .slice none 0 0] 53)).heap.size = w.heap.size + 1 := by simp
    have m0 := MapI_made (w.alloc (.cells #[.map none, .slice none 0 0, .int .i64 0, .slice none 0 0, .slice none 0 0] 53))
    rw [z1] at m0
    have z2 : ((w.alloc (.cells #[.map none, .slice none 0 0, .int .i64 0, .slice none 0 0, .slice none 0 0] 53)).alloc (.map #[] 0)).heap.size = w.heap.size + 2 := by simp
    refine ⟨⟨w.heap.size + 1, .slice none 0 0, .slice none 0 0, .slice none 0 0, [], [], ?_, by omega, ⟨⟨0, ?_⟩, by omega, World.ownsRow_nil _ _ _ _, World.ownsRow_nil _ _ _ _, World.ownsRow_nil _ _ _ _, fun i u _ h => (by simp at h), fun i u _ h => (by simp at h), fun g h => (by cases h), ⟨fun i j g u v h => (by simp at h), fun i j g u v h => (by simp at h), fun i j g u v h => (by simp at h)⟩, fun i g u h => (by simp at h), fun i g u h => (by simp at h)⟩⟩, ?_, ?_⟩
    · have := vheap_new ((w.alloc (.cells #[.map none, .slice none 0 0, .int .i64 0, .slice none 0 0, .slice none 0 0] 53)).alloc (.map #[] 0)) (.cells #[.map (some (w.heap.size + 1)), .slice none 0 0, .int .i64 0, .slice none 0 0, .slice none 0 0] 53)
      rw [z2] at this
      exact this
    · refine (m0.below ((Below.refl _ _).alloc (Nat.le_refl _) _)).same fun q => ?_
      rw [mOf_none (by simp)]
    · rw [vheap_old _ _ (by simp; omega), vheap_old _ _ (by simp), vheap_new]
    · exact ((k1.alloc (by simp) _).alloc (by simp; omega) _)
  clear k1
  have hmm := @run_makeMap Try.prog
  go_enter Try.func29, Try.ntmps29
  go_wp2_with fail
  go_loopw [12] (fun vi wr => ∃ k : Nat, k ≤ xs.length ∧ vi = .int .i64 (k : Int) ∧ Hid (GrM (w.heap.size + 1) wr (w.heap.size + 2) 0 (gNames ((xs.map (·.name)).take k))) ∧ Hid (wr.heap[w.heap.size]? = some (.cells #[.map none, .slice none 0 0, .int .i64 0, .slice none 0 0, .slice none 0 0] 53 (0, 0))) ∧ Below w.heap.size w wr) (fun vi _ => xs.length - (intOf vi).toNat)
  case atStart => exact ⟨0, Nat.zero_le _, rfl, (HW0.out _ rfl).1, (HW0.out _ rfl).2.1, (HW0.out _ rfl).2.2⟩
  case round =>
    clear HW0 hmm
    obtain ⟨k, hk, rfl, HG, HX, hbr⟩ := hrel
    by_cases hlt' : k < xs.length
    · have HT : Hid (gNames ((xs.map (·.name)).take (k + 1)) = (gNames ((xs.map (·.name)).take k)).add xs[k].name) := by
        have := gNames_take (xs.map (·.name)) k (by rw [List.length_map]; exact hlt')
        rw [List.getElem_map] at this
        exact this
      have hnk := gNames_len ((xs.map (·.name)).take k)
      have hnk2 : ((xs.map (·.name)).take k).length ≤ k := by rw [List.length_take]; omega
      have hokk := (gNames_ok ((xs.map (·.name)).take k)).1
      rcases ha with rfl | ⟨b, off, rfl, hlt, ha⟩
      · simp at hlt'
      obtain ⟨cs, hL, hcell⟩ := ha k hlt'
      have hBr : ∀ b, S b → b < wr.heap.size := fun b h => Nat.lt_of_lt_of_le (hB b h) hbr.size
      have hcell2 := hcell.keep (.of hbr hB) hlt
      replace hL := shPack.keep (.of hbr hB) hL
      obtain ⟨hw1, hw2, hw3⟩ := hwe xs[k] (List.getElem_mem hlt')
      obtain ⟨G, hG⟩ : ∃ G, G = gNames ((xs.map (·.name)).take k) := ⟨_, rfl⟩
      rw [← hG] at HG HT hnk hokk
      obtain ⟨d, hd⟩ : ∃ d, d = xs[k] := ⟨_, rfl⟩
      rw [← hd] at hL HT hw2
      obtain ⟨u0, u1, u2, rfl, _, r0, p0, r1', r2'⟩ := hL
      obtain ⟨a0, c0, eu0, _⟩ := id r0
      rw [length_strsV] at eu0
      obtain ⟨a1, c1, eu1, _⟩ := id r1'
      obtain ⟨a2, c2, eu2, _⟩ := id r2'
      subst eu0 eu1 eu2
      have e0 : wr.cell? ⟨b, off + k * 4, none⟩ = some (.string d.name) := hcell2 0 (by simp)
      have e1 : wr.cell? ⟨b, off + k * 4 + 1, none⟩ = some (.slice a0 d.uses.length c0) := hcell2 1 (by simp)
      have e2 : wr.cell? ⟨b, off + k * 4 + 2, none⟩ = some (.slice a1 d.needs.length c1) := hcell2 2 (by simp)
      have e3 : wr.cell? ⟨b, off + k * 4 + 3, none⟩ = some (.slice a2 d.cmds.length c2) := hcell2 3 (by simp)
      have hki : (k : Int) < (xs.length : Int) := by omega
      obtain ⟨t, ht⟩ : ∃ t, t = d.name := ⟨_, rfl⟩
      rw [← ht] at e0 HT hw2
      have hb0 : Below wr.heap.size wr (wr.alloc (.cells #[.string t, .slice a0 d.uses.length c0, .slice a1 d.needs.length c1, .slice a2 d.cmds.length c2] 33)) := (Below.refl _ _).alloc (Nat.le_refl _) _
      have HN := hidden (numberOf_c (w.heap.size + 1) (w.heap.size + 2) 0 G t _ (HG.out.below hb0) hokk (by unfold maxLen; omega) (by omega))
      have k0 := hbr.trans (hb0.mono hbr.size)
      have hrl : w.heap.size < wr.heap.size := (Array.getElem?_eq_some_iff.1 HX.out).1
      have HX0 := hidden ((hb0.block _ hrl).trans HX.out)
      clear ha hd ht hcell hcell2 r0 r1' r2' p0 hG HG HX hw3 hw1 hnk hnk2 hbr
      go_wp2_with (go_at_call 54; refine HN.out.mono ?_; rintro e w1 ⟨rfl, G1, b1⟩)
      have k1 : Below w.heap.size w w1 := k0.trans (b1.mono (by omega))
      have HX1 := hidden ((b1.block w.heap.size (by omega)).trans HX0.out)
      have HG1' := hidden G1
      clear HN b1 k0 HX0 e0 e1 e2 e3 hb0 G1
      go_wp2_with fail
      go_roundw
      case rel => exact ⟨k + 1, by omega, by go_num, by rw [HT.out]; exact HG1'.out, HX1, k1⟩
      case measure => simp [intOf]; omega
    · have he : k = xs.length := by omega
      subst he
      have HGe : Hid (GrM (w.heap.size + 1) wr (w.heap.size + 2) 0 g1) := by
        have := HG.out
        rw [show (xs.map (·.name)).take xs.length = xs.map (·.name) by rw [← List.length_map (f := fun d : PackD => d.name), List.take_length], ← HG1.out] at this
        exact this
      clear HG
      obtain ⟨mb, vn, vu, vb, us, bs, hbox, hp, C⟩ := HGe.out
      obtain ⟨qn, xn, en⟩ := owns_slG C.names
      subst en
      have c1 : wr.cell? ⟨w.heap.size + 2, 1, none⟩ = some (.slice qn g1.N.length xn) := vblk_cell hbox 1
      have c2 : wr.cell? ⟨w.heap.size + 2, 2, none⟩ = some (.int .i64 0) := vblk_cell hbox 2
      have f2 := vblk_frozen hbox 2
      have HG2 : Hid (GrM (w.heap.size + 1) (wr.setCell ⟨w.heap.size + 2, 2, none⟩ (.int .i64 (g1.N.length : Int))) (w.heap.size + 2) g1.N.length g1) := ⟨mb, _, vu, vb, us, bs, heap_setCell_same wr (w.heap.size + 2) 2 _ _ (.int .i64 (g1.N.length : Int)) hbox, hp, C.other (grown_set wr (w.heap.size + 2) 2 _) hbox ⟨by decide, by decide, by decide⟩⟩
      have HB2 : Hid (Below w.heap.size w (wr.setCell ⟨w.heap.size + 2, 2, none⟩ (.int .i64 (g1.N.length : Int)))) := Below.setCell hbr (by show _ ≤ w.heap.size + 2; omega) _
      have HX2 : Hid ((wr.setCell ⟨w.heap.size + 2, 2, none⟩ (.int .i64 (g1.N.length : Int))).heap[w.heap.size]? = some (.cells #[.map none, .slice none 0 0, .int .i64 0, .slice none 0 0, .slice none 0 0] 53 (0, 0))) := ((grown_set wr (w.heap.size + 2) 2 _).block w.heap.size (Array.getElem?_eq_some_iff.1 HX.out).1 (fun e => by have := Option.some.inj e; omega)).trans HX.out
      obtain ⟨nv, hnv⟩ : ∃ n : Int, n = (g1.N.length : Int) := ⟨_, rfl⟩
      rw [← hnv] at HG2 HB2 HX2
      have HNV := hidden hnv
      rw [HNV.out] at HG2 HB2 HX2
      clear C hbox HGe HX hbr hnv
      go_wp2_with fail
      go_loopw [26] (fun vi wr => ∃ k : Nat, k ≤ xs.length ∧ vi = .int .i64 (k : Int) ∧ Hid (GrM (w.heap.size + 1) wr (w.heap.size + 2) g1.N.length (gUses g1 ((plOf xs).take k))) ∧ Hid (wr.heap[w.heap.size]? = some (.cells #[.map none, .slice none 0 0, .int .i64 0, .slice none 0 0, .slice none 0 0] 53 (0, 0))) ∧ Below w.heap.size w wr) (fun vi _ => xs.length - (intOf vi).toNat)
      case atStart => exact ⟨0, Nat.zero_le _, rfl, HG2, HX2, HB2.out⟩
      case round =>
        clear HG2 HX2 HB2 c1 c2 f2
        obtain ⟨k, hk, rfl, HG, HX, hbr⟩ := hrel
        by_cases hlt' : k < xs.length
        · have hkP : k < (plOf xs).length := by omega
          have HT : Hid (gUses g1 ((plOf xs).take (k + 1)) = (gUses g1 ((plOf xs).take k)).uses xs[k].name xs[k].uses) := by
            have := gUses_take g1 (plOf xs) k hkP
            simp only [plOf, List.getElem_map] at this ⊢
            exact this
          have hsz := gUses_size g1 ((plOf xs).take k)
          have hsk := sumU_take (plOf xs) k hkP
          have hsk2 : (plOf xs)[k].2.length = xs[k].uses.length := by simp [plOf]
          rw [hsk2] at hsk
          have hokk := (gUses_ok g1 hnok (fun i => (hrows1 i).1) ((plOf xs).take k) (fun d hd => (hnm _).2 (by
            have hd2 := List.mem_of_mem_take hd
            unfold plOf at hd2
            obtain ⟨d', hd', rfl⟩ := List.mem_map.1 hd2
            exact List.mem_map.2 ⟨d', hd', rfl⟩))).1
          rcases ha with rfl | ⟨b, off, rfl, hlt, ha⟩
          · simp at hlt'
          obtain ⟨cs, hL, hcell⟩ := ha k hlt'
          have hBr : ∀ b, S b → b < wr.heap.size := fun b h => Nat.lt_of_lt_of_le (hB b h) hbr.size
          have hcell2 := hcell.keep (.of hbr hB) hlt
          replace hL := shPack.keep (.of hbr hB) hL
          obtain ⟨hw1, hw2, hw3⟩ := hwe xs[k] (List.getElem_mem hlt')
          obtain ⟨G, hG⟩ : ∃ G, G = gUses g1 ((plOf xs).take k) := ⟨_, rfl⟩
          rw [← hG] at HG HT hsz hokk
          obtain ⟨d, hd⟩ : ∃ d, d = xs[k] := ⟨_, rfl⟩
          rw [← hd] at hL HT hw1 hw2 hw3 hsk
          obtain ⟨u0, u1, u2, rfl, _, r0, p0, r1', r2'⟩ := hL
          have hEE : ∀ i, (rowAt G.U i).length + d.uses.length ≤ 1099511627776 ∧ (rowAt G.B i).length + d.uses.length ≤ 1099511627776 := fun i => by
            have h1 := hsz.2 i
            rw [(hrows1 i).1, (hrows1 i).2] at h1
            simp only [List.length_nil] at h1
            omega
          have hNN : G.N.length + d.uses.length ≤ 4194303 := by have := hsz.1; omega
          have HN' : ∀ w1, Below wr.heap.size wr w1 → Calls Try.prog 55 #[.pointer (some ⟨w.heap.size + 2, 0, none⟩), .string d.name, u0] w1 fun e w' => e = .returned (.tuple #[]) ∧ GrM (w.heap.size + 1) w' (w.heap.size + 2) g1.N.length (G.uses d.name d.uses) ∧ Below (w.heap.size + 1) w1 w' := fun w1 h1 =>
            addUses_c (w.heap.size + 1) (w.heap.size + 2) g1.N.length G d.name S u0 d.uses w1 (HG.out.below h1) hokk (r0.keep (.of h1 hBr)) (fun b hb => by have := hB b hb; omega) (by unfold maxLen; omega) hw3 hNN hEE
          have HN := hidden HN'
          clear HN'
          obtain ⟨a0, c0, eu0, _⟩ := id r0
          rw [length_strsV] at eu0
          obtain ⟨a1, c1, eu1, _⟩ := id r1'
          obtain ⟨a2, c2, eu2, _⟩ := id r2'
          subst eu0 eu1 eu2
          have e0 : wr.cell? ⟨b, off + k * 4, none⟩ = some (.string d.name) := hcell2 0 (by simp)
          have e1 : wr.cell? ⟨b, off + k * 4 + 1, none⟩ = some (.slice a0 d.uses.length c0) := hcell2 1 (by simp)
          have e2 : wr.cell? ⟨b, off + k * 4 + 2, none⟩ = some (.slice a1 d.needs.length c1) := hcell2 2 (by simp)
          have e3 : wr.cell? ⟨b, off + k * 4 + 3, none⟩ = some (.slice a2 d.cmds.length c2) := hcell2 3 (by simp)
          have hki : (k : Int) < (xs.length : Int) := by omega
          obtain ⟨t, ht⟩ : ∃ t, t = d.name := ⟨_, rfl⟩
          rw [← ht] at e0 HT HN
          have hb0 : Below wr.heap.size wr (wr.alloc (.cells #[.string t, .slice a0 d.uses.length c0, .slice a1 d.needs.length c1, .slice a2 d.cmds.length c2] 33)) := (Below.refl _ _).alloc (Nat.le_refl _) _
          have k0 := hbr.trans (hb0.mono hbr.size)
          have hrl : w.heap.size < wr.heap.size := (Array.getElem?_eq_some_iff.1 HX.out).1
          have HX0 := hidden ((hb0.block _ hrl).trans HX.out)
          clear ha hd ht hcell hcell2 r0 r1' r2' p0 hG HG HX hw3 hw1 hw2 hbr hEE hNN hsz hsk hsk2 hokk
          go_wp2_with (go_at_call 55; refine (HN.out _ hb0).mono ?_; rintro e w1 ⟨rfl, G1, b1⟩)
          have k1 : Below w.heap.size w w1 := k0.trans (b1.mono (by omega))
          have HX1 := hidden ((b1.block w.heap.size (by omega)).trans HX0.out)
          have HG1' := hidden G1
          clear HN b1 k0 HX0 e0 e1 e2 e3 hb0 G1
          go_wp2_with fail
          go_roundw
          case rel => exact ⟨k + 1, by omega, by go_num, by rw [HT.out]; exact HG1'.out, HX1, k1⟩
          case measure => simp [intOf]; omega
        · have he : k = xs.length := by omega
          subst he
          have HGe : Hid (GrM (w.heap.size + 1) wr (w.heap.size + 2) g1.N.length (gUses g1 (plOf xs))) := by
            have := HG.out
            rw [← hPl, List.take_length] at this
            exact this
          clear HG ha
          obtain ⟨mb, vn, vu, vb, us, bs, hbox, hp, C⟩ := HGe.out
          obtain ⟨qn, nn, xn, en⟩ : ∃ q n c, vn = .slice q n c := by obtain ⟨q, c, e⟩ := owns_slG C.names; exact ⟨q, _, c, e⟩
          obtain ⟨qu, nu, xu, eu⟩ : ∃ q n c, vu = .slice q n c := by obtain ⟨q, c, e⟩ := owns_slG C.ru; exact ⟨q, _, c, e⟩
          obtain ⟨qb, nb, xb, eb⟩ : ∃ q n c, vb = .slice q n c := by obtain ⟨q, c, e⟩ := owns_slG C.rb; exact ⟨q, _, c, e⟩
          subst en eu eb
          have c0 : wr.cell? ⟨w.heap.size + 1 + 1, 0, none⟩ = some (.map (some mb)) := vblk_cell hbox 0
          have c1 : wr.cell? ⟨w.heap.size + 1 + 1, 1, none⟩ = some (.slice qn nn xn) := vblk_cell hbox 1
          have c2 : wr.cell? ⟨w.heap.size + 1 + 1, 2, none⟩ = some (.int .i64 (g1.N.length : Int)) := vblk_cell hbox 2
          have c3 : wr.cell? ⟨w.heap.size + 1 + 1, 3, none⟩ = some (.slice qu nu xu) := vblk_cell hbox 3
          have c4 : wr.cell? ⟨w.heap.size + 1 + 1, 4, none⟩ = some (.slice qb nb xb) := vblk_cell hbox 4
          have hx := HX.out
          have r0 : wr.cell? ⟨w.heap.size, 0, none⟩ = some (.map none) := vblk_cell hx 0
          have r1 : wr.cell? ⟨w.heap.size, 1, none⟩ = some (.slice none 0 0) := vblk_cell hx 1
          have r2 : wr.cell? ⟨w.heap.size, 2, none⟩ = some (.int .i64 0) := vblk_cell hx 2
          have r3 : wr.cell? ⟨w.heap.size, 3, none⟩ = some (.slice none 0 0) := vblk_cell hx 3
          have r4 : wr.cell? ⟨w.heap.size, 4, none⟩ = some (.slice none 0 0) := vblk_cell hx 4
          have fz := vblk_frozen hx
          have HC : Hid (∀ v0 v1 v2 v3 v4 : Value, GrC w.heap.size (((((wr.setCell ⟨w.heap.size, 0, none⟩ v0).setCell ⟨w.heap.size, 1, none⟩ v1).setCell ⟨w.heap.size, 2, none⟩ v2).setCell ⟨w.heap.size, 3, none⟩ v3).setCell ⟨w.heap.size, 4, none⟩ v4) mb (.slice qn nn xn) (.slice qu nu xu) (.slice qb nb xb) us bs (gUses g1 (plOf xs)).N (gUses g1 (plOf xs)).N (gUses g1 (plOf xs)).U (gUses g1 (plOf xs)).B noX noX ∧ Below w.heap.size w (((((wr.setCell ⟨w.heap.size, 0, none⟩ v0).setCell ⟨w.heap.size, 1, none⟩ v1).setCell ⟨w.heap.size, 2, none⟩ v2).setCell ⟨w.heap.size, 3, none⟩ v3).setCell ⟨w.heap.size, 4, none⟩ v4)) := fun v0 v1 v2 v3 v4 => by
            have hl : w.heap.size < w.heap.size + 1 := by omega
            have h0 := C.low (grown_set wr w.heap.size 0 v0) hl
            have h1 := h0.low (grown_set _ w.heap.size 1 v1) hl
            have h2 := h1.low (grown_set _ w.heap.size 2 v2) hl
            have h3 := h2.low (grown_set _ w.heap.size 3 v3) hl
            have h4 := h3.low (grown_set _ w.heap.size 4 v4) hl
            exact ⟨h4.lower (by omega), Below.setCell (Below.setCell (Below.setCell (Below.setCell (Below.setCell hbr (Nat.le_refl _) _) (Nat.le_refl _) _) (Nat.le_refl _) _) (Nat.le_refl _) _) (Nat.le_refl _) _⟩
          have HX5 : Hid (∀ v0 v1 v2 v3 v4 : Value, (((((wr.setCell ⟨w.heap.size, 0, none⟩ v0).setCell ⟨w.heap.size, 1, none⟩ v1).setCell ⟨w.heap.size, 2, none⟩ v2).setCell ⟨w.heap.size, 3, none⟩ v3).setCell ⟨w.heap.size, 4, none⟩ v4).heap[w.heap.size]? = some (.cells #[v0, v1, v2, v3, v4] 53 (0, 0))) := fun v0 v1 v2 v3 v4 =>
            heap_setCell_same _ w.heap.size 4 _ _ v4 (heap_setCell_same _ w.heap.size 3 _ _ v3 (heap_setCell_same _ w.heap.size 2 _ _ v2 (heap_setCell_same _ w.heap.size 1 _ _ v1 (heap_setCell_same wr w.heap.size 0 _ _ v0 hx))))
          clear C hbox HGe hbr HX hx
          go_wp2_with fail
          obtain ⟨F1, F2⟩ := HC.out (.map (some mb)) (.slice qn nn xn) (.int .i64 (g1.N.length : Int)) (.slice qu nu xu) (.slice qb nb xb)
          have F3 := HX5.out (.map (some mb)) (.slice qn nn xn) (.int .i64 (g1.N.length : Int)) (.slice qu nu xu) (.slice qb nb xb)
          generalize (((((wr.setCell ⟨w.heap.size, 0, none⟩ (.map (some mb))).setCell ⟨w.heap.size, 1, none⟩ (.slice qn nn xn)).setCell ⟨w.heap.size, 2, none⟩ (.int .i64 (g1.N.length : Int))).setCell ⟨w.heap.size, 3, none⟩ (.slice qu nu xu)).setCell ⟨w.heap.size, 4, none⟩ (.slice qb nb xb)) = W5 at F1 F2 F3 ⊢
          have o0 := vblk_cell F3 0
          have o1 := vblk_cell F3 1
          have o2 := vblk_cell F3 2
          have o3 := vblk_cell F3 3
          have o4 := vblk_cell F3 4
          simp only [List.getElem?_toArray, List.getElem?_cons_succ, List.getElem?_cons_zero] at o0 o1 o2 o3 o4
          clear HC HX5 c0 c1 c2 c3 c4 r0 r1 r2 r3 r4 fz
          refine bodyPost_ret (v := .agg #[.map (some mb), .slice qn nn xn, .int .i64 (g1.N.length : Int), .slice qu nu xu, .slice qb nb xb]) (by simp [results, Try.results29, go_sem, o0, o1, o2, o3, o4]) rfl ⟨mb, _, _, _, us, bs, rfl, F1, F2⟩
end Go.Proofs.Ytbhedlobiagngaa

/-! The order of packs by numbers and by names: the same; no condition. -/
namespace Go.Proofs.Ytbhedlobiagngaa
open Go.RowKit
set_option linter.unusedSimpArgs false
set_option linter.unusedVariables false

theorem idxS_get {ns : List ByteArray} (hn : ns.Nodup) {i : Nat} (hi : i < ns.length) : idxS ns ns[i] = (i : Int) := idxS_here hi rfl (fun j hj hji e => by
  have := nodup_inj hn hj hi e
  omega)
/-- The order of packs, as both answer it. -/
noncomputable def ordPk (xs : List PackD) : List ByteArray × Bool := ordR (xs.map (·.name)) (nextS (xs.map (·.name)) (xs.map (·.uses)))
theorem mem_flat_at {xs : List PackD} (hn : (xs.map (·.name)).Nodup) {i : Nat} (hi : i < xs.length) (x : ByteArray) : x ∈ flatU (plOf xs) xs[i].name ↔ x ∈ xs[i].uses := by
  rw [mem_flatU]
  constructor
  · rintro ⟨d, hd, h1, h2⟩
    unfold plOf at hd
    obtain ⟨d', hd', rfl⟩ := List.mem_map.1 hd
    obtain ⟨j, hj, rfl⟩ := List.mem_iff_getElem.1 hd'
    have hij := nodup_inj hn (i := j) (j := i) (by simpa using hj) (by simpa using hi) (by simpa using h1)
    subst hij
    exact h2
  · intro h
    exact ⟨(xs[i].name, xs[i].uses), List.mem_map.2 ⟨xs[i], List.getElem_mem hi, rfl⟩, rfl, h⟩
theorem order_final {xs : List PackD} {out : List Nat} {ws : List Int} (h : OrdInv (ownOf (plOf xs)) (gOf (plOf xs)).U out ws) (hn : ∀ j, j < ownOf (plOf xs) → j ∉ out → cntI (ownOf (plOf xs)) (gOf (plOf xs)).U out j ≠ 0) :
    ordPk xs = if out.length < xs.length then ([], false) else (out.map (nmOf (gOf (plOf xs)).N), true) := by
  obtain ⟨g1, g2, g3, g4, g5⟩ := gOf_ok (plOf xs)
  obtain ⟨n1, n2, n3, n4⟩ := gNames_ok ((plOf xs).map (·.1))
  have hown : ownOf (plOf xs) = (gNames ((plOf xs).map (·.1))).N.length := rfl
  obtain ⟨M, hM⟩ := g2
  rw [plOf_names] at n2 n3 hM hown
  have hfew := h.few
  unfold ordPk
  have hlm : (xs.map (·.name)).length = xs.length := List.length_map _
  rcases n3 with n3 | n3
  · rw [n3] at hM hown
    rw [hlm] at hown
    have hnd : (xs.map (·.name)).Nodup := by have := g1.nd; rw [hM, List.nodup_append] at this; exact this.1
    obtain ⟨f, hf⟩ : ∃ f, f = nmOf (gOf (plOf xs)).N := ⟨_, rfl⟩
    have hfi : ∀ i (hi : i < xs.length), f i = xs[i].name := fun i hi => by
      rw [hf, hM, nmOf_app (by rw [hlm]; exact hi), nmOf_lt (by rw [hlm]; exact hi), List.getElem_map]
    have hNl : xs.length ≤ (gOf (plOf xs)).N.length := by rw [hM, List.length_append, hlm]; omega
    have hinj : ∀ i j, i < (gOf (plOf xs)).N.length → j < (gOf (plOf xs)).N.length → f i = f j → i = j := fun i j hi hj e => by
      rw [hf, nmOf_lt hi, nmOf_lt hj] at e
      exact nodup_inj g1.nd hi hj e
    have hns : xs.map (·.name) = (List.range (ownOf (plOf xs))).map f := by
      rw [hown]
      refine List.ext_getElem (by simp) fun i h1 h2 => ?_
      simp only [List.getElem_map, List.getElem_range]
      rw [hfi i (by simpa using h1)]
    have hr : ∀ out : List Nat, (∀ i ∈ out, i < ownOf (plOf xs)) → ∀ i, i < ownOf (plOf xs) → (rdyN (xs.map (·.name)) (nextS (xs.map (·.name)) (xs.map (·.uses))) (out.map f) (f i) ↔ i ∉ out ∧ cntI (ownOf (plOf xs)) (gOf (plOf xs)).U out i = 0) := fun out ho i hi => by
      have hi2 : i < xs.length := by omega
      have hmo : ∀ t, t < (gOf (plOf xs)).N.length → (f t ∈ out.map f ↔ t ∈ out) := fun t ht => by
        rw [List.mem_map]
        constructor
        · rintro ⟨j, hj, e⟩
          have := hinj j t (by have := ho j hj; omega) ht e
          subst this
          exact hj
        · intro h; exact ⟨t, h, rfl⟩
      have hmn : ∀ t, t < (gOf (plOf xs)).N.length → (f t ∈ xs.map (·.name) ↔ t < ownOf (plOf xs)) := fun t ht => by
        rw [hns, List.mem_map]
        constructor
        · rintro ⟨j, hj, e⟩
          have hj2 := List.mem_range.1 hj
          have := hinj j t (by omega) ht e
          omega
        · intro h; exact ⟨t, List.mem_range.2 h, rfl⟩
      have hnx : nextS (xs.map (·.name)) (xs.map (·.uses)) (f i) = xs[i].uses := by
        rw [hfi i hi2]
        unfold nextS
        have e : idxS (xs.map (·.name)) xs[i].name = (i : Int) := by
          have := idxS_get hnd (i := i) (by rw [hlm]; exact hi2)
          rw [List.getElem_map] at this
          exact this
        rw [e, if_neg (by omega)]
        simp [hi2]
      have hrow : (rowAt (gOf (plOf xs)).U i).map f = flatU (plOf xs) xs[i].name := by
        have := g3 i (by omega)
        rw [← hf, hfi i hi2] at this
        exact this
      unfold rdyN
      rw [hnx, hmo i (by omega), cntI_zero]
      refine and_congr_right fun _ => ?_
      constructor
      · intro h t ht htl
        have h1 : f t ∈ xs[i].uses := by rw [← mem_flat_at hnd hi2, ← hrow]; exact List.mem_map.2 ⟨t, ht, rfl⟩
        have htN := g1.lt i t ht
        rcases h (f t) h1 with h2 | h2
        · exact (hmo t htN).1 h2
        · exact absurd ((hmn t htN).2 htl) h2
      · intro h x hx
        rw [← mem_flat_at hnd hi2, ← hrow] at hx
        obtain ⟨t, ht, rfl⟩ := List.mem_map.1 hx
        have htN := g1.lt i t ht
        by_cases htl : t < ownOf (plOf xs)
        · exact .inl ((hmo t htN).2 (h t ht htl))
        · exact .inr fun h2 => htl ((hmn t htN).1 h2)
    have hord := (ordI_names (ownOf (plOf xs)) (gOf (plOf xs)).U _ _ f hns hr out.length).1
    rw [← h.proc] at hord
    by_cases hl : out.length < xs.length
    · rw [if_pos hl]
      refine ordR_stuck (out := out.map f) (by rw [List.length_map]; exact hord.symm) (by rw [List.length_map, hlm]; exact hl) (pickN_none fun j hj => ?_)
      have hj2 : j < xs.length := by rw [hlm] at hj; exact hj
      have e : (xs.map (·.name))[j] = f j := by rw [List.getElem_map, hfi j hj2]
      rw [e, hr out h.lt j (by omega)]
      exact fun ⟨a, b⟩ => hn j (by omega) a b
    · rw [if_neg hl, ← hf]
      exact ordR_full (by rw [List.length_map]; exact hord.symm) (by rw [List.length_map, hlm]; omega)
  · rw [hlm] at n3
    rw [if_pos (by omega)]
    exact ordR_few (gNames (xs.map (·.name))).N (fun x hx => (n2 x).2 hx) (by rw [hlm]; exact n3)
end Go.Proofs.Ytbhedlobiagngaa

/-! How many packs each pack waits for, as the program counts it: a contract for the walks; conditions: the graph lies in memory, its lists are of at most 2 to the 40. -/
namespace Go.Proofs.Ytbhedlobiagngaa
open Go.RowKit Go.Maps
set_option linter.unusedSimpArgs false
set_option linter.unusedVariables false

/-- Whole numbers as values. -/
def zV (l : List Int) : List Value := l.map fun z => .int .i64 z
@[simp] theorem length_zV (l : List Int) : (zV l).length = l.length := by simp [zV]
theorem zV_at {l : List Int} {j : Nat} {z : Int} (h : l[j]? = some z) : (zV l)[j]? = some (.int .i64 z) := by simp [zV, h]
theorem zV_set (l : List Int) (j : Nat) (z : Int) : (zV l).set j (.int .i64 z) = zV (l.set j z) := by simp [zV, List.map_set]
theorem made_zV (n : Nat) : (madeCells #[Value.int .i64 0] n).toList = zV (List.replicate n 0) := by
  rw [toList_madeCells_one]
  simp [zV]
theorem set_same {l : List Int} {k : Nat} {z : Int} (h : l[k]? = some z) : l.set k z = l := by
  obtain ⟨hk, e⟩ := List.getElem?_eq_some_iff.1 h
  rw [← e]
  exact List.set_getElem_self hk
/-- How many of a list are packs. -/
def cl (own : Nat) (l : List Nat) : Nat := (l.filter fun t => decide (t < own)).length
theorem cl_cnt (own : Nat) (U : List (List Nat)) (i : Nat) : cntI own U [] i = cl own (rowAt U i) := by unfold cntI cl; simp
theorem cl_take (own : Nat) (l : List Nat) (k : Nat) (h : k < l.length) : cl own (l.take (k + 1)) = cl own (l.take k) + (if l[k] < own then 1 else 0) := by
  unfold cl
  rw [List.take_succ_eq_append_getElem h, List.filter_append, List.length_append]
  by_cases e : l[k] < own
  · rw [if_pos e, List.filter_cons_of_pos (by simpa using e)]; rfl
  · rw [if_neg e, List.filter_cons_of_neg (by simpa using e)]; rfl
theorem cl_le (own : Nat) (l : List Nat) : cl own l ≤ l.length := List.length_filter_le _ _

set_option maxHeartbeats 8000000 in
set_option maxRecDepth 100000 in
theorem waits_c (lo mb own : Nat) (vn vu vb : Value) (us bs : List Value) (M N : List ByteArray) (U B : List (List Nat)) (w : World) (C : GrC lo w mb vn vu vb us bs M N U B noX noX) (ho : own ≤ U.length) (hU : U.length ≤ 4194304) (hR : ∀ i, (rowAt U i).length ≤ 1099511627776) :
    Calls Try.prog 62 #[.agg #[.map (some mb), vn, .int .i64 (own : Int), vu, vb]] w fun e w' => ∃ g ws, e = .returned (.slice (some ⟨g, 0, none⟩) own own) ∧ w'.ownsRow w.heap.size 3 1 (.slice (some ⟨g, 0, none⟩) own own) own (zV ws) ∧ OrdInv own U [] ws ∧ Below w.heap.size w w' := by
  obtain ⟨iI, hiI, hzI0, hzI1, hzI2⟩ := info_parts infoI
  obtain ⟨qn, nn, xn, en⟩ : ∃ q n c, vn = .slice q n c := by obtain ⟨q, c, e⟩ := owns_slG C.names; exact ⟨q, _, c, e⟩
  obtain ⟨qu, xu, eu⟩ := owns_slG C.ru
  obtain ⟨qb, nb, xb, eb⟩ : ∃ q n c, vb = .slice q n c := by obtain ⟨q, c, e⟩ := owns_slG C.rb; exact ⟨q, _, c, e⟩
  subst en eu eb
  have HC : Hid (∀ w1, Below w.heap.size w w1 → GrC lo w1 mb (.slice qn nn xn) (.slice qu U.length xu) (.slice qb nb xb) us bs M N U B noX noX) := fun w1 h => C.new (r := none) (grown_of_below h none) (fun q e => by cases e)
  have hul := C.len_u
  clear C
  have k1 : Below w.heap.size w (w.alloc (.cells #[.map (some mb), .slice qn nn xn, .int .i64 (own : Int), .slice qu U.length xu, .slice qb nb xb] 53)) := (Below.refl _ _).alloc (Nat.le_refl _) _
  have hx0 : (w.alloc (.cells #[.map (some mb), .slice qn nn xn, .int .i64 (own : Int), .slice qu U.length xu, .slice qb nb xb] 53)).heap[w.heap.size]? = some (.cells #[.map (some mb), .slice qn nn xn, .int .i64 (own : Int), .slice qu U.length xu, .slice qb nb xb] 53 (0, 0)) := vheap_new _ _
  have z0 : (w.alloc (.cells #[.map (some mb), .slice qn nn xn, .int .i64 (own : Int), .slice qu U.length xu, .slice qb nb xb] 53)).heap.size = w.heap.size + 1 := by simp
  have x2 : (w.alloc (.cells #[.map (some mb), .slice qn nn xn, .int .i64 (own : Int), .slice qu U.length xu, .slice qb nb xb] 53)).cell? ⟨w.heap.size, 2, none⟩ = some (.int .i64 (own : Int)) := vblk_cell hx0 2
  go_enter Try.func62, Try.ntmps62
  go_wp2_with (at_make; refine wpList_make_full _ rfl _ _ 59 rfl w.heap.size 3 iI (.int .i64 0) 1 Try.underlying59 hiI hzI0 hzI1 _ _ _ _ own rfl rfl rfl rfl (by rw [hzI2]; omega) (by unfold maxLen; omega) (by simp) ?_)
  intro w1 hown hgrow
  have hb1 : Below w.heap.size w w1 := k1.trans (⟨hgrow.os, hgrow.tape, hgrow.output, hgrow.size, fun k hk => hgrow.block k (by rw [z0]; omega) (by simp)⟩)
  have hx1 : w1.heap[w.heap.size]? = some (.cells #[.map (some mb), .slice qn nn xn, .int .i64 (own : Int), .slice qu U.length xu, .slice qb nb xb] 53 (0, 0)) := (hgrow.block _ (by rw [z0]; omega) (by simp)).trans hx0
  have hown1 : w1.ownsRow w.heap.size 3 1 (.slice (some ⟨w.heap.size + 1, 0, none⟩) own own) own (zV (List.replicate own 0)) := by
    rw [← made_zV]
    exact hown
  clear hgrow hown k1 hx0 z0 x2
  go_wp2_with fail
  go_loopw [12] (fun vi wr => ∃ (k : Nat) (ws : List Int), k ≤ own ∧ vi = .int .i64 (k : Int) ∧ wr.ownsRow w.heap.size 3 1 (.slice (some ⟨w.heap.size + 1, 0, none⟩) own own) own (zV ws) ∧ Hid (ws.length = own ∧ (∀ j, j < k → ws[j]? = some (cntI own U [] j : Int)) ∧ ∀ j, k ≤ j → j < own → ws[j]? = some 0) ∧ Hid (wr.heap[w.heap.size]? = some (.cells #[.map (some mb), .slice qn nn xn, .int .i64 (own : Int), .slice qu U.length xu, .slice qb nb xb] 53 (0, 0))) ∧ Below w.heap.size w wr) (fun vi _ => own - (intOf vi).toNat)
  case atStart => exact ⟨0, List.replicate own 0, Nat.zero_le _, rfl, hown1, ⟨by simp, fun j hj => by omega, fun j _ hj => by simp [hj]⟩, hx1, hb1⟩
  case round =>
    clear hown1 hx1 hb1
    obtain ⟨k, ws, hk, rfl, hown, hws, HX, hbr⟩ := hrel
    by_cases hlt' : k < own
    · have hki : (k : Int) < (own : Int) := by omega
      have Cr := HC.out wr hbr
      have hkU : k < us.length := by omega
      have hua : us[k]? = some us[k] := List.getElem?_eq_getElem hkU
      have Er := Cr.eu k _ (fun h => h) hua
      obtain ⟨u, hu⟩ : ∃ u, u = us[k] := ⟨_, rfl⟩
      rw [← hu] at hua Er
      obtain ⟨q, c, eu⟩ := owns_slG Er
      subst eu
      obtain ⟨gu, xu', equ⟩ := owns_pos Cr.ru (by omega)
      obtain ⟨equ1, equ2⟩ : qu = some ⟨gu, 0, none⟩ ∧ xu = xu' := by injection equ with h1 _ h3; exact ⟨h1, h3⟩
      subst equ1 equ2
      have cu : wr.cell? ⟨gu, k, none⟩ = some (.slice q (rowAt U k).length c) := by rw [Cr.ru.cellAt k (by omega)]; exact hua
      have x3 : wr.cell? ⟨w.heap.size, 3, none⟩ = some (.slice (some ⟨gu, 0, none⟩) U.length xu) := vblk_cell HX.out 3
      have hkU2 : (k : Int) < (U.length : Int) := by omega
      have hrl := hR k
      obtain ⟨L, hL⟩ : ∃ L, L = rowAt U k := ⟨_, rfl⟩
      rw [← hL] at cu hrl Er
      have HL := hidden hL
      have HGU : Hid (∀ w2, Below w.heap.size w w2 → ∀ j (h : j < L.length), ∃ g0, q = some ⟨g0, 0, none⟩ ∧ w2.cell? ⟨g0, j, none⟩ = some (.int .i64 (L[j] : Int))) := fun w2 h2 j h => by
        have E2 := (HC.out w2 h2).eu k _ (fun h => h) hua
        rw [← hL] at E2
        obtain ⟨g0, c0, e0⟩ := owns_pos E2 (by omega)
        injection e0 with e1 _ e3
        subst e1 e3
        exact ⟨g0, rfl, by rw [E2.cellAt j (by omega)]; exact intsV_at h⟩
      clear Cr hua hu equ hL
      go_wp2_with fail
      obtain ⟨wo, hwo⟩ : ∃ wo, wo = wr := ⟨_, rfl⟩
      subst hwo
      go_loopw [21] (fun vi wr => ∃ (j : Nat) (wt : List Int), j ≤ L.length ∧ vi = .int .i64 (j : Int) ∧ wr.ownsRow w.heap.size 3 1 (.slice (some ⟨w.heap.size + 1, 0, none⟩) own own) own (zV wt) ∧ Hid (wt = ws.set k (cl own (L.take j) : Int)) ∧ Hid (wr.heap[w.heap.size]? = some (.cells #[.map (some mb), .slice qn nn xn, .int .i64 (own : Int), .slice (some ⟨gu, 0, none⟩) U.length xu, .slice qb nb xb] 53 (0, 0))) ∧ Below w.heap.size w wr) (fun vi _ => L.length - (intOf vi).toNat)
      case atStart =>
        refine ⟨0, ws, Nat.zero_le _, rfl, hown, ?_, HX, hbr⟩
        show ws = ws.set k _
        have h9 := hws.out.2.2 k (Nat.le_refl _) hlt'
        exact (set_same h9).symm
      case round =>
        clear hown HX hbr x3 cu
        obtain ⟨j, wt, hj, rfl, hownj, hwt, HXj, hbj⟩ := hrel
        by_cases hjl : j < L.length
        · obtain ⟨g0, eq0, cj⟩ := HGU.out wr hbj j hjl
          subst eq0
          have HT := hidden (cl_take own L j hjl)
          obtain ⟨t, ht⟩ : ∃ t, t = L[j] := ⟨_, rfl⟩
          rw [← ht] at cj HT
          have hcb : cl own (L.take j) ≤ 1099511627776 := by
            have h1 := cl_le own (L.take j)
            rw [List.length_take] at h1
            omega
          have hck : wt[k]? = some (cl own (L.take j) : Int) := by rw [hwt.out, List.getElem?_set_self (by rw [hws.out.1]; exact hlt')]
          obtain ⟨cc, hcc⟩ : ∃ cc, cc = cl own (L.take j) := ⟨_, rfl⟩
          rw [← hcc] at HT hcb hck
          have HW : Hid (wt = ws.set k (cc : Int)) := by rw [hcc]; exact hwt.out
          have cw : wr.cell? ⟨w.heap.size + 1, k, none⟩ = some (.int .i64 (cc : Int)) := by rw [hownj.cellAt k (by omega)]; exact zV_at hck
          have fz := hownj.frozenAt k
          have x2 : wr.cell? ⟨w.heap.size, 2, none⟩ = some (.int .i64 (own : Int)) := vblk_cell HXj.out 2
          have hji : (j : Int) < (L.length : Int) := by omega
          have hst := hidden (hownj.stored k (.int .i64 ((cc : Int) + 1)))
          have HX2 : Hid ((wr.setCell ⟨w.heap.size + 1, k, none⟩ (.int .i64 ((cc : Int) + 1))).heap[w.heap.size]? = some (.cells #[.map (some mb), .slice qn nn xn, .int .i64 (own : Int), .slice (some ⟨gu, 0, none⟩) U.length xu, .slice qb nb xb] 53 (0, 0))) := (hst.out.2.block w.heap.size (Array.getElem?_eq_some_iff.1 HXj.out).1 (fun e => by have := Option.some.inj e; omega)).trans HXj.out
          clear ht hwt hck hcc
          by_cases htl : t < own
          · have hti : (t : Int) < (own : Int) := by omega
            rw [if_pos htl] at HT
            have HS : Hid (wt.set k ((cc : Int) + 1) = ws.set k (cl own (L.take (j + 1)) : Int)) := by
              show _ = _
              rw [HW.out, HT.out, List.set_set]
              rfl
            go_wp2_with fail
            go_roundw
            case rel => exact ⟨j + 1, wt.set k ((cc : Int) + 1), by omega, by go_num, by rw [← zV_set]; exact hst.out.1, HS, HX2, hbj.setCell (by show _ ≤ w.heap.size + 1; omega) _⟩
            case measure => simp [intOf]; omega
          · have hti : ¬ (t : Int) < (own : Int) := by omega
            rw [if_neg htl] at HT
            have HS : Hid (wt = ws.set k (cl own (L.take (j + 1)) : Int)) := by show _ = _; rw [HW.out, HT.out]; rfl
            go_wp2_with fail
            go_roundw
            case rel => exact ⟨j + 1, wt, by omega, by go_num, hownj, HS, HXj, hbj⟩
            case measure => simp [intOf]; omega
        · have he : j = L.length := by omega
          subst he
          have HN : Hid (wt.length = own ∧ (∀ i, i < k + 1 → wt[i]? = some (cntI own U [] i : Int)) ∧ ∀ i, k + 1 ≤ i → i < own → wt[i]? = some 0) := by
            have h1 := hwt.out
            rw [List.take_length] at h1
            obtain ⟨h2, h3, h4⟩ := hws.out
            refine ⟨by rw [h1, List.length_set]; exact h2, fun i hi => ?_, fun i hi hio => ?_⟩
            · by_cases e : i = k
              · subst e
                rw [h1, List.getElem?_set_self (by omega), cl_cnt, ← HL.out]
              · rw [h1, List.getElem?_set_ne (fun e' => e e'.symm), h3 i (by omega)]
            · rw [h1, List.getElem?_set_ne (by omega), h4 i (by omega) hio]
          clear hwt hws
          go_wp2_with fail
          go_roundw
          case rel => exact ⟨k + 1, wt, by omega, by go_num, hownj, HN, HXj, hbj⟩
          case measure => simp [intOf]; omega
    · have he : k = own := by omega
      subst he
      have HW : Hid (OrdInv k U [] ws) := OrdInv.start hws.out.1 hws.out.2.1
      clear hws HC
      go_wp2_with fail
      go_ret
      exact ⟨_, ws, rfl, hown, HW.out, hbr⟩
end Go.Proofs.Ytbhedlobiagngaa

/-! Numbers in order, as the program makes them: a contract for the walks; conditions: the graph lies in memory, its lists are of at most 2 to the 40. -/
namespace Go.Proofs.Ytbhedlobiagngaa
open Go.RowKit Go.Maps
set_option linter.unusedSimpArgs false
set_option linter.unusedVariables false

/-- The length of a slice. -/
def slLen : Value → Nat
  | .slice _ n _ => n
  | _ => 0
theorem count_take {l : List Nat} {j i : Nat} (h : j < l.length) : (l.take (j + 1)).count i = (l.take j).count i + (if l[j] = i then 1 else 0) := by
  rw [List.take_succ_eq_append_getElem h, List.count_append]
  by_cases e : l[j] = i
  · rw [if_pos e, e]; simp
  · rw [if_neg e, List.count_cons_of_ne e]; simp
/-- While users are gone through: what each waits for now, and from where on something may be next. -/
structure OrdMid (own at_ : Nat) (out : List Nat) (ws : List Int) (L : List Nat) (j : Nat) (wt : List Int) (nx : Nat) : Prop where
  len : wt.length = own
  val : ∀ i, i < own → wt[i]? = ((ws.set at_ (-1))[i]?).map fun z => z - ((L.take j).count i : Int)
  up : nx ≤ at_ + 1
  no : ∀ i, i < nx → i ∉ out ++ [at_] → wt[i]? ≠ some 0
theorem OrdMid.step {own at_ j nx : Nat} {out L : List Nat} {ws wt : List Int} (h : OrdMid own at_ out ws L j wt nx) (hj : j < L.length) (hu : L[j] < own) {z : Int} (hz : wt[L[j]]? = some z) : OrdMid own at_ out ws L (j + 1) (wt.set L[j] (z - 1)) (if z - 1 = 0 then min nx L[j] else nx) := by
  have hlu : L[j] < wt.length := by rw [h.len]; exact hu
  refine ⟨by rw [List.length_set]; exact h.len, fun i hi => ?_, ?_, fun i hi ho => ?_⟩
  · rw [count_take hj]
    by_cases e : L[j] = i
    · have hv := h.val i hi
      subst e
      rw [hz] at hv
      rw [List.getElem?_set_self hlu, if_pos rfl]
      cases hq : (ws.set at_ (-1))[L[j]]? with
      | none => rw [hq] at hv; simp at hv
      | some y =>
        rw [hq] at hv
        simp only [Option.map_some, Option.some.injEq] at hv ⊢
        omega
    · rw [List.getElem?_set_ne e, if_neg e, h.val i hi]; simp
  · have := h.up
    split
    · exact Nat.le_trans (Nat.min_le_left _ _) this
    · exact this
  · by_cases e : L[j] = i
    · subst e
      rw [List.getElem?_set_self hlu]
      intro hz0
      have hz1 : z - 1 = 0 := Option.some.inj hz0
      rw [if_pos hz1] at hi
      have := Nat.min_le_right nx L[j]
      omega
    · rw [List.getElem?_set_ne e]
      refine h.no i ?_ ho
      split at hi
      · exact Nat.lt_of_lt_of_le hi (Nat.min_le_left _ _)
      · exact hi
theorem OrdInv.bound {own : Nat} {U : List (List Nat)} {out : List Nat} {ws : List Int} (h : OrdInv own U out ws) (hR : ∀ i, (rowAt U i).length ≤ 1099511627776) {i : Nat} {z : Int} (hz : ws[i]? = some z) : -1 ≤ z ∧ z ≤ 1099511627776 := by
  have hi : i < own := by rw [← h.len]; exact (List.getElem?_eq_some_iff.1 hz).1
  by_cases ho : i ∈ out
  · have := (h.done i ho).1
    rw [hz] at this
    have := Option.some.inj this
    omega
  · have h1 := h.wait i hi ho
    rw [hz] at h1
    have h2 := Option.some.inj h1
    have h3 : cntI own U out i ≤ (rowAt U i).length := List.length_filter_le _ _
    have h4 := hR i
    omega
theorem OrdMid.bound {own at_ j nx : Nat} {U : List (List Nat)} {out L : List Nat} {ws wt : List Int} (h : OrdMid own at_ out ws L j wt nx) (hi : OrdInv own U out ws) (hR : ∀ i, (rowAt U i).length ≤ 1099511627776) (hL : L.length ≤ 1099511627776) {i : Nat} {z : Int} (hz : wt[i]? = some z) : -1099511627778 ≤ z ∧ z ≤ 1099511627776 := by
  have hio : i < own := by rw [← h.len]; exact (List.getElem?_eq_some_iff.1 hz).1
  have h1 := h.val i hio
  rw [hz] at h1
  have h2 : (L.take j).count i ≤ L.length := Nat.le_trans (List.count_le_length) (by rw [List.length_take]; omega)
  by_cases e : i = at_
  · subst e
    rw [List.getElem?_set_self (by rw [hi.len]; exact hio)] at h1
    simp only [Option.map_some, Option.some.injEq] at h1
    omega
  · rw [List.getElem?_set_ne (fun e' => e e'.symm)] at h1
    cases hq : ws[i]? with
    | none => rw [hq] at h1; simp at h1
    | some y =>
      rw [hq] at h1
      simp only [Option.map_some, Option.some.injEq] at h1
      have := hi.bound hR hq
      omega

set_option maxHeartbeats 8000000 in
set_option maxRecDepth 100000 in
theorem order_c (lo mb own : Nat) (vn vu vb : Value) (us bs : List Value) (g : GD) (w : World) (C : GrC lo w mb vn vu vb us bs g.N g.N g.U g.B noX noX) (hok : g.ok) (ho : own ≤ g.U.length) (hU : g.U.length ≤ 4194304) (hR : ∀ i, (rowAt g.U i).length ≤ 1099511627776 ∧ (rowAt g.B i).length ≤ 1099511627776) (hfrom : ∀ i, ∀ t ∈ rowAt g.U i, i < own) :
    Calls Try.prog 34 #[.agg #[.map (some mb), vn, .int .i64 (own : Int), vu, vb]] w fun e w' => ∃ u out ws, e = .returned u ∧ w'.ownsRow w.heap.size 3 1 u out.length (intsV out) ∧ OrdInv own g.U out ws ∧ (∀ j, j < own → j ∉ out → cntI own g.U out j ≠ 0) ∧ Below w.heap.size w w' := by
  obtain ⟨iI, hiI, hzI0, hzI1, hzI2⟩ := info_parts infoI
  obtain ⟨qn, nn, xn, en⟩ : ∃ q n c, vn = .slice q n c := by obtain ⟨q, c, e⟩ := owns_slG C.names; exact ⟨q, _, c, e⟩
  obtain ⟨qu, nu, xu, eu⟩ : ∃ q n c, vu = .slice q n c := by obtain ⟨q, c, e⟩ := owns_slG C.ru; exact ⟨q, _, c, e⟩
  obtain ⟨qb, xb, eb⟩ := owns_slG C.rb
  subst en eu eb
  have HC : Hid (∀ w1, Below w.heap.size w w1 → GrC lo w1 mb (.slice qn nn xn) (.slice qu nu xu) (.slice qb g.B.length xb) us bs g.N g.N g.U g.B noX noX) := fun w1 h => C.new (r := none) (grown_of_below h none) (fun q e => by cases e)
  have hbl := C.len_b
  have hbo : own ≤ g.B.length := by rw [hok.b, ← hok.u]; exact ho
  have hB4 : g.B.length ≤ 4194304 := by rw [hok.b, ← hok.u]; exact hU
  clear C
  have k1 : Below w.heap.size w (w.alloc (.cells #[.map (some mb), .slice qn nn xn, .int .i64 (own : Int), .slice qu nu xu, .slice qb g.B.length xb] 53)) := (Below.refl _ _).alloc (Nat.le_refl _) _
  have hx0 : (w.alloc (.cells #[.map (some mb), .slice qn nn xn, .int .i64 (own : Int), .slice qu nu xu, .slice qb g.B.length xb] 53)).heap[w.heap.size]? = some (.cells #[.map (some mb), .slice qn nn xn, .int .i64 (own : Int), .slice qu nu xu, .slice qb g.B.length xb] 53 (0, 0)) := vheap_new _ _
  have z0 : (w.alloc (.cells #[.map (some mb), .slice qn nn xn, .int .i64 (own : Int), .slice qu nu xu, .slice qb g.B.length xb] 53)).heap.size = w.heap.size + 1 := by simp
  have HWT := hidden (waits_c lo mb own _ _ _ us bs g.N g.N g.U g.B _ (HC.out _ k1) ho hU (fun i => (hR i).1))
  have x0 := vblk_cell hx0 0
  have x1 := vblk_cell hx0 1
  have x2 := vblk_cell hx0 2
  have x3 := vblk_cell hx0 3
  have x4 := vblk_cell hx0 4
  simp only [List.getElem?_toArray, List.getElem?_cons_succ, List.getElem?_cons_zero] at x0 x1 x2 x3 x4
  rw [z0] at HWT
  go_enter Try.func34, Try.ntmps34
  go_wp2_with (go_at_call 62; refine HWT.out.mono ?_; rintro e w1 ⟨gw, ws, rfl, hown, hinv, b1⟩)
  have hb1 : Below w.heap.size w w1 := k1.trans (b1.mono (by omega))
  have hx1 : w1.heap[w.heap.size]? = some (.cells #[.map (some mb), .slice qn nn xn, .int .i64 (own : Int), .slice qu nu xu, .slice qb g.B.length xb] 53 (0, 0)) := (b1.block _ (by omega)).trans hx0
  have hgw : w.heap.size + 1 ≤ gw := (hown.lt gw rfl).1
  clear k1 hx0 z0 x0 x1 x2 x3 x4 b1 HWT
  go_wp2_with fail
  go_loopw [3, 5] (fun vo vi wr => ∃ (k : Nat) (out : List Nat) (ws : List Int), k ≤ own ∧ vi = .int .i64 (k : Int) ∧ wr.ownsRow (w.heap.size + 1) 3 1 vo out.length (intsV out) ∧ (∀ g, vo.ownBlock = some g → g ≠ gw) ∧ wr.ownsRow (w.heap.size + 1) 3 1 (.slice (some ⟨gw, 0, none⟩) own own) own (zV ws) ∧ Hid (OrdInv own g.U out ws ∧ ∀ j, j < k → j ∉ out → ws[j]? ≠ some 0) ∧ Hid (wr.heap[w.heap.size]? = some (.cells #[.map (some mb), .slice qn nn xn, .int .i64 (own : Int), .slice qu nu xu, .slice qb g.B.length xb] 53 (0, 0))) ∧ Below w.heap.size w wr) (fun vo vi _ => (own - slLen vo) * (own + 2) + (own - (intOf vi).toNat))
  case atStart => exact ⟨0, [], ws, Nat.zero_le _, rfl, World.ownsRow_nil _ _ _ _, fun g h => (by cases h), hown, ⟨hinv, fun j hj => by omega⟩, hx1, hb1⟩
  case round =>
    clear hown hinv hx1 hb1
    obtain ⟨k, out, ws, hk, rfl, ho1, hne, hown, HI, HX, hbr⟩ := hrel
    have x2 : wr.cell? ⟨w.heap.size, 2, none⟩ = some (.int .i64 (own : Int)) := vblk_cell HX.out 2
    obtain ⟨qo, co, hvo⟩ := owns_slG ho1
    subst hvo
    have hfew := HI.out.1.few
    by_cases hlt' : k < own
    · have hki : (k : Int) < (own : Int) := by omega
      have hwl := HI.out.1.len
      obtain ⟨z, hz⟩ : ∃ z, ws[k]? = some z := ⟨_, List.getElem?_eq_getElem (by omega)⟩
      have cz : wr.cell? ⟨gw, k, none⟩ = some (.int .i64 z) := by rw [hown.cellAt k (by omega)]; exact zV_at hz
      have fz := hown.frozenAt k
      by_cases hz0 : z = 0
      · subst hz0
        have hko : k ∉ out := fun hm => by have := (HI.out.1.done k hm).1; rw [hz] at this; simp at this
        have hfew2 : out.length + 1 ≤ own := by
          have h9 := nodup_sub_len (out ++ [k]) (List.range own) (by
            rw [List.nodup_append]
            exact ⟨HI.out.1.nd, by simp, fun a ha b hb e => by simp at hb; subst hb; subst e; exact hko ha⟩) (fun i hi => by
            rcases List.mem_append.1 hi with hi | hi
            · exact List.mem_range.2 (HI.out.1.lt i hi)
            · simp at hi; subst hi; exact List.mem_range.2 hlt')
          simpa using h9
        have hgw2 := (hown.lt gw rfl).2
        go_wp2_with (at_builtin; refine wpList_append_own_at _ rfl _ _ 59 rfl (w.heap.size + 1) 3 iI (.int .i64 0) 1 8 Try.underlying59 hiI hzI0 hzI1 hzI2 rfl (by decide) _ out.length (intsV out) rfl (ho1.alloc _) ⟨wr.heap.size, 0, none⟩ 1 1 [.int .i64 (k : Int)] rfl rfl (cell_one_new _ _ _) (fun u hu => by simp at hu; subst hu; rfl) (by unfold maxLen; omega) (by omega) (by simp; omega) ?_)
        intro v2 w2 o2 gr2 hnil hloc
        have ho2 : w2.ownsRow (w.heap.size + 1) 3 1 v2 (out.length + 1) (intsV (out ++ [k])) := by rw [intsV_app]; exact o2
        obtain ⟨q2, c2, e2⟩ := owns_slG ho2
        subst e2
        have hown2 := (hown.alloc (.cells #[.int .i64 (k : Int)] 3)).kept gr2 (.inr (fun e => hne gw e.symm rfl))
        have hsz2 := gr2.size
        have hwa : (wr.alloc (.cells #[.int .i64 (k : Int)] 3)).heap.size = wr.heap.size + 1 := by simp
        rw [hwa] at hsz2
        have hb2 : Below w.heap.size w w2 := Below.grown (hbr.alloc hbr.size _) gr2 (by have := hbr.size; rw [hwa]; omega) (fun j hj => by have := (ho1.lt j hj).1; omega)
        have hxl := (Array.getElem?_eq_some_iff.1 HX.out).1
        have HX2 : w2.heap[w.heap.size]? = some (.cells #[.map (some mb), .slice qn nn xn, .int .i64 (own : Int), .slice qu nu xu, .slice qb g.B.length xb] 53 (0, 0)) := (gr2.block _ (by rw [hwa]; omega) (fun e => by have := (ho1.lt _ e.symm).1; omega)).trans ((vheap_old _ _ hxl).trans HX.out)
        have hne2 : ∀ g', (Value.slice q2 (out.length + 1) c2).ownBlock = some g' → g' ≠ gw := fun g' hg' e => by
          subst e
          rcases hloc with h9 | h9
          · exact hne g' (h9.symm.trans hg') rfl
          · rw [hg'] at h9; have := Option.some.inj h9; omega
        have cz2 : w2.cell? ⟨gw, k, none⟩ = some (.int .i64 0) := by rw [hown2.cellAt k (by omega)]; exact zV_at hz
        have fz2 := hown2.frozenAt k
        obtain ⟨hst1, hst2⟩ := hown2.stored k (.int .i64 (-1))
        rw [zV_set] at hst1
        have hb3 : Below w.heap.size w (w2.setCell ⟨gw, k, none⟩ (.int .i64 (-1))) := hb2.setCell (by show w.heap.size ≤ gw; omega) _
        have HX3 := hidden ((hst2.block w.heap.size (Array.getElem?_eq_some_iff.1 HX2).1 (fun e => by have := Option.some.inj e; omega)).trans HX2)
        have ho3 := ho2.kept hst2 (.inr (fun e => hne2 gw e rfl))
        have C3 := HC.out _ hb3
        have hkB : k < bs.length := by omega
        have hba : bs[k]? = some bs[k] := List.getElem?_eq_getElem hkB
        have Er := C3.eb k _ (fun h => h) hba
        obtain ⟨u, hu⟩ : ∃ u, u = bs[k] := ⟨_, rfl⟩
        rw [← hu] at hba Er
        obtain ⟨q, c, eu⟩ := owns_slG Er
        subst eu
        obtain ⟨gb, xb', equ⟩ := owns_pos C3.rb (by omega)
        obtain ⟨equ1, equ2⟩ : qb = some ⟨gb, 0, none⟩ ∧ xb = xb' := by injection equ with h1 _ h3; exact ⟨h1, h3⟩
        subst equ1 equ2
        have cu : (w2.setCell ⟨gw, k, none⟩ (.int .i64 (-1))).cell? ⟨gb, k, none⟩ = some (.slice q (rowAt g.B k).length c) := by rw [C3.rb.cellAt k (by omega)]; exact hba
        have x4 : (w2.setCell ⟨gw, k, none⟩ (.int .i64 (-1))).cell? ⟨w.heap.size, 4, none⟩ = some (.slice (some ⟨gb, 0, none⟩) g.B.length xb) := vblk_cell HX3.out 4
        have hkB2 : (k : Int) < (g.B.length : Int) := by omega
        have hrl := (hR k).2
        have hLc : ∀ i, (rowAt g.B k).count i = (rowAt g.U i).count k := fun i => (hok.cnt i k).symm
        have hLo : ∀ u ∈ rowAt g.B k, u < own := fun u hu => hfrom u k (hok.iff.1 hu)
        obtain ⟨L, hL⟩ : ∃ L, L = rowAt g.B k := ⟨_, rfl⟩
        rw [← hL] at cu hrl Er hLc hLo
        have HGU : Hid (∀ w5, Below w.heap.size w w5 → ∀ j (h : j < L.length), ∃ g0, q = some ⟨g0, 0, none⟩ ∧ w5.cell? ⟨g0, j, none⟩ = some (.int .i64 (L[j] : Int))) := fun w5 h5 j h => by
          have E2 := (HC.out w5 h5).eb k _ (fun h => h) hba
          rw [← hL] at E2
          obtain ⟨g0, c0, e0⟩ := owns_pos E2 (by omega)
          injection e0 with e1 _ e3
          subst e1 e3
          exact ⟨g0, rfl, by rw [E2.cellAt j (by omega)]; exact intsV_at h⟩
        have HM0 : Hid (OrdMid own k out ws L 0 (ws.set k (-1)) (k + 1)) := ⟨by rw [List.length_set]; exact hwl, fun i hi => by simp, Nat.le_refl _, fun i hi hio => by
          have hik : i ≠ k := fun e => hio (by simp [e])
          rw [List.getElem?_set_ne (fun e => hik e.symm)]
          exact HI.out.2 i (by omega) (fun e => hio (by simp [e]))⟩
        clear C3 hba hu equ hL ho2 hown2 hst2 hb2 HX2 gr2 hloc hnil o2 hsz2 hwa hown ho1 hne HX hbr cz fz x2
        go_wp2_with fail
        go_loopw [6, 35] (fun vx vi wr => ∃ (j nx : Nat) (wt : List Int), j ≤ L.length ∧ vi = .int .i64 (j : Int) ∧ vx = .int .i64 (nx : Int) ∧ wr.ownsRow (w.heap.size + 1) 3 1 (.slice (some ⟨gw, 0, none⟩) own own) own (zV wt) ∧ wr.ownsRow (w.heap.size + 1) 3 1 (.slice q2 (out.length + 1) c2) (out.length + 1) (intsV (out ++ [k])) ∧ Hid (OrdMid own k out ws L j wt nx) ∧ Hid (wr.heap[w.heap.size]? = some (.cells #[.map (some mb), .slice qn nn xn, .int .i64 (own : Int), .slice qu nu xu, .slice (some ⟨gb, 0, none⟩) g.B.length xb] 53 (0, 0))) ∧ Below w.heap.size w wr) (fun _ vi _ => L.length - (intOf vi).toNat)
        case atStart => exact ⟨0, k + 1, ws.set k (-1), Nat.zero_le _, rfl, by go_num, hst1, ho3, HM0, HX3, hb3⟩
        case round =>
          clear hst1 ho3 HM0 HX3 hb3 cz2 fz2 cu x4
          obtain ⟨j, nx, wt, hj, rfl, rfl, hownj, hoj, HM, HXj, hbj⟩ := hrel
          by_cases hjl : j < L.length
          · obtain ⟨g0, eq0, cj⟩ := HGU.out wr hbj j hjl
            subst eq0
            have huo := hLo L[j] (List.getElem_mem hjl)
            obtain ⟨z, hz9⟩ : ∃ z, wt[L[j]]? = some z := ⟨_, List.getElem?_eq_getElem (by rw [HM.out.len]; exact huo)⟩
            have HS := hidden (HM.out.step hjl huo hz9)
            have hbz := HM.out.bound HI.out.1 (fun i => (hR i).1) hrl hz9
            have hup := HM.out.up
            obtain ⟨t, ht⟩ : ∃ t, t = L[j] := ⟨_, rfl⟩
            rw [← ht] at cj huo hz9 HS
            have cw : wr.cell? ⟨gw, t, none⟩ = some (.int .i64 z) := by rw [hownj.cellAt t (by omega)]; exact zV_at hz9
            have fw := hownj.frozenAt t
            have hst := hownj.stored t (.int .i64 (z - 1))
            have cw2 : (wr.setCell ⟨gw, t, none⟩ (.int .i64 (z - 1))).cell? ⟨gw, t, none⟩ = some (.int .i64 (z - 1)) := by
              rw [hst.1.cellAt t (by omega), zV_set]
              exact zV_at (List.getElem?_set_self (by rw [HM.out.len]; exact huo))
            have HO := hidden (show (wr.setCell ⟨gw, t, none⟩ (.int .i64 (z - 1))).ownsRow (w.heap.size + 1) 3 1 (.slice (some ⟨gw, 0, none⟩) own own) own (zV (wt.set t (z - 1))) by rw [← zV_set]; exact hst.1)
            have HO2 := hidden (hoj.kept hst.2 (.inr (fun e => hne2 gw e rfl)))
            have HX4 := hidden ((hst.2.block w.heap.size (Array.getElem?_eq_some_iff.1 HXj.out).1 (fun e => by have := Option.some.inj e; omega)).trans HXj.out)
            have HB4 : Hid (Below w.heap.size w (wr.setCell ⟨gw, t, none⟩ (.int .i64 (z - 1)))) := hbj.setCell (by show w.heap.size ≤ gw; omega) _
            have hji : (j : Int) < (L.length : Int) := by omega
            have hti : (t : Int) < (own : Int) := by omega
            clear ht hz9 hst HM HXj hoj hownj
            by_cases hz1 : z - 1 = 0
            · rw [if_pos hz1, hz1] at HS
              rw [hz1] at HO HO2 HX4 HB4 cw2
              by_cases hmin : nx ≤ t
              · rw [Nat.min_eq_left hmin] at HS
                have hm1 : (nx : Int) ≤ (t : Int) := by omega
                have hm2 : ¬ (t : Int) < (nx : Int) := by omega
                have hm3 : min (nx : Int) (t : Int) = (nx : Int) := by omega
                go_wp2_with fail
                go_roundw
                case rel => exact ⟨j + 1, nx, wt.set t 0, by omega, by go_num, by go_num, HO.out, HO2.out, HS, HX4, HB4.out⟩
                case measure => simp [intOf]; omega
              · rw [Nat.min_eq_right (by omega)] at HS
                have hm1 : ¬ (nx : Int) ≤ (t : Int) := by omega
                have hm2 : (t : Int) < (nx : Int) := by omega
                have hm3 : min (nx : Int) (t : Int) = (t : Int) := by omega
                go_wp2_with fail
                go_roundw
                case rel => exact ⟨j + 1, t, wt.set t 0, by omega, by go_num, by go_num, HO.out, HO2.out, HS, HX4, HB4.out⟩
                case measure => simp [intOf]; omega
            · have hzb : (z - 1 == 0) = false := by simpa using hz1
              rw [if_neg hz1] at HS
              go_wp2_with fail
              go_roundw
              case rel => exact ⟨j + 1, nx, wt.set t (z - 1), by omega, by go_num, rfl, HO.out, HO2.out, HS, HX4, HB4.out⟩
              case measure => simp [intOf]; omega
          · have he : j = L.length := by omega
            subst he
            have HN : Hid (OrdInv own g.U (out ++ [k]) wt ∧ ∀ i, i < nx → i ∉ out ++ [k] → wt[i]? ≠ some 0) := by
              refine ⟨HI.out.1.next (L := L) hlt' hz HI.out.2 HM.out.len (fun i _ => hLc i) (fun i hi => ?_), HM.out.no⟩
              have := HM.out.val i hi
              rw [List.take_length] at this
              exact this
            have hup := HM.out.up
            obtain ⟨m, hm⟩ : ∃ m, own - out.length = m + 1 := ⟨own - out.length - 1, by omega⟩
            have hm2 : own - (out.length + 1) = m := by omega
            have hoj2 : wr.ownsRow (w.heap.size + 1) 3 1 (.slice q2 (out.length + 1) c2) (out ++ [k]).length (intsV (out ++ [k])) := by rw [List.length_append, List.length_singleton]; exact hoj
            clear HM HI hoj
            go_wp2_with fail
            go_roundw
            case rel => exact ⟨nx, out ++ [k], wt, by omega, rfl, hoj2, hne2, hownj, HN, HXj, hbj⟩
            case measure =>
              simp only [intOf, slLen, hm, hm2, Nat.add_mul, Nat.one_mul]
              omega
      · have hz1 : (z == 0) = false := by simpa using hz0
        have HI2 : Hid (OrdInv own g.U out ws ∧ ∀ j, j < k + 1 → j ∉ out → ws[j]? ≠ some 0) := ⟨HI.out.1, fun j hj hjo => by
          by_cases e : j = k
          · subst e; rw [hz]; simpa using hz0
          · exact HI.out.2 j (by omega) hjo⟩
        clear HI hz
        go_wp2_with fail
        go_roundw
        case rel => exact ⟨k + 1, out, ws, by omega, by go_num, ho1, hne, hown, HI2, HX, hbr⟩
        case measure => simp [intOf, slLen]; omega
    · have he : k = own := by omega
      subst he
      have HE : Hid (OrdInv k g.U out ws ∧ ∀ j, j < k → j ∉ out → cntI k g.U out j ≠ 0) := ⟨HI.out.1, fun j hj hjo hc => by
        have h1 := HI.out.1.wait j hj hjo
        rw [hc] at h1
        exact HI.out.2 j hj hjo h1⟩
      have HO := hidden (owns_lo (lo' := w.heap.size) (by omega) ho1)
      clear HI HC ho1
      go_wp2_with fail
      go_ret
      exact ⟨_, out, ws, rfl, HO.out, HE.out.1, HE.out.2, hbr⟩
end Go.Proofs.Ytbhedlobiagngaa

/-! The contracts of the library for sorting a list of texts and for leaving out what is alike side by side, taken over from the library of contracts at the numbers of this program; conditions as each says. -/
namespace Go.Proofs
open Go.Shelf
def Try.lays190_ren : Go.Shelf.Ren := ⟨fun | 190 => 64 | 125 => 84 | 258 => 83 | 128 => 103 | 129 => 104 | 302 => 94 | 303 => 95 | 304 => 96 | 305 => 97 | 306 => 98 | 307 => 99 | 308 => 100 | 309 => 101 | 310 => 102 | 333 => 105 | 329 => 106 | 330 => 107 | 334 => 108 | 335 => 109 | 336 => 110 | 344 => 111 | n => n, fun | 31 => 26 | 9 => 9 | 3 => 3 | 46 => 117 | 0 => 0 | 51 => 139 | 53 => 141 | 4 => 4 | 183 => 132 | 182 => 131 | 131 => 97 | 5 => 5 | 218 => 142 | 222 => 146 | 228 => 149 | 229 => 150 | n => n, fun | n => n⟩
theorem Try.lays190 : Go.Proofs.Lays.n190 Try.prog Try.lays190_ren := {
  mixed := by kernel_rfl
  f125 := Try.func84.trans (congrArg some (by kernel_rfl))
  f128 := Try.func103.trans (congrArg some (by kernel_rfl))
  f129 := Try.func104.trans (congrArg some (by kernel_rfl))
  f190 := Try.func64.trans (congrArg some (by kernel_rfl))
  f258 := Try.func83.trans (congrArg some (by kernel_rfl))
  f302 := Try.func94.trans (congrArg some (by kernel_rfl))
  f303 := Try.func95.trans (congrArg some (by kernel_rfl))
  f304 := Try.func96.trans (congrArg some (by kernel_rfl))
  f305 := Try.func97.trans (congrArg some (by kernel_rfl))
  f306 := Try.func98.trans (congrArg some (by kernel_rfl))
  f307 := Try.func99.trans (congrArg some (by kernel_rfl))
  f308 := Try.func100.trans (congrArg some (by kernel_rfl))
  f309 := Try.func101.trans (congrArg some (by kernel_rfl))
  f310 := Try.func102.trans (congrArg some (by kernel_rfl))
  f329 := Try.func106.trans (congrArg some (by kernel_rfl))
  f330 := Try.func107.trans (congrArg some (by kernel_rfl))
  f333 := Try.func105.trans (congrArg some (by kernel_rfl))
  f334 := Try.func108.trans (congrArg some (by kernel_rfl))
  f335 := Try.func109.trans (congrArg some (by kernel_rfl))
  f336 := Try.func110.trans (congrArg some (by kernel_rfl))
  f344 := Try.func111.trans (congrArg some (by kernel_rfl))
  t0 := Try.underlying0
  a0 := Try.isAgg0
  z0 := Try.sizeOf0
  v0 := Try.zeroValue0
  t3 := Try.underlying3
  a3 := Try.isAgg3
  z3 := Try.sizeOf3
  v3 := Try.zeroValue3
  t4 := Try.underlying4
  a4 := Try.isAgg4
  z4 := Try.sizeOf4
  v4 := Try.zeroValue4
  t5 := Try.underlying5
  a5 := Try.isAgg5
  z5 := Try.sizeOf5
  v5 := Try.zeroValue5
  t9 := Try.underlying9
  a9 := Try.isAgg9
  z9 := Try.sizeOf9
  v9 := Try.zeroValue9
  t31 := Try.underlying26
  a31 := Try.isAgg26
  z31 := Try.sizeOf26
  v31 := Try.zeroValue26
  t46 := Try.underlying117
  a46 := Try.isAgg117
  z46 := Try.sizeOf117
  v46 := Try.zeroValue117
  t51 := Try.underlying139
  a51 := Try.isAgg139
  z51 := Try.sizeOf139
  v51 := Try.zeroValue139
  t53 := Try.underlying141
  a53 := Try.isAgg141
  z53 := Try.sizeOf141
  v53 := Try.zeroValue141
  t131 := Try.underlying97
  a131 := Try.isAgg97
  z131 := Try.sizeOf97
  v131 := Try.zeroValue97
  t182 := Try.underlying131
  a182 := Try.isAgg131
  z182 := Try.sizeOf131
  v182 := Try.zeroValue131
  t183 := Try.underlying132
  a183 := Try.isAgg132
  z183 := Try.sizeOf132
  v183 := Try.zeroValue132
  t218 := Try.underlying142
  a218 := Try.isAgg142
  z218 := Try.sizeOf142
  v218 := Try.zeroValue142
  t222 := Try.underlying146
  a222 := Try.isAgg146
  z222 := Try.sizeOf146
  v222 := Try.zeroValue146
  t228 := Try.underlying149
  a228 := Try.isAgg149
  z228 := Try.sizeOf149
  v228 := Try.zeroValue149
  t229 := Try.underlying150
  a229 := Try.isAgg150
  z229 := Try.sizeOf150
  v229 := Try.zeroValue150 }
open Go.Sort Go.RowKit in
theorem Try.slices_Sort_string (blk off cap : Nat) (ss : List (List UInt8)) (w : World) (hH : Holds encStr w blk off ss.toArray) (hblk : blk < w.heap.size) (hsz : ss.length < 4611686018427387904) :
    Calls Try.prog 64 #[.slice (some ⟨blk, off, none⟩) ss.length cap] w fun e w' =>
      e = .returned (.tuple #[]) ∧ ∃ n os, w' = grow (putRow encStr (Sort.ahead w n) blk off (ss.mergeSort fun x y => decide (x ≤ y)).toArray) os := Any.slices_Sort_string Try.lays190 blk off cap ss w hH hblk hsz
def Try.lays194_ren : Go.Shelf.Ren := ⟨fun | 194 => 65 | n => n, fun | 31 => 26 | 9 => 9 | 3 => 3 | 4 => 4 | 0 => 0 | n => n, fun | n => n⟩
theorem Try.lays194 : Go.Proofs.Lays.n194 Try.prog Try.lays194_ren := {
  mixed := by kernel_rfl
  f194 := Try.func65.trans (congrArg some (by kernel_rfl))
  t0 := Try.underlying0
  a0 := Try.isAgg0
  z0 := Try.sizeOf0
  v0 := Try.zeroValue0
  t3 := Try.underlying3
  a3 := Try.isAgg3
  z3 := Try.sizeOf3
  v3 := Try.zeroValue3
  t4 := Try.underlying4
  a4 := Try.isAgg4
  z4 := Try.sizeOf4
  v4 := Try.zeroValue4
  t9 := Try.underlying9
  a9 := Try.isAgg9
  z9 := Try.sizeOf9
  v9 := Try.zeroValue9
  t31 := Try.underlying26
  a31 := Try.isAgg26
  z31 := Try.sizeOf26
  v31 := Try.zeroValue26 }
open Go.RowKit Go.Lib Go.Sort in
theorem Try.slices_Compact_string_arr (blk off cap : Nat) (d : Array (List UInt8)) (w : World) (hH : Holds encStr w blk off d) (hsz : d.size ≤ 9223372036854775807) (hcap : d.size ≤ cap) :
    Calls Try.prog 65 #[.slice (some ⟨blk, off, none⟩) d.size cap] w fun e w' => e = .returned (.slice (some ⟨blk, off, none⟩) (compactUpTo d d.size).length cap) ∧ ∃ q, w' = putRow encStr (Sort.ahead w q) blk off (compactUpTo d d.size ++ List.replicate (d.size - (compactUpTo d d.size).length) []).toArray := Any.slices_Compact_string_arr Try.lays194 blk off cap d w hH hsz hcap
open Go.RowKit Go.Lib Go.Sort in
theorem Try.slices_Compact_string (blk off cap : Nat) (zs : List (List UInt8)) (w : World) (hH : Holds encStr w blk off zs.toArray) (hsz : zs.length ≤ 9223372036854775807) (hcap : zs.length ≤ cap) :
    Calls Try.prog 65 #[.slice (some ⟨blk, off, none⟩) zs.length cap] w fun e w' => e = .returned (.slice (some ⟨blk, off, none⟩) (Lib.compact zs).length cap) ∧ ∃ q, w' = putRow encStr (Sort.ahead w q) blk off (Lib.compact zs ++ List.replicate (zs.length - (Lib.compact zs).length) []).toArray := Any.slices_Compact_string Try.lays194 blk off cap zs w hH hsz hcap
open Go.RowKit Go.Lib Go.Sort in
theorem Try.slices_Compact_string_empty (a : Option Addr) (cap : Nat) (w : World) :
    Calls Try.prog 65 #[.slice a 0 cap] w fun e w' => e = .returned (.slice a 0 cap) ∧ w' = w := Any.slices_Compact_string_empty Try.lays194 a cap w
open Go.RowKit Go.Lib Go.Sort in
theorem Try.slices_Compact_string_cells (b off n c : Nat) (Sx : Nat → ByteArray) (w : World) (hbig : n ≤ 9223372036854775807) (hcap : n ≤ c) (hc : ∀ i, i < n → w.cell? ⟨b, off + i, none⟩ = some (.string (Sx i))) (hf : ∀ j, j < n → w.frozen? ⟨b, off + j, none⟩ = false) :
    Calls Try.prog 65 #[.slice (some ⟨b, off, none⟩) n c] w fun e w' => e = .returned (.slice (some ⟨b, off, none⟩) (Lib.compact (Lib.strsOf Sx n)).length c) ∧ ∃ q, w' = (w.drewN q).setCells b off ((Lib.compact (Lib.strsOf Sx n) ++ List.replicate (n - (Lib.compact (Lib.strsOf Sx n)).length) []).map encStr) := Any.slices_Compact_string_cells Try.lays194 b off n c Sx w hbig hcap hc hf
open Go.RowKit Go.Sort in
theorem Try.slices_Sort_string_none (p : Option Addr) (cap : Nat) (w : World) :
    Calls Try.prog 64 #[.slice p 0 cap] w fun e w' => e = .returned (.tuple #[]) ∧ w' = w := Any.slices_Sort_string_none Try.lays190 p cap w
end Go.Proofs

/-! What the program's Sorted answers: a list that rises and has the members of the list handed in, in memory of its own; conditions: the list lies in memory as told and has at most 2 to the 20 texts, each of at most 2 to the 20 bytes. -/
namespace Go.Proofs.Ytbhedlobiagngaa
open Go.RowKit Go.Sort
set_option linter.unusedSimpArgs false
set_option linter.unusedVariables false

/-! ### What is left of a list in order when what is alike side by side is left out -/
theorem compact_sub (zs : List (List UInt8)) : ∀ m, m ≤ zs.length → ∀ x, x ∈ Lib.compactUpTo zs.toArray m ↔ x ∈ zs.take m
  | 0, _, x => by simp [Lib.compactUpTo]
  | m + 1, h, x => by
    have ih := compact_sub zs m (by omega)
    have hb : zs.toArray[m]! = zs[m] := by simp [show m < zs.length by omega]
    rw [Lib.compactUpTo_succ, List.mem_append, ih x, List.take_succ_eq_append_getElem (by omega), List.mem_append, List.mem_singleton]
    cases hk : Lib.keeps zs.toArray m with
    | true => rw [if_pos rfl, List.mem_singleton, hb]
    | false =>
      rw [if_neg (by simp)]
      constructor
      · rintro (h1 | h1)
        · exact .inl h1
        · simp at h1
      · rintro (h1 | h1)
        · exact .inl h1
        · refine .inl ?_
          have hm : ¬ m = 0 ∧ zs.toArray[m]! = zs.toArray[m - 1]! := by
            simp only [Lib.keeps, decide_eq_false_iff_not] at hk
            exact ⟨fun e => hk (.inl e), Classical.byContradiction fun e => hk (.inr e)⟩
          have hb1 : zs.toArray[m - 1]! = zs[m - 1] := by simp [show m - 1 < zs.length by omega]
          rw [h1, ← hb, hm.2, hb1]
          rw [List.mem_take_iff_getElem]
          exact ⟨m - 1, by omega, rfl⟩

theorem compact_mem (zs : List (List UInt8)) (x : List UInt8) : x ∈ Lib.compact zs ↔ x ∈ zs := by
  rw [Lib.compact, compact_sub zs zs.length (Nat.le_refl _), List.take_length]

theorem compact_rises (zs : List (List UInt8)) (h : zs.Pairwise (· ≤ ·)) : Rises (Lib.compact zs) := by
  unfold Rises Lib.compact Lib.compactUpTo
  rw [List.pairwise_map]
  refine List.Pairwise.imp_of_mem ?_ ((List.pairwise_lt_range (n := zs.length)).filter _)
  intro i j hi hj hij
  have hil := List.mem_range.1 (List.mem_filter.1 hi).1
  have hjl := List.mem_range.1 (List.mem_filter.1 hj).1
  have hk := (List.mem_filter.1 hj).2
  have e1 : zs.toArray[i]! = zs[i] := by simp [hil]
  have e2 : zs.toArray[j]! = zs[j] := by simp [hjl]
  have e3 : zs.toArray[j - 1]! = zs[j - 1] := by simp [show j - 1 < zs.length by omega]
  rw [e1, e2]
  simp only [Lib.keeps, decide_eq_true_eq] at hk
  have hne : zs[j] ≠ zs[j - 1] := by
    rcases hk with h0 | h0
    · omega
    · rw [e2, e3] at h0; exact h0
  have hp := List.pairwise_iff_getElem.1 h
  have h2 := hp (j - 1) j (by omega) hjl (by omega)
  have hlt : zs[j - 1] < zs[j] := by
    by_cases k : zs[j - 1] < zs[j]
    · exact k
    · exact absurd (List.le_antisymm (by simpa using k) h2) hne
  by_cases e : i = j - 1
  · subst e; exact hlt
  · have h1 := hp i (j - 1) hil (by omega) (by omega)
    by_cases k : zs[i] < zs[j - 1]
    · exact ltL_trans k hlt
    · have : zs[i] = zs[j - 1] := List.le_antisymm h1 (by simpa using k)
      rw [this]; exact hlt

def sortL (L : List (List UInt8)) : List (List UInt8) := L.mergeSort fun x y => decide (x ≤ y)
theorem sortL_le (L : List (List UInt8)) : (sortL L).Pairwise (· ≤ ·) := by
  have := List.pairwise_mergeSort (le := fun x y : List UInt8 => decide (x ≤ y)) (fun a b c h1 h2 => by simp at h1 h2 ⊢; exact List.le_trans h1 h2) (fun a b => by simp; exact List.le_total a b) L
  exact this.imp (fun h => by simpa using h)
theorem sortL_mem (L : List (List UInt8)) (x : List UInt8) : x ∈ sortL L ↔ x ∈ L := List.mem_mergeSort
theorem sortL_len (L : List (List UInt8)) : (sortL L).length = L.length := List.length_mergeSort L

def strOf' (l : List UInt8) : ByteArray := ⟨l.toArray⟩
theorem bytesL_strOf (l : List UInt8) : bytesL (strOf' l) = l := by simp [bytesL, strOf']
theorem strOf_bytesL (s : ByteArray) : strOf' (bytesL s) = s := by simp [bytesL, strOf']
theorem enc_bytes (ss : List ByteArray) : (ss.map bytesL).map encStr = strsV ss := by
  simp [strsV, encStr, bytesL]
theorem enc_strs (C : List (List UInt8)) : C.map encStr = strsV (C.map strOf') := by
  simp [strsV, encStr, strOf']

/-- What the program's Sorted answers. -/
def sortedS (ss : List ByteArray) : List ByteArray := (Lib.compact (sortL (ss.map bytesL))).map strOf'
theorem sortedS_rises (ss : List ByteArray) : risesS (sortedS ss) := by
  unfold risesS sortedS
  rw [List.map_map]
  have : (bytesL ∘ strOf') = id := by funext l; exact bytesL_strOf l
  rw [this, List.map_id]
  exact compact_rises _ (sortL_le _)
theorem sortedS_mem (ss : List ByteArray) (x : ByteArray) : x ∈ sortedS ss ↔ x ∈ ss := by
  unfold sortedS
  rw [List.mem_map]
  constructor
  · rintro ⟨l, hl, rfl⟩
    rw [compact_mem, sortL_mem, List.mem_map] at hl
    obtain ⟨s, hs, rfl⟩ := hl
    rw [strOf_bytesL]; exact hs
  · intro h
    exact ⟨bytesL x, by rw [compact_mem, sortL_mem]; exact List.mem_map.2 ⟨x, h, rfl⟩, strOf_bytesL x⟩
theorem compact_len (zs : List (List UInt8)) : (Lib.compact zs).length ≤ zs.length := by
  unfold Lib.compact Lib.compactUpTo
  rw [List.length_map]
  exact Nat.le_trans (List.length_filter_le _ _) (by simp)

theorem own_cut {w : World} {base : Nat} {e : TypeId} {g n m cap : Nat} {xs : List Value} (h : w.ownsRow base e 1 (.slice (some ⟨g, 0, none⟩) n cap) n xs) (hm : m ≤ n) : w.ownsRow base e 1 (.slice (some ⟨g, 0, none⟩) m cap) m (xs.take m) := by
  have hl : xs.length = n := by simpa using h.1
  refine ⟨by simp; omega, ?_⟩
  rcases h.2 with ⟨h', _⟩ | ⟨g', cap', cur, h', hb, hg, hn, hc, hs, ht⟩
  · simp at h'
  · simp only [Value.slice.injEq, Option.some.injEq, Addr.mk.injEq, and_true, true_and] at h'
    obtain ⟨rfl, rfl⟩ := h'
    refine .inr ⟨g, cap, cur, rfl, hb, hg, by omega, hc, hs, ?_⟩
    rw [← ht, List.take_take, Nat.mul_one, Nat.mul_one, Nat.min_eq_left hm]

theorem cloneB_c (s : ByteArray) (w : World) (h : s.size ≤ 1048576) : Calls Try.prog 60 #[.string s] w fun e w' => e = .returned (.string s) ∧ Below w.heap.size w w' := by
  go_enter Try.func60, Try.ntmps60
  go_wp2_with (go_at_call 81; refine (Try.stringslite_Clone s _ (by omega)).mono ?_; rintro e w1 ⟨rfl, b1⟩)
  go_ret
  exact ⟨rfl, b1⟩

theorem size9 : (Try.prog.info? 9).map (·.size) = some 1 := by kernel_rfl
theorem strs_oneCell (ss : List ByteArray) : ∀ u ∈ strsV ss, u.oneCell' = true := fun u hu => by
  obtain ⟨s, _, rfl⟩ := List.mem_map.1 hu
  rfl

/-- The sort at a row of the call's own. -/
theorem sort_c (base g cap : Nat) (ss : List ByteArray) (w : World) (ho : w.ownsRow base 9 1 (.slice (some ⟨g, 0, none⟩) ss.length cap) ss.length (strsV ss)) (hn : ss.length ≤ 1048576) :
    Calls Try.prog 64 #[.slice (some ⟨g, 0, none⟩) ss.length cap] w fun e w' => e = .returned (.tuple #[]) ∧ w'.ownsRow base 9 1 (.slice (some ⟨g, 0, none⟩) ss.length cap) ss.length ((sortL (ss.map bytesL)).map encStr) ∧ w.grownBy w' (some g) := by
  rcases ho.2 with ⟨h', _⟩ | ⟨g', cap', cur, h', hb, hg, hn1, hc, hs, ht⟩
  · simp at h'
  · simp only [Value.slice.injEq, Option.some.injEq, Addr.mk.injEq, and_true, true_and] at h'
    obtain ⟨rfl, rfl⟩ := h'
    have hH : Holds encStr w g 0 (ss.map bytesL).toArray := holds_of_block hg (by rw [List.length_map, enc_bytes]; simpa using ht)
    have hc1 := Try.slices_Sort_string g 0 cap (ss.map bytesL) w hH (Array.getElem?_eq_some_iff.1 hg).1 (by rw [List.length_map]; omega)
    rw [List.length_map] at hc1
    refine hc1.mono fun e w' ⟨h1, n, os, h2⟩ => ?_
    subst h2
    refine ⟨h1, ?_, grownBy_sorted _⟩
    have := ownsRow_sorted (n := n) (os := os) (ss := ss.map bytesL) (ts := sortL (ss.map bytesL)) (sortL_len _) hb hg (by rw [List.length_map]; exact hn1) hc hs
    rw [List.length_map] at this
    exact this

/-- Leaving out what is alike side by side, at a row of the call's own. -/
theorem compact_c (base g cap : Nat) (L : List (List UInt8)) (w : World) (ho : w.ownsRow base 9 1 (.slice (some ⟨g, 0, none⟩) L.length cap) L.length (L.map encStr)) (hn : L.length ≤ 1048576) :
    Calls Try.prog 65 #[.slice (some ⟨g, 0, none⟩) L.length cap] w fun e w' => e = .returned (.slice (some ⟨g, 0, none⟩) (Lib.compact L).length cap) ∧ w'.ownsRow base 9 1 (.slice (some ⟨g, 0, none⟩) (Lib.compact L).length cap) (Lib.compact L).length ((Lib.compact L).map encStr) ∧ w.grownBy w' (some g) := by
  rcases ho.2 with ⟨h', _⟩ | ⟨g', cap', cur, h', hb, hg, hn1, hc, hs, ht⟩
  · simp at h'
  · simp only [Value.slice.injEq, Option.some.injEq, Addr.mk.injEq, and_true, true_and] at h'
    obtain ⟨rfl, rfl⟩ := h'
    have hH : Holds encStr w g 0 L.toArray := holds_of_block hg (by simpa using ht)
    have hc1 := Try.slices_Compact_string g 0 cap L w hH (by omega) hn1
    refine hc1.mono fun e w' ⟨h1, q, h2⟩ => ?_
    have hcl := compact_len L
    have hl2 : (Lib.compact L ++ List.replicate (L.length - (Lib.compact L).length) []).length = L.length := by simp; omega
    have h3 : w' = grow (putRow encStr (Sort.ahead w q) g 0 (Lib.compact L ++ List.replicate (L.length - (Lib.compact L).length) []).toArray) #[] := by rw [grow_empty]; exact h2
    subst h3
    refine ⟨h1, ?_, grownBy_sorted _⟩
    have := own_cut (ownsRow_sorted (n := q) (os := #[]) (ss := L) (ts := Lib.compact L ++ List.replicate (L.length - (Lib.compact L).length) []) hl2 hb hg hn1 hc hs) hcl
    rw [List.map_append, List.take_append_of_le_length (by simp), List.take_of_length_le (by simp)] at this
    exact this

set_option maxHeartbeats 4000000 in
set_option maxRecDepth 100000 in
theorem implSorted_c (v : Value) (ss : List ByteArray) (w : World) (hv : Reads w v (strsV ss)) (hn : ss.length ≤ 1048576) (hs : ∀ s ∈ ss, s.size ≤ 1048576) :
    Calls Try.prog 36 #[v] w fun e w' => ∃ u, e = .returned u ∧ w'.ownsRow w.heap.size 9 1 u (sortedS ss).length (strsV (sortedS ss)) ∧ Below w.heap.size w w' := by
  obtain ⟨a, cap, hvv, _, hc⟩ := hv
  rw [length_strsV] at hvv
  subst hvv
  obtain ⟨i0, hi, hz0, hz1, hz2⟩ := info_parts infoS
  have hpos : ∀ w1, Below w.heap.size w w1 → 0 < (strsV ss).length → ∃ ad, a = some ad ∧ ∀ j v, (strsV ss)[j]? = some v → w1.cell? (ad.add j) = some v := fun w1 hb1 h0 => by
    rcases hc with h | ⟨b, off, ha, hlt, hc⟩
    · rw [h] at h0; simp at h0
    · refine ⟨_, ha, fun j v hj => ?_⟩
      rw [show ((⟨b, off, none⟩ : Addr).add j) = ⟨b, off + j, none⟩ by unfold Addr.add; split <;> simp_all, hb1.cell (p := ⟨b, off + j, none⟩) hlt]
      obtain ⟨hjl, e⟩ := List.getElem?_eq_some_iff.1 hj
      rw [hc j hjl, e]
  have HP : Hid (∀ w1, Below w.heap.size w w1 → 0 < (strsV ss).length → ∃ ad, a = some ad ∧ ∀ j v, (strsV ss)[j]? = some v → w1.cell? (ad.add j) = some v) := hpos
  clear hc hpos
  have hss : ∀ x ∈ sortedS ss, x.size ≤ 1048576 := fun x hx => hs x ((sortedS_mem ss x).1 hx)
  have hcl := compact_len (sortL (ss.map bytesL))
  have hsl : (sortL (ss.map bytesL)).length = ss.length := by rw [sortL_len, List.length_map]
  have hyl2 : (sortedS ss).length = (Lib.compact (sortL (ss.map bytesL))).length := by simp [sortedS]
  have hst : (Lib.compact (sortL (ss.map bytesL))).map encStr = strsV (sortedS ss) := enc_strs _
  have hsort := fun w2 h => sort_c w.heap.size w.heap.size ss.length ss w2 h hn
  have hcomp := fun w3 h => compact_c w.heap.size w.heap.size ss.length (sortL (ss.map bytesL)) w3 h (by omega)
  rw [hsl] at hcomp hcl
  rw [hst, ← hyl2] at hcomp
  rw [← hyl2] at hcl
  obtain ⟨rs, hrs⟩ : ∃ rs, rs = sortedS ss := ⟨_, rfl⟩
  rw [← hrs] at hcomp hcl hss ⊢
  clear hst hyl2 hsl hrs hs
  go_enter Try.func36, Try.ntmps36
  go_wp2_with (first
    | (at_make; refine wpList_make_full _ rfl _ _ 26 rfl w.heap.size 9 i0 (.string ⟨#[]⟩) 1 Try.underlying26 hi hz0 hz1 _ _ _ _ ss.length rfl rfl rfl rfl (by rw [hz2]; omega) (by unfold maxLen; omega) (Nat.le_refl _) ?_))
  intro w1 o1 gr1
  have hb1 := below_of_grown gr1
  have hh1 : ∃ ys : List Value, ys.length = ss.length ∧ w1.heap[w.heap.size]? = some (.cells ys.toArray 9 (0, 0)) := by
    have hl : (madeCells #[Value.string ⟨#[]⟩] ss.length).toList.length = ss.length := by simp [size_madeCells]
    rcases o1.2 with ⟨h', _⟩ | ⟨g', cap', cur, h', hb, hg, hn1, hcc, hss, ht⟩
    · simp at h'
    · simp only [Value.slice.injEq, Option.some.injEq, Addr.mk.injEq, and_true, true_and] at h'
      obtain ⟨h1, h2⟩ := h'
      rw [← h1] at hg
      exact ⟨cur.toList, by rw [Array.length_toList, hss, ← h2]; omega, by simpa using hg⟩
  obtain ⟨ys, hyl, hhy⟩ := hh1
  clear o1 gr1
  go_wp2_with (first
    | (refine wpList_copy_splice rfl _ _ 26 26 rfl 9 Try.underlying26 size9 _ _ _ _ _ _ rfl rfl w.heap.size 0 ys 9 hhy (strsV ss) (by simp) (fun h0 => ⟨rfl, HP.out w1 hb1 h0⟩) (by simp [hyl]) (strs_oneCell ss) w.heap.size w hb1 (Nat.le_refl _) ?_))
  intro w2 hh2 hb2
  have o2 : w2.ownsRow w.heap.size 9 1 (.slice (some ⟨w.heap.size, 0, none⟩) ss.length ss.length) ss.length (strsV ss) := by
    have := hh2.out
    rw [show splice ys 0 (strsV ss) = strsV ss by simp [splice, hyl]] at this
    exact ⟨by simp, .inr ⟨_, _, _, rfl, Nat.le_refl _, this, Nat.le_refl _, by unfold maxLen; omega, by simp, by simp [← length_strsV]⟩⟩
  clear hh2 hhy hyl hb1 HP
  go_wp2_with (first
    | (go_at_call 64; refine (hsort _ o2).mono ?_; rintro e w3 ⟨rfl, o3, g3⟩
       have c3 : Below w.heap.size w w3 := Below.grown hb2 g3 hb2.size (fun j hj => by simp at hj; omega)
       clear hsort)
    | (go_at_call 65; refine (hcomp _ o3).mono ?_; rintro e w4 ⟨rfl, o4, g4⟩
       have c4 : Below w.heap.size w w4 := Below.grown c3 g4 c3.size (fun j hj => by simp at hj; omega)
       clear hcomp o3))
  go_loopw [18] (fun vi wr => ∃ k : Nat, k ≤ rs.length ∧ vi = .int .i64 (k : Int) ∧ wr.ownsRow w.heap.size 9 1 (.slice (some ⟨w.heap.size, 0, none⟩) rs.length ss.length) rs.length (strsV rs) ∧ Below w.heap.size w wr) (fun vi _ => rs.length - (intOf vi).toNat)
  case atStart => exact ⟨0, Nat.zero_le _, rfl, o4, c4⟩
  case round =>
    obtain ⟨k, hk, rfl, hown, hbr⟩ := hrel
    clear o4 c4 g3 g4 c3 hb2 o2
    by_cases hlt' : k < rs.length
    · have hcx : wr.cell? ⟨w.heap.size, k, none⟩ = some (.string rs[k]) := by
        rw [hown.cellAt k (by omega), strsV_at rs k hlt']
      have hki : (k : Int) < (rs.length : Int) := by omega
      have htz := hss rs[k] (List.getElem_mem hlt')
      have hset : (strsV rs).set k (.string rs[k]) = strsV rs := by
        apply List.ext_getElem?
        intro i
        rw [List.getElem?_set]
        by_cases e : k = i
        · subst e; rw [if_pos rfl, if_pos (by simpa using hlt'), strsV_at rs k hlt']
        · rw [if_neg e]
      obtain ⟨t, ht⟩ : ∃ t, t = rs[k] := ⟨_, rfl⟩
      rw [← ht] at hcx htz hset
      have HS : Hid ((strsV rs).set k (.string t) = strsV rs) := hset
      clear ht hset hss
      go_wp2_with (
        go_at_call 60
        refine (cloneB_c t _ htz).mono ?_
        rintro e w5 ⟨rfl, b5⟩
        have hown5 := owns_of_below hown b5
        have hcx5 : w5.cell? ⟨w.heap.size, k, none⟩ = some (.string t) := (b5.cell (p := ⟨w.heap.size, k, none⟩) (hown.lt w.heap.size rfl).2).trans hcx
        have hfr := hown5.frozenAt k
        have hbr5 := hbr.trans (b5.mono hbr.size)
        clear hown hcx hbr)
      go_roundw
      case rel => exact ⟨k + 1, by omega, by go_num, (by have := (hown5.stored k (.string t)).1; rw [HS.out] at this; exact this), hbr5.setCell (p := ⟨w.heap.size, k, none⟩) (Nat.le_refl _) _⟩
      case measure => simp [intOf]; omega
    · have he : k = rs.length := by omega
      subst he
      go_wp2
      go_ret
      exact ⟨_, rfl, hown, hbr⟩
end Go.Proofs.Ytbhedlobiagngaa
