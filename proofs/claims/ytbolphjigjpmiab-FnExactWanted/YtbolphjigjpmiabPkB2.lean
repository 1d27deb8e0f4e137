/-
  Copies of packs, and of rows of them, in memory of their own, as the law makes them: contracts for the walks; condition: what is copied holds at most 2 to the 20.
-/
import Derived.Test.YtbolphjigjpmiabPkB
namespace Go.Proofs.Ytbolphjigjpmiab
open Go.RowKit
set_option linter.unusedSimpArgs false
set_option linter.unusedVariables false

set_option maxHeartbeats 2000000 in
set_option maxRecDepth 100000 in
theorem toPack_c (S : Nat → Prop) (d : PackD) (cs : List Value) (w : World) (hd : shPack.lies S w cs d) (hB : ∀ b, S b → b < w.heap.size) (hw : wtPack d ≤ 1048576) :
    Calls Try.prog 14 #[.agg cs.toArray] w fun e w' => ∃ cs', e = .returned (.agg cs'.toArray) ∧ shPackO.lies (Ow w.heap.size w'.heap.size) w' cs' d ∧ Below w.heap.size w w' := by
  obtain ⟨u0, u1, u2, rfl, s_name, r0, p0, r1, r2⟩ := hd
  have hb3 : ∀ A R O, Below w.heap.size w (((w.alloc A).alloc R).alloc O) := fun A R O => (((Below.refl _ _).alloc (Nat.le_refl _) _).alloc (by simp) _).alloc (by simp; omega) _
  unfold wtPack at hw
  have HS0 : Hid (∀ w1, Below w.heap.size w w1 → Calls Try.prog 24 #[u0] w1 fun e w' => ∃ g, e = .returned (.slice (some ⟨g, 0, none⟩) d.uses.length d.uses.length) ∧ StrsOwn (Ow w1.heap.size w'.heap.size) w' (.slice (some ⟨g, 0, none⟩) d.uses.length d.uses.length) d.uses ∧ Below w1.heap.size w1 w') := fun w1 hb =>
    (toStrs_c u0 d.uses w1 ((r0.keep (.of hb hB)).reads (fun b h => Nat.lt_of_lt_of_le (hB b h) hb.size)) (by unfold bulkS at hw; omega)).mono fun e w' ⟨g, h1, h2, h3⟩ => ⟨g, h1, ⟨owns_lo (Nat.zero_le _) h2, owns_in h2⟩, h3⟩
  obtain ⟨a0, cap0, eu0, _⟩ := id r0
  rw [length_strsV] at eu0
  have HS1 : Hid (∀ w1, Below w.heap.size w w1 → Calls Try.prog 25 #[u1] w1 fun e w' => ∃ g, e = .returned (.slice (some ⟨g, 0, none⟩) d.needs.length d.needs.length) ∧ RowOwn shNeed 46 (Ow w1.heap.size w'.heap.size) w' (.slice (some ⟨g, 0, none⟩) d.needs.length d.needs.length) d.needs ∧ Below w1.heap.size w1 w') := fun w1 hb =>
    toNeedS_c S u1 d.needs w1 (r1.keep (.of hb hB)) (fun b h => Nat.lt_of_lt_of_le (hB b h) hb.size) (by omega)
  obtain ⟨a1, cap1, eu1, _⟩ := id r1
  have HS2 : Hid (∀ w1, Below w.heap.size w w1 → Calls Try.prog 26 #[u2] w1 fun e w' => ∃ g, e = .returned (.slice (some ⟨g, 0, none⟩) d.cmds.length d.cmds.length) ∧ RowOwn shCmdO 61 (Ow w1.heap.size w'.heap.size) w' (.slice (some ⟨g, 0, none⟩) d.cmds.length d.cmds.length) d.cmds ∧ Below w1.heap.size w1 w') := fun w1 hb =>
    toCmdS_c S u2 d.cmds w1 (r2.keep (.of hb hB)) (fun b h => Nat.lt_of_lt_of_le (hB b h) hb.size) (by omega)
  obtain ⟨a2, cap2, eu2, _⟩ := id r2
  subst eu0
  clear r0
  subst eu1
  clear r1
  subst eu2
  clear r2
  go_enter Try.func14, Try.ntmps14
  go_wp2_with fail
  go_at_call 24
  refine (HS0.out _ (hb3 _ _ _)).mono ?_
  rintro e w1 ⟨g1, rfl, R0, b1⟩
  obtain ⟨hA1, hR1, hO1⟩ := vthree b1
  have s3 : ∀ A R O, (((w.alloc A).alloc R).alloc O).heap.size = w.heap.size + 1 + 1 + 1 := fun A R O => by simp
  rw [s3] at b1 R0
  have m1 : w.heap.size + 3 ≤ w1.heap.size := by have := b1.size; rw [s3] at this; omega
  have kw1 : Below w.heap.size w w1 := (hb3 _ _ _).trans (b1.mono (by omega))
  replace R0 := R0.mono (S' := Ow (w.heap.size + 3) w1.heap.size) (Ow.mono (by omega) (Nat.le_refl _))
  have m1' : w.heap.size + 3 ≤ w1.heap.size := by omega
  have o0 := vblk_cell hO1 0
  have q0 := vblk_cell hR1 0
  have y0 := vblk_cell hA1 0
  have o1 := vblk_cell hO1 1
  have q1 := vblk_cell hR1 1
  have y1 := vblk_cell hA1 1
  have o2 := vblk_cell hO1 2
  have q2 := vblk_cell hR1 2
  have y2 := vblk_cell hA1 2
  have o3 := vblk_cell hO1 3
  have q3 := vblk_cell hR1 3
  have y3 := vblk_cell hA1 3
  have fo := vblk_frozen hO1
  have fr := vblk_frozen hR1
  simp only [List.getElem?_toArray, List.getElem?_cons_succ, List.getElem?_cons_zero, List.setIfInBounds_toArray, List.set_cons_succ, List.set_cons_zero] at o0 q0 y0 o1 q1 y1 o2 q2 y2 o3 q3 y3
  have k1 : Below w.heap.size w (w1.setCell ⟨w.heap.size + 1 + 1, 1, none⟩ (.slice (some ⟨g1, 0, none⟩) d.uses.length d.uses.length)) := Below.setCell kw1 (by simp; omega) _
  go_wp2_with fail
  go_at_call 25
  refine (HS1.out _ k1).mono ?_
  rintro e w2 ⟨g2, rfl, R1, b2⟩
  have hA2 := (b2.block w.heap.size (by simp [World.setCell]; omega)).trans ((Below.heap_setCell _ _ _ _ (by simp <;> omega)).trans hA1)
  have hR2 := (b2.block (w.heap.size + 1) (by simp [World.setCell]; omega)).trans ((Below.heap_setCell _ _ _ _ (by simp <;> omega)).trans hR1)
  have hO2 := (b2.block (w.heap.size + 1 + 1) (by simp [World.setCell]; omega)).trans (heap_setCell_same _ _ _ _ _ _ hO1)
  have m2 : w1.heap.size ≤ w2.heap.size := by have := b2.size; simpa [World.setCell] using this
  have kw2 : Below w.heap.size w w2 := k1.trans (b2.mono k1.size)
  replace R1 := R1.mono (S' := Ow (w.heap.size + 3) w2.heap.size) (Ow.mono (by simp [World.setCell]; omega) (Nat.le_refl _))
  replace R0 := (R0.keep ((Kp.set (Ow.not (by omega))).trans (Kp.of b2 (fun b h => by have := h.2; simp [World.setCell]; omega)))).mono (S' := Ow (w.heap.size + 3) w2.heap.size) (Ow.mono (Nat.le_refl _) (by omega))
  have m2' : w.heap.size + 3 ≤ w2.heap.size := by omega
  have o0 := vblk_cell hO2 0
  have q0 := vblk_cell hR2 0
  have y0 := vblk_cell hA2 0
  have o1 := vblk_cell hO2 1
  have q1 := vblk_cell hR2 1
  have y1 := vblk_cell hA2 1
  have o2 := vblk_cell hO2 2
  have q2 := vblk_cell hR2 2
  have y2 := vblk_cell hA2 2
  have o3 := vblk_cell hO2 3
  have q3 := vblk_cell hR2 3
  have y3 := vblk_cell hA2 3
  have fo := vblk_frozen hO2
  have fr := vblk_frozen hR2
  simp only [List.getElem?_toArray, List.getElem?_cons_succ, List.getElem?_cons_zero, List.setIfInBounds_toArray, List.set_cons_succ, List.set_cons_zero] at o0 q0 y0 o1 q1 y1 o2 q2 y2 o3 q3 y3
  have k2 : Below w.heap.size w (w2.setCell ⟨w.heap.size + 1 + 1, 2, none⟩ (.slice (some ⟨g2, 0, none⟩) d.needs.length d.needs.length)) := Below.setCell kw2 (by simp; omega) _
  go_wp2_with fail
  go_at_call 26
  refine (HS2.out _ k2).mono ?_
  rintro e w3 ⟨g3, rfl, R2, b3⟩
  have hA3 := (b3.block w.heap.size (by simp [World.setCell]; omega)).trans ((Below.heap_setCell _ _ _ _ (by simp <;> omega)).trans hA2)
  have hR3 := (b3.block (w.heap.size + 1) (by simp [World.setCell]; omega)).trans ((Below.heap_setCell _ _ _ _ (by simp <;> omega)).trans hR2)
  have hO3 := (b3.block (w.heap.size + 1 + 1) (by simp [World.setCell]; omega)).trans (heap_setCell_same _ _ _ _ _ _ hO2)
  have m3 : w2.heap.size ≤ w3.heap.size := by have := b3.size; simpa [World.setCell] using this
  have kw3 : Below w.heap.size w w3 := k2.trans (b3.mono k2.size)
  replace R2 := R2.mono (S' := Ow (w.heap.size + 3) w3.heap.size) (Ow.mono (by simp [World.setCell]; omega) (Nat.le_refl _))
  replace R0 := (R0.keep ((Kp.set (Ow.not (by omega))).trans (Kp.of b3 (fun b h => by have := h.2; simp [World.setCell]; omega)))).mono (S' := Ow (w.heap.size + 3) w3.heap.size) (Ow.mono (Nat.le_refl _) (by omega))
  replace R1 := (R1.keep ((Kp.set (Ow.not (by omega))).trans (Kp.of b3 (fun b h => by have := h.2; simp [World.setCell]; omega)))).mono (S' := Ow (w.heap.size + 3) w3.heap.size) (Ow.mono (Nat.le_refl _) (by omega))
  have m3' : w.heap.size + 3 ≤ w3.heap.size := by omega
  have o0 := vblk_cell hO3 0
  have q0 := vblk_cell hR3 0
  have y0 := vblk_cell hA3 0
  have o1 := vblk_cell hO3 1
  have q1 := vblk_cell hR3 1
  have y1 := vblk_cell hA3 1
  have o2 := vblk_cell hO3 2
  have q2 := vblk_cell hR3 2
  have y2 := vblk_cell hA3 2
  have o3 := vblk_cell hO3 3
  have q3 := vblk_cell hR3 3
  have y3 := vblk_cell hA3 3
  have fo := vblk_frozen hO3
  have fr := vblk_frozen hR3
  simp only [List.getElem?_toArray, List.getElem?_cons_succ, List.getElem?_cons_zero, List.setIfInBounds_toArray, List.set_cons_succ, List.set_cons_zero] at o0 q0 y0 o1 q1 y1 o2 q2 y2 o3 q3 y3
  go_wp2_with fail
  refine bodyPost_ret (v := .agg #[.string d.name, .slice (some ⟨g1, 0, none⟩) d.uses.length d.uses.length, .slice (some ⟨g2, 0, none⟩) d.needs.length d.needs.length, .slice (some ⟨g3, 0, none⟩) d.cmds.length d.cmds.length]) (by simp [results, Try.results14, go_sem, o0, q0, o1, q1, o2, q2, o3, q3]) rfl ⟨[.string d.name, .slice (some ⟨g1, 0, none⟩) d.uses.length d.uses.length, .slice (some ⟨g2, 0, none⟩) d.needs.length d.needs.length, .slice (some ⟨g3, 0, none⟩) d.cmds.length d.cmds.length], rfl, ?_, ?_⟩
  · have hS : ∀ {W : World}, w3.heap.size ≤ W.heap.size → ∀ b, Ow (w.heap.size + 3) w3.heap.size b → Ow w.heap.size W.heap.size b := fun h => Ow.mono (by omega) h
    refine ⟨_, _, _, rfl, s_name, (R0.keep ?_).mono (hS ?_), p0, (R1.keep ?_).mono (hS ?_), (R2.keep ?_).mono (hS ?_)⟩
    all_goals first
      | (simp [World.setCell]; done)
      | ((repeat (refine Kp.trans ?_ (Kp.set (Ow.not (by omega))))); exact fun b hb => rfl)
  · refine ?_
    (repeat (refine Below.setCell ?_ (by simp <;> omega) _))
    exact kw3

set_option maxHeartbeats 2000000 in
set_option maxRecDepth 100000 in
theorem infoPack : (Try.prog.info? 41).map (fun i => (i.zero, i.size, i.bytes)) = some (some (.agg #[.string ⟨#[]⟩, .slice none 0 0, .slice none 0 0, .slice none 0 0]), 4, 88) := by kernel_rfl
set_option maxHeartbeats 2000000 in
set_option maxRecDepth 100000 in
theorem toPackS_c (S : Nat → Prop) (v : Value) (xs : List PackD) (w : World) (hv : RowIn shPack S w v xs) (hB : ∀ b, S b → b < w.heap.size) (hw : wtRow wtPack xs ≤ 1048576) :
    Calls Try.prog 6 #[v] w fun e w' => ∃ g, e = .returned (.slice (some ⟨g, 0, none⟩) xs.length xs.length) ∧ RowOwn shPackO 41 (Ow w.heap.size w'.heap.size) w' (.slice (some ⟨g, 0, none⟩) xs.length xs.length) xs ∧ Below w.heap.size w w' := by
  obtain ⟨a, cap, rfl, hl, hc, ha⟩ := hv
  have hn := len_wtRow wtPack xs
  have hlm : xs.length ≤ maxLen := hl
  unfold maxLen at hl
  obtain ⟨i0, hi, hz0, hz1, hz2⟩ := info_parts infoPack
  go_enter Try.func6, Try.ntmps6
  go_wp2_with (first
    | (at_make; refine wpList_make_full _ rfl _ _ 26 rfl w.heap.size 41 i0 _ 4 Try.underlying26 hi hz0 hz1 _ _ _ _ xs.length rfl rfl rfl rfl (by rw [hz2]; omega) (by unfold maxLen; omega) (Nat.le_refl _) ?_))
  intro w1 hown hgrow
  have hb1 := below_of_grown hgrow
  have hs1 : w.heap.size + 1 ≤ w1.heap.size := by
    rcases hown.2 with ⟨h, _⟩ | ⟨g, cap, cur, h, _, hg, _⟩
    · simp at h
    · simp at h
      have := (Array.getElem?_eq_some_iff.1 hg).1
      omega
  obtain ⟨ys1, hown1⟩ : ∃ ys, w1.ownsRow w.heap.size 41 4 (.slice (some ⟨w.heap.size, 0, none⟩) xs.length xs.length) xs.length ys := ⟨_, hown⟩
  clear hgrow hown
  go_wp2_with fail
  go_loopw [4] (fun vi wr => ∃ (k : Nat) (ys : List Value), k ≤ xs.length ∧ vi = .int .i64 (k : Int) ∧ wr.ownsRow w.heap.size 41 4 (.slice (some ⟨w.heap.size, 0, none⟩) xs.length xs.length) xs.length ys ∧ Hid (Laid shPackO (Ow (w.heap.size + 1) wr.heap.size) wr ys xs k) ∧ Below w.heap.size w wr ∧ w.heap.size + 1 ≤ wr.heap.size) (fun vi _ => xs.length - (intOf vi).toNat)
  case atStart => exact ⟨0, ys1, Nat.zero_le _, rfl, hown1, (fun i h h0 => by omega), hb1, hs1⟩
  case round =>
    obtain ⟨k, ys, hk, rfl, hownr, hy, hbr, hsr⟩ := hrel
    by_cases hlt' : k < xs.length
    · rcases ha with rfl | ⟨b, off, rfl, hlt, ha⟩
      · simp at hlt'
      obtain ⟨cs, hL, hcell⟩ := ha k hlt'
      have hL2 := shPack.keep (.of hbr hB) hL
      have hcell2 := hcell.keep (.of hbr hB) hlt
      have hBr : ∀ b, S b → b < wr.heap.size := fun b h => Nat.lt_of_lt_of_le (hB b h) hbr.size
      have hwt : wtPack xs[k] ≤ 1048576 := by have := wt_wtRow wtPack (List.getElem_mem hlt'); omega
      have hown2 : ∀ w2, Below wr.heap.size wr w2 → w2.ownsRow w.heap.size 41 4 (.slice (some ⟨w.heap.size, 0, none⟩) xs.length xs.length) xs.length ys := fun w2 h2 => hownr.kept (grown_of_below h2 none) (by simp [Value.ownBlock])
      have hlen := hownr.1
      have HC : Hid (∀ w2, Below wr.heap.size wr w2 → ∀ j, j < 4 → ∃ x, w2.cell? ⟨w.heap.size, k * 4 + j, none⟩ = some x) := fun w2 h2 j hj => ⟨ys.getD (k * 4 + j) undef, by rw [(hown2 w2 h2).cellAt _ (by omega)]; simp [List.getD_eq_getElem?_getD, show k * 4 + j < ys.length by omega]⟩
      have HF : Hid (∀ w2, Below wr.heap.size wr w2 → ∀ j, w2.frozen? ⟨w.heap.size, j, none⟩ = false) := fun w2 h2 j => (hown2 w2 h2).frozenAt j
      have HO : Hid (∀ w2, Below wr.heap.size wr w2 → w2.ownsRow w.heap.size 41 4 (.slice (some ⟨w.heap.size, 0, none⟩) xs.length xs.length) xs.length ys) := hown2
      have HST : Hid (∀ w2 cs, Below wr.heap.size wr w2 → cs.length = 4 → shPackO.lies (Ow (w.heap.size + 1) w2.heap.size) w2 cs xs[k] → Laid shPackO (Ow (w.heap.size + 1) (setW w2 w.heap.size (k * 4) cs).heap.size) (setW w2 w.heap.size (k * 4) cs) (putL ys (k * 4) cs) xs (k + 1)) := fun w2 cs h2 hc hr => hy.out.step (sh := shPackO) hlt' hlen h2 (by omega) hc hr
      obtain ⟨d, hd⟩ : ∃ d, d = xs[k] := ⟨_, rfl⟩
      rw [← hd] at hL2 hwt HST
      have HC1 := toPack_c S d cs wr hL2 hBr hwt
      clear ha hL hcell hd hown2 hi hz0 hz1 hz2 hown1 hb1 hlen hwt
      obtain ⟨u0, u1, u2, rfl, s_name, r0, p0, r1, r2⟩ := hL2
      clear s_name p0
      obtain ⟨a0, cap0, eu0, _⟩ := id r0
      rw [length_strsV] at eu0
      subst eu0
      clear r0
      obtain ⟨a1, cap1, eu1, _⟩ := id r1
      subst eu1
      clear r1
      obtain ⟨a2, cap2, eu2, _⟩ := id r2
      subst eu2
      clear r2
      have e0 : wr.cell? ⟨b, off + k * 4, none⟩ = some (.string d.name) := hcell2 0 (by simp)
      have e1 : wr.cell? ⟨b, off + k * 4 + 1, none⟩ = some (.slice a0 d.uses.length cap0) := hcell2 1 (by simp)
      have e2 : wr.cell? ⟨b, off + k * 4 + 2, none⟩ = some (.slice a1 d.needs.length cap1) := hcell2 2 (by simp)
      have e3 : wr.cell? ⟨b, off + k * 4 + 3, none⟩ = some (.slice a2 d.cmds.length cap2) := hcell2 3 (by simp)
      have HC2 := hidden HC1
      have hki : (k : Int) < (xs.length : Int) := by omega
      clear hcell2 HC1
      go_wp2_with (go_at_call 14; refine HC2.out.mono ?_; rintro e w2 ⟨cs, rfl, hX, hb2⟩; have HX := hidden (HST.out w2 cs hb2 (by have h := hX; obtain ⟨u0, u1, u2, h9, s_name, r0, p0, r1, r2⟩ := h; rw [h9]; rfl) (shPackO.mono (Ow.mono hsr (Nat.le_refl _)) hX)); obtain ⟨u0, u1, u2, rfl, s_name, z0, p0, z1, z2⟩ := hX; obtain ⟨b0, bap0, ev0⟩ := z0.slice; subst ev0; obtain ⟨b1, bap1, ev1⟩ := z1.slice; subst ev1; obtain ⟨b2, bap2, ev2⟩ := z2.slice; subst ev2; obtain ⟨y0, d0⟩ := HC.out w2 hb2 0 (by omega); obtain ⟨y1, d1⟩ := HC.out w2 hb2 1 (by omega); obtain ⟨y2, d2⟩ := HC.out w2 hb2 2 (by omega); obtain ⟨y3, d3⟩ := HC.out w2 hb2 3 (by omega); rw [Nat.add_zero] at d0; have f9 := HF.out w2 hb2)
      go_roundw
      case rel =>
        refine ⟨k + 1, _, by omega, by go_num, setW_owns [.string d.name, .slice b0 d.uses.length bap0, .slice b1 d.needs.length bap1, .slice b2 d.cmds.length bap2] w2 ys (k * 4) (HO.out w2 hb2), HX.out, setW_below (Nat.le_refl _) [.string d.name, .slice b0 d.uses.length bap0, .slice b1 d.needs.length bap1, .slice b2 d.cmds.length bap2] w2 w (k * 4) (hbr.trans (hb2.mono hbr.size)), ?_⟩
        have h9 := setW_size [.string d.name, .slice b0 d.uses.length bap0, .slice b1 d.needs.length bap1, .slice b2 d.cmds.length bap2] w2 w.heap.size (k * 4)
        have := hb2.size
        exact Nat.le_trans (show w.heap.size + 1 ≤ w2.heap.size by omega) (Nat.le_of_eq h9.symm)
      case measure => simp [intOf]; omega
    · have he : k = xs.length := by omega
      subst he
      clear ha
      go_wp2_with fail
      go_ret
      exact ⟨_, rfl, rowOwn_of hownr hlm hy.out, hbr⟩

end Go.Proofs.Ytbolphjigjpmiab
