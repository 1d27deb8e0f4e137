/-
  Contracts for the walks, several texts in one: each part says what it proves, and under which conditions.
-/
import Derived.Deep.RegionHeld
import Derived.Test.YtlnofdlhjeomfaaGreatDoorQ1

/-! Copies of packs, and of rows of them, in memory of their own, as the law makes them: contracts for the walks; condition: what is copied holds at most 2 to the 20. -/
namespace Go.Proofs.YtlnofdlhjeomfaaGreatDoor
open Go.RowKit
set_option linter.unusedSimpArgs false
set_option linter.unusedVariables false

set_option maxHeartbeats 2000000 in
set_option maxRecDepth 100000 in
theorem toPack_c (S : Nat → Prop) (d : PackD) (cs : List Value) (w : World) (hd : shPack.lies S w cs d) (hB : ∀ b, S b → b < w.heap.size) (hw : wtPack d ≤ 1048576) :
    Calls Tryz.prog 51 #[.agg cs.toArray] w fun e w' => ∃ cs', e = .returned (.agg cs'.toArray) ∧ shPackO.lies (Ow w.heap.size w'.heap.size) w' cs' d ∧ Below w.heap.size w w' := by
  obtain ⟨u0, u1, u2, rfl, s_name, r0, p0, r1, r2⟩ := hd
  have hb3 : ∀ A R O, Below w.heap.size w (((w.alloc A).alloc R).alloc O) := fun A R O => (((Below.refl _ _).alloc (Nat.le_refl _) _).alloc (by simp) _).alloc (by simp; omega) _
  unfold wtPack at hw
  have HS0 : Hid (∀ w1, Below w.heap.size w w1 → Calls Tryz.prog 40 #[u0] w1 fun e w' => ∃ g, e = .returned (.slice (some ⟨g, 0, none⟩) d.uses.length d.uses.length) ∧ StrsOwn (Ow w1.heap.size w'.heap.size) w' (.slice (some ⟨g, 0, none⟩) d.uses.length d.uses.length) d.uses ∧ Below w1.heap.size w1 w') := fun w1 hb =>
    (toStrs_c u0 d.uses w1 ((r0.keep (.of hb hB)).reads (fun b h => Nat.lt_of_lt_of_le (hB b h) hb.size)) (by unfold bulkS at hw; omega)).mono fun e w' ⟨g, h1, h2, h3⟩ => ⟨g, h1, ⟨owns_lo (Nat.zero_le _) h2, owns_in h2⟩, h3⟩
  obtain ⟨a0, cap0, eu0, _⟩ := id r0
  rw [length_strsV] at eu0
  have HS1 : Hid (∀ w1, Below w.heap.size w w1 → Calls Tryz.prog 85 #[u1] w1 fun e w' => ∃ g, e = .returned (.slice (some ⟨g, 0, none⟩) d.needs.length d.needs.length) ∧ RowOwn shNeed 117 (Ow w1.heap.size w'.heap.size) w' (.slice (some ⟨g, 0, none⟩) d.needs.length d.needs.length) d.needs ∧ Below w1.heap.size w1 w') := fun w1 hb =>
    toNeedS_c S u1 d.needs w1 (r1.keep (.of hb hB)) (fun b h => Nat.lt_of_lt_of_le (hB b h) hb.size) (by omega)
  obtain ⟨a1, cap1, eu1, _⟩ := id r1
  have HS2 : Hid (∀ w1, Below w.heap.size w w1 → Calls Tryz.prog 86 #[u2] w1 fun e w' => ∃ g, e = .returned (.slice (some ⟨g, 0, none⟩) d.cmds.length d.cmds.length) ∧ RowOwn shCmdO 119 (Ow w1.heap.size w'.heap.size) w' (.slice (some ⟨g, 0, none⟩) d.cmds.length d.cmds.length) d.cmds ∧ Below w1.heap.size w1 w') := fun w1 hb =>
    toCmdS_c S u2 d.cmds w1 (r2.keep (.of hb hB)) (fun b h => Nat.lt_of_lt_of_le (hB b h) hb.size) (by omega)
  obtain ⟨a2, cap2, eu2, _⟩ := id r2
  subst eu0
  clear r0
  subst eu1
  clear r1
  subst eu2
  clear r2
  go_enter Tryz.func51, Tryz.ntmps51
  go_wp2_with fail
  go_at_call 40
  refine (HS0.out _ (hb3 _ _ _)).mono ?_
  rintro e w1 ⟨g1, rfl, R0, b1⟩
  obtain ⟨hA1, hR1, hO1⟩ := vthree b1
  have s3 : ∀ A R O, (((w.alloc A).alloc R).alloc O).heap.size = w.heap.size + 1 + 1 + 1 := fun A R O => by simp
  rw [s3] at b1 R0
  have m1 : w.heap.size + 3 ≤ w1.heap.size := by have := b1.size; rw [s3] at this; omega
  have kw1 : Below w.heap.size w w1 := (hb3 _ _ _).trans (b1.mono (by omega))
  replace R0 := R0.mono (S' := Ow (w.heap.size + 3) w1.heap.size) (Ow.mono (by omega) (Nat.le_refl _))
  have m1' : w.heap.size + 3 ≤ w1.heap.size := by omega
  have o0 := vblk_cell hO1 0
  have q0 := vblk_cell hR1 0
  have y0 := vblk_cell hA1 0
  have o1 := vblk_cell hO1 1
  have q1 := vblk_cell hR1 1
  have y1 := vblk_cell hA1 1
  have o2 := vblk_cell hO1 2
  have q2 := vblk_cell hR1 2
  have y2 := vblk_cell hA1 2
  have o3 := vblk_cell hO1 3
  have q3 := vblk_cell hR1 3
  have y3 := vblk_cell hA1 3
  have fo := vblk_frozen hO1
  have fr := vblk_frozen hR1
  simp only [List.getElem?_toArray, List.getElem?_cons_succ, List.getElem?_cons_zero, List.setIfInBounds_toArray, List.set_cons_succ, List.set_cons_zero] at o0 q0 y0 o1 q1 y1 o2 q2 y2 o3 q3 y3
  have k1 : Below w.heap.size w (w1.setCell ⟨w.heap.size + 1 + 1, 1, none⟩ (.slice (some ⟨g1, 0, none⟩) d.uses.length d.uses.length)) := Below.setCell kw1 (by simp; omega) _
  go_wp2_with fail
  go_at_call 85
  refine (HS1.out _ k1).mono ?_
  rintro e w2 ⟨g2, rfl, R1, b2⟩
  have hA2 := (b2.block w.heap.size (by simp [World.setCell]; omega)).trans ((Below.heap_setCell _ _ _ _ (by simp <;> omega)).trans hA1)
  have hR2 := (b2.block (w.heap.size + 1) (by simp [World.setCell]; omega)).trans ((Below.heap_setCell _ _ _ _ (by simp <;> omega)).trans hR1)
  have hO2 := (b2.block (w.heap.size + 1 + 1) (by simp [World.setCell]; omega)).trans (heap_setCell_same _ _ _ _ _ _ hO1)
  have m2 : w1.heap.size ≤ w2.heap.size := by have := b2.size; simpa [World.setCell] using this
  have kw2 : Below w.heap.size w w2 := k1.trans (b2.mono k1.size)
  replace R1 := R1.mono (S' := Ow (w.heap.size + 3) w2.heap.size) (Ow.mono (by simp [World.setCell]; omega) (Nat.le_refl _))
  replace R0 := (R0.keep ((Kp.set (Ow.not (by omega))).trans (Kp.of b2 (fun b h => by have := h.2; simp [World.setCell]; omega)))).mono (S' := Ow (w.heap.size + 3) w2.heap.size) (Ow.mono (Nat.le_refl _) (by omega))
  have m2' : w.heap.size + 3 ≤ w2.heap.size := by omega
  have o0 := vblk_cell hO2 0
  have q0 := vblk_cell hR2 0
  have y0 := vblk_cell hA2 0
  have o1 := vblk_cell hO2 1
  have q1 := vblk_cell hR2 1
  have y1 := vblk_cell hA2 1
  have o2 := vblk_cell hO2 2
  have q2 := vblk_cell hR2 2
  have y2 := vblk_cell hA2 2
  have o3 := vblk_cell hO2 3
  have q3 := vblk_cell hR2 3
  have y3 := vblk_cell hA2 3
  have fo := vblk_frozen hO2
  have fr := vblk_frozen hR2
  simp only [List.getElem?_toArray, List.getElem?_cons_succ, List.getElem?_cons_zero, List.setIfInBounds_toArray, List.set_cons_succ, List.set_cons_zero] at o0 q0 y0 o1 q1 y1 o2 q2 y2 o3 q3 y3
  have k2 : Below w.heap.size w (w2.setCell ⟨w.heap.size + 1 + 1, 2, none⟩ (.slice (some ⟨g2, 0, none⟩) d.needs.length d.needs.length)) := Below.setCell kw2 (by simp; omega) _
  go_wp2_with fail
  go_at_call 86
  refine (HS2.out _ k2).mono ?_
  rintro e w3 ⟨g3, rfl, R2, b3⟩
  have hA3 := (b3.block w.heap.size (by simp [World.setCell]; omega)).trans ((Below.heap_setCell _ _ _ _ (by simp <;> omega)).trans hA2)
  have hR3 := (b3.block (w.heap.size + 1) (by simp [World.setCell]; omega)).trans ((Below.heap_setCell _ _ _ _ (by simp <;> omega)).trans hR2)
  have hO3 := (b3.block (w.heap.size + 1 + 1) (by simp [World.setCell]; omega)).trans (heap_setCell_same _ _ _ _ _ _ hO2)
  have m3 : w2.heap.size ≤ w3.heap.size := by have := b3.size; simpa [World.setCell] using this
  have kw3 : Below w.heap.size w w3 := k2.trans (b3.mono k2.size)
  replace R2 := R2.mono (S' := Ow (w.heap.size + 3) w3.heap.size) (Ow.mono (by simp [World.setCell]; omega) (Nat.le_refl _))
  replace R0 := (R0.keep ((Kp.set (Ow.not (by omega))).trans (Kp.of b3 (fun b h => by have := h.2; simp [World.setCell]; omega)))).mono (S' := Ow (w.heap.size + 3) w3.heap.size) (Ow.mono (Nat.le_refl _) (by omega))
  replace R1 := (R1.keep ((Kp.set (Ow.not (by omega))).trans (Kp.of b3 (fun b h => by have := h.2; simp [World.setCell]; omega)))).mono (S' := Ow (w.heap.size + 3) w3.heap.size) (Ow.mono (Nat.le_refl _) (by omega))
  have m3' : w.heap.size + 3 ≤ w3.heap.size := by omega
  have o0 := vblk_cell hO3 0
  have q0 := vblk_cell hR3 0
  have y0 := vblk_cell hA3 0
  have o1 := vblk_cell hO3 1
  have q1 := vblk_cell hR3 1
  have y1 := vblk_cell hA3 1
  have o2 := vblk_cell hO3 2
  have q2 := vblk_cell hR3 2
  have y2 := vblk_cell hA3 2
  have o3 := vblk_cell hO3 3
  have q3 := vblk_cell hR3 3
  have y3 := vblk_cell hA3 3
  have fo := vblk_frozen hO3
  have fr := vblk_frozen hR3
  simp only [List.getElem?_toArray, List.getElem?_cons_succ, List.getElem?_cons_zero, List.setIfInBounds_toArray, List.set_cons_succ, List.set_cons_zero] at o0 q0 y0 o1 q1 y1 o2 q2 y2 o3 q3 y3
  go_wp2_with fail
  refine bodyPost_ret (v := .agg #[.string d.name, .slice (some ⟨g1, 0, none⟩) d.uses.length d.uses.length, .slice (some ⟨g2, 0, none⟩) d.needs.length d.needs.length, .slice (some ⟨g3, 0, none⟩) d.cmds.length d.cmds.length]) (by simp [results, Tryz.results51, go_sem, o0, q0, o1, q1, o2, q2, o3, q3]) rfl ⟨[.string d.name, .slice (some ⟨g1, 0, none⟩) d.uses.length d.uses.length, .slice (some ⟨g2, 0, none⟩) d.needs.length d.needs.length, .slice (some ⟨g3, 0, none⟩) d.cmds.length d.cmds.length], rfl, ?_, ?_⟩
  · have hS : ∀ {W : World}, w3.heap.size ≤ W.heap.size → ∀ b, Ow (w.heap.size + 3) w3.heap.size b → Ow w.heap.size W.heap.size b := fun h => Ow.mono (by omega) h
    refine ⟨_, _, _, rfl, s_name, (R0.keep ?_).mono (hS ?_), p0, (R1.keep ?_).mono (hS ?_), (R2.keep ?_).mono (hS ?_)⟩
    all_goals first
      | (simp [World.setCell]; done)
      | ((repeat (refine Kp.trans ?_ (Kp.set (Ow.not (by omega))))); exact fun b hb => rfl)
  · refine ?_
    (repeat (refine Below.setCell ?_ (by simp <;> omega) _))
    exact kw3

set_option maxHeartbeats 2000000 in
set_option maxRecDepth 100000 in
theorem infoPack : (Tryz.prog.info? 38).map (fun i => (i.zero, i.size, i.bytes)) = some (some (.agg #[.string ⟨#[]⟩, .slice none 0 0, .slice none 0 0, .slice none 0 0]), 4, 88) := by kernel_rfl
set_option maxHeartbeats 2000000 in
set_option maxRecDepth 100000 in
theorem toPackS_c (S : Nat → Prop) (v : Value) (xs : List PackD) (w : World) (hv : RowIn shPack S w v xs) (hB : ∀ b, S b → b < w.heap.size) (hw : wtL wtPack xs ≤ 1048576) :
    Calls Tryz.prog 20 #[v] w fun e w' => ∃ g, e = .returned (.slice (some ⟨g, 0, none⟩) xs.length xs.length) ∧ RowOwn shPackO 38 (Ow w.heap.size w'.heap.size) w' (.slice (some ⟨g, 0, none⟩) xs.length xs.length) xs ∧ Below w.heap.size w w' := by
  obtain ⟨a, cap, rfl, hl, hc, ha⟩ := hv
  have hn := len_wtL wtPack xs
  have hlm : xs.length ≤ maxLen := hl
  unfold maxLen at hl
  obtain ⟨i0, hi, hz0, hz1, hz2⟩ := info_parts infoPack
  go_enter Tryz.func20, Tryz.ntmps20
  go_wp2_with (first
    | (at_make; refine wpList_make_full _ rfl _ _ 48 rfl w.heap.size 38 i0 _ 4 Tryz.underlying48 hi hz0 hz1 _ _ _ _ xs.length rfl rfl rfl rfl (by rw [hz2]; omega) (by unfold maxLen; omega) (Nat.le_refl _) ?_))
  intro w1 hown hgrow
  have hb1 := below_of_grown hgrow
  have hs1 : w.heap.size + 1 ≤ w1.heap.size := by
    rcases hown.2 with ⟨h, _⟩ | ⟨g, cap, cur, h, _, hg, _⟩
    · simp at h
    · simp at h
      have := (Array.getElem?_eq_some_iff.1 hg).1
      omega
  obtain ⟨ys1, hown1⟩ : ∃ ys, w1.ownsRow w.heap.size 38 4 (.slice (some ⟨w.heap.size, 0, none⟩) xs.length xs.length) xs.length ys := ⟨_, hown⟩
  clear hgrow hown
  go_wp2_with fail
  go_loopw [4] (fun vi wr => ∃ (k : Nat) (ys : List Value), k ≤ xs.length ∧ vi = .int .i64 (k : Int) ∧ wr.ownsRow w.heap.size 38 4 (.slice (some ⟨w.heap.size, 0, none⟩) xs.length xs.length) xs.length ys ∧ Hid (Laid shPackO (Ow (w.heap.size + 1) wr.heap.size) wr ys xs k) ∧ Below w.heap.size w wr ∧ w.heap.size + 1 ≤ wr.heap.size) (fun vi _ => xs.length - (intOf vi).toNat)
  case atStart => exact ⟨0, ys1, Nat.zero_le _, rfl, hown1, (fun i h h0 => by omega), hb1, hs1⟩
  case round =>
    obtain ⟨k, ys, hk, rfl, hownr, hy, hbr, hsr⟩ := hrel
    by_cases hlt' : k < xs.length
    · rcases ha with rfl | ⟨b, off, rfl, hlt, ha⟩
      · simp at hlt'
      obtain ⟨cs, hL, hcell⟩ := ha k hlt'
      have hL2 := shPack.keep (.of hbr hB) hL
      have hcell2 := hcell.keep (.of hbr hB) hlt
      have hBr : ∀ b, S b → b < wr.heap.size := fun b h => Nat.lt_of_lt_of_le (hB b h) hbr.size
      have hwt : wtPack xs[k] ≤ 1048576 := by have := wt_wtL wtPack (List.getElem_mem hlt'); omega
      have hown2 : ∀ w2, Below wr.heap.size wr w2 → w2.ownsRow w.heap.size 38 4 (.slice (some ⟨w.heap.size, 0, none⟩) xs.length xs.length) xs.length ys := fun w2 h2 => hownr.kept (grown_of_below h2 none) (by simp [Value.ownBlock])
      have hlen := hownr.1
      have HC : Hid (∀ w2, Below wr.heap.size wr w2 → ∀ j, j < 4 → ∃ x, w2.cell? ⟨w.heap.size, k * 4 + j, none⟩ = some x) := fun w2 h2 j hj => ⟨ys.getD (k * 4 + j) undef, by rw [(hown2 w2 h2).cellAt _ (by omega)]; simp [List.getD_eq_getElem?_getD, show k * 4 + j < ys.length by omega]⟩
      have HF : Hid (∀ w2, Below wr.heap.size wr w2 → ∀ j, w2.frozen? ⟨w.heap.size, j, none⟩ = false) := fun w2 h2 j => (hown2 w2 h2).frozenAt j
      have HO : Hid (∀ w2, Below wr.heap.size wr w2 → w2.ownsRow w.heap.size 38 4 (.slice (some ⟨w.heap.size, 0, none⟩) xs.length xs.length) xs.length ys) := hown2
      have HST : Hid (∀ w2 cs, Below wr.heap.size wr w2 → cs.length = 4 → shPackO.lies (Ow (w.heap.size + 1) w2.heap.size) w2 cs xs[k] → Laid shPackO (Ow (w.heap.size + 1) (setW w2 w.heap.size (k * 4) cs).heap.size) (setW w2 w.heap.size (k * 4) cs) (putL ys (k * 4) cs) xs (k + 1)) := fun w2 cs h2 hc hr => hy.out.step (sh := shPackO) hlt' hlen h2 (by omega) hc hr
      obtain ⟨d, hd⟩ : ∃ d, d = xs[k] := ⟨_, rfl⟩
      rw [← hd] at hL2 hwt HST
      have HC1 := toPack_c S d cs wr hL2 hBr hwt
      clear ha hL hcell hd hown2 hi hz0 hz1 hz2 hown1 hb1 hlen hwt
      obtain ⟨u0, u1, u2, rfl, s_name, r0, p0, r1, r2⟩ := hL2
      clear s_name p0
      obtain ⟨a0, cap0, eu0, _⟩ := id r0
      rw [length_strsV] at eu0
      subst eu0
      clear r0
      obtain ⟨a1, cap1, eu1, _⟩ := id r1
      subst eu1
      clear r1
      obtain ⟨a2, cap2, eu2, _⟩ := id r2
      subst eu2
      clear r2
      have e0 : wr.cell? ⟨b, off + k * 4, none⟩ = some (.string d.name) := hcell2 0 (by simp)
      have e1 : wr.cell? ⟨b, off + k * 4 + 1, none⟩ = some (.slice a0 d.uses.length cap0) := hcell2 1 (by simp)
      have e2 : wr.cell? ⟨b, off + k * 4 + 2, none⟩ = some (.slice a1 d.needs.length cap1) := hcell2 2 (by simp)
      have e3 : wr.cell? ⟨b, off + k * 4 + 3, none⟩ = some (.slice a2 d.cmds.length cap2) := hcell2 3 (by simp)
      have HC2 := hidden HC1
      have hki : (k : Int) < (xs.length : Int) := by omega
      clear hcell2 HC1
      go_wp2_with (go_at_call 51; refine HC2.out.mono ?_; rintro e w2 ⟨cs, rfl, hX, hb2⟩; have HX := hidden (HST.out w2 cs hb2 (by have h := hX; obtain ⟨u0, u1, u2, h9, s_name, r0, p0, r1, r2⟩ := h; rw [h9]; rfl) (shPackO.mono (Ow.mono hsr (Nat.le_refl _)) hX)); obtain ⟨u0, u1, u2, rfl, s_name, z0, p0, z1, z2⟩ := hX; obtain ⟨b0, bap0, ev0⟩ := z0.slice; subst ev0; obtain ⟨b1, bap1, ev1⟩ := z1.slice; subst ev1; obtain ⟨b2, bap2, ev2⟩ := z2.slice; subst ev2; obtain ⟨y0, d0⟩ := HC.out w2 hb2 0 (by omega); obtain ⟨y1, d1⟩ := HC.out w2 hb2 1 (by omega); obtain ⟨y2, d2⟩ := HC.out w2 hb2 2 (by omega); obtain ⟨y3, d3⟩ := HC.out w2 hb2 3 (by omega); rw [Nat.add_zero] at d0; have f9 := HF.out w2 hb2)
      go_roundw
      case rel =>
        refine ⟨k + 1, _, by omega, by go_num, setW_owns [.string d.name, .slice b0 d.uses.length bap0, .slice b1 d.needs.length bap1, .slice b2 d.cmds.length bap2] w2 ys (k * 4) (HO.out w2 hb2), HX.out, setW_below (Nat.le_refl _) [.string d.name, .slice b0 d.uses.length bap0, .slice b1 d.needs.length bap1, .slice b2 d.cmds.length bap2] w2 w (k * 4) (hbr.trans (hb2.mono hbr.size)), ?_⟩
        have h9 := setW_size [.string d.name, .slice b0 d.uses.length bap0, .slice b1 d.needs.length bap1, .slice b2 d.cmds.length bap2] w2 w.heap.size (k * 4)
        have := hb2.size
        exact Nat.le_trans (show w.heap.size + 1 ≤ w2.heap.size by omega) (Nat.le_of_eq h9.symm)
      case measure => simp [intOf]; omega
    · have he : k = xs.length := by omega
      subst he
      clear ha
      go_wp2_with fail
      go_ret
      exact ⟨_, rfl, rowOwn_of hownr hlm hy.out, hbr⟩

end Go.Proofs.YtlnofdlhjeomfaaGreatDoor

/-! Needs and commands, and rows of them, that are the same are told so by the law's own comparison: contracts for what lies in memory and holds at most 2 to the 20. -/
namespace Go.Proofs.YtlnofdlhjeomfaaGreatDoor
open Go.RowKit
set_option linter.unusedSimpArgs false
set_option linter.unusedVariables false

theorem boxTwo {w w1 : World} {A R : Obj} (hb : Below ((w.alloc A).alloc R).heap.size ((w.alloc A).alloc R) w1) : w1.heap[w.heap.size]? = some A ∧ w1.heap[w.heap.size + 1]? = some R := by
  have s1 : (w.alloc A).heap.size = w.heap.size + 1 := by simp
  refine ⟨?_, ?_⟩
  · rw [hb.block _ (by simp; omega), vheap_old _ _ (by simp), vheap_new]
  · rw [hb.block _ (by simp), ← s1, vheap_new]

set_option maxHeartbeats 2000000 in
set_option maxRecDepth 100000 in
theorem eqNeed_c (S S' : Nat → Prop) (d : NeedD) (cs cs' : List Value) (w : World) (hd : shNeed.lies S w cs d) (hd' : shNeed.lies S' w cs' d) (hB : ∀ b, S b → b < w.heap.size) (hB' : ∀ b, S' b → b < w.heap.size) (hw : wtNeed d ≤ 1048576) :
    Calls Tryz.prog 81 #[.agg cs.toArray, .agg cs'.toArray] w fun e w' => e = .returned (.bool true) ∧ Below w.heap.size w w' := by
  obtain ⟨rfl, xs_n, xs_r⟩ := hd
  obtain ⟨rfl, ys_n, ys_r⟩ := hd'
  have hb2 : ∀ A R, Below w.heap.size w ((w.alloc A).alloc R) := fun A R => ((Below.refl _ _).alloc (Nat.le_refl _) _).alloc (by simp) _
  unfold wtNeed at hw
  go_enter Tryz.func81, Tryz.ntmps81
  go_wp2_with fail
  go_ret
  exact ⟨rfl, (hb2 _ _)⟩

set_option maxHeartbeats 2000000 in
set_option maxRecDepth 100000 in
theorem eqNeedS_c (S S' : Nat → Prop) (v u : Value) (xs : List NeedD) (w : World) (hv : RowIn shNeed S w v xs) (hv' : RowIn shNeed S' w u xs) (hB : ∀ b, S b → b < w.heap.size) (hB' : ∀ b, S' b → b < w.heap.size) (hw : wtL wtNeed xs ≤ 1048576) :
    Calls Tryz.prog 43 #[v, u] w fun e w' => e = .returned (.bool true) ∧ Below w.heap.size w w' := by
  obtain ⟨a, cap, rfl, hl, hc, ha⟩ := hv
  obtain ⟨a', cap', rfl, _, hc', ha'⟩ := hv'
  unfold maxLen at hl
  go_enter Tryz.func43, Tryz.ntmps43
  go_wp2_with fail
  go_loopw [5] (fun vi wr => ∃ k : Nat, k ≤ xs.length ∧ vi = .int .i64 (k : Int) ∧ Below w.heap.size w wr) (fun vi _ => xs.length - (intOf vi).toNat)
  case atStart => exact ⟨0, Nat.zero_le _, rfl, Below.refl _ _⟩
  case round =>
    obtain ⟨k, hk, rfl, hbr⟩ := hrel
    by_cases hlt' : k < xs.length
    · rcases ha with rfl | ⟨b, off, rfl, hlt, ha⟩
      · simp at hlt'
      rcases ha' with rfl | ⟨b', off', rfl, hlt3, ha'⟩
      · simp at hlt'
      obtain ⟨cs, hL, hcell⟩ := ha k hlt'
      obtain ⟨cs', hL', hcell'⟩ := ha' k hlt'
      have hwt : wtNeed xs[k] ≤ 1048576 := by have := wt_wtL wtNeed (List.getElem_mem hlt'); omega
      have HC := eqNeed_c S S' xs[k] cs cs' wr.drew (shNeed.keep (.of hbr.drew hB) hL) (shNeed.keep (.of hbr.drew hB') hL') (fun b h => Nat.lt_of_lt_of_le (hB b h) hbr.size) (fun b h => Nat.lt_of_lt_of_le (hB' b h) hbr.size) hwt
      replace hL := shNeed.keep (.of hbr hB) hL
      replace hL' := shNeed.keep (.of hbr hB') hL'
      replace hcell := hcell.keep (.of hbr hB) hlt
      replace hcell' := hcell'.keep (.of hbr hB') hlt3
      obtain ⟨d, hd⟩ : ∃ d, d = xs[k] := ⟨_, rfl⟩
      rw [← hd] at hL hL' hwt
      clear ha ha' hd
      obtain ⟨rfl, xs_n, xs_r⟩ := hL
      obtain ⟨rfl, ys_n, ys_r⟩ := hL'
      clear xs_n xs_r ys_n ys_r
      have xv0 : wr.cell? ⟨b, off + k * 2, none⟩ = some (.string d.n) := hcell 0 (by simp)
      have xv1 : wr.cell? ⟨b, off + k * 2 + 1, none⟩ = some (.string d.r) := hcell 1 (by simp)
      have yv0 : wr.cell? ⟨b', off' + k * 2, none⟩ = some (.string d.n) := hcell' 0 (by simp)
      have yv1 : wr.cell? ⟨b', off' + k * 2 + 1, none⟩ = some (.string d.r) := hcell' 1 (by simp)
      have HC2 := hidden HC
      have hki : (k : Int) < (xs.length : Int) := by omega
      clear hcell hcell' HC hwt
      go_wp2_with fail
      go_region_with (go_at_call 81; refine HC2.out.mono ?_; rintro e w2 ⟨rfl, hb2⟩)
      all_goals go_wp2_with fail
      all_goals go_roundw
      all_goals first
        | exact ⟨k + 1, by omega, by go_num, hbr.drew.trans (hb2.mono hbr.size)⟩
        | (simp [intOf]; omega)
    · have he : k = xs.length := by omega
      subst he
      clear ha ha'
      go_wp2_with fail
      go_ret
      exact ⟨rfl, hbr⟩

set_option maxHeartbeats 2000000 in
set_option maxRecDepth 100000 in
theorem eqCmd_c (S S' : Nat → Prop) (d : CmdD) (cs cs' : List Value) (w : World) (hd : shCmd.lies S w cs d) (hd' : shCmd.lies S' w cs' d) (hB : ∀ b, S b → b < w.heap.size) (hB' : ∀ b, S' b → b < w.heap.size) (hw : wtCmd d ≤ 1048576) :
    Calls Tryz.prog 82 #[.agg cs.toArray, .agg cs'.toArray] w fun e w' => e = .returned (.bool true) ∧ Below w.heap.size w w' := by
  obtain ⟨xu0, rfl, xs_t, xr0, xp0⟩ := hd
  obtain ⟨yu0, rfl, ys_t, yr0, yp0⟩ := hd'
  have hb2 : ∀ A R, Below w.heap.size w ((w.alloc A).alloc R) := fun A R => ((Below.refl _ _).alloc (Nat.le_refl _) _).alloc (by simp) _
  unfold wtCmd at hw
  have HS0 : Hid (∀ w1, Below w.heap.size w w1 → Calls Tryz.prog 30 #[xu0, yu0] w1 fun e w' => e = .returned (.bool true) ∧ Below w1.heap.size w1 w') := fun w1 hb => by
    have := eqStrs_c xu0 yu0 d.acts d.acts w1 ((xr0.keep (.of hb hB)).reads (fun b h => Nat.lt_of_lt_of_le (hB b h) hb.size)) ((yr0.keep (.of hb hB')).reads (fun b h => Nat.lt_of_lt_of_le (hB' b h) hb.size)) (by unfold bulkS at hw; omega)
    rwa [decide_eq_true rfl] at this
  obtain ⟨xa0, xc0, xe0, _⟩ := id xr0
  rw [length_strsV] at xe0
  subst xe0
  clear xr0
  obtain ⟨ya0, yc0, ye0, _⟩ := id yr0
  rw [length_strsV] at ye0
  subst ye0
  clear yr0
  go_enter Tryz.func82, Tryz.ntmps82
  go_wp2_with fail
  go_at_call 30
  refine (HS0.out _ (hb2 _ _)).mono ?_
  rintro e w1 ⟨rfl, b1⟩
  obtain ⟨hA1, hR1⟩ := boxTwo b1
  have k1 : Below w.heap.size w w1 := (hb2 _ _).trans (b1.mono (hb2 _ _).size)
  go_wp2_with fail
  go_ret
  exact ⟨rfl, k1⟩

set_option maxHeartbeats 2000000 in
set_option maxRecDepth 100000 in
theorem eqCmdS_c (S S' : Nat → Prop) (v u : Value) (xs : List CmdD) (w : World) (hv : RowIn shCmd S w v xs) (hv' : RowIn shCmd S' w u xs) (hB : ∀ b, S b → b < w.heap.size) (hB' : ∀ b, S' b → b < w.heap.size) (hw : wtL wtCmd xs ≤ 1048576) :
    Calls Tryz.prog 44 #[v, u] w fun e w' => e = .returned (.bool true) ∧ Below w.heap.size w w' := by
  obtain ⟨a, cap, rfl, hl, hc, ha⟩ := hv
  obtain ⟨a', cap', rfl, _, hc', ha'⟩ := hv'
  unfold maxLen at hl
  go_enter Tryz.func44, Tryz.ntmps44
  go_wp2_with fail
  go_loopw [5] (fun vi wr => ∃ k : Nat, k ≤ xs.length ∧ vi = .int .i64 (k : Int) ∧ Below w.heap.size w wr) (fun vi _ => xs.length - (intOf vi).toNat)
  case atStart => exact ⟨0, Nat.zero_le _, rfl, Below.refl _ _⟩
  case round =>
    obtain ⟨k, hk, rfl, hbr⟩ := hrel
    by_cases hlt' : k < xs.length
    · rcases ha with rfl | ⟨b, off, rfl, hlt, ha⟩
      · simp at hlt'
      rcases ha' with rfl | ⟨b', off', rfl, hlt3, ha'⟩
      · simp at hlt'
      obtain ⟨cs, hL, hcell⟩ := ha k hlt'
      obtain ⟨cs', hL', hcell'⟩ := ha' k hlt'
      have hwt : wtCmd xs[k] ≤ 1048576 := by have := wt_wtL wtCmd (List.getElem_mem hlt'); omega
      have HC := eqCmd_c S S' xs[k] cs cs' wr.drew (shCmd.keep (.of hbr.drew hB) hL) (shCmd.keep (.of hbr.drew hB') hL') (fun b h => Nat.lt_of_lt_of_le (hB b h) hbr.size) (fun b h => Nat.lt_of_lt_of_le (hB' b h) hbr.size) hwt
      replace hL := shCmd.keep (.of hbr hB) hL
      replace hL' := shCmd.keep (.of hbr hB') hL'
      replace hcell := hcell.keep (.of hbr hB) hlt
      replace hcell' := hcell'.keep (.of hbr hB') hlt3
      obtain ⟨d, hd⟩ : ∃ d, d = xs[k] := ⟨_, rfl⟩
      rw [← hd] at hL hL' hwt
      clear ha ha' hd
      obtain ⟨xu0, rfl, xs_t, xr0, xp0⟩ := hL
      obtain ⟨yu0, rfl, ys_t, yr0, yp0⟩ := hL'
      clear xs_t xp0 ys_t yp0
      obtain ⟨xa0, xc0, xe0, _⟩ := id xr0
      rw [length_strsV] at xe0
      subst xe0
      clear xr0
      have xv0 : wr.cell? ⟨b, off + k * 2, none⟩ = some (.string d.t) := hcell 0 (by simp)
      have xv1 : wr.cell? ⟨b, off + k * 2 + 1, none⟩ = some (.slice xa0 d.acts.length xc0) := hcell 1 (by simp)
      obtain ⟨ya0, yc0, ye0, _⟩ := id yr0
      rw [length_strsV] at ye0
      subst ye0
      clear yr0
      have yv0 : wr.cell? ⟨b', off' + k * 2, none⟩ = some (.string d.t) := hcell' 0 (by simp)
      have yv1 : wr.cell? ⟨b', off' + k * 2 + 1, none⟩ = some (.slice ya0 d.acts.length yc0) := hcell' 1 (by simp)
      have HC2 := hidden HC
      have hki : (k : Int) < (xs.length : Int) := by omega
      clear hcell hcell' HC hwt
      go_wp2_with fail
      go_region_with (go_at_call 82; refine HC2.out.mono ?_; rintro e w2 ⟨rfl, hb2⟩)
      all_goals go_wp2_with fail
      all_goals go_roundw
      all_goals first
        | exact ⟨k + 1, by omega, by go_num, hbr.drew.trans (hb2.mono hbr.size)⟩
        | (simp [intOf]; omega)
    · have he : k = xs.length := by omega
      subst he
      clear ha ha'
      go_wp2_with fail
      go_ret
      exact ⟨rfl, hbr⟩

end Go.Proofs.YtlnofdlhjeomfaaGreatDoor

/-! Packs, and rows of them, that are the same are told so by the law's own comparison: contracts for what lies in memory and holds at most 2 to the 20. -/
namespace Go.Proofs.YtlnofdlhjeomfaaGreatDoor
open Go.RowKit
set_option linter.unusedSimpArgs false
set_option linter.unusedVariables false

set_option maxHeartbeats 2000000 in
set_option maxRecDepth 100000 in
theorem eqPack_c (S S' : Nat → Prop) (d : PackD) (cs cs' : List Value) (w : World) (hd : shPack.lies S w cs d) (hd' : shPack.lies S' w cs' d) (hB : ∀ b, S b → b < w.heap.size) (hB' : ∀ b, S' b → b < w.heap.size) (hw : wtPack d ≤ 1048576) :
    Calls Tryz.prog 15 #[.agg cs.toArray, .agg cs'.toArray] w fun e w' => e = .returned (.bool true) ∧ Below w.heap.size w w' := by
  obtain ⟨xu0, xu1, xu2, rfl, xs_name, xr0, xp0, xr1, xr2⟩ := hd
  obtain ⟨yu0, yu1, yu2, rfl, ys_name, yr0, yp0, yr1, yr2⟩ := hd'
  have hb2 : ∀ A R, Below w.heap.size w ((w.alloc A).alloc R) := fun A R => ((Below.refl _ _).alloc (Nat.le_refl _) _).alloc (by simp) _
  unfold wtPack at hw
  have HS0 : Hid (∀ w1, Below w.heap.size w w1 → Calls Tryz.prog 30 #[xu0, yu0] w1 fun e w' => e = .returned (.bool true) ∧ Below w1.heap.size w1 w') := fun w1 hb => by
    have := eqStrs_c xu0 yu0 d.uses d.uses w1 ((xr0.keep (.of hb hB)).reads (fun b h => Nat.lt_of_lt_of_le (hB b h) hb.size)) ((yr0.keep (.of hb hB')).reads (fun b h => Nat.lt_of_lt_of_le (hB' b h) hb.size)) (by unfold bulkS at hw; omega)
    rwa [decide_eq_true rfl] at this
  have HS1 : Hid (∀ w1, Below w.heap.size w w1 → Calls Tryz.prog 43 #[xu1, yu1] w1 fun e w' => e = .returned (.bool true) ∧ Below w1.heap.size w1 w') := fun w1 hb =>
    eqNeedS_c S S' xu1 yu1 d.needs w1 (xr1.keep (.of hb hB)) (yr1.keep (.of hb hB')) (fun b h => Nat.lt_of_lt_of_le (hB b h) hb.size) (fun b h => Nat.lt_of_lt_of_le (hB' b h) hb.size) (by omega)
  have HS2 : Hid (∀ w1, Below w.heap.size w w1 → Calls Tryz.prog 44 #[xu2, yu2] w1 fun e w' => e = .returned (.bool true) ∧ Below w1.heap.size w1 w') := fun w1 hb =>
    eqCmdS_c S S' xu2 yu2 d.cmds w1 (xr2.keep (.of hb hB)) (yr2.keep (.of hb hB')) (fun b h => Nat.lt_of_lt_of_le (hB b h) hb.size) (fun b h => Nat.lt_of_lt_of_le (hB' b h) hb.size) (by omega)
  obtain ⟨xa0, xc0, xe0, _⟩ := id xr0
  rw [length_strsV] at xe0
  subst xe0
  clear xr0
  obtain ⟨ya0, yc0, ye0, _⟩ := id yr0
  rw [length_strsV] at ye0
  subst ye0
  clear yr0
  obtain ⟨xa1, xc1, xe1, _⟩ := id xr1
  subst xe1
  clear xr1
  obtain ⟨ya1, yc1, ye1, _⟩ := id yr1
  subst ye1
  clear yr1
  obtain ⟨xa2, xc2, xe2, _⟩ := id xr2
  subst xe2
  clear xr2
  obtain ⟨ya2, yc2, ye2, _⟩ := id yr2
  subst ye2
  clear yr2
  go_enter Tryz.func15, Tryz.ntmps15
  go_wp2_with fail
  go_at_call 30
  refine (HS0.out _ (hb2 _ _)).mono ?_
  rintro e w1 ⟨rfl, b1⟩
  obtain ⟨hA1, hR1⟩ := boxTwo b1
  have k1 : Below w.heap.size w w1 := (hb2 _ _).trans (b1.mono (hb2 _ _).size)
  have o0 := vblk_cell hA1 0
  have q0 := vblk_cell hR1 0
  have o1 := vblk_cell hA1 1
  have q1 := vblk_cell hR1 1
  have o2 := vblk_cell hA1 2
  have q2 := vblk_cell hR1 2
  have o3 := vblk_cell hA1 3
  have q3 := vblk_cell hR1 3
  simp only [List.getElem?_toArray, List.getElem?_cons_succ, List.getElem?_cons_zero] at o0 q0 o1 q1 o2 q2 o3 q3
  go_wp2_with fail
  go_at_call 43
  refine (HS1.out _ k1).mono ?_
  rintro e w2 ⟨rfl, b2⟩
  have hA2 := (b2.block _ (Array.getElem?_eq_some_iff.1 hA1).1).trans hA1
  have hR2 := (b2.block _ (Array.getElem?_eq_some_iff.1 hR1).1).trans hR1
  have k2 := k1.trans (b2.mono k1.size)
  have o0 := vblk_cell hA2 0
  have q0 := vblk_cell hR2 0
  have o1 := vblk_cell hA2 1
  have q1 := vblk_cell hR2 1
  have o2 := vblk_cell hA2 2
  have q2 := vblk_cell hR2 2
  have o3 := vblk_cell hA2 3
  have q3 := vblk_cell hR2 3
  simp only [List.getElem?_toArray, List.getElem?_cons_succ, List.getElem?_cons_zero] at o0 q0 o1 q1 o2 q2 o3 q3
  go_wp2_with fail
  go_at_call 44
  refine (HS2.out _ k2).mono ?_
  rintro e w3 ⟨rfl, b3⟩
  have hA3 := (b3.block _ (Array.getElem?_eq_some_iff.1 hA2).1).trans hA2
  have hR3 := (b3.block _ (Array.getElem?_eq_some_iff.1 hR2).1).trans hR2
  have k3 := k2.trans (b3.mono k2.size)
  go_wp2_with fail
  go_ret
  exact ⟨rfl, k3⟩

set_option maxHeartbeats 2000000 in
set_option maxRecDepth 100000 in
theorem eqPackS_c (S S' : Nat → Prop) (v u : Value) (xs : List PackD) (w : World) (hv : RowIn shPack S w v xs) (hv' : RowIn shPack S' w u xs) (hB : ∀ b, S b → b < w.heap.size) (hB' : ∀ b, S' b → b < w.heap.size) (hw : wtL wtPack xs ≤ 1048576) :
    Calls Tryz.prog 22 #[v, u] w fun e w' => e = .returned (.bool true) ∧ Below w.heap.size w w' := by
  obtain ⟨a, cap, rfl, hl, hc, ha⟩ := hv
  obtain ⟨a', cap', rfl, _, hc', ha'⟩ := hv'
  unfold maxLen at hl
  go_enter Tryz.func22, Tryz.ntmps22
  go_wp2_with fail
  go_loopw [5] (fun vi wr => ∃ k : Nat, k ≤ xs.length ∧ vi = .int .i64 (k : Int) ∧ Below w.heap.size w wr) (fun vi _ => xs.length - (intOf vi).toNat)
  case atStart => exact ⟨0, Nat.zero_le _, rfl, Below.refl _ _⟩
  case round =>
    obtain ⟨k, hk, rfl, hbr⟩ := hrel
    by_cases hlt' : k < xs.length
    · rcases ha with rfl | ⟨b, off, rfl, hlt, ha⟩
      · simp at hlt'
      rcases ha' with rfl | ⟨b', off', rfl, hlt3, ha'⟩
      · simp at hlt'
      obtain ⟨cs, hL, hcell⟩ := ha k hlt'
      obtain ⟨cs', hL', hcell'⟩ := ha' k hlt'
      have hwt : wtPack xs[k] ≤ 1048576 := by have := wt_wtL wtPack (List.getElem_mem hlt'); omega
      have HC := eqPack_c S S' xs[k] cs cs' wr.drew (shPack.keep (.of hbr.drew hB) hL) (shPack.keep (.of hbr.drew hB') hL') (fun b h => Nat.lt_of_lt_of_le (hB b h) hbr.size) (fun b h => Nat.lt_of_lt_of_le (hB' b h) hbr.size) hwt
      replace hL := shPack.keep (.of hbr hB) hL
      replace hL' := shPack.keep (.of hbr hB') hL'
      replace hcell := hcell.keep (.of hbr hB) hlt
      replace hcell' := hcell'.keep (.of hbr hB') hlt3
      obtain ⟨d, hd⟩ : ∃ d, d = xs[k] := ⟨_, rfl⟩
      rw [← hd] at hL hL' hwt
      clear ha ha' hd
      obtain ⟨xu0, xu1, xu2, rfl, xs_name, xr0, xp0, xr1, xr2⟩ := hL
      obtain ⟨yu0, yu1, yu2, rfl, ys_name, yr0, yp0, yr1, yr2⟩ := hL'
      clear xs_name xp0 ys_name yp0
      obtain ⟨xa0, xc0, xe0, _⟩ := id xr0
      rw [length_strsV] at xe0
      subst xe0
      clear xr0
      obtain ⟨xa1, xc1, xe1, _⟩ := id xr1
      subst xe1
      clear xr1
      obtain ⟨xa2, xc2, xe2, _⟩ := id xr2
      subst xe2
      clear xr2
      have xv0 : wr.cell? ⟨b, off + k * 4, none⟩ = some (.string d.name) := hcell 0 (by simp)
      have xv1 : wr.cell? ⟨b, off + k * 4 + 1, none⟩ = some (.slice xa0 d.uses.length xc0) := hcell 1 (by simp)
      have xv2 : wr.cell? ⟨b, off + k * 4 + 2, none⟩ = some (.slice xa1 d.needs.length xc1) := hcell 2 (by simp)
      have xv3 : wr.cell? ⟨b, off + k * 4 + 3, none⟩ = some (.slice xa2 d.cmds.length xc2) := hcell 3 (by simp)
      obtain ⟨ya0, yc0, ye0, _⟩ := id yr0
      rw [length_strsV] at ye0
      subst ye0
      clear yr0
      obtain ⟨ya1, yc1, ye1, _⟩ := id yr1
      subst ye1
      clear yr1
      obtain ⟨ya2, yc2, ye2, _⟩ := id yr2
      subst ye2
      clear yr2
      have yv0 : wr.cell? ⟨b', off' + k * 4, none⟩ = some (.string d.name) := hcell' 0 (by simp)
      have yv1 : wr.cell? ⟨b', off' + k * 4 + 1, none⟩ = some (.slice ya0 d.uses.length yc0) := hcell' 1 (by simp)
      have yv2 : wr.cell? ⟨b', off' + k * 4 + 2, none⟩ = some (.slice ya1 d.needs.length yc1) := hcell' 2 (by simp)
      have yv3 : wr.cell? ⟨b', off' + k * 4 + 3, none⟩ = some (.slice ya2 d.cmds.length yc2) := hcell' 3 (by simp)
      have HC2 := hidden HC
      have hki : (k : Int) < (xs.length : Int) := by omega
      clear hcell hcell' HC hwt
      go_wp2_with fail
      go_region_with (go_at_call 15; refine HC2.out.mono ?_; rintro e w2 ⟨rfl, hb2⟩)
      all_goals go_wp2_with fail
      all_goals go_roundw
      all_goals first
        | exact ⟨k + 1, by omega, by go_num, hbr.drew.trans (hb2.mono hbr.size)⟩
        | (simp [intOf]; omega)
    · have he : k = xs.length := by omega
      subst he
      clear ha ha'
      go_wp2_with fail
      go_ret
      exact ⟨rfl, hbr⟩

end Go.Proofs.YtlnofdlhjeomfaaGreatDoor

/-! Rows that are right one by one and ascend, and the first of a row that is taken: pure facts, no condition. -/
namespace Go.Proofs.YtlnofdlhjeomfaaGreatDoor
open Go.RowKit
set_option linter.unusedSimpArgs false
set_option linter.unusedVariables false

/-- What is asked of an element beside the one ahead of it. -/
def rowOk {α : Type} (p : α → Bool) (key : α → ByteArray) (d : α) (pre : Option α) : Bool := p d && (match pre with | none => true | some c => Op.bytesLess (key c).toList (key d).toList)
def preX {α : Type} (xs : List α) : Nat → Option α
  | 0 => none
  | j + 1 => xs[j]?
def rowUpto {α : Type} (p : α → Bool) (key : α → ByteArray) (xs : List α) : Nat → Bool
  | 0 => true
  | k + 1 => rowUpto p key xs k && (match xs[k]? with | none => true | some d => rowOk p key d (preX xs k))
def rowB {α : Type} (p : α → Bool) (key : α → ByteArray) (xs : List α) : Bool := rowUpto p key xs xs.length
theorem rowUpto_step {α : Type} {p : α → Bool} {key : α → ByteArray} {xs : List α} {k : Nat} (hk : k < xs.length) (h : rowUpto p key xs k = true) (h2 : rowOk p key xs[k] (preX xs k) = true) : rowUpto p key xs (k + 1) = true := by
  rw [rowUpto, h, List.getElem?_eq_getElem hk]; simpa using h2
theorem rowUpto_bad {α : Type} {p : α → Bool} {key : α → ByteArray} {xs : List α} {k : Nat} (hk : k < xs.length) (h2 : rowOk p key xs[k] (preX xs k) = false) : ∀ n, k < n → rowUpto p key xs n = false
  | 0, h => by omega
  | n + 1, h => by
    rw [rowUpto]
    by_cases e : k = n
    · subst e; rw [List.getElem?_eq_getElem hk]; simp [h2]
    · rw [rowUpto_bad hk h2 n (by omega)]; rfl
theorem rowOk_no {α : Type} {p : α → Bool} {key : α → ByteArray} {d : α} {o : Option α} (h : p d = false) : rowOk p key d o = false := by simp [rowOk, h]
theorem rowOk_first {α : Type} {p : α → Bool} {key : α → ByteArray} {d : α} (h : p d = true) : rowOk p key d none = true := by simp [rowOk, h]
theorem rowOk_some {α : Type} {p : α → Bool} {key : α → ByteArray} {d c : α} (h : p d = true) : rowOk p key d (some c) = Op.bytesLess (key c).toList (key d).toList := by simp [rowOk, h]
theorem rowOk_less {α : Type} {p : α → Bool} {key : α → ByteArray} {d c : α} (h : Op.bytesLess (key c).toList (key d).toList = false) : rowOk p key d (some c) = false := by simp [rowOk, h]

def ascB (ts : List ByteArray) : Bool := rowB (fun _ => true) id ts
theorem asc_one (ts : List ByteArray) : rowUpto (fun _ => true) id ts 1 = true := by
  rw [rowUpto, rowUpto]
  cases ts with
  | nil => rfl
  | cons t ts => rfl
theorem asc_end {ts : List ByteArray} {k : Nat} (h1 : 1 ≤ k) (h2 : ¬ k < ts.length) (h3 : k ≤ ts.length ∨ k = 1) (h : rowUpto (fun _ => true) id ts k = true) : ascB ts = true := by
  cases ts with
  | nil => rfl
  | cons t ts =>
    have : k = (t :: ts).length := by
      rcases h3 with h3 | h3
      · omega
      · simp at h2 ⊢; omega
    rw [this] at h
    exact h
theorem rowUpto_split {α : Type} (p : α → Bool) (key : α → ByteArray) (xs : List α) : ∀ k, k ≤ xs.length → rowUpto p key xs k = ((xs.take k).all p && rowUpto (fun _ => true) id (xs.map key) k)
  | 0, _ => rfl
  | k + 1, h => by
    have hk : k < xs.length := by omega
    rw [rowUpto, rowUpto_split p key xs k (by omega), List.getElem?_eq_getElem hk, List.take_succ_eq_append_getElem hk, List.all_append]
    have hm : (xs.map key)[k]? = some (key xs[k]) := by simp [hk]
    have hp : preX (xs.map key) k = (preX xs k).map key := by
      cases k with
      | zero => rfl
      | succ j => simp [preX]
    simp only [rowUpto, hm, hp, rowOk, List.all_cons, List.all_nil, Bool.and_true, Bool.true_and]
    cases preX xs k with
    | none => simp only [Option.map_none]; cases (xs.take k).all p <;> cases rowUpto (fun _ => true) id (xs.map key) k <;> cases p xs[k] <;> rfl
    | some c => simp only [Option.map_some, id]; cases (xs.take k).all p <;> cases rowUpto (fun _ => true) id (xs.map key) k <;> cases p xs[k] <;> cases Op.bytesLess (key c).toList (key xs[k]).toList <;> rfl
theorem rowB_split {α : Type} (p : α → Bool) (key : α → ByteArray) (xs : List α) : rowB p key xs = (xs.all p && ascB (xs.map key)) := by
  unfold rowB ascB rowB
  rw [rowUpto_split p key xs _ (Nat.le_refl _), List.take_length, List.length_map]

/-- The place of the first that p takes, or -1. -/
def firstI {α : Type} (p : α → Bool) (xs : List α) : Int := if xs.findIdx p < xs.length then (xs.findIdx p : Int) else -1
theorem firstI_here {α : Type} {p : α → Bool} {xs : List α} {k : Nat} (h : k < xs.length) (hy : p xs[k] = true) (hn : ∀ j (hj : j < xs.length), j < k → p xs[j] = false) : firstI p xs = (k : Int) := by
  have e : xs.findIdx p = k := by
    rw [List.findIdx_eq h]
    exact ⟨hy, fun j hj => hn j (by omega) hj⟩
  unfold firstI
  rw [e, if_pos h]
theorem firstI_none {α : Type} {p : α → Bool} {xs : List α} (hn : ∀ j (hj : j < xs.length), p xs[j] = false) : firstI p xs = -1 := by
  have e : xs.findIdx p = xs.length := by
    rw [List.findIdx_eq_length]
    intro x hx
    obtain ⟨j, hj, rfl⟩ := List.mem_iff_getElem.1 hx
    exact hn j hj
  unfold firstI
  rw [e, if_neg (by omega)]
theorem firstI_any {α : Type} (p : α → Bool) (xs : List α) : decide (0 ≤ firstI p xs) = xs.any p := by
  unfold firstI
  by_cases h : xs.findIdx p < xs.length
  · rw [if_pos h, decide_eq_true (by omega)]
    have := List.findIdx_lt_length.1 h
    obtain ⟨x, hx, hp⟩ := this
    exact (List.any_eq_true.2 ⟨x, hx, hp⟩).symm
  · rw [if_neg h, decide_eq_false (by omega)]
    have e : xs.findIdx p = xs.length := by have := List.findIdx_le_length (xs := xs) (p := p); omega
    rw [List.findIdx_eq_length] at e
    cases ha : xs.any p with
    | false => rfl
    | true =>
      obtain ⟨x, hx, hp⟩ := List.any_eq_true.1 ha
      have := e x hx
      simp_all
theorem firstI_ge {α : Type} (p : α → Bool) (xs : List α) : -1 ≤ firstI p xs := by unfold firstI; split <;> omega
theorem firstI_le {α : Type} (p : α → Bool) (xs : List α) : firstI p xs ≤ (xs.length : Int) := by unfold firstI; split <;> omega

end Go.Proofs.YtlnofdlhjeomfaaGreatDoor

/-! Facts on blocks of memory that are kept, for the laws over two versions; no condition. -/
namespace Go.Proofs.YtlnofdlhjeomfaaGreatDoor
open Go.RowKit
set_option linter.unusedSimpArgs false
set_option linter.unusedVariables false

/-- The block N holds these four cells. -/
def Four (w : World) (N : Nat) (t : TypeId) (c0 c1 c2 c3 : Value) : Prop := w.heap[N]? = some (.cells #[c0, c1, c2, c3] t (0, 0))
theorem Four.lt {w : World} {N : Nat} {t : TypeId} {c0 c1 c2 c3 : Value} (h : Four w N t c0 c1 c2 c3) : N < w.heap.size := (Array.getElem?_eq_some_iff.1 h).1
theorem Four.keep {w w' : World} {N : Nat} {t : TypeId} {c0 c1 c2 c3 : Value} (h : Four w N t c0 c1 c2 c3) (b : Below w.heap.size w w') : Four w' N t c0 c1 c2 c3 := (b.block N h.lt).trans h
theorem Four.cells {w : World} {N : Nat} {t : TypeId} {c0 c1 c2 c3 : Value} (h : Four w N t c0 c1 c2 c3) : w.cell? ⟨N, 0, none⟩ = some c0 ∧ w.cell? ⟨N, 1, none⟩ = some c1 ∧ w.cell? ⟨N, 2, none⟩ = some c2 ∧ w.cell? ⟨N, 3, none⟩ = some c3 :=
  ⟨vblk_cell h 0, vblk_cell h 1, vblk_cell h 2, vblk_cell h 3⟩
theorem Four.drew {w : World} {N : Nat} {t : TypeId} {c0 c1 c2 c3 : Value} (h : Four w N t c0 c1 c2 c3) : Four w.drew N t c0 c1 c2 c3 := h
theorem four_new (w : World) (t : TypeId) (c0 c1 c2 c3 : Value) : Four (w.alloc (.cells #[c0, c1, c2, c3] t)) w.heap.size t c0 c1 c2 c3 := vheap_new _ _
theorem four_old {w : World} {N : Nat} {t : TypeId} {c0 c1 c2 c3 : Value} (h : Four w N t c0 c1 c2 c3) (o : Obj) : Four (w.alloc o) N t c0 c1 c2 c3 := (vheap_old w o h.lt).trans h
theorem four_two (w : World) (t t' : TypeId) (c0 c1 c2 c3 d0 d1 d2 d3 : Value) : Four ((w.alloc (.cells #[c0, c1, c2, c3] t)).alloc (.cells #[d0, d1, d2, d3] t')) w.heap.size t c0 c1 c2 c3 ∧ Four ((w.alloc (.cells #[c0, c1, c2, c3] t)).alloc (.cells #[d0, d1, d2, d3] t')) (w.heap.size + 1) t' d0 d1 d2 d3 := by
  refine ⟨four_old (four_new _ _ _ _ _ _) _, ?_⟩
  have h := four_new (w.alloc (.cells #[c0, c1, c2, c3] t)) t' d0 d1 d2 d3
  have s1 : ∀ o, (w.alloc o).heap.size = w.heap.size + 1 := fun o => by simp
  rw [s1] at h
  exact h
end Go.Proofs.YtlnofdlhjeomfaaGreatDoor

/-! What the law's helpers over one Cmp answer (how much there is, a copy, whether two are alike): contracts for the walks; conditions: the lists of texts lie in memory as told. -/
namespace Go.Proofs.YtlnofdlhjeomfaaGreatDoor
open Go.RowKit
set_option linter.unusedSimpArgs false
set_option linter.unusedVariables false

theorem owns_base {w : World} {base base' : Nat} {e : TypeId} {v : Value} {n : Nat} {xs : List Value} (h : w.ownsRow base e 1 v n xs) (hb : base' ≤ base) : w.ownsRow base' e 1 v n xs := by
  obtain ⟨h1, h2⟩ := h
  refine ⟨h1, ?_⟩
  rcases h2 with h2 | ⟨g, cap, cur, a, b, c⟩
  · exact .inl h2
  · exact .inr ⟨g, cap, cur, a, Nat.le_trans hb b, c⟩

/-- The block N holds these five cells. -/
def Five (w : World) (N : Nat) (t : TypeId) (c0 c1 c2 c3 c4 : Value) : Prop := w.heap[N]? = some (.cells #[c0, c1, c2, c3, c4] t (0, 0))
theorem Five.lt {w : World} {N : Nat} {t : TypeId} {c0 c1 c2 c3 c4 : Value} (h : Five w N t c0 c1 c2 c3 c4) : N < w.heap.size := (Array.getElem?_eq_some_iff.1 h).1
theorem Five.keep {w w' : World} {N : Nat} {t : TypeId} {c0 c1 c2 c3 c4 : Value} (h : Five w N t c0 c1 c2 c3 c4) (b : Below w.heap.size w w') : Five w' N t c0 c1 c2 c3 c4 := (b.block N h.lt).trans h
theorem Five.cells {w : World} {N : Nat} {t : TypeId} {c0 c1 c2 c3 c4 : Value} (h : Five w N t c0 c1 c2 c3 c4) : w.cell? ⟨N, 0, none⟩ = some c0 ∧ w.cell? ⟨N, 1, none⟩ = some c1 ∧ w.cell? ⟨N, 2, none⟩ = some c2 ∧ w.cell? ⟨N, 3, none⟩ = some c3 ∧ w.cell? ⟨N, 4, none⟩ = some c4 :=
  ⟨vblk_cell h 0, vblk_cell h 1, vblk_cell h 2, vblk_cell h 3, vblk_cell h 4⟩
theorem Five.drew {w : World} {N : Nat} {t : TypeId} {c0 c1 c2 c3 c4 : Value} (h : Five w N t c0 c1 c2 c3 c4) : Five w.drew N t c0 c1 c2 c3 c4 := h
theorem five_new (w : World) (t : TypeId) (c0 c1 c2 c3 c4 : Value) : Five (w.alloc (.cells #[c0, c1, c2, c3, c4] t)) w.heap.size t c0 c1 c2 c3 c4 := vheap_new _ _
theorem five_four (w : World) (t t' : TypeId) (c0 c1 c2 c3 c4 d0 d1 d2 d3 : Value) : Five ((w.alloc (.cells #[c0, c1, c2, c3, c4] t)).alloc (.cells #[d0, d1, d2, d3] t')) w.heap.size t c0 c1 c2 c3 c4 ∧ Four ((w.alloc (.cells #[c0, c1, c2, c3, c4] t)).alloc (.cells #[d0, d1, d2, d3] t')) (w.heap.size + 1) t' d0 d1 d2 d3 := by
  refine ⟨(five_new _ _ _ _ _ _ _).keep ((Below.refl _ _).alloc (Nat.le_refl _) _), ?_⟩
  have h := four_new (w.alloc (.cells #[c0, c1, c2, c3, c4] t)) t' d0 d1 d2 d3
  have s1 : ∀ o, (w.alloc o).heap.size = w.heap.size + 1 := fun o => by simp
  rw [s1] at h
  exact h
end Go.Proofs.YtlnofdlhjeomfaaGreatDoor

/-! Lists of Cmps and lists of such lists that lie in memory, in blocks of a set S: what they are, and that they are kept; no condition. -/
namespace Go.Proofs.YtlnofdlhjeomfaaGreatDoor
open Go.RowKit
set_option linter.unusedSimpArgs false
set_option linter.unusedVariables false

/-- A Cmp: its Op, and its version. -/
structure CmpD where
  o : Int
  a : Int
  b : Int
  c : Int
  ps : List ByteArray

/-- The five cells from place j on in block b are the Cmp d; its texts are read at u. -/
def CmpAt (S : Nat → Prop) (w : World) (b j : Nat) (u : Value) (d : CmpD) : Prop :=
  w.cell? ⟨b, j, none⟩ = some (.int .i64 d.o) ∧ w.cell? ⟨b, j + 1, none⟩ = some (.int .i64 d.a) ∧ w.cell? ⟨b, j + 2, none⟩ = some (.int .i64 d.b) ∧ w.cell? ⟨b, j + 3, none⟩ = some (.int .i64 d.c) ∧ w.cell? ⟨b, j + 4, none⟩ = some u ∧ RdB S w u (strsV d.ps) ∧ saneP d.ps

theorem CmpAt.keep {S : Nat → Prop} {w w' : World} {b j : Nat} {u : Value} {d : CmpD} (hk : Kp S w w') (hb : S b) (h : CmpAt S w b j u d) : CmpAt S w' b j u d := by
  obtain ⟨h0, h1, h2, h3, h4, h5, h6⟩ := h
  exact ⟨(hk.cell hb _).trans h0, (hk.cell hb _).trans h1, (hk.cell hb _).trans h2, (hk.cell hb _).trans h3, (hk.cell hb _).trans h4, h5.keep hk, h6⟩
theorem CmpAt.mono {S S' : Nat → Prop} {w : World} {b j : Nat} {u : Value} {d : CmpD} (hS : ∀ b, S b → S' b) (h : CmpAt S w b j u d) : CmpAt S' w b j u d := by
  obtain ⟨h0, h1, h2, h3, h4, h5, h6⟩ := h
  exact ⟨h0, h1, h2, h3, h4, h5.mono hS, h6⟩

/-- The list of Cmps v is ds. -/
def CmpsIn (S : Nat → Prop) (w : World) (v : Value) (ds : List CmpD) : Prop :=
  ∃ q cap, v = .slice q ds.length cap ∧ ds.length ≤ maxLen ∧ ds.length ≤ cap ∧ (ds = [] ∨ ∃ (b off : Nat) (us : Nat → Value), q = some ⟨b, off, none⟩ ∧ S b ∧ ∀ k (h : k < ds.length), CmpAt S w b (off + k * 5) (us k) ds[k])
theorem CmpsIn.keep {S : Nat → Prop} {w w' : World} {v : Value} {ds : List CmpD} (hk : Kp S w w') (h : CmpsIn S w v ds) : CmpsIn S w' v ds := by
  obtain ⟨q, cap, hv, hm, hc, h⟩ := h
  refine ⟨q, cap, hv, hm, hc, ?_⟩
  rcases h with h | ⟨b, off, us, hq, hb, h⟩
  · exact .inl h
  · exact .inr ⟨b, off, us, hq, hb, fun k hh => (h k hh).keep hk hb⟩
theorem CmpsIn.mono {S S' : Nat → Prop} {w : World} {v : Value} {ds : List CmpD} (hS : ∀ b, S b → S' b) (h : CmpsIn S w v ds) : CmpsIn S' w v ds := by
  obtain ⟨q, cap, hv, hm, hc, h⟩ := h
  refine ⟨q, cap, hv, hm, hc, ?_⟩
  rcases h with h | ⟨b, off, us, hq, hb, h⟩
  · exact .inl h
  · exact .inr ⟨b, off, us, hq, hS b hb, fun k hh => (h k hh).mono hS⟩

/-- The list of lists of Cmps v is dss. -/
def RangeIn (S : Nat → Prop) (w : World) (v : Value) (dss : List (List CmpD)) : Prop :=
  ∃ q cap, v = .slice q dss.length cap ∧ dss.length ≤ maxLen ∧ dss.length ≤ cap ∧ (dss = [] ∨ ∃ (b off : Nat) (vs : Nat → Value), q = some ⟨b, off, none⟩ ∧ S b ∧ ∀ k (h : k < dss.length), w.cell? ⟨b, off + k, none⟩ = some (vs k) ∧ CmpsIn S w (vs k) dss[k])
theorem RangeIn.keep {S : Nat → Prop} {w w' : World} {v : Value} {dss : List (List CmpD)} (hk : Kp S w w') (h : RangeIn S w v dss) : RangeIn S w' v dss := by
  obtain ⟨q, cap, hv, hm, hc, h⟩ := h
  refine ⟨q, cap, hv, hm, hc, ?_⟩
  rcases h with h | ⟨b, off, vs, hq, hb, h⟩
  · exact .inl h
  · exact .inr ⟨b, off, vs, hq, hb, fun k hh => ⟨(hk.cell hb _).trans (h k hh).1, (h k hh).2.keep hk⟩⟩
theorem RangeIn.mono {S S' : Nat → Prop} {w : World} {v : Value} {dss : List (List CmpD)} (hS : ∀ b, S b → S' b) (h : RangeIn S w v dss) : RangeIn S' w v dss := by
  obtain ⟨q, cap, hv, hm, hc, h⟩ := h
  refine ⟨q, cap, hv, hm, hc, ?_⟩
  rcases h with h | ⟨b, off, vs, hq, hb, h⟩
  · exact .inl h
  · exact .inr ⟨b, off, vs, hq, hS b hb, fun k hh => ⟨(h k hh).1, (h k hh).2.mono hS⟩⟩

/-- How much a list of Cmps holds, as the law counts it. -/
def wtC (ds : List CmpD) : Nat := (ds.map fun d => 1 + bulkS d.ps).sum
def wtR (dss : List (List CmpD)) : Nat := (dss.map fun ds => 1 + wtC ds).sum
theorem wtC_take (ds : List CmpD) (k : Nat) (h : k < ds.length) : wtC (ds.take (k + 1)) = wtC (ds.take k) + (1 + bulkS ds[k].ps) := by
  rw [wtC, wtC, List.take_succ_eq_append_getElem h]; simp only [List.map_append, List.sum_append, List.map_cons, List.map_nil, List.sum_cons, List.sum_nil, Nat.add_zero]
theorem wtR_take (dss : List (List CmpD)) (k : Nat) (h : k < dss.length) : wtR (dss.take (k + 1)) = wtR (dss.take k) + (1 + wtC dss[k]) := by
  rw [wtR, wtR, List.take_succ_eq_append_getElem h]; simp only [List.map_append, List.sum_append, List.map_cons, List.map_nil, List.sum_cons, List.sum_nil, Nat.add_zero]
theorem wtC_split (ds : List CmpD) (k : Nat) : wtC ds = wtC (ds.take k) + wtC (ds.drop k) := by
  rw [wtC, wtC, wtC, ← List.sum_append, ← List.map_append, List.take_append_drop]
theorem wtR_split (dss : List (List CmpD)) (k : Nat) : wtR dss = wtR (dss.take k) + wtR (dss.drop k) := by
  rw [wtR, wtR, wtR, ← List.sum_append, ← List.map_append, List.take_append_drop]
theorem len_wtC (ds : List CmpD) : ds.length ≤ wtC ds := by
  induction ds with
  | nil => simp [wtC]
  | cons d ds ih => simp [wtC] at ih ⊢; omega
theorem len_wtR (dss : List (List CmpD)) : dss.length ≤ wtR dss := by
  induction dss with
  | nil => simp [wtR]
  | cons d ds ih => simp [wtR] at ih ⊢; omega
theorem bulk_wtC {ds : List CmpD} {d : CmpD} (h : d ∈ ds) : bulkS d.ps ≤ wtC ds := by
  induction ds with
  | nil => simp at h
  | cons x ds ih =>
    simp [wtC] at ih ⊢
    rcases List.mem_cons.1 h with rfl | h
    · omega
    · have := ih h; omega
theorem wtC_wtR {dss : List (List CmpD)} {ds : List CmpD} (h : ds ∈ dss) : wtC ds ≤ wtR dss := by
  induction dss with
  | nil => simp at h
  | cons x dss ih =>
    simp [wtR] at ih ⊢
    rcases List.mem_cons.1 h with rfl | h
    · omega
    · have := ih h; omega

theorem leftS_W (ps : List ByteArray) (left : Int) : leftS ps left = leftW (bulkS ps) left := rfl
end Go.Proofs.YtlnofdlhjeomfaaGreatDoor

/-! A list of Cmps, and a list of such lists, copied into memory of their own, as the law's helpers do it: contracts for what lies in memory and holds at most 2 to the 20. -/
namespace Go.Proofs.YtlnofdlhjeomfaaGreatDoor
open Go.RowKit
set_option linter.unusedSimpArgs false
set_option linter.unusedVariables false

theorem infoCmp : (Tryz.prog.info? 223).map (fun i => (i.zero, i.size, i.bytes)) = some (some (.agg #[.int .i64 0, .int .i64 0, .int .i64 0, .int .i64 0, .slice none 0 0]), 5, 56) := by kernel_rfl
theorem infoCmps : (Tryz.prog.info? 198).map (fun i => (i.zero, i.size, i.bytes)) = some (some (.slice none 0 0), 1, 24) := by kernel_rfl

def put5 (ys : List Value) (i : Nat) (c0 c1 c2 c3 c4 : Value) : List Value := ((((ys.set (i * 5) c0).set (i * 5 + 1) c1).set (i * 5 + 2) c2).set (i * 5 + 3) c3).set (i * 5 + 4) c4
/-- From place j on ys has these five. -/
def FiveAt (ys : List Value) (j : Nat) (c0 c1 c2 c3 c4 : Value) : Prop := ys[j]? = some c0 ∧ ys[j + 1]? = some c1 ∧ ys[j + 2]? = some c2 ∧ ys[j + 3]? = some c3 ∧ ys[j + 4]? = some c4
theorem put5_same (ys : List Value) (i : Nat) (c0 c1 c2 c3 c4 : Value) (h : i * 5 + 4 < ys.length) : FiveAt (put5 ys i c0 c1 c2 c3 c4) (i * 5) c0 c1 c2 c3 c4 := by
  simp [FiveAt, put5, List.getElem?_set, h, show i * 5 < ys.length by omega, show i * 5 + 1 < ys.length by omega, show i * 5 + 2 < ys.length by omega, show i * 5 + 3 < ys.length by omega]
theorem put5_get (ys : List Value) (i j : Nat) (c0 c1 c2 c3 c4 : Value) (h : j < i * 5 ∨ i * 5 + 4 < j) : (put5 ys i c0 c1 c2 c3 c4)[j]? = ys[j]? := by
  unfold put5
  rw [List.getElem?_set_ne (by omega), List.getElem?_set_ne (by omega), List.getElem?_set_ne (by omega), List.getElem?_set_ne (by omega), List.getElem?_set_ne (by omega)]
theorem put5_other {ys : List Value} {i j : Nat} {c0 c1 c2 c3 c4 d0 d1 d2 d3 d4 : Value} (h : j ≠ i) (hf : FiveAt ys (j * 5) d0 d1 d2 d3 d4) : FiveAt (put5 ys i c0 c1 c2 c3 c4) (j * 5) d0 d1 d2 d3 d4 := by
  obtain ⟨h0, h1, h2, h3, h4⟩ := hf
  refine ⟨?_, ?_, ?_, ?_, ?_⟩ <;> rw [put5_get _ _ _ _ _ _ _ _ (by omega)] <;> assumption

/-- What is laid so far of a copy: the Cmps below k. -/
def LaidC (lo : Nat) (w : World) (ys : List Value) (ds : List CmpD) (k : Nat) : Prop :=
  ∀ i (h : i < ds.length), i < k → ∃ u, FiveAt ys (i * 5) (.int .i64 ds[i].o) (.int .i64 ds[i].a) (.int .i64 ds[i].b) (.int .i64 ds[i].c) u ∧ RdB (Ow lo w.heap.size) w u (strsV ds[i].ps) ∧ saneP ds[i].ps

theorem cmpsIn_owns {w : World} {lo g n : Nat} {ys : List Value} {ds : List CmpD} (hg : w.ownsRow lo 223 5 (.slice (some ⟨g, 0, none⟩) n n) n ys) (hn : n = ds.length) (hl : ds.length ≤ maxLen) (hlo : lo ≤ g)
    (h : LaidC (lo + 1) w ys ds ds.length) : CmpsIn (Ow lo w.heap.size) w (.slice (some ⟨g, 0, none⟩) ds.length ds.length) ds := by
  subst hn
  refine ⟨_, _, rfl, hl, Nat.le_refl _, ?_⟩
  have hlen := hg.1
  by_cases h0 : ds = []
  · exact .inl h0
  · have hpos : 0 < ds.length := List.length_pos_iff.2 h0
    have hgl : g < w.heap.size := by
      rcases hg.2 with ⟨hh, _⟩ | ⟨g', cap, cur, hh, _, hg', _⟩
      · simp at hh
      · simp at hh
        have := (Array.getElem?_eq_some_iff.1 hg').1
        omega
    have hc : ∀ i (hi : i < ds.length), CmpAt (Ow lo w.heap.size) w g (0 + i * 5) (ys.getD (i * 5 + 4) undef) ds[i] := fun i hi => by
      obtain ⟨u, ⟨h0, h1, h2, h3, h4⟩, h5, h6⟩ := h i hi hi
      rw [Nat.zero_add]
      have hu : ys.getD (i * 5 + 4) undef = u := by simp [List.getD_eq_getElem?_getD, h4]
      rw [hu]
      refine ⟨?_, ?_, ?_, ?_, ?_, h5.mono (Ow.mono (by omega) (Nat.le_refl _)), h6⟩ <;> rw [hg.cellAt _ (by omega)] <;> assumption
    exact .inr ⟨g, 0, fun i => ys.getD (i * 5 + 4) undef, rfl, ⟨hlo, hgl⟩, hc⟩

theorem size_set5 (w : World) (g i : Nat) (c0 c1 c2 c3 c4 : Value) : (((((w.setCell ⟨g, i, none⟩ c0).setCell ⟨g, i + 1, none⟩ c1).setCell ⟨g, i + 2, none⟩ c2).setCell ⟨g, i + 3, none⟩ c3).setCell ⟨g, i + 4, none⟩ c4).heap.size = w.heap.size := by simp [World.setCell]
theorem kp_set5 {S : Nat → Prop} (w : World) (g i : Nat) (c0 c1 c2 c3 c4 : Value) (h : ¬ S g) : Kp S w (((((w.setCell ⟨g, i, none⟩ c0).setCell ⟨g, i + 1, none⟩ c1).setCell ⟨g, i + 2, none⟩ c2).setCell ⟨g, i + 3, none⟩ c3).setCell ⟨g, i + 4, none⟩ c4) :=
  ((((Kp.set h).trans (Kp.set h)).trans (Kp.set h)).trans (Kp.set h)).trans (Kp.set h)

theorem LaidC.step {lo : Nat} {w w2 : World} {ys : List Value} {ds : List CmpD} {k : Nat} (h : LaidC lo w ys ds k) (hk : k < ds.length) (hy : k * 5 + 4 < ys.length) (hb : Below w.heap.size w w2) {g : Nat} (hg : g < lo) {u : Value}
    (hu : RdB (Ow lo w2.heap.size) w2 u (strsV ds[k].ps)) (hs : saneP ds[k].ps) :
    LaidC lo (((((w2.setCell ⟨g, k * 5, none⟩ (.int .i64 ds[k].o)).setCell ⟨g, k * 5 + 1, none⟩ (.int .i64 ds[k].a)).setCell ⟨g, k * 5 + 2, none⟩ (.int .i64 ds[k].b)).setCell ⟨g, k * 5 + 3, none⟩ (.int .i64 ds[k].c)).setCell ⟨g, k * 5 + 4, none⟩ u) (put5 ys k (.int .i64 ds[k].o) (.int .i64 ds[k].a) (.int .i64 ds[k].b) (.int .i64 ds[k].c) u) ds (k + 1) := fun i hi hik => by
  rw [size_set5]
  by_cases e : i = k
  · subst e
    exact ⟨u, put5_same _ _ _ _ _ _ _ hy, hu.keep (kp_set5 _ _ _ _ _ _ _ _ (Ow.not hg)), hs⟩
  · obtain ⟨u', hf, hr, hs'⟩ := h i hi (by omega)
    exact ⟨u', put5_other e hf, ((hr.keep (Ow.below hb)).mono (Ow.mono (Nat.le_refl _) hb.size)).keep (kp_set5 _ _ _ _ _ _ _ _ (Ow.not hg)), hs'⟩

/-- What is laid so far of a copy: the lists below k. -/
def LaidR (lo : Nat) (w : World) (ys : List Value) (dss : List (List CmpD)) (k : Nat) : Prop :=
  ys.length = dss.length ∧ ∀ i (h : i < dss.length), i < k → ∃ u, ys[i]? = some u ∧ CmpsIn (Ow lo w.heap.size) w u dss[i]

theorem LaidR.step {lo : Nat} {w w2 : World} {ys : List Value} {dss : List (List CmpD)} {k : Nat} (h : LaidR lo w ys dss k) (hk : k < dss.length) (hb : Below w.heap.size w w2) {g : Nat} (hg : g < lo) {u : Value}
    (hu : CmpsIn (Ow lo w2.heap.size) w2 u dss[k]) : LaidR lo (w2.setCell ⟨g, k, none⟩ u) (ys.set k u) dss (k + 1) := by
  refine ⟨by simp [h.1], fun i hi hik => ?_⟩
  have hz : (w2.setCell ⟨g, k, none⟩ u).heap.size = w2.heap.size := by simp [World.setCell]
  rw [hz]
  by_cases e : i = k
  · subst e
    exact ⟨u, by simp [h.1, hk], hu.keep (Kp.set (Ow.not hg))⟩
  · obtain ⟨u', hf, hr⟩ := h.2 i hi (by omega)
    exact ⟨u', by rw [List.getElem?_set_ne (by omega)]; exact hf, ((hr.keep (Ow.below hb)).mono (Ow.mono (Nat.le_refl _) hb.size)).keep (Kp.set (Ow.not hg))⟩

theorem rangeIn_owns {w : World} {lo g n : Nat} {ys : List Value} {dss : List (List CmpD)} (hg : w.ownsRow lo 198 1 (.slice (some ⟨g, 0, none⟩) n n) n ys) (hn : n = dss.length) (hl : dss.length ≤ maxLen) (hlo : lo ≤ g)
    (h : LaidR (lo + 1) w ys dss dss.length) : RangeIn (Ow lo w.heap.size) w (.slice (some ⟨g, 0, none⟩) dss.length dss.length) dss := by
  subst hn
  refine ⟨_, _, rfl, hl, Nat.le_refl _, ?_⟩
  by_cases h0 : dss = []
  · exact .inl h0
  · have hpos : 0 < dss.length := List.length_pos_iff.2 h0
    have hgl : g < w.heap.size := by
      rcases hg.2 with ⟨hh, _⟩ | ⟨g', cap, cur, hh, _, hg', _⟩
      · simp at hh
      · simp at hh
        have := (Array.getElem?_eq_some_iff.1 hg').1
        omega
    refine .inr ⟨g, 0, fun i => ys.getD i undef, rfl, ⟨hlo, hgl⟩, fun i hi => ?_⟩
    obtain ⟨u, hu, hr⟩ := h.2 i hi hi
    have e : ys.getD i undef = u := by simp [List.getD_eq_getElem?_getD, hu]
    show w.cell? ⟨g, 0 + i, none⟩ = some (ys.getD i undef) ∧ CmpsIn (Ow lo w.heap.size) w (ys.getD i undef) dss[i]
    rw [e, Nat.zero_add]
    exact ⟨(hg.cellAt i (by omega)).trans hu, hr.mono (Ow.mono (by omega) (Nat.le_refl _))⟩

end Go.Proofs.YtlnofdlhjeomfaaGreatDoor

/-! Lists of Cmps that a call has made and holds alone: each row of Cmps, and each row of texts, in a block of its own; no condition. -/
namespace Go.Proofs.YtlnofdlhjeomfaaGreatDoor
open Go.RowKit
set_option linter.unusedSimpArgs false
set_option linter.unusedVariables false

/-- The list v of Cmps ds: its row, and the rows of their texts, are the call's own, from block lo on, no two in one block. -/
def CmpsOwn (lo : Nat) (w : World) (v : Value) (ds : List CmpD) : Prop :=
  ∃ (ys : List Value) (us : Nat → Value), w.ownsRow lo 223 5 v ds.length ys ∧
    (∀ i (h : i < ds.length), FiveAt ys (i * 5) (.int .i64 ds[i].o) (.int .i64 ds[i].a) (.int .i64 ds[i].b) (.int .i64 ds[i].c) (us i) ∧ w.ownsRow lo 9 1 (us i) ds[i].ps.length (strsV ds[i].ps)) ∧
    ∀ i j, i < ds.length → j < ds.length → i ≠ j → (us i).ownBlock = (us j).ownBlock → (us i).ownBlock = none

theorem own_kept5 {w w' : World} {base : Nat} {e : TypeId} {v : Value} {n : Nat} {xs : List Value} (h : w.ownsRow base e 5 v n xs) (b : Below w.heap.size w w') : w'.ownsRow base e 5 v n xs := by
  rcases h.2 with ⟨rfl, rfl⟩ | ⟨g, cap, cur, rfl, hg, hh, _⟩
  · exact ⟨h.1, .inl ⟨rfl, rfl⟩⟩
  · have hl := (Array.getElem?_eq_some_iff.1 hh).1
    exact h.kept (grown_of_below b none) (by simp [Value.ownBlock])
theorem CmpsOwn.below {lo : Nat} {w w' : World} {v : Value} {ds : List CmpD} (h : CmpsOwn lo w v ds) (b : Below w.heap.size w w') : CmpsOwn lo w' v ds := by
  obtain ⟨ys, us, h1, h2, h3⟩ := h
  exact ⟨ys, us, own_kept5 h1 b, fun i hi => ⟨(h2 i hi).1, owns_of_below (h2 i hi).2 b⟩, h3⟩

theorem owns_lower5 {w : World} {base base' : Nat} {e : TypeId} {v : Value} {n : Nat} {xs : List Value} (h : w.ownsRow base e 5 v n xs) (hb : base' ≤ base) : w.ownsRow base' e 5 v n xs := by
  obtain ⟨h1, h2⟩ := h
  refine ⟨h1, ?_⟩
  rcases h2 with h2 | ⟨g, cap, cur, a, b, c⟩
  · exact .inl h2
  · exact .inr ⟨g, cap, cur, a, Nat.le_trans hb b, c⟩
theorem CmpsOwn.lower {lo lo' : Nat} {w : World} {v : Value} {ds : List CmpD} (h : CmpsOwn lo w v ds) (hb : lo' ≤ lo) : CmpsOwn lo' w v ds := by
  obtain ⟨ys, us, h1, h2, h3⟩ := h
  exact ⟨ys, us, owns_lower5 h1 hb, fun i hi => ⟨(h2 i hi).1, owns_base (h2 i hi).2 hb⟩, h3⟩

theorem one_own {lo g : Nat} {w : World} {u : Value} (d : CmpD) (hg : g = w.heap.size) (hlo : lo ≤ w.heap.size) (hu : w.ownsRow lo 9 1 u d.ps.length (strsV d.ps)) :
    CmpsOwn lo (w.alloc (.cells #[.int .i64 d.o, .int .i64 d.a, .int .i64 d.b, .int .i64 d.c, u] 223)) (.slice (some ⟨g, 0, none⟩) 1 1) [d] := by
  subst hg
  refine ⟨[.int .i64 d.o, .int .i64 d.a, .int .i64 d.b, .int .i64 d.c, u], fun _ => u, ?_, fun i hi => ?_, fun i j hi hj hne => ?_⟩
  · exact World.ownsRow_lit w #[.int .i64 d.o, .int .i64 d.a, .int .i64 d.b, .int .i64 d.c, u] 1 (base := lo) (e := 223) (size := 5) hlo (by unfold maxLen; omega) rfl
  · have : i = 0 := by simp at hi; omega
    subst this
    exact ⟨⟨rfl, rfl, rfl, rfl, rfl⟩, hu.alloc _⟩
  · simp at hi hj; omega

theorem two_own {lo g : Nat} {w : World} {u u' : Value} (d d' : CmpD) (hg : g = w.heap.size) (hlo : lo ≤ w.heap.size) (hu : w.ownsRow lo 9 1 u d.ps.length (strsV d.ps)) (hu' : w.ownsRow lo 9 1 u' d'.ps.length (strsV d'.ps)) (hne : u.ownBlock = u'.ownBlock → u.ownBlock = none) :
    CmpsOwn lo (w.alloc (.cells #[.int .i64 d.o, .int .i64 d.a, .int .i64 d.b, .int .i64 d.c, u, .int .i64 d'.o, .int .i64 d'.a, .int .i64 d'.b, .int .i64 d'.c, u'] 223)) (.slice (some ⟨g, 0, none⟩) 2 2) [d, d'] := by
  subst hg
  refine ⟨[.int .i64 d.o, .int .i64 d.a, .int .i64 d.b, .int .i64 d.c, u, .int .i64 d'.o, .int .i64 d'.a, .int .i64 d'.b, .int .i64 d'.c, u'], fun i => if i = 0 then u else u', ?_, fun i hi => ?_, fun i j hi hj hij he => ?_⟩
  · exact World.ownsRow_lit w #[.int .i64 d.o, .int .i64 d.a, .int .i64 d.b, .int .i64 d.c, u, .int .i64 d'.o, .int .i64 d'.a, .int .i64 d'.b, .int .i64 d'.c, u'] 2 (base := lo) (e := 223) (size := 5) hlo (by unfold maxLen; omega) rfl
  · match i, hi with
    | 0, _ => exact ⟨⟨rfl, rfl, rfl, rfl, rfl⟩, hu.alloc _⟩
    | 1, _ => exact ⟨⟨rfl, rfl, rfl, rfl, rfl⟩, hu'.alloc _⟩
  · simp at hi hj
    by_cases h0 : i = 0
    · have hj1 : ¬ j = 0 := by omega
      simp only [h0, hj1, if_true, if_false] at he ⊢
      exact hne he
    · have hj0 : j = 0 := by omega
      simp only [h0, hj0, if_true, if_false] at he ⊢
      rw [he]
      exact hne he.symm
end Go.Proofs.YtlnofdlhjeomfaaGreatDoor

/-! What a version of which a part is told makes of itself: what comes next, where a caret stops: contracts for the walks; conditions: its numbers lie between 0 and 9999. -/
namespace Go.Proofs.YtlnofdlhjeomfaaGreatDoor
open Go.RowKit
set_option linter.unusedSimpArgs false
set_option linter.unusedVariables false

/-- What follows all that begins with the first k numbers. -/
def nextA (k : Int) (a : Int) : Int := if k = 1 then a + 1 else a
def nextB (k : Int) (b : Int) : Int := if k = 1 then 0 else if k = 2 then b + 1 else b
def nextC (k : Int) (c : Int) : Int := if k = 1 then 0 else if k = 2 then 0 else c + 1
def caretK (a b t : Int) : Int := if a ≠ 0 ∨ t = 1 then 1 else if b ≠ 0 ∨ t = 2 then 2 else 3
def numsOk (a b c : Int) : Prop := (0 ≤ a ∧ a ≤ 9999) ∧ (0 ≤ b ∧ b ≤ 9999) ∧ 0 ≤ c ∧ c ≤ 9999

theorem box_two {w : World} (o o' : Obj) : Below w.heap.size w ((w.alloc o).alloc o') := ((Below.refl _ _).alloc (Nat.le_refl _) _).alloc (by simp) _

set_option maxHeartbeats 1000000 in
set_option maxRecDepth 100000 in
theorem next_c (a b c : Int) (u : Value) (t k : Int) (w : World) (hn : numsOk a b c) (hu : ∃ q n cap, u = .slice q n cap) :
    Calls Tryz.prog 245 #[.agg #[.int .i64 a, .int .i64 b, .int .i64 c, u, .int .i64 t], .int .i64 k] w fun e w' => e = .returned (.agg #[.int .i64 (nextA k a), .int .i64 (nextB k b), .int .i64 (nextC k c), .slice none 0 0]) ∧ Below w.heap.size w w' := by
  obtain ⟨⟨ha0, ha1⟩, ⟨hb0, hb1⟩, hc0, hc1⟩ := hn
  obtain ⟨q, n, cap, rfl⟩ := hu
  by_cases h1 : k = 1
  · subst h1
    go_enter Tryz.func245, Tryz.ntmps245
    go_wp2
    exact bodyPost_ret (v := .agg #[.int .i64 (a + 1), .int .i64 0, .int .i64 0, .slice none 0 0]) (by simp [results, Tryz.results245, go_sem]) rfl ⟨by simp [nextA, nextB, nextC], box_two _ _⟩
  by_cases h2 : k = 2
  · subst h2
    go_enter Tryz.func245, Tryz.ntmps245
    go_wp2
    exact bodyPost_ret (v := .agg #[.int .i64 a, .int .i64 (b + 1), .int .i64 0, .slice none 0 0]) (by simp [results, Tryz.results245, go_sem]) rfl ⟨by simp [nextA, nextB, nextC], box_two _ _⟩
  have k1 : (k == 1) = false := by simpa using h1
  have k2 : (k == 2) = false := by simpa using h2
  go_enter Tryz.func245, Tryz.ntmps245
  go_wp2
  exact bodyPost_ret (v := .agg #[.int .i64 a, .int .i64 b, .int .i64 (c + 1), .slice none 0 0]) (by simp [results, Tryz.results245, go_sem]) rfl ⟨by simp [nextA, nextB, nextC, h1, h2], box_two _ _⟩

set_option maxHeartbeats 1000000 in
set_option maxRecDepth 100000 in
theorem caretTold_c (a b c : Int) (u : Value) (t : Int) (w : World) (hu : ∃ q n cap, u = .slice q n cap) :
    Calls Tryz.prog 244 #[.agg #[.int .i64 a, .int .i64 b, .int .i64 c, u, .int .i64 t]] w fun e w' => e = .returned (.int .i64 (caretK a b t)) ∧ Below w.heap.size w w' := by
  have hbx : ∀ o, Below w.heap.size w (w.alloc o) := fun o => (Below.refl _ _).alloc (Nat.le_refl _) _
  obtain ⟨q, n, cap, rfl⟩ := hu
  by_cases ha : a = 0
  · have ka : (a != 0) = false := by simp [ha]
    by_cases h1 : t = 1
    · have e : caretK a b t = 1 := by simp [caretK, h1]
      rw [e]
      have k1 : (t == 1) = true := by simp [h1]
      clear e h1 ha
      go_enter Tryz.func244, Tryz.ntmps244
      go_wp2
      go_ret
      exact ⟨rfl, hbx _⟩
    have k1 : (t == 1) = false := by simpa using h1
    by_cases hb : b = 0
    · have kb : (b != 0) = false := by simp [hb]
      by_cases h2 : t = 2
      · have e : caretK a b t = 2 := by simp [caretK, ha, h1, h2]
        rw [e]
        have k2 : (t == 2) = true := by simp [h2]
        clear e h1 h2 ha hb
        go_enter Tryz.func244, Tryz.ntmps244
        go_wp2
        go_ret
        exact ⟨rfl, hbx _⟩
      have e : caretK a b t = 3 := by simp [caretK, ha, h1, hb, h2]
      rw [e]
      have k2 : (t == 2) = false := by simpa using h2
      clear e h1 h2 ha hb
      go_enter Tryz.func244, Tryz.ntmps244
      go_wp2
      go_ret
      exact ⟨rfl, hbx _⟩
    have e : caretK a b t = 2 := by simp [caretK, ha, h1, hb]
    rw [e]
    have kb : (b != 0) = true := by simpa using hb
    clear e h1 ha hb
    go_enter Tryz.func244, Tryz.ntmps244
    go_wp2
    go_ret
    exact ⟨rfl, hbx _⟩
  have e : caretK a b t = 1 := by simp [caretK, ha]
  rw [e]
  have ka : (a != 0) = true := by simpa using ha
  clear e ha
  go_enter Tryz.func244, Tryz.ntmps244
  go_wp2
  go_ret
  exact ⟨rfl, hbx _⟩

theorem owns_lit1 (w : World) (s : ByteArray) (base : Nat) (hb : base ≤ w.heap.size) : (w.alloc (.cells #[.string s] 9)).ownsRow base 9 1 (.slice (some ⟨w.heap.size, 0, none⟩) 1 1) 1 (strsV [s]) :=
  World.ownsRow_lit w #[.string s] 1 (base := base) (e := 9) (size := 1) hb (by unfold maxLen; omega) rfl

def zeroT : ByteArray := ⟨#[48]⟩

set_option maxHeartbeats 1000000 in
set_option maxRecDepth 100000 in
theorem lessThanNext_c (a b c : Int) (u : Value) (t k : Int) (w : World) (hn : numsOk a b c) (hu : ∃ q n cap, u = .slice q n cap) :
    Calls Tryz.prog 243 #[.agg #[.int .i64 a, .int .i64 b, .int .i64 c, u, .int .i64 t], .int .i64 k] w fun e w' => ∃ g, e = .returned (.agg #[.int .i64 1, .int .i64 (nextA k a), .int .i64 (nextB k b), .int .i64 (nextC k c), .slice (some ⟨g, 0, none⟩) 1 1]) ∧ w'.ownsRow w.heap.size 9 1 (.slice (some ⟨g, 0, none⟩) 1 1) 1 (strsV [zeroT]) ∧ Below w.heap.size w w' := by
  have HX : Hid (∀ w1, Calls Tryz.prog 245 #[.agg #[.int .i64 a, .int .i64 b, .int .i64 c, u, .int .i64 t], .int .i64 k] w1 fun e w' => e = .returned (.agg #[.int .i64 (nextA k a), .int .i64 (nextB k b), .int .i64 (nextC k c), .slice none 0 0]) ∧ Below w1.heap.size w1 w') := fun w1 => next_c a b c u t k w1 hn hu
  obtain ⟨q, n, cap, rfl⟩ := hu
  have B0 := box_two (w := w) (.cells #[.int .i64 a, .int .i64 b, .int .i64 c, .slice q n cap, .int .i64 t] 254) (.cells #[.int .i64 0, .int .i64 0, .int .i64 0, .int .i64 0, .slice none 0 0] 223)
  have R0 : Five ((w.alloc (.cells #[.int .i64 a, .int .i64 b, .int .i64 c, .slice q n cap, .int .i64 t] 254)).alloc (.cells #[.int .i64 0, .int .i64 0, .int .i64 0, .int .i64 0, .slice none 0 0] 223)) (w.heap.size + 1) 223 (.int .i64 0) (.int .i64 0) (.int .i64 0) (.int .i64 0) (.slice none 0 0) := by
    have h := five_new (w.alloc (.cells #[.int .i64 a, .int .i64 b, .int .i64 c, .slice q n cap, .int .i64 t] 254)) 223 (.int .i64 0) (.int .i64 0) (.int .i64 0) (.int .i64 0) (.slice none 0 0)
    have s1 : ∀ o, (w.alloc o).heap.size = w.heap.size + 1 := fun o => by simp
    rw [s1] at h
    exact h
  obtain ⟨x, hx⟩ : ∃ x, x = nextA k a := ⟨_, rfl⟩
  obtain ⟨y, hy⟩ : ∃ x, x = nextB k b := ⟨_, rfl⟩
  obtain ⟨z, hz⟩ : ∃ x, x = nextC k c := ⟨_, rfl⟩
  rw [← hx, ← hy, ← hz] at HX
  rw [← hx, ← hy, ← hz]
  clear hx hy hz hn
  go_enter Tryz.func243, Tryz.ntmps243
  go_wp2_with fail
  go_at_call 245
  refine (HX.out _).mono ?_
  rintro e w1 ⟨rfl, b1⟩
  have R1 := R0.keep b1
  have k1 := B0.trans (b1.mono B0.size)
  have l1 := R1.lt
  have tA : ∀ o o', Below w1.heap.size w1 ((w1.alloc o).alloc o') := fun o o' => box_two _ _
  have R2 := R1.keep (tA (.cells #[.int .i64 x, .int .i64 y, .int .i64 z, .slice (some ⟨w1.heap.size + 1, 0, none⟩) 1 1] 219) (.cells #[.string ⟨#[48]⟩] 9))
  have k2 := k1.trans ((tA (.cells #[.int .i64 x, .int .i64 y, .int .i64 z, .slice (some ⟨w1.heap.size + 1, 0, none⟩) 1 1] 219) (.cells #[.string ⟨#[48]⟩] 9)).mono k1.size)
  have O2 := owns_lit1 (w1.alloc (.cells #[.int .i64 x, .int .i64 y, .int .i64 z, .slice (some ⟨w1.heap.size + 1, 0, none⟩) 1 1] 219)) ⟨#[48]⟩ (w.heap.size + 1 + 1) (by simp; omega)
  have s1 : ∀ o, (w1.alloc o).heap.size = w1.heap.size + 1 := fun o => by simp
  rw [s1] at O2
  obtain ⟨p0, p1, p2, p3, p4⟩ := R2.cells
  have fr := vblk_frozen R2
  clear R0 R1 b1 B0 HX
  go_wp2_with fail
  refine bodyPost_ret (v := .agg #[.int .i64 1, .int .i64 x, .int .i64 y, .int .i64 z, .slice (some ⟨w1.heap.size + 1, 0, none⟩) 1 1]) (by simp [results, Tryz.results243, go_sem, p0, p1, p2, p3, p4]) rfl ⟨_, rfl, ?_, ?_⟩
  · refine owns_base (base := w.heap.size + 1 + 1) ?_ (by omega)
    repeat (refine owns_set ?_ (by simp) _)
    exact O2
  · repeat (refine Below.setCell ?_ (by simp <;> omega) _)
    exact k2
end Go.Proofs.YtlnofdlhjeomfaaGreatDoor

/-! The Cmps that a sign and a version, or a part of one, make, the program's: a contract for the walks; conditions: its numbers lie between 0 and 9999, its texts are a row of the call's own. -/
namespace Go.Proofs.YtlnofdlhjeomfaaGreatDoor
open Go.RowKit
set_option linter.unusedSimpArgs false
set_option linter.unusedVariables false

/-- The Cmps that a sign makes of a version of which t numbers are told. -/
def makeC (sign a b c : Int) (ps : List ByteArray) (t : Int) : List CmpD :=
  let below : Int → CmpD := fun k => ⟨1, nextA k a, nextB k b, nextC k c, [zeroT]⟩
  if sign = 5 then [⟨4, a, b, c, ps⟩, below (min t 2)]
  else if sign = 6 then [⟨4, a, b, c, ps⟩, below (caretK a b t)]
  else if t = 3 ∨ sign = 1 ∨ sign = 4 then [⟨sign, a, b, c, ps⟩]
  else if sign = 3 then [⟨4, nextA t a, nextB t b, nextC t c, []⟩]
  else if sign = 2 then [below t]
  else [⟨4, a, b, c, ps⟩, below t]

theorem owns_nil (w : World) (base : Nat) : w.ownsRow base 9 1 (.slice none 0 0) 0 (strsV []) := ⟨rfl, .inl ⟨rfl, rfl⟩⟩

set_option maxHeartbeats 8000000 in
set_option maxRecDepth 100000 in
theorem cmps_c (lo : Nat) (sign a b c : Int) (u : Value) (ps : List ByteArray) (t : Int) (w : World) (hlo : lo ≤ w.heap.size) (hnum : numsOk a b c) (ht : t = 1 ∨ t = 2 ∨ t = 3) (hu : w.ownsRow lo 9 1 u ps.length (strsV ps)) :
    Calls Tryz.prog 220 #[.agg #[.int .i64 a, .int .i64 b, .int .i64 c, u, .int .i64 t], .int .i64 sign] w fun e w' => ∃ v, e = .returned v ∧ CmpsOwn lo w' v (makeC sign a b c ps t) ∧ Below w.heap.size w w' := by
  obtain ⟨q, n, cap, hq⟩ : ∃ q n cap, u = .slice q n cap := by rcases hu.2 with ⟨rfl, _⟩ | ⟨g, cap, cur, rfl, _⟩ <;> exact ⟨_, _, _, rfl⟩
  subst hq
  have HL : Hid (∀ k w1, Calls Tryz.prog 243 #[.agg #[.int .i64 a, .int .i64 b, .int .i64 c, .slice q n cap, .int .i64 t], .int .i64 k] w1 fun e w' => ∃ g, e = .returned (.agg #[.int .i64 1, .int .i64 (nextA k a), .int .i64 (nextB k b), .int .i64 (nextC k c), .slice (some ⟨g, 0, none⟩) 1 1]) ∧ w'.ownsRow w1.heap.size 9 1 (.slice (some ⟨g, 0, none⟩) 1 1) 1 (strsV [zeroT]) ∧ Below w1.heap.size w1 w') := fun k w1 => lessThanNext_c a b c _ t k w1 hnum ⟨_, _, _, rfl⟩
  have HX : Hid (∀ k w1, Calls Tryz.prog 245 #[.agg #[.int .i64 a, .int .i64 b, .int .i64 c, .slice q n cap, .int .i64 t], .int .i64 k] w1 fun e w' => e = .returned (.agg #[.int .i64 (nextA k a), .int .i64 (nextB k b), .int .i64 (nextC k c), .slice none 0 0]) ∧ Below w1.heap.size w1 w') := fun k w1 => next_c a b c _ t k w1 hnum ⟨_, _, _, rfl⟩
  have HK : Hid (∀ w1, Calls Tryz.prog 244 #[.agg #[.int .i64 a, .int .i64 b, .int .i64 c, .slice q n cap, .int .i64 t]] w1 fun e w' => e = .returned (.int .i64 (caretK a b t)) ∧ Below w1.heap.size w1 w') := fun w1 => caretTold_c a b c _ t w1 ⟨_, _, _, rfl⟩
  have hap : ∀ g (w1 : World) base, w.heap.size ≤ base → w1.ownsRow base 9 1 (.slice (some ⟨g, 0, none⟩) 1 1) 1 (strsV [zeroT]) → Value.ownBlock (.slice q n cap) = Value.ownBlock (.slice (some ⟨g, 0, none⟩) 1 1) → Value.ownBlock (.slice q n cap) = none := fun g w1 base hb og he => by
    cases hk : Value.ownBlock (.slice q n cap) with
    | none => rfl
    | some k =>
      have h1 := (hu.lt k hk).2
      rw [he] at hk
      have h2 := (og.lt k hk).1
      omega
  have hWF : Below w.heap.size w ((w.alloc (.cells #[.int .i64 a, .int .i64 b, .int .i64 c, .slice q n cap, .int .i64 t] 254)).alloc (.cells #[.int .i64 4, .int .i64 a, .int .i64 b, .int .i64 c, .slice q n cap] 223)) := box_two _ _
  obtain ⟨P0, F0⟩ : Five ((w.alloc (.cells #[.int .i64 a, .int .i64 b, .int .i64 c, .slice q n cap, .int .i64 t] 254)).alloc (.cells #[.int .i64 4, .int .i64 a, .int .i64 b, .int .i64 c, .slice q n cap] 223)) w.heap.size 254 (.int .i64 a) (.int .i64 b) (.int .i64 c) (.slice q n cap) (.int .i64 t) ∧ Five ((w.alloc (.cells #[.int .i64 a, .int .i64 b, .int .i64 c, .slice q n cap, .int .i64 t] 254)).alloc (.cells #[.int .i64 4, .int .i64 a, .int .i64 b, .int .i64 c, .slice q n cap] 223)) (w.heap.size + 1) 223 (.int .i64 4) (.int .i64 a) (.int .i64 b) (.int .i64 c) (.slice q n cap) := by
    refine ⟨(five_new _ _ _ _ _ _ _).keep ((Below.refl _ _).alloc (Nat.le_refl _) _), ?_⟩
    have h := five_new (w.alloc (.cells #[.int .i64 a, .int .i64 b, .int .i64 c, .slice q n cap, .int .i64 t] 254)) 223 (.int .i64 4) (.int .i64 a) (.int .i64 b) (.int .i64 c) (.slice q n cap)
    have s1 : ∀ o, (w.alloc o).heap.size = w.heap.size + 1 := fun o => by simp
    rw [s1] at h
    exact h
  have hn2 : ∀ w1, Below ((w.alloc (.cells #[.int .i64 a, .int .i64 b, .int .i64 c, .slice q n cap, .int .i64 t] 254)).alloc (.cells #[.int .i64 4, .int .i64 a, .int .i64 b, .int .i64 c, .slice q n cap] 223)).heap.size ((w.alloc (.cells #[.int .i64 a, .int .i64 b, .int .i64 c, .slice q n cap, .int .i64 t] 254)).alloc (.cells #[.int .i64 4, .int .i64 a, .int .i64 b, .int .i64 c, .slice q n cap] 223)) w1 → Below w.heap.size w w1 := fun w1 h => hWF.trans (h.mono hWF.size)
  have KEEP : Hid (∀ w1, Below ((w.alloc (.cells #[.int .i64 a, .int .i64 b, .int .i64 c, .slice q n cap, .int .i64 t] 254)).alloc (.cells #[.int .i64 4, .int .i64 a, .int .i64 b, .int .i64 c, .slice q n cap] 223)).heap.size ((w.alloc (.cells #[.int .i64 a, .int .i64 b, .int .i64 c, .slice q n cap, .int .i64 t] 254)).alloc (.cells #[.int .i64 4, .int .i64 a, .int .i64 b, .int .i64 c, .slice q n cap] 223)) w1 → w1.cell? ⟨w.heap.size, 0, none⟩ = some (.int .i64 a) ∧ w1.cell? ⟨w.heap.size, 1, none⟩ = some (.int .i64 b) ∧ w1.cell? ⟨w.heap.size, 2, none⟩ = some (.int .i64 c) ∧ w1.cell? ⟨w.heap.size, 3, none⟩ = some (.slice q n cap) ∧ w1.cell? ⟨w.heap.size, 4, none⟩ = some (.int .i64 t) ∧ w1.cell? ⟨w.heap.size + 1, 0, none⟩ = some (.int .i64 4) ∧ w1.cell? ⟨w.heap.size + 1, 1, none⟩ = some (.int .i64 a) ∧ w1.cell? ⟨w.heap.size + 1, 2, none⟩ = some (.int .i64 b) ∧ w1.cell? ⟨w.heap.size + 1, 3, none⟩ = some (.int .i64 c) ∧ w1.cell? ⟨w.heap.size + 1, 4, none⟩ = some (.slice q n cap)) := fun w1 h => ⟨(P0.keep h).cells.1, (P0.keep h).cells.2.1, (P0.keep h).cells.2.2.1, (P0.keep h).cells.2.2.2.1, (P0.keep h).cells.2.2.2.2, (F0.keep h).cells⟩
  rcases ht with rfl | rfl | rfl
  · go_enter Tryz.func220, Tryz.ntmps220
    by_cases h5 : sign = 5
    · subst h5
      have em : makeC 5 a b c ps 1 = [⟨4, a, b, c, ps⟩, ⟨1, nextA 1 a, nextB 1 b, nextC 1 c, [zeroT]⟩] := by rfl
      rw [em]
      clear em
      go_wp2_with fail
      generalize ((w.alloc (.cells #[.int .i64 a, .int .i64 b, .int .i64 c, .slice q n cap, .int .i64 1] 254)).alloc (.cells #[.int .i64 4, .int .i64 a, .int .i64 b, .int .i64 c, .slice q n cap] 223)) = WF at hWF P0 F0 hn2 KEEP ⊢
      have hd0 : Below WF.heap.size WF WF.drew := (Below.refl _ _).drew
      refine wp_region_held_drew (S := (fun w' => w'.cell? ⟨w.heap.size, 0, none⟩ = some (.int .i64 a) ∧ w'.cell? ⟨w.heap.size, 1, none⟩ = some (.int .i64 b) ∧ w'.cell? ⟨w.heap.size, 2, none⟩ = some (.int .i64 c) ∧ w'.cell? ⟨w.heap.size, 3, none⟩ = some (.slice q n cap) ∧ w'.cell? ⟨w.heap.size, 4, none⟩ = some (.int .i64 1) ∧ w'.cell? ⟨w.heap.size + 1, 0, none⟩ = some (.int .i64 4) ∧ w'.cell? ⟨w.heap.size + 1, 1, none⟩ = some (.int .i64 a) ∧ w'.cell? ⟨w.heap.size + 1, 2, none⟩ = some (.int .i64 b) ∧ w'.cell? ⟨w.heap.size + 1, 3, none⟩ = some (.int .i64 c) ∧ w'.cell? ⟨w.heap.size + 1, 4, none⟩ = some (.slice q n cap))) (by kernel_rfl) ?SR10 (fun hHeld => ?_)
      case SR10 => (first | (with_reducible exact KEEP.out _ hd0) | (with_reducible exact KEEP.out _ hd1) | (with_reducible exact KEEP.out _ hd2) | (with_reducible exact KEEP.out _ hd3))
      refine wpAnyH_take (i := 0) (oi := _) (v := ?vR10) rfl (by kernel_rfl) (by kernel_rfl) (by kernel_rfl) (fun _ _ _ h => h) (Or.inl ⟨by rfl, ?yR10⟩) hHeld ?_
      case yR10 => (intro w hSw; (try dsimp only at hSw); go_simp <;> with_reducible rfl)
      try simp only [Act.put, List.getElem_toArray, List.getElem_cons_zero, List.getElem_cons_succ, List.setIfInBounds_toArray, List.set_cons_zero, List.set_cons_succ]
      refine wpAnyH_take (i := 1) (oi := _) (v := ?vR11) rfl (by kernel_rfl) (by kernel_rfl) (by kernel_rfl) (fun _ _ _ h => h) (Or.inl ⟨by rfl, ?yR11⟩) hHeld ?_
      case yR11 => (intro w hSw; (try dsimp only at hSw); go_simp <;> with_reducible rfl)
      try simp only [Act.put, List.getElem_toArray, List.getElem_cons_zero, List.getElem_cons_succ, List.setIfInBounds_toArray, List.set_cons_zero, List.set_cons_succ]
      refine wpAnyH_take (i := 2) (oi := _) (v := ?vR12) rfl (by kernel_rfl) (by kernel_rfl) (by kernel_rfl) (fun _ _ _ h => h) (Or.inl ⟨by rfl, ?yR12⟩) hHeld ?_
      case yR12 => (intro w hSw; (try dsimp only at hSw); go_simp <;> with_reducible rfl)
      try simp only [Act.put, List.getElem_toArray, List.getElem_cons_zero, List.getElem_cons_succ, List.setIfInBounds_toArray, List.set_cons_zero, List.set_cons_succ]
      refine wpAnyH_take (i := 3) (oi := _) (v := ?vR13) rfl (by kernel_rfl) (by kernel_rfl) (by kernel_rfl) (fun _ _ _ h => h) (Or.inl ⟨by rfl, ?yR13⟩) hHeld ?_
      case yR13 => (intro w hSw; (try dsimp only at hSw); go_simp <;> with_reducible rfl)
      try simp only [Act.put, List.getElem_toArray, List.getElem_cons_zero, List.getElem_cons_succ, List.setIfInBounds_toArray, List.set_cons_zero, List.set_cons_succ]
      refine wpAnyH_take (i := 4) (oi := _) (v := ?vR14) rfl (by kernel_rfl) (by kernel_rfl) (by kernel_rfl) (fun _ _ _ h => h) (Or.inl ⟨by rfl, ?yR14⟩) hHeld ?_
      case yR14 => (intro w hSw; (try dsimp only at hSw); go_simp <;> with_reducible rfl)
      try simp only [Act.put, List.getElem_toArray, List.getElem_cons_zero, List.getElem_cons_succ, List.setIfInBounds_toArray, List.set_cons_zero, List.set_cons_succ]
      refine wpAnyH_ready (rs := [5]) (by kernel_rfl) (by simp) ?_
      refine AllReadyH.cons rfl (fun K hK => ?_) AllReadyH.nil
      go_simp
      go_wp2_with (go_at_call 243; refine (HL.out 1 _).mono ?_; rintro e w1 ⟨g, rfl, og, b1⟩; have hd1 : Below WF.heap.size WF w1 := hd0.trans (b1.mono hd0.size); have ol : w.heap.size ≤ WF.drew.heap.size := hWF.size)
      clear hHeld
      refine hK.out _ _ ?SR16 (fun hHeld => ?_)
      case SR16 => ((try dsimp only); first | (with_reducible exact KEEP.out _ hd0) | (with_reducible exact KEEP.out _ hd1) | (with_reducible exact KEEP.out _ hd2) | (with_reducible exact KEEP.out _ hd3))
      clear hK K
      refine wpAnyH_ready (rs := [6]) (by kernel_rfl) (by simp) ?_
      refine AllReadyH.cons rfl (fun K hK => ?_) AllReadyH.nil
      go_simp
      clear hHeld
      refine hK.out _ _ ?SR17 (fun hHeld => ?_)
      case SR17 => ((try dsimp only); exact KEEP.out _ (hd1.alloc hd1.size _))
      clear hK K
      refine wpAnyH_take (i := 7) (oi := _) (v := ?vR17) rfl (by kernel_rfl) (by kernel_rfl) (by kernel_rfl) (fun _ _ _ h => h) (Or.inl ⟨by rfl, ?yR17⟩) hHeld ?_
      case yR17 => (intro w hSw; (try dsimp only at hSw); go_simp <;> with_reducible rfl)
      try simp only [Act.put, List.getElem_toArray, List.getElem_cons_zero, List.getElem_cons_succ, List.setIfInBounds_toArray, List.set_cons_zero, List.set_cons_succ]
      refine wpAnyH_done (by kernel_rfl) ?_ _
      have OL : w.heap.size ≤ WF.drew.heap.size := hWF.size
      go_wp2_with fail
      go_ret
      have hx := hn2 _ hd1
      refine ⟨_, rfl, two_own ⟨4, a, b, c, ps⟩ ⟨1, nextA 1 a, nextB 1 b, nextC 1 c, [zeroT]⟩ (by simp) (Nat.le_trans hlo hx.size) (owns_of_below hu hx) (owns_base og (Nat.le_trans hlo OL)) (hap g _ _ OL og), hx.alloc hx.size _⟩
    by_cases h6 : sign = 6
    · subst h6
      have em : makeC 6 a b c ps 1 = [⟨4, a, b, c, ps⟩, ⟨1, nextA (caretK a b 1) a, nextB (caretK a b 1) b, nextC (caretK a b 1) c, [zeroT]⟩] := by rfl
      rw [em]
      clear em
      go_wp2_with fail
      generalize ((w.alloc (.cells #[.int .i64 a, .int .i64 b, .int .i64 c, .slice q n cap, .int .i64 1] 254)).alloc (.cells #[.int .i64 4, .int .i64 a, .int .i64 b, .int .i64 c, .slice q n cap] 223)) = WF at hWF P0 F0 hn2 KEEP ⊢
      have hd0 : Below WF.heap.size WF WF.drew := (Below.refl _ _).drew
      refine wp_region_held_drew (S := (fun w' => w'.cell? ⟨w.heap.size, 0, none⟩ = some (.int .i64 a) ∧ w'.cell? ⟨w.heap.size, 1, none⟩ = some (.int .i64 b) ∧ w'.cell? ⟨w.heap.size, 2, none⟩ = some (.int .i64 c) ∧ w'.cell? ⟨w.heap.size, 3, none⟩ = some (.slice q n cap) ∧ w'.cell? ⟨w.heap.size, 4, none⟩ = some (.int .i64 1) ∧ w'.cell? ⟨w.heap.size + 1, 0, none⟩ = some (.int .i64 4) ∧ w'.cell? ⟨w.heap.size + 1, 1, none⟩ = some (.int .i64 a) ∧ w'.cell? ⟨w.heap.size + 1, 2, none⟩ = some (.int .i64 b) ∧ w'.cell? ⟨w.heap.size + 1, 3, none⟩ = some (.int .i64 c) ∧ w'.cell? ⟨w.heap.size + 1, 4, none⟩ = some (.slice q n cap))) (by kernel_rfl) ?SR20 (fun hHeld => ?_)
      case SR20 => (first | (with_reducible exact KEEP.out _ hd0) | (with_reducible exact KEEP.out _ hd1) | (with_reducible exact KEEP.out _ hd2) | (with_reducible exact KEEP.out _ hd3))
      refine wpAnyH_take (i := 0) (oi := _) (v := ?vR20) rfl (by kernel_rfl) (by kernel_rfl) (by kernel_rfl) (fun _ _ _ h => h) (Or.inl ⟨by rfl, ?yR20⟩) hHeld ?_
      case yR20 => (intro w hSw; (try dsimp only at hSw); go_simp <;> with_reducible rfl)
      try simp only [Act.put, List.getElem_toArray, List.getElem_cons_zero, List.getElem_cons_succ, List.setIfInBounds_toArray, List.set_cons_zero, List.set_cons_succ]
      refine wpAnyH_take (i := 1) (oi := _) (v := ?vR21) rfl (by kernel_rfl) (by kernel_rfl) (by kernel_rfl) (fun _ _ _ h => h) (Or.inl ⟨by rfl, ?yR21⟩) hHeld ?_
      case yR21 => (intro w hSw; (try dsimp only at hSw); go_simp <;> with_reducible rfl)
      try simp only [Act.put, List.getElem_toArray, List.getElem_cons_zero, List.getElem_cons_succ, List.setIfInBounds_toArray, List.set_cons_zero, List.set_cons_succ]
      refine wpAnyH_take (i := 2) (oi := _) (v := ?vR22) rfl (by kernel_rfl) (by kernel_rfl) (by kernel_rfl) (fun _ _ _ h => h) (Or.inl ⟨by rfl, ?yR22⟩) hHeld ?_
      case yR22 => (intro w hSw; (try dsimp only at hSw); go_simp <;> with_reducible rfl)
      try simp only [Act.put, List.getElem_toArray, List.getElem_cons_zero, List.getElem_cons_succ, List.setIfInBounds_toArray, List.set_cons_zero, List.set_cons_succ]
      refine wpAnyH_ready (rs := [3]) (by kernel_rfl) (by simp) ?_
      refine AllReadyH.cons rfl (fun K hK => ?_) AllReadyH.nil
      go_simp
      go_wp2_with (go_at_call 244; refine (HK.out _).mono ?_; rintro e w1 ⟨rfl, b1⟩; have hd1 : Below WF.heap.size WF w1 := hd0.trans (b1.mono hd0.size))
      clear hHeld
      refine hK.out _ _ ?SR24 (fun hHeld => ?_)
      case SR24 => ((try dsimp only); first | (with_reducible exact KEEP.out _ hd0) | (with_reducible exact KEEP.out _ hd1) | (with_reducible exact KEEP.out _ hd2) | (with_reducible exact KEEP.out _ hd3))
      clear hK K
      refine wpAnyH_ready (rs := [4]) (by kernel_rfl) (by simp) ?_
      refine AllReadyH.cons rfl (fun K hK => ?_) AllReadyH.nil
      go_simp
      go_wp2_with (go_at_call 243; refine (HL.out (caretK a b 1) _).mono ?_; rintro e w2 ⟨g, rfl, og, b2⟩; have hd2 : Below WF.heap.size WF w2 := hd1.trans (b2.mono hd1.size))
      clear hHeld
      refine hK.out _ _ ?SR25 (fun hHeld => ?_)
      case SR25 => ((try dsimp only); first | (with_reducible exact KEEP.out _ hd0) | (with_reducible exact KEEP.out _ hd1) | (with_reducible exact KEEP.out _ hd2) | (with_reducible exact KEEP.out _ hd3))
      clear hK K
      refine wpAnyH_ready (rs := [5]) (by kernel_rfl) (by simp) ?_
      refine AllReadyH.cons rfl (fun K hK => ?_) AllReadyH.nil
      go_simp
      clear hHeld
      refine hK.out _ _ ?SR26 (fun hHeld => ?_)
      case SR26 => ((try dsimp only); exact KEEP.out _ (hd2.alloc hd2.size _))
      clear hK K
      refine wpAnyH_take (i := 6) (oi := _) (v := ?vR26) rfl (by kernel_rfl) (by kernel_rfl) (by kernel_rfl) (fun _ _ _ h => h) (Or.inl ⟨by rfl, ?yR26⟩) hHeld ?_
      case yR26 => (intro w hSw; (try dsimp only at hSw); go_simp <;> with_reducible rfl)
      try simp only [Act.put, List.getElem_toArray, List.getElem_cons_zero, List.getElem_cons_succ, List.setIfInBounds_toArray, List.set_cons_zero, List.set_cons_succ]
      refine wpAnyH_done (by kernel_rfl) ?_ _
      have OL : w.heap.size ≤ w1.heap.size := Nat.le_trans hWF.size hd1.size
      go_wp2_with fail
      go_ret
      have hx := hn2 _ hd2
      refine ⟨_, rfl, two_own ⟨4, a, b, c, ps⟩ ⟨1, nextA (caretK a b 1) a, nextB (caretK a b 1) b, nextC (caretK a b 1) c, [zeroT]⟩ (by simp) (Nat.le_trans hlo hx.size) (owns_of_below hu hx) (owns_base og (Nat.le_trans hlo OL)) (hap g _ _ OL og), hx.alloc hx.size _⟩
    by_cases h1 : sign = 1
    · subst h1
      have em : makeC 1 a b c ps 1 = [⟨1, a, b, c, ps⟩] := by rfl
      rw [em]
      clear em
      go_wp2_with fail
      go_ret
      exact ⟨_, rfl, one_own ⟨1, a, b, c, ps⟩ (by simp) (Nat.le_trans hlo hWF.size) (owns_of_below hu hWF), hWF.alloc hWF.size _⟩
    by_cases h4 : sign = 4
    · subst h4
      have em : makeC 4 a b c ps 1 = [⟨4, a, b, c, ps⟩] := by rfl
      rw [em]
      clear em
      go_wp2_with fail
      go_ret
      exact ⟨_, rfl, one_own ⟨4, a, b, c, ps⟩ (by simp) (Nat.le_trans hlo hWF.size) (owns_of_below hu hWF), hWF.alloc hWF.size _⟩
    by_cases h3 : sign = 3
    · subst h3
      have em : makeC 3 a b c ps 1 = [⟨4, nextA 1 a, nextB 1 b, nextC 1 c, []⟩] := by rfl
      rw [em]
      clear em
      go_wp2_with (go_at_call 245; refine (HX.out 1 _).mono ?_; rintro e w1 ⟨rfl, b1⟩; have hx := hn2 _ b1)
      go_ret
      exact ⟨_, rfl, one_own ⟨4, nextA 1 a, nextB 1 b, nextC 1 c, []⟩ (by simp) (Nat.le_trans hlo hx.size) (owns_nil _ _), hx.alloc hx.size _⟩
    by_cases h2 : sign = 2
    · subst h2
      have em : makeC 2 a b c ps 1 = [⟨1, nextA 1 a, nextB 1 b, nextC 1 c, [zeroT]⟩] := by rfl
      rw [em]
      clear em
      go_wp2_with (go_at_call 243; refine (HL.out 1 _).mono ?_; rintro e w1 ⟨g, rfl, og, b1⟩; have hx := hn2 _ b1)
      go_ret
      exact ⟨_, rfl, one_own ⟨1, nextA 1 a, nextB 1 b, nextC 1 c, [zeroT]⟩ (by simp) (Nat.le_trans hlo hx.size) (owns_base og (Nat.le_trans hlo hWF.size)), hx.alloc hx.size _⟩
    have k5 : (sign == 5) = false := by simpa using h5
    have k6 : (sign == 6) = false := by simpa using h6
    have k1 : (sign == 1) = false := by simpa using h1
    have k4 : (sign == 4) = false := by simpa using h4
    have k3 : (sign == 3) = false := by simpa using h3
    have k2 : (sign == 2) = false := by simpa using h2
    have em : makeC sign a b c ps 1 = [⟨4, a, b, c, ps⟩, ⟨1, nextA 1 a, nextB 1 b, nextC 1 c, [zeroT]⟩] := by simp [makeC, h5, h6, h1, h4, h3, h2]
    rw [em]
    clear em
    clear h5 h6 h1 h4 h3 h2
    go_wp2_with fail
    generalize ((w.alloc (.cells #[.int .i64 a, .int .i64 b, .int .i64 c, .slice q n cap, .int .i64 1] 254)).alloc (.cells #[.int .i64 4, .int .i64 a, .int .i64 b, .int .i64 c, .slice q n cap] 223)) = WF at hWF P0 F0 hn2 KEEP ⊢
    have hd0 : Below WF.heap.size WF WF.drew := (Below.refl _ _).drew
    refine wp_region_held_drew (S := (fun w' => w'.cell? ⟨w.heap.size, 0, none⟩ = some (.int .i64 a) ∧ w'.cell? ⟨w.heap.size, 1, none⟩ = some (.int .i64 b) ∧ w'.cell? ⟨w.heap.size, 2, none⟩ = some (.int .i64 c) ∧ w'.cell? ⟨w.heap.size, 3, none⟩ = some (.slice q n cap) ∧ w'.cell? ⟨w.heap.size, 4, none⟩ = some (.int .i64 1) ∧ w'.cell? ⟨w.heap.size + 1, 0, none⟩ = some (.int .i64 4) ∧ w'.cell? ⟨w.heap.size + 1, 1, none⟩ = some (.int .i64 a) ∧ w'.cell? ⟨w.heap.size + 1, 2, none⟩ = some (.int .i64 b) ∧ w'.cell? ⟨w.heap.size + 1, 3, none⟩ = some (.int .i64 c) ∧ w'.cell? ⟨w.heap.size + 1, 4, none⟩ = some (.slice q n cap))) (by kernel_rfl) ?SR30 (fun hHeld => ?_)
    case SR30 => (first | (with_reducible exact KEEP.out _ hd0) | (with_reducible exact KEEP.out _ hd1) | (with_reducible exact KEEP.out _ hd2) | (with_reducible exact KEEP.out _ hd3))
    refine wpAnyH_take (i := 0) (oi := _) (v := ?vR30) rfl (by kernel_rfl) (by kernel_rfl) (by kernel_rfl) (fun _ _ _ h => h) (Or.inl ⟨by rfl, ?yR30⟩) hHeld ?_
    case yR30 => (intro w hSw; (try dsimp only at hSw); go_simp <;> with_reducible rfl)
    try simp only [Act.put, List.getElem_toArray, List.getElem_cons_zero, List.getElem_cons_succ, List.setIfInBounds_toArray, List.set_cons_zero, List.set_cons_succ]
    refine wpAnyH_take (i := 1) (oi := _) (v := ?vR31) rfl (by kernel_rfl) (by kernel_rfl) (by kernel_rfl) (fun _ _ _ h => h) (Or.inl ⟨by rfl, ?yR31⟩) hHeld ?_
    case yR31 => (intro w hSw; (try dsimp only at hSw); go_simp <;> with_reducible rfl)
    try simp only [Act.put, List.getElem_toArray, List.getElem_cons_zero, List.getElem_cons_succ, List.setIfInBounds_toArray, List.set_cons_zero, List.set_cons_succ]
    refine wpAnyH_take (i := 2) (oi := _) (v := ?vR32) rfl (by kernel_rfl) (by kernel_rfl) (by kernel_rfl) (fun _ _ _ h => h) (Or.inl ⟨by rfl, ?yR32⟩) hHeld ?_
    case yR32 => (intro w hSw; (try dsimp only at hSw); go_simp <;> with_reducible rfl)
    try simp only [Act.put, List.getElem_toArray, List.getElem_cons_zero, List.getElem_cons_succ, List.setIfInBounds_toArray, List.set_cons_zero, List.set_cons_succ]
    refine wpAnyH_take (i := 3) (oi := _) (v := ?vR33) rfl (by kernel_rfl) (by kernel_rfl) (by kernel_rfl) (fun _ _ _ h => h) (Or.inl ⟨by rfl, ?yR33⟩) hHeld ?_
    case yR33 => (intro w hSw; (try dsimp only at hSw); go_simp <;> with_reducible rfl)
    try simp only [Act.put, List.getElem_toArray, List.getElem_cons_zero, List.getElem_cons_succ, List.setIfInBounds_toArray, List.set_cons_zero, List.set_cons_succ]
    refine wpAnyH_ready (rs := [4]) (by kernel_rfl) (by simp) ?_
    refine AllReadyH.cons rfl (fun K hK => ?_) AllReadyH.nil
    go_simp
    go_wp2_with (go_at_call 243; refine (HL.out 1 _).mono ?_; rintro e w1 ⟨g, rfl, og, b1⟩; have hd1 : Below WF.heap.size WF w1 := hd0.trans (b1.mono hd0.size); have ol : w.heap.size ≤ WF.drew.heap.size := hWF.size)
    clear hHeld
    refine hK.out _ _ ?SR35 (fun hHeld => ?_)
    case SR35 => ((try dsimp only); first | (with_reducible exact KEEP.out _ hd0) | (with_reducible exact KEEP.out _ hd1) | (with_reducible exact KEEP.out _ hd2) | (with_reducible exact KEEP.out _ hd3))
    clear hK K
    refine wpAnyH_ready (rs := [5]) (by kernel_rfl) (by simp) ?_
    refine AllReadyH.cons rfl (fun K hK => ?_) AllReadyH.nil
    go_simp
    clear hHeld
    refine hK.out _ _ ?SR36 (fun hHeld => ?_)
    case SR36 => ((try dsimp only); exact KEEP.out _ (hd1.alloc hd1.size _))
    clear hK K
    refine wpAnyH_take (i := 6) (oi := _) (v := ?vR36) rfl (by kernel_rfl) (by kernel_rfl) (by kernel_rfl) (fun _ _ _ h => h) (Or.inl ⟨by rfl, ?yR36⟩) hHeld ?_
    case yR36 => (intro w hSw; (try dsimp only at hSw); go_simp <;> with_reducible rfl)
    try simp only [Act.put, List.getElem_toArray, List.getElem_cons_zero, List.getElem_cons_succ, List.setIfInBounds_toArray, List.set_cons_zero, List.set_cons_succ]
    refine wpAnyH_done (by kernel_rfl) ?_ _
    have OL : w.heap.size ≤ WF.drew.heap.size := hWF.size
    go_wp2_with fail
    go_ret
    have hx := hn2 _ hd1
    refine ⟨_, rfl, two_own ⟨4, a, b, c, ps⟩ ⟨1, nextA 1 a, nextB 1 b, nextC 1 c, [zeroT]⟩ (by simp) (Nat.le_trans hlo hx.size) (owns_of_below hu hx) (owns_base og (Nat.le_trans hlo OL)) (hap g _ _ OL og), hx.alloc hx.size _⟩
  · go_enter Tryz.func220, Tryz.ntmps220
    by_cases h5 : sign = 5
    · subst h5
      have em : makeC 5 a b c ps 2 = [⟨4, a, b, c, ps⟩, ⟨1, nextA 2 a, nextB 2 b, nextC 2 c, [zeroT]⟩] := by rfl
      rw [em]
      clear em
      go_wp2_with fail
      generalize ((w.alloc (.cells #[.int .i64 a, .int .i64 b, .int .i64 c, .slice q n cap, .int .i64 2] 254)).alloc (.cells #[.int .i64 4, .int .i64 a, .int .i64 b, .int .i64 c, .slice q n cap] 223)) = WF at hWF P0 F0 hn2 KEEP ⊢
      have hd0 : Below WF.heap.size WF WF.drew := (Below.refl _ _).drew
      refine wp_region_held_drew (S := (fun w' => w'.cell? ⟨w.heap.size, 0, none⟩ = some (.int .i64 a) ∧ w'.cell? ⟨w.heap.size, 1, none⟩ = some (.int .i64 b) ∧ w'.cell? ⟨w.heap.size, 2, none⟩ = some (.int .i64 c) ∧ w'.cell? ⟨w.heap.size, 3, none⟩ = some (.slice q n cap) ∧ w'.cell? ⟨w.heap.size, 4, none⟩ = some (.int .i64 2) ∧ w'.cell? ⟨w.heap.size + 1, 0, none⟩ = some (.int .i64 4) ∧ w'.cell? ⟨w.heap.size + 1, 1, none⟩ = some (.int .i64 a) ∧ w'.cell? ⟨w.heap.size + 1, 2, none⟩ = some (.int .i64 b) ∧ w'.cell? ⟨w.heap.size + 1, 3, none⟩ = some (.int .i64 c) ∧ w'.cell? ⟨w.heap.size + 1, 4, none⟩ = some (.slice q n cap))) (by kernel_rfl) ?SR40 (fun hHeld => ?_)
      case SR40 => (first | (with_reducible exact KEEP.out _ hd0) | (with_reducible exact KEEP.out _ hd1) | (with_reducible exact KEEP.out _ hd2) | (with_reducible exact KEEP.out _ hd3))
      refine wpAnyH_take (i := 0) (oi := _) (v := ?vR40) rfl (by kernel_rfl) (by kernel_rfl) (by kernel_rfl) (fun _ _ _ h => h) (Or.inl ⟨by rfl, ?yR40⟩) hHeld ?_
      case yR40 => (intro w hSw; (try dsimp only at hSw); go_simp <;> with_reducible rfl)
      try simp only [Act.put, List.getElem_toArray, List.getElem_cons_zero, List.getElem_cons_succ, List.setIfInBounds_toArray, List.set_cons_zero, List.set_cons_succ]
      refine wpAnyH_take (i := 1) (oi := _) (v := ?vR41) rfl (by kernel_rfl) (by kernel_rfl) (by kernel_rfl) (fun _ _ _ h => h) (Or.inl ⟨by rfl, ?yR41⟩) hHeld ?_
      case yR41 => (intro w hSw; (try dsimp only at hSw); go_simp <;> with_reducible rfl)
      try simp only [Act.put, List.getElem_toArray, List.getElem_cons_zero, List.getElem_cons_succ, List.setIfInBounds_toArray, List.set_cons_zero, List.set_cons_succ]
      refine wpAnyH_take (i := 2) (oi := _) (v := ?vR42) rfl (by kernel_rfl) (by kernel_rfl) (by kernel_rfl) (fun _ _ _ h => h) (Or.inl ⟨by rfl, ?yR42⟩) hHeld ?_
      case yR42 => (intro w hSw; (try dsimp only at hSw); go_simp <;> with_reducible rfl)
      try simp only [Act.put, List.getElem_toArray, List.getElem_cons_zero, List.getElem_cons_succ, List.setIfInBounds_toArray, List.set_cons_zero, List.set_cons_succ]
      refine wpAnyH_take (i := 3) (oi := _) (v := ?vR43) rfl (by kernel_rfl) (by kernel_rfl) (by kernel_rfl) (fun _ _ _ h => h) (Or.inl ⟨by rfl, ?yR43⟩) hHeld ?_
      case yR43 => (intro w hSw; (try dsimp only at hSw); go_simp <;> with_reducible rfl)
      try simp only [Act.put, List.getElem_toArray, List.getElem_cons_zero, List.getElem_cons_succ, List.setIfInBounds_toArray, List.set_cons_zero, List.set_cons_succ]
      refine wpAnyH_take (i := 4) (oi := _) (v := ?vR44) rfl (by kernel_rfl) (by kernel_rfl) (by kernel_rfl) (fun _ _ _ h => h) (Or.inl ⟨by rfl, ?yR44⟩) hHeld ?_
      case yR44 => (intro w hSw; (try dsimp only at hSw); go_simp <;> with_reducible rfl)
      try simp only [Act.put, List.getElem_toArray, List.getElem_cons_zero, List.getElem_cons_succ, List.setIfInBounds_toArray, List.set_cons_zero, List.set_cons_succ]
      refine wpAnyH_ready (rs := [5]) (by kernel_rfl) (by simp) ?_
      refine AllReadyH.cons rfl (fun K hK => ?_) AllReadyH.nil
      go_simp
      go_wp2_with (go_at_call 243; refine (HL.out 2 _).mono ?_; rintro e w1 ⟨g, rfl, og, b1⟩; have hd1 : Below WF.heap.size WF w1 := hd0.trans (b1.mono hd0.size); have ol : w.heap.size ≤ WF.drew.heap.size := hWF.size)
      clear hHeld
      refine hK.out _ _ ?SR46 (fun hHeld => ?_)
      case SR46 => ((try dsimp only); first | (with_reducible exact KEEP.out _ hd0) | (with_reducible exact KEEP.out _ hd1) | (with_reducible exact KEEP.out _ hd2) | (with_reducible exact KEEP.out _ hd3))
      clear hK K
      refine wpAnyH_ready (rs := [6]) (by kernel_rfl) (by simp) ?_
      refine AllReadyH.cons rfl (fun K hK => ?_) AllReadyH.nil
      go_simp
      clear hHeld
      refine hK.out _ _ ?SR47 (fun hHeld => ?_)
      case SR47 => ((try dsimp only); exact KEEP.out _ (hd1.alloc hd1.size _))
      clear hK K
      refine wpAnyH_take (i := 7) (oi := _) (v := ?vR47) rfl (by kernel_rfl) (by kernel_rfl) (by kernel_rfl) (fun _ _ _ h => h) (Or.inl ⟨by rfl, ?yR47⟩) hHeld ?_
      case yR47 => (intro w hSw; (try dsimp only at hSw); go_simp <;> with_reducible rfl)
      try simp only [Act.put, List.getElem_toArray, List.getElem_cons_zero, List.getElem_cons_succ, List.setIfInBounds_toArray, List.set_cons_zero, List.set_cons_succ]
      refine wpAnyH_done (by kernel_rfl) ?_ _
      have OL : w.heap.size ≤ WF.drew.heap.size := hWF.size
      go_wp2_with fail
      go_ret
      have hx := hn2 _ hd1
      refine ⟨_, rfl, two_own ⟨4, a, b, c, ps⟩ ⟨1, nextA 2 a, nextB 2 b, nextC 2 c, [zeroT]⟩ (by simp) (Nat.le_trans hlo hx.size) (owns_of_below hu hx) (owns_base og (Nat.le_trans hlo OL)) (hap g _ _ OL og), hx.alloc hx.size _⟩
    by_cases h6 : sign = 6
    · subst h6
      have em : makeC 6 a b c ps 2 = [⟨4, a, b, c, ps⟩, ⟨1, nextA (caretK a b 2) a, nextB (caretK a b 2) b, nextC (caretK a b 2) c, [zeroT]⟩] := by rfl
      rw [em]
      clear em
      go_wp2_with fail
      generalize ((w.alloc (.cells #[.int .i64 a, .int .i64 b, .int .i64 c, .slice q n cap, .int .i64 2] 254)).alloc (.cells #[.int .i64 4, .int .i64 a, .int .i64 b, .int .i64 c, .slice q n cap] 223)) = WF at hWF P0 F0 hn2 KEEP ⊢
      have hd0 : Below WF.heap.size WF WF.drew := (Below.refl _ _).drew
      refine wp_region_held_drew (S := (fun w' => w'.cell? ⟨w.heap.size, 0, none⟩ = some (.int .i64 a) ∧ w'.cell? ⟨w.heap.size, 1, none⟩ = some (.int .i64 b) ∧ w'.cell? ⟨w.heap.size, 2, none⟩ = some (.int .i64 c) ∧ w'.cell? ⟨w.heap.size, 3, none⟩ = some (.slice q n cap) ∧ w'.cell? ⟨w.heap.size, 4, none⟩ = some (.int .i64 2) ∧ w'.cell? ⟨w.heap.size + 1, 0, none⟩ = some (.int .i64 4) ∧ w'.cell? ⟨w.heap.size + 1, 1, none⟩ = some (.int .i64 a) ∧ w'.cell? ⟨w.heap.size + 1, 2, none⟩ = some (.int .i64 b) ∧ w'.cell? ⟨w.heap.size + 1, 3, none⟩ = some (.int .i64 c) ∧ w'.cell? ⟨w.heap.size + 1, 4, none⟩ = some (.slice q n cap))) (by kernel_rfl) ?SR50 (fun hHeld => ?_)
      case SR50 => (first | (with_reducible exact KEEP.out _ hd0) | (with_reducible exact KEEP.out _ hd1) | (with_reducible exact KEEP.out _ hd2) | (with_reducible exact KEEP.out _ hd3))
      refine wpAnyH_take (i := 0) (oi := _) (v := ?vR50) rfl (by kernel_rfl) (by kernel_rfl) (by kernel_rfl) (fun _ _ _ h => h) (Or.inl ⟨by rfl, ?yR50⟩) hHeld ?_
      case yR50 => (intro w hSw; (try dsimp only at hSw); go_simp <;> with_reducible rfl)
      try simp only [Act.put, List.getElem_toArray, List.getElem_cons_zero, List.getElem_cons_succ, List.setIfInBounds_toArray, List.set_cons_zero, List.set_cons_succ]
      refine wpAnyH_take (i := 1) (oi := _) (v := ?vR51) rfl (by kernel_rfl) (by kernel_rfl) (by kernel_rfl) (fun _ _ _ h => h) (Or.inl ⟨by rfl, ?yR51⟩) hHeld ?_
      case yR51 => (intro w hSw; (try dsimp only at hSw); go_simp <;> with_reducible rfl)
      try simp only [Act.put, List.getElem_toArray, List.getElem_cons_zero, List.getElem_cons_succ, List.setIfInBounds_toArray, List.set_cons_zero, List.set_cons_succ]
      refine wpAnyH_take (i := 2) (oi := _) (v := ?vR52) rfl (by kernel_rfl) (by kernel_rfl) (by kernel_rfl) (fun _ _ _ h => h) (Or.inl ⟨by rfl, ?yR52⟩) hHeld ?_
      case yR52 => (intro w hSw; (try dsimp only at hSw); go_simp <;> with_reducible rfl)
      try simp only [Act.put, List.getElem_toArray, List.getElem_cons_zero, List.getElem_cons_succ, List.setIfInBounds_toArray, List.set_cons_zero, List.set_cons_succ]
      refine wpAnyH_ready (rs := [3]) (by kernel_rfl) (by simp) ?_
      refine AllReadyH.cons rfl (fun K hK => ?_) AllReadyH.nil
      go_simp
      go_wp2_with (go_at_call 244; refine (HK.out _).mono ?_; rintro e w1 ⟨rfl, b1⟩; have hd1 : Below WF.heap.size WF w1 := hd0.trans (b1.mono hd0.size))
      clear hHeld
      refine hK.out _ _ ?SR54 (fun hHeld => ?_)
      case SR54 => ((try dsimp only); first | (with_reducible exact KEEP.out _ hd0) | (with_reducible exact KEEP.out _ hd1) | (with_reducible exact KEEP.out _ hd2) | (with_reducible exact KEEP.out _ hd3))
      clear hK K
      refine wpAnyH_ready (rs := [4]) (by kernel_rfl) (by simp) ?_
      refine AllReadyH.cons rfl (fun K hK => ?_) AllReadyH.nil
      go_simp
      go_wp2_with (go_at_call 243; refine (HL.out (caretK a b 2) _).mono ?_; rintro e w2 ⟨g, rfl, og, b2⟩; have hd2 : Below WF.heap.size WF w2 := hd1.trans (b2.mono hd1.size))
      clear hHeld
      refine hK.out _ _ ?SR55 (fun hHeld => ?_)
      case SR55 => ((try dsimp only); first | (with_reducible exact KEEP.out _ hd0) | (with_reducible exact KEEP.out _ hd1) | (with_reducible exact KEEP.out _ hd2) | (with_reducible exact KEEP.out _ hd3))
      clear hK K
      refine wpAnyH_ready (rs := [5]) (by kernel_rfl) (by simp) ?_
      refine AllReadyH.cons rfl (fun K hK => ?_) AllReadyH.nil
      go_simp
      clear hHeld
      refine hK.out _ _ ?SR56 (fun hHeld => ?_)
      case SR56 => ((try dsimp only); exact KEEP.out _ (hd2.alloc hd2.size _))
      clear hK K
      refine wpAnyH_take (i := 6) (oi := _) (v := ?vR56) rfl (by kernel_rfl) (by kernel_rfl) (by kernel_rfl) (fun _ _ _ h => h) (Or.inl ⟨by rfl, ?yR56⟩) hHeld ?_
      case yR56 => (intro w hSw; (try dsimp only at hSw); go_simp <;> with_reducible rfl)
      try simp only [Act.put, List.getElem_toArray, List.getElem_cons_zero, List.getElem_cons_succ, List.setIfInBounds_toArray, List.set_cons_zero, List.set_cons_succ]
      refine wpAnyH_done (by kernel_rfl) ?_ _
      have OL : w.heap.size ≤ w1.heap.size := Nat.le_trans hWF.size hd1.size
      go_wp2_with fail
      go_ret
      have hx := hn2 _ hd2
      refine ⟨_, rfl, two_own ⟨4, a, b, c, ps⟩ ⟨1, nextA (caretK a b 2) a, nextB (caretK a b 2) b, nextC (caretK a b 2) c, [zeroT]⟩ (by simp) (Nat.le_trans hlo hx.size) (owns_of_below hu hx) (owns_base og (Nat.le_trans hlo OL)) (hap g _ _ OL og), hx.alloc hx.size _⟩
    by_cases h1 : sign = 1
    · subst h1
      have em : makeC 1 a b c ps 2 = [⟨1, a, b, c, ps⟩] := by rfl
      rw [em]
      clear em
      go_wp2_with fail
      go_ret
      exact ⟨_, rfl, one_own ⟨1, a, b, c, ps⟩ (by simp) (Nat.le_trans hlo hWF.size) (owns_of_below hu hWF), hWF.alloc hWF.size _⟩
    by_cases h4 : sign = 4
    · subst h4
      have em : makeC 4 a b c ps 2 = [⟨4, a, b, c, ps⟩] := by rfl
      rw [em]
      clear em
      go_wp2_with fail
      go_ret
      exact ⟨_, rfl, one_own ⟨4, a, b, c, ps⟩ (by simp) (Nat.le_trans hlo hWF.size) (owns_of_below hu hWF), hWF.alloc hWF.size _⟩
    by_cases h3 : sign = 3
    · subst h3
      have em : makeC 3 a b c ps 2 = [⟨4, nextA 2 a, nextB 2 b, nextC 2 c, []⟩] := by rfl
      rw [em]
      clear em
      go_wp2_with (go_at_call 245; refine (HX.out 2 _).mono ?_; rintro e w1 ⟨rfl, b1⟩; have hx := hn2 _ b1)
      go_ret
      exact ⟨_, rfl, one_own ⟨4, nextA 2 a, nextB 2 b, nextC 2 c, []⟩ (by simp) (Nat.le_trans hlo hx.size) (owns_nil _ _), hx.alloc hx.size _⟩
    by_cases h2 : sign = 2
    · subst h2
      have em : makeC 2 a b c ps 2 = [⟨1, nextA 2 a, nextB 2 b, nextC 2 c, [zeroT]⟩] := by rfl
      rw [em]
      clear em
      go_wp2_with (go_at_call 243; refine (HL.out 2 _).mono ?_; rintro e w1 ⟨g, rfl, og, b1⟩; have hx := hn2 _ b1)
      go_ret
      exact ⟨_, rfl, one_own ⟨1, nextA 2 a, nextB 2 b, nextC 2 c, [zeroT]⟩ (by simp) (Nat.le_trans hlo hx.size) (owns_base og (Nat.le_trans hlo hWF.size)), hx.alloc hx.size _⟩
    have k5 : (sign == 5) = false := by simpa using h5
    have k6 : (sign == 6) = false := by simpa using h6
    have k1 : (sign == 1) = false := by simpa using h1
    have k4 : (sign == 4) = false := by simpa using h4
    have k3 : (sign == 3) = false := by simpa using h3
    have k2 : (sign == 2) = false := by simpa using h2
    have em : makeC sign a b c ps 2 = [⟨4, a, b, c, ps⟩, ⟨1, nextA 2 a, nextB 2 b, nextC 2 c, [zeroT]⟩] := by simp [makeC, h5, h6, h1, h4, h3, h2]
    rw [em]
    clear em
    clear h5 h6 h1 h4 h3 h2
    go_wp2_with fail
    generalize ((w.alloc (.cells #[.int .i64 a, .int .i64 b, .int .i64 c, .slice q n cap, .int .i64 2] 254)).alloc (.cells #[.int .i64 4, .int .i64 a, .int .i64 b, .int .i64 c, .slice q n cap] 223)) = WF at hWF P0 F0 hn2 KEEP ⊢
    have hd0 : Below WF.heap.size WF WF.drew := (Below.refl _ _).drew
    refine wp_region_held_drew (S := (fun w' => w'.cell? ⟨w.heap.size, 0, none⟩ = some (.int .i64 a) ∧ w'.cell? ⟨w.heap.size, 1, none⟩ = some (.int .i64 b) ∧ w'.cell? ⟨w.heap.size, 2, none⟩ = some (.int .i64 c) ∧ w'.cell? ⟨w.heap.size, 3, none⟩ = some (.slice q n cap) ∧ w'.cell? ⟨w.heap.size, 4, none⟩ = some (.int .i64 2) ∧ w'.cell? ⟨w.heap.size + 1, 0, none⟩ = some (.int .i64 4) ∧ w'.cell? ⟨w.heap.size + 1, 1, none⟩ = some (.int .i64 a) ∧ w'.cell? ⟨w.heap.size + 1, 2, none⟩ = some (.int .i64 b) ∧ w'.cell? ⟨w.heap.size + 1, 3, none⟩ = some (.int .i64 c) ∧ w'.cell? ⟨w.heap.size + 1, 4, none⟩ = some (.slice q n cap))) (by kernel_rfl) ?SR60 (fun hHeld => ?_)
    case SR60 => (first | (with_reducible exact KEEP.out _ hd0) | (with_reducible exact KEEP.out _ hd1) | (with_reducible exact KEEP.out _ hd2) | (with_reducible exact KEEP.out _ hd3))
    refine wpAnyH_take (i := 0) (oi := _) (v := ?vR60) rfl (by kernel_rfl) (by kernel_rfl) (by kernel_rfl) (fun _ _ _ h => h) (Or.inl ⟨by rfl, ?yR60⟩) hHeld ?_
    case yR60 => (intro w hSw; (try dsimp only at hSw); go_simp <;> with_reducible rfl)
    try simp only [Act.put, List.getElem_toArray, List.getElem_cons_zero, List.getElem_cons_succ, List.setIfInBounds_toArray, List.set_cons_zero, List.set_cons_succ]
    refine wpAnyH_take (i := 1) (oi := _) (v := ?vR61) rfl (by kernel_rfl) (by kernel_rfl) (by kernel_rfl) (fun _ _ _ h => h) (Or.inl ⟨by rfl, ?yR61⟩) hHeld ?_
    case yR61 => (intro w hSw; (try dsimp only at hSw); go_simp <;> with_reducible rfl)
    try simp only [Act.put, List.getElem_toArray, List.getElem_cons_zero, List.getElem_cons_succ, List.setIfInBounds_toArray, List.set_cons_zero, List.set_cons_succ]
    refine wpAnyH_take (i := 2) (oi := _) (v := ?vR62) rfl (by kernel_rfl) (by kernel_rfl) (by kernel_rfl) (fun _ _ _ h => h) (Or.inl ⟨by rfl, ?yR62⟩) hHeld ?_
    case yR62 => (intro w hSw; (try dsimp only at hSw); go_simp <;> with_reducible rfl)
    try simp only [Act.put, List.getElem_toArray, List.getElem_cons_zero, List.getElem_cons_succ, List.setIfInBounds_toArray, List.set_cons_zero, List.set_cons_succ]
    refine wpAnyH_take (i := 3) (oi := _) (v := ?vR63) rfl (by kernel_rfl) (by kernel_rfl) (by kernel_rfl) (fun _ _ _ h => h) (Or.inl ⟨by rfl, ?yR63⟩) hHeld ?_
    case yR63 => (intro w hSw; (try dsimp only at hSw); go_simp <;> with_reducible rfl)
    try simp only [Act.put, List.getElem_toArray, List.getElem_cons_zero, List.getElem_cons_succ, List.setIfInBounds_toArray, List.set_cons_zero, List.set_cons_succ]
    refine wpAnyH_ready (rs := [4]) (by kernel_rfl) (by simp) ?_
    refine AllReadyH.cons rfl (fun K hK => ?_) AllReadyH.nil
    go_simp
    go_wp2_with (go_at_call 243; refine (HL.out 2 _).mono ?_; rintro e w1 ⟨g, rfl, og, b1⟩; have hd1 : Below WF.heap.size WF w1 := hd0.trans (b1.mono hd0.size); have ol : w.heap.size ≤ WF.drew.heap.size := hWF.size)
    clear hHeld
    refine hK.out _ _ ?SR65 (fun hHeld => ?_)
    case SR65 => ((try dsimp only); first | (with_reducible exact KEEP.out _ hd0) | (with_reducible exact KEEP.out _ hd1) | (with_reducible exact KEEP.out _ hd2) | (with_reducible exact KEEP.out _ hd3))
    clear hK K
    refine wpAnyH_ready (rs := [5]) (by kernel_rfl) (by simp) ?_
    refine AllReadyH.cons rfl (fun K hK => ?_) AllReadyH.nil
    go_simp
    clear hHeld
    refine hK.out _ _ ?SR66 (fun hHeld => ?_)
    case SR66 => ((try dsimp only); exact KEEP.out _ (hd1.alloc hd1.size _))
    clear hK K
    refine wpAnyH_take (i := 6) (oi := _) (v := ?vR66) rfl (by kernel_rfl) (by kernel_rfl) (by kernel_rfl) (fun _ _ _ h => h) (Or.inl ⟨by rfl, ?yR66⟩) hHeld ?_
    case yR66 => (intro w hSw; (try dsimp only at hSw); go_simp <;> with_reducible rfl)
    try simp only [Act.put, List.getElem_toArray, List.getElem_cons_zero, List.getElem_cons_succ, List.setIfInBounds_toArray, List.set_cons_zero, List.set_cons_succ]
    refine wpAnyH_done (by kernel_rfl) ?_ _
    have OL : w.heap.size ≤ WF.drew.heap.size := hWF.size
    go_wp2_with fail
    go_ret
    have hx := hn2 _ hd1
    refine ⟨_, rfl, two_own ⟨4, a, b, c, ps⟩ ⟨1, nextA 2 a, nextB 2 b, nextC 2 c, [zeroT]⟩ (by simp) (Nat.le_trans hlo hx.size) (owns_of_below hu hx) (owns_base og (Nat.le_trans hlo OL)) (hap g _ _ OL og), hx.alloc hx.size _⟩
  · go_enter Tryz.func220, Tryz.ntmps220
    by_cases h5 : sign = 5
    · subst h5
      have em : makeC 5 a b c ps 3 = [⟨4, a, b, c, ps⟩, ⟨1, nextA 2 a, nextB 2 b, nextC 2 c, [zeroT]⟩] := by rfl
      rw [em]
      clear em
      go_wp2_with fail
      generalize ((w.alloc (.cells #[.int .i64 a, .int .i64 b, .int .i64 c, .slice q n cap, .int .i64 3] 254)).alloc (.cells #[.int .i64 4, .int .i64 a, .int .i64 b, .int .i64 c, .slice q n cap] 223)) = WF at hWF P0 F0 hn2 KEEP ⊢
      have hd0 : Below WF.heap.size WF WF.drew := (Below.refl _ _).drew
      refine wp_region_held_drew (S := (fun w' => w'.cell? ⟨w.heap.size, 0, none⟩ = some (.int .i64 a) ∧ w'.cell? ⟨w.heap.size, 1, none⟩ = some (.int .i64 b) ∧ w'.cell? ⟨w.heap.size, 2, none⟩ = some (.int .i64 c) ∧ w'.cell? ⟨w.heap.size, 3, none⟩ = some (.slice q n cap) ∧ w'.cell? ⟨w.heap.size, 4, none⟩ = some (.int .i64 3) ∧ w'.cell? ⟨w.heap.size + 1, 0, none⟩ = some (.int .i64 4) ∧ w'.cell? ⟨w.heap.size + 1, 1, none⟩ = some (.int .i64 a) ∧ w'.cell? ⟨w.heap.size + 1, 2, none⟩ = some (.int .i64 b) ∧ w'.cell? ⟨w.heap.size + 1, 3, none⟩ = some (.int .i64 c) ∧ w'.cell? ⟨w.heap.size + 1, 4, none⟩ = some (.slice q n cap))) (by kernel_rfl) ?SR70 (fun hHeld => ?_)
      case SR70 => (first | (with_reducible exact KEEP.out _ hd0) | (with_reducible exact KEEP.out _ hd1) | (with_reducible exact KEEP.out _ hd2) | (with_reducible exact KEEP.out _ hd3))
      refine wpAnyH_take (i := 0) (oi := _) (v := ?vR70) rfl (by kernel_rfl) (by kernel_rfl) (by kernel_rfl) (fun _ _ _ h => h) (Or.inl ⟨by rfl, ?yR70⟩) hHeld ?_
      case yR70 => (intro w hSw; (try dsimp only at hSw); go_simp <;> with_reducible rfl)
      try simp only [Act.put, List.getElem_toArray, List.getElem_cons_zero, List.getElem_cons_succ, List.setIfInBounds_toArray, List.set_cons_zero, List.set_cons_succ]
      refine wpAnyH_take (i := 1) (oi := _) (v := ?vR71) rfl (by kernel_rfl) (by kernel_rfl) (by kernel_rfl) (fun _ _ _ h => h) (Or.inl ⟨by rfl, ?yR71⟩) hHeld ?_
      case yR71 => (intro w hSw; (try dsimp only at hSw); go_simp <;> with_reducible rfl)
      try simp only [Act.put, List.getElem_toArray, List.getElem_cons_zero, List.getElem_cons_succ, List.setIfInBounds_toArray, List.set_cons_zero, List.set_cons_succ]
      refine wpAnyH_take (i := 2) (oi := _) (v := ?vR72) rfl (by kernel_rfl) (by kernel_rfl) (by kernel_rfl) (fun _ _ _ h => h) (Or.inl ⟨by rfl, ?yR72⟩) hHeld ?_
      case yR72 => (intro w hSw; (try dsimp only at hSw); go_simp <;> with_reducible rfl)
      try simp only [Act.put, List.getElem_toArray, List.getElem_cons_zero, List.getElem_cons_succ, List.setIfInBounds_toArray, List.set_cons_zero, List.set_cons_succ]
      refine wpAnyH_take (i := 3) (oi := _) (v := ?vR73) rfl (by kernel_rfl) (by kernel_rfl) (by kernel_rfl) (fun _ _ _ h => h) (Or.inl ⟨by rfl, ?yR73⟩) hHeld ?_
      case yR73 => (intro w hSw; (try dsimp only at hSw); go_simp <;> with_reducible rfl)
      try simp only [Act.put, List.getElem_toArray, List.getElem_cons_zero, List.getElem_cons_succ, List.setIfInBounds_toArray, List.set_cons_zero, List.set_cons_succ]
      refine wpAnyH_take (i := 4) (oi := _) (v := ?vR74) rfl (by kernel_rfl) (by kernel_rfl) (by kernel_rfl) (fun _ _ _ h => h) (Or.inl ⟨by rfl, ?yR74⟩) hHeld ?_
      case yR74 => (intro w hSw; (try dsimp only at hSw); go_simp <;> with_reducible rfl)
      try simp only [Act.put, List.getElem_toArray, List.getElem_cons_zero, List.getElem_cons_succ, List.setIfInBounds_toArray, List.set_cons_zero, List.set_cons_succ]
      refine wpAnyH_ready (rs := [5]) (by kernel_rfl) (by simp) ?_
      refine AllReadyH.cons rfl (fun K hK => ?_) AllReadyH.nil
      go_simp
      go_wp2_with (go_at_call 243; refine (HL.out 2 _).mono ?_; rintro e w1 ⟨g, rfl, og, b1⟩; have hd1 : Below WF.heap.size WF w1 := hd0.trans (b1.mono hd0.size); have ol : w.heap.size ≤ WF.drew.heap.size := hWF.size)
      clear hHeld
      refine hK.out _ _ ?SR76 (fun hHeld => ?_)
      case SR76 => ((try dsimp only); first | (with_reducible exact KEEP.out _ hd0) | (with_reducible exact KEEP.out _ hd1) | (with_reducible exact KEEP.out _ hd2) | (with_reducible exact KEEP.out _ hd3))
      clear hK K
      refine wpAnyH_ready (rs := [6]) (by kernel_rfl) (by simp) ?_
      refine AllReadyH.cons rfl (fun K hK => ?_) AllReadyH.nil
      go_simp
      clear hHeld
      refine hK.out _ _ ?SR77 (fun hHeld => ?_)
      case SR77 => ((try dsimp only); exact KEEP.out _ (hd1.alloc hd1.size _))
      clear hK K
      refine wpAnyH_take (i := 7) (oi := _) (v := ?vR77) rfl (by kernel_rfl) (by kernel_rfl) (by kernel_rfl) (fun _ _ _ h => h) (Or.inl ⟨by rfl, ?yR77⟩) hHeld ?_
      case yR77 => (intro w hSw; (try dsimp only at hSw); go_simp <;> with_reducible rfl)
      try simp only [Act.put, List.getElem_toArray, List.getElem_cons_zero, List.getElem_cons_succ, List.setIfInBounds_toArray, List.set_cons_zero, List.set_cons_succ]
      refine wpAnyH_done (by kernel_rfl) ?_ _
      have OL : w.heap.size ≤ WF.drew.heap.size := hWF.size
      go_wp2_with fail
      go_ret
      have hx := hn2 _ hd1
      refine ⟨_, rfl, two_own ⟨4, a, b, c, ps⟩ ⟨1, nextA 2 a, nextB 2 b, nextC 2 c, [zeroT]⟩ (by simp) (Nat.le_trans hlo hx.size) (owns_of_below hu hx) (owns_base og (Nat.le_trans hlo OL)) (hap g _ _ OL og), hx.alloc hx.size _⟩
    by_cases h6 : sign = 6
    · subst h6
      have em : makeC 6 a b c ps 3 = [⟨4, a, b, c, ps⟩, ⟨1, nextA (caretK a b 3) a, nextB (caretK a b 3) b, nextC (caretK a b 3) c, [zeroT]⟩] := by rfl
      rw [em]
      clear em
      go_wp2_with fail
      generalize ((w.alloc (.cells #[.int .i64 a, .int .i64 b, .int .i64 c, .slice q n cap, .int .i64 3] 254)).alloc (.cells #[.int .i64 4, .int .i64 a, .int .i64 b, .int .i64 c, .slice q n cap] 223)) = WF at hWF P0 F0 hn2 KEEP ⊢
      have hd0 : Below WF.heap.size WF WF.drew := (Below.refl _ _).drew
      refine wp_region_held_drew (S := (fun w' => w'.cell? ⟨w.heap.size, 0, none⟩ = some (.int .i64 a) ∧ w'.cell? ⟨w.heap.size, 1, none⟩ = some (.int .i64 b) ∧ w'.cell? ⟨w.heap.size, 2, none⟩ = some (.int .i64 c) ∧ w'.cell? ⟨w.heap.size, 3, none⟩ = some (.slice q n cap) ∧ w'.cell? ⟨w.heap.size, 4, none⟩ = some (.int .i64 3) ∧ w'.cell? ⟨w.heap.size + 1, 0, none⟩ = some (.int .i64 4) ∧ w'.cell? ⟨w.heap.size + 1, 1, none⟩ = some (.int .i64 a) ∧ w'.cell? ⟨w.heap.size + 1, 2, none⟩ = some (.int .i64 b) ∧ w'.cell? ⟨w.heap.size + 1, 3, none⟩ = some (.int .i64 c) ∧ w'.cell? ⟨w.heap.size + 1, 4, none⟩ = some (.slice q n cap))) (by kernel_rfl) ?SR80 (fun hHeld => ?_)
      case SR80 => (first | (with_reducible exact KEEP.out _ hd0) | (with_reducible exact KEEP.out _ hd1) | (with_reducible exact KEEP.out _ hd2) | (with_reducible exact KEEP.out _ hd3))
      refine wpAnyH_take (i := 0) (oi := _) (v := ?vR80) rfl (by kernel_rfl) (by kernel_rfl) (by kernel_rfl) (fun _ _ _ h => h) (Or.inl ⟨by rfl, ?yR80⟩) hHeld ?_
      case yR80 => (intro w hSw; (try dsimp only at hSw); go_simp <;> with_reducible rfl)
      try simp only [Act.put, List.getElem_toArray, List.getElem_cons_zero, List.getElem_cons_succ, List.setIfInBounds_toArray, List.set_cons_zero, List.set_cons_succ]
      refine wpAnyH_take (i := 1) (oi := _) (v := ?vR81) rfl (by kernel_rfl) (by kernel_rfl) (by kernel_rfl) (fun _ _ _ h => h) (Or.inl ⟨by rfl, ?yR81⟩) hHeld ?_
      case yR81 => (intro w hSw; (try dsimp only at hSw); go_simp <;> with_reducible rfl)
      try simp only [Act.put, List.getElem_toArray, List.getElem_cons_zero, List.getElem_cons_succ, List.setIfInBounds_toArray, List.set_cons_zero, List.set_cons_succ]
      refine wpAnyH_take (i := 2) (oi := _) (v := ?vR82) rfl (by kernel_rfl) (by kernel_rfl) (by kernel_rfl) (fun _ _ _ h => h) (Or.inl ⟨by rfl, ?yR82⟩) hHeld ?_
      case yR82 => (intro w hSw; (try dsimp only at hSw); go_simp <;> with_reducible rfl)
      try simp only [Act.put, List.getElem_toArray, List.getElem_cons_zero, List.getElem_cons_succ, List.setIfInBounds_toArray, List.set_cons_zero, List.set_cons_succ]
      refine wpAnyH_ready (rs := [3]) (by kernel_rfl) (by simp) ?_
      refine AllReadyH.cons rfl (fun K hK => ?_) AllReadyH.nil
      go_simp
      go_wp2_with (go_at_call 244; refine (HK.out _).mono ?_; rintro e w1 ⟨rfl, b1⟩; have hd1 : Below WF.heap.size WF w1 := hd0.trans (b1.mono hd0.size))
      clear hHeld
      refine hK.out _ _ ?SR84 (fun hHeld => ?_)
      case SR84 => ((try dsimp only); first | (with_reducible exact KEEP.out _ hd0) | (with_reducible exact KEEP.out _ hd1) | (with_reducible exact KEEP.out _ hd2) | (with_reducible exact KEEP.out _ hd3))
      clear hK K
      refine wpAnyH_ready (rs := [4]) (by kernel_rfl) (by simp) ?_
      refine AllReadyH.cons rfl (fun K hK => ?_) AllReadyH.nil
      go_simp
      go_wp2_with (go_at_call 243; refine (HL.out (caretK a b 3) _).mono ?_; rintro e w2 ⟨g, rfl, og, b2⟩; have hd2 : Below WF.heap.size WF w2 := hd1.trans (b2.mono hd1.size))
      clear hHeld
      refine hK.out _ _ ?SR85 (fun hHeld => ?_)
      case SR85 => ((try dsimp only); first | (with_reducible exact KEEP.out _ hd0) | (with_reducible exact KEEP.out _ hd1) | (with_reducible exact KEEP.out _ hd2) | (with_reducible exact KEEP.out _ hd3))
      clear hK K
      refine wpAnyH_ready (rs := [5]) (by kernel_rfl) (by simp) ?_
      refine AllReadyH.cons rfl (fun K hK => ?_) AllReadyH.nil
      go_simp
      clear hHeld
      refine hK.out _ _ ?SR86 (fun hHeld => ?_)
      case SR86 => ((try dsimp only); exact KEEP.out _ (hd2.alloc hd2.size _))
      clear hK K
      refine wpAnyH_take (i := 6) (oi := _) (v := ?vR86) rfl (by kernel_rfl) (by kernel_rfl) (by kernel_rfl) (fun _ _ _ h => h) (Or.inl ⟨by rfl, ?yR86⟩) hHeld ?_
      case yR86 => (intro w hSw; (try dsimp only at hSw); go_simp <;> with_reducible rfl)
      try simp only [Act.put, List.getElem_toArray, List.getElem_cons_zero, List.getElem_cons_succ, List.setIfInBounds_toArray, List.set_cons_zero, List.set_cons_succ]
      refine wpAnyH_done (by kernel_rfl) ?_ _
      have OL : w.heap.size ≤ w1.heap.size := Nat.le_trans hWF.size hd1.size
      go_wp2_with fail
      go_ret
      have hx := hn2 _ hd2
      refine ⟨_, rfl, two_own ⟨4, a, b, c, ps⟩ ⟨1, nextA (caretK a b 3) a, nextB (caretK a b 3) b, nextC (caretK a b 3) c, [zeroT]⟩ (by simp) (Nat.le_trans hlo hx.size) (owns_of_below hu hx) (owns_base og (Nat.le_trans hlo OL)) (hap g _ _ OL og), hx.alloc hx.size _⟩
    have k5 : (sign == 5) = false := by simpa using h5
    have k6 : (sign == 6) = false := by simpa using h6
    have em : makeC sign a b c ps 3 = [⟨sign, a, b, c, ps⟩] := by simp [makeC, h5, h6]
    rw [em]
    clear em
    clear h5 h6
    go_wp2_with fail
    go_ret
    exact ⟨_, rfl, one_own ⟨sign, a, b, c, ps⟩ (by simp) (Nat.le_trans hlo hWF.size) (owns_of_below hu hWF), hWF.alloc hWF.size _⟩
end Go.Proofs.YtlnofdlhjeomfaaGreatDoor

/-! What the two functions ParseNum (the program's and the specification's) answer: one and the same pair for every string and every bound; no condition but that a string is no longer than an int can count. -/
namespace Go.Proofs.YtlnofdlhjeomfaaGreatDoor
open Go.RowKit
set_option linter.unusedSimpArgs false
set_option linter.unusedVariables false

/-- The number that the first k bytes tell. -/
def numUpto (s : ByteArray) : Nat → Int
  | 0 => 0
  | k + 1 => numUpto s k * 10 + (((s.data[k]!).toNat : Int) - 48)

def okDigit (_ : Nat) (c : Int) : Bool := digitB c

theorem digit_bounds {c : Int} (h : digitB c = true) : 48 ≤ c ∧ c ≤ 57 := by
  simpa [digitB] using h

theorem numUpto_bounds (s : ByteArray) : ∀ k, allUpto okDigit s k = true → 0 ≤ numUpto s k ∧ numUpto s k < (10 : Int) ^ k
  | 0, _ => by simp [numUpto]
  | k + 1, h => by
    rw [allUpto, Bool.and_eq_true] at h
    have ih := numUpto_bounds s k h.1
    have hd := digit_bounds (c := ((s.data[k]!).toNat : Int)) h.2
    rw [numUpto, Int.pow_succ]
    omega

theorem numUpto_step {s : ByteArray} {k : Nat} (hk : k < s.size) : numUpto s (k + 1) = numUpto s k * 10 + (((s[k]).toNat : Int) - 48) := by
  rw [numUpto, byteBang s k hk]

theorem num_small {s : ByteArray} {k : Nat} (h : allUpto okDigit s k = true) (h8 : k ≤ 8) : 0 ≤ numUpto s k ∧ numUpto s k < 100000000 := by
  have hb := numUpto_bounds s k h
  have : (10 : Int) ^ k ≤ 10 ^ 8 := by
    have : (10 : Nat) ^ k ≤ 10 ^ 8 := Nat.pow_le_pow_right (by decide) h8
    exact_mod_cast this
  omega

/-- What both answer. -/
def numGood (s : ByteArray) (most : Int) : Bool :=
  inB s.size 1 7 && allUpto okDigit s s.size && !(decide (1 < s.size) && ((s.data[0]!).toNat : Int) == 48) && decide (numUpto s s.size ≤ most)
def numOut (s : ByteArray) (most : Int) : Int := if numGood s most then numUpto s s.size else 0

theorem numOut_bad {s : ByteArray} {most : Int} (h : numGood s most = false) : numOut s most = 0 := by simp [numOut, h]
theorem numOut_good {s : ByteArray} {most : Int} (h : numGood s most = true) : numOut s most = numUpto s s.size := by simp [numOut, h]

theorem bad_digit {s : ByteArray} {most : Int} {k : Nat} (hk : k < s.size) (h : digitB ((s[k]).toNat : Int) = false) : numGood s most = false := by
  rw [numGood, end_false (p := okDigit) hk h]; simp
theorem bad_size {s : ByteArray} {most : Int} (h : inB s.size 1 7 = false) : numGood s most = false := by
  rw [numGood, h]; simp
theorem bad_nought {s : ByteArray} {most : Int} (h1 : 1 < s.size) (h : (((s[0]).toNat : Int) == 48) = true) : numGood s most = false := by
  rw [numGood, byteBang s 0 (by omega), h, decide_eq_true h1]; simp
theorem bad_most {s : ByteArray} {most : Int} (h : most < numUpto s s.size) : numGood s most = false := by
  rw [numGood, decide_eq_false (p := numUpto s s.size ≤ most) (by omega)]; simp
theorem good_all {s : ByteArray} {most : Int} (h1 : inB s.size 1 7 = true) (h2 : allUpto okDigit s s.size = true) (h3 : ∀ h : 1 < s.size, (((s[0]).toNat : Int) == 48) = false) (h4 : numUpto s s.size ≤ most) : numGood s most = true := by
  rw [numGood, h1, h2, decide_eq_true h4]
  by_cases h : 1 < s.size
  · rw [byteBang s 0 (by omega), h3 h]; simp
  · simp [h]

theorem in17 {s : ByteArray} (h : inB s.size 1 7 = true) : 1 ≤ s.size ∧ s.size ≤ 7 := by
  simp only [inB, Bool.and_eq_true, decide_eq_true_eq] at h
  omega
theorem out17 {s : ByteArray} (h : ¬ inB s.size 1 7 = true) : inB s.size 1 7 = false := by simpa using h

theorem pair_bad {s : ByteArray} {most : Int} (h : numGood s most = false) : Ending.returned (.tuple #[.int .i64 0, .bool false]) = Ending.returned (.tuple #[.int .i64 (numOut s most), .bool (numGood s most)]) := by
  rw [numOut_bad h, h]
theorem pair_good {s : ByteArray} {most n : Int} (h : numGood s most = true) (hn : n = numUpto s s.size) : Ending.returned (.tuple #[.int .i64 n, .bool true]) = Ending.returned (.tuple #[.int .i64 (numOut s most), .bool (numGood s most)]) := by
  rw [numOut_good h, h, hn]

set_option maxHeartbeats 1000000 in
theorem specNum_c (s : ByteArray) (most : Int) (hs : s.size ≤ maxLen) (w : World) :
    Calls Tryz.prog 97 #[.string s, .int .i64 most] w fun e w' => e = .returned (.tuple #[.int .i64 (numOut s most), .bool (numGood s most)]) ∧ w = w' := by
  unfold maxLen at hs
  go_enter Tryz.func97, Tryz.ntmps97
  go_wp2
  go_loop [6, 7] (fun vn vi => ∃ (k : Nat) (n : Int), k ≤ s.size ∧ k ≤ 8 ∧ vi = .int .i64 (k : Int) ∧ vn = .int .i64 n ∧ 0 ≤ n ∧ n < 100000000 ∧ Hid (n = numUpto s k) ∧ Hid (allUpto okDigit s k = true)) (fun _ vi => s.size - (intOf vi).toNat)
  case atStart => exact ⟨0, 0, Nat.zero_le _, by omega, rfl, rfl, by omega, by omega, rfl, rfl⟩
  case round =>
    obtain ⟨k, n, hk, hk8, rfl, rfl, hn0, hn1, hn, hh⟩ := hrel
    go_wp2_with (first
      | (go_at_call 96; refine (digit_c _ (byte0 _) (byte255 _) _).mono ?_; rintro e w' ⟨rfl, rfl⟩)
      | (go_at_call 93; refine (in_c _ _ _ _).mono ?_; rintro e w' ⟨rfl, rfl⟩))
    · have hlt : k < s.size := by assumption
      have h1 : (!digitB ((s[k]).toNat : Int)) = true := by assumption
      go_ret2
      exact ⟨pair_bad (bad_digit hlt (by simpa using h1)), rfl⟩
    · have hlt : k < s.size := by assumption
      have h8 : (k : Int) < 8 := by assumption
      have h1 : (!digitB ((s[k]).toNat : Int)) = false := by assumption
      have h2 : digitB ((s[k]).toNat : Int) = true := by simpa using h1
      have hd := digit_bounds h2
      have hh' := step_true (p := okDigit) hlt hh h2
      have hb := num_small hh'.out (by omega)
      have e : n * 10 + (((s[k]).toNat : Int) - 48) % 256 = numUpto s (k + 1) := by
        rw [numUpto_step hlt, ← hn.out]; omega
      go_round
      case rel => exact ⟨k + 1, numUpto s (k + 1), by omega, by omega, by go_num, by rw [e], hb.1, hb.2, rfl, hh'⟩
      case measure => simp [intOf]; omega
    · exfalso; have := in17 (s := s) (by assumption); omega
    · exfalso; have := in17 (s := s) (by assumption); omega
    · exfalso; have := in17 (s := s) (by assumption); omega
    · have h1 : ¬ inB (s.size : Int) 1 7 = true := by assumption
      go_ret2
      exact ⟨pair_bad (bad_size (out17 h1)), rfl⟩
    · have h1 : (1 : Int) < (s.size : Int) := by assumption
      have h2 : ((s[0]).toNat : Int) = 48 := by assumption
      go_ret2
      exact ⟨pair_bad (bad_nought (by omega) (by rw [h2]; rfl)), rfl⟩
    · have he : k = s.size := by omega
      subst he
      have h1 : (((s[0]).toNat : Int) == 48) = true ∨ most < n := by assumption
      have h2 : ¬ ((s[0]).toNat : Int) = 48 := by assumption
      have h3 : most < n := by
        rcases h1 with h1 | h1
        · exact absurd (by simpa using h1) h2
        · exact h1
      go_ret2
      exact ⟨pair_bad (bad_most (by rw [← hn.out]; exact h3)), rfl⟩
    · have he : k = s.size := by omega
      subst he
      have h0 : inB (s.size : Int) 1 7 = true := by assumption
      have h1 : (((s[0]).toNat : Int) == 48) = false ∧ n ≤ most := by assumption
      go_ret2
      exact ⟨pair_good (good_all h0 hh.out (fun _ => h1.1) (by rw [← hn.out]; exact h1.2)) hn.out, rfl⟩
    · have he : k = s.size := by omega
      subst he
      have h3 : most < n := by assumption
      go_ret2
      exact ⟨pair_bad (bad_most (by rw [← hn.out]; exact h3)), rfl⟩
    · have he : k = s.size := by omega
      subst he
      have h0 : inB (s.size : Int) 1 7 = true := by assumption
      have h1 : n ≤ most := by assumption
      have h2 : (s.size : Int) ≤ 1 := by assumption
      go_ret2
      exact ⟨pair_good (good_all h0 hh.out (fun h => by omega) (by rw [← hn.out]; exact h1)) hn.out, rfl⟩
    · have h1 : ¬ inB (s.size : Int) 1 7 = true := by assumption
      go_ret2
      exact ⟨pair_bad (bad_size (out17 h1)), rfl⟩

theorem in_false {s : ByteArray} (h : s.size = 0 ∨ 7 < s.size) : inB s.size 1 7 = false := by
  simp only [inB, Bool.and_eq_false_iff, decide_eq_false_iff_not]
  omega
theorem in_true {s : ByteArray} (h0 : 0 < s.size) (h : s.size ≤ 7) : inB s.size 1 7 = true := by
  simp only [inB, Bool.and_eq_true, decide_eq_true_eq]
  omega

set_option maxHeartbeats 1000000 in
theorem implNum_c (s : ByteArray) (most : Int) (hs : s.size ≤ maxLen) (w : World) :
    Calls Tryz.prog 105 #[.string s, .int .i64 most] w fun e w' => e = .returned (.tuple #[.int .i64 (numOut s most), .bool (numGood s most)]) ∧ w = w' := by
  unfold maxLen at hs
  by_cases h0 : s.size = 0
  · rw [← pair_bad (bad_size (in_false (.inl h0)))]
    have h0' : ((s.size : Int) == 0) = true := by simp [h0]
    go_enter Tryz.func105, Tryz.ntmps105
    go_wp2
    go_ret2
    exact ⟨rfl, rfl⟩
  have h0' : ((s.size : Int) == 0) = false := size_ne h0
  by_cases h7 : 7 < s.size
  · rw [← pair_bad (bad_size (in_false (.inr h7)))]
    have h7' : (7 : Int) < (s.size : Int) := by omega
    go_enter Tryz.func105, Tryz.ntmps105
    go_wp2
    go_ret2
    exact ⟨rfl, rfl⟩
  have hp : 0 < s.size := by omega
  have h7' : ¬ (7 : Int) < (s.size : Int) := by omega
  by_cases hz : 1 < s.size ∧ (((s[0]).toNat : Int) == 48) = true
  · rw [← pair_bad (bad_nought hz.1 hz.2)]
    have hz1 : (1 : Int) < (s.size : Int) := by omega
    have hz2 := hz.2
    clear hz
    go_enter Tryz.func105, Tryz.ntmps105
    go_wp2
    go_ret2
    exact ⟨rfl, rfl⟩
  have hz3 : ∀ h : 1 < s.size, (((s[0]).toNat : Int) == 48) = false := fun h => by
    cases e : (((s[0]).toNat : Int) == 48) with
    | false => rfl
    | true => exact absurd ⟨h, e⟩ hz
  have HZ : Hid (∀ h : 1 < s.size, (((s[0]).toNat : Int) == 48) = false) := hz3
  have hg : (((s[0]).toNat : Int) == 48) = true → ¬ (1 : Int) < (s.size : Int) := fun h h1 => hz ⟨by omega, h⟩
  clear hz hz3
  have hin := in_true hp (by omega)
  have main : ∀ w, Calls Tryz.prog 105 #[.string s, .int .i64 most] w fun e w' => e = .returned (.tuple #[.int .i64 (numOut s most), .bool (numGood s most)]) ∧ w = w' := by
    intro w
    cases hc : (((s[0]).toNat : Int) == 48) with
    | true =>
      have hg1 := hg hc
      clear hg
      go_enter Tryz.func105, Tryz.ntmps105
      go_wp2
      go_loop [6, 28] (fun vn vi => ∃ (k : Nat) (n : Int), k ≤ s.size ∧ vi = .int .i64 (k : Int) ∧ vn = .int .i64 n ∧ 0 ≤ n ∧ n < 100000000 ∧ Hid (n = numUpto s k) ∧ Hid (allUpto okDigit s k = true)) (fun _ vi => s.size - (intOf vi).toNat)
      case atStart => exact ⟨0, 0, Nat.zero_le _, rfl, rfl, by omega, by omega, rfl, rfl⟩
      case round =>
        obtain ⟨k, n, hk, rfl, rfl, hn0, hn1, hn, hh⟩ := hrel
        go_wp2_with (go_at_call 104; refine (isDigit_c _ _).mono ?_; rintro e w' ⟨rfl, rfl⟩)
        · have hlt : k < s.size := by assumption
          have h1 : (!digitB ((s[k]).toNat : Int)) = true := by assumption
          go_ret2
          exact ⟨pair_bad (bad_digit hlt (by simpa using h1)), rfl⟩
        · have hlt : k < s.size := by assumption
          have h1 : (!digitB ((s[k]).toNat : Int)) = false := by assumption
          have h2 : digitB ((s[k]).toNat : Int) = true := by simpa using h1
          have hd := digit_bounds h2
          have hh' := step_true (p := okDigit) hlt hh h2
          have hb := num_small hh'.out (by omega)
          have e : n * 10 + (((s[k]).toNat : Int) - 48) % 256 = numUpto s (k + 1) := by
            rw [numUpto_step hlt, ← hn.out]; omega
          go_round
          case rel => exact ⟨k + 1, numUpto s (k + 1), by omega, by go_num, by rw [e], hb.1, hb.2, rfl, hh'⟩
          case measure => simp [intOf]; omega
        · have he : k = s.size := by omega
          subst he
          have h3 : most < n := by assumption
          go_ret2
          exact ⟨pair_bad (bad_most (by rw [← hn.out]; exact h3)), rfl⟩
        · have he : k = s.size := by omega
          subst he
          have h3 : n ≤ most := by omega
          go_ret2
          exact ⟨pair_good (good_all hin hh.out HZ.out (by rw [← hn.out]; exact h3)) hn.out, rfl⟩
    | false =>
      clear hg
      go_enter Tryz.func105, Tryz.ntmps105
      go_wp2
      go_loop [6, 28] (fun vn vi => ∃ (k : Nat) (n : Int), k ≤ s.size ∧ vi = .int .i64 (k : Int) ∧ vn = .int .i64 n ∧ 0 ≤ n ∧ n < 100000000 ∧ Hid (n = numUpto s k) ∧ Hid (allUpto okDigit s k = true)) (fun _ vi => s.size - (intOf vi).toNat)
      case atStart => exact ⟨0, 0, Nat.zero_le _, rfl, rfl, by omega, by omega, rfl, rfl⟩
      case round =>
        obtain ⟨k, n, hk, rfl, rfl, hn0, hn1, hn, hh⟩ := hrel
        go_wp2_with (go_at_call 104; refine (isDigit_c _ _).mono ?_; rintro e w' ⟨rfl, rfl⟩)
        · have hlt : k < s.size := by assumption
          have h1 : (!digitB ((s[k]).toNat : Int)) = true := by assumption
          go_ret2
          exact ⟨pair_bad (bad_digit hlt (by simpa using h1)), rfl⟩
        · have hlt : k < s.size := by assumption
          have h1 : (!digitB ((s[k]).toNat : Int)) = false := by assumption
          have h2 : digitB ((s[k]).toNat : Int) = true := by simpa using h1
          have hd := digit_bounds h2
          have hh' := step_true (p := okDigit) hlt hh h2
          have hb := num_small hh'.out (by omega)
          have e : n * 10 + (((s[k]).toNat : Int) - 48) % 256 = numUpto s (k + 1) := by
            rw [numUpto_step hlt, ← hn.out]; omega
          go_round
          case rel => exact ⟨k + 1, numUpto s (k + 1), by omega, by go_num, by rw [e], hb.1, hb.2, rfl, hh'⟩
          case measure => simp [intOf]; omega
        · have he : k = s.size := by omega
          subst he
          have h3 : most < n := by assumption
          go_ret2
          exact ⟨pair_bad (bad_most (by rw [← hn.out]; exact h3)), rfl⟩
        · have he : k = s.size := by omega
          subst he
          have h3 : n ≤ most := by omega
          go_ret2
          exact ⟨pair_good (good_all hin hh.out HZ.out (by rw [← hn.out]; exact h3)) hn.out, rfl⟩
  exact main w
end Go.Proofs.YtlnofdlhjeomfaaGreatDoor
