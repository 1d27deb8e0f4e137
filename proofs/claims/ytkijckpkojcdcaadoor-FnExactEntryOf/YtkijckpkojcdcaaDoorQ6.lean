/-
  Contracts for the walks, several texts in one: each part says what it proves, and under which conditions.
-/
import Derived.Test.YtkijckpkojcdcaaDoorQ3

/-! A copy of an entry, as the program makes it: a contract for the walks; conditions: it lies in memory, and holds at most 2 to the 20. -/
namespace Go.Proofs.YtkijckpkojcdcaaDoor
open Go.RowKit
set_option linter.unusedSimpArgs false
set_option linter.unusedVariables false

set_option maxHeartbeats 2000000 in
set_option maxRecDepth 100000 in
theorem copyEntry_c (S : Nat → Prop) (d : EntryD) (cs : List Value) (w : World) (hd : shEntry.lies S w cs d) (hB : ∀ b, S b → b < w.heap.size) (hw : wtEntry d ≤ 1048576) :
    Calls Tryd.prog 39 #[.agg cs.toArray] w fun e w' => ∃ cs', e = .returned (.agg cs'.toArray) ∧ shEntryO.lies (Ow w.heap.size w'.heap.size) w' cs' d ∧ Below w.heap.size w w' := by
  obtain ⟨u0, u1, rfl, s_n, r0, p0, r1⟩ := hd
  have hb2 : ∀ A R, Below w.heap.size w ((w.alloc A).alloc R) := fun A R => ((Below.refl _ _).alloc (Nat.le_refl _) _).alloc (by simp) _
  have hBn : ∀ w1, Below w.heap.size w w1 → ∀ b, S b → b < w1.heap.size := fun w1 h b hb => Nat.lt_of_lt_of_le (hB b hb) h.size
  have hnw : wtRow wtNeed d.needs ≤ 1048576 := by unfold wtEntry at hw; omega
  have hbk : bulkS d.vP ≤ 1048576 := by unfold wtEntry at hw; omega
  have hns : d.name.size ≤ 1048576 := by unfold wtEntry at hw; omega
  have hnl := r1.len
  have hns2 : ∀ x ∈ d.needs, x.n.size ≤ maxLen ∧ x.r.size ≤ maxLen := fun x hx => by
    have h1 : x.n.size + x.r.size ≤ wtRow wtNeed d.needs := wt_wtRow wtNeed hx
    unfold maxLen; omega
  have HN := hidden (fun w1 => clone_c d.name w1 hns)
  have HV' : ∀ w1, Below w.heap.size w w1 → Calls Tryd.prog 62 #[.agg #[.int .i64 d.vA, .int .i64 d.vB, .int .i64 d.vC, u0]] w1 fun e w' => ∃ u', e = .returned (.agg #[.int .i64 d.vA, .int .i64 d.vB, .int .i64 d.vC, u']) ∧ w'.ownsRow w1.heap.size 9 1 u' d.vP.length (strsV d.vP) ∧ Below w1.heap.size w1 w' := fun w1 h => copyVer_c _ _ _ u0 d.vP w1 ((r0.keep (.of h hB)).reads (hBn w1 h)) hbk
  have HD' : ∀ w1, Below w.heap.size w w1 → Calls Tryd.prog 63 #[u1] w1 fun e w' => ∃ u', e = .returned u' ∧ w'.ownsRow w1.heap.size 106 2 u' d.needs.length (needsV d.needs) ∧ Below w1.heap.size w1 w' := fun w1 h => copyNeeds_c S u1 d.needs w1 (r1.keep (.of h hB)) (hBn w1 h) hnw
  obtain ⟨a0, cap0, eu0, _⟩ := id r0
  rw [length_strsV] at eu0
  subst eu0
  clear r0
  obtain ⟨a1, cap1, eu1, _⟩ := id r1
  subst eu1
  clear r1
  obtain ⟨hAz, hRz⟩ := two_boxes (w := w) (.cells #[.string d.name, .int .i64 d.vA, .int .i64 d.vB, .int .i64 d.vC, .slice a0 d.vP.length cap0, .slice a1 d.needs.length cap1] 42 (0, 0)) (.cells #[.string ⟨#[]⟩, .int .i64 0, .int .i64 0, .int .i64 0, .slice none 0 0, .slice none 0 0] 42 (0, 0))
  have hwz := hb2 (.cells #[.string d.name, .int .i64 d.vA, .int .i64 d.vB, .int .i64 d.vC, .slice a0 d.vP.length cap0, .slice a1 d.needs.length cap1] 42 (0, 0)) (.cells #[.string ⟨#[]⟩, .int .i64 0, .int .i64 0, .int .i64 0, .slice none 0 0, .slice none 0 0] 42 (0, 0))
  have hsz : ((w.alloc (.cells #[.string d.name, .int .i64 d.vA, .int .i64 d.vB, .int .i64 d.vC, .slice a0 d.vP.length cap0, .slice a1 d.needs.length cap1] 42 (0, 0))).alloc (.cells #[.string ⟨#[]⟩, .int .i64 0, .int .i64 0, .int .i64 0, .slice none 0 0, .slice none 0 0] 42 (0, 0))).heap.size = w.heap.size + 2 := by simp
  go_enter Tryd.func39, Tryd.ntmps39
  go_wp2_with fail
  obtain ⟨wz, hW⟩ : ∃ wz, wz = (w.alloc (.cells #[.string d.name, .int .i64 d.vA, .int .i64 d.vB, .int .i64 d.vC, .slice a0 d.vP.length cap0, .slice a1 d.needs.length cap1] 42 (0, 0))).alloc (.cells #[.string ⟨#[]⟩, .int .i64 0, .int .i64 0, .int .i64 0, .slice none 0 0, .slice none 0 0] 42 (0, 0)) := ⟨_, rfl⟩
  rw [← hW] at hAz hRz hwz hsz
  rw [← hW]
  clear hW
  have HV : Hid (∀ w1, Below wz.heap.size wz w1 → Calls Tryd.prog 62 #[.agg #[.int .i64 d.vA, .int .i64 d.vB, .int .i64 d.vC, .slice a0 d.vP.length cap0]] w1 fun e w' => ∃ u', e = .returned (.agg #[.int .i64 d.vA, .int .i64 d.vB, .int .i64 d.vC, u']) ∧ w'.ownsRow w1.heap.size 9 1 u' d.vP.length (strsV d.vP) ∧ Below w1.heap.size w1 w') := fun w1 h => HV' w1 (hwz.trans (h.mono (by omega)))
  have HD : Hid (∀ w1, Below wz.heap.size wz w1 → Calls Tryd.prog 63 #[.slice a1 d.needs.length cap1] w1 fun e w' => ∃ u', e = .returned u' ∧ w'.ownsRow w1.heap.size 106 2 u' d.needs.length (needsV d.needs) ∧ Below w1.heap.size w1 w') := fun w1 h => HD' w1 (hwz.trans (h.mono (by omega)))
  have h0 : Below wz.heap.size wz wz.drew := (Below.refl _ _).drew
  have KEEP : Hid (∀ w1, Below wz.heap.size wz w1 → w1.cell? ⟨w.heap.size, 0, none⟩ = some (.string d.name) ∧ w1.cell? ⟨w.heap.size, 1, none⟩ = some (.int .i64 d.vA) ∧ w1.cell? ⟨w.heap.size, 2, none⟩ = some (.int .i64 d.vB) ∧ w1.cell? ⟨w.heap.size, 3, none⟩ = some (.int .i64 d.vC) ∧ w1.cell? ⟨w.heap.size, 4, none⟩ = some (.slice a0 d.vP.length cap0) ∧ w1.cell? ⟨w.heap.size, 5, none⟩ = some (.slice a1 d.needs.length cap1)) := fun w1 h => by
    have hA := (h.block w.heap.size (by omega)).trans hAz
    exact ⟨vblk_cell hA 0, vblk_cell hA 1, vblk_cell hA 2, vblk_cell hA 3, vblk_cell hA 4, vblk_cell hA 5⟩
  clear HV' HD'
  refine wp_region_held_drew (S := (fun w1 => w1.cell? ⟨w.heap.size, 0, none⟩ = some (.string d.name) ∧ w1.cell? ⟨w.heap.size, 1, none⟩ = some (.int .i64 d.vA) ∧ w1.cell? ⟨w.heap.size, 2, none⟩ = some (.int .i64 d.vB) ∧ w1.cell? ⟨w.heap.size, 3, none⟩ = some (.int .i64 d.vC) ∧ w1.cell? ⟨w.heap.size, 4, none⟩ = some (.slice a0 d.vP.length cap0) ∧ w1.cell? ⟨w.heap.size, 5, none⟩ = some (.slice a1 d.needs.length cap1))) (by kernel_rfl) ?SR20 (fun hHeld => ?_)
  case SR20 => (first | (with_reducible exact KEEP.out _ h3) | (with_reducible exact KEEP.out _ h2) | (with_reducible exact KEEP.out _ h1) | (with_reducible exact KEEP.out _ h0))
  refine wpAnyH_take (i := 0) (oi := _) (v := ?vR20) rfl (by kernel_rfl) (by kernel_rfl) (by kernel_rfl) (fun _ _ _ h => h) (Or.inl ⟨by rfl, ?yR20⟩) hHeld ?_
  case yR20 => (intro w hSw; (try dsimp only at hSw); go_simp <;> with_reducible rfl)
  try simp only [Act.put, List.getElem_toArray, List.getElem_cons_zero, List.getElem_cons_succ, List.setIfInBounds_toArray, List.set_cons_zero, List.set_cons_succ]
  refine wpAnyH_take (i := 1) (oi := _) (v := ?vR21) rfl (by kernel_rfl) (by kernel_rfl) (by kernel_rfl) (fun _ _ _ h => h) (Or.inl ⟨by rfl, ?yR21⟩) hHeld ?_
  case yR21 => (intro w hSw; (try dsimp only at hSw); go_simp <;> with_reducible rfl)
  try simp only [Act.put, List.getElem_toArray, List.getElem_cons_zero, List.getElem_cons_succ, List.setIfInBounds_toArray, List.set_cons_zero, List.set_cons_succ]
  refine wpAnyH_take (i := 3) (oi := _) (v := ?vR22) rfl (by kernel_rfl) (by kernel_rfl) (by kernel_rfl) (fun _ _ _ h => h) (Or.inl ⟨by rfl, ?yR22⟩) hHeld ?_
  case yR22 => (intro w hSw; (try dsimp only at hSw); go_simp <;> with_reducible rfl)
  try simp only [Act.put, List.getElem_toArray, List.getElem_cons_zero, List.getElem_cons_succ, List.setIfInBounds_toArray, List.set_cons_zero, List.set_cons_succ]
  refine wpAnyH_take (i := 4) (oi := _) (v := ?vR23) rfl (by kernel_rfl) (by kernel_rfl) (by kernel_rfl) (fun _ _ _ h => h) (Or.inl ⟨by rfl, ?yR23⟩) hHeld ?_
  case yR23 => (intro w hSw; (try dsimp only at hSw); go_simp <;> with_reducible rfl)
  try simp only [Act.put, List.getElem_toArray, List.getElem_cons_zero, List.getElem_cons_succ, List.setIfInBounds_toArray, List.set_cons_zero, List.set_cons_succ]
  refine wpAnyH_take (i := 6) (oi := _) (v := ?vR24) rfl (by kernel_rfl) (by kernel_rfl) (by kernel_rfl) (fun _ _ _ h => h) (Or.inl ⟨by rfl, ?yR24⟩) hHeld ?_
  case yR24 => (intro w hSw; (try dsimp only at hSw); go_simp <;> with_reducible rfl)
  try simp only [Act.put, List.getElem_toArray, List.getElem_cons_zero, List.getElem_cons_succ, List.setIfInBounds_toArray, List.set_cons_zero, List.set_cons_succ]
  refine wpAnyH_take (i := 7) (oi := _) (v := ?vR25) rfl (by kernel_rfl) (by kernel_rfl) (by kernel_rfl) (fun _ _ _ h => h) (Or.inl ⟨by rfl, ?yR25⟩) hHeld ?_
  case yR25 => (intro w hSw; (try dsimp only at hSw); go_simp <;> with_reducible rfl)
  try simp only [Act.put, List.getElem_toArray, List.getElem_cons_zero, List.getElem_cons_succ, List.setIfInBounds_toArray, List.set_cons_zero, List.set_cons_succ]
  refine wpAnyH_ready (rs := [2]) (by kernel_rfl) (by simp) ?_
  refine AllReadyH.cons rfl (fun K hK => ?_) AllReadyH.nil
  go_simp
  go_wp2_with (go_at_call 61; refine (HN.out _).mono ?_; rintro e w1 ⟨rfl, b1⟩; have h1 : Below wz.heap.size wz w1 := h0.trans (b1.mono h0.size))
  clear hHeld
  refine hK.out _ _ ?SR27 (fun hHeld => ?_)
  case SR27 => ((try dsimp only); first | (with_reducible exact KEEP.out _ h3) | (with_reducible exact KEEP.out _ h2) | (with_reducible exact KEEP.out _ h1) | (with_reducible exact KEEP.out _ h0))
  clear hK K
  refine wpAnyH_ready (rs := [5]) (by kernel_rfl) (by simp) ?_
  refine AllReadyH.cons rfl (fun K hK => ?_) AllReadyH.nil
  go_simp
  go_wp2_with (go_at_call 62; refine (HV.out _ h1).mono ?_; rintro e w2 ⟨c0, rfl, o2, b2⟩; have h2 : Below wz.heap.size wz w2 := h1.trans (b2.mono h1.size); obtain ⟨qv, cv, ev⟩ := owns_sliceP o2; subst ev)
  clear hHeld
  refine hK.out _ _ ?SR28 (fun hHeld => ?_)
  case SR28 => ((try dsimp only); first | (with_reducible exact KEEP.out _ h3) | (with_reducible exact KEEP.out _ h2) | (with_reducible exact KEEP.out _ h1) | (with_reducible exact KEEP.out _ h0))
  clear hK K
  refine wpAnyH_ready (rs := [8]) (by kernel_rfl) (by simp) ?_
  refine AllReadyH.cons rfl (fun K hK => ?_) AllReadyH.nil
  go_simp
  go_wp2_with (go_at_call 63; refine (HD.out _ h2).mono ?_; rintro e w3 ⟨c1, rfl, o3, b3⟩; have h3 : Below wz.heap.size wz w3 := h2.trans (b3.mono h2.size); obtain ⟨qn, cn, en⟩ := owns_sliceP o3; subst en)
  clear hHeld
  refine hK.out _ _ ?SR29 (fun hHeld => ?_)
  case SR29 => ((try dsimp only); first | (with_reducible exact KEEP.out _ h3) | (with_reducible exact KEEP.out _ h2) | (with_reducible exact KEEP.out _ h1) | (with_reducible exact KEEP.out _ h0))
  clear hK K
  refine wpAnyH_take (i := 9) (oi := _) (v := ?vR29) rfl (by kernel_rfl) (by kernel_rfl) (by kernel_rfl) (fun _ _ _ h => h) (Or.inl ⟨by rfl, ?yR29⟩) hHeld ?_
  case yR29 => (intro w hSw; (try dsimp only at hSw); go_simp <;> with_reducible rfl)
  try simp only [Act.put, List.getElem_toArray, List.getElem_cons_zero, List.getElem_cons_succ, List.setIfInBounds_toArray, List.set_cons_zero, List.set_cons_succ]
  have hR3 := (h3.block (w.heap.size + 1) (by omega)).trans hRz
  have fy := vblk_frozen hR3
  have y0 := vblk_cell hR3 0
  have y1 := vblk_cell hR3 1
  have y2 := vblk_cell hR3 2
  have y3 := vblk_cell hR3 3
  have y4 := vblk_cell hR3 4
  have y5 := vblk_cell hR3 5
  simp only [List.getElem?_toArray, List.getElem?_cons_succ, List.getElem?_cons_zero] at y0 y1 y2 y3 y4 y5
  refine wpAnyH_ready (rs := [10]) (by kernel_rfl) (by simp) ?_
  refine AllReadyH.cons rfl (fun K hK => ?_) AllReadyH.nil
  go_simp
  clear hHeld
  refine hK.out _ _ ?UR2_10 (fun hHeld => ?_)
  case UR2_10 => (have hA3 := (h3.block w.heap.size (by omega)).trans hAz; exact ⟨vblk_cell (cells_put (cells_put (cells_put (cells_put (cells_put (cells_put hA3 (by omega) _ _) (by omega) _ _) (by omega) _ _) (by omega) _ _) (by omega) _ _) (by omega) _ _) 0, vblk_cell (cells_put (cells_put (cells_put (cells_put (cells_put (cells_put hA3 (by omega) _ _) (by omega) _ _) (by omega) _ _) (by omega) _ _) (by omega) _ _) (by omega) _ _) 1, vblk_cell (cells_put (cells_put (cells_put (cells_put (cells_put (cells_put hA3 (by omega) _ _) (by omega) _ _) (by omega) _ _) (by omega) _ _) (by omega) _ _) (by omega) _ _) 2, vblk_cell (cells_put (cells_put (cells_put (cells_put (cells_put (cells_put hA3 (by omega) _ _) (by omega) _ _) (by omega) _ _) (by omega) _ _) (by omega) _ _) (by omega) _ _) 3, vblk_cell (cells_put (cells_put (cells_put (cells_put (cells_put (cells_put hA3 (by omega) _ _) (by omega) _ _) (by omega) _ _) (by omega) _ _) (by omega) _ _) (by omega) _ _) 4, vblk_cell (cells_put (cells_put (cells_put (cells_put (cells_put (cells_put hA3 (by omega) _ _) (by omega) _ _) (by omega) _ _) (by omega) _ _) (by omega) _ _) (by omega) _ _) 5⟩)
  clear hK K
  try simp only [Act.put, List.getElem_toArray, List.getElem_cons_zero, List.getElem_cons_succ, List.setIfInBounds_toArray, List.set_cons_zero, List.set_cons_succ]
  refine wpAnyH_done (by kernel_rfl) ?_ _
  have hs3 := h3.size
  have hs1 := h1.size
  have hs2' := h2.size
  have HO : Hid (∀ W : World, W.heap.size = w3.heap.size → Kp (fun b => b ≠ w.heap.size + 1) w3 W → shEntryO.lies (Ow w.heap.size W.heap.size) W [.string d.name, .int .i64 d.vA, .int .i64 d.vB, .int .i64 d.vC, .slice qv d.vP.length cv, .slice qn d.needs.length cn] d) := fun W hWs hk => by
    have hsz0 : wz.heap.size = w.heap.size + 2 := hsz
    have i2 : ∀ g, (Value.slice qv d.vP.length cv).ownBlock = some g → Ow w1.heap.size w2.heap.size g := owns_in o2
    have i3 : ∀ g, (Value.slice qn d.needs.length cn).ownBlock = some g → Ow w2.heap.size w3.heap.size g := owns_in o3
    have o2b := owns_of_belowN o2 b3
    refine ⟨_, _, rfl, s_n, ⟨owns_kept hk (fun g hg => by have := i2 g hg; have := this.1; show g ≠ _; omega) (owns_lo (Nat.zero_le _) o2b), fun g hg => ?_⟩, p0, ?_⟩
    · have h9 := i2 g hg
      have h8 := b3.size
      exact ⟨by have := h9.1; omega, by have := h9.2; omega⟩
    · have hK2 : Kp (Ow w2.heap.size w3.heap.size) w3 W := fun b hb => hk b (by have := hb.1; show b ≠ _; omega)
      exact ((needs_own o3 hnl hns2).keep hK2).mono (Ow.mono (by omega) (by omega))
  clear HV HD HN KEEP o2 o3 b1 b2 b3 h0 h1 h2 hAz hRz hHeld
  go_wp2_with fail
  refine bodyPost_ret (v := .agg #[.string d.name, .int .i64 d.vA, .int .i64 d.vB, .int .i64 d.vC, .slice qv d.vP.length cv, .slice qn d.needs.length cn]) (by simp [results, Tryd.results39, go_sem, y0, y1, y2, y3, y4, y5]) rfl ⟨[.string d.name, .int .i64 d.vA, .int .i64 d.vB, .int .i64 d.vC, .slice qv d.vP.length cv, .slice qn d.needs.length cn], rfl, HO.out _ (by simp [World.setCell]) ?_, ?_⟩
  · (repeat (refine Kp.trans ?_ (Kp.set (by simp))))
    exact fun b hb => rfl
  · (repeat (refine Below.setCell ?_ (by simp) _))
    exact hwz.trans (h3.mono (by omega))
end Go.Proofs.YtkijckpkojcdcaaDoor
