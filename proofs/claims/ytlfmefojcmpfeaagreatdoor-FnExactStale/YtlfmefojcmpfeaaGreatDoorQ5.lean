/-
  Contracts for the walks, several texts in one: each part says what it proves, and under which conditions.
-/
import Derived.WalkKit
import Derived.LaidEql
import Derived.Stop.Asserts
import Derived.RowKitTokens
import Derived.Test.YtlfmefojcmpfeaaGreatDoorQ4
import Derived.Test.YtlfmefojcmpfeaaGreatDoorQ3
import Derived.Test.YtlfmefojcmpfeaaGreatDoorQ2
import Derived.Test.YtlfmefojcmpfeaaGreatDoorQ1

/-! What reading one line of a lock answers, as the program does it: a contract for the walks; condition: the line has at most 2 to the 20 bytes. -/
namespace Go.Proofs.YtlfmefojcmpfeaaGreatDoor
open Go.RowKit
set_option linter.unusedSimpArgs false
set_option linter.unusedVariables false

theorem cutD_size (l : ByteArray) (c : UInt8) : (cutD l c).1.size ≤ l.size ∧ (cutD l c).2.1.size ≤ l.size := by
  have hge := Lib.indexByte_ge l.data.toList c
  by_cases hm : Lib.indexByte l.data.toList c = -1
  · rw [cutD_none hm]; exact ⟨Nat.le_refl _, Nat.zero_le _⟩
  · obtain ⟨k, hk⟩ := Int.eq_ofNat_of_zero_le (show 0 ≤ Lib.indexByte l.data.toList c by omega)
    have hlt := index_lt hk
    rw [cutD_some hk]
    refine ⟨?_, ?_⟩
    · show (l.extract 0 k).size ≤ _; rw [vsize l 0 k (by omega) (by omega)]; omega
    · show (l.extract (k + 1) l.size).size ≤ _; rw [vsize l (k + 1) l.size (by omega) (Nat.le_refl _)]; omega
theorem far1 {w : World} {N g i j : Nat} {v : Value} (h : g ≠ N) : (w.setCell ⟨N, i, none⟩ v).cell? ⟨g, j, none⟩ = w.cell? ⟨g, j, none⟩ := by
  unfold World.cell?
  rw [Below.heap_setCell _ _ _ _ (fun e => h e)]
theorem far5 {w : World} {N g j : Nat} {v0 v1 v2 v3 v4 : Value} (h : g ≠ N) : (((((w.setCell ⟨N, 0, none⟩ v0).setCell ⟨N, 1, none⟩ v1).setCell ⟨N, 2, none⟩ v2).setCell ⟨N, 3, none⟩ v3).setCell ⟨N, 4, none⟩ v4).cell? ⟨g, j, none⟩ = w.cell? ⟨g, j, none⟩ := by
  rw [far1 h, far1 h, far1 h, far1 h, far1 h]
theorem owns_sliceL {w : World} {lo sz n : Nat} {e : TypeId} {v : Value} {xs : List Value} (h : w.ownsRow lo e sz v n xs) : ∃ q c, v = .slice q n c := by
  rcases h.2 with ⟨rfl, h0⟩ | ⟨g, cap, cur, rfl, _⟩
  · exact ⟨none, 0, by rw [h0]⟩
  · exact ⟨_, cap, rfl⟩

set_option maxHeartbeats 8000000 in
set_option maxRecDepth 100000 in
theorem readPick_c (l : ByteArray) (hs : l.size ≤ 1048576) (w : World) :
    Calls Tryz.prog 195 #[.string l] w fun e w' => ∃ u, e = .returned (.tuple #[.agg #[.string (cutD l 64).1, .int .i64 (resN (cutD l 64).2.1 0), .int .i64 (resN (cutD l 64).2.1 1), .int .i64 (resN (cutD l 64).2.1 2), u], .bool (resOk (cutD l 64).2.1)]) ∧ w'.ownsRow w.heap.size 9 1 u (resP (cutD l 64).2.1).length (strsV (resP (cutD l 64).2.1)) ∧ Below w.heap.size w w' := by
  have HC : ∀ w1, Calls Tryz.prog 194 #[.string l, .string ⟨#[64]⟩] w1 fun e w' => e = .returned (.tuple #[.string (cutD l 64).1, .string (cutD l 64).2.1, .bool (cutD l 64).2.2]) ∧ Below w1.heap.size w1 w' := fun w1 => cut64_c l w1 hs
  obtain ⟨hn, ht⟩ := cutD_size l 64
  obtain ⟨⟨nm, tx, zz⟩, hx⟩ : ∃ p, p = cutD l 64 := ⟨_, rfl⟩
  rw [← hx] at HC hn ht ⊢
  dsimp only at HC hn ht ⊢
  have HP : ∀ w1, Calls Tryz.prog 258 #[.string tx] w1 fun e w' => ∃ q c, e = .returned (.tuple #[.agg #[.int .i64 (resN tx 0), .int .i64 (resN tx 1), .int .i64 (resN tx 2), .slice q (resP tx).length c], .bool (resOk tx)]) ∧ w'.ownsRow w1.heap.size 9 1 (.slice q (resP tx).length c) (resP tx).length (strsV (resP tx)) ∧ Below w1.heap.size w1 w' := fun w1 => (implParse_c tx (by omega) w1).mono fun e w' ⟨u, h1, h2, h3⟩ => by
    obtain ⟨q, c, rfl⟩ := owns_sliceL h2
    exact ⟨q, c, h1, h2, h3⟩
  have HK := hidden (fun w1 => clone_c nm w1 (by omega))
  obtain ⟨ra, hra⟩ : ∃ z, z = resN tx 0 := ⟨_, rfl⟩
  obtain ⟨rb, hrb⟩ : ∃ z, z = resN tx 1 := ⟨_, rfl⟩
  obtain ⟨rc, hrc⟩ : ∃ z, z = resN tx 2 := ⟨_, rfl⟩
  obtain ⟨rk, hrk⟩ : ∃ z, z = resOk tx := ⟨_, rfl⟩
  obtain ⟨rp, hrp⟩ : ∃ z, z = resP tx := ⟨_, rfl⟩
  simp only [← hra, ← hrb, ← hrc, ← hrk, ← hrp] at HP ⊢
  obtain ⟨un, hun⟩ : ∃ n, n = rp.length := ⟨_, rfl⟩
  rw [← hun] at HP ⊢
  replace HC := hidden HC
  replace HP := hidden HP
  clear hx hra hrb hrc hrk hrp hun hn ht hs
  go_enter Tryz.func195, Tryz.ntmps195
  go_wp2_with fail
  go_at_call 194
  refine (HC.out _).mono ?_
  rintro e w1 ⟨rfl, b1⟩
  have bx1 := boxAt b1
  have k1 : Below w.heap.size w w1 := ((Below.refl _ _).alloc (Nat.le_refl _) _).trans (b1.mono (by simp))
  have lt1 : w.heap.size < w1.heap.size := by have := b1.size; simp at this; omega
  clear b1 HC
  go_wp2_with fail
  go_at_call 258
  refine (HP.out _).mono ?_
  rintro e w2 ⟨uq, uc, rfl, ho, b2⟩
  have bx2 := box_below bx1 b2
  have k2 : Below w.heap.size w w2 := below_nextP k1 b2
  have lt2 : w.heap.size < w2.heap.size := Nat.lt_of_lt_of_le lt1 b2.size
  replace ho := owns_lo (lo' := w.heap.size + 1) lt1 ho
  clear b2 bx1 HP k1 lt1
  obtain ⟨O7, hO7⟩ : ∃ O, O = Obj.cells #[.int .i64 ra, .int .i64 rb, .int .i64 rc, .slice uq un uc] 30 := ⟨_, rfl⟩
  obtain ⟨W3, hW3⟩ : ∃ W, W = w2.alloc O7 := ⟨_, rfl⟩
  have b3 : Below w2.heap.size w2 W3 := by rw [hW3]; exact (Below.refl _ _).alloc (Nat.le_refl _) _
  have KEEP : Hid (∀ w', Below W3.heap.size W3 w' → w'.cell? ⟨w2.heap.size, 0, none⟩ = some (.int .i64 ra) ∧ w'.cell? ⟨w2.heap.size, 1, none⟩ = some (.int .i64 rb) ∧ w'.cell? ⟨w2.heap.size, 2, none⟩ = some (.int .i64 rc) ∧ w'.cell? ⟨w2.heap.size, 3, none⟩ = some (.slice uq un uc)) := fun w' h => by
    rw [hW3] at h
    have hx := boxAt h
    rw [hO7] at hx
    exact ⟨vblk_cell hx 0, vblk_cell hx 1, vblk_cell hx 2, vblk_cell hx 3⟩
  have BX : Hid (∀ w', Below W3.heap.size W3 w' → w'.heap[w.heap.size]? = some (.cells #[.string ⟨#[]⟩, .int .i64 0, .int .i64 0, .int .i64 0, .slice none 0 0] 59)) := fun w' h => box_below (box_below bx2 b3) h
  have hq0 : Below W3.heap.size W3 W3.drew := (Below.refl _ _).drew
  have FAR : Hid (∀ W : World, W.cell? ⟨w2.heap.size, 0, none⟩ = some (.int .i64 ra) ∧ W.cell? ⟨w2.heap.size, 1, none⟩ = some (.int .i64 rb) ∧ W.cell? ⟨w2.heap.size, 2, none⟩ = some (.int .i64 rc) ∧ W.cell? ⟨w2.heap.size, 3, none⟩ = some (.slice uq un uc) → (((((W.setCell ⟨w.heap.size, 0, none⟩ (.string nm)).setCell ⟨w.heap.size, 1, none⟩ (.int .i64 ra)).setCell ⟨w.heap.size, 2, none⟩ (.int .i64 rb)).setCell ⟨w.heap.size, 3, none⟩ (.int .i64 rc)).setCell ⟨w.heap.size, 4, none⟩ (.slice uq un uc)).cell? ⟨w2.heap.size, 0, none⟩ = some (.int .i64 ra) ∧ (((((W.setCell ⟨w.heap.size, 0, none⟩ (.string nm)).setCell ⟨w.heap.size, 1, none⟩ (.int .i64 ra)).setCell ⟨w.heap.size, 2, none⟩ (.int .i64 rb)).setCell ⟨w.heap.size, 3, none⟩ (.int .i64 rc)).setCell ⟨w.heap.size, 4, none⟩ (.slice uq un uc)).cell? ⟨w2.heap.size, 1, none⟩ = some (.int .i64 rb) ∧ (((((W.setCell ⟨w.heap.size, 0, none⟩ (.string nm)).setCell ⟨w.heap.size, 1, none⟩ (.int .i64 ra)).setCell ⟨w.heap.size, 2, none⟩ (.int .i64 rb)).setCell ⟨w.heap.size, 3, none⟩ (.int .i64 rc)).setCell ⟨w.heap.size, 4, none⟩ (.slice uq un uc)).cell? ⟨w2.heap.size, 2, none⟩ = some (.int .i64 rc) ∧ (((((W.setCell ⟨w.heap.size, 0, none⟩ (.string nm)).setCell ⟨w.heap.size, 1, none⟩ (.int .i64 ra)).setCell ⟨w.heap.size, 2, none⟩ (.int .i64 rb)).setCell ⟨w.heap.size, 3, none⟩ (.int .i64 rc)).setCell ⟨w.heap.size, 4, none⟩ (.slice uq un uc)).cell? ⟨w2.heap.size, 3, none⟩ = some (.slice uq un uc)) := fun W h => by
    obtain ⟨h0, h1, h2, h3⟩ := h
    have hne : w2.heap.size ≠ w.heap.size := by omega
    exact ⟨(far5 hne).trans h0, (far5 hne).trans h1, (far5 hne).trans h2, (far5 hne).trans h3⟩
  have HS3 : Hid (w2.heap.size < W3.heap.size) := by show _ < _; rw [hW3]; simp
  have HO7 := hidden hO7
  have HW3 := hidden hW3
  clear hO7 hW3 bx2
  go_wp2_with fail
  rw [← HO7.out, ← HW3.out]
  clear HO7 HW3
  refine wp_region_held_drew (S := (fun w' => w'.cell? ⟨w2.heap.size, 0, none⟩ = some (.int .i64 ra) ∧ w'.cell? ⟨w2.heap.size, 1, none⟩ = some (.int .i64 rb) ∧ w'.cell? ⟨w2.heap.size, 2, none⟩ = some (.int .i64 rc) ∧ w'.cell? ⟨w2.heap.size, 3, none⟩ = some (.slice uq un uc))) (by kernel_rfl) ?SR10 (fun hHeld => ?_)
  case SR10 => (exact KEEP.out _ hq0)
  refine wpAnyH_take (i := 0) (oi := _) (v := ?vR10) rfl (by kernel_rfl) (by kernel_rfl) (by kernel_rfl) (fun _ _ _ h => h) (Or.inl ⟨by rfl, ?yR10⟩) hHeld ?_
  case yR10 => (intro w hSw; (try dsimp only at hSw); go_simp <;> with_reducible rfl)
  try simp only [Act.put, List.getElem_toArray, List.getElem_cons_zero, List.getElem_cons_succ, List.setIfInBounds_toArray, List.set_cons_zero, List.set_cons_succ]
  refine wpAnyH_take (i := 2) (oi := _) (v := ?vR11) rfl (by kernel_rfl) (by kernel_rfl) (by kernel_rfl) (fun _ _ _ h => h) (Or.inl ⟨by rfl, ?yR11⟩) hHeld ?_
  case yR11 => (intro w hSw; (try dsimp only at hSw); go_simp <;> with_reducible rfl)
  try simp only [Act.put, List.getElem_toArray, List.getElem_cons_zero, List.getElem_cons_succ, List.setIfInBounds_toArray, List.set_cons_zero, List.set_cons_succ]
  refine wpAnyH_take (i := 4) (oi := _) (v := ?vR12) rfl (by kernel_rfl) (by kernel_rfl) (by kernel_rfl) (fun _ _ _ h => h) (Or.inl ⟨by rfl, ?yR12⟩) hHeld ?_
  case yR12 => (intro w hSw; (try dsimp only at hSw); go_simp <;> with_reducible rfl)
  try simp only [Act.put, List.getElem_toArray, List.getElem_cons_zero, List.getElem_cons_succ, List.setIfInBounds_toArray, List.set_cons_zero, List.set_cons_succ]
  refine wpAnyH_ready (rs := [1]) (by kernel_rfl) (by simp) ?_
  refine AllReadyH.cons rfl (fun K hK => ?_) AllReadyH.nil
  go_simp
  go_wp2_with fail
  go_at_call 116
  refine (HK.out _).mono ?_
  rintro e w4 ⟨rfl, b4⟩
  have hq4 : Below W3.heap.size W3 w4 := (Below.refl _ _).drew.trans b4
  have x7 := KEEP.out _ hq4
  have k24 : Below w2.heap.size w2 w4 := below_nextP b3 hq4
  have h04 := BX.out _ hq4
  have f4 := vblk_frozen h04
  have c0 := vblk_cell h04 0
  have c1 := vblk_cell h04 1
  have c2 := vblk_cell h04 2
  have c3 := vblk_cell h04 3
  have c4 := vblk_cell h04 4
  simp only [List.getElem?_toArray, List.getElem?_cons_succ, List.getElem?_cons_zero] at c0 c1 c2 c3 c4
  go_wp2_with fail
  clear hHeld
  refine hK.out _ _ ?SR1_3 (fun hHeld => ?_)
  case SR1_3 => ((try dsimp only); exact x7)
  clear hK K
  refine wpAnyH_take (i := 3) (oi := _) (v := ?vR14) rfl (by kernel_rfl) (by kernel_rfl) (by kernel_rfl) (fun _ _ _ h => h) (Or.inl ⟨by rfl, ?yR14⟩) hHeld ?_
  case yR14 => (intro w hSw; (try dsimp only at hSw); go_simp <;> with_reducible rfl)
  try simp only [Act.put, List.getElem_toArray, List.getElem_cons_zero, List.getElem_cons_succ, List.setIfInBounds_toArray, List.set_cons_zero, List.set_cons_succ]
  refine wpAnyH_ready (rs := [5]) (by kernel_rfl) (by simp) ?_
  refine AllReadyH.cons rfl (fun K hK => ?_) AllReadyH.nil
  have f40 := f4 0
  have f41 := f4 1
  have f42 := f4 2
  have f43 := f4 3
  have f44 := f4 4
  go_simp
  clear hHeld
  refine hK.out _ _ ?SR1_5 (fun hHeld => ?_)
  case SR1_5 => ((try dsimp only); exact FAR.out _ x7)
  clear hK K
  refine wpAnyH_take (i := 6) (oi := _) (v := ?vR16) rfl (by kernel_rfl) (by kernel_rfl) (by kernel_rfl) (fun _ _ _ h => h) (Or.inl ⟨by rfl, ?yR16⟩) hHeld ?_
  case yR16 => (intro w hSw; (try dsimp only at hSw); go_simp <;> with_reducible rfl)
  try simp only [Act.put, List.getElem_toArray, List.getElem_cons_zero, List.getElem_cons_succ, List.setIfInBounds_toArray, List.set_cons_zero, List.set_cons_succ]
  refine wpAnyH_done (by kernel_rfl) ?_ _
  go_wp2_with fail
  refine bodyPost_ret (v := .tuple #[.agg #[.string nm, .int .i64 ra, .int .i64 rb, .int .i64 rc, .slice uq un uc], .bool rk]) (by simp [results, Tryz.results195, go_sem, c0, c1, c2, c3, c4]) rfl ⟨.slice uq un uc, rfl, ?_, ?_⟩
  · have h4 := owns_of_below ho k24
    have h5 := owns_set (owns_set (owns_set (owns_set (owns_set h4 (p := ⟨w.heap.size, 0, none⟩) (by simp) (.string nm)) (p := ⟨w.heap.size, 1, none⟩) (by simp) (.int .i64 ra)) (p := ⟨w.heap.size, 2, none⟩) (by simp) (.int .i64 rb)) (p := ⟨w.heap.size, 3, none⟩) (by simp) (.int .i64 rc)) (p := ⟨w.heap.size, 4, none⟩) (by simp) (.slice uq un uc)
    exact owns_lower h5 (by omega)
  · exact (((((below_nextP k2 k24).setCell (Nat.le_refl _) _).setCell (Nat.le_refl _) _).setCell (Nat.le_refl _) _).setCell (Nat.le_refl _) _).setCell (Nat.le_refl _) _
end Go.Proofs.YtlfmefojcmpfeaaGreatDoor

/-! Copies in memory of their own, as the law makes them: contracts for the walks; condition: what is copied holds at most 2 to the 20. -/
namespace Go.Proofs.YtlfmefojcmpfeaaGreatDoor
open Go.RowKit
set_option linter.unusedSimpArgs false
set_option linter.unusedVariables false

set_option maxHeartbeats 2000000 in
set_option maxRecDepth 100000 in
theorem infoPick : (Tryz.prog.info? 59).map (fun i => (i.zero, i.size, i.bytes)) = some (some (.agg #[.string ⟨#[]⟩, .int .i64 0, .int .i64 0, .int .i64 0, .slice none 0 0]), 5, 64) := by kernel_rfl
end Go.Proofs.YtlfmefojcmpfeaaGreatDoor

/-! Copies of packs, and of rows of them, in memory of their own, as the law makes them: contracts for the walks; condition: what is copied holds at most 2 to the 20. -/
namespace Go.Proofs.YtlfmefojcmpfeaaGreatDoor
open Go.RowKit
set_option linter.unusedSimpArgs false
set_option linter.unusedVariables false

set_option maxHeartbeats 2000000 in
set_option maxRecDepth 100000 in
theorem toPack_c (S : Nat → Prop) (d : PackD) (cs : List Value) (w : World) (hd : shPack.lies S w cs d) (hB : ∀ b, S b → b < w.heap.size) (hw : wtPack d ≤ 1048576) :
    Calls Tryz.prog 145 #[.agg cs.toArray] w fun e w' => ∃ cs', e = .returned (.agg cs'.toArray) ∧ shPackO.lies (Ow w.heap.size w'.heap.size) w' cs' d ∧ Below w.heap.size w w' := by
  obtain ⟨u0, u1, u2, rfl, s_name, r0, p0, r1, r2⟩ := hd
  have hb3 : ∀ A R O, Below w.heap.size w (((w.alloc A).alloc R).alloc O) := fun A R O => (((Below.refl _ _).alloc (Nat.le_refl _) _).alloc (by simp) _).alloc (by simp; omega) _
  unfold wtPack at hw
  have HS0 : Hid (∀ w1, Below w.heap.size w w1 → Calls Tryz.prog 208 #[u0] w1 fun e w' => ∃ g, e = .returned (.slice (some ⟨g, 0, none⟩) d.uses.length d.uses.length) ∧ StrsOwn (Ow w1.heap.size w'.heap.size) w' (.slice (some ⟨g, 0, none⟩) d.uses.length d.uses.length) d.uses ∧ Below w1.heap.size w1 w') := fun w1 hb =>
    (toStrs_c u0 d.uses w1 ((r0.keep (.of hb hB)).reads (fun b h => Nat.lt_of_lt_of_le (hB b h) hb.size)) (by unfold bulkS at hw; omega)).mono fun e w' ⟨g, h1, h2, h3⟩ => ⟨g, h1, ⟨owns_lo (Nat.zero_le _) h2, owns_in h2⟩, h3⟩
  obtain ⟨a0, cap0, eu0, _⟩ := id r0
  rw [length_strsV] at eu0
  have HS1 : Hid (∀ w1, Below w.heap.size w w1 → Calls Tryz.prog 58 #[u1] w1 fun e w' => ∃ g, e = .returned (.slice (some ⟨g, 0, none⟩) d.needs.length d.needs.length) ∧ RowOwn shNeed 39 (Ow w1.heap.size w'.heap.size) w' (.slice (some ⟨g, 0, none⟩) d.needs.length d.needs.length) d.needs ∧ Below w1.heap.size w1 w') := fun w1 hb =>
    toNeedS_c S u1 d.needs w1 (r1.keep (.of hb hB)) (fun b h => Nat.lt_of_lt_of_le (hB b h) hb.size) (by omega)
  obtain ⟨a1, cap1, eu1, _⟩ := id r1
  have HS2 : Hid (∀ w1, Below w.heap.size w w1 → Calls Tryz.prog 209 #[u2] w1 fun e w' => ∃ g, e = .returned (.slice (some ⟨g, 0, none⟩) d.cmds.length d.cmds.length) ∧ RowOwn shCmdO 305 (Ow w1.heap.size w'.heap.size) w' (.slice (some ⟨g, 0, none⟩) d.cmds.length d.cmds.length) d.cmds ∧ Below w1.heap.size w1 w') := fun w1 hb =>
    toCmdS_c S u2 d.cmds w1 (r2.keep (.of hb hB)) (fun b h => Nat.lt_of_lt_of_le (hB b h) hb.size) (by omega)
  obtain ⟨a2, cap2, eu2, _⟩ := id r2
  subst eu0
  clear r0
  subst eu1
  clear r1
  subst eu2
  clear r2
  go_enter Tryz.func145, Tryz.ntmps145
  go_wp2_with fail
  go_at_call 208
  refine (HS0.out _ (hb3 _ _ _)).mono ?_
  rintro e w1 ⟨g1, rfl, R0, b1⟩
  obtain ⟨hA1, hR1, hO1⟩ := vthree b1
  have s3 : ∀ A R O, (((w.alloc A).alloc R).alloc O).heap.size = w.heap.size + 1 + 1 + 1 := fun A R O => by simp
  rw [s3] at b1 R0
  have m1 : w.heap.size + 3 ≤ w1.heap.size := by have := b1.size; rw [s3] at this; omega
  have kw1 : Below w.heap.size w w1 := (hb3 _ _ _).trans (b1.mono (by omega))
  replace R0 := R0.mono (S' := Ow (w.heap.size + 3) w1.heap.size) (Ow.mono (by omega) (Nat.le_refl _))
  have m1' : w.heap.size + 3 ≤ w1.heap.size := by omega
  have o0 := vblk_cell hO1 0
  have q0 := vblk_cell hR1 0
  have y0 := vblk_cell hA1 0
  have o1 := vblk_cell hO1 1
  have q1 := vblk_cell hR1 1
  have y1 := vblk_cell hA1 1
  have o2 := vblk_cell hO1 2
  have q2 := vblk_cell hR1 2
  have y2 := vblk_cell hA1 2
  have o3 := vblk_cell hO1 3
  have q3 := vblk_cell hR1 3
  have y3 := vblk_cell hA1 3
  have fo := vblk_frozen hO1
  have fr := vblk_frozen hR1
  simp only [List.getElem?_toArray, List.getElem?_cons_succ, List.getElem?_cons_zero, List.setIfInBounds_toArray, List.set_cons_succ, List.set_cons_zero] at o0 q0 y0 o1 q1 y1 o2 q2 y2 o3 q3 y3
  have k1 : Below w.heap.size w (w1.setCell ⟨w.heap.size + 1 + 1, 1, none⟩ (.slice (some ⟨g1, 0, none⟩) d.uses.length d.uses.length)) := Below.setCell kw1 (by simp; omega) _
  go_wp2_with fail
  go_at_call 58
  refine (HS1.out _ k1).mono ?_
  rintro e w2 ⟨g2, rfl, R1, b2⟩
  have hA2 := (b2.block w.heap.size (by simp [World.setCell]; omega)).trans ((Below.heap_setCell _ _ _ _ (by simp <;> omega)).trans hA1)
  have hR2 := (b2.block (w.heap.size + 1) (by simp [World.setCell]; omega)).trans ((Below.heap_setCell _ _ _ _ (by simp <;> omega)).trans hR1)
  have hO2 := (b2.block (w.heap.size + 1 + 1) (by simp [World.setCell]; omega)).trans (heap_setCell_same _ _ _ _ _ _ hO1)
  have m2 : w1.heap.size ≤ w2.heap.size := by have := b2.size; simpa [World.setCell] using this
  have kw2 : Below w.heap.size w w2 := k1.trans (b2.mono k1.size)
  replace R1 := R1.mono (S' := Ow (w.heap.size + 3) w2.heap.size) (Ow.mono (by simp [World.setCell]; omega) (Nat.le_refl _))
  replace R0 := (R0.keep ((Kp.set (Ow.not (by omega))).trans (Kp.of b2 (fun b h => by have := h.2; simp [World.setCell]; omega)))).mono (S' := Ow (w.heap.size + 3) w2.heap.size) (Ow.mono (Nat.le_refl _) (by omega))
  have m2' : w.heap.size + 3 ≤ w2.heap.size := by omega
  have o0 := vblk_cell hO2 0
  have q0 := vblk_cell hR2 0
  have y0 := vblk_cell hA2 0
  have o1 := vblk_cell hO2 1
  have q1 := vblk_cell hR2 1
  have y1 := vblk_cell hA2 1
  have o2 := vblk_cell hO2 2
  have q2 := vblk_cell hR2 2
  have y2 := vblk_cell hA2 2
  have o3 := vblk_cell hO2 3
  have q3 := vblk_cell hR2 3
  have y3 := vblk_cell hA2 3
  have fo := vblk_frozen hO2
  have fr := vblk_frozen hR2
  simp only [List.getElem?_toArray, List.getElem?_cons_succ, List.getElem?_cons_zero, List.setIfInBounds_toArray, List.set_cons_succ, List.set_cons_zero] at o0 q0 y0 o1 q1 y1 o2 q2 y2 o3 q3 y3
  have k2 : Below w.heap.size w (w2.setCell ⟨w.heap.size + 1 + 1, 2, none⟩ (.slice (some ⟨g2, 0, none⟩) d.needs.length d.needs.length)) := Below.setCell kw2 (by simp; omega) _
  go_wp2_with fail
  go_at_call 209
  refine (HS2.out _ k2).mono ?_
  rintro e w3 ⟨g3, rfl, R2, b3⟩
  have hA3 := (b3.block w.heap.size (by simp [World.setCell]; omega)).trans ((Below.heap_setCell _ _ _ _ (by simp <;> omega)).trans hA2)
  have hR3 := (b3.block (w.heap.size + 1) (by simp [World.setCell]; omega)).trans ((Below.heap_setCell _ _ _ _ (by simp <;> omega)).trans hR2)
  have hO3 := (b3.block (w.heap.size + 1 + 1) (by simp [World.setCell]; omega)).trans (heap_setCell_same _ _ _ _ _ _ hO2)
  have m3 : w2.heap.size ≤ w3.heap.size := by have := b3.size; simpa [World.setCell] using this
  have kw3 : Below w.heap.size w w3 := k2.trans (b3.mono k2.size)
  replace R2 := R2.mono (S' := Ow (w.heap.size + 3) w3.heap.size) (Ow.mono (by simp [World.setCell]; omega) (Nat.le_refl _))
  replace R0 := (R0.keep ((Kp.set (Ow.not (by omega))).trans (Kp.of b3 (fun b h => by have := h.2; simp [World.setCell]; omega)))).mono (S' := Ow (w.heap.size + 3) w3.heap.size) (Ow.mono (Nat.le_refl _) (by omega))
  replace R1 := (R1.keep ((Kp.set (Ow.not (by omega))).trans (Kp.of b3 (fun b h => by have := h.2; simp [World.setCell]; omega)))).mono (S' := Ow (w.heap.size + 3) w3.heap.size) (Ow.mono (Nat.le_refl _) (by omega))
  have m3' : w.heap.size + 3 ≤ w3.heap.size := by omega
  have o0 := vblk_cell hO3 0
  have q0 := vblk_cell hR3 0
  have y0 := vblk_cell hA3 0
  have o1 := vblk_cell hO3 1
  have q1 := vblk_cell hR3 1
  have y1 := vblk_cell hA3 1
  have o2 := vblk_cell hO3 2
  have q2 := vblk_cell hR3 2
  have y2 := vblk_cell hA3 2
  have o3 := vblk_cell hO3 3
  have q3 := vblk_cell hR3 3
  have y3 := vblk_cell hA3 3
  have fo := vblk_frozen hO3
  have fr := vblk_frozen hR3
  simp only [List.getElem?_toArray, List.getElem?_cons_succ, List.getElem?_cons_zero, List.setIfInBounds_toArray, List.set_cons_succ, List.set_cons_zero] at o0 q0 y0 o1 q1 y1 o2 q2 y2 o3 q3 y3
  go_wp2_with fail
  refine bodyPost_ret (v := .agg #[.string d.name, .slice (some ⟨g1, 0, none⟩) d.uses.length d.uses.length, .slice (some ⟨g2, 0, none⟩) d.needs.length d.needs.length, .slice (some ⟨g3, 0, none⟩) d.cmds.length d.cmds.length]) (by simp [results, Tryz.results145, go_sem, o0, q0, o1, q1, o2, q2, o3, q3]) rfl ⟨[.string d.name, .slice (some ⟨g1, 0, none⟩) d.uses.length d.uses.length, .slice (some ⟨g2, 0, none⟩) d.needs.length d.needs.length, .slice (some ⟨g3, 0, none⟩) d.cmds.length d.cmds.length], rfl, ?_, ?_⟩
  · have hS : ∀ {W : World}, w3.heap.size ≤ W.heap.size → ∀ b, Ow (w.heap.size + 3) w3.heap.size b → Ow w.heap.size W.heap.size b := fun h => Ow.mono (by omega) h
    refine ⟨_, _, _, rfl, s_name, (R0.keep ?_).mono (hS ?_), p0, (R1.keep ?_).mono (hS ?_), (R2.keep ?_).mono (hS ?_)⟩
    all_goals first
      | (simp [World.setCell]; done)
      | ((repeat (refine Kp.trans ?_ (Kp.set (Ow.not (by omega))))); exact fun b hb => rfl)
  · refine ?_
    (repeat (refine Below.setCell ?_ (by simp <;> omega) _))
    exact kw3

set_option maxHeartbeats 2000000 in
set_option maxRecDepth 100000 in
theorem infoPack : (Tryz.prog.info? 189).map (fun i => (i.zero, i.size, i.bytes)) = some (some (.agg #[.string ⟨#[]⟩, .slice none 0 0, .slice none 0 0, .slice none 0 0]), 4, 88) := by kernel_rfl
set_option maxHeartbeats 2000000 in
set_option maxRecDepth 100000 in
theorem toPackS_c (S : Nat → Prop) (v : Value) (xs : List PackD) (w : World) (hv : RowIn shPack S w v xs) (hB : ∀ b, S b → b < w.heap.size) (hw : wtRow wtPack xs ≤ 1048576) :
    Calls Tryz.prog 67 #[v] w fun e w' => ∃ g, e = .returned (.slice (some ⟨g, 0, none⟩) xs.length xs.length) ∧ RowOwn shPackO 189 (Ow w.heap.size w'.heap.size) w' (.slice (some ⟨g, 0, none⟩) xs.length xs.length) xs ∧ Below w.heap.size w w' := by
  obtain ⟨a, cap, rfl, hl, hc, ha⟩ := hv
  have hn := len_wtRow wtPack xs
  have hlm : xs.length ≤ maxLen := hl
  unfold maxLen at hl
  obtain ⟨i0, hi, hz0, hz1, hz2⟩ := info_parts infoPack
  go_enter Tryz.func67, Tryz.ntmps67
  go_wp2_with (first
    | (at_make; refine wpList_make_full _ rfl _ _ 73 rfl w.heap.size 189 i0 _ 4 Tryz.underlying73 hi hz0 hz1 _ _ _ _ xs.length rfl rfl rfl rfl (by rw [hz2]; omega) (by unfold maxLen; omega) (Nat.le_refl _) ?_))
  intro w1 hown hgrow
  have hb1 := below_of_grown hgrow
  have hs1 : w.heap.size + 1 ≤ w1.heap.size := by
    rcases hown.2 with ⟨h, _⟩ | ⟨g, cap, cur, h, _, hg, _⟩
    · simp at h
    · simp at h
      have := (Array.getElem?_eq_some_iff.1 hg).1
      omega
  obtain ⟨ys1, hown1⟩ : ∃ ys, w1.ownsRow w.heap.size 189 4 (.slice (some ⟨w.heap.size, 0, none⟩) xs.length xs.length) xs.length ys := ⟨_, hown⟩
  clear hgrow hown
  go_wp2_with fail
  go_loopw [4] (fun vi wr => ∃ (k : Nat) (ys : List Value), k ≤ xs.length ∧ vi = .int .i64 (k : Int) ∧ wr.ownsRow w.heap.size 189 4 (.slice (some ⟨w.heap.size, 0, none⟩) xs.length xs.length) xs.length ys ∧ Hid (Laid shPackO (Ow (w.heap.size + 1) wr.heap.size) wr ys xs k) ∧ Below w.heap.size w wr ∧ w.heap.size + 1 ≤ wr.heap.size) (fun vi _ => xs.length - (intOf vi).toNat)
  case atStart => exact ⟨0, ys1, Nat.zero_le _, rfl, hown1, (fun i h h0 => by omega), hb1, hs1⟩
  case round =>
    obtain ⟨k, ys, hk, rfl, hownr, hy, hbr, hsr⟩ := hrel
    by_cases hlt' : k < xs.length
    · rcases ha with rfl | ⟨b, off, rfl, hlt, ha⟩
      · simp at hlt'
      obtain ⟨cs, hL, hcell⟩ := ha k hlt'
      have hL2 := shPack.keep (.of hbr hB) hL
      have hcell2 := hcell.keep (.of hbr hB) hlt
      have hBr : ∀ b, S b → b < wr.heap.size := fun b h => Nat.lt_of_lt_of_le (hB b h) hbr.size
      have hwt : wtPack xs[k] ≤ 1048576 := by have := wt_wtRow wtPack (List.getElem_mem hlt'); omega
      have hown2 : ∀ w2, Below wr.heap.size wr w2 → w2.ownsRow w.heap.size 189 4 (.slice (some ⟨w.heap.size, 0, none⟩) xs.length xs.length) xs.length ys := fun w2 h2 => hownr.kept (grown_of_below h2 none) (by simp [Value.ownBlock])
      have hlen := hownr.1
      have HC : Hid (∀ w2, Below wr.heap.size wr w2 → ∀ j, j < 4 → ∃ x, w2.cell? ⟨w.heap.size, k * 4 + j, none⟩ = some x) := fun w2 h2 j hj => ⟨ys.getD (k * 4 + j) undef, by rw [(hown2 w2 h2).cellAt _ (by omega)]; simp [List.getD_eq_getElem?_getD, show k * 4 + j < ys.length by omega]⟩
      have HF : Hid (∀ w2, Below wr.heap.size wr w2 → ∀ j, w2.frozen? ⟨w.heap.size, j, none⟩ = false) := fun w2 h2 j => (hown2 w2 h2).frozenAt j
      have HO : Hid (∀ w2, Below wr.heap.size wr w2 → w2.ownsRow w.heap.size 189 4 (.slice (some ⟨w.heap.size, 0, none⟩) xs.length xs.length) xs.length ys) := hown2
      have HST : Hid (∀ w2 cs, Below wr.heap.size wr w2 → cs.length = 4 → shPackO.lies (Ow (w.heap.size + 1) w2.heap.size) w2 cs xs[k] → Laid shPackO (Ow (w.heap.size + 1) (setW w2 w.heap.size (k * 4) cs).heap.size) (setW w2 w.heap.size (k * 4) cs) (putL ys (k * 4) cs) xs (k + 1)) := fun w2 cs h2 hc hr => hy.out.step (sh := shPackO) hlt' hlen h2 (by omega) hc hr
      obtain ⟨d, hd⟩ : ∃ d, d = xs[k] := ⟨_, rfl⟩
      rw [← hd] at hL2 hwt HST
      have HC1 := toPack_c S d cs wr hL2 hBr hwt
      clear ha hL hcell hd hown2 hi hz0 hz1 hz2 hown1 hb1 hlen hwt
      obtain ⟨u0, u1, u2, rfl, s_name, r0, p0, r1, r2⟩ := hL2
      clear s_name p0
      obtain ⟨a0, cap0, eu0, _⟩ := id r0
      rw [length_strsV] at eu0
      subst eu0
      clear r0
      obtain ⟨a1, cap1, eu1, _⟩ := id r1
      subst eu1
      clear r1
      obtain ⟨a2, cap2, eu2, _⟩ := id r2
      subst eu2
      clear r2
      have e0 : wr.cell? ⟨b, off + k * 4, none⟩ = some (.string d.name) := hcell2 0 (by simp)
      have e1 : wr.cell? ⟨b, off + k * 4 + 1, none⟩ = some (.slice a0 d.uses.length cap0) := hcell2 1 (by simp)
      have e2 : wr.cell? ⟨b, off + k * 4 + 2, none⟩ = some (.slice a1 d.needs.length cap1) := hcell2 2 (by simp)
      have e3 : wr.cell? ⟨b, off + k * 4 + 3, none⟩ = some (.slice a2 d.cmds.length cap2) := hcell2 3 (by simp)
      have HC2 := hidden HC1
      have hki : (k : Int) < (xs.length : Int) := by omega
      clear hcell2 HC1
      go_wp2_with (go_at_call 145; refine HC2.out.mono ?_; rintro e w2 ⟨cs, rfl, hX, hb2⟩; have HX := hidden (HST.out w2 cs hb2 (by have h := hX; obtain ⟨u0, u1, u2, h9, s_name, r0, p0, r1, r2⟩ := h; rw [h9]; rfl) (shPackO.mono (Ow.mono hsr (Nat.le_refl _)) hX)); obtain ⟨u0, u1, u2, rfl, s_name, z0, p0, z1, z2⟩ := hX; obtain ⟨b0, bap0, ev0⟩ := z0.slice; subst ev0; obtain ⟨b1, bap1, ev1⟩ := z1.slice; subst ev1; obtain ⟨b2, bap2, ev2⟩ := z2.slice; subst ev2; obtain ⟨y0, d0⟩ := HC.out w2 hb2 0 (by omega); obtain ⟨y1, d1⟩ := HC.out w2 hb2 1 (by omega); obtain ⟨y2, d2⟩ := HC.out w2 hb2 2 (by omega); obtain ⟨y3, d3⟩ := HC.out w2 hb2 3 (by omega); rw [Nat.add_zero] at d0; have f9 := HF.out w2 hb2)
      go_roundw
      case rel =>
        refine ⟨k + 1, _, by omega, by go_num, setW_owns [.string d.name, .slice b0 d.uses.length bap0, .slice b1 d.needs.length bap1, .slice b2 d.cmds.length bap2] w2 ys (k * 4) (HO.out w2 hb2), HX.out, setW_below (Nat.le_refl _) [.string d.name, .slice b0 d.uses.length bap0, .slice b1 d.needs.length bap1, .slice b2 d.cmds.length bap2] w2 w (k * 4) (hbr.trans (hb2.mono hbr.size)), ?_⟩
        have h9 := setW_size [.string d.name, .slice b0 d.uses.length bap0, .slice b1 d.needs.length bap1, .slice b2 d.cmds.length bap2] w2 w.heap.size (k * 4)
        have := hb2.size
        exact Nat.le_trans (show w.heap.size + 1 ≤ w2.heap.size by omega) (Nat.le_of_eq h9.symm)
      case measure => simp [intOf]; omega
    · have he : k = xs.length := by omega
      subst he
      clear ha
      go_wp2_with fail
      go_ret
      exact ⟨_, rfl, rowOwn_of hownr hlm hy.out, hbr⟩

end Go.Proofs.YtlfmefojcmpfeaaGreatDoor

/-! A value as a tree, how much it holds, and what it means that it lies in memory below a block number; no condition but those told. -/
namespace Go.Proofs.YtlfmefojcmpfeaaGreatDoor
open Go.RowKit
set_option linter.unusedSimpArgs false
set_option linter.unusedVariables false

inductive Tree where
  | mk (k n : Int) (s : ByteArray) (l : List Tree) (keys : List ByteArray) : Tree

theorem Tree.ind {P : Tree → Prop} (h : ∀ k n s l ks, (∀ U ∈ l, P U) → P (.mk k n s l ks)) : ∀ T, P T
  | .mk k n s l ks => h k n s l ks (fun U _ => Tree.ind h U)
  termination_by T => SizeOf.sizeOf T
  decreasing_by
    rename_i hU
    have := List.sizeOf_lt_of_mem hU
    simp
    omega

mutual
def Tree.wt : Tree → Nat
  | .mk _ _ s l ks => s.size + (wtL l + bulkS ks)
def wtL : List Tree → Nat
  | [] => 0
  | t :: r => 1 + t.wt + wtL r
end

theorem wtL_append (a b : List Tree) : wtL (a ++ b) = wtL a + wtL b := by
  induction a with
  | nil => simp [wtL]
  | cons t r ih => simp only [List.cons_append, wtL, ih]; omega

theorem wtL_take_succ (l : List Tree) (k : Nat) (h : k < l.length) : wtL (l.take (k + 1)) = wtL (l.take k) + 1 + (l[k]).wt := by
  rw [List.take_succ_eq_append_getElem h, wtL_append]
  simp [wtL]; omega

theorem wtL_take_le (l : List Tree) (k : Nat) : wtL (l.take k) ≤ wtL l := by
  conv => rhs; rw [← List.take_append_drop k l, wtL_append]
  omega

theorem length_le_wtL (l : List Tree) : l.length ≤ wtL l := by
  induction l with
  | nil => simp
  | cons t r ih => simp only [List.length_cons, wtL]; omega

theorem wtL_take_rest (l : List Tree) (k : Nat) : wtL (l.take k) + (l.length - k) ≤ wtL l := by
  conv => rhs; rw [← List.take_append_drop k l, wtL_append]
  have := length_le_wtL (l.drop k)
  simp at this
  omega

theorem wt_le_wtL {l : List Tree} {U : Tree} (h : U ∈ l) : U.wt + 1 ≤ wtL l := by
  induction l with
  | nil => simp at h
  | cons t r ih =>
    simp only [List.mem_cons] at h
    simp only [wtL]
    rcases h with rfl | h
    · omega
    · have := ih h; omega

/-- In blocks of S the world w' is as w was. -/
def KeptIn (S : Nat → Prop) (w w' : World) : Prop := ∀ b, S b → w'.heap[b]? = w.heap[b]?
theorem KeptIn.cell {S : Nat → Prop} {w w' : World} (h : KeptIn S w w') {b : Nat} (hb : S b) (o : Nat) : w'.cell? ⟨b, o, none⟩ = w.cell? ⟨b, o, none⟩ := World.cell?_of_block (w := w) (h b hb)
theorem KeptIn.trans {S : Nat → Prop} {a b c : World} (h : KeptIn S a b) (k : KeptIn S b c) : KeptIn S a c := fun i hi => (k i hi).trans (h i hi)
theorem KeptIn.of {S : Nat → Prop} {B : Nat} {w w' : World} (hb : Below B w w') (hS : ∀ b, S b → b < B) : KeptIn S w w' := fun b h => hb.block b (hS b h)

/-- A list of texts that lies in blocks of S. -/
def ReadsB (S : Nat → Prop) (w : World) (v : Value) (xs : List Value) : Prop :=
  ∃ a cap, v = .slice a xs.length cap ∧ xs.length ≤ cap ∧ (xs = [] ∨ ∃ b off, a = some ⟨b, off, none⟩ ∧ S b ∧ ∀ k (h : k < xs.length), w.cell? ⟨b, off + k, none⟩ = some xs[k])

theorem ReadsB.reads {S : Nat → Prop} {w : World} {v : Value} {xs : List Value} (h : ReadsB S w v xs) (hS : ∀ b, S b → b < w.heap.size) : Reads w v xs := by
  obtain ⟨a, cap, hv, hc, h⟩ := h
  refine ⟨a, cap, hv, hc, ?_⟩
  rcases h with h | ⟨b, off, ha, hb, h⟩
  · exact .inl h
  · exact .inr ⟨b, off, ha, hS b hb, h⟩

theorem ReadsB.of {w : World} {v : Value} {xs : List Value} (h : Reads w v xs) : ReadsB (· < w.heap.size) w v xs := h

theorem ReadsB.keep {S : Nat → Prop} {w w' : World} {v : Value} {xs : List Value} (hb : KeptIn S w w') (h : ReadsB S w v xs) : ReadsB S w' v xs := by
  obtain ⟨a, cap, hv, hc, h⟩ := h
  refine ⟨a, cap, hv, hc, ?_⟩
  rcases h with h | ⟨b, off, ha, hlt, h⟩
  · exact .inl h
  · exact .inr ⟨b, off, ha, hlt, fun k hk => (hb.cell hlt _).trans (h k hk)⟩

theorem ReadsB.mono {S S' : Nat → Prop} {w : World} {v : Value} {xs : List Value} (hB : ∀ b, S b → S' b) (h : ReadsB S w v xs) : ReadsB S' w v xs := by
  obtain ⟨a, cap, hv, hc, h⟩ := h
  refine ⟨a, cap, hv, hc, ?_⟩
  rcases h with h | ⟨b, off, ha, hlt, h⟩
  · exact .inl h
  · exact .inr ⟨b, off, ha, hB b hlt, h⟩

def saneS (ks : List ByteArray) : Prop := ks.length ≤ maxLen ∧ ∀ s ∈ ks, s.size ≤ maxLen

/-- The value v is the tree T, all of whose memory lies in blocks of S. -/
inductive Lies (S : Nat → Prop) (w : World) : Value → Tree → Prop
  | mk (k n : Int) (s : ByteArray) (l : List Tree) (ks : List ByteArray) (a : Option Addr) (cap : Nat) (u : Value) (C : Nat → Nat → Value)
      (hs : s.size ≤ maxLen) (hl : l.length ≤ maxLen) (hk : saneS ks) (hc : l.length ≤ cap) (hu : ReadsB S w u (strsV ks))
      (ha : l = [] ∨ ∃ b off, a = some ⟨b, off, none⟩ ∧ S b ∧ ∀ i, i < l.length → ∀ j, j < 5 → w.cell? ⟨b, off + i * 5 + j, none⟩ = some (C i j))
      (hC : ∀ i (h : i < l.length), Lies S w (.agg #[C i 0, C i 1, C i 2, C i 3, C i 4]) l[i]) :
      Lies S w (.agg #[.int .i64 k, .int .i64 n, .string s, .slice a l.length cap, u]) (.mk k n s l ks)

/-- The list of values v is l. -/
def LiesL (S : Nat → Prop) (w : World) (v : Value) (l : List Tree) : Prop :=
  ∃ a cap, ∃ C : Nat → Nat → Value, v = .slice a l.length cap ∧ l.length ≤ maxLen ∧ l.length ≤ cap ∧
    (l = [] ∨ ∃ b off, a = some ⟨b, off, none⟩ ∧ S b ∧ ∀ i, i < l.length → ∀ j, j < 5 → w.cell? ⟨b, off + i * 5 + j, none⟩ = some (C i j)) ∧
    ∀ i (h : i < l.length), Lies S w (.agg #[C i 0, C i 1, C i 2, C i 3, C i 4]) l[i]

theorem Lies.out {S : Nat → Prop} {w : World} {v : Value} {k n : Int} {s : ByteArray} {l : List Tree} {ks : List ByteArray} (h : Lies S w v (.mk k n s l ks)) :
    ∃ c u, v = .agg #[.int .i64 k, .int .i64 n, .string s, c, u] ∧ s.size ≤ maxLen ∧ saneS ks ∧ LiesL S w c l ∧ ReadsB S w u (strsV ks) := by
  cases h with
  | mk k n s l ks a cap u C hs hl hk hc hu ha hC => exact ⟨_, u, rfl, hs, hk, ⟨a, cap, C, rfl, hl, hc, ha, hC⟩, hu⟩

theorem Lies.of {S : Nat → Prop} {w : World} {c u : Value} {k n : Int} {s : ByteArray} {l : List Tree} {ks : List ByteArray} (hs : s.size ≤ maxLen) (hk : saneS ks) (hl : LiesL S w c l) (hu : ReadsB S w u (strsV ks)) :
    Lies S w (.agg #[.int .i64 k, .int .i64 n, .string s, c, u]) (.mk k n s l ks) := by
  obtain ⟨a, cap, C, rfl, hl, hc, ha, hC⟩ := hl
  exact .mk k n s l ks a cap u C hs hl hk hc hu ha hC

theorem LiesL.mk_keep {S : Nat → Prop} {w w' : World} {v : Value} {l : List Tree} (hb : KeptIn S w w') (hi : ∀ U ∈ l, ∀ x, Lies S w x U → Lies S w' x U) (h : LiesL S w v l) : LiesL S w' v l := by
  obtain ⟨a, cap, C, rfl, hl, hc, ha, hC⟩ := h
  refine ⟨a, cap, C, rfl, hl, hc, ?_, fun i h => hi _ (List.getElem_mem h) _ (hC i h)⟩
  rcases ha with ha | ⟨b, off, ha, hlt, hcell⟩
  · exact .inl ha
  · exact .inr ⟨b, off, ha, hlt, fun i hi j hj => (hb.cell hlt _).trans (hcell i hi j hj)⟩

theorem Lies.keep {S : Nat → Prop} {w w' : World} (hb : KeptIn S w w') : ∀ {T : Tree} {v : Value}, Lies S w v T → Lies S w' v T := by
  have h := Tree.ind (P := fun T => ∀ v, Lies S w v T → Lies S w' v T) ?_
  · exact fun {T v} hx => h T v hx
  intro k n s l ks ih v h
  obtain ⟨c, u, rfl, hs, hk, hl, hu⟩ := h.out
  exact Lies.of hs hk (hl.mk_keep hb ih) (hu.keep hb)

theorem LiesL.keep {S : Nat → Prop} {w w' : World} {v : Value} {l : List Tree} (hb : KeptIn S w w') (h : LiesL S w v l) : LiesL S w' v l :=
  h.mk_keep hb fun U _ x hx => Lies.keep hb hx

theorem LiesL.mk_mono {S S' : Nat → Prop} {w : World} {v : Value} {l : List Tree} (hB : ∀ b, S b → S' b) (hi : ∀ U ∈ l, ∀ x, Lies S w x U → Lies S' w x U) (h : LiesL S w v l) : LiesL S' w v l := by
  obtain ⟨a, cap, C, rfl, hl, hc, ha, hC⟩ := h
  refine ⟨a, cap, C, rfl, hl, hc, ?_, fun i h => hi _ (List.getElem_mem h) _ (hC i h)⟩
  rcases ha with ha | ⟨b, off, ha, hlt, hcell⟩
  · exact .inl ha
  · exact .inr ⟨b, off, ha, hB b hlt, hcell⟩

theorem Lies.mono {S S' : Nat → Prop} {w : World} (hB : ∀ b, S b → S' b) : ∀ {T : Tree} {v : Value}, Lies S w v T → Lies S' w v T := by
  have h := Tree.ind (P := fun T => ∀ v, Lies S w v T → Lies S' w v T) ?_
  · exact fun {T v} hx => h T v hx
  intro k n s l ks ih v h
  obtain ⟨c, u, rfl, hs, hk, hl, hu⟩ := h.out
  exact Lies.of hs hk (hl.mk_mono hB ih) (hu.mono hB)

theorem LiesL.mono {S S' : Nat → Prop} {w : World} {v : Value} {l : List Tree} (hB : ∀ b, S b → S' b) (h : LiesL S w v l) : LiesL S' w v l :=
  h.mk_mono hB fun U _ x hx => Lies.mono hB hx

/-- What is at place i of a list of values: five cells, which are the tree there. -/
theorem LiesL.at {S : Nat → Prop} {w : World} {v : Value} {l : List Tree} (h : LiesL S w v l) :
    ∃ a cap, v = .slice a l.length cap ∧ l.length ≤ maxLen ∧ l.length ≤ cap ∧ (l = [] ∨ ∃ b off, a = some ⟨b, off, none⟩ ∧ S b ∧ ∀ i (h : i < l.length), ∃ c0 c1 c2 c3 c4,
      w.cell? ⟨b, off + i * 5, none⟩ = some c0 ∧ w.cell? ⟨b, off + i * 5 + 1, none⟩ = some c1 ∧ w.cell? ⟨b, off + i * 5 + 2, none⟩ = some c2 ∧ w.cell? ⟨b, off + i * 5 + 3, none⟩ = some c3 ∧ w.cell? ⟨b, off + i * 5 + 4, none⟩ = some c4 ∧
      Lies S w (.agg #[c0, c1, c2, c3, c4]) l[i]) := by
  obtain ⟨a, cap, C, rfl, hl, hc, ha, hC⟩ := h
  refine ⟨a, cap, rfl, hl, hc, ?_⟩
  rcases ha with ha | ⟨b, off, ha, hlt, hcell⟩
  · exact .inl ha
  · refine .inr ⟨b, off, ha, hlt, fun i hi => ⟨C i 0, C i 1, C i 2, C i 3, C i 4, ?_, ?_, ?_, ?_, ?_, hC i hi⟩⟩
    · simpa using hcell i hi 0 (by omega)
    · exact hcell i hi 1 (by omega)
    · exact hcell i hi 2 (by omega)
    · exact hcell i hi 3 (by omega)
    · exact hcell i hi 4 (by omega)

/-- A parameter that was put into a block of its own is still there behind a call. -/
theorem box5 {w w1 : World} {c0 c1 c2 c3 c4 : Value} {t : TypeId} (hb : Below (w.alloc (.cells #[c0, c1, c2, c3, c4] t)).heap.size (w.alloc (.cells #[c0, c1, c2, c3, c4] t)) w1) :
    w1.cell? ⟨w.heap.size, 0, none⟩ = some c0 ∧ w1.cell? ⟨w.heap.size, 1, none⟩ = some c1 ∧ w1.cell? ⟨w.heap.size, 2, none⟩ = some c2 ∧ w1.cell? ⟨w.heap.size, 3, none⟩ = some c3 ∧ w1.cell? ⟨w.heap.size, 4, none⟩ = some c4 := by
  have h : ∀ j, w1.cell? ⟨w.heap.size, j, none⟩ = (#[c0, c1, c2, c3, c4] : Array Value)[j]? := fun j => by
    rw [hb.cell (p := ⟨w.heap.size, j, none⟩) (by simp)]
    have e : (w.alloc (.cells #[c0, c1, c2, c3, c4] t)).heap[w.heap.size]? = some (.cells #[c0, c1, c2, c3, c4] t) := by show (w.heap.push _)[w.heap.size]? = _; simp
    simp only [World.cell?, e]; rfl
  exact ⟨h 0, h 1, h 2, h 3, h 4⟩

theorem heap_new (w : World) (o : Obj) : (w.alloc o).heap[w.heap.size]? = some o := by show (w.heap.push _)[w.heap.size]? = _; simp
theorem heap_old (w : World) (o : Obj) {b : Nat} (h : b < w.heap.size) : (w.alloc o).heap[b]? = w.heap[b]? := Below.heap_alloc w o b h
theorem three {w w1 : World} {A R O : Obj} (hb : Below (((w.alloc A).alloc R).alloc O).heap.size (((w.alloc A).alloc R).alloc O) w1) :
    w1.heap[w.heap.size]? = some A ∧ w1.heap[w.heap.size + 1]? = some R ∧ w1.heap[w.heap.size + 1 + 1]? = some O := by
  have s1 : (w.alloc A).heap.size = w.heap.size + 1 := by simp
  have s2 : ((w.alloc A).alloc R).heap.size = w.heap.size + 1 + 1 := by simp
  refine ⟨?_, ?_, ?_⟩
  · rw [hb.block _ (by simp; omega), heap_old _ _ (by simp; omega), heap_old _ _ (by simp), heap_new]
  · rw [hb.block _ (by simp), heap_old _ _ (by simp), ← s1, heap_new]
  · rw [hb.block _ (by simp), ← s2, heap_new]
theorem blk_cell {w : World} {b : Nat} {cs : Array Value} {t : TypeId} (h : w.heap[b]? = some (.cells cs t (0, 0))) (j : Nat) : w.cell? ⟨b, j, none⟩ = cs[j]? := cell_of_row w b j cs t (0, 0) h
theorem blk_frozen {w : World} {b : Nat} {cs : Array Value} {t : TypeId} (h : w.heap[b]? = some (.cells cs t (0, 0))) (j : Nat) : w.frozen? ⟨b, j, none⟩ = false := frozen_of_row w b j cs t h
theorem blk_set {w : World} {b : Nat} {cs : Array Value} {t : TypeId} (h : w.heap[b]? = some (.cells cs t (0, 0))) (j : Nat) (v : Value) : (w.setCell ⟨b, j, none⟩ v).heap[b]? = some (.cells (cs.setIfInBounds j v) t (0, 0)) := heap_setCell_same w b j cs t v h

#print axioms Lies.keep
end Go.Proofs.YtlfmefojcmpfeaaGreatDoor

/-! How much a value holds, as the law's own helper reckons it: a contract for every value that lies in memory. -/
namespace Go.Proofs.YtlfmefojcmpfeaaGreatDoor
open Go.RowKit
set_option linter.unusedSimpArgs false
set_option linter.unusedVariables false

set_option maxHeartbeats 1000000 in
set_option maxRecDepth 100000 in
theorem sizeStrsT_c (v : Value) (ss : List ByteArray) (w : World) (left : Int) (hl0 : 0 ≤ left) (hl1 : left ≤ 1048576) (hv : Reads w v (strsV ss)) (hn : ss.length ≤ maxLen) (hs : ∀ s ∈ ss, s.size ≤ maxLen) :
    Calls Tryz.prog 206 #[v, .int .i64 left] w fun e w' => e = .returned (.int .i64 (leftS ss left)) ∧ w = w' := by
  obtain ⟨a, cap, rfl, _, hc⟩ := reads_strs hv
  clear hv
  unfold maxLen at hn hs
  by_cases h0 : left < (ss.length : Int)
  · have hneg : left - (ss.length : Int) < 0 := by omega
    have e : leftS ss left = -1 := by rw [leftS, bulkS, if_neg (by omega)]
    rw [e]
    clear hc hs
    go_enter Tryz.func206, Tryz.ntmps206
    go_wp2
    go_ret
    exact ⟨rfl, rfl⟩
  · have hpos : ¬ (left - (ss.length : Int) < 0) := by omega
    rcases hc with rfl | ⟨b, off, rfl, hlt, hc⟩
    · go_enter Tryz.func206, Tryz.ntmps206
      go_wp2
      go_loop [1, 5] (fun vl vi => vl = .int .i64 left ∧ vi = .int .i64 0) (fun _ _ => 0)
      case atStart => exact ⟨rfl, rfl⟩
      case round =>
        obtain ⟨rfl, rfl⟩ := hrel
        go_wp2
        go_ret
        exact ⟨by rw [show leftS [] left = left by simp [leftS, bulkS, hl0]]; rfl, rfl⟩
    · go_enter Tryz.func206, Tryz.ntmps206
      go_wp2
      go_loop [1, 5] (fun vl vi => ∃ (k : Nat) (l : Int), k ≤ ss.length ∧ vi = .int .i64 (k : Int) ∧ vl = .int .i64 l ∧ 0 ≤ l ∧ l ≤ 1048576 ∧ Hid (l = left - (ss.length : Int) - (((ss.take k).map ByteArray.size).sum : Int))) (fun _ vi => ss.length - (intOf vi).toNat)
      case atStart => exact ⟨0, _, Nat.zero_le _, rfl, rfl, by omega, by omega, by show _ = _; simp⟩
      case round =>
        obtain ⟨k, l, hk, rfl, rfl, hq0, hq1, hl⟩ := hrel
        by_cases hlt' : k < ss.length
        · have hcx := hc k hlt'
          have hsk := hs ss[k] (List.getElem_mem hlt')
          have hsum := sum_take_succ ss k hlt'
          obtain ⟨t, ht⟩ : ∃ t, t = ss[k] := ⟨_, rfl⟩
          rw [← ht] at hcx hsk hsum
          have HS : Hid (((ss.take (k + 1)).map ByteArray.size).sum = ((ss.take k).map ByteArray.size).sum + t.size) := hsum
          have hki : (k : Int) < (ss.length : Int) := by omega
          clear hc hs ht hsum
          by_cases hneg : l - (t.size : Int) < 0
          · have e : leftS ss left = -1 := by
              have h1 := HS.out; have h2 := hl.out; have h3 := sum_take_le ss (k + 1)
              rw [leftS, bulkS, if_neg (by omega)]
            have HE : Hid (leftS ss left = -1) := e
            clear e
            go_wp2
            go_ret
            exact ⟨by rw [HE.out]; rfl, rfl⟩
          · go_wp2
            go_round
            case rel => exact ⟨k + 1, l - (t.size : Int), by omega, by go_num, rfl, by omega, by omega, (by show _ = _; rw [HS.out, hl.out]; omega)⟩
            case measure => simp [intOf]; omega
        · have he : k = ss.length := by omega
          subst he
          have e : leftS ss left = l := by
            have h2 := hl.out
            rw [List.take_length] at h2
            rw [leftS, bulkS, if_pos (by omega)]; omega
          have HE : Hid (leftS ss left = l) := e
          clear hc hs e
          go_wp2
          go_ret
          exact ⟨by rw [HE.out]; rfl, rfl⟩
def leftN (n : Nat) (left : Int) : Int := if (n : Int) ≤ left then left - (n : Int) else -1
theorem leftN_bad {n : Nat} {left : Int} (h : left < (n : Int)) : leftN n left = -1 := by unfold leftN; rw [if_neg (by omega)]
theorem leftN_good {n : Nat} {left : Int} (h : (n : Int) ≤ left) : leftN n left = left - (n : Int) := by unfold leftN; rw [if_pos h]
theorem leftS_N (ks : List ByteArray) (left : Int) : leftS ks left = leftN (bulkS ks) left := rfl
theorem wt_mk (k n : Int) (s : ByteArray) (l : List Tree) (ks : List ByteArray) : (Tree.mk k n s l ks).wt = s.size + (wtL l + bulkS ks) := by rw [Tree.wt]

end Go.Proofs.YtlfmefojcmpfeaaGreatDoor

/-! A value copied into memory of its own, as the law's helper does it: a contract for every value that lies in memory and holds at most 2 to the 20. -/
namespace Go.Proofs.YtlfmefojcmpfeaaGreatDoor
open Go.RowKit
set_option linter.unusedSimpArgs false
set_option linter.unusedVariables false

/-- The blocks from lo on, below hi. -/
def Own (lo hi : Nat) (b : Nat) : Prop := lo ≤ b ∧ b < hi
theorem Own.set {lo hi : Nat} {w : World} {g j : Nat} {v : Value} (h : g < lo) : KeptIn (Own lo hi) w (w.setCell ⟨g, j, none⟩ v) := fun b hb => Below.heap_setCell w ⟨g, j, none⟩ v b (by have := hb.1; simp; omega)
theorem Own.below {lo : Nat} {w w' : World} (h : Below w.heap.size w w') : KeptIn (Own lo w.heap.size) w w' := fun b hb => h.block b hb.2
theorem Own.mono {lo lo' hi hi' : Nat} (h1 : lo' ≤ lo) (h2 : hi ≤ hi') : ∀ b, Own lo hi b → Own lo' hi' b := fun b h => ⟨Nat.le_trans h1 h.1, Nat.lt_of_lt_of_le h.2 h2⟩

theorem readsB_of_owns {w : World} {base : Nat} {e : TypeId} {v : Value} {n : Nat} {xs : List Value} (h : w.ownsRow base e 1 v n xs) : ReadsB (Own base w.heap.size) w v xs := by
  have h0 := reads_of_owns h
  obtain ⟨a, cap, hv, hc, hx⟩ := h0
  refine ⟨a, cap, hv, hc, ?_⟩
  rcases hx with hx | ⟨b, off, rfl, hlt, hx⟩
  · exact .inl hx
  · refine .inr ⟨b, off, rfl, ⟨?_, hlt⟩, hx⟩
    rcases h.2 with ⟨hn, _⟩ | ⟨g, cap', cur, hv', hg, _⟩
    · rw [hn] at hv; simp at hv
    · rw [hv'] at hv
      simp only [Value.slice.injEq, Option.some.injEq, Addr.mk.injEq] at hv
      omega

theorem toVal_facts {w1 w2 : World} {N : Nat} {t t' : TypeId} {x o0 o1 o2 o3 o4 r0 r1 r2 r3 r4 : Value} (hR : w1.heap[N + 1]? = some (.cells #[r0, r1, r2, r3, r4] t)) (hO : w1.heap[N + 1 + 1]? = some (.cells #[o0, o1, o2, o3, o4] t'))
    (hb : Below (w1.setCell ⟨N + 1 + 1, 3, none⟩ x).heap.size (w1.setCell ⟨N + 1 + 1, 3, none⟩ x) w2) :
    (w2.cell? ⟨N + 1 + 1, 0, none⟩ = some o0 ∧ w2.cell? ⟨N + 1 + 1, 1, none⟩ = some o1 ∧ w2.cell? ⟨N + 1 + 1, 2, none⟩ = some o2 ∧ w2.cell? ⟨N + 1 + 1, 3, none⟩ = some x ∧ w2.cell? ⟨N + 1 + 1, 4, none⟩ = some o4) ∧
    (w2.cell? ⟨N + 1, 0, none⟩ = some r0 ∧ w2.cell? ⟨N + 1, 1, none⟩ = some r1 ∧ w2.cell? ⟨N + 1, 2, none⟩ = some r2 ∧ w2.cell? ⟨N + 1, 3, none⟩ = some r3 ∧ w2.cell? ⟨N + 1, 4, none⟩ = some r4) ∧
    (∀ j, w2.frozen? ⟨N + 1 + 1, j, none⟩ = false) ∧ (∀ j, w2.frozen? ⟨N + 1, j, none⟩ = false) := by
  have l1 : N + 1 < w1.heap.size := (Array.getElem?_eq_some_iff.1 hR).1
  have l2 : N + 1 + 1 < w1.heap.size := (Array.getElem?_eq_some_iff.1 hO).1
  have s1 : (w1.setCell ⟨N + 1 + 1, 3, none⟩ x).heap.size = w1.heap.size := by simp [World.setCell]
  have eO := blk_set hO 3 x
  have eR : (w1.setCell ⟨N + 1 + 1, 3, none⟩ x).heap[N + 1]? = _ := (Below.heap_setCell w1 ⟨N + 1 + 1, 3, none⟩ x (N + 1) (by simp)).trans hR
  rw [← hb.block _ (by rw [s1]; exact l2)] at eO
  rw [← hb.block _ (by rw [s1]; exact l1)] at eR
  exact ⟨⟨blk_cell eO 0, blk_cell eO 1, blk_cell eO 2, blk_cell eO 3, blk_cell eO 4⟩, ⟨blk_cell eR 0, blk_cell eR 1, blk_cell eR 2, blk_cell eR 3, blk_cell eR 4⟩, blk_frozen eO, blk_frozen eR⟩

def cellsAt (ys : List Value) (i : Nat) : Value := .agg #[ys.getD (i * 5) undef, ys.getD (i * 5 + 1) undef, ys.getD (i * 5 + 2) undef, ys.getD (i * 5 + 3) undef, ys.getD (i * 5 + 4) undef]

def set5 (ys : List Value) (i : Nat) (c0 c1 c2 c3 c4 : Value) : List Value := ((((ys.set (i * 5) c0).set (i * 5 + 1) c1).set (i * 5 + 2) c2).set (i * 5 + 3) c3).set (i * 5 + 4) c4

theorem cellsAt_same (ys : List Value) (i : Nat) (c0 c1 c2 c3 c4 : Value) (h : i * 5 + 4 < ys.length) : cellsAt (set5 ys i c0 c1 c2 c3 c4) i = .agg #[c0, c1, c2, c3, c4] := by
  simp [cellsAt, set5, List.getD_eq_getElem?_getD, List.getElem?_set, h, show i * 5 < ys.length by omega, show i * 5 + 1 < ys.length by omega, show i * 5 + 2 < ys.length by omega, show i * 5 + 3 < ys.length by omega]

theorem getD_set_ne (ys : List Value) (a b : Nat) (v : Value) (h : a ≠ b) : (ys.set a v).getD b undef = ys.getD b undef := by
  simp [List.getD_eq_getElem?_getD, List.getElem?_set, h]

theorem cellsAt_other (ys : List Value) (i j : Nat) (c0 c1 c2 c3 c4 : Value) (h : j < i) : cellsAt (set5 ys i c0 c1 c2 c3 c4) j = cellsAt ys j := by
  have e : ∀ q, q < 5 → (set5 ys i c0 c1 c2 c3 c4).getD (j * 5 + q) undef = ys.getD (j * 5 + q) undef := fun q hq => by
    unfold set5
    rw [getD_set_ne _ _ _ _ (by omega), getD_set_ne _ _ _ _ (by omega), getD_set_ne _ _ _ _ (by omega), getD_set_ne _ _ _ _ (by omega), getD_set_ne _ _ _ _ (by omega)]
  have e0 := e 0 (by omega)
  rw [Nat.add_zero] at e0
  simp only [cellsAt, e0, e 1 (by omega), e 2 (by omega), e 3 (by omega), e 4 (by omega)]

end Go.Proofs.YtlfmefojcmpfeaaGreatDoor

/-! A list of values copied into memory of its own; with it every value: a contract for what lies in memory and holds at most 2 to the 20. -/
namespace Go.Proofs.YtlfmefojcmpfeaaGreatDoor
open Go.RowKit
set_option linter.unusedSimpArgs false
set_option linter.unusedVariables false

/-- What lies in memory, with its two lists written out. -/
theorem Lies.parts {S : Nat → Prop} {w : World} {v : Value} {T : Tree} (h : Lies S w v T) :
    ∃ k n s a m cap a' m' cap', v = .agg #[.int .i64 k, .int .i64 n, .string s, .slice a m cap, .slice a' m' cap'] := by
  cases T with
  | mk k n s l ks =>
    obtain ⟨c, u, rfl, hs, hk, ⟨a, cap, C, rfl, _⟩, ⟨a', cap', rfl, _⟩⟩ := h.out
    exact ⟨_, _, _, _, _, _, _, _, _, rfl⟩

end Go.Proofs.YtlfmefojcmpfeaaGreatDoor

/-! Two values that are the same tree are told so by the law's own comparison: a contract for every two that lie in memory. -/
namespace Go.Proofs.YtlfmefojcmpfeaaGreatDoor
open Go.RowKit
set_option linter.unusedSimpArgs false
set_option linter.unusedVariables false

theorem two5 {w w1 : World} {c0 c1 c2 c3 c4 d0 d1 d2 d3 d4 : Value} {t : TypeId} (hb : Below ((w.alloc (.cells #[c0, c1, c2, c3, c4] t)).alloc (.cells #[d0, d1, d2, d3, d4] t)).heap.size ((w.alloc (.cells #[c0, c1, c2, c3, c4] t)).alloc (.cells #[d0, d1, d2, d3, d4] t)) w1) :
    w1.cell? ⟨w.heap.size, 4, none⟩ = some c4 ∧ w1.cell? ⟨w.heap.size + 1, 4, none⟩ = some d4 := by
  have s1 : (w.alloc (.cells #[c0, c1, c2, c3, c4] t)).heap.size = w.heap.size + 1 := by simp
  have h1 : w1.heap[w.heap.size]? = some (.cells #[c0, c1, c2, c3, c4] t) := by rw [hb.block _ (by simp; omega), heap_old _ _ (by simp), heap_new]
  have h2 : w1.heap[w.heap.size + 1]? = some (.cells #[d0, d1, d2, d3, d4] t) := by rw [hb.block _ (by simp), ← s1, heap_new]
  exact ⟨blk_cell h1 4, blk_cell h2 4⟩

end Go.Proofs.YtlfmefojcmpfeaaGreatDoor

/-! Trees of values that may be written, no two rows of which are the same, and such as bear marks: what they are, and that they are kept; no condition. -/
namespace Go.Proofs.YtlfmefojcmpfeaaGreatDoor
open Go.RowKit
set_option linter.unusedSimpArgs false
set_option linter.unusedVariables false

def Tree.kids : Tree → List Tree
  | .mk _ _ _ l _ => l
def Tree.keys : Tree → List ByteArray
  | .mk _ _ _ _ ks => ks
mutual
/-- How many marks a tree takes below its own, and a list of trees. -/
def Tree.cnt : Tree → Nat
  | .mk _ _ _ l ks => 3 + cntL l + ks.length
def cntL : List Tree → Nat
  | [] => 0
  | t :: r => t.cnt + cntL r
end
theorem cnt_eq (T : Tree) : T.cnt = 3 + cntL T.kids + T.keys.length := by
  cases T; rw [Tree.cnt]; rfl
theorem cntL_append (a b : List Tree) : cntL (a ++ b) = cntL a + cntL b := by
  induction a with
  | nil => simp [cntL]
  | cons t r ih => simp only [List.cons_append, cntL, ih]; omega
theorem cntL_take (l : List Tree) (k : Nat) (h : k < l.length) : cntL (l.take (k + 1)) = cntL (l.take k) + l[k].cnt := by
  rw [List.take_succ_eq_append_getElem h, cntL_append]; simp [cntL]
theorem cntL_take_le (l : List Tree) (k : Nat) : cntL (l.take k) ≤ cntL l := by
  conv => rhs; rw [← List.take_append_drop k l, cntL_append]
  omega

/-- From w to w' only blocks of S, and new ones, have changed. -/
structure Chg (S : Nat → Prop) (w w' : World) : Prop where
  os : w'.os = w.os
  tape : w'.tape = w.tape
  output : w'.output = w.output
  size : w.heap.size ≤ w'.heap.size
  block : ∀ b, b < w.heap.size → ¬ S b → w'.heap[b]? = w.heap[b]?
theorem Chg.refl (S : Nat → Prop) (w : World) : Chg S w w := ⟨rfl, rfl, rfl, Nat.le_refl _, fun _ _ _ => rfl⟩
theorem Chg.trans {S : Nat → Prop} {a b c : World} (h : Chg S a b) (k : Chg S b c) : Chg S a c :=
  ⟨k.os.trans h.os, k.tape.trans h.tape, k.output.trans h.output, Nat.le_trans h.size k.size, fun i hi hs => (k.block i (Nat.lt_of_lt_of_le hi h.size) hs).trans (h.block i hi hs)⟩
theorem Chg.mono {S S' : Nat → Prop} {a b : World} (h : Chg S a b) (hs : ∀ b, S b → S' b) : Chg S' a b := ⟨h.os, h.tape, h.output, h.size, fun i hi hn => h.block i hi (fun k => hn (hs i k))⟩
theorem Chg.of {S : Nat → Prop} {a b : World} (h : Below a.heap.size a b) : Chg S a b := ⟨h.os, h.tape, h.output, h.size, fun i hi _ => h.block i hi⟩
theorem Chg.kp {S R : Nat → Prop} {a b : World} (h : Chg S a b) (hr : ∀ i, R i → i < a.heap.size ∧ ¬ S i) : Kp R a b := fun i hi => h.block i (hr i hi).1 (hr i hi).2
end Go.Proofs.YtlfmefojcmpfeaaGreatDoor

/-! Marks put into a tree of values that may be written, as the law puts them: contracts for the walks; conditions: no two rows are the same, and there are at most 2 to the 32 marks. -/
namespace Go.Proofs.YtlfmefojcmpfeaaGreatDoor
open Go.RowKit
set_option linter.unusedSimpArgs false
set_option linter.unusedVariables false

theorem Chg.set {S : Nat → Prop} {w : World} {g j : Nat} {v : Value} (h : S g) : Chg S w (w.setCell ⟨g, j, none⟩ v) :=
  ⟨rfl, rfl, rfl, by simp [World.setCell], fun b hb hn => Below.heap_setCell w ⟨g, j, none⟩ v b (fun e => by have e' : b = g := e; subst e'; exact hn h)⟩
theorem Chg.grown {S : Nat → Prop} {w w' : World} {r : Option Nat} (h : w.grownBy w' r) (hr : ∀ g, r = some g → S g) : Chg S w w' :=
  ⟨h.os, h.tape, h.output, h.size, fun b hb hn => h.block b hb (fun e => hn (hr b e.symm))⟩
theorem rdB_in {S : Nat → Prop} {w : World} {lo : Nat} {e : TypeId} {v : Value} {n : Nat} {xs : List Value} (h : w.ownsRow lo e 1 v n xs) (hs : ∀ g, v.ownBlock = some g → S g) : RdB S w v xs := by
  obtain ⟨a, cap, hv, hc, hx⟩ := reads_of_owns h
  refine ⟨a, cap, hv, hc, ?_⟩
  rcases hx with hx | ⟨b, off, rfl, hlt, hx⟩
  · exact .inl hx
  · exact .inr ⟨b, off, rfl, hs b (by rw [hv]; rfl), hx⟩
theorem owns_sl {w : World} {lo : Nat} {e : TypeId} {sz n : Nat} {v : Value} {xs : List Value} (hg : w.ownsRow lo e sz v n xs) : ∃ q cap, v = .slice q n cap := by
  rcases hg.2 with ⟨h1, h2⟩ | ⟨g, cap, cur, h1, _⟩
  · exact ⟨none, 0, by rw [h1, h2]⟩
  · exact ⟨_, _, h1⟩
def put3 (ys : List Value) (i : Nat) (a b c : Value) : List Value := ((ys.set (i * 5) a).set (i * 5 + 1) b).set (i * 5 + 2) c
theorem put3_other {ys : List Value} {i j : Nat} {a b c : Value} (h : j < i * 5 ∨ i * 5 + 2 < j) : (put3 ys i a b c)[j]? = ys[j]? := by
  unfold put3
  rw [List.getElem?_set_ne (by omega), List.getElem?_set_ne (by omega), List.getElem?_set_ne (by omega)]
theorem put3_same {ys : List Value} {i : Nat} {a b c : Value} (h : i * 5 + 2 < ys.length) : (put3 ys i a b c)[i * 5]? = some a ∧ (put3 ys i a b c)[i * 5 + 1]? = some b ∧ (put3 ys i a b c)[i * 5 + 2]? = some c := by
  simp [put3, List.getElem?_set, h, show i * 5 < ys.length by omega, show i * 5 + 1 < ys.length by omega]

end Go.Proofs.YtlfmefojcmpfeaaGreatDoor

/-! Marks put into a pack that may be written, as the law puts them: contracts for the walks; conditions: its rows lie in memory and may be written, and there are at most 2 to the 32 marks. -/
namespace Go.Proofs.YtlfmefojcmpfeaaGreatDoor
open Go.RowKit
set_option linter.unusedSimpArgs false
set_option linter.unusedVariables false

/-- A row that may be written stays one where another row is written over, be it the same. -/
theorem owns_over {w w' : World} {lo lo' sz n n' : Nat} {e : TypeId} {v v' : Value} {xs xs' ys : List Value} (h : w.ownsRow lo e sz v n xs) (h0 : w.ownsRow lo' e sz v' n' xs') (h1 : w'.ownsRow lo' e sz v' n' ys) (hg : w.grownBy w' v'.ownBlock) (hs : 0 < sz) : ∃ zs, w'.ownsRow lo e sz v n zs := by
  by_cases hne : v.ownBlock = none ∨ v.ownBlock ≠ v'.ownBlock
  · exact ⟨xs, h.kept hg hne⟩
  · have he : v.ownBlock = v'.ownBlock := by
      by_cases k : v.ownBlock = v'.ownBlock
      · exact k
      · exact absurd (.inr k) hne
    have hn : v.ownBlock ≠ none := fun k => hne (.inl k)
    rcases h.2 with ⟨rfl, _⟩ | ⟨g, cap, cur, rfl, hlo, hgb, hc, hm, hz, ht⟩
    · exact absurd rfl hn
    rcases h0.2 with ⟨rfl, _⟩ | ⟨g0, cap0, cur0, rfl, _, hgb0, hc0, hm0, hz0, _⟩
    · exact absurd he (by simp [Value.ownBlock])
    simp [Value.ownBlock] at he
    subst he
    rcases h1.2 with ⟨hx, _⟩ | ⟨g1, cap1, cur1, hx, _, hgb1, hc1, hm1, hz1, _⟩
    · simp at hx
    · simp only [Value.slice.injEq, Option.some.injEq, Addr.mk.injEq, and_true, true_and] at hx
      obtain ⟨rfl, rfl⟩ := hx
      rw [hgb] at hgb0
      have hcur : cur = cur0 := by simpa using hgb0
      subst hcur
      have hcap : cap = cap0 := by
        have : cap * sz = cap0 * sz := by omega
        exact Nat.eq_of_mul_eq_mul_right hs this
      subst hcap
      refine ⟨cur1.toList.take (n * sz), ?_, .inr ⟨g, cap, cur1, rfl, hlo, hgb1, hc, hm, hz1, rfl⟩⟩
      have hle : n * sz ≤ cap * sz := Nat.mul_le_mul_right _ hc
      rw [List.length_take, Array.length_toList, hz1]
      exact Nat.min_eq_left hle

set_option maxHeartbeats 2000000 in
set_option maxRecDepth 100000 in
theorem markNeedS_c (S : Nat → Prop) (v : Value) (n k : Nat) (xs : List Value) (w : World) (hv : w.ownsRow 0 39 2 v n xs) (hg : ∀ g, v.ownBlock = some g → S g) (h1 : 1 ≤ k) (h2 : k + n * 2 ≤ 4294967296) :
    Calls Tryz.prog 63 #[v, .int .i64 (k : Int)] w fun e w' => e = .returned (.int .i64 ((k + n * 2 : Nat) : Int)) ∧ Chg S w w' := by
  rcases id hv.2 with ⟨rfl, rfl⟩ | ⟨g, cap, cur, rfl, _, hgb, hcap, hmax, _⟩
  · clear hv hg
    go_enter Tryz.func63, Tryz.ntmps63
    go_wp2_with fail
    go_loopw [1, 5] (fun vk vi wr => vk = .int .i64 (k : Int) ∧ vi = .int .i64 0 ∧ wr = w) (fun _ _ _ => 0)
    case atStart => exact ⟨rfl, rfl, rfl⟩
    case round =>
      obtain ⟨rfl, rfl, rfl⟩ := hrel
      go_wp2_with fail
      go_ret
      exact ⟨by simp, Chg.refl _ _⟩
  · have hSg := hg g rfl
    unfold maxLen at hmax
    clear hgb hg
    go_enter Tryz.func63, Tryz.ntmps63
    go_wp2_with fail
    go_loopw [1, 5] (fun vk vi wr => ∃ (i m : Nat) (ys : List Value), i ≤ n ∧ vi = .int .i64 (i : Int) ∧ vk = .int .i64 (m : Int) ∧ Hid (m = k + i * 2) ∧ wr.ownsRow 0 39 2 (.slice (some ⟨g, 0, none⟩) n cap) n ys ∧ Chg S w wr) (fun _ vi _ => n - (intOf vi).toNat)
    case atStart => exact ⟨0, k, xs, Nat.zero_le _, rfl, rfl, by show _ = _; omega, hv, Chg.refl _ _⟩
    case round =>
      obtain ⟨i, m, ys, hi, rfl, rfl, hm, hown, hchg⟩ := hrel
      by_cases hlt : i < n
      · have hlen := hown.1
        have hm2 : m + 2 ≤ 4294967296 := by have := hm.out; omega
        have hm1 : 1 ≤ m := by have := hm.out; omega
        have hki : (i : Int) < (n : Int) := by omega
        have HO := hidden hown
        have HM1 := hidden (fun w1 => markText_c m w1 (by omega) (by omega))
        have HM2 : Hid (∀ w1, Calls Tryz.prog 141 #[.int .i64 ((m : Int) + 1)] w1 fun e w' => e = .returned (.string (markStr (m + 1))) ∧ Below w1.heap.size w1 w') := fun w1 => by
          have := markText_c (m + 1) w1 (by omega) (by omega)
          rw [show ((m + 1 : Nat) : Int) = (m : Int) + 1 by omega] at this
          exact this
        clear hown hv
        go_wp2_with fail
        go_at_call 141
        refine (HM1.out _).mono ?_
        rintro e w1 ⟨rfl, b1⟩
        have r1 := HO.out.kept (grown_of_below b1 none) (by simp [Value.ownBlock])
        have d0 : ∃ x, w1.cell? ⟨g, i * 2, none⟩ = some x := ⟨ys.getD (i * 2) undef, by rw [r1.cellAt _ (by omega)]; simp [List.getD_eq_getElem?_getD, show i * 2 < ys.length by omega]⟩
        obtain ⟨x0, d0⟩ := d0
        have f1 := r1.frozenAt
        have r2 := (r1.stored (i * 2) (.string (markStr m))).1
        have HR2 := hidden r2
        clear r1 r2
        go_wp2_with fail
        go_at_call 141
        refine (HM2.out _).mono ?_
        rintro e w2 ⟨rfl, b2⟩
        have r3 := HR2.out.kept (grown_of_below b2 none) (by simp [Value.ownBlock])
        have hl3 := r3.1
        have d1 : ∃ x, w2.cell? ⟨g, i * 2 + 1, none⟩ = some x := ⟨(ys.set (i * 2) (.string (markStr m))).getD (i * 2 + 1) undef, by rw [r3.cellAt _ (by omega)]; simp [List.getD_eq_getElem?_getD, show i * 2 + 1 < ys.length by omega]⟩
        obtain ⟨x1, d1⟩ := d1
        have f2 := r3.frozenAt
        have r4 := (r3.stored (i * 2 + 1) (.string (markStr (m + 1)))).1
        have HR4 := hidden r4
        have CH : Chg S wr (w2.setCell ⟨g, i * 2 + 1, none⟩ (.string (markStr (m + 1)))) := (Chg.of b1).trans ((Chg.set hSg).trans ((Chg.of b2).trans (Chg.set hSg)))
        have HCH := hidden CH
        clear r3 r4 CH
        go_wp2_with fail
        go_roundw
        case rel => exact ⟨i + 1, m + 2, _, by omega, by go_num, by simp; omega, (by show _ = _; have := hm.out; omega), HR4.out, hchg.trans HCH.out⟩
        case measure => simp [intOf]; omega
      · have he : i = n := by omega
        subst he
        have HMM := hidden hm.out
        clear hown hv
        go_wp2_with fail
        go_ret
        exact ⟨by rw [← HMM.out]; rfl, hchg⟩

/-- The rows of a row of commands: each may be written. -/
def CmdRows (w : World) (S : Nat → Prop) (ys : List Value) (ns : List Nat) : Prop := ∀ i (h : i < ns.length), ∃ u xs, ys[i * 2 + 1]? = some u ∧ w.ownsRow 0 9 1 u ns[i] xs ∧ ∀ g, u.ownBlock = some g → S g
theorem CmdRows.set0 {w : World} {S : Nat → Prop} {ys : List Value} {ns : List Nat} (h : CmdRows w S ys ns) (i : Nat) (v : Value) : CmdRows w S (ys.set (i * 2) v) ns := fun j hj => by
  obtain ⟨u, xs, h1, h2, h3⟩ := h j hj
  exact ⟨u, xs, by rw [List.getElem?_set_ne (by omega)]; exact h1, h2, h3⟩
theorem CmdRows.below {w w' : World} {S : Nat → Prop} {ys : List Value} {ns : List Nat} (h : CmdRows w S ys ns) (hb : Below w.heap.size w w') : CmdRows w' S ys ns := fun j hj => by
  obtain ⟨u, xs, h1, h2, h3⟩ := h j hj
  exact ⟨u, xs, h1, owns_kept (S := fun b => b < w.heap.size) (.of hb (fun b h => h)) (fun g h => (owns_in h2 g h).2) h2, h3⟩
/-- A store into a row of commands touches no row of texts. -/
theorem CmdRows.store {w : World} {S : Nat → Prop} {ys : List Value} {ns : List Nat} {g j n cap : Nat} {zs : List Value} {x : Value} (h : CmdRows w S ys ns) (hg : w.ownsRow 0 305 2 (.slice (some ⟨g, 0, none⟩) n cap) n zs) : CmdRows (w.setCell ⟨g, j, none⟩ x) S ys ns := fun i hi => by
  obtain ⟨u, xs, h1, h2, h3⟩ := h i hi
  refine ⟨u, xs, h1, owns_kept (S := fun b => b ≠ g) (Kp.set (fun k => k rfl)) (fun g' hg' => ?_) h2, h3⟩
  rintro rfl
  rcases h2.2 with ⟨rfl, _⟩ | ⟨g2, c2, cur2, rfl, _, hb2, _⟩
  · simp [Value.ownBlock] at hg'
  · simp [Value.ownBlock] at hg'
    subst hg'
    rcases hg.2 with ⟨hx, _⟩ | ⟨g3, c3, cur3, hx, _, hb3, _⟩
    · simp at hx
    · simp only [Value.slice.injEq, Option.some.injEq, Addr.mk.injEq, and_true, true_and] at hx
      obtain ⟨rfl, rfl⟩ := hx
      rw [hb2] at hb3
      simp at hb3

theorem owns_apart {w : World} {lo lo' sz sz' n n' : Nat} {e e' : TypeId} {v v' : Value} {xs xs' : List Value} (h : w.ownsRow lo e sz v n xs) (h' : w.ownsRow lo' e' sz' v' n' xs') (hne : e ≠ e') : v.ownBlock = none ∨ v.ownBlock ≠ v'.ownBlock := by
  rcases h.2 with ⟨rfl, _⟩ | ⟨g, c, cur, rfl, _, hb, _⟩
  · exact .inl rfl
  · right
    intro k
    rcases h'.2 with ⟨rfl, _⟩ | ⟨g', c', cur', rfl, _, hb', _⟩
    · simp [Value.ownBlock] at k
    · simp [Value.ownBlock] at k
      subst k
      rw [hb] at hb'
      simp at hb'
      exact hne hb'.2
theorem cmdRows_of {S : Nat → Prop} {w : World} {ys : List Value} {xs : List CmdD} (h : Laid shCmdO S w ys xs xs.length) : CmdRows w S ys (xs.map fun c => c.acts.length) := fun i hi => by
  have hi' : i < xs.length := by simpa using hi
  obtain ⟨cs, h1, ⟨u, rfl, _, h2, _⟩, h3⟩ := h i hi' hi'
  exact ⟨u, _, h3 1 (by simp), by simpa using h2.1, h2.2⟩
theorem cmds_sum (xs : List CmdD) : (xs.map fun c => c.acts.length).length + (xs.map fun c => c.acts.length).sum ≤ wtRow wtCmd xs := by
  induction xs with
  | nil => simp [wtRow]
  | cons x xs ih =>
    have e : wtRow wtCmd (x :: xs) = (1 + wtCmd x) + wtRow wtCmd xs := by simp [wtRow]
    rw [e]
    simp only [List.map_cons, List.length_cons, List.sum_cons]
    have : x.acts.length ≤ wtCmd x := by unfold wtCmd bulkS; omega
    omega

end Go.Proofs.YtlfmefojcmpfeaaGreatDoor

/-! Copies of needs and entries, as the program makes them: contracts for the walks; conditions: they lie in memory, and hold at most 2 to the 20. -/
namespace Go.Proofs.YtlfmefojcmpfeaaGreatDoor
open Go.RowKit
set_option linter.unusedSimpArgs false
set_option linter.unusedVariables false

/-- The cells of needs. -/
def needsV (xs : List NeedD) : List Value := xs.flatMap fun d => [.string d.n, .string d.r]
theorem needsV_length (xs : List NeedD) : (needsV xs).length = xs.length * 2 := by
  induction xs with
  | nil => rfl
  | cons d l ih => simp only [needsV, List.flatMap_cons, List.length_append, List.length_cons, List.length_nil] at *; omega
theorem needsV_append (xs ys : List NeedD) : needsV xs ++ needsV ys = needsV (xs ++ ys) := by simp [needsV]
theorem needsV_take (xs : List NeedD) (k : Nat) (h : k < xs.length) : needsV (xs.take k) ++ [.string xs[k].n, .string xs[k].r] = needsV (xs.take (k + 1)) := by
  rw [List.take_succ_eq_append_getElem h, ← needsV_append]; rfl
theorem needsV_at (xs : List NeedD) : ∀ i (h : i < xs.length), (needsV xs)[i * 2]? = some (.string xs[i].n) ∧ (needsV xs)[i * 2 + 1]? = some (.string xs[i].r) := by
  induction xs with
  | nil => intro i h; simp at h
  | cons d l ih =>
    intro i h
    have e : needsV (d :: l) = [.string d.n, .string d.r] ++ needsV l := by simp [needsV]
    cases i with
    | zero => rw [e]; simp
    | succ i =>
      have h' := ih i (by simpa using h)
      rw [e, List.getElem?_append_right (by simp; omega), List.getElem?_append_right (by simp; omega)]
      simp only [List.length_cons, List.length_nil]
      rw [show (i + 1) * 2 - (0 + 1 + 1) = i * 2 by omega, show (i + 1) * 2 + 1 - (0 + 1 + 1) = i * 2 + 1 by omega]
      simpa using h'
theorem needs_own {w : World} {lo : Nat} {v : Value} {xs : List NeedD} (h : w.ownsRow lo 39 2 v xs.length (needsV xs)) (hl : xs.length ≤ maxLen) (hs : ∀ d ∈ xs, d.n.size ≤ maxLen ∧ d.r.size ≤ maxLen) : RowOwn shNeed 39 (Ow lo w.heap.size) w v xs := by
  refine ⟨hl, needsV xs, owns_lo (Nat.zero_le _) h, owns_in h, fun i hi _ => ⟨[.string xs[i].n, .string xs[i].r], rfl, ⟨rfl, hs _ (List.getElem_mem hi)⟩, fun j hj => ?_⟩⟩
  obtain ⟨h1, h2⟩ := needsV_at xs i hi
  match j, hj with
  | 0, _ => exact h1
  | 1, _ => exact h2

theorem owns_of_belowN {w w' : World} {lo sz n : Nat} {e : TypeId} {v : Value} {xs : List Value} (h : w.ownsRow lo e sz v n xs) (hb : Below w.heap.size w w') : w'.ownsRow lo e sz v n xs := h.kept (grown_of_below hb none) (by cases hq : v.ownBlock <;> simp)
theorem cells_put {w : World} {N M : Nat} {o : Obj} (h : w.heap[N]? = some o) (hne : N ≠ M) (j : Nat) (v : Value) : (w.setCell ⟨M, j, none⟩ v).heap[N]? = some o := (Below.heap_setCell w ⟨M, j, none⟩ v N (by simpa using hne)).trans h
theorem two_src (w : World) (c0 c1 : Value) : ∀ j u, ([c0, c1] : List Value)[j]? = some u → (w.alloc (.cells #[c0, c1] 39)).cell? ((⟨w.heap.size, 0, none⟩ : Addr).add j) = some u := fun j u hu => by
  have e : ((⟨w.heap.size, 0, none⟩ : Addr).add j) = ⟨w.heap.size, j, none⟩ := by unfold Addr.add; split <;> simp_all
  rw [e, vblk_cell (vheap_new _ _) j]
  simpa using hu

set_option maxHeartbeats 2000000 in
set_option maxRecDepth 100000 in
theorem copyNeeds_c (S : Nat → Prop) (v : Value) (xs : List NeedD) (w : World) (hv : RowIn shNeed S w v xs) (hB : ∀ b, S b → b < w.heap.size) (hw : wtRow wtNeed xs ≤ 1048576) :
    Calls Tryz.prog 147 #[v] w fun e w' => ∃ u', e = .returned u' ∧ w'.ownsRow w.heap.size 39 2 u' xs.length (needsV xs) ∧ Below w.heap.size w w' := by
  obtain ⟨i0, hi, hz0, hz1, hz2⟩ := info_parts infoNeed
  obtain ⟨a, cap, rfl, hl, hc, ha⟩ := hv
  have hn := len_wtRow wtNeed xs
  have hsz : ∀ d ∈ xs, d.n.size ≤ 1048576 ∧ d.r.size ≤ 1048576 := fun d hd => by
    have h1 : d.n.size + d.r.size ≤ wtRow wtNeed xs := wt_wtRow wtNeed hd
    omega
  unfold maxLen at hl
  go_enter Tryz.func147, Tryz.ntmps147
  go_wp2_with fail
  go_loopw [3, 8] (fun vx vi wr => ∃ (k : Nat), k ≤ xs.length ∧ vi = .int .i64 (k : Int) ∧ wr.ownsRow w.heap.size 39 2 vx k (needsV (xs.take k)) ∧ Below w.heap.size w wr) (fun _ vi _ => xs.length - (intOf vi).toNat)
  case atStart => exact ⟨0, Nat.zero_le _, rfl, (by rw [List.take_zero]; exact World.ownsRow_nil _ _ _ _), Below.refl _ _⟩
  case round =>
    obtain ⟨k, hk, rfl, hown, hbr⟩ := hrel
    obtain ⟨qo, co, hvo⟩ := owns_sliceP hown
    subst hvo
    by_cases hlt' : k < xs.length
    · rcases ha with rfl | ⟨b0, off, rfl, hlt, ha⟩
      · simp at hlt'
      obtain ⟨cs, hL, hcell⟩ := ha k hlt'
      replace hcell := hcell.keep (.of hbr hB) hlt
      obtain ⟨hs1, hs2⟩ := hsz xs[k] (List.getElem_mem hlt')
      have HT : Hid (needsV (xs.take k) ++ [.string xs[k].n, .string xs[k].r] = needsV (xs.take (k + 1))) := needsV_take xs k hlt'
      obtain ⟨d, hd⟩ : ∃ d, d = xs[k] := ⟨_, rfl⟩
      rw [← hd] at hL hs1 hs2 HT
      obtain ⟨rfl, _, _⟩ := hL
      have e0 : wr.cell? ⟨b0, off + k * 2, none⟩ = some (.string d.n) := hcell 0 (by simp)
      have e1 : wr.cell? ⟨b0, off + k * 2 + 1, none⟩ = some (.string d.r) := hcell 1 (by simp)
      have hki : (k : Int) < (xs.length : Int) := by omega
      clear ha hd hsz hcell
      have kB : Below wr.heap.size wr (wr.alloc (.cells #[.string d.n, .string d.r] 39)) := (Below.refl _ _).alloc (Nat.le_refl _) _
      have hbx5 : (wr.alloc (.cells #[.string d.n, .string d.r] 39)).heap[wr.heap.size]? = some (.cells #[.string d.n, .string d.r] 39 (0, 0)) := vheap_new _ _
      have hown5 := owns_of_belowN hown kB
      have hbr5 := hbr.trans (kB.mono hbr.size)
      have hne5 : (Value.slice qo k co).ownBlock ≠ some wr.heap.size := fun e => by have := (hown.lt _ e).2; omega
      clear kB hown
      go_wp2_with fail
      obtain ⟨N5, hN5e⟩ : ∃ N5, N5 = wr.heap.size := ⟨_, rfl⟩
      obtain ⟨w5, hW5⟩ : ∃ w5, w5 = wr.alloc (.cells #[.string d.n, .string d.r] 39) := ⟨_, rfl⟩
      rw [← hN5e, ← hW5] at hbx5
      rw [← hW5] at hown5 hbr5
      rw [← hN5e] at hne5
      rw [← hN5e, ← hW5]
      clear hN5e hW5 e0 e1
      have h0 : Below w5.heap.size w5 w5.drew := (Below.refl _ _).drew
      have KEEP : Hid (∀ w1, Below w5.heap.size w5 w1 → w1.cell? ⟨N5, 0, none⟩ = some (.string d.n) ∧ w1.cell? ⟨N5, 1, none⟩ = some (.string d.r)) := fun w1 h => ⟨vblk_cell (box_below hbx5 h) 0, vblk_cell (box_below hbx5 h) 1⟩
      refine wp_region_held_drew (S := (fun w' => w'.cell? ⟨N5, 0, none⟩ = some (.string d.n) ∧ w'.cell? ⟨N5, 1, none⟩ = some (.string d.r))) (by kernel_rfl) ?SR10 (fun hHeld => ?_)
      case SR10 => (first | (with_reducible exact KEEP.out _ h3) | (with_reducible exact KEEP.out _ h2) | (with_reducible exact KEEP.out _ h1) | (with_reducible exact KEEP.out _ h0))
      refine wpAnyH_take (i := 0) (oi := _) (v := ?vR10) rfl (by kernel_rfl) (by kernel_rfl) (by kernel_rfl) (fun _ _ _ h => h) (Or.inl ⟨by rfl, ?yR10⟩) hHeld ?_
      case yR10 => (intro w hSw; (try dsimp only at hSw); go_simp <;> with_reducible rfl)
      try simp only [Act.put, List.getElem_toArray, List.getElem_cons_zero, List.getElem_cons_succ, List.setIfInBounds_toArray, List.set_cons_zero, List.set_cons_succ]
      refine wpAnyH_take (i := 1) (oi := _) (v := ?vR11) rfl (by kernel_rfl) (by kernel_rfl) (by kernel_rfl) (fun _ _ _ h => h) (Or.inl ⟨by rfl, ?yR11⟩) hHeld ?_
      case yR11 => (intro w hSw; (try dsimp only at hSw); go_simp <;> with_reducible rfl)
      try simp only [Act.put, List.getElem_toArray, List.getElem_cons_zero, List.getElem_cons_succ, List.setIfInBounds_toArray, List.set_cons_zero, List.set_cons_succ]
      refine wpAnyH_take (i := 2) (oi := _) (v := ?vR12) rfl (by kernel_rfl) (by kernel_rfl) (by kernel_rfl) (fun _ _ _ h => h) (Or.inl ⟨by rfl, ?yR12⟩) hHeld ?_
      case yR12 => (intro w hSw; (try dsimp only at hSw); go_simp <;> with_reducible rfl)
      try simp only [Act.put, List.getElem_toArray, List.getElem_cons_zero, List.getElem_cons_succ, List.setIfInBounds_toArray, List.set_cons_zero, List.set_cons_succ]
      refine wpAnyH_take (i := 4) (oi := _) (v := ?vR13) rfl (by kernel_rfl) (by kernel_rfl) (by kernel_rfl) (fun _ _ _ h => h) (Or.inl ⟨by rfl, ?yR13⟩) hHeld ?_
      case yR13 => (intro w hSw; (try dsimp only at hSw); go_simp <;> with_reducible rfl)
      try simp only [Act.put, List.getElem_toArray, List.getElem_cons_zero, List.getElem_cons_succ, List.setIfInBounds_toArray, List.set_cons_zero, List.set_cons_succ]
      refine wpAnyH_take (i := 5) (oi := _) (v := ?vR14) rfl (by kernel_rfl) (by kernel_rfl) (by kernel_rfl) (fun _ _ _ h => h) (Or.inl ⟨by rfl, ?yR14⟩) hHeld ?_
      case yR14 => (intro w hSw; (try dsimp only at hSw); go_simp <;> with_reducible rfl)
      try simp only [Act.put, List.getElem_toArray, List.getElem_cons_zero, List.getElem_cons_succ, List.setIfInBounds_toArray, List.set_cons_zero, List.set_cons_succ]
      refine wpAnyH_ready (rs := [3]) (by kernel_rfl) (by simp) ?_
      refine AllReadyH.cons rfl (fun K hK => ?_) AllReadyH.nil
      go_simp
      go_wp2_with (go_at_call 116; refine (clone_c d.n _ hs1).mono ?_; rintro e w1 ⟨rfl, b1⟩; have h1 : Below w5.heap.size w5 w1 := h0.trans (b1.mono h0.size))
      clear hHeld
      refine hK.out _ _ ?SR16 (fun hHeld => ?_)
      case SR16 => ((try dsimp only); first | (with_reducible exact KEEP.out _ h3) | (with_reducible exact KEEP.out _ h2) | (with_reducible exact KEEP.out _ h1) | (with_reducible exact KEEP.out _ h0))
      clear hK K
      refine wpAnyH_ready (rs := [6]) (by kernel_rfl) (by simp) ?_
      refine AllReadyH.cons rfl (fun K hK => ?_) AllReadyH.nil
      go_simp
      go_wp2_with (go_at_call 116; refine (clone_c d.r _ hs2).mono ?_; rintro e w2 ⟨rfl, b2⟩; have h2 : Below w5.heap.size w5 w2 := h1.trans (b2.mono h1.size))
      clear hHeld
      refine hK.out _ _ ?SR17 (fun hHeld => ?_)
      case SR17 => ((try dsimp only); first | (with_reducible exact KEEP.out _ h3) | (with_reducible exact KEEP.out _ h2) | (with_reducible exact KEEP.out _ h1) | (with_reducible exact KEEP.out _ h0))
      clear hK K
      refine wpAnyH_take (i := 7) (oi := _) (v := ?vR17) rfl (by kernel_rfl) (by kernel_rfl) (by kernel_rfl) (fun _ _ _ h => h) (Or.inl ⟨by rfl, ?yR17⟩) hHeld ?_
      case yR17 => (intro w hSw; (try dsimp only at hSw); go_simp <;> with_reducible rfl)
      try simp only [Act.put, List.getElem_toArray, List.getElem_cons_zero, List.getElem_cons_succ, List.setIfInBounds_toArray, List.set_cons_zero, List.set_cons_succ]
      have k2 := hbr5.trans (h2.mono hbr5.size)
      have o2 := owns_of_belowN hown5 h2
      have kA : Below w2.heap.size w2 (w2.alloc (.cells #[.string d.n, .string d.r] 39)) := (Below.refl _ _).alloc (Nat.le_refl _) _
      refine wpAnyH_ready (rs := [8]) (by kernel_rfl) (by simp) ?_
      refine AllReadyH.cons rfl (fun K hK => ?_) AllReadyH.nil
      go_simp
      clear hHeld
      have h3 : Below w5.heap.size w5 (w2.alloc (.cells #[.string d.n, .string d.r] 39)) := h2.trans (kA.mono h2.size)
      refine hK.out _ (w2.alloc (.cells #[.string d.n, .string d.r] 39)) ?SR1_8 (fun hHeld => ?_)
      case SR1_8 => (exact KEEP.out _ h3)
      clear hK K
      try simp only [Act.put, List.getElem_toArray, List.getElem_cons_zero, List.getElem_cons_succ, List.setIfInBounds_toArray, List.set_cons_zero, List.set_cons_succ]
      refine wpAnyH_ready (rs := [9]) (by kernel_rfl) (by simp) ?_
      refine AllReadyH.cons rfl (fun K hK => ?_) AllReadyH.nil
      rw [if_pos (by rfl)]
      refine wp_append_own _ _ _ 33 rfl w.heap.size 39 i0 (.agg #[.string ⟨#[]⟩, .string ⟨#[]⟩]) 2 32 Tryz.underlying33 hi hz0 hz1 hz2 rfl (by decide) _ k (needsV (xs.take k)) rfl (owns_of_belowN o2 kA) ⟨w2.heap.size, 0, none⟩ 1 1 [.string d.n, .string d.r] rfl rfl (two_src w2 _ _) (by simp [Value.oneCell']) (by unfold maxLen; omega) (by omega) (Nat.le_trans k2.size kA.size) ?_
      intro v3 w3 o3 gr3 _
      rw [HT.out] at o3
      have hb3 : Below w.heap.size w w3 := Below.grown (k2.trans (kA.mono k2.size)) gr3 (Nat.le_trans k2.size kA.size) (fun j hj => ((owns_of_belowN o2 kA).lt _ hj).1)
      clear hHeld
      refine hK.out _ _ ?TR1_8 (fun hHeld => ?_)
      case TR1_8 => (exact ⟨vblk_cell (box_grown (box_below hbx5 h3) gr3 hne5) 0, vblk_cell (box_grown (box_below hbx5 h3) gr3 hne5) 1⟩)
      clear hK K
      try simp only [Act.put, List.getElem_toArray, List.getElem_cons_zero, List.getElem_cons_succ, List.setIfInBounds_toArray, List.set_cons_zero, List.set_cons_succ]
      refine wpAnyH_take (i := 10) (oi := _) (v := ?vR19) rfl (by kernel_rfl) (by kernel_rfl) (by kernel_rfl) (fun _ _ _ h => h) (Or.inl ⟨by rfl, ?yR19⟩) hHeld ?_
      case yR19 => (intro w hSw; (try dsimp only at hSw); go_simp <;> with_reducible rfl)
      try simp only [Act.put, List.getElem_toArray, List.getElem_cons_zero, List.getElem_cons_succ, List.setIfInBounds_toArray, List.set_cons_zero, List.set_cons_succ]
      refine wpAnyH_done (by kernel_rfl) ?_ _
      go_wp2_with fail
      go_roundw
      case rel => exact ⟨k + 1, by omega, by go_num, o3, hb3⟩
      case measure => simp [intOf]; omega
    · have he : k = xs.length := by omega
      subst he
      rw [List.take_length] at hown
      clear ha
      go_wp2_with fail
      go_ret
      exact ⟨_, rfl, hown, hbr⟩

end Go.Proofs.YtlfmefojcmpfeaaGreatDoor

/-! Rows of picks that are being made, in blocks of the call's own: no condition. -/
namespace Go.Proofs.YtlfmefojcmpfeaaGreatDoor
open Go.RowKit
set_option linter.unusedSimpArgs false
set_option linter.unusedVariables false

/-- A pick and its list, as values. -/
structure LC where
  d : PickD
  u0 : Value
def LC.cells (p : LC) : List Value := [.string p.d.name, .int .i64 p.d.vA, .int .i64 p.d.vB, .int .i64 p.d.vC, p.u0]
def flatL (ps : List LC) : List Value := ps.flatMap LC.cells
theorem flatL_length (ps : List LC) : (flatL ps).length = ps.length * 5 := by
  induction ps with
  | nil => rfl
  | cons p r ih => simp only [flatL, List.flatMap_cons, List.length_append, List.length_cons] at *; rw [ih]; simp [LC.cells]; omega
theorem flatL_append (a b : List LC) : flatL (a ++ b) = flatL a ++ flatL b := by simp [flatL]
theorem flatL_at (ps : List LC) (i : Nat) (h : i < ps.length) (j : Nat) (hj : j < 5) : (flatL ps)[i * 5 + j]? = (ps[i].cells)[j]? := by
  induction ps generalizing i with
  | nil => simp at h
  | cons p r ih =>
    show (p.cells ++ flatL r)[i * 5 + j]? = _
    have hc : p.cells.length = 5 := rfl
    cases i with
    | zero => rw [Nat.zero_mul, Nat.zero_add, List.getElem?_append_left (by omega)]; rfl
    | succ i =>
      rw [List.getElem?_append_right (by omega), hc, show (i + 1) * 5 + j - 5 = i * 5 + j by omega]
      exact ih i (by simpa using h)

/-- A row of picks in blocks of the call's own. -/
def RowL (lo : Nat) (w : World) (v : Value) (ps : List LC) : Prop := w.ownsRow lo 59 5 v ps.length (flatL ps) ∧ ∀ p ∈ ps, w.ownsRow lo 9 1 p.u0 p.d.vP.length (strsV p.d.vP)
theorem RowL.below {lo : Nat} {w w' : World} {v : Value} {ps : List LC} (h : RowL lo w v ps) (hb : Below w.heap.size w w') : RowL lo w' v ps := ⟨owns_of_belowN h.1 hb, fun p hp => owns_of_belowN (h.2 p hp) hb⟩
theorem RowL.own {lo : Nat} {w : World} {v : Value} {ps : List LC} (h : RowL lo w v ps) (hs : ∀ p ∈ ps, p.d.name.size ≤ 1048576 ∧ bulkS p.d.vP ≤ 1048576) (hl : ps.length ≤ maxLen) : RowOwn shPickO 59 (Ow lo w.heap.size) w v (ps.map LC.d) := by
  refine ⟨by simpa using hl, flatL ps, ?_, owns_in h.1, ?_⟩
  · rw [List.length_map]; exact owns_lo (Nat.zero_le _) h.1
  · intro i hi _
    have hi2 : i < ps.length := by simpa using hi
    have hm := List.getElem_mem hi2
    have h1 := h.2 _ hm
    obtain ⟨h2, h3⟩ := hs _ hm
    have h4 : saneP ps[i].d.vP := by
      unfold bulkS at h3
      refine ⟨by unfold maxLen; omega, fun s hs => ?_⟩
      have h9 := size_of_bulk hs
      unfold bulkS at h9
      unfold maxLen
      omega
    refine ⟨ps[i].cells, rfl, ?_, fun j hj => ?_⟩
    · rw [List.getElem_map]
      exact ⟨ps[i].u0, rfl, by unfold maxLen; omega, ⟨owns_lo (Nat.zero_le _) h1, owns_in h1⟩, h4⟩
    · have hj5 : j < 5 := hj
      show (flatL ps)[i * 5 + j]? = _
      rw [flatL_at ps i hi2 j hj5, List.getElem?_eq_getElem]
/-- No two of them share a block. -/
def SepL (ps : List LC) : Prop := ∀ i j (hi : i < ps.length) (hj : j < ps.length), i ≠ j → ∀ g, ps[i].u0.ownBlock = some g → ps[j].u0.ownBlock ≠ some g
theorem SepL.nil : SepL [] := fun i j hi => by simp at hi
theorem SepL.add {ps : List LC} {x : LC} {B : Nat} (h : SepL ps) (h1 : ∀ p ∈ ps, ∀ g, p.u0.ownBlock = some g → g < B) (h2 : ∀ g, x.u0.ownBlock = some g → B ≤ g) : SepL (ps ++ [x]) := fun i j hi hj hne g hg hg2 => by
  simp only [List.length_append, List.length_singleton] at hi hj
  by_cases a : i < ps.length
  · rw [List.getElem_append_left a] at hg
    by_cases b : j < ps.length
    · rw [List.getElem_append_left b] at hg2
      exact h i j a b hne g hg hg2
    · obtain rfl : j = ps.length := by omega
      simp at hg2
      have := h1 _ (List.getElem_mem a) g hg
      have := h2 g hg2
      omega
  · obtain rfl : i = ps.length := by omega
    have b : j < ps.length := by omega
    simp at hg
    rw [List.getElem_append_left b] at hg2
    have := h1 _ (List.getElem_mem b) g hg2
    have := h2 g hg
    omega
theorem src_newL (w : World) (cs : List Value) (t : TypeId) : ∀ j u, cs[j]? = some u → (w.alloc (.cells cs.toArray t)).cell? ((⟨w.heap.size, 0, none⟩ : Addr).add j) = some u := fun j u hu => by
  have e : ((⟨w.heap.size, 0, none⟩ : Addr).add j) = ⟨w.heap.size, j, none⟩ := by unfold Addr.add; split <;> simp_all
  rw [e, vblk_cell (vheap_new _ _) j]
  simpa using hu
theorem rowL_plain {lo : Nat} {w : World} {v : Value} {xs : List PickD} (h : RowOwn shPickO 59 (Ow lo w.heap.size) w v xs) : RowIn shPick (Ow lo w.heap.size) w v xs := RowIn.as (sh := shPickO) (sh' := shPick) rfl (fun S w cs x h => liesPick_plain h) h.plain
end Go.Proofs.YtlfmefojcmpfeaaGreatDoor

/-! What reading a lock answers, as the program does it: the picks of its lines, or an error of the program's own: a contract for the walks; condition: the text has at most 2 to the 20 bytes. -/
namespace Go.Proofs.YtlfmefojcmpfeaaGreatDoor
open Go.RowKit
set_option linter.unusedSimpArgs false
set_option linter.unusedVariables false

theorem lineP_some {l : ByteArray} (h : resOk (cutD l 64).2.1 = true) : lineP l = some (pickT (cutD l 64).1 (cutD l 64).2.1) := by unfold lineP; rw [if_pos h]
theorem lineP_none {l : ByteArray} (h : resOk (cutD l 64).2.1 = false) : lineP l = none := by unfold lineP; rw [if_neg (by rw [h]; decide)]
/-- What one round of the reading comes to: the text from place b on is cut at its first byte 10. -/
theorem lock_round (s : ByteArray) (b : Nat) (hb : b < s.size) (acc : List PickD) (line rest : ByteArray) (en : Bool) (hc : cutD (s.extract b s.size) 10 = (line, rest, en)) :
    line.size ≤ s.size ∧ (en = false → lockGo (splitGo s 10 (s.size - b) b b) acc = none) ∧
    (en = true → ∃ b', b < b' ∧ b' ≤ s.size ∧ rest = s.extract b' s.size ∧
      (resOk (cutD line 64).2.1 = false → lockGo (splitGo s 10 (s.size - b) b b) acc = none) ∧
      (resOk (cutD line 64).2.1 = true → picksB (acc ++ [pickT (cutD line 64).1 (cutD line 64).2.1]) = false → lockGo (splitGo s 10 (s.size - b) b b) acc = none) ∧
      (resOk (cutD line 64).2.1 = true → picksB (acc ++ [pickT (cutD line 64).1 (cutD line 64).2.1]) = true → lockGo (splitGo s 10 (s.size - b) b b) acc = lockGo (splitGo s 10 (s.size - b') b' b') (acc ++ [pickT (cutD line 64).1 (cutD line 64).2.1]))) := by
  have hu : (10 : Int).toNat.toUInt8 = 10 := rfl
  have hsz := cutD_size (s.extract b s.size) 10
  rw [hc, vsize s b s.size (by omega) (Nat.le_refl _)] at hsz
  refine ⟨by have h1 : line.size ≤ s.size - b := hsz.1; omega, ?_⟩
  rcases search s 10 b (by omega) (by decide) (by decide) with ⟨h1, h2⟩ | ⟨k, h1, hk, h2⟩
  · rw [hu] at h1
    rw [cutD_none h1] at hc
    injection hc with _ hc
    injection hc with _ hc
    refine ⟨fun _ => ?_, fun h => (by rw [h] at hc; cases hc)⟩
    rw [h2, lockGo_last, if_neg]
    rw [vsize s b s.size (by omega) (Nat.le_refl _)]
    omega
  · rw [hu] at h1
    rw [cutD_some h1] at hc
    injection hc with hl hc
    injection hc with hr hc
    refine ⟨fun h => (by rw [h] at hc; cases hc), fun _ => ⟨b + k + 1, by omega, by omega, ?_, ?_⟩⟩
    · rw [← hr, vsize s b s.size (by omega) (Nat.le_refl _), vsub s b s.size (k + 1) (s.size - b) (by omega) (Nat.le_refl _)]
      congr 1 <;> omega
    · have hl2 : line = s.extract b (b + k) := by
        rw [← hl, vsub s b s.size 0 k (by omega) (Nat.le_refl _)]
        rfl
      rw [h2, lockGo_more (vsplitGo_ne _ _ _ _ _), ← hl2]
      refine ⟨fun h => by rw [lineP_none h], fun h hp => ?_, fun h hp => ?_⟩
      · rw [lineP_some h]
        show (if _ then _ else _) = _
        rw [if_neg (by rw [hp]; decide)]
      · rw [lineP_some h]
        show (if _ then _ else _) = _
        rw [if_pos hp]
theorem lock_end (s : ByteArray) (acc : List PickD) : lockGo (splitGo s 10 (s.size - s.size) s.size s.size) acc = some acc := by
  rw [splitGo_end, lockGo_last, if_pos]
  rw [vsize s s.size s.size (Nat.le_refl _) (Nat.le_refl _)]
  omega
theorem pickT_bulk {t : ByteArray} (h : resOk t = true) : bulkS (resP t) ≤ 1048576 := by have := bk_bulk (bk_ver t h); omega

set_option maxHeartbeats 8000000 in
set_option maxRecDepth 100000 in
theorem readLock_c (s : ByteArray) (hs : s.size ≤ 1048576) (w : World) :
    Calls Tryz.prog 125 #[.string s] w fun e w' => ((∃ v ps, lockR s = some (ps.map LC.d) ∧ e = .returned (.tuple #[v, .nilIface]) ∧ RowL w.heap.size w' v ps ∧ SepL ps ∧ (∀ p ∈ ps, p.d.name.size ≤ 1048576 ∧ bulkS p.d.vP ≤ 1048576) ∧ ps.length ≤ 12) ∨ (lockR s = none ∧ ∃ n : Int, e = .returned (.tuple #[.slice none 0 0, .iface 165 (.agg #[.int .i64 n])]))) ∧ Below w.heap.size w w' := by
  obtain ⟨i0, hi0, hz0, hz1, hz2⟩ := info_parts infoPick
  have HG0 : Hid (RowL w.heap.size w (.slice none 0 0) []) := ⟨World.ownsRow_nil w _ _ _, fun p hp => by simp at hp⟩
  have HL0 : Hid (lockR s = lockGo (splitGo s 10 (s.size - 0) 0 0) (([] : List LC).map LC.d)) := rfl
  have HW := hidden (vwhole s)
  go_enter Tryz.func125, Tryz.ntmps125
  go_wp2_with fail
  go_loopw [0, 4, 5] (fun vs vo vi wr => ∃ (b k : Nat) (rs : ByteArray) (v : Value) (ps : List LC), b ≤ s.size ∧ k ≤ b ∧ vs = .string rs ∧ Hid (rs = s.extract b s.size) ∧ vo = v ∧ vi = .int .i64 (k : Int) ∧ Hid (lockR s = lockGo (splitGo s 10 (s.size - b) b b) (ps.map LC.d)) ∧ Hid (RowL w.heap.size wr v ps) ∧ Hid (∀ p ∈ ps, p.d.name.size ≤ 1048576 ∧ bulkS p.d.vP ≤ 1048576) ∧ ps.length ≤ 12 ∧ Hid (SepL ps) ∧ Hid (Below w.heap.size w wr)) (fun vs _ _ _ => match vs with | .string t => t.size | _ => 0)
  case atStart => exact ⟨0, 0, s, _, [], Nat.zero_le _, Nat.le_refl _, rfl, (by show _ = _; rw [HW.out]), rfl, rfl, HL0, HG0, (fun p hp => by simp at hp), by simp, SepL.nil, Below.refl _ _⟩
  case round =>
    clear HG0 HL0 HW
    obtain ⟨wo, hwo⟩ : ∃ wo, wo = wr := ⟨_, rfl⟩
    subst hwo
    obtain ⟨b, k, rs, v, ps, hb, hkb, rfl, hrs, hvo, rfl, hlk, hrow, hps, hpl, hsep, HBR⟩ := hrel
    have hbr := HBR.out
    obtain ⟨qo, co, hv⟩ := owns_sliceL hrow.out.1
    subst hvo
    subst hv
    have hrz : rs.size = s.size - b := by rw [hrs.out, vsize s b s.size hb (Nat.le_refl _)]
    by_cases hlt : b < s.size
    · have hrp : (0 : Int) < (rs.size : Int) := by omega
      have hrle : rs.size ≤ 1048576 := by omega
      have HC : ∀ w1, Calls Tryz.prog 194 #[.string rs, .string ⟨#[10]⟩] w1 fun e w' => e = .returned (.tuple #[.string (cutD rs 10).1, .string (cutD rs 10).2.1, .bool (cutD rs 10).2.2]) ∧ Below w1.heap.size w1 w' := fun w1 => cut10_c rs w1 hrle
      obtain ⟨⟨ln, rest, en⟩, hx⟩ : ∃ p, p = cutD rs 10 := ⟨_, rfl⟩
      rw [← hx] at HC
      dsimp only at HC
      have HRD := lock_round s b hlt (ps.map LC.d) ln rest en (by rw [← hrs.out]; exact hx.symm)
      obtain ⟨hlz, HRN, HRY⟩ := HRD
      have HP := fun w1 => readPick_c ln (by omega) w1
      obtain ⟨hn7, ht7⟩ := cutD_size ln 64
      have HBK := hidden (fun h => pickT_bulk (t := (cutD ln 64).2.1) h)
      have HPT : Hid (pickT (cutD ln 64).1 (cutD ln 64).2.1 = ⟨(cutD ln 64).1, resN (cutD ln 64).2.1 0, resN (cutD ln 64).2.1 1, resN (cutD ln 64).2.1 2, resP (cutD ln 64).2.1⟩) := rfl
      obtain ⟨nm, hnm⟩ : ∃ z, z = (cutD ln 64).1 := ⟨_, rfl⟩
      obtain ⟨ra, hra⟩ : ∃ z, z = resN (cutD ln 64).2.1 0 := ⟨_, rfl⟩
      obtain ⟨rb, hrb⟩ : ∃ z, z = resN (cutD ln 64).2.1 1 := ⟨_, rfl⟩
      obtain ⟨rc, hrc⟩ : ∃ z, z = resN (cutD ln 64).2.1 2 := ⟨_, rfl⟩
      obtain ⟨rk, hrk⟩ : ∃ z, z = resOk (cutD ln 64).2.1 := ⟨_, rfl⟩
      obtain ⟨rp, hrp2⟩ : ∃ z, z = resP (cutD ln 64).2.1 := ⟨_, rfl⟩
      obtain ⟨D, hD⟩ : ∃ z, z = pickT (cutD ln 64).1 (cutD ln 64).2.1 := ⟨_, rfl⟩
      simp only [← hD] at HRY HPT
      simp only [← hra, ← hrb, ← hrc, ← hrk, ← hrp2, ← hnm] at HP HRY HBK HPT
      rw [← hnm] at hn7
      have hnz : nm.size ≤ 1048576 := by omega
      have HP2 : Hid (∀ w1, Calls Tryz.prog 195 #[.string ln] w1 fun e w' => ∃ q c, e = .returned (.tuple #[.agg #[.string nm, .int .i64 ra, .int .i64 rb, .int .i64 rc, .slice q rp.length c], .bool rk]) ∧ w'.ownsRow w1.heap.size 9 1 (.slice q rp.length c) rp.length (strsV rp) ∧ Below w1.heap.size w1 w') := fun w1 => (HP w1).mono fun e w' ⟨u, h1, h2, h3⟩ => by
        obtain ⟨q, c, rfl⟩ := owns_sliceL h2
        exact ⟨q, c, h1, h2, h3⟩
      replace HC := hidden HC
      replace HRN := hidden HRN
      replace HRY := hidden HRY
      obtain ⟨un, hun⟩ : ∃ n, n = rp.length := ⟨_, rfl⟩
      have HUN := hidden hun
      rw [← hun] at HP2
      clear hx hnm hra hrb hrc hrk hrp2 hD hun HP hn7 ht7 hlz hrs
      go_wp2_with fail
      go_at_call 194
      refine (HC.out _).mono ?_
      rintro e w1 ⟨rfl, b1⟩
      have k1 : Below w.heap.size w w1 := hbr.trans (b1.mono hbr.size)
      have hrow1 := hidden (hrow.out.below b1)
      clear HC hrow b1 hbr HBR
      go_wp2_with fail
      go_at_call 195
      refine (HP2.out _).mono ?_
      rintro e w2 ⟨uq, uc, rfl, ho2, b2⟩
      have k2 : Below w.heap.size w w2 := k1.trans (b2.mono k1.size)
      have hrow2 := hidden (hrow1.out.below b2)
      have HO2 := hidden (owns_lo k1.size ho2)
      have HSEP : Hid (SepL (ps ++ [⟨D, .slice uq un uc⟩])) := hsep.out.add (B := w1.heap.size) (fun p hp g hg => (owns_in (hrow1.out.2 p hp) g hg).2) (fun g hg => (owns_in ho2 g hg).1)
      have hown2 := hrow2.out.1
      have kz : Below w.heap.size w ((w2.alloc (.cells #[.string nm, .int .i64 ra, .int .i64 rb, .int .i64 rc, .slice uq un uc] 59)).alloc (.cells #[.string nm, .int .i64 ra, .int .i64 rb, .int .i64 rc, .slice uq un uc] 59)) := (k2.alloc k2.size _).alloc (by have := k2.size; simp; omega) _
      have kz2 : Hid (Below w2.heap.size w2 ((w2.alloc (.cells #[.string nm, .int .i64 ra, .int .i64 rb, .int .i64 rc, .slice uq un uc] 59)).alloc (.cells #[.string nm, .int .i64 ra, .int .i64 rb, .int .i64 rc, .slice uq un uc] 59))) := ((Below.refl _ _).alloc (Nat.le_refl _) _).alloc (by simp) _
      have hsrc : ∀ j u, [.string nm, .int .i64 ra, .int .i64 rb, .int .i64 rc, .slice uq un uc][j]? = some u → ((w2.alloc (.cells #[.string nm, .int .i64 ra, .int .i64 rb, .int .i64 rc, .slice uq un uc] 59)).alloc (.cells #[.string nm, .int .i64 ra, .int .i64 rb, .int .i64 rc, .slice uq un uc] 59)).cell? ((⟨w2.heap.size + 1, 0, none⟩ : Addr).add j) = some u := by
        have h9 := src_newL (w2.alloc (.cells #[.string nm, .int .i64 ra, .int .i64 rb, .int .i64 rc, .slice uq un uc] 59)) [.string nm, .int .i64 ra, .int .i64 rb, .int .i64 rc, .slice uq un uc] 59
        simpa using h9
      have KZ := hidden kz
      clear HP2 hrow1 b2 ho2 k1 kz
      go_wp2_with (at_builtin; refine wpList_append_own _ rfl _ _ 49 rfl w.heap.size 59 i0 (.agg #[.string ⟨#[]⟩, .int .i64 0, .int .i64 0, .int .i64 0, .slice none 0 0]) 5 64 Tryz.underlying49 hi0 hz0 hz1 hz2 rfl (by decide) _ ps.length (flatL ps) rfl ((hown2.alloc _).alloc _) ⟨w2.heap.size + 1, 0, none⟩ 1 1 [.string nm, .int .i64 ra, .int .i64 rb, .int .i64 rc, .slice uq un uc] rfl rfl hsrc (by intro u hu; simp at hu; rcases hu with rfl | rfl | rfl | rfl | rfl <;> rfl) (by unfold maxLen; omega) (by omega) (by have := k2.size; simp; omega) ?_)
      intro v3 w3 o3 gr3 _
      have hb3 : Below w.heap.size w w3 := KZ.out.grown gr3 KZ.out.size (fun j hj => (hown2.lt j hj).1)
      have hrow3 : RowL w.heap.size w3 v3 (ps ++ [⟨D, .slice uq un uc⟩]) := by
        refine ⟨?_, fun q hq => ?_⟩
        · rw [flatL_append, List.length_append]
          have e9 : flatL [(⟨D, .slice uq un uc⟩ : LC)] = [.string nm, .int .i64 ra, .int .i64 rb, .int .i64 rc, .slice uq un uc] := by show LC.cells _ ++ [] = _; rw [List.append_nil, LC.cells, HPT.out]
          rw [e9]
          exact o3
        · rcases List.mem_append.1 hq with h9 | h9
          · have h8 := owns_of_belowN (hrow2.out.2 q h9) kz2.out
            exact h8.kept gr3 (owns_apart h8 ((hown2.alloc _).alloc _) (by decide))
          · rw [List.mem_singleton.1 h9]
            have h8 := owns_of_belowN HO2.out kz2.out
            have h7 := h8.kept gr3 (owns_apart h8 ((hown2.alloc _).alloc _) (by decide))
            show w3.ownsRow w.heap.size 9 1 (.slice uq un uc) D.vP.length (strsV D.vP)
            rw [HPT.out]
            show w3.ownsRow w.heap.size 9 1 (.slice uq un uc) rp.length (strsV rp)
            rw [← HUN.out]
            exact h7
      have HR3 := hidden hrow3
      have HB3 := hidden hb3
      have HMP : Hid ((ps ++ [(⟨D, .slice uq un uc⟩ : LC)]).map LC.d = ps.map LC.d ++ [D]) := by show _ = _; simp
      obtain ⟨q3, c3, hv3⟩ := owns_sliceL hrow3.1
      subst hv3
      have hl3 : (ps ++ [(⟨D, .slice uq un uc⟩ : LC)]).length = ps.length + 1 := by simp
      rw [hl3] at HR3
      clear hrow3 hb3 o3 gr3 k2 hown2 HO2 kz2 hsrc KZ hrow2 HUN hl3
      cases en with
      | false =>
        have HN := hidden (HRN.out rfl)
        clear HRN HRY
        go_wp2_with fail
        go_ret2
        exact ⟨.inr ⟨by rw [hlk.out, HN.out], _, rfl⟩, HB3.out⟩
      | true =>
        obtain ⟨b', hb1, hb2, hre, HY1, HY2, HY3⟩ := HRY.out rfl
        clear HRN HRY
        cases rk with
        | false =>
          have HN := hidden (HY1 rfl)
          clear HY1 HY2 HY3 hre
          go_wp2_with fail
          go_ret2
          exact ⟨.inr ⟨by rw [hlk.out, HN.out], _, rfl⟩, HB3.out⟩
        | true =>
          have hbk := HBK.out rfl
          have hps3 : ∀ p ∈ ps ++ [(⟨D, .slice uq un uc⟩ : LC)], p.d.name.size ≤ 1048576 ∧ bulkS p.d.vP ≤ 1048576 := fun p hp => by
            rcases List.mem_append.1 hp with h9 | h9
            · exact hps.out p h9
            · rw [List.mem_singleton.1 h9]
              show D.name.size ≤ _ ∧ bulkS D.vP ≤ _
              rw [HPT.out]
              exact ⟨hnz, hbk⟩
          have HOW : Hid (RowOwn shPickO 59 (Ow w.heap.size w3.heap.size) w3 (.slice q3 (ps.length + 1) c3) ((ps ++ [(⟨D, .slice uq un uc⟩ : LC)]).map LC.d)) := by
            have h8 := HR3.out
            exact RowL.own h8 hps3 (by unfold maxLen; simp; omega)
          have HPK := implPicksOk_c (Ow w.heap.size w3.heap.size) _ _ w3 (rowL_plain HOW.out) (fun b hb => hb.2) (fun d hd => by obtain ⟨p, hp, rfl⟩ := List.mem_map.1 hd; exact (hps3 p hp).2)
          rw [picks_alike, HMP.out] at HPK
          have HPS3 := hidden hps3
          have HLE := hidden (fun h : picksB (ps.map LC.d ++ [D]) = true => of_decide_eq_true (Bool.and_eq_true_iff.1 h).2)
          obtain ⟨pk, hpk⟩ : ∃ z, z = picksB (ps.map LC.d ++ [D]) := ⟨_, rfl⟩
          rw [← hpk] at HPK HY2 HY3 HLE
          replace HPK := hidden HPK
          clear hpk hps3 HY1 hbk HOW
          cases pk with
          | false =>
            have HN := hidden (HY2 rfl rfl)
            clear HY2 HY3 hre HLE
            go_wp2_with (go_at_call 121; refine HPK.out.mono ?_; rintro e w4 ⟨rfl, b4⟩)
            go_ret2
            exact ⟨.inr ⟨by rw [hlk.out, HN.out], _, rfl⟩, HB3.out.trans (b4.mono HB3.out.size)⟩
          | true =>
            have HN := hidden (HY3 rfl rfl)
            have hle := HLE.out rfl
            rw [List.length_append, List.length_map, List.length_singleton] at hle
            have HRE := hidden hre
            have hrz2 : rest.size = s.size - b' := by rw [hre, vsize s b' s.size hb2 (Nat.le_refl _)]
            have hk1 : (k : Int) + 1 ≤ 1048577 := by omega
            have HMS : Hid (rest.size < rs.size) := by show _ < _; omega
            clear HY2 HY3 HLE hre hrz2
            go_wp2_with (go_at_call 121; refine HPK.out.mono ?_; rintro e w4 ⟨rfl, b4⟩)
            have HR4 := hidden (HR3.out.below b4)
            go_roundw
            case rel => exact ⟨b', k + 1, rest, _, ps ++ [⟨D, .slice uq un uc⟩], hb2, by omega, rfl, HRE, rfl, by go_num, (by show _ = _; rw [hlk.out, HN.out, HMP.out]), HR4, HPS3, by simpa using hle, HSEP, HB3.out.trans (b4.mono HB3.out.size)⟩
            case measure => exact HMS.out
    · have he : b = s.size := by omega
      have hz : rs.size = 0 := by omega
      have hz2 : ¬ (0 : Int) < (rs.size : Int) := by omega
      have HEN : Hid (lockR s = some (ps.map LC.d)) := by show _ = _; rw [hlk.out, he, lock_end]
      clear hrz hz he hlk
      go_wp2_with fail
      go_ret2
      exact ⟨.inl ⟨_, _, HEN.out, rfl, hrow.out, hsep.out, hps.out, hpl⟩, hbr⟩
end Go.Proofs.YtlfmefojcmpfeaaGreatDoor

/-! What errors.As answers of no error, and of an error of the program's own type where one of that type is asked for: contracts for the walks; conditions: the variable of the library that holds the type of errors holds it. -/
namespace Go.Proofs.YtlfmefojcmpfeaaGreatDoor
open Go.RowKit Go.Extern.Stop Go.Stop Go.Extern
set_option linter.unusedSimpArgs false
set_option linter.unusedVariables false

theorem as_nil (t : Value) (w : World) :
    Calls Tryz.prog 126 #[.nilIface, t] w fun e w' => e = .returned (.bool false) ∧ w' = w := by
  go_enter Tryz.func126, Tryz.ntmps126
  go_wp2
  go_ret
  exact ⟨rfl, rfl⟩

/-- The Value of a pointer to an error. -/
abbrev vPtr (a : Addr) : Value := .agg #[.pointer (some ⟨8, 167, none⟩), .pointer (some a), .int .u64 150]
/-- The Value of an error; one that may be written. -/
abbrev vErr (a : Addr) : Value := .agg #[.pointer (some ⟨8, 165, none⟩), .pointer (some a), .int .u64 153]
abbrev vErrA (a : Addr) : Value := .agg #[.pointer (some ⟨8, 165, none⟩), .pointer (some a), .int .u64 409]
abbrev tPtr : Value := .agg #[.pointer (some ⟨8, 167, none⟩)]
abbrev tErr : Value := .agg #[.pointer (some ⟨8, 165, none⟩)]

theorem asv_valueOfP (t : Addr) (w : World) : (ReflectliteValue.unpack (.iface 167 (.pointer (some t)))).run Tryz.prog w
    = .ok (vPtr ⟨w.heap.size, 0, none⟩) (w.alloc (.cells #[.pointer (some t)] 167)) := by kernel_rfl
theorem asv_typeP (a : Addr) (w : World) : (ReflectliteValue.methodAny (ReflectliteValue.valueError "reflectlite.Value.Type" 0) (fun t _ _ _ => ReflectliteType.toType t) #[vPtr a]).run Tryz.prog w
    = .ok (.iface 288 tPtr) w := by kernel_rfl
theorem asv_methodKind (h : Value) (w : World) : (Go.method 497 288 (.agg #[h]) "Kind").run Tryz.prog w = .ok (348, h) w := by kernel_rfl
theorem asv_kindP (w : World) : ((ReflectliteType.abiMethod fun t => (fun a : Nat => Value.int IntKind.u8 (a : Int)) <$> Rtype.kind t) #[.pointer (some ⟨8, 167, none⟩)]).run Tryz.prog w = .ok (.int .u8 22) w := by kernel_rfl
theorem asv_kindE (w : World) : ((ReflectliteType.abiMethod fun t => (fun a : Nat => Value.int IntKind.u8 (a : Int)) <$> Rtype.kind t) #[.pointer (some ⟨8, 165, none⟩)]).run Tryz.prog w = .ok (.int .u8 25) w := by kernel_rfl
theorem rlm (z : Sem Value) (f : TypeId → Addr → Nat → Nat → Sem Value) (v : Value) :
    ReflectliteValue.method z f #[v] = (do match ← ReflectliteValue.parts v with | none => z | some (t, a, fl) => f t a fl (fl % 32)) := rfl
theorem asv_partsP (a : Addr) (w : World) : (ReflectliteValue.parts (vPtr a)).run Tryz.prog w = .ok (some (167, a, 150)) w := by kernel_rfl
theorem asv_isNilP (a p : Addr) (W : World) (ha : W.cell? a = some (.pointer (some p))) :
    (ReflectliteValue.method (ReflectliteValue.valueError "reflectlite.Value.IsNil" 0) ReflectliteValue.isNil #[vPtr a]).run Tryz.prog W = .ok (.bool false) W := by
  rw [rlm]
  simp only [Sem.run_bind, asv_partsP, Result.andThen]
  simp [ReflectliteValue.isNil, loadVar, isAgg, underlying, Tryz.underlying167, ha, Result.andThen]
theorem asv_methodElem (h : Value) (w : World) : (Go.method 497 288 (.agg #[h]) "Elem").run Tryz.prog w = .ok (359, .agg #[h]) w := by kernel_rfl
theorem asv_methodImplements (h : Value) (w : World) : (Go.method 497 288 (.agg #[h]) "Implements").run Tryz.prog w = .ok (360, .agg #[h]) w := by kernel_rfl
theorem asv_methodAssignableTo (h : Value) (w : World) : (Go.method 497 288 (.agg #[h]) "AssignableTo").run Tryz.prog w = .ok (357, .agg #[h]) w := by kernel_rfl
theorem asv_elemP (w : World) : (ReflectliteType.method ReflectliteType.elem #[tPtr]).run Tryz.prog w = .ok (.iface 288 tErr) w := by kernel_rfl
theorem asv_implementsE (w : World) : (ReflectliteType.relation "Implements" ReflectliteType.implements_ #[tErr, .iface 288 (.agg #[.pointer (some ⟨8, 157, none⟩)])]).run Tryz.prog w = .ok (.bool true) w := by kernel_rfl
theorem asv_typeOfE (v : Value) (w : World) : (ReflectliteType.typeOf #[.iface 165 v]).run Tryz.prog w = .ok (.iface 288 tErr) w := by kernel_rfl
theorem asv_assignableE (w : World) : (ReflectliteType.relation "AssignableTo" ReflectliteType.assignableTo #[tErr, .iface 288 tErr]).run Tryz.prog w = .ok (.bool true) w := by kernel_rfl
theorem asv_valueOfE (n : Int) (w : World) : (ReflectliteValue.unpack (.iface 165 (.agg #[.int .i64 n]))).run Tryz.prog w
    = .ok (vErr ⟨w.heap.size, 0, none⟩) (w.alloc (.cells #[.int .i64 n] 165)) := by kernel_rfl
theorem asv_elemOfP (w : World) : (Rtype.elem? 167).run Tryz.prog w = .ok (some 165) w := by kernel_rfl
theorem asv_mkE (p : Addr) (w : World) : (ReflectliteValue.mk 165 p ReflectliteValue.flagAddr).run Tryz.prog w = .ok (vErrA p) w := by kernel_rfl
theorem asv_elemVP (a p : Addr) (W : World) (ha : W.cell? a = some (.pointer (some p))) :
    (ReflectliteValue.method (ReflectliteValue.valueError "reflectlite.Value.Elem" 0) ReflectliteValue.elem #[vPtr a]).run Tryz.prog W
      = .ok (vErrA p) W := by
  rw [rlm]
  simp only [Sem.run_bind, asv_partsP, Result.andThen]
  simp [ReflectliteValue.elem, loadVar, isAgg, underlying, Tryz.underlying167, ha, Result.andThen, asv_elemOfP, asv_mkE]
end Go.Proofs.YtlfmefojcmpfeaaGreatDoor

/-! What errors.As answers of an error of the program's own type where one of that type is asked for: true; a contract for the walks; conditions: the variable of the library that holds the type of errors holds it, and what is asked for lies in memory. -/
namespace Go.Proofs.YtlfmefojcmpfeaaGreatDoor
open Go.RowKit Go.Extern.Stop Go.Stop Go.Extern
set_option linter.unusedSimpArgs false
set_option linter.unusedVariables false

theorem rls (v x : Value) : ReflectliteValue.set #[v, x] = (do
    let (some (dst, a, fl), some (src, b, _)) := (← ReflectliteValue.parts v, ← ReflectliteValue.parts x)
      | unsupported (.noEntry "extern/(internal/reflectlite.Value).Set.zeroValue")
    if fl / ReflectliteValue.flagAddr % 2 == 0 then unsupported (.noEntry "extern/(internal/reflectlite.Value).Set.unaddressable")
    let val ← loadVar src b
    if ← Rtype.directlyAssignable dst src then storeVar dst a val
    else if ← Rtype.implements dst src then
      if (← Rtype.kind src) == 20 then
        match val with
        | .nilIface => unsupported (.noEntry "extern/reflectlite: a nil value of one interface type handed on as a value of another")
        | _ => storeVar dst a val
      else storeVar dst a (.iface src val)
    else panicString ("reflectlite.Set: value of type " ++ (← Rtype.spelt src) ++ " is not assignable to type " ++ (← Rtype.spelt dst))
    pure (.tuple #[])) := rfl
theorem asv_partsEA (a : Addr) (w : World) : (ReflectliteValue.parts (vErrA a)).run Tryz.prog w = .ok (some (165, a, 409)) w := by kernel_rfl
theorem asv_partsE (a : Addr) (w : World) : (ReflectliteValue.parts (vErr a)).run Tryz.prog w = .ok (some (165, a, 153)) w := by kernel_rfl
theorem asv_directE (w : World) : (Rtype.directlyAssignable 165 165).run Tryz.prog w = .ok true w := by kernel_rfl
theorem asv_sizeE (w : World) : (sizeOf 165).run Tryz.prog w = .ok 1 w := by kernel_rfl
theorem asv_aggE (w : World) : (isAgg 165).run Tryz.prog w = .ok true w := by kernel_rfl
theorem asv_loadE (b : Addr) (n : Int) (W : World) (hb : W.cell? b = some (.int .i64 n)) : (loadVar 165 b).run Tryz.prog W = .ok (.agg #[.int .i64 n]) W := by
  simp [loadVar, asv_aggE, asv_sizeE, loadCells, loadCellsFrom, Result.andThen, hb, Addr.add]
theorem asv_setE (ta b : Addr) (n : Int) (old : Value) (W : World) (hb : W.cell? b = some (.int .i64 n)) (ht : W.cell? ta = some old) (hf : W.frozen? ta = false) :
    (ReflectliteValue.set #[vErrA ta, vErr b]).run Tryz.prog W = .ok (.tuple #[]) (W.setCell ta (.int .i64 n)) := by
  rw [rls]
  simp only [Sem.run_bind, asv_partsEA, asv_partsE, Result.andThen]
  simp [ReflectliteValue.flagAddr, asv_loadE b n W hb, Result.andThen, asv_directE, asv_sizeE, storeVar, Value.cells, storeCells, Addr.add]
  rw [run_store Tryz.prog W ta _ _ (by rfl)]
  simp [ht, hf]

set_option maxHeartbeats 4000000 in
set_option maxRecDepth 100000 in
theorem as_hit (n : Int) (t : Addr) (old : Value) (w : World) (hg : w.cell? ⟨0, 0, none⟩ = some (.iface 288 (.agg #[.pointer (some ⟨8, 157, none⟩)]))) (ht0 : w.cell? t = some old) (hf0 : w.frozen? t = false) :
    Calls Tryz.prog 126 #[.iface 165 (.agg #[.int .i64 n]), .iface 167 (.pointer (some t))] w fun ev w' => ev = .returned (.bool true) ∧ w' = ((((w.alloc (.cells #[.pointer (some t)] 167)).alloc (.cells #[.pointer (some ⟨8, 167, none⟩), .pointer (some ⟨w.heap.size, 0, none⟩), .int .u64 150] 240)).alloc (.cells #[.pointer (some ⟨8, 167, none⟩), .pointer (some ⟨w.heap.size, 0, none⟩), .int .u64 150] 240)).alloc (.cells #[.int .i64 n] 165)).setCell t (.int .i64 n) := by
  have h6 := @run_callFunc_extern Tryz.prog 196 _ (fun args => ReflectliteValue.unpack (args.getD 0 (.tuple #[]))) Tryz.func196 (by kernel_rfl) (by kernel_rfl) (by kernel_rfl) (by kernel_rfl)
  have h7 := @run_callFunc_extern Tryz.prog 197 _ (ReflectliteValue.methodAny (ReflectliteValue.valueError "reflectlite.Value.Type" 0) (fun t _ _ _ => ReflectliteType.toType t)) Tryz.func197 (by kernel_rfl) (by kernel_rfl) (by kernel_rfl) (by kernel_rfl)
  have h8 := @run_callFunc_extern Tryz.prog 198 _ (ReflectliteValue.method (ReflectliteValue.valueError "reflectlite.Value.IsNil" 0) ReflectliteValue.isNil) Tryz.func198 (by kernel_rfl) (by kernel_rfl) (by kernel_rfl) (by kernel_rfl)
  have h27 := @run_callFunc_extern Tryz.prog 348 _ (ReflectliteType.abiMethod fun t => do pure (.int .u8 (← Rtype.kind t))) Tryz.func348 (by kernel_rfl) (by kernel_rfl) (by kernel_rfl) (by kernel_rfl)
  have h37 := @run_callFunc_extern Tryz.prog 359 _ (ReflectliteType.method ReflectliteType.elem) Tryz.func359 (by kernel_rfl) (by kernel_rfl) (by kernel_rfl) (by kernel_rfl)
  have h38 := @run_callFunc_extern Tryz.prog 360 _ (ReflectliteType.relation "Implements" ReflectliteType.implements_) Tryz.func360 (by kernel_rfl) (by kernel_rfl) (by kernel_rfl) (by kernel_rfl)
  have h10 := @run_callFunc_extern Tryz.prog 259 _ ReflectliteType.typeOf Tryz.func259 (by kernel_rfl) (by kernel_rfl) (by kernel_rfl) (by kernel_rfl)
  have h35 := @run_callFunc_extern Tryz.prog 357 _ (ReflectliteType.relation "AssignableTo" ReflectliteType.assignableTo) Tryz.func357 (by kernel_rfl) (by kernel_rfl) (by kernel_rfl) (by kernel_rfl)
  have h11 := @run_callFunc_extern Tryz.prog 260 _ (ReflectliteValue.method (ReflectliteValue.valueError "reflectlite.Value.Elem" 0) ReflectliteValue.elem) Tryz.func260 (by kernel_rfl) (by kernel_rfl) (by kernel_rfl) (by kernel_rfl)
  have h12 := @run_callFunc_extern Tryz.prog 261 _ ReflectliteValue.set Tryz.func261 (by kernel_rfl) (by kernel_rfl) (by kernel_rfl) (by kernel_rfl)
  have tO := asv_typeOfE
  have mA := asv_methodAssignableTo
  have a25 := asv_assignableE
  have v25 := asv_valueOfE
  have f6 := asv_valueOfP
  have f7 := asv_typeP
  have mK := asv_methodKind
  have mE := asv_methodElem
  have mI := asv_methodImplements
  have k27 := asv_kindP
  have k25 := asv_kindE
  have e27 := asv_elemP
  have i25 := asv_implementsE
  have n8 := asv_isNilP ⟨w.heap.size, 0, none⟩ t ((w.alloc (.cells #[.pointer (some t)] 167)).alloc (.cells #[.pointer (some ⟨8, 167, none⟩), .pointer (some ⟨w.heap.size, 0, none⟩), .int .u64 150] 240)) (by simp)
  have hlt : 0 < w.heap.size := by simpa using World.block_lt_of_cell? w _ hg
  have hg2 : ((w.alloc (.cells #[.pointer (some t)] 167)).alloc (.cells #[.pointer (some ⟨8, 167, none⟩), .pointer (some ⟨w.heap.size, 0, none⟩), .int .u64 150] 240)).cell? ⟨0, 0, none⟩ = some (.iface 288 (.agg #[.pointer (some ⟨8, 157, none⟩)])) := by
    rw [World.cell?_alloc_lt _ _ ⟨0, 0, none⟩ (by first | (simp; done) | (simp; omega)), World.cell?_alloc_lt _ _ ⟨0, 0, none⟩ hlt]; exact hg
  have htl : t.block < w.heap.size := by
    rcases Nat.lt_or_ge t.block w.heap.size with h | h
    · exact h
    · simp [World.cell?, Array.getElem?_eq_none h] at ht0
  have el := asv_elemVP ⟨w.heap.size, 0, none⟩ t (((w.alloc (.cells #[.pointer (some t)] 167)).alloc (.cells #[.pointer (some ⟨8, 167, none⟩), .pointer (some ⟨w.heap.size, 0, none⟩), .int .u64 150] 240)).alloc (.cells #[.pointer (some ⟨8, 167, none⟩), .pointer (some ⟨w.heap.size, 0, none⟩), .int .u64 150] 240)) (by rw [World.cell?_alloc_lt _ _ ⟨w.heap.size, 0, none⟩ (by simp; omega)]; simp)
  have st := asv_setE t ⟨w.heap.size + 1 + 1 + 1, 0, none⟩ n old ((((w.alloc (.cells #[.pointer (some t)] 167)).alloc (.cells #[.pointer (some ⟨8, 167, none⟩), .pointer (some ⟨w.heap.size, 0, none⟩), .int .u64 150] 240)).alloc (.cells #[.pointer (some ⟨8, 167, none⟩), .pointer (some ⟨w.heap.size, 0, none⟩), .int .u64 150] 240)).alloc (.cells #[.int .i64 n] 165))
    (by rw [World.cell?_alloc_at _ _ _ _ (by simp)]; rfl)
    (by rw [World.cell?_alloc_lt _ _ t (by simp; omega), World.cell?_alloc_lt _ _ t (by simp; omega), World.cell?_alloc_lt _ _ t (by simp; omega), World.cell?_alloc_lt _ _ t htl]; exact ht0)
    (by rw [World.frozen?_alloc_old _ _ t (by simp; omega), World.frozen?_alloc_old _ _ t (by simp; omega), World.frozen?_alloc_old _ _ t (by simp; omega), World.frozen?_alloc_old _ _ t (Nat.ne_of_lt htl)]; exact hf0)
  go_enter Tryz.func126, Tryz.ntmps126
  go_wp2
  refine wp_loop_rounds 1 ?_
  rw [rounds_succ]
  go_wp2
  go_ret
  exact ⟨rfl, rfl⟩

/-- errors.As at an error of the program's own, where what is asked for lies in a block of the call's own. -/
theorem as_hit_c (n : Int) (t : Addr) (old : Value) (w : World) (B : Nat) (hB : B ≤ t.block) (hBw : B ≤ w.heap.size) (hg : w.cell? ⟨0, 0, none⟩ = some (.iface 288 (.agg #[.pointer (some ⟨8, 157, none⟩)]))) (ht0 : w.cell? t = some old) (hf0 : w.frozen? t = false) :
    Calls Tryz.prog 126 #[.iface 165 (.agg #[.int .i64 n]), .iface 167 (.pointer (some t))] w fun ev w' => ev = .returned (.bool true) ∧ Below B w w' :=
  (as_hit n t old w hg ht0 hf0).mono fun e w' ⟨h1, h2⟩ => by
    subst h2
    exact ⟨h1, ((((((Below.refl B w).alloc hBw _).alloc (by simp; omega) _).alloc (by simp; omega) _).alloc (by simp; omega) _).setCell hB _)⟩
end Go.Proofs.YtlfmefojcmpfeaaGreatDoor

/-! What ParseLock answers, the program's: the picks of the lines, or none: a contract for the walks; conditions: the text has at most 2 to the 20 bytes, and the library's variable that holds the type of errors holds it. -/
namespace Go.Proofs.YtlfmefojcmpfeaaGreatDoor
open Go.RowKit
set_option linter.unusedSimpArgs false
set_option linter.unusedVariables false

/-- The library's variable that holds the type of errors. -/
def ErrT (w : World) : Prop := w.cell? ⟨0, 0, none⟩ = some (.iface 288 (.agg #[.pointer (some ⟨8, 157, none⟩)]))
theorem ErrT.below {w w' : World} (h : ErrT w) (hb : Below w.heap.size w w') : ErrT w' := (hb.cell (by simpa using World.block_lt_of_cell? w _ h)).trans h
theorem rowOwn_up {w w' : World} {lo : Nat} {v : Value} {xs : List PickD} (h : RowOwn shPickO 59 (Ow lo w.heap.size) w v xs) (hb : Below w.heap.size w w') : RowOwn shPickO 59 (Ow lo w'.heap.size) w' v xs :=
  (h.keep (.of hb (fun b h => h.2))).mono (fun b h => ⟨h.1, Nat.lt_of_lt_of_le h.2 hb.size⟩)
theorem rowOwn_nil (S : Nat → Prop) (w : World) : RowOwn shPickO 59 S w (.slice none 0 0) [] := ⟨Nat.zero_le _, [], World.ownsRow_nil w _ _ _, fun g hg => by simp [Value.ownBlock] at hg, fun i hi => by simp at hi⟩

set_option maxHeartbeats 8000000 in
set_option maxRecDepth 100000 in
theorem implLockL_c (s : ByteArray) (hs : s.size ≤ 1048576) (w : World) (hg : ErrT w) :
    Calls Tryz.prog 46 #[.string s] w fun e w' => ∃ q c ps, ps.map LC.d = (lockR s).getD [] ∧ e = .returned (.tuple #[.slice q ((lockR s).getD []).length c, .bool (lockR s).isSome]) ∧ RowL w.heap.size w' (.slice q ((lockR s).getD []).length c) ps ∧ SepL ps ∧ (∀ p ∈ ps, p.d.name.size ≤ 1048576 ∧ bulkS p.d.vP ≤ 1048576) ∧ ps.length ≤ 12 ∧ Below w.heap.size w w' := by
  have HRL := readLock_c s hs w
  obtain ⟨R, hR⟩ : ∃ R, R = lockR s := ⟨_, rfl⟩
  rw [← hR] at HRL ⊢
  replace HRL := hidden HRL
  have HG := hidden hg
  clear hg hR
  go_enter Tryz.func46, Tryz.ntmps46
  go_wp2_with fail
  go_at_call 125
  refine HRL.out.mono ?_
  rintro e w1 ⟨h, b1⟩
  have kb : Below w1.heap.size w1 (w1.alloc (.cells #[.int .i64 0] 165)) := (Below.refl _ _).alloc (Nat.le_refl _) _
  have k2 : Below w.heap.size w (w1.alloc (.cells #[.int .i64 0] 165)) := b1.trans (kb.mono b1.size)
  rcases h with ⟨v, ps, hl, rfl, ho, hsp, hsz, h12⟩ | ⟨hl, n, rfl⟩
  · have HO := hidden (ho.below kb)
    obtain ⟨q, c, hv⟩ := owns_sliceL ho.1
    subst hv
    subst hl
    have HSP := hidden hsp
    have HSZ := hidden hsz
    clear ho HRL hsp hsz
    go_wp2_with fail
    go_at_call 126
    refine (as_nil _ _).mono ?_
    rintro e w2 ⟨rfl, rfl⟩
    go_wp2_with fail
    go_ret2
    exact ⟨q, c, ps, rfl, by simp, by simpa using HO.out, HSP.out, HSZ.out, h12, k2⟩
  · subst hl
    have HA := hidden (as_hit_c n ⟨w1.heap.size, 0, none⟩ (.int .i64 0) (w1.alloc (.cells #[.int .i64 0] 165)) w1.heap.size (Nat.le_refl _) (by simp) (HG.out.below k2) (vblk_cell (vheap_new _ _) 0) (vblk_frozen (vheap_new _ _) 0))
    clear HRL
    go_wp2_with fail
    go_at_call 126
    refine HA.out.mono ?_
    rintro e w2 ⟨rfl, b2⟩
    have k3 : Below w.heap.size w w2 := k2.trans (b2.mono b1.size)
    go_wp2_with fail
    go_ret2
    exact ⟨none, 0, [], rfl, rfl, ⟨World.ownsRow_nil _ _ _ _, fun p hp => by simp at hp⟩, SepL.nil, (fun p hp => by simp at hp), by simp, k3⟩
theorem implLock_c (s : ByteArray) (hs : s.size ≤ 1048576) (w : World) (hg : ErrT w) :
    Calls Tryz.prog 46 #[.string s] w fun e w' => ∃ q c, e = .returned (.tuple #[.slice q ((lockR s).getD []).length c, .bool (lockR s).isSome]) ∧ RowOwn shPickO 59 (Ow w.heap.size w'.heap.size) w' (.slice q ((lockR s).getD []).length c) ((lockR s).getD []) ∧ Below w.heap.size w w' :=
  (implLockL_c s hs w hg).mono fun e w' ⟨q, c, ps, h1, h2, h3, h4, h5, h6, h7⟩ => ⟨q, c, h2, by have h8 := RowL.own h3 h5 (by unfold maxLen; omega); rw [h1] at h8; exact h8, h7⟩
end Go.Proofs.YtlfmefojcmpfeaaGreatDoor
