/-
  Copies of needs and entries, as the program makes them: contracts for the walks; conditions: they lie in memory, and hold at most 2 to the 20.
-/
import Derived.Test.YtbolphjigjpmiabCpA
namespace Go.Proofs.Ytbolphjigjpmiab
open Go.RowKit
set_option linter.unusedSimpArgs false
set_option linter.unusedVariables false

/-- The cells of needs. -/
def needsV (xs : List NeedD) : List Value := xs.flatMap fun d => [.string d.n, .string d.r]
theorem needsV_length (xs : List NeedD) : (needsV xs).length = xs.length * 2 := by
  induction xs with
  | nil => rfl
  | cons d l ih => simp only [needsV, List.flatMap_cons, List.length_append, List.length_cons, List.length_nil] at *; omega
theorem needsV_append (xs ys : List NeedD) : needsV xs ++ needsV ys = needsV (xs ++ ys) := by simp [needsV]
theorem needsV_take (xs : List NeedD) (k : Nat) (h : k < xs.length) : needsV (xs.take k) ++ [.string xs[k].n, .string xs[k].r] = needsV (xs.take (k + 1)) := by
  rw [List.take_succ_eq_append_getElem h, ← needsV_append]; rfl
theorem needsV_at (xs : List NeedD) : ∀ i (h : i < xs.length), (needsV xs)[i * 2]? = some (.string xs[i].n) ∧ (needsV xs)[i * 2 + 1]? = some (.string xs[i].r) := by
  induction xs with
  | nil => intro i h; simp at h
  | cons d l ih =>
    intro i h
    have e : needsV (d :: l) = [.string d.n, .string d.r] ++ needsV l := by simp [needsV]
    cases i with
    | zero => rw [e]; simp
    | succ i =>
      have h' := ih i (by simpa using h)
      rw [e, List.getElem?_append_right (by simp; omega), List.getElem?_append_right (by simp; omega)]
      simp only [List.length_cons, List.length_nil]
      rw [show (i + 1) * 2 - (0 + 1 + 1) = i * 2 by omega, show (i + 1) * 2 + 1 - (0 + 1 + 1) = i * 2 + 1 by omega]
      simpa using h'
theorem needs_own {w : World} {lo : Nat} {v : Value} {xs : List NeedD} (h : w.ownsRow lo 46 2 v xs.length (needsV xs)) (hl : xs.length ≤ maxLen) (hs : ∀ d ∈ xs, d.n.size ≤ maxLen ∧ d.r.size ≤ maxLen) : RowOwn shNeed 46 (Ow lo w.heap.size) w v xs := by
  refine ⟨hl, needsV xs, owns_lo (Nat.zero_le _) h, owns_in h, fun i hi _ => ⟨[.string xs[i].n, .string xs[i].r], rfl, ⟨rfl, hs _ (List.getElem_mem hi)⟩, fun j hj => ?_⟩⟩
  obtain ⟨h1, h2⟩ := needsV_at xs i hi
  match j, hj with
  | 0, _ => exact h1
  | 1, _ => exact h2

theorem owns_of_belowN {w w' : World} {lo sz n : Nat} {e : TypeId} {v : Value} {xs : List Value} (h : w.ownsRow lo e sz v n xs) (hb : Below w.heap.size w w') : w'.ownsRow lo e sz v n xs := h.kept (grown_of_below hb none) (by cases hq : v.ownBlock <;> simp)
theorem cells_put {w : World} {N M : Nat} {o : Obj} (h : w.heap[N]? = some o) (hne : N ≠ M) (j : Nat) (v : Value) : (w.setCell ⟨M, j, none⟩ v).heap[N]? = some o := (Below.heap_setCell w ⟨M, j, none⟩ v N (by simpa using hne)).trans h
theorem two_src (w : World) (c0 c1 : Value) : ∀ j u, ([c0, c1] : List Value)[j]? = some u → (w.alloc (.cells #[c0, c1] 46)).cell? ((⟨w.heap.size, 0, none⟩ : Addr).add j) = some u := fun j u hu => by
  have e : ((⟨w.heap.size, 0, none⟩ : Addr).add j) = ⟨w.heap.size, j, none⟩ := by unfold Addr.add; split <;> simp_all
  rw [e, vblk_cell (vheap_new _ _) j]
  simpa using hu

set_option maxHeartbeats 2000000 in
set_option maxRecDepth 100000 in
theorem copyNeeds_c (S : Nat → Prop) (v : Value) (xs : List NeedD) (w : World) (hv : RowIn shNeed S w v xs) (hB : ∀ b, S b → b < w.heap.size) (hw : wtRow wtNeed xs ≤ 1048576) :
    Calls Try.prog 15 #[v] w fun e w' => ∃ u', e = .returned u' ∧ w'.ownsRow w.heap.size 46 2 u' xs.length (needsV xs) ∧ Below w.heap.size w w' := by
  obtain ⟨i0, hi, hz0, hz1, hz2⟩ := info_parts infoNeed
  obtain ⟨a, cap, rfl, hl, hc, ha⟩ := hv
  have hn := len_wtRow wtNeed xs
  have hsz : ∀ d ∈ xs, d.n.size ≤ 1048576 ∧ d.r.size ≤ 1048576 := fun d hd => by
    have h1 : d.n.size + d.r.size ≤ wtRow wtNeed xs := wt_wtRow wtNeed hd
    omega
  unfold maxLen at hl
  go_enter Try.func15, Try.ntmps15
  go_wp2_with fail
  go_loopw [3, 8] (fun vx vi wr => ∃ (k : Nat), k ≤ xs.length ∧ vi = .int .i64 (k : Int) ∧ wr.ownsRow w.heap.size 46 2 vx k (needsV (xs.take k)) ∧ Below w.heap.size w wr) (fun _ vi _ => xs.length - (intOf vi).toNat)
  case atStart => exact ⟨0, Nat.zero_le _, rfl, (by rw [List.take_zero]; exact World.ownsRow_nil _ _ _ _), Below.refl _ _⟩
  case round =>
    obtain ⟨k, hk, rfl, hown, hbr⟩ := hrel
    obtain ⟨qo, co, hvo⟩ := owns_sliceP hown
    subst hvo
    by_cases hlt' : k < xs.length
    · rcases ha with rfl | ⟨b0, off, rfl, hlt, ha⟩
      · simp at hlt'
      obtain ⟨cs, hL, hcell⟩ := ha k hlt'
      replace hcell := hcell.keep (.of hbr hB) hlt
      obtain ⟨hs1, hs2⟩ := hsz xs[k] (List.getElem_mem hlt')
      have HT : Hid (needsV (xs.take k) ++ [.string xs[k].n, .string xs[k].r] = needsV (xs.take (k + 1))) := needsV_take xs k hlt'
      obtain ⟨d, hd⟩ : ∃ d, d = xs[k] := ⟨_, rfl⟩
      rw [← hd] at hL hs1 hs2 HT
      obtain ⟨rfl, _, _⟩ := hL
      have e0 : wr.cell? ⟨b0, off + k * 2, none⟩ = some (.string d.n) := hcell 0 (by simp)
      have e1 : wr.cell? ⟨b0, off + k * 2 + 1, none⟩ = some (.string d.r) := hcell 1 (by simp)
      have hki : (k : Int) < (xs.length : Int) := by omega
      clear ha hd hsz hcell
      have kB : Below wr.heap.size wr (wr.alloc (.cells #[.string d.n, .string d.r] 46)) := (Below.refl _ _).alloc (Nat.le_refl _) _
      have hbx5 : (wr.alloc (.cells #[.string d.n, .string d.r] 46)).heap[wr.heap.size]? = some (.cells #[.string d.n, .string d.r] 46 (0, 0)) := vheap_new _ _
      have hown5 := owns_of_belowN hown kB
      have hbr5 := hbr.trans (kB.mono hbr.size)
      have hne5 : (Value.slice qo k co).ownBlock ≠ some wr.heap.size := fun e => by have := (hown.lt _ e).2; omega
      clear kB hown
      go_wp2_with fail
      obtain ⟨N5, hN5e⟩ : ∃ N5, N5 = wr.heap.size := ⟨_, rfl⟩
      obtain ⟨w5, hW5⟩ : ∃ w5, w5 = wr.alloc (.cells #[.string d.n, .string d.r] 46) := ⟨_, rfl⟩
      rw [← hN5e, ← hW5] at hbx5
      rw [← hW5] at hown5 hbr5
      rw [← hN5e] at hne5
      rw [← hN5e, ← hW5]
      clear hN5e hW5 e0 e1
      have h0 : Below w5.heap.size w5 w5.drew := (Below.refl _ _).drew
      have KEEP : Hid (∀ w1, Below w5.heap.size w5 w1 → w1.cell? ⟨N5, 0, none⟩ = some (.string d.n) ∧ w1.cell? ⟨N5, 1, none⟩ = some (.string d.r)) := fun w1 h => ⟨vblk_cell (box_below hbx5 h) 0, vblk_cell (box_below hbx5 h) 1⟩
      refine wp_region_held_drew (S := (fun w' => w'.cell? ⟨N5, 0, none⟩ = some (.string d.n) ∧ w'.cell? ⟨N5, 1, none⟩ = some (.string d.r))) (by kernel_rfl) ?SR10 (fun hHeld => ?_)
      case SR10 => (first | (with_reducible exact KEEP.out _ h3) | (with_reducible exact KEEP.out _ h2) | (with_reducible exact KEEP.out _ h1) | (with_reducible exact KEEP.out _ h0))
      refine wpAnyH_take (i := 0) (oi := _) (v := ?vR10) rfl (by kernel_rfl) (by kernel_rfl) (by kernel_rfl) (fun _ _ _ h => h) (Or.inl ⟨by rfl, ?yR10⟩) hHeld ?_
      case yR10 => (intro w hSw; (try dsimp only at hSw); go_simp <;> with_reducible rfl)
      try simp only [Act.put, List.getElem_toArray, List.getElem_cons_zero, List.getElem_cons_succ, List.setIfInBounds_toArray, List.set_cons_zero, List.set_cons_succ]
      refine wpAnyH_take (i := 1) (oi := _) (v := ?vR11) rfl (by kernel_rfl) (by kernel_rfl) (by kernel_rfl) (fun _ _ _ h => h) (Or.inl ⟨by rfl, ?yR11⟩) hHeld ?_
      case yR11 => (intro w hSw; (try dsimp only at hSw); go_simp <;> with_reducible rfl)
      try simp only [Act.put, List.getElem_toArray, List.getElem_cons_zero, List.getElem_cons_succ, List.setIfInBounds_toArray, List.set_cons_zero, List.set_cons_succ]
      refine wpAnyH_take (i := 2) (oi := _) (v := ?vR12) rfl (by kernel_rfl) (by kernel_rfl) (by kernel_rfl) (fun _ _ _ h => h) (Or.inl ⟨by rfl, ?yR12⟩) hHeld ?_
      case yR12 => (intro w hSw; (try dsimp only at hSw); go_simp <;> with_reducible rfl)
      try simp only [Act.put, List.getElem_toArray, List.getElem_cons_zero, List.getElem_cons_succ, List.setIfInBounds_toArray, List.set_cons_zero, List.set_cons_succ]
      refine wpAnyH_take (i := 4) (oi := _) (v := ?vR13) rfl (by kernel_rfl) (by kernel_rfl) (by kernel_rfl) (fun _ _ _ h => h) (Or.inl ⟨by rfl, ?yR13⟩) hHeld ?_
      case yR13 => (intro w hSw; (try dsimp only at hSw); go_simp <;> with_reducible rfl)
      try simp only [Act.put, List.getElem_toArray, List.getElem_cons_zero, List.getElem_cons_succ, List.setIfInBounds_toArray, List.set_cons_zero, List.set_cons_succ]
      refine wpAnyH_take (i := 5) (oi := _) (v := ?vR14) rfl (by kernel_rfl) (by kernel_rfl) (by kernel_rfl) (fun _ _ _ h => h) (Or.inl ⟨by rfl, ?yR14⟩) hHeld ?_
      case yR14 => (intro w hSw; (try dsimp only at hSw); go_simp <;> with_reducible rfl)
      try simp only [Act.put, List.getElem_toArray, List.getElem_cons_zero, List.getElem_cons_succ, List.setIfInBounds_toArray, List.set_cons_zero, List.set_cons_succ]
      refine wpAnyH_ready (rs := [3]) (by kernel_rfl) (by simp) ?_
      refine AllReadyH.cons rfl (fun K hK => ?_) AllReadyH.nil
      go_simp
      go_wp2_with (go_at_call 27; refine (clone_c d.n _ hs1).mono ?_; rintro e w1 ⟨rfl, b1⟩; have h1 : Below w5.heap.size w5 w1 := h0.trans (b1.mono h0.size))
      clear hHeld
      refine hK.out _ _ ?SR16 (fun hHeld => ?_)
      case SR16 => ((try dsimp only); first | (with_reducible exact KEEP.out _ h3) | (with_reducible exact KEEP.out _ h2) | (with_reducible exact KEEP.out _ h1) | (with_reducible exact KEEP.out _ h0))
      clear hK K
      refine wpAnyH_ready (rs := [6]) (by kernel_rfl) (by simp) ?_
      refine AllReadyH.cons rfl (fun K hK => ?_) AllReadyH.nil
      go_simp
      go_wp2_with (go_at_call 27; refine (clone_c d.r _ hs2).mono ?_; rintro e w2 ⟨rfl, b2⟩; have h2 : Below w5.heap.size w5 w2 := h1.trans (b2.mono h1.size))
      clear hHeld
      refine hK.out _ _ ?SR17 (fun hHeld => ?_)
      case SR17 => ((try dsimp only); first | (with_reducible exact KEEP.out _ h3) | (with_reducible exact KEEP.out _ h2) | (with_reducible exact KEEP.out _ h1) | (with_reducible exact KEEP.out _ h0))
      clear hK K
      refine wpAnyH_take (i := 7) (oi := _) (v := ?vR17) rfl (by kernel_rfl) (by kernel_rfl) (by kernel_rfl) (fun _ _ _ h => h) (Or.inl ⟨by rfl, ?yR17⟩) hHeld ?_
      case yR17 => (intro w hSw; (try dsimp only at hSw); go_simp <;> with_reducible rfl)
      try simp only [Act.put, List.getElem_toArray, List.getElem_cons_zero, List.getElem_cons_succ, List.setIfInBounds_toArray, List.set_cons_zero, List.set_cons_succ]
      have k2 := hbr5.trans (h2.mono hbr5.size)
      have o2 := owns_of_belowN hown5 h2
      have kA : Below w2.heap.size w2 (w2.alloc (.cells #[.string d.n, .string d.r] 46)) := (Below.refl _ _).alloc (Nat.le_refl _) _
      refine wpAnyH_ready (rs := [8]) (by kernel_rfl) (by simp) ?_
      refine AllReadyH.cons rfl (fun K hK => ?_) AllReadyH.nil
      go_simp
      clear hHeld
      have h3 : Below w5.heap.size w5 (w2.alloc (.cells #[.string d.n, .string d.r] 46)) := h2.trans (kA.mono h2.size)
      refine hK.out _ (w2.alloc (.cells #[.string d.n, .string d.r] 46)) ?SR1_8 (fun hHeld => ?_)
      case SR1_8 => (exact KEEP.out _ h3)
      clear hK K
      try simp only [Act.put, List.getElem_toArray, List.getElem_cons_zero, List.getElem_cons_succ, List.setIfInBounds_toArray, List.set_cons_zero, List.set_cons_succ]
      refine wpAnyH_ready (rs := [9]) (by kernel_rfl) (by simp) ?_
      refine AllReadyH.cons rfl (fun K hK => ?_) AllReadyH.nil
      rw [if_pos (by rfl)]
      refine wp_append_own _ _ _ 24 rfl w.heap.size 46 i0 (.agg #[.string ⟨#[]⟩, .string ⟨#[]⟩]) 2 32 Try.underlying24 hi hz0 hz1 hz2 rfl (by decide) _ k (needsV (xs.take k)) rfl (owns_of_belowN o2 kA) ⟨w2.heap.size, 0, none⟩ 1 1 [.string d.n, .string d.r] rfl rfl (two_src w2 _ _) (by simp [Value.oneCell']) (by unfold maxLen; omega) (by omega) (Nat.le_trans k2.size kA.size) ?_
      intro v3 w3 o3 gr3 _
      rw [HT.out] at o3
      have hb3 : Below w.heap.size w w3 := Below.grown (k2.trans (kA.mono k2.size)) gr3 (Nat.le_trans k2.size kA.size) (fun j hj => ((owns_of_belowN o2 kA).lt _ hj).1)
      clear hHeld
      refine hK.out _ _ ?TR1_8 (fun hHeld => ?_)
      case TR1_8 => (exact ⟨vblk_cell (box_grown (box_below hbx5 h3) gr3 hne5) 0, vblk_cell (box_grown (box_below hbx5 h3) gr3 hne5) 1⟩)
      clear hK K
      try simp only [Act.put, List.getElem_toArray, List.getElem_cons_zero, List.getElem_cons_succ, List.setIfInBounds_toArray, List.set_cons_zero, List.set_cons_succ]
      refine wpAnyH_take (i := 10) (oi := _) (v := ?vR19) rfl (by kernel_rfl) (by kernel_rfl) (by kernel_rfl) (fun _ _ _ h => h) (Or.inl ⟨by rfl, ?yR19⟩) hHeld ?_
      case yR19 => (intro w hSw; (try dsimp only at hSw); go_simp <;> with_reducible rfl)
      try simp only [Act.put, List.getElem_toArray, List.getElem_cons_zero, List.getElem_cons_succ, List.setIfInBounds_toArray, List.set_cons_zero, List.set_cons_succ]
      refine wpAnyH_done (by kernel_rfl) ?_ _
      go_wp2_with fail
      go_roundw
      case rel => exact ⟨k + 1, by omega, by go_num, o3, hb3⟩
      case measure => simp [intOf]; omega
    · have he : k = xs.length := by omega
      subst he
      rw [List.take_length] at hown
      clear ha
      go_wp2_with fail
      go_ret
      exact ⟨_, rfl, hown, hbr⟩

end Go.Proofs.Ytbolphjigjpmiab
