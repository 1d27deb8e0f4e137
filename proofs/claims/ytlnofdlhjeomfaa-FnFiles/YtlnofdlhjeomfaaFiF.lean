/-
  Files copied, one and a list of them, the program's: contracts for the walks; conditions: the list lies in memory, its texts have at most 2 to the 20 bytes.
-/
import Derived.Test.YtlnofdlhjeomfaaFiA
import Derived.Test.YtlnofdlhjeomfaaSplitB
import Derived.Deep.RegionHeld
import Derived.Deep.RegionHeld
namespace Go.Proofs.Ytlnofdlhjeomfaa
open Go.RowKit
set_option linter.unusedSimpArgs false
set_option linter.unusedVariables false

set_option maxHeartbeats 4000000 in
set_option maxRecDepth 100000 in
theorem copyFile_c (f : FileD) (w : World) (hp : f.p.size ≤ 1048576) (ht : f.t.size ≤ 1048576) :
    Calls Try.prog 85 #[.agg #[.string f.p, .string f.t]] w fun e w' => e = .returned (.agg #[.string f.p, .string f.t]) ∧ Below w.heap.size w w' := by
  have hbA : (w.alloc (.cells #[.string f.p, .string f.t] 26)).heap[w.heap.size]? = some (.cells #[.string f.p, .string f.t] 26 (0, 0)) := vheap_new _ _
  have hA : ((w.alloc (.cells #[.string f.p, .string f.t] 26)).alloc (.cells #[.string ⟨#[]⟩, .string ⟨#[]⟩] 26)).heap[w.heap.size]? = some (.cells #[.string f.p, .string f.t] 26 (0, 0)) := (vheap_old _ _ (by simp)).trans hbA
  have hR : ((w.alloc (.cells #[.string f.p, .string f.t] 26)).alloc (.cells #[.string ⟨#[]⟩, .string ⟨#[]⟩] 26)).heap[w.heap.size + 1]? = some (.cells #[.string ⟨#[]⟩, .string ⟨#[]⟩] 26 (0, 0)) := by
    have h := vheap_new (w.alloc (.cells #[.string f.p, .string f.t] 26)) (.cells #[.string ⟨#[]⟩, .string ⟨#[]⟩] 26)
    simpa using h
  have kW : Below w.heap.size w ((w.alloc (.cells #[.string f.p, .string f.t] 26)).alloc (.cells #[.string ⟨#[]⟩, .string ⟨#[]⟩] 26)) := ((Below.refl _ _).alloc (Nat.le_refl _) _).alloc (by simp) _
  go_enter Try.func85, Try.ntmps85
  go_wp2_with fail
  generalize ((w.alloc (.cells #[.string f.p, .string f.t] 26)).alloc (.cells #[.string ⟨#[]⟩, .string ⟨#[]⟩] 26)) = Wg at hA hR kW ⊢
  have lA := (Array.getElem?_eq_some_iff.1 hA).1
  have lR := (Array.getElem?_eq_some_iff.1 hR).1
  have KEEP : Hid (∀ w', Below Wg.heap.size Wg w' → w'.cell? ⟨w.heap.size, 0, none⟩ = some (.string f.p) ∧ w'.cell? ⟨w.heap.size, 1, none⟩ = some (.string f.t)) := fun w' h => by
    have := (h.block _ lA).trans hA
    exact ⟨by rw [vblk_cell this]; rfl, by rw [vblk_cell this]; rfl⟩
  have KEEP2 : Hid (∀ w' (x y : Value), Below Wg.heap.size Wg w' → ((w'.setCell ⟨w.heap.size + 1, 0, none⟩ x).setCell ⟨w.heap.size + 1, 1, none⟩ y).cell? ⟨w.heap.size, 0, none⟩ = some (.string f.p) ∧ ((w'.setCell ⟨w.heap.size + 1, 0, none⟩ x).setCell ⟨w.heap.size + 1, 1, none⟩ y).cell? ⟨w.heap.size, 1, none⟩ = some (.string f.t)) := fun w' x y h => by
    have h3 : ((w'.setCell ⟨w.heap.size + 1, 0, none⟩ x).setCell ⟨w.heap.size + 1, 1, none⟩ y).heap[w.heap.size]? = some (.cells #[.string f.p, .string f.t] 26 (0, 0)) := by
      rw [Below.heap_setCell _ _ _ _ (by simp), Below.heap_setCell _ _ _ _ (by simp)]
      exact (h.block _ lA).trans hA
    exact ⟨by rw [vblk_cell h3]; rfl, by rw [vblk_cell h3]; rfl⟩
  have HD : Hid (∀ w', Below Wg.heap.size Wg w' → w'.cell? ⟨w.heap.size + 1, 0, none⟩ = some (.string ⟨#[]⟩) ∧ w'.cell? ⟨w.heap.size + 1, 1, none⟩ = some (.string ⟨#[]⟩) ∧ ∀ j, w'.frozen? ⟨w.heap.size + 1, j, none⟩ = false) := fun w' h => by
    have := (h.block _ lR).trans hR
    exact ⟨by rw [vblk_cell this]; rfl, by rw [vblk_cell this]; rfl, vblk_frozen this⟩
  have h0 : Below Wg.heap.size Wg Wg.drew := (Below.refl _ _).drew
  have HEND : Hid (∀ w' (x y : Value), Below Wg.heap.size Wg w' → Below w.heap.size w ((w'.setCell ⟨w.heap.size + 1, 0, none⟩ x).setCell ⟨w.heap.size + 1, 1, none⟩ y)) := fun w' x y h => Below.setCell (Below.setCell (kW.trans (h.mono kW.size)) (by simp) _) (by simp) _
  clear hbA hA hR kW
  refine wp_region_held_drew (S := (fun w' => w'.cell? ⟨w.heap.size, 0, none⟩ = some (.string f.p) ∧ w'.cell? ⟨w.heap.size, 1, none⟩ = some (.string f.t))) (by kernel_rfl) ?SR10 (fun hHeld => ?_)
  case SR10 => (first | (with_reducible exact KEEP.out _ h0) | (with_reducible exact KEEP.out _ h1) | (with_reducible exact KEEP.out _ h2) | (with_reducible exact KEEP2.out _ _ _ h2))
  refine wpAnyH_take (i := 0) (oi := _) (v := ?vR10) rfl (by kernel_rfl) (by kernel_rfl) (by kernel_rfl) (fun _ _ _ h => h) (Or.inl ⟨by rfl, ?yR10⟩) hHeld ?_
  case yR10 => (intro w hSw; (try dsimp only at hSw); go_simp <;> with_reducible rfl)
  try simp only [Act.put, List.getElem_toArray, List.getElem_cons_zero, List.getElem_cons_succ, List.setIfInBounds_toArray, List.set_cons_zero, List.set_cons_succ]
  refine wpAnyH_take (i := 1) (oi := _) (v := ?vR11) rfl (by kernel_rfl) (by kernel_rfl) (by kernel_rfl) (fun _ _ _ h => h) (Or.inl ⟨by rfl, ?yR11⟩) hHeld ?_
  case yR11 => (intro w hSw; (try dsimp only at hSw); go_simp <;> with_reducible rfl)
  try simp only [Act.put, List.getElem_toArray, List.getElem_cons_zero, List.getElem_cons_succ, List.setIfInBounds_toArray, List.set_cons_zero, List.set_cons_succ]
  refine wpAnyH_take (i := 3) (oi := _) (v := ?vR12) rfl (by kernel_rfl) (by kernel_rfl) (by kernel_rfl) (fun _ _ _ h => h) (Or.inl ⟨by rfl, ?yR12⟩) hHeld ?_
  case yR12 => (intro w hSw; (try dsimp only at hSw); go_simp <;> with_reducible rfl)
  try simp only [Act.put, List.getElem_toArray, List.getElem_cons_zero, List.getElem_cons_succ, List.setIfInBounds_toArray, List.set_cons_zero, List.set_cons_succ]
  refine wpAnyH_take (i := 4) (oi := _) (v := ?vR13) rfl (by kernel_rfl) (by kernel_rfl) (by kernel_rfl) (fun _ _ _ h => h) (Or.inl ⟨by rfl, ?yR13⟩) hHeld ?_
  case yR13 => (intro w hSw; (try dsimp only at hSw); go_simp <;> with_reducible rfl)
  try simp only [Act.put, List.getElem_toArray, List.getElem_cons_zero, List.getElem_cons_succ, List.setIfInBounds_toArray, List.set_cons_zero, List.set_cons_succ]
  refine wpAnyH_ready (rs := [2]) (by kernel_rfl) (by simp) ?_
  refine AllReadyH.cons rfl (fun K hK => ?_) AllReadyH.nil
  go_simp
  go_wp2_with (go_at_call 45; refine (clone_c f.p _ hp).mono ?_; rintro e w1 ⟨rfl, b1⟩; have h1 : Below Wg.heap.size Wg w1 := h0.trans (b1.mono h0.size))
  clear hHeld
  refine hK.out _ _ ?SR15 (fun hHeld => ?_)
  case SR15 => ((try dsimp only); first | (with_reducible exact KEEP.out _ h0) | (with_reducible exact KEEP.out _ h1) | (with_reducible exact KEEP.out _ h2) | (with_reducible exact KEEP2.out _ _ _ h2))
  clear hK K
  refine wpAnyH_ready (rs := [5]) (by kernel_rfl) (by simp) ?_
  refine AllReadyH.cons rfl (fun K hK => ?_) AllReadyH.nil
  go_simp
  go_wp2_with (go_at_call 45; refine (clone_c f.t _ ht).mono ?_; rintro e w2 ⟨rfl, b2⟩; have h2 : Below Wg.heap.size Wg w2 := h1.trans (b2.mono h1.size); obtain ⟨d0, d1, df⟩ := HD.out w2 h2)
  clear hHeld
  refine hK.out _ _ ?SR16 (fun hHeld => ?_)
  case SR16 => ((try dsimp only); first | (with_reducible exact KEEP.out _ h0) | (with_reducible exact KEEP.out _ h1) | (with_reducible exact KEEP.out _ h2) | (with_reducible exact KEEP2.out _ _ _ h2))
  clear hK K
  refine wpAnyH_take (i := 6) (oi := _) (v := ?vR16) rfl (by kernel_rfl) (by kernel_rfl) (by kernel_rfl) (fun _ _ _ h => h) (Or.inl ⟨by rfl, ?yR16⟩) hHeld ?_
  case yR16 => (intro w hSw; (try dsimp only at hSw); go_simp <;> with_reducible rfl)
  try simp only [Act.put, List.getElem_toArray, List.getElem_cons_zero, List.getElem_cons_succ, List.setIfInBounds_toArray, List.set_cons_zero, List.set_cons_succ]
  refine wpAnyH_ready (rs := [7]) (by kernel_rfl) (by simp) ?_
  refine AllReadyH.cons rfl (fun K hK => ?_) AllReadyH.nil
  go_simp
  clear hHeld
  refine hK.out _ _ ?SR18 (fun hHeld => ?_)
  case SR18 => ((try dsimp only); first | (with_reducible exact KEEP.out _ h0) | (with_reducible exact KEEP.out _ h1) | (with_reducible exact KEEP.out _ h2) | (with_reducible exact KEEP2.out _ _ _ h2))
  clear hK K
  refine wpAnyH_done (by kernel_rfl) ?_ _
  go_wp2_with fail
  refine bodyPost_ret (v := .agg #[.string f.p, .string f.t]) (by simp [results, Try.results85, go_sem, d0, d1]) rfl ⟨rfl, HEND.out _ _ _ h2⟩

theorem cell_two_c (w : World) (v u : Value) (t : TypeId) : ∀ j x, ([v, u] : List Value)[j]? = some x → (w.alloc (.cells #[v, u] t)).cell? ((⟨w.heap.size, 0, none⟩ : Addr).add j) = some x := fun j x hj => by
  have h2 : j < 2 := by have := (List.getElem?_eq_some_iff.1 hj).1; simpa using this
  have e : ((⟨w.heap.size, 0, none⟩ : Addr).add j) = ⟨w.heap.size, j, none⟩ := by unfold Addr.add; split <;> simp_all
  rw [e, vblk_cell (vheap_new _ _) j]
  match j, h2 with
  | 0, _ => simpa using hj
  | 1, _ => simpa using hj

theorem owns2_below {w w' : World} {base : Nat} {e : TypeId} {v : Value} {n : Nat} {xs : List Value} (h : w.ownsRow base e 2 v n xs) (b : Below w.heap.size w w') : w'.ownsRow base e 2 v n xs := by
  rcases h.2 with ⟨rfl, rfl⟩ | ⟨g, cap, cur, rfl, hg, hh, _⟩
  · exact ⟨h.1, .inl ⟨rfl, rfl⟩⟩
  · exact h.kept (grown_of_below b none) (by simp [Value.ownBlock])

set_option maxHeartbeats 4000000 in
set_option maxRecDepth 100000 in
theorem copyFiles_c (S : Nat → Prop) (v : Value) (fs : List FileD) (w : World) (hv : FilesIn S w v fs) (hB : ∀ b, S b → b < w.heap.size) (hl : fs.length ≤ 1048576) (hp : ∀ f ∈ fs, f.p.size ≤ 1048576) (ht : ∀ f ∈ fs, f.t.size ≤ 1048576) :
    Calls Try.prog 49 #[v] w fun e w' => ∃ u, e = .returned u ∧ w'.ownsRow w.heap.size 26 2 u fs.length (cellsF fs) ∧ Below w.heap.size w w' := by
  obtain ⟨a, cap, rfl, _, hc, hsn, ha⟩ := hv
  obtain ⟨i0, hi, hz0, hz1, hz2⟩ := info_parts infoFile
  go_enter Try.func49, Try.ntmps49
  go_wp2_with fail
  go_loopw [3, 8] (fun vo vi wr => ∃ k : Nat, k ≤ fs.length ∧ vi = .int .i64 (k : Int) ∧ wr.ownsRow w.heap.size 26 2 vo k (cellsF (fs.take k)) ∧ Below w.heap.size w wr) (fun _ vi _ => fs.length - (intOf vi).toNat)
  case atStart => exact ⟨0, Nat.zero_le _, rfl, World.ownsRow_nil _ _ _ _, Below.refl _ _⟩
  case round =>
    obtain ⟨k, hk, rfl, hown, hbr⟩ := hrel
    by_cases hlt' : k < fs.length
    · rcases ha with rfl | ⟨b, off, rfl, hlt, ha⟩
      · simp at hlt'
      obtain ⟨e0, e1⟩ := ha k hlt'
      have hlt2 : b < w.heap.size := hB b hlt
      rw [← hbr.cell (by simpa using hlt2)] at e0 e1
      have hpk := hp fs[k] (List.getElem_mem hlt')
      have htk := ht fs[k] (List.getElem_mem hlt')
      have hst : cellsF (fs.take (k + 1)) = cellsF (fs.take k) ++ [.string fs[k].p, .string fs[k].t] := by rw [List.take_succ_eq_append_getElem hlt', cellsF_append]; rfl
      obtain ⟨d, hd⟩ : ∃ d, d = fs[k] := ⟨_, rfl⟩
      rw [← hd] at e0 e1 hpk htk hst
      have HST : Hid (cellsF (fs.take (k + 1)) = cellsF (fs.take k) ++ [.string d.p, .string d.t]) := hst
      have hki : (k : Int) < (fs.length : Int) := by omega
      have kA : Below wr.heap.size wr (wr.alloc (.cells #[.string d.p, .string d.t] 26)) := (Below.refl _ _).alloc (Nat.le_refl _) _
      clear ha hd hsn hp ht hst
      go_wp2_with (first
        | (go_at_call 85; refine (copyFile_c d _ hpk htk).mono ?_; rintro e w2 ⟨rfl, b2⟩
           have hown2 := owns2_below (owns2_below hown kA) b2
           have hb2 : Below w.heap.size w w2 := hbr.trans ((kA.trans (b2.mono kA.size)).mono hbr.size))
        | (at_builtin; refine wpList_append_own _ rfl _ _ 24 rfl w.heap.size 26 i0 (.agg #[.string ⟨#[]⟩, .string ⟨#[]⟩]) 2 32 Try.underlying24 hi hz0 hz1 hz2 rfl (by decide) _ k (cellsF (fs.take k)) rfl (hown2.alloc _) ⟨w2.heap.size, 0, none⟩ 1 1 [.string d.p, .string d.t] rfl rfl (cell_two_c _ _ _ _) (fun u hu => by simp at hu; rcases hu with rfl | rfl <;> rfl) (by unfold maxLen; omega) (by omega) (by have := hb2.size; simp; omega) ?_))
      intro v3 w3 o3 gr3 _
      rw [← HST.out] at o3
      have hb3 : Below w.heap.size w w3 := Below.grown (hb2.alloc hb2.size _) gr3 (by have := hb2.size; simp; omega) (fun j hj => (hown2.lt _ hj).1)
      clear gr3 hown2
      go_wp2_with fail
      go_roundw
      case rel => exact ⟨k + 1, by omega, by go_num, o3, hb3⟩
      case measure => simp [intOf]; omega
    · have he : k = fs.length := by omega
      subst he
      rw [List.take_length] at hown
      clear ha hsn hp ht
      go_wp2_with fail
      go_ret
      exact ⟨_, rfl, hown, hbr⟩
end Go.Proofs.Ytlnofdlhjeomfaa
