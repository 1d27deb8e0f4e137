/-
  The list in which a new file has its place: a contract for the walks; conditions: the list lies in memory, and holds at most 2 to the 20.
-/
import Derived.Test.YtlnofdlhjeomfaaFiX
import Derived.Deep.RegionHeld
namespace Go.Proofs.Ytlnofdlhjeomfaa
open Go.RowKit Go.Maps
set_option linter.unusedSimpArgs false
set_option linter.unusedVariables false

set_option maxHeartbeats 8000000 in
set_option maxRecDepth 100000 in
theorem place_c (S : Nat → Prop) (v : Value) (fs : List FileD) (f : FileD) (w : World) (hv : FilesIn S w v fs) (hB : ∀ b, S b → b < w.heap.size) (hl : fs.length ≤ 1048576) :
    Calls Try.prog 40 #[v, .agg #[.string f.p, .string f.t]] w fun e w' => ∃ x, e = .returned x ∧ w'.ownsRow w.heap.size 26 2 x (fs.length + 1) (cellsF (insR f fs)) ∧ Below w.heap.size w w' := by
  have kW0 : Below w.heap.size w (w.alloc (.cells #[.string f.p, .string f.t] 26)) := (Below.refl _ _).alloc (Nat.le_refl _) _
  have HV : ∀ w1, Below w.heap.size w w1 → FilesIn S w1 v fs ∧ ∀ b, S b → b < w1.heap.size := fun w1 h => ⟨hv.keep (.of h hB), fun b hb => Nat.lt_of_lt_of_le (hB b hb) h.size⟩
  have hX := vheap_new w (.cells #[.string f.p, .string f.t] 26)
  have HP := placeAt_c S v fs f w.heap.size _ (HV _ kW0).1 (HV _ kW0).2 hl hX
  have HCL0 : Hid (∀ w1, Below w.heap.size w w1 → Calls Try.prog 84 #[v] w1 fun e w' => ∃ x, e = .returned x ∧ w'.ownsRow w1.heap.size 26 2 x fs.length (cellsF fs) ∧ Below w1.heap.size w1 w') := fun w1 h => cloneF_c S v fs w1 (HV w1 h).1 (HV w1 h).2 hl
  have hmf : ∀ (fn : Fn) (first cap : Array Value) (w : World), (Instr.makeFunc fn first cap).run Try.prog w = .ok (.func fn first cap) w := fun _ _ _ _ => rfl
  have KP : Hid (∀ w', Below (w.alloc (.cells #[.string f.p, .string f.t] 26)).heap.size (w.alloc (.cells #[.string f.p, .string f.t] 26)) w' → w'.cell? ⟨w.heap.size, 0, none⟩ = some (.string f.p) ∧ w'.cell? ⟨w.heap.size, 1, none⟩ = some (.string f.t)) := fun w' h => by
    have x0 := vblk_cell hX 0
    have x1 := vblk_cell hX 1
    simp only [List.getElem?_toArray, List.getElem?_cons_succ, List.getElem?_cons_zero] at x0 x1
    exact ⟨(h.cell (by simp)).trans x0, (h.cell (by simp)).trans x1⟩
  obtain ⟨qv, cv, rfl, _⟩ := id hv
  by_cases hk : atF f fs < fs.length
  · rw [if_pos hk] at HP
    have HIN : Hid (insR f fs = fs.take (atF f fs) ++ f :: fs.drop (atF f fs)) := insR_at f fs
    obtain ⟨k, hke⟩ : ∃ k, k = atF f fs := ⟨_, rfl⟩
    rw [← hke] at HP HIN hk
    have HK : k < fs.length := hk
    have hk0 : ¬ (k : Int) < 0 := by omega
    clear HV hv hX hke hk
    go_enter Try.func40, Try.ntmps40
    go_wp2_with (go_at_call 81; refine HP.mono ?_; rintro e w1 ⟨rfl, c1⟩)
    have b1 : Below w.heap.size w w1 := kW0.trans (c1.mono kW0.size)
    have KEEP : Hid (∀ w', Below w1.heap.size w1 w' → w'.cell? ⟨w.heap.size, 0, none⟩ = some (.string f.p) ∧ w'.cell? ⟨w.heap.size, 1, none⟩ = some (.string f.t)) := fun w' h => KP.out w' (c1.trans (h.mono c1.size))
    have HCL : Hid (∀ w2, Below w1.heap.size w1 w2 → Calls Try.prog 84 #[.slice qv fs.length cv] w2 fun e w' => ∃ x, e = .returned x ∧ w'.ownsRow w2.heap.size 26 2 x fs.length (cellsF fs) ∧ Below w2.heap.size w2 w') := fun w2 h => HCL0.out w2 (b1.trans (h.mono b1.size))
    have hd0 : Below w1.heap.size w1 w1.drew := (Below.refl _ _).drew
    refine wp_region_held_drew (S := (fun w' => w'.cell? ⟨w.heap.size, 0, none⟩ = some (.string f.p) ∧ w'.cell? ⟨w.heap.size, 1, none⟩ = some (.string f.t))) (by kernel_rfl) ?SR10 (fun hHeld => ?_)
    case SR10 => (with_reducible exact KEEP.out _ hd0)
    refine wpAnyH_take (i := 0) (oi := _) (v := ?vR10) rfl (by kernel_rfl) (by kernel_rfl) (by kernel_rfl) (fun _ _ _ h => h) (Or.inl ⟨by rfl, ?yR10⟩) hHeld ?_
    case yR10 => (intro w hSw; (try dsimp only at hSw); go_simp <;> with_reducible rfl)
    try simp only [Act.put, List.getElem_toArray, List.getElem_cons_zero, List.getElem_cons_succ, List.setIfInBounds_toArray, List.set_cons_zero, List.set_cons_succ]
    refine wpAnyH_take (i := 2) (oi := _) (v := ?vR11) rfl (by kernel_rfl) (by kernel_rfl) (by kernel_rfl) (fun _ _ _ h => h) (Or.inl ⟨by rfl, ?yR11⟩) hHeld ?_
    case yR11 => (intro w hSw; (try dsimp only at hSw); go_simp <;> with_reducible rfl)
    try simp only [Act.put, List.getElem_toArray, List.getElem_cons_zero, List.getElem_cons_succ, List.setIfInBounds_toArray, List.set_cons_zero, List.set_cons_succ]
    refine wpAnyH_take (i := 3) (oi := _) (v := ?vR12) rfl (by kernel_rfl) (by kernel_rfl) (by kernel_rfl) (fun _ _ _ h => h) (Or.inl ⟨by rfl, ?yR12⟩) hHeld ?_
    case yR12 => (intro w hSw; (try dsimp only at hSw); go_simp <;> with_reducible rfl)
    try simp only [Act.put, List.getElem_toArray, List.getElem_cons_zero, List.getElem_cons_succ, List.setIfInBounds_toArray, List.set_cons_zero, List.set_cons_succ]
    refine wpAnyH_ready (rs := [1, 4]) (by kernel_rfl) (by simp) ?_
    refine AllReadyH.cons rfl (fun K hK => ?_) (AllReadyH.cons rfl (fun K hK => ?_) AllReadyH.nil)
    · go_simp
      go_wp2_with (go_at_call 84; refine (HCL.out _ hd0).mono ?_; rintro e w3 ⟨x, rfl, o3, b3⟩)
      have ba : Below w1.heap.size w1 w3 := hd0.trans (b3.mono hd0.size)
      clear hHeld
      refine hK.out _ _ (KEEP.out _ ba) (fun hHeld => ?_)
      clear hK K
      refine wpAnyH_ready (rs := [4]) (by kernel_rfl) (by simp) ?_
      refine AllReadyH.cons rfl (fun K hK => ?_) AllReadyH.nil
      go_simp
      have bb := ba.alloc ba.size (.cells #[.string f.p, .string f.t] 26)
      clear hHeld
      refine hK.out _ _ (KEEP.out _ bb) (fun hHeld => ?_)
      clear hK K
      have o4 := o3.alloc (.cells #[.string f.p, .string f.t] 26)
      refine wpAnyH_ready (rs := [5]) (by kernel_rfl) (by simp) ?_
      refine AllReadyH.cons rfl (fun K hK => ?_) AllReadyH.nil
      go_simp
      go_wp2_with (go_at_call 83; refine (insertF_c _ _ fs f k _ _ (owns_lower2 o4 (show w1.heap.size ≤ _ from Nat.le_refl _)) (Nat.le_of_lt HK) hl bb.size (vheap_new _ _) (fun j hj => by have := (o3.lt j hj).2; omega)).mono ?_; rintro e w5 ⟨y, rfl, o5, b5⟩)
      have bz : Below w1.heap.size w1 w5 := bb.trans b5
      clear hHeld
      refine hK.out _ _ (KEEP.out _ bz) (fun hHeld => ?_)
      clear hK K
      refine wpAnyH_take (i := 6) (oi := _) (v := ?vP6) rfl (by kernel_rfl) (by kernel_rfl) (by kernel_rfl) (fun _ _ _ h => h) (Or.inl ⟨by rfl, ?yP6⟩) hHeld ?_
      case yP6 => (intro w hSw; (try dsimp only at hSw); go_simp <;> with_reducible rfl)
      try simp only [Act.put, List.getElem_toArray, List.getElem_cons_zero, List.getElem_cons_succ, List.setIfInBounds_toArray, List.set_cons_zero, List.set_cons_succ]
      refine wpAnyH_done (by kernel_rfl) ?_ _
      clear hHeld
      go_wp2_with fail
      go_ret
      refine ⟨_, rfl, ?_, b1.trans (bz.mono b1.size)⟩
      rw [HIN.out]
      exact owns_lower2 o5 b1.size
    · go_simp
      have ba := hd0.alloc hd0.size (.cells #[.string f.p, .string f.t] 26)
      clear hHeld
      refine hK.out _ _ (KEEP.out _ ba) (fun hHeld => ?_)
      clear hK K
      refine wpAnyH_ready (rs := [1]) (by kernel_rfl) (by simp) ?_
      refine AllReadyH.cons rfl (fun K hK => ?_) AllReadyH.nil
      go_simp
      go_wp2_with (go_at_call 84; refine (HCL.out _ ba).mono ?_; rintro e w3 ⟨x, rfl, o3, b3⟩)
      have hvv := vheap_new w1.drew (.cells #[.string f.p, .string f.t] 26)
      have hv3 := (b3.block _ (Array.getElem?_eq_some_iff.1 hvv).1).trans hvv
      have bb : Below w1.heap.size w1 w3 := ba.trans (b3.mono ba.size)
      clear hHeld
      refine hK.out _ _ (KEEP.out _ bb) (fun hHeld => ?_)
      clear hK K
      refine wpAnyH_ready (rs := [5]) (by kernel_rfl) (by simp) ?_
      refine AllReadyH.cons rfl (fun K hK => ?_) AllReadyH.nil
      go_simp
      go_wp2_with (go_at_call 83; refine (insertF_c _ _ fs f k _ _ (owns_lower2 o3 ba.size) (Nat.le_of_lt HK) hl bb.size hv3 (fun j hj => by have h := (o3.lt j hj).1; simp at h; intro e; rw [← e] at h; simp at h; omega)).mono ?_; rintro e w5 ⟨y, rfl, o5, b5⟩)
      have bz : Below w1.heap.size w1 w5 := bb.trans b5
      clear hHeld
      refine hK.out _ _ (KEEP.out _ bz) (fun hHeld => ?_)
      clear hK K
      refine wpAnyH_take (i := 6) (oi := _) (v := ?vP7) rfl (by kernel_rfl) (by kernel_rfl) (by kernel_rfl) (fun _ _ _ h => h) (Or.inl ⟨by rfl, ?yP7⟩) hHeld ?_
      case yP7 => (intro w hSw; (try dsimp only at hSw); go_simp <;> with_reducible rfl)
      try simp only [Act.put, List.getElem_toArray, List.getElem_cons_zero, List.getElem_cons_succ, List.setIfInBounds_toArray, List.set_cons_zero, List.set_cons_succ]
      refine wpAnyH_done (by kernel_rfl) ?_ _
      clear hHeld
      go_wp2_with fail
      go_ret
      refine ⟨_, rfl, ?_, b1.trans (bz.mono b1.size)⟩
      rw [HIN.out]
      exact owns_lower2 o5 b1.size
  · rw [if_neg hk] at HP
    have HIN : Hid (insR f fs = fs.take fs.length ++ f :: fs.drop fs.length) := by
      have := insR_at f fs
      rw [show atF f fs = fs.length from by have := atF_le f fs; omega] at this
      exact this
    clear HV hv hX hk
    go_enter Try.func40, Try.ntmps40
    go_wp2_with (go_at_call 81; refine HP.mono ?_; rintro e w1 ⟨rfl, c1⟩)
    have b1 : Below w.heap.size w w1 := kW0.trans (c1.mono kW0.size)
    have KEEP : Hid (∀ w', Below w1.heap.size w1 w' → w'.cell? ⟨w.heap.size, 0, none⟩ = some (.string f.p) ∧ w'.cell? ⟨w.heap.size, 1, none⟩ = some (.string f.t)) := fun w' h => KP.out w' (c1.trans (h.mono c1.size))
    have HCL : Hid (∀ w2, Below w1.heap.size w1 w2 → Calls Try.prog 84 #[.slice qv fs.length cv] w2 fun e w' => ∃ x, e = .returned x ∧ w'.ownsRow w2.heap.size 26 2 x fs.length (cellsF fs) ∧ Below w2.heap.size w2 w') := fun w2 h => HCL0.out w2 (b1.trans (h.mono b1.size))
    have hd0 : Below w1.heap.size w1 w1.drew := (Below.refl _ _).drew
    refine wp_region_held_drew (S := (fun w' => w'.cell? ⟨w.heap.size, 0, none⟩ = some (.string f.p) ∧ w'.cell? ⟨w.heap.size, 1, none⟩ = some (.string f.t))) (by kernel_rfl) ?SR20 (fun hHeld => ?_)
    case SR20 => (with_reducible exact KEEP.out _ hd0)
    refine wpAnyH_take (i := 0) (oi := _) (v := ?vR20) rfl (by kernel_rfl) (by kernel_rfl) (by kernel_rfl) (fun _ _ _ h => h) (Or.inl ⟨by rfl, ?yR20⟩) hHeld ?_
    case yR20 => (intro w hSw; (try dsimp only at hSw); go_simp <;> with_reducible rfl)
    try simp only [Act.put, List.getElem_toArray, List.getElem_cons_zero, List.getElem_cons_succ, List.setIfInBounds_toArray, List.set_cons_zero, List.set_cons_succ]
    refine wpAnyH_take (i := 2) (oi := _) (v := ?vR21) rfl (by kernel_rfl) (by kernel_rfl) (by kernel_rfl) (fun _ _ _ h => h) (Or.inl ⟨by rfl, ?yR21⟩) hHeld ?_
    case yR21 => (intro w hSw; (try dsimp only at hSw); go_simp <;> with_reducible rfl)
    try simp only [Act.put, List.getElem_toArray, List.getElem_cons_zero, List.getElem_cons_succ, List.setIfInBounds_toArray, List.set_cons_zero, List.set_cons_succ]
    refine wpAnyH_take (i := 3) (oi := _) (v := ?vR22) rfl (by kernel_rfl) (by kernel_rfl) (by kernel_rfl) (fun _ _ _ h => h) (Or.inl ⟨by rfl, ?yR22⟩) hHeld ?_
    case yR22 => (intro w hSw; (try dsimp only at hSw); go_simp <;> with_reducible rfl)
    try simp only [Act.put, List.getElem_toArray, List.getElem_cons_zero, List.getElem_cons_succ, List.setIfInBounds_toArray, List.set_cons_zero, List.set_cons_succ]
    refine wpAnyH_ready (rs := [1, 4]) (by kernel_rfl) (by simp) ?_
    refine AllReadyH.cons rfl (fun K hK => ?_) (AllReadyH.cons rfl (fun K hK => ?_) AllReadyH.nil)
    · go_simp
      go_wp2_with (go_at_call 84; refine (HCL.out _ hd0).mono ?_; rintro e w3 ⟨x, rfl, o3, b3⟩)
      have ba : Below w1.heap.size w1 w3 := hd0.trans (b3.mono hd0.size)
      clear hHeld
      refine hK.out _ _ (KEEP.out _ ba) (fun hHeld => ?_)
      clear hK K
      refine wpAnyH_ready (rs := [4]) (by kernel_rfl) (by simp) ?_
      refine AllReadyH.cons rfl (fun K hK => ?_) AllReadyH.nil
      go_simp
      have bb := ba.alloc ba.size (.cells #[.string f.p, .string f.t] 26)
      clear hHeld
      refine hK.out _ _ (KEEP.out _ bb) (fun hHeld => ?_)
      clear hK K
      have o4 := o3.alloc (.cells #[.string f.p, .string f.t] 26)
      refine wpAnyH_ready (rs := [5]) (by kernel_rfl) (by simp) ?_
      refine AllReadyH.cons rfl (fun K hK => ?_) AllReadyH.nil
      go_simp
      go_wp2_with (go_at_call 83; refine (insertF_c _ _ fs f fs.length _ _ (owns_lower2 o4 (show w1.heap.size ≤ _ from Nat.le_refl _)) (Nat.le_refl _) hl bb.size (vheap_new _ _) (fun j hj => by have := (o3.lt j hj).2; omega)).mono ?_; rintro e w5 ⟨y, rfl, o5, b5⟩)
      have bz : Below w1.heap.size w1 w5 := bb.trans b5
      clear hHeld
      refine hK.out _ _ (KEEP.out _ bz) (fun hHeld => ?_)
      clear hK K
      refine wpAnyH_take (i := 6) (oi := _) (v := ?vQ6) rfl (by kernel_rfl) (by kernel_rfl) (by kernel_rfl) (fun _ _ _ h => h) (Or.inl ⟨by rfl, ?yQ6⟩) hHeld ?_
      case yQ6 => (intro w hSw; (try dsimp only at hSw); go_simp <;> with_reducible rfl)
      try simp only [Act.put, List.getElem_toArray, List.getElem_cons_zero, List.getElem_cons_succ, List.setIfInBounds_toArray, List.set_cons_zero, List.set_cons_succ]
      refine wpAnyH_done (by kernel_rfl) ?_ _
      clear hHeld
      go_wp2_with fail
      go_ret
      refine ⟨_, rfl, ?_, b1.trans (bz.mono b1.size)⟩
      rw [HIN.out]
      exact owns_lower2 o5 b1.size
    · go_simp
      have ba := hd0.alloc hd0.size (.cells #[.string f.p, .string f.t] 26)
      clear hHeld
      refine hK.out _ _ (KEEP.out _ ba) (fun hHeld => ?_)
      clear hK K
      refine wpAnyH_ready (rs := [1]) (by kernel_rfl) (by simp) ?_
      refine AllReadyH.cons rfl (fun K hK => ?_) AllReadyH.nil
      go_simp
      go_wp2_with (go_at_call 84; refine (HCL.out _ ba).mono ?_; rintro e w3 ⟨x, rfl, o3, b3⟩)
      have hvv := vheap_new w1.drew (.cells #[.string f.p, .string f.t] 26)
      have hv3 := (b3.block _ (Array.getElem?_eq_some_iff.1 hvv).1).trans hvv
      have bb : Below w1.heap.size w1 w3 := ba.trans (b3.mono ba.size)
      clear hHeld
      refine hK.out _ _ (KEEP.out _ bb) (fun hHeld => ?_)
      clear hK K
      refine wpAnyH_ready (rs := [5]) (by kernel_rfl) (by simp) ?_
      refine AllReadyH.cons rfl (fun K hK => ?_) AllReadyH.nil
      go_simp
      go_wp2_with (go_at_call 83; refine (insertF_c _ _ fs f fs.length _ _ (owns_lower2 o3 ba.size) (Nat.le_refl _) hl bb.size hv3 (fun j hj => by have h := (o3.lt j hj).1; simp at h; intro e; rw [← e] at h; simp at h; omega)).mono ?_; rintro e w5 ⟨y, rfl, o5, b5⟩)
      have bz : Below w1.heap.size w1 w5 := bb.trans b5
      clear hHeld
      refine hK.out _ _ (KEEP.out _ bz) (fun hHeld => ?_)
      clear hK K
      refine wpAnyH_take (i := 6) (oi := _) (v := ?vQ7) rfl (by kernel_rfl) (by kernel_rfl) (by kernel_rfl) (fun _ _ _ h => h) (Or.inl ⟨by rfl, ?yQ7⟩) hHeld ?_
      case yQ7 => (intro w hSw; (try dsimp only at hSw); go_simp <;> with_reducible rfl)
      try simp only [Act.put, List.getElem_toArray, List.getElem_cons_zero, List.getElem_cons_succ, List.setIfInBounds_toArray, List.set_cons_zero, List.set_cons_succ]
      refine wpAnyH_done (by kernel_rfl) ?_ _
      clear hHeld
      go_wp2_with fail
      go_ret
      refine ⟨_, rfl, ?_, b1.trans (bz.mono b1.size)⟩
      rw [HIN.out]
      exact owns_lower2 o5 b1.size
end Go.Proofs.Ytlnofdlhjeomfaa
