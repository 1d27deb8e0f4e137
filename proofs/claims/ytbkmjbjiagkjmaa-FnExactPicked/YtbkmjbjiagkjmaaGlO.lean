/-
  Marks written into a list of files, and looked for in one, as the law's helpers do it: contracts for the walks; conditions: the list lies in memory (a row of the call's own, where it is written), at most 2 to the 21 files.
-/
import Derived.Test.YtbkmjbjiagkjmaaFiF
import Derived.Deep.Cut
import Derived.Deep.RegionHeld
namespace Go.Proofs.Ytbkmjbjiagkjmaa
open Go.RowKit
set_option linter.unusedSimpArgs false
set_option linter.unusedVariables false

def marksF (k n : Nat) : List FileD := (List.range n).map fun j => ⟨markStr (k + j * 2), markStr (k + j * 2 + 1)⟩
@[simp] theorem length_marksF (k n : Nat) : (marksF k n).length = n := by simp [marksF]
theorem marksF_at (k n j : Nat) (h : j < (marksF k n).length) : (marksF k n)[j] = ⟨markStr (k + j * 2), markStr (k + j * 2 + 1)⟩ := by simp [marksF]

set_option maxHeartbeats 4000000 in
set_option maxRecDepth 100000 in
theorem markFiles_c (v : Value) (base n : Nat) (xs : List Value) (k0 : Nat) (w : World) (hv : w.ownsRow base 26 2 v n xs) (h0 : 1 ≤ k0) (h1 : k0 ≤ 4294967296) (hn : n ≤ 2097152) (hbw : base ≤ w.heap.size) :
    Calls Try.prog 52 #[v, .int .i64 (k0 : Int)] w fun e w' => e = .returned (.int .i64 ((k0 + n * 2 : Nat) : Int)) ∧ w'.ownsRow base 26 2 v n (cellsF (marksF k0 n)) ∧ w.grownBy w' v.ownBlock := by
  have hv0 := hv
  rcases hv.2 with ⟨rfl, rfl⟩ | ⟨g, cap, cur, rfl, hb, hg, hcap, hmax, hsz, htake⟩
  · have hx0 : xs = [] := List.eq_nil_of_length_eq_zero (by have := hv.1; omega)
    subst hx0
    clear hv0
    go_enter Try.func52, Try.ntmps52
    go_wp2_with fail
    go_loopw [1, 5] (fun vk vi wr => vk = .int .i64 (k0 : Int) ∧ vi = .int .i64 0 ∧ wr = w) (fun _ _ _ => 0)
    case atStart => exact ⟨rfl, rfl, rfl⟩
    case round =>
      obtain ⟨rfl, rfl, rfl⟩ := hrel
      go_wp2_with fail
      go_ret
      exact ⟨by simp, hv, World.grownBy.refl _ _⟩
  · have hl : xs.length = n * 2 := hv.1
    clear hb hg hsz htake hv0
    go_enter Try.func52, Try.ntmps52
    go_wp2_with fail
    go_loopw [1, 5] (fun vk vi wr => ∃ (k kk : Nat) (ys : List Value), k ≤ n ∧ vi = .int .i64 (k : Int) ∧ vk = .int .i64 (kk : Int) ∧ kk ≤ 4299161600 ∧ 1 ≤ kk ∧ wr.ownsRow base 26 2 (.slice (some ⟨g, 0, none⟩) n cap) n ys ∧ Hid (kk = k0 + k * 2 ∧ ys.length = n * 2 ∧ ∀ j, j < k * 2 → ys[j]? = (cellsF (marksF k0 n))[j]?) ∧ w.grownBy wr (some g)) (fun _ vi _ => n - (intOf vi).toNat)
    case atStart => exact ⟨0, k0, xs, Nat.zero_le _, rfl, rfl, by omega, by omega, hv, ⟨by omega, hl, fun j hj => by omega⟩, World.grownBy.refl _ _⟩
    case round =>
      obtain ⟨k, kk, ys, hk, rfl, rfl, hkk, hk1, hownr, hy, hbr⟩ := hrel
      clear hv hl
      by_cases hlt' : k < n
      · have hki : (k : Int) < (n : Int) := by omega
        have hlen := hy.out.2.1
        have hst := set2_step (fs := marksF k0 n) (k := k) (ys := ys) (by simpa using hlt') ⟨by rw [length_marksF]; exact hlen, hy.out.2.2⟩
        rw [marksF_at, length_marksF, ← hy.out.1] at hst
        obtain ⟨m1, hm1⟩ : ∃ m, m = markStr kk := ⟨_, rfl⟩
        obtain ⟨m2, hm2⟩ : ∃ m, m = markStr (kk + 1) := ⟨_, rfl⟩
        rw [← hm1, ← hm2] at hst
        have HS : Hid (((ys.set (k * 2) (.string m1)).set (k * 2 + 1) (.string m2)).length = n * 2 ∧ ∀ j, j < (k + 1) * 2 → ((ys.set (k * 2) (.string m1)).set (k * 2 + 1) (.string m2))[j]? = (cellsF (marksF k0 n))[j]?) := hst
        have HM1 : Hid (∀ w, Calls Try.prog 94 #[.int .i64 (kk : Int)] w fun e w' => e = .returned (.string m1) ∧ Below w.heap.size w w') := fun w => by rw [hm1]; exact markText_c kk w (by omega) (by omega)
        have HM2 : Hid (∀ w, Calls Try.prog 94 #[.int .i64 ((kk : Int) + 1)] w fun e w' => e = .returned (.string m2) ∧ Below w.heap.size w w') := fun w => by
          have := markText_c (kk + 1) w (by omega) (by omega)
          rw [← hm2, Int.natCast_add] at this
          exact this
        have HKK : Hid (kk + 2 = k0 + (k + 1) * 2) := by show _ = _; have := hy.out.1; omega
        clear hm1 hm2 hst
        go_upto_region 5 with (
          go_at_call 94
          refine (HM1.out _).mono ?_
          rintro e w1 ⟨rfl, b1⟩
          have hown1 := owns2_below hownr b1
          have hcy : w1.cell? ⟨g, k * 2, none⟩ = some (ys.getD (k * 2) undef) := by
            rw [hown1.cellAt _ (by omega)]; simp [List.getD_eq_getElem?_getD, show k * 2 < ys.length by omega]
          have hfr := hown1.frozenAt (k * 2))
        have hown2 := (hown1.stored (k * 2) (.string m1)).1
        have hgr2 := (hown1.stored (k * 2) (.string m1)).2
        generalize w1.setCell ⟨g, k * 2, none⟩ (.string m1) = W1 at hown2 hgr2 ⊢
        clear hcy hfr hownr hown1
        go_wp2_with (
          go_at_call 94
          refine (HM2.out _).mono ?_
          rintro e w2 ⟨rfl, b2⟩
          have hown3 := owns2_below hown2 b2
          have hcy : w2.cell? ⟨g, k * 2 + 1, none⟩ = some ((ys.set (k * 2) (.string m1)).getD (k * 2 + 1) undef) := by
            rw [hown3.cellAt _ (by omega)]; simp [List.getD_eq_getElem?_getD, show k * 2 + 1 < ys.length by omega]
          have hfr := hown3.frozenAt (k * 2 + 1))
        go_roundw
        case rel => exact ⟨k + 1, kk + 2, _, by omega, by go_num, by go_num, (by have := HKK.out; omega), by omega, (hown3.stored (k * 2 + 1) _).1, ⟨HKK.out, HS.out.1, HS.out.2⟩, grown_trans (grown_trans (grown_trans (grown_trans hbr (grown_of_below b1 _)) hgr2) (grown_of_below b2 _)) (hown3.stored (k * 2 + 1) _).2⟩
        case measure => simp [intOf]; omega
      · have he : k = n := by omega
        subst he
        have e : ys = cellsF (marksF k0 k) := List.ext_getElem? (fun j => by
          by_cases hj : j < k * 2
          · exact hy.out.2.2 j hj
          · rw [List.getElem?_eq_none (by rw [hy.out.2.1]; omega), List.getElem?_eq_none (by rw [cellsF_length, length_marksF]; omega)])
        have HKK : Hid (kk = k0 + k * 2) := hy.out.1
        go_wp2_with fail
        go_ret
        refine ⟨by rw [← HKK.out]; rfl, ?_, hbr⟩
        rw [← e]
        exact hownr

theorem marksIn {w : World} {lo n k : Nat} {e : TypeId} {v : Value} (h : w.ownsRow lo e 2 v n (cellsF (marksF k n))) :
    ∃ q cap, v = .slice q n cap ∧ n ≤ cap ∧ (n = 0 ∨ ∃ (b off : Nat), q = some ⟨b, off, none⟩ ∧ b < w.heap.size ∧ ∀ j, j < n → w.cell? ⟨b, off + j * 2, none⟩ = some (.string (markStr (k + j * 2))) ∧ w.cell? ⟨b, off + j * 2 + 1, none⟩ = some (.string (markStr (k + j * 2 + 1)))) := by
  rcases h.2 with ⟨hv, h0⟩ | ⟨g, cap, cur, hv, hlo, hg', hcap, hmax, _⟩
  · exact ⟨none, 0, by rw [hv, h0], by omega, .inl h0⟩
  · have hgl := (Array.getElem?_eq_some_iff.1 hg').1
    refine ⟨_, cap, hv, hcap, .inr ⟨g, 0, rfl, hgl, fun j hj => ?_⟩⟩
    subst hv
    obtain ⟨h1, h2⟩ := cellsF_at (marksF k n) j (by simpa using hj)
    rw [marksF_at] at h1 h2
    rw [Nat.zero_add]
    exact ⟨(h.cellAt _ (by omega)).trans h1, (h.cellAt _ (by omega)).trans h2⟩

set_option maxHeartbeats 4000000 in
set_option maxRecDepth 100000 in
theorem heldFiles_c (lo : Nat) (v : Value) (n k0 : Nat) (w : World) (hv0 : w.ownsRow lo 26 2 v n (cellsF (marksF k0 n))) (h0 : 1 ≤ k0) (h1 : k0 ≤ 4294967296) (hn : n ≤ 2097152) :
    Calls Try.prog 54 #[v, .int .i64 (k0 : Int)] w fun e w' => e = .returned (.int .i64 ((k0 + n * 2 : Nat) : Int)) ∧ Below w.heap.size w w' := by
  obtain ⟨a, cap, hvv, hc, ha⟩ := marksIn hv0
  subst hvv
  clear hv0
  go_enter Try.func54, Try.ntmps54
  go_wp2_with fail
  go_loopw [1, 5] (fun vk vi wr => ∃ (k kk : Nat), k ≤ n ∧ vi = .int .i64 (k : Int) ∧ vk = .int .i64 (kk : Int) ∧ kk ≤ 4299161600 ∧ 1 ≤ kk ∧ Hid (kk = k0 + k * 2) ∧ Below w.heap.size w wr) (fun _ vi _ => n - (intOf vi).toNat)
  case atStart => exact ⟨0, k0, Nat.zero_le _, rfl, rfl, by omega, by omega, by show _ = _; omega, Below.refl _ _⟩
  case round =>
    obtain ⟨k, kk, hk, rfl, rfl, hkk, hk1, hy, hbr⟩ := hrel
    by_cases hlt' : k < n
    · rcases ha with he | ⟨b, off, rfl, hlt2, ha⟩
      · omega
      have hki : (k : Int) < (n : Int) := by omega
      obtain ⟨e0, e1⟩ := ha k hlt'
      rw [← hy.out] at e0 e1
      obtain ⟨m1, hm1⟩ : ∃ m, m = markStr kk := ⟨_, rfl⟩
      obtain ⟨m2, hm2⟩ : ∃ m, m = markStr (kk + 1) := ⟨_, rfl⟩
      rw [← hm1] at e0
      rw [← hm2] at e1
      have HM1 : Hid (∀ w, Calls Try.prog 94 #[.int .i64 (kk : Int)] w fun e w' => e = .returned (.string m1) ∧ Below w.heap.size w w') := fun w => by rw [hm1]; exact markText_c kk w (by omega) (by omega)
      have HM2 : Hid (∀ w, Calls Try.prog 94 #[.int .i64 ((kk : Int) + 1)] w fun e w' => e = .returned (.string m2) ∧ Below w.heap.size w w') := fun w => by
        have := markText_c (kk + 1) w (by omega) (by omega)
        rw [← hm2, Int.natCast_add] at this
        exact this
      have HKK : Hid (kk + 2 = k0 + (k + 1) * 2) := by show _ = _; have := hy.out; omega
      have KEEP : Hid (∀ w', Below w.heap.size w w' → w'.cell? ⟨b, off + k * 2, none⟩ = some (.string m1) ∧ w'.cell? ⟨b, off + k * 2 + 1, none⟩ = some (.string m2)) := fun w' h => ⟨(h.cell (by simpa using hlt2)).trans e0, (h.cell (by simpa using hlt2)).trans e1⟩
      have hd0 : Below w.heap.size w wr.drew := hbr.drew
      clear ha hm1 hm2 e0 e1
      go_wp2_with fail
      refine wp_region_held_drew (S := (fun w' => w'.cell? ⟨b, off + k * 2, none⟩ = some (.string m1) ∧ w'.cell? ⟨b, off + k * 2 + 1, none⟩ = some (.string m2))) (by kernel_rfl) ?SR10 (fun hHeld => ?_)
      case SR10 => (first | (with_reducible exact KEEP.out _ hd0) | (with_reducible exact KEEP.out _ hd1) | (with_reducible exact KEEP.out _ hd2) | (with_reducible exact KEEP.out _ hd3))
      refine wpAnyH_take (i := 0) (oi := _) (v := ?vR10) rfl (by kernel_rfl) (by kernel_rfl) (by kernel_rfl) (fun _ _ _ h => h) (Or.inl ⟨by rfl, ?yR10⟩) hHeld ?_
      case yR10 => (intro w hSw; (try dsimp only at hSw); go_simp <;> with_reducible rfl)
      try simp only [Act.put, List.getElem_toArray, List.getElem_cons_zero, List.getElem_cons_succ, List.setIfInBounds_toArray, List.set_cons_zero, List.set_cons_succ]
      refine wpAnyH_take (i := 1) (oi := _) (v := ?vR11) rfl (by kernel_rfl) (by kernel_rfl) (by kernel_rfl) (fun _ _ _ h => h) (Or.inl ⟨by rfl, ?yR11⟩) hHeld ?_
      case yR11 => (intro w hSw; (try dsimp only at hSw); go_simp <;> with_reducible rfl)
      try simp only [Act.put, List.getElem_toArray, List.getElem_cons_zero, List.getElem_cons_succ, List.setIfInBounds_toArray, List.set_cons_zero, List.set_cons_succ]
      refine wpAnyH_take (i := 2) (oi := _) (v := ?vR12) rfl (by kernel_rfl) (by kernel_rfl) (by kernel_rfl) (fun _ _ _ h => h) (Or.inl ⟨by rfl, ?yR12⟩) hHeld ?_
      case yR12 => (intro w hSw; (try dsimp only at hSw); go_simp <;> with_reducible rfl)
      try simp only [Act.put, List.getElem_toArray, List.getElem_cons_zero, List.getElem_cons_succ, List.setIfInBounds_toArray, List.set_cons_zero, List.set_cons_succ]
      refine wpAnyH_take (i := 3) (oi := _) (v := ?vR13) rfl (by kernel_rfl) (by kernel_rfl) (by kernel_rfl) (fun _ _ _ h => h) (Or.inl ⟨by rfl, ?yR13⟩) hHeld ?_
      case yR13 => (intro w hSw; (try dsimp only at hSw); go_simp <;> with_reducible rfl)
      try simp only [Act.put, List.getElem_toArray, List.getElem_cons_zero, List.getElem_cons_succ, List.setIfInBounds_toArray, List.set_cons_zero, List.set_cons_succ]
      refine wpAnyH_take (i := 4) (oi := _) (v := ?vR14) rfl (by kernel_rfl) (by kernel_rfl) (by kernel_rfl) (fun _ _ _ h => h) (Or.inl ⟨by rfl, ?yR14⟩) hHeld ?_
      case yR14 => (intro w hSw; (try dsimp only at hSw); go_simp <;> with_reducible rfl)
      try simp only [Act.put, List.getElem_toArray, List.getElem_cons_zero, List.getElem_cons_succ, List.setIfInBounds_toArray, List.set_cons_zero, List.set_cons_succ]
      refine wpAnyH_take (i := 5) (oi := _) (v := ?vR15) rfl (by kernel_rfl) (by kernel_rfl) (by kernel_rfl) (fun _ _ _ h => h) (Or.inl ⟨by rfl, ?yR15⟩) hHeld ?_
      case yR15 => (intro w hSw; (try dsimp only at hSw); go_simp <;> with_reducible rfl)
      try simp only [Act.put, List.getElem_toArray, List.getElem_cons_zero, List.getElem_cons_succ, List.setIfInBounds_toArray, List.set_cons_zero, List.set_cons_succ]
      refine wpAnyH_ready (rs := [6]) (by kernel_rfl) (by simp) ?_
      refine AllReadyH.cons rfl (fun K hK => ?_) AllReadyH.nil
      go_simp
      go_wp2_with (go_at_call 94; refine (HM1.out _).mono ?_; rintro e w1 ⟨rfl, b1⟩; have hd1 : Below w.heap.size w w1 := hd0.trans (b1.mono hd0.size))
      clear hHeld
      refine hK.out _ _ ?SR17 (fun hHeld => ?_)
      case SR17 => ((try dsimp only); first | (with_reducible exact KEEP.out _ hd0) | (with_reducible exact KEEP.out _ hd1) | (with_reducible exact KEEP.out _ hd2) | (with_reducible exact KEEP.out _ hd3))
      clear hK K
      refine wpAnyH_take (i := 7) (oi := _) (v := ?vR17) rfl (by kernel_rfl) (by kernel_rfl) (by kernel_rfl) (fun _ _ _ h => h) (Or.inl ⟨by rfl, ?yR17⟩) hHeld ?_
      case yR17 => (intro w hSw; (try dsimp only at hSw); go_simp <;> with_reducible rfl)
      try simp only [Act.put, List.getElem_toArray, List.getElem_cons_zero, List.getElem_cons_succ, List.setIfInBounds_toArray, List.set_cons_zero, List.set_cons_succ]
      refine wpAnyH_done (by kernel_rfl) ?_ _
      clear hHeld
      go_wp2_with fail
      have hd2 : Below w.heap.size w w1.drew := hd1.drew
      refine wp_region_held_drew (S := (fun w' => w'.cell? ⟨b, off + k * 2, none⟩ = some (.string m1) ∧ w'.cell? ⟨b, off + k * 2 + 1, none⟩ = some (.string m2))) (by kernel_rfl) ?SR20 (fun hHeld => ?_)
      case SR20 => (first | (with_reducible exact KEEP.out _ hd0) | (with_reducible exact KEEP.out _ hd1) | (with_reducible exact KEEP.out _ hd2) | (with_reducible exact KEEP.out _ hd3))
      refine wpAnyH_take (i := 0) (oi := _) (v := ?vR20) rfl (by kernel_rfl) (by kernel_rfl) (by kernel_rfl) (fun _ _ _ h => h) (Or.inl ⟨by rfl, ?yR20⟩) hHeld ?_
      case yR20 => (intro w hSw; (try dsimp only at hSw); go_simp <;> with_reducible rfl)
      try simp only [Act.put, List.getElem_toArray, List.getElem_cons_zero, List.getElem_cons_succ, List.setIfInBounds_toArray, List.set_cons_zero, List.set_cons_succ]
      refine wpAnyH_take (i := 1) (oi := _) (v := ?vR21) rfl (by kernel_rfl) (by kernel_rfl) (by kernel_rfl) (fun _ _ _ h => h) (Or.inl ⟨by rfl, ?yR21⟩) hHeld ?_
      case yR21 => (intro w hSw; (try dsimp only at hSw); go_simp <;> with_reducible rfl)
      try simp only [Act.put, List.getElem_toArray, List.getElem_cons_zero, List.getElem_cons_succ, List.setIfInBounds_toArray, List.set_cons_zero, List.set_cons_succ]
      refine wpAnyH_take (i := 2) (oi := _) (v := ?vR22) rfl (by kernel_rfl) (by kernel_rfl) (by kernel_rfl) (fun _ _ _ h => h) (Or.inl ⟨by rfl, ?yR22⟩) hHeld ?_
      case yR22 => (intro w hSw; (try dsimp only at hSw); go_simp <;> with_reducible rfl)
      try simp only [Act.put, List.getElem_toArray, List.getElem_cons_zero, List.getElem_cons_succ, List.setIfInBounds_toArray, List.set_cons_zero, List.set_cons_succ]
      refine wpAnyH_take (i := 3) (oi := _) (v := ?vR23) rfl (by kernel_rfl) (by kernel_rfl) (by kernel_rfl) (fun _ _ _ h => h) (Or.inl ⟨by rfl, ?yR23⟩) hHeld ?_
      case yR23 => (intro w hSw; (try dsimp only at hSw); go_simp <;> with_reducible rfl)
      try simp only [Act.put, List.getElem_toArray, List.getElem_cons_zero, List.getElem_cons_succ, List.setIfInBounds_toArray, List.set_cons_zero, List.set_cons_succ]
      refine wpAnyH_take (i := 4) (oi := _) (v := ?vR24) rfl (by kernel_rfl) (by kernel_rfl) (by kernel_rfl) (fun _ _ _ h => h) (Or.inl ⟨by rfl, ?yR24⟩) hHeld ?_
      case yR24 => (intro w hSw; (try dsimp only at hSw); go_simp <;> with_reducible rfl)
      try simp only [Act.put, List.getElem_toArray, List.getElem_cons_zero, List.getElem_cons_succ, List.setIfInBounds_toArray, List.set_cons_zero, List.set_cons_succ]
      refine wpAnyH_take (i := 5) (oi := _) (v := ?vR25) rfl (by kernel_rfl) (by kernel_rfl) (by kernel_rfl) (fun _ _ _ h => h) (Or.inl ⟨by rfl, ?yR25⟩) hHeld ?_
      case yR25 => (intro w hSw; (try dsimp only at hSw); go_simp <;> with_reducible rfl)
      try simp only [Act.put, List.getElem_toArray, List.getElem_cons_zero, List.getElem_cons_succ, List.setIfInBounds_toArray, List.set_cons_zero, List.set_cons_succ]
      refine wpAnyH_ready (rs := [6]) (by kernel_rfl) (by simp) ?_
      refine AllReadyH.cons rfl (fun K hK => ?_) AllReadyH.nil
      go_simp
      go_wp2_with (go_at_call 94; refine (HM2.out _).mono ?_; rintro e w2 ⟨rfl, b2⟩; have hd3 : Below w.heap.size w w2 := hd2.trans (b2.mono hd2.size))
      clear hHeld
      refine hK.out _ _ ?SR27 (fun hHeld => ?_)
      case SR27 => ((try dsimp only); first | (with_reducible exact KEEP.out _ hd0) | (with_reducible exact KEEP.out _ hd1) | (with_reducible exact KEEP.out _ hd2) | (with_reducible exact KEEP.out _ hd3))
      clear hK K
      refine wpAnyH_take (i := 7) (oi := _) (v := ?vR27) rfl (by kernel_rfl) (by kernel_rfl) (by kernel_rfl) (fun _ _ _ h => h) (Or.inl ⟨by rfl, ?yR27⟩) hHeld ?_
      case yR27 => (intro w hSw; (try dsimp only at hSw); go_simp <;> with_reducible rfl)
      try simp only [Act.put, List.getElem_toArray, List.getElem_cons_zero, List.getElem_cons_succ, List.setIfInBounds_toArray, List.set_cons_zero, List.set_cons_succ]
      refine wpAnyH_done (by kernel_rfl) ?_ _
      clear hHeld
      go_wp2_with fail
      go_roundw
      case rel => exact ⟨k + 1, kk + 2, by omega, by go_num, by go_num, (by have := HKK.out; omega), by omega, HKK, hd3⟩
      case measure => simp [intOf]; omega
    · have he : k = n := by omega
      subst he
      clear ha
      have HKK : Hid (kk = k0 + k * 2) := hy.out
      go_wp2_with fail
      go_ret
      exact ⟨by rw [← HKK.out]; rfl, hbr⟩
end Go.Proofs.Ytbkmjbjiagkjmaa
