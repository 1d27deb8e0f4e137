/-
  Contracts for the walks, several texts in one: each part says what it proves, and under which conditions.
-/
import Derived.Deep.RegionHeld
import Derived.Lib.Strings
import Derived.Lib.IndexLaws
import Derived.WalkSpells
import Derived.Shelf.Small.Wraps
import Derived.Shelf.LaysM
import Derived.Shelf.Strconv.Clone
import Derived.Ground.Names2Prog
import Derived.Shelf.Slices.SearchI
import Derived.Test.YtablcicfagmhpaaProg
import Derived.Laws.BitsAllLaws
import Derived.Lib.AppendStr
import Derived.Deep.DeepMust
import Derived.Deep.RegionLaw
import Derived.Deep.AppendLies
import Derived.Deep.DrawnRows
import Derived.Deep.DeepCutAuto
import Derived.Laws.AppendOwnNone
import Derived.Test.YtablcicfagmhpaaQ1

/-! Marks put into rows of needs, and found again, as the law does it: contracts for the walks; conditions: the rows lie in memory, may be written, and there are at most 2 to the 32 marks. -/
namespace Go.Proofs.Ytablcicfagmhpaa
open Go.RowKit
set_option linter.unusedSimpArgs false
set_option linter.unusedVariables false

set_option maxHeartbeats 2000000 in
set_option maxRecDepth 100000 in
theorem markNeedV_c (v : Value) (base n k : Nat) (xs : List Value) (w : World) (hv : w.ownsRow base 67 2 v n xs) (h1 : 1 ≤ k) (h2 : k + n * 2 ≤ 4294967296) :
    Calls Try.prog 22 #[v, .int .i64 (k : Int)] w fun e w' => e = .returned (.int .i64 ((k + n * 2 : Nat) : Int)) ∧ w'.ownsRow base 67 2 v n (strsV (marksS k (n * 2))) ∧ w.grownBy w' v.ownBlock := by
  rcases id hv.2 with ⟨rfl, rfl⟩ | ⟨g, cap, cur, rfl, _, hgb, hcap, hmax, _⟩
  · have hx : xs = [] := List.eq_nil_of_length_eq_zero (by simpa using hv.1)
    subst hx
    have HV := hidden hv
    clear hv
    go_enter Try.func22, Try.ntmps22
    go_wp2_with fail
    go_loopw [1, 5] (fun vk vi wr => vk = .int .i64 (k : Int) ∧ vi = .int .i64 0 ∧ wr = w) (fun _ _ _ => 0)
    case atStart => exact ⟨rfl, rfl, rfl⟩
    case round =>
      obtain ⟨rfl, rfl, rfl⟩ := hrel
      go_wp2_with fail
      go_ret
      exact ⟨by simp, HV.out, World.grownBy.refl _ _⟩
  · unfold maxLen at hmax
    have hl := hv.1
    clear hgb
    go_enter Try.func22, Try.ntmps22
    go_wp2_with fail
    go_loopw [1, 5] (fun vk vi wr => ∃ (i m : Nat) (ys : List Value), i ≤ n ∧ vi = .int .i64 (i : Int) ∧ vk = .int .i64 (m : Int) ∧ Hid (m = k + i * 2) ∧ wr.ownsRow base 67 2 (.slice (some ⟨g, 0, none⟩) n cap) n ys ∧ Hid (ys.length = n * 2 ∧ ∀ j, j < i * 2 → ys[j]? = (strsV (marksS k (n * 2)))[j]?) ∧ Hid (w.grownBy wr (some g))) (fun _ vi _ => n - (intOf vi).toNat)
    case atStart => exact ⟨0, k, xs, Nat.zero_le _, rfl, rfl, by show _ = _; omega, hv, ⟨hl, fun j hj => by omega⟩, World.grownBy.refl _ _⟩
    case round =>
      obtain ⟨i, m, ys, hi, rfl, rfl, hm, hown, hy, hgr⟩ := hrel
      by_cases hlt : i < n
      · have hlen := hown.1
        have hm2 : m + 2 ≤ 4294967296 := by have := hm.out; omega
        have hm1 : 1 ≤ m := by have := hm.out; omega
        have hki : (i : Int) < (n : Int) := by omega
        have HO := hidden hown
        have HM1 := hidden (fun w1 => markText_c m w1 (by omega) (by omega))
        have HM2 : Hid (∀ w1, Calls Try.prog 20 #[.int .i64 ((m : Int) + 1)] w1 fun e w' => e = .returned (.string (markStr (m + 1))) ∧ Below w1.heap.size w1 w') := fun w1 => by
          have := markText_c (m + 1) w1 (by omega) (by omega)
          rw [show ((m + 1 : Nat) : Int) = (m : Int) + 1 by omega] at this
          exact this
        have HY1 : Hid ((ys.set (i * 2) (.string (markStr m))).length = n * 2 ∧ ∀ j, j < i * 2 + 1 → (ys.set (i * 2) (.string (markStr m)))[j]? = (strsV (marksS k (n * 2)))[j]?) := set_step (by omega) hy.out (by rw [marksS_at _ _ _ (by omega), hm.out])
        have HY2 : Hid (((ys.set (i * 2) (.string (markStr m))).set (i * 2 + 1) (.string (markStr (m + 1)))).length = n * 2 ∧ ∀ j, j < i * 2 + 1 + 1 → ((ys.set (i * 2) (.string (markStr m))).set (i * 2 + 1) (.string (markStr (m + 1))))[j]? = (strsV (marksS k (n * 2)))[j]?) := set_step (by omega) HY1.out (by rw [marksS_at _ _ _ (by omega), hm.out]; congr 3)
        clear hown hv hy HY1
        go_wp2_with fail
        go_at_call 20
        refine (HM1.out _).mono ?_
        rintro e w1 ⟨rfl, b1⟩
        have r1 := HO.out.kept (grown_of_below b1 none) (by simp [Value.ownBlock])
        have d0 : ∃ x, w1.cell? ⟨g, i * 2, none⟩ = some x := ⟨ys.getD (i * 2) undef, by rw [r1.cellAt _ (by omega)]; simp [List.getD_eq_getElem?_getD, show i * 2 < ys.length by omega]⟩
        obtain ⟨x0, d0⟩ := d0
        have f1 := r1.frozenAt
        have r2 := r1.stored (i * 2) (.string (markStr m))
        have HR2 := hidden r2
        clear r1 r2
        go_wp2_with fail
        go_at_call 20
        refine (HM2.out _).mono ?_
        rintro e w2 ⟨rfl, b2⟩
        have r3 := HR2.out.1.kept (grown_of_below b2 none) (by simp [Value.ownBlock])
        have hl3 := r3.1
        have d1 : ∃ x, w2.cell? ⟨g, i * 2 + 1, none⟩ = some x := ⟨(ys.set (i * 2) (.string (markStr m))).getD (i * 2 + 1) undef, by rw [r3.cellAt _ (by omega)]; simp [List.getD_eq_getElem?_getD, show i * 2 + 1 < ys.length by omega]⟩
        obtain ⟨x1, d1⟩ := d1
        have f2 := r3.frozenAt
        have r4 := r3.stored (i * 2 + 1) (.string (markStr (m + 1)))
        have HR4 := hidden r4
        have HG := hidden (grown_trans (grown_trans (grown_trans (grown_trans hgr.out (grown_of_below b1 _)) HR2.out.2) (grown_of_below b2 _)) r4.2)
        clear r3 r4
        go_wp2_with fail
        go_roundw
        case rel => exact ⟨i + 1, m + 2, _, by omega, by go_num, by simp; omega, (by show _ = _; have := hm.out; omega), HR4.out.1, ⟨HY2.out.1, fun j hj => HY2.out.2 j (by omega)⟩, HG⟩
        case measure => simp [intOf]; omega
      · have he : i = n := by omega
        subst he
        have HMM := hidden hm.out
        have e : ys = strsV (marksS k (i * 2)) := list_done hy.out.1 (by simp) hy.out.2
        have HE := hidden e
        have HO := hidden hown
        clear hown hv e
        go_wp2_with fail
        go_ret
        refine ⟨by rw [← HMM.out]; rfl, ?_, hgr.out⟩
        rw [← HE.out]
        exact HO.out

set_option maxHeartbeats 2000000 in
set_option maxRecDepth 100000 in
theorem heldNeedS_c (v : Value) (base n k : Nat) (w : World) (hv : w.ownsRow base 67 2 v n (strsV (marksS k (n * 2)))) (h1 : 1 ≤ k) (h2 : k + n * 2 ≤ 4294967296) :
    Calls Try.prog 24 #[v, .int .i64 (k : Int)] w fun e w' => e = .returned (.int .i64 ((k + n * 2 : Nat) : Int)) ∧ Below w.heap.size w w' := by
  rcases id hv.2 with ⟨rfl, rfl⟩ | ⟨g, cap, cur, rfl, _, hgb, hcap, hmax, _⟩
  · clear hv
    go_enter Try.func24, Try.ntmps24
    go_wp2_with fail
    go_loopw [1, 5] (fun vk vi wr => vk = .int .i64 (k : Int) ∧ vi = .int .i64 0 ∧ wr = w) (fun _ _ _ => 0)
    case atStart => exact ⟨rfl, rfl, rfl⟩
    case round =>
      obtain ⟨rfl, rfl, rfl⟩ := hrel
      go_wp2_with fail
      go_ret
      exact ⟨by simp, Below.refl _ _⟩
  · unfold maxLen at hmax
    have hglt : g < w.heap.size := (Array.getElem?_eq_some_iff.1 hgb).1
    have hc : ∀ j, j < n * 2 → w.cell? ⟨g, j, none⟩ = some (.string (markStr (k + j))) := fun j hj => by rw [hv.cellAt j hj, marksS_at _ _ _ hj]
    clear hgb hv
    go_enter Try.func24, Try.ntmps24
    go_wp2_with fail
    go_loopw [1, 5] (fun vk vi wr => ∃ (i m : Nat), i ≤ n ∧ vi = .int .i64 (i : Int) ∧ vk = .int .i64 (m : Int) ∧ Hid (m = k + i * 2) ∧ Below w.heap.size w wr) (fun _ vi _ => n - (intOf vi).toNat)
    case atStart => exact ⟨0, k, Nat.zero_le _, rfl, rfl, by show _ = _; omega, Below.refl _ _⟩
    case round =>
      obtain ⟨i, m, hi, rfl, rfl, hm, hbr⟩ := hrel
      by_cases hlt : i < n
      · have hm2 : m + 2 ≤ 4294967296 := by have := hm.out; omega
        have hm1 : 1 ≤ m := by have := hm.out; omega
        have hki : (i : Int) < (n : Int) := by omega
        have HM1 := hidden (fun w1 => markText_c m w1 (by omega) (by omega))
        have HM2 : Hid (∀ w1, Calls Try.prog 20 #[.int .i64 ((m : Int) + 1)] w1 fun e w' => e = .returned (.string (markStr (m + 1))) ∧ Below w1.heap.size w1 w') := fun w1 => by
          have := markText_c (m + 1) w1 (by omega) (by omega)
          rw [show ((m + 1 : Nat) : Int) = (m : Int) + 1 by omega] at this
          exact this
        have KEEP : Hid (∀ w1, Below wr.heap.size wr w1 → w1.cell? ⟨g, i * 2, none⟩ = some (.string (markStr m)) ∧ w1.cell? ⟨g, i * 2 + 1, none⟩ = some (.string (markStr (m + 1)))) := fun w1 h => by
          have hb := hbr.trans (h.mono hbr.size)
          have e1 := hc (i * 2) (by omega)
          have e2 := hc (i * 2 + 1) (by omega)
          rw [← hm.out] at e1
          rw [show k + (i * 2 + 1) = m + 1 by have := hm.out; omega] at e2
          exact ⟨(hb.cell (p := ⟨g, _, none⟩) hglt).trans e1, (hb.cell (p := ⟨g, _, none⟩) hglt).trans e2⟩
        have h0 : Below wr.heap.size wr wr.drew := (Below.refl _ _).drew
        obtain ⟨M1, hM1⟩ : ∃ M, M = markStr m := ⟨_, rfl⟩
        obtain ⟨M2, hM2⟩ : ∃ M, M = markStr (m + 1) := ⟨_, rfl⟩
        simp only [← hM1] at HM1 KEEP
        simp only [← hM2] at HM2 KEEP
        clear hc hM1 hM2
        go_wp2_with fail
        refine wp_region_held_drew (S := (fun w' => w'.cell? ⟨g, i * 2, none⟩ = some (.string M1) ∧ w'.cell? ⟨g, i * 2 + 1, none⟩ = some (.string M2))) (by kernel_rfl) ?SR10 (fun hHeld => ?_)
        case SR10 => (first | (with_reducible exact KEEP.out _ h3) | (with_reducible exact KEEP.out _ h2) | (with_reducible exact KEEP.out _ h1) | (with_reducible exact KEEP.out _ h0))
        refine wpAnyH_take (i := 0) (oi := _) (v := ?vR10) rfl (by kernel_rfl) (by kernel_rfl) (by kernel_rfl) (fun _ _ _ h => h) (Or.inl ⟨by rfl, ?yR10⟩) hHeld ?_
        case yR10 => (intro w hSw; (try dsimp only at hSw); go_simp <;> with_reducible rfl)
        try simp only [Act.put, List.getElem_toArray, List.getElem_cons_zero, List.getElem_cons_succ, List.setIfInBounds_toArray, List.set_cons_zero, List.set_cons_succ]
        refine wpAnyH_take (i := 1) (oi := _) (v := ?vR11) rfl (by kernel_rfl) (by kernel_rfl) (by kernel_rfl) (fun _ _ _ h => h) (Or.inl ⟨by rfl, ?yR11⟩) hHeld ?_
        case yR11 => (intro w hSw; (try dsimp only at hSw); go_simp <;> with_reducible rfl)
        try simp only [Act.put, List.getElem_toArray, List.getElem_cons_zero, List.getElem_cons_succ, List.setIfInBounds_toArray, List.set_cons_zero, List.set_cons_succ]
        refine wpAnyH_take (i := 2) (oi := _) (v := ?vR12) rfl (by kernel_rfl) (by kernel_rfl) (by kernel_rfl) (fun _ _ _ h => h) (Or.inl ⟨by rfl, ?yR12⟩) hHeld ?_
        case yR12 => (intro w hSw; (try dsimp only at hSw); go_simp <;> with_reducible rfl)
        try simp only [Act.put, List.getElem_toArray, List.getElem_cons_zero, List.getElem_cons_succ, List.setIfInBounds_toArray, List.set_cons_zero, List.set_cons_succ]
        refine wpAnyH_take (i := 3) (oi := _) (v := ?vR13) rfl (by kernel_rfl) (by kernel_rfl) (by kernel_rfl) (fun _ _ _ h => h) (Or.inl ⟨by rfl, ?yR13⟩) hHeld ?_
        case yR13 => (intro w hSw; (try dsimp only at hSw); go_simp <;> with_reducible rfl)
        try simp only [Act.put, List.getElem_toArray, List.getElem_cons_zero, List.getElem_cons_succ, List.setIfInBounds_toArray, List.set_cons_zero, List.set_cons_succ]
        refine wpAnyH_take (i := 4) (oi := _) (v := ?vR14) rfl (by kernel_rfl) (by kernel_rfl) (by kernel_rfl) (fun _ _ _ h => h) (Or.inl ⟨by rfl, ?yR14⟩) hHeld ?_
        case yR14 => (intro w hSw; (try dsimp only at hSw); go_simp <;> with_reducible rfl)
        try simp only [Act.put, List.getElem_toArray, List.getElem_cons_zero, List.getElem_cons_succ, List.setIfInBounds_toArray, List.set_cons_zero, List.set_cons_succ]
        refine wpAnyH_take (i := 5) (oi := _) (v := ?vR15) rfl (by kernel_rfl) (by kernel_rfl) (by kernel_rfl) (fun _ _ _ h => h) (Or.inl ⟨by rfl, ?yR15⟩) hHeld ?_
        case yR15 => (intro w hSw; (try dsimp only at hSw); go_simp <;> with_reducible rfl)
        try simp only [Act.put, List.getElem_toArray, List.getElem_cons_zero, List.getElem_cons_succ, List.setIfInBounds_toArray, List.set_cons_zero, List.set_cons_succ]
        refine wpAnyH_ready (rs := [6]) (by kernel_rfl) (by simp) ?_
        refine AllReadyH.cons rfl (fun K hK => ?_) AllReadyH.nil
        go_simp
        go_wp2_with (go_at_call 20; refine (HM1.out _).mono ?_; rintro e w1 ⟨rfl, b1⟩; have h1 : Below wr.heap.size wr w1 := h0.trans (b1.mono h0.size))
        clear hHeld
        refine hK.out _ _ ?SR17 (fun hHeld => ?_)
        case SR17 => ((try dsimp only); first | (with_reducible exact KEEP.out _ h3) | (with_reducible exact KEEP.out _ h2) | (with_reducible exact KEEP.out _ h1) | (with_reducible exact KEEP.out _ h0))
        clear hK K
        refine wpAnyH_take (i := 7) (oi := _) (v := ?vR17) rfl (by kernel_rfl) (by kernel_rfl) (by kernel_rfl) (fun _ _ _ h => h) (Or.inl ⟨by rfl, ?yR17⟩) hHeld ?_
        case yR17 => (intro w hSw; (try dsimp only at hSw); go_simp <;> with_reducible rfl)
        try simp only [Act.put, List.getElem_toArray, List.getElem_cons_zero, List.getElem_cons_succ, List.setIfInBounds_toArray, List.set_cons_zero, List.set_cons_succ]
        refine wpAnyH_done (by kernel_rfl) ?_ _
        have h2 : Below wr.heap.size wr w1.drew := h1.drew
        go_wp2_with fail
        refine wp_region_held_drew (S := (fun w' => w'.cell? ⟨g, i * 2, none⟩ = some (.string M1) ∧ w'.cell? ⟨g, i * 2 + 1, none⟩ = some (.string M2))) (by kernel_rfl) ?SR20 (fun hHeld => ?_)
        case SR20 => (first | (with_reducible exact KEEP.out _ h3) | (with_reducible exact KEEP.out _ h2) | (with_reducible exact KEEP.out _ h1) | (with_reducible exact KEEP.out _ h0))
        refine wpAnyH_take (i := 0) (oi := _) (v := ?vR20) rfl (by kernel_rfl) (by kernel_rfl) (by kernel_rfl) (fun _ _ _ h => h) (Or.inl ⟨by rfl, ?yR20⟩) hHeld ?_
        case yR20 => (intro w hSw; (try dsimp only at hSw); go_simp <;> with_reducible rfl)
        try simp only [Act.put, List.getElem_toArray, List.getElem_cons_zero, List.getElem_cons_succ, List.setIfInBounds_toArray, List.set_cons_zero, List.set_cons_succ]
        refine wpAnyH_take (i := 1) (oi := _) (v := ?vR21) rfl (by kernel_rfl) (by kernel_rfl) (by kernel_rfl) (fun _ _ _ h => h) (Or.inl ⟨by rfl, ?yR21⟩) hHeld ?_
        case yR21 => (intro w hSw; (try dsimp only at hSw); go_simp <;> with_reducible rfl)
        try simp only [Act.put, List.getElem_toArray, List.getElem_cons_zero, List.getElem_cons_succ, List.setIfInBounds_toArray, List.set_cons_zero, List.set_cons_succ]
        refine wpAnyH_take (i := 2) (oi := _) (v := ?vR22) rfl (by kernel_rfl) (by kernel_rfl) (by kernel_rfl) (fun _ _ _ h => h) (Or.inl ⟨by rfl, ?yR22⟩) hHeld ?_
        case yR22 => (intro w hSw; (try dsimp only at hSw); go_simp <;> with_reducible rfl)
        try simp only [Act.put, List.getElem_toArray, List.getElem_cons_zero, List.getElem_cons_succ, List.setIfInBounds_toArray, List.set_cons_zero, List.set_cons_succ]
        refine wpAnyH_take (i := 3) (oi := _) (v := ?vR23) rfl (by kernel_rfl) (by kernel_rfl) (by kernel_rfl) (fun _ _ _ h => h) (Or.inl ⟨by rfl, ?yR23⟩) hHeld ?_
        case yR23 => (intro w hSw; (try dsimp only at hSw); go_simp <;> with_reducible rfl)
        try simp only [Act.put, List.getElem_toArray, List.getElem_cons_zero, List.getElem_cons_succ, List.setIfInBounds_toArray, List.set_cons_zero, List.set_cons_succ]
        refine wpAnyH_take (i := 4) (oi := _) (v := ?vR24) rfl (by kernel_rfl) (by kernel_rfl) (by kernel_rfl) (fun _ _ _ h => h) (Or.inl ⟨by rfl, ?yR24⟩) hHeld ?_
        case yR24 => (intro w hSw; (try dsimp only at hSw); go_simp <;> with_reducible rfl)
        try simp only [Act.put, List.getElem_toArray, List.getElem_cons_zero, List.getElem_cons_succ, List.setIfInBounds_toArray, List.set_cons_zero, List.set_cons_succ]
        refine wpAnyH_take (i := 5) (oi := _) (v := ?vR25) rfl (by kernel_rfl) (by kernel_rfl) (by kernel_rfl) (fun _ _ _ h => h) (Or.inl ⟨by rfl, ?yR25⟩) hHeld ?_
        case yR25 => (intro w hSw; (try dsimp only at hSw); go_simp <;> with_reducible rfl)
        try simp only [Act.put, List.getElem_toArray, List.getElem_cons_zero, List.getElem_cons_succ, List.setIfInBounds_toArray, List.set_cons_zero, List.set_cons_succ]
        refine wpAnyH_ready (rs := [6]) (by kernel_rfl) (by simp) ?_
        refine AllReadyH.cons rfl (fun K hK => ?_) AllReadyH.nil
        go_simp
        go_wp2_with (go_at_call 20; refine (HM2.out _).mono ?_; rintro e w2 ⟨rfl, b2⟩; have h3 : Below wr.heap.size wr w2 := h2.trans (b2.mono h2.size))
        clear hHeld
        refine hK.out _ _ ?SR27 (fun hHeld => ?_)
        case SR27 => ((try dsimp only); first | (with_reducible exact KEEP.out _ h3) | (with_reducible exact KEEP.out _ h2) | (with_reducible exact KEEP.out _ h1) | (with_reducible exact KEEP.out _ h0))
        clear hK K
        refine wpAnyH_take (i := 7) (oi := _) (v := ?vR27) rfl (by kernel_rfl) (by kernel_rfl) (by kernel_rfl) (fun _ _ _ h => h) (Or.inl ⟨by rfl, ?yR27⟩) hHeld ?_
        case yR27 => (intro w hSw; (try dsimp only at hSw); go_simp <;> with_reducible rfl)
        try simp only [Act.put, List.getElem_toArray, List.getElem_cons_zero, List.getElem_cons_succ, List.setIfInBounds_toArray, List.set_cons_zero, List.set_cons_succ]
        refine wpAnyH_done (by kernel_rfl) ?_ _
        go_wp2_with fail
        go_roundw
        case rel => exact ⟨i + 1, m + 2, by omega, by go_num, by simp; omega, (by show _ = _; have := hm.out; omega), hbr.trans (h3.mono hbr.size)⟩
        case measure => simp [intOf]; omega
      · have he : i = n := by omega
        subst he
        have HMM := hidden hm.out
        clear hc
        go_wp2_with fail
        go_ret
        exact ⟨by rw [← HMM.out]; rfl, hbr⟩
end Go.Proofs.Ytablcicfagmhpaa

/-! Entries that lie in memory: what they are: no condition. -/
namespace Go.Proofs.Ytablcicfagmhpaa
open Go.RowKit
set_option linter.unusedSimpArgs false
set_option linter.unusedVariables false

structure EntryD where
  name : ByteArray
  vA : Int
  vB : Int
  vC : Int
  vP : List ByteArray
  needs : List NeedD
def wtEntry (d : EntryD) : Nat := d.name.size + bulkS d.vP + wtRow wtNeed d.needs
def shEntry : Sh EntryD where
  n := 6
  lies S w cs d := ∃ u0 u1, cs = [.string d.name, .int .i64 d.vA, .int .i64 d.vB, .int .i64 d.vC, u0, u1] ∧ d.name.size ≤ maxLen ∧ RdB S w u0 (strsV d.vP) ∧ saneP d.vP ∧ RowIn shNeed S w u1 d.needs
  keep hk h := by obtain ⟨u0, u1, h0, h1, h2, h3, h4⟩ := h; exact ⟨u0, u1, h0, h1, h2.keep hk, h3, h4.keep hk⟩
  mono hS h := by obtain ⟨u0, u1, h0, h1, h2, h3, h4⟩ := h; exact ⟨u0, u1, h0, h1, h2.mono hS, h3, h4.mono hS⟩
def shEntryO : Sh EntryD where
  n := 6
  lies S w cs d := ∃ u0 u1, cs = [.string d.name, .int .i64 d.vA, .int .i64 d.vB, .int .i64 d.vC, u0, u1] ∧ d.name.size ≤ maxLen ∧ StrsOwn S w u0 d.vP ∧ saneP d.vP ∧ RowOwn shNeed 67 S w u1 d.needs
  keep hk h := by obtain ⟨u0, u1, h0, h1, h2, h3, h4⟩ := h; exact ⟨u0, u1, h0, h1, h2.keep hk, h3, h4.keep hk⟩
  mono hS h := by obtain ⟨u0, u1, h0, h1, h2, h3, h4⟩ := h; exact ⟨u0, u1, h0, h1, h2.mono hS, h3, h4.mono hS⟩
theorem liesEntry_plain {S : Nat → Prop} {w : World} {cs : List Value} {d : EntryD} (h : shEntryO.lies S w cs d) : shEntry.lies S w cs d := by
  obtain ⟨u0, u1, e0, s_name, r0, p0, r1⟩ := h
  exact ⟨u0, u1, e0, s_name, r0.plain, p0, r1.plain⟩
end Go.Proofs.Ytablcicfagmhpaa

/-! Copies in memory of their own, as the law makes them: contracts for the walks; condition: what is copied holds at most 2 to the 20. -/
namespace Go.Proofs.Ytablcicfagmhpaa
open Go.RowKit
set_option linter.unusedSimpArgs false
set_option linter.unusedVariables false

set_option maxHeartbeats 2000000 in
set_option maxRecDepth 100000 in
theorem toVerO_c (a b c : Int) (u : Value) (ps : List ByteArray) (w : World) (hu : Reads w u (strsV ps)) (hn : ps.length ≤ 1048576) :
    Calls Try.prog 29 #[.agg #[.int .i64 a, .int .i64 b, .int .i64 c, u]] w fun e w' => ∃ g, e = .returned (.agg #[.int .i64 a, .int .i64 b, .int .i64 c, .slice (some ⟨g, 0, none⟩) ps.length ps.length]) ∧ StrsOwn (Ow w.heap.size w'.heap.size) w' (.slice (some ⟨g, 0, none⟩) ps.length ps.length) ps ∧ Below w.heap.size w w' := by
  have huA : ∀ w1, Below w.heap.size w w1 → Reads w1 u (strsV ps) := fun w1 h1 => hu.below h1
  obtain ⟨q, cap, rfl, _, _⟩ := reads_strs hu
  clear hu
  go_enter Try.func29, Try.ntmps29
  have hb3 : ∀ A R O, Below w.heap.size w (((w.alloc A).alloc R).alloc O) := fun A R O => (((Below.refl _ _).alloc (Nat.le_refl _) _).alloc (by simp) _).alloc (by simp; omega) _
  go_wp2_with (
    go_at_call 44
    refine (toStrs_c _ ps _ (huA _ (hb3 _ _ _)) (by omega)).mono ?_
    rintro e w1 ⟨g, rfl, hM, hb1⟩
    obtain ⟨hA, hR, hO⟩ := vthree hb1
    have o0 := vblk_cell hO 0
    have o1 := vblk_cell hO 1
    have o2 := vblk_cell hO 2
    have o3 := vblk_cell hO 3
    have r0 := vblk_cell hR 0
    have r1 := vblk_cell hR 1
    have r2 := vblk_cell hR 2
    have r3 := vblk_cell hR 3
    have fo := vblk_frozen hO
    have fr := vblk_frozen hR
    simp only [List.getElem?_toArray, List.getElem?_cons_succ, List.getElem?_cons_zero] at o0 o1 o2 o3 r0 r1 r2 r3)
  have s3 : ∀ A R O, (((w.alloc A).alloc R).alloc O).heap.size = w.heap.size + 1 + 1 + 1 := fun A R O => by simp
  rw [s3] at hb1 hM
  have hN : w.heap.size + 1 + 1 + 1 ≤ w1.heap.size := by have := hb1.size; rw [s3] at this; exact this
  refine bodyPost_ret (v := .agg #[.int .i64 a, .int .i64 b, .int .i64 c, .slice (some ⟨g, 0, none⟩) ps.length ps.length]) (by simp [results, Try.results29, go_sem, o0, o1, o2, o3, r0, r1, r2, r3]) rfl ⟨_, rfl, ?_, ?_⟩
  · have hX : ∀ {W : World}, W.ownsRow (w.heap.size + 1 + 1 + 1) 9 1 (.slice (some ⟨g, 0, none⟩) ps.length ps.length) ps.length (strsV ps) → StrsOwn (Ow w.heap.size W.heap.size) W (.slice (some ⟨g, 0, none⟩) ps.length ps.length) ps := fun h => ⟨owns_lo (Nat.zero_le _) h, fun b hb => Ow.mono (by omega) (Nat.le_refl _) b (owns_in h b hb)⟩
    refine hX ?_
    refine owns_set (owns_set (owns_set (owns_set (owns_set hM ?_ _) ?_ _) ?_ _) ?_ _) ?_ _ <;> simp
  · have b1 := ((hb3 _ _ _).trans (hb1.mono (by omega)))
    refine Below.setCell (Below.setCell (Below.setCell (Below.setCell (Below.setCell b1 ?_ _) ?_ _) ?_ _) ?_ _) ?_ _ <;> simp <;> omega

set_option maxHeartbeats 2000000 in
set_option maxRecDepth 100000 in
theorem toEntry_c (S : Nat → Prop) (d : EntryD) (cs : List Value) (w : World) (hd : shEntry.lies S w cs d) (hB : ∀ b, S b → b < w.heap.size) (hw : wtEntry d ≤ 1048576) :
    Calls Try.prog 14 #[.agg cs.toArray] w fun e w' => ∃ cs', e = .returned (.agg cs'.toArray) ∧ shEntryO.lies (Ow w.heap.size w'.heap.size) w' cs' d ∧ Below w.heap.size w w' := by
  obtain ⟨u0, u1, rfl, s_name, r0, p0, r1⟩ := hd
  have hb3 : ∀ A R O, Below w.heap.size w (((w.alloc A).alloc R).alloc O) := fun A R O => (((Below.refl _ _).alloc (Nat.le_refl _) _).alloc (by simp) _).alloc (by simp; omega) _
  unfold wtEntry at hw
  have HS0 : Hid (∀ w1, Below w.heap.size w w1 → Calls Try.prog 29 #[.agg #[.int .i64 d.vA, .int .i64 d.vB, .int .i64 d.vC, u0]] w1 fun e w' => ∃ g, e = .returned (.agg #[.int .i64 d.vA, .int .i64 d.vB, .int .i64 d.vC, .slice (some ⟨g, 0, none⟩) d.vP.length d.vP.length]) ∧ StrsOwn (Ow w1.heap.size w'.heap.size) w' (.slice (some ⟨g, 0, none⟩) d.vP.length d.vP.length) d.vP ∧ Below w1.heap.size w1 w') := fun w1 hb =>
    toVerO_c _ _ _ u0 d.vP w1 ((r0.keep (.of hb hB)).reads (fun b h => Nat.lt_of_lt_of_le (hB b h) hb.size)) (by unfold bulkS at hw; omega)
  have HS1 : Hid (∀ w1, Below w.heap.size w w1 → Calls Try.prog 30 #[u1] w1 fun e w' => ∃ g, e = .returned (.slice (some ⟨g, 0, none⟩) d.needs.length d.needs.length) ∧ RowOwn shNeed 67 (Ow w1.heap.size w'.heap.size) w' (.slice (some ⟨g, 0, none⟩) d.needs.length d.needs.length) d.needs ∧ Below w1.heap.size w1 w') := fun w1 hb =>
    toNeedS_c S u1 d.needs w1 (r1.keep (.of hb hB)) (fun b h => Nat.lt_of_lt_of_le (hB b h) hb.size) (by omega)
  obtain ⟨a0, cap0, eu0, _⟩ := id r0
  rw [length_strsV] at eu0
  subst eu0
  clear r0
  obtain ⟨a1, cap1, eu1, _⟩ := id r1
  subst eu1
  clear r1
  go_enter Try.func14, Try.ntmps14
  go_wp2_with fail
  go_at_call 29
  refine (HS0.out _ (hb3 _ _ _)).mono ?_
  rintro e w1 ⟨g1, rfl, R0, b1⟩
  obtain ⟨hA1, hR1, hO1⟩ := vthree b1
  have s3 : ∀ A R O, (((w.alloc A).alloc R).alloc O).heap.size = w.heap.size + 1 + 1 + 1 := fun A R O => by simp
  rw [s3] at b1 R0
  have m1 : w.heap.size + 3 ≤ w1.heap.size := by have := b1.size; rw [s3] at this; omega
  have kw1 : Below w.heap.size w w1 := (hb3 _ _ _).trans (b1.mono (by omega))
  replace R0 := R0.mono (S' := Ow (w.heap.size + 3) w1.heap.size) (Ow.mono (by omega) (Nat.le_refl _))
  have m1' : w.heap.size + 3 ≤ w1.heap.size := by omega
  have o0 := vblk_cell hO1 0
  have q0 := vblk_cell hR1 0
  have y0 := vblk_cell hA1 0
  have o1 := vblk_cell hO1 1
  have q1 := vblk_cell hR1 1
  have y1 := vblk_cell hA1 1
  have o2 := vblk_cell hO1 2
  have q2 := vblk_cell hR1 2
  have y2 := vblk_cell hA1 2
  have o3 := vblk_cell hO1 3
  have q3 := vblk_cell hR1 3
  have y3 := vblk_cell hA1 3
  have o4 := vblk_cell hO1 4
  have q4 := vblk_cell hR1 4
  have y4 := vblk_cell hA1 4
  have o5 := vblk_cell hO1 5
  have q5 := vblk_cell hR1 5
  have y5 := vblk_cell hA1 5
  have fo := vblk_frozen hO1
  have fr := vblk_frozen hR1
  simp only [List.getElem?_toArray, List.getElem?_cons_succ, List.getElem?_cons_zero, List.setIfInBounds_toArray, List.set_cons_succ, List.set_cons_zero] at o0 q0 y0 o1 q1 y1 o2 q2 y2 o3 q3 y3 o4 q4 y4 o5 q5 y5
  have k1 : Below w.heap.size w ((((w1.setCell ⟨w.heap.size + 1 + 1, 1, none⟩ (.int .i64 d.vA)).setCell ⟨w.heap.size + 1 + 1, 2, none⟩ (.int .i64 d.vB)).setCell ⟨w.heap.size + 1 + 1, 3, none⟩ (.int .i64 d.vC)).setCell ⟨w.heap.size + 1 + 1, 4, none⟩ (.slice (some ⟨g1, 0, none⟩) d.vP.length d.vP.length)) := (Below.setCell (Below.setCell (Below.setCell (Below.setCell kw1 (by simp; omega) _) (by simp; omega) _) (by simp; omega) _) (by simp; omega) _)
  go_wp2_with fail
  go_at_call 30
  refine (HS1.out _ k1).mono ?_
  rintro e w2 ⟨g2, rfl, R1, b2⟩
  have hA2 := (b2.block w.heap.size (by simp [World.setCell]; omega)).trans ((Below.heap_setCell _ _ _ _ (by simp <;> omega)).trans ((Below.heap_setCell _ _ _ _ (by simp <;> omega)).trans ((Below.heap_setCell _ _ _ _ (by simp <;> omega)).trans ((Below.heap_setCell _ _ _ _ (by simp <;> omega)).trans (hA1)))))
  have hR2 := (b2.block (w.heap.size + 1) (by simp [World.setCell]; omega)).trans ((Below.heap_setCell _ _ _ _ (by simp <;> omega)).trans ((Below.heap_setCell _ _ _ _ (by simp <;> omega)).trans ((Below.heap_setCell _ _ _ _ (by simp <;> omega)).trans ((Below.heap_setCell _ _ _ _ (by simp <;> omega)).trans (hR1)))))
  have hO2 := (b2.block (w.heap.size + 1 + 1) (by simp [World.setCell]; omega)).trans (heap_setCell_same _ _ _ _ _ _ (heap_setCell_same _ _ _ _ _ _ (heap_setCell_same _ _ _ _ _ _ (heap_setCell_same _ _ _ _ _ _ hO1))))
  have m2 : w1.heap.size ≤ w2.heap.size := by have := b2.size; simpa [World.setCell] using this
  have kw2 : Below w.heap.size w w2 := k1.trans (b2.mono k1.size)
  replace R1 := R1.mono (S' := Ow (w.heap.size + 3) w2.heap.size) (Ow.mono (by simp [World.setCell]; omega) (Nat.le_refl _))
  replace R0 := (R0.keep (((((Kp.set (Ow.not (by omega))).trans (Kp.set (Ow.not (by omega)))).trans (Kp.set (Ow.not (by omega)))).trans (Kp.set (Ow.not (by omega)))).trans (Kp.of b2 (fun b h => by have := h.2; simp [World.setCell]; omega)))).mono (S' := Ow (w.heap.size + 3) w2.heap.size) (Ow.mono (Nat.le_refl _) (by omega))
  have m2' : w.heap.size + 3 ≤ w2.heap.size := by omega
  have o0 := vblk_cell hO2 0
  have q0 := vblk_cell hR2 0
  have y0 := vblk_cell hA2 0
  have o1 := vblk_cell hO2 1
  have q1 := vblk_cell hR2 1
  have y1 := vblk_cell hA2 1
  have o2 := vblk_cell hO2 2
  have q2 := vblk_cell hR2 2
  have y2 := vblk_cell hA2 2
  have o3 := vblk_cell hO2 3
  have q3 := vblk_cell hR2 3
  have y3 := vblk_cell hA2 3
  have o4 := vblk_cell hO2 4
  have q4 := vblk_cell hR2 4
  have y4 := vblk_cell hA2 4
  have o5 := vblk_cell hO2 5
  have q5 := vblk_cell hR2 5
  have y5 := vblk_cell hA2 5
  have fo := vblk_frozen hO2
  have fr := vblk_frozen hR2
  simp only [List.getElem?_toArray, List.getElem?_cons_succ, List.getElem?_cons_zero, List.setIfInBounds_toArray, List.set_cons_succ, List.set_cons_zero] at o0 q0 y0 o1 q1 y1 o2 q2 y2 o3 q3 y3 o4 q4 y4 o5 q5 y5
  go_wp2_with fail
  refine bodyPost_ret (v := .agg #[.string d.name, .int .i64 d.vA, .int .i64 d.vB, .int .i64 d.vC, .slice (some ⟨g1, 0, none⟩) d.vP.length d.vP.length, .slice (some ⟨g2, 0, none⟩) d.needs.length d.needs.length]) (by simp [results, Try.results14, go_sem, o0, q0, o1, q1, o2, q2, o3, q3, o4, q4, o5, q5]) rfl ⟨[.string d.name, .int .i64 d.vA, .int .i64 d.vB, .int .i64 d.vC, .slice (some ⟨g1, 0, none⟩) d.vP.length d.vP.length, .slice (some ⟨g2, 0, none⟩) d.needs.length d.needs.length], rfl, ?_, ?_⟩
  · have hS : ∀ {W : World}, w2.heap.size ≤ W.heap.size → ∀ b, Ow (w.heap.size + 3) w2.heap.size b → Ow w.heap.size W.heap.size b := fun h => Ow.mono (by omega) h
    refine ⟨_, _, rfl, s_name, (R0.keep ?_).mono (hS ?_), p0, (R1.keep ?_).mono (hS ?_)⟩
    all_goals first
      | (simp [World.setCell]; done)
      | ((repeat (refine Kp.trans ?_ (Kp.set (Ow.not (by omega))))); exact fun b hb => rfl)
  · refine ?_
    (repeat (refine Below.setCell ?_ (by simp <;> omega) _))
    exact kw2

set_option maxHeartbeats 2000000 in
set_option maxRecDepth 100000 in
theorem infoEntry : (Try.prog.info? 40).map (fun i => (i.zero, i.size, i.bytes)) = some (some (.agg #[.string ⟨#[]⟩, .int .i64 0, .int .i64 0, .int .i64 0, .slice none 0 0, .slice none 0 0]), 6, 88) := by kernel_rfl
set_option maxHeartbeats 2000000 in
set_option maxRecDepth 100000 in
theorem toEntryS_c (S : Nat → Prop) (v : Value) (xs : List EntryD) (w : World) (hv : RowIn shEntry S w v xs) (hB : ∀ b, S b → b < w.heap.size) (hw : wtRow wtEntry xs ≤ 1048576) :
    Calls Try.prog 6 #[v] w fun e w' => ∃ g, e = .returned (.slice (some ⟨g, 0, none⟩) xs.length xs.length) ∧ RowOwn shEntryO 40 (Ow w.heap.size w'.heap.size) w' (.slice (some ⟨g, 0, none⟩) xs.length xs.length) xs ∧ Below w.heap.size w w' := by
  obtain ⟨a, cap, rfl, hl, hc, ha⟩ := hv
  have hn := len_wtRow wtEntry xs
  have hlm : xs.length ≤ maxLen := hl
  unfold maxLen at hl
  obtain ⟨i0, hi, hz0, hz1, hz2⟩ := info_parts infoEntry
  go_enter Try.func6, Try.ntmps6
  go_wp2_with (first
    | (at_make; refine wpList_make_full _ rfl _ _ 24 rfl w.heap.size 40 i0 _ 6 Try.underlying24 hi hz0 hz1 _ _ _ _ xs.length rfl rfl rfl rfl (by rw [hz2]; omega) (by unfold maxLen; omega) (Nat.le_refl _) ?_))
  intro w1 hown hgrow
  have hb1 := below_of_grown hgrow
  have hs1 : w.heap.size + 1 ≤ w1.heap.size := by
    rcases hown.2 with ⟨h, _⟩ | ⟨g, cap, cur, h, _, hg, _⟩
    · simp at h
    · simp at h
      have := (Array.getElem?_eq_some_iff.1 hg).1
      omega
  obtain ⟨ys1, hown1⟩ : ∃ ys, w1.ownsRow w.heap.size 40 6 (.slice (some ⟨w.heap.size, 0, none⟩) xs.length xs.length) xs.length ys := ⟨_, hown⟩
  clear hgrow hown
  go_wp2_with fail
  go_loopw [4] (fun vi wr => ∃ (k : Nat) (ys : List Value), k ≤ xs.length ∧ vi = .int .i64 (k : Int) ∧ wr.ownsRow w.heap.size 40 6 (.slice (some ⟨w.heap.size, 0, none⟩) xs.length xs.length) xs.length ys ∧ Hid (Laid shEntryO (Ow (w.heap.size + 1) wr.heap.size) wr ys xs k) ∧ Below w.heap.size w wr ∧ w.heap.size + 1 ≤ wr.heap.size) (fun vi _ => xs.length - (intOf vi).toNat)
  case atStart => exact ⟨0, ys1, Nat.zero_le _, rfl, hown1, (fun i h h0 => by omega), hb1, hs1⟩
  case round =>
    obtain ⟨k, ys, hk, rfl, hownr, hy, hbr, hsr⟩ := hrel
    by_cases hlt' : k < xs.length
    · rcases ha with rfl | ⟨b, off, rfl, hlt, ha⟩
      · simp at hlt'
      obtain ⟨cs, hL, hcell⟩ := ha k hlt'
      have hL2 := shEntry.keep (.of hbr hB) hL
      have hcell2 := hcell.keep (.of hbr hB) hlt
      have hBr : ∀ b, S b → b < wr.heap.size := fun b h => Nat.lt_of_lt_of_le (hB b h) hbr.size
      have hwt : wtEntry xs[k] ≤ 1048576 := by have := wt_wtRow wtEntry (List.getElem_mem hlt'); omega
      have hown2 : ∀ w2, Below wr.heap.size wr w2 → w2.ownsRow w.heap.size 40 6 (.slice (some ⟨w.heap.size, 0, none⟩) xs.length xs.length) xs.length ys := fun w2 h2 => hownr.kept (grown_of_below h2 none) (by simp [Value.ownBlock])
      have hlen := hownr.1
      have HC : Hid (∀ w2, Below wr.heap.size wr w2 → ∀ j, j < 6 → ∃ x, w2.cell? ⟨w.heap.size, k * 6 + j, none⟩ = some x) := fun w2 h2 j hj => ⟨ys.getD (k * 6 + j) undef, by rw [(hown2 w2 h2).cellAt _ (by omega)]; simp [List.getD_eq_getElem?_getD, show k * 6 + j < ys.length by omega]⟩
      have HF : Hid (∀ w2, Below wr.heap.size wr w2 → ∀ j, w2.frozen? ⟨w.heap.size, j, none⟩ = false) := fun w2 h2 j => (hown2 w2 h2).frozenAt j
      have HO : Hid (∀ w2, Below wr.heap.size wr w2 → w2.ownsRow w.heap.size 40 6 (.slice (some ⟨w.heap.size, 0, none⟩) xs.length xs.length) xs.length ys) := hown2
      have HST : Hid (∀ w2 cs, Below wr.heap.size wr w2 → cs.length = 6 → shEntryO.lies (Ow (w.heap.size + 1) w2.heap.size) w2 cs xs[k] → Laid shEntryO (Ow (w.heap.size + 1) (setW w2 w.heap.size (k * 6) cs).heap.size) (setW w2 w.heap.size (k * 6) cs) (putL ys (k * 6) cs) xs (k + 1)) := fun w2 cs h2 hc hr => hy.out.step (sh := shEntryO) hlt' hlen h2 (by omega) hc hr
      obtain ⟨d, hd⟩ : ∃ d, d = xs[k] := ⟨_, rfl⟩
      rw [← hd] at hL2 hwt HST
      have HC1 := toEntry_c S d cs wr hL2 hBr hwt
      clear ha hL hcell hd hown2 hi hz0 hz1 hz2 hown1 hb1 hlen hwt
      obtain ⟨u0, u1, rfl, s_name, r0, p0, r1⟩ := hL2
      clear s_name p0
      obtain ⟨a0, cap0, eu0, _⟩ := id r0
      rw [length_strsV] at eu0
      subst eu0
      clear r0
      obtain ⟨a1, cap1, eu1, _⟩ := id r1
      subst eu1
      clear r1
      have e0 : wr.cell? ⟨b, off + k * 6, none⟩ = some (.string d.name) := hcell2 0 (by simp)
      have e1 : wr.cell? ⟨b, off + k * 6 + 1, none⟩ = some (.int .i64 d.vA) := hcell2 1 (by simp)
      have e2 : wr.cell? ⟨b, off + k * 6 + 2, none⟩ = some (.int .i64 d.vB) := hcell2 2 (by simp)
      have e3 : wr.cell? ⟨b, off + k * 6 + 3, none⟩ = some (.int .i64 d.vC) := hcell2 3 (by simp)
      have e4 : wr.cell? ⟨b, off + k * 6 + 4, none⟩ = some (.slice a0 d.vP.length cap0) := hcell2 4 (by simp)
      have e5 : wr.cell? ⟨b, off + k * 6 + 5, none⟩ = some (.slice a1 d.needs.length cap1) := hcell2 5 (by simp)
      have HC2 := hidden HC1
      have hki : (k : Int) < (xs.length : Int) := by omega
      clear hcell2 HC1
      go_wp2_with (go_at_call 14; refine HC2.out.mono ?_; rintro e w2 ⟨cs, rfl, hX, hb2⟩; have HX := hidden (HST.out w2 cs hb2 (by have h := hX; obtain ⟨u0, u1, h9, s_name, r0, p0, r1⟩ := h; rw [h9]; rfl) (shEntryO.mono (Ow.mono hsr (Nat.le_refl _)) hX)); obtain ⟨u0, u1, rfl, s_name, z0, p0, z1⟩ := hX; obtain ⟨b0, bap0, ev0⟩ := z0.slice; subst ev0; obtain ⟨b1, bap1, ev1⟩ := z1.slice; subst ev1; obtain ⟨y0, d0⟩ := HC.out w2 hb2 0 (by omega); obtain ⟨y1, d1⟩ := HC.out w2 hb2 1 (by omega); obtain ⟨y2, d2⟩ := HC.out w2 hb2 2 (by omega); obtain ⟨y3, d3⟩ := HC.out w2 hb2 3 (by omega); obtain ⟨y4, d4⟩ := HC.out w2 hb2 4 (by omega); obtain ⟨y5, d5⟩ := HC.out w2 hb2 5 (by omega); rw [Nat.add_zero] at d0; have f9 := HF.out w2 hb2)
      go_roundw
      case rel =>
        refine ⟨k + 1, _, by omega, by go_num, setW_owns [.string d.name, .int .i64 d.vA, .int .i64 d.vB, .int .i64 d.vC, .slice b0 d.vP.length bap0, .slice b1 d.needs.length bap1] w2 ys (k * 6) (HO.out w2 hb2), HX.out, setW_below (Nat.le_refl _) [.string d.name, .int .i64 d.vA, .int .i64 d.vB, .int .i64 d.vC, .slice b0 d.vP.length bap0, .slice b1 d.needs.length bap1] w2 w (k * 6) (hbr.trans (hb2.mono hbr.size)), ?_⟩
        have h9 := setW_size [.string d.name, .int .i64 d.vA, .int .i64 d.vB, .int .i64 d.vC, .slice b0 d.vP.length bap0, .slice b1 d.needs.length bap1] w2 w.heap.size (k * 6)
        have := hb2.size
        exact Nat.le_trans (show w.heap.size + 1 ≤ w2.heap.size by omega) (Nat.le_of_eq h9.symm)
      case measure => simp [intOf]; omega
    · have he : k = xs.length := by omega
      subst he
      clear ha
      go_wp2_with fail
      go_ret
      exact ⟨_, rfl, rowOwn_of hownr hlm hy.out, hbr⟩

end Go.Proofs.Ytablcicfagmhpaa

/-! Marks put into versions and entries, and found again, as the law does it: contracts for the walks; conditions: their rows lie in memory, may be written, and there are at most 2 to the 32 marks. -/
namespace Go.Proofs.Ytablcicfagmhpaa
open Go.RowKit
set_option linter.unusedSimpArgs false
set_option linter.unusedVariables false

theorem chg_grown {w w' : World} {v : Value} (h : Chg (fun b => v.ownBlock = some b) w w') : w.grownBy w' v.ownBlock := ⟨h.os, h.tape, h.output, h.size, fun i hi hne => h.block i hi (fun k => hne k.symm)⟩
end Go.Proofs.Ytablcicfagmhpaa

/-! Marks put into rows of entries, as the law puts them: a contract for the walks; conditions: the rows lie in memory, may be written, and there are at most 2 to the 32 marks. -/
namespace Go.Proofs.Ytablcicfagmhpaa
open Go.RowKit
set_option linter.unusedSimpArgs false
set_option linter.unusedVariables false

/-- The rows of a row of entries: each may be written. -/
def EntRows (w : World) (S : Nat → Prop) (ys : List Value) (xs : List EntryD) : Prop := ∀ i (h : i < xs.length), ∃ u0 u1 z0 z1, ys[i * 6 + 4]? = some u0 ∧ ys[i * 6 + 5]? = some u1 ∧ w.ownsRow 0 9 1 u0 xs[i].vP.length z0 ∧ (∀ g, u0.ownBlock = some g → S g) ∧ w.ownsRow 0 67 2 u1 xs[i].needs.length z1 ∧ ∀ g, u1.ownBlock = some g → S g
theorem EntRows.set {w : World} {S : Nat → Prop} {ys : List Value} {xs : List EntryD} (h : EntRows w S ys xs) (i r : Nat) (hr : r < 4) (v : Value) : EntRows w S (ys.set (i * 6 + r) v) xs := fun j hj => by
  obtain ⟨u0, u1, z0, z1, h1, h2, h3⟩ := h j hj
  exact ⟨u0, u1, z0, z1, by rw [List.getElem?_set_ne (by omega)]; exact h1, by rw [List.getElem?_set_ne (by omega)]; exact h2, h3⟩
theorem EntRows.below {w w' : World} {S : Nat → Prop} {ys : List Value} {xs : List EntryD} (h : EntRows w S ys xs) (hb : Below w.heap.size w w') : EntRows w' S ys xs := fun j hj => by
  obtain ⟨u0, u1, z0, z1, h1, h2, h3, h4, h5, h6⟩ := h j hj
  exact ⟨u0, u1, z0, z1, h1, h2, owns_kept (S := fun b => b < w.heap.size) (.of hb (fun b h => h)) (fun g h => (owns_in h3 g h).2) h3, h4, owns_kept (S := fun b => b < w.heap.size) (.of hb (fun b h => h)) (fun g h => (owns_in h5 g h).2) h5, h6⟩
theorem own_put {w : World} {lo lo' sz sz' n n' g j cap : Nat} {e e' : TypeId} {u x : Value} {zs ys : List Value} (h : w.ownsRow lo e sz u n zs) (hg : w.ownsRow lo' e' sz' (.slice (some ⟨g, 0, none⟩) n' cap) n' ys) (hne : e ≠ e') : (w.setCell ⟨g, j, none⟩ x).ownsRow lo e sz u n zs := by
  refine owns_kept (S := fun b => b ≠ g) (Kp.set (fun k => k rfl)) (fun g' hg' => ?_) h
  rintro rfl
  rcases owns_apart h hg hne with k | k
  · rw [k] at hg'; cases hg'
  · exact k (by rw [hg']; rfl)
theorem EntRows.store {w : World} {S : Nat → Prop} {ys : List Value} {xs : List EntryD} {g j n cap : Nat} {zs : List Value} {x : Value} (h : EntRows w S ys xs) (hg : w.ownsRow 0 40 6 (.slice (some ⟨g, 0, none⟩) n cap) n zs) : EntRows (w.setCell ⟨g, j, none⟩ x) S ys xs := fun i hi => by
  obtain ⟨u0, u1, z0, z1, h1, h2, h3, h4, h5, h6⟩ := h i hi
  exact ⟨u0, u1, z0, z1, h1, h2, own_put h3 hg (by decide), h4, own_put h5 hg (by decide), h6⟩
theorem EntRows.overS {w w' : World} {S : Nat → Prop} {ys : List Value} {xs : List EntryD} {u : Value} {n : Nat} {z z' : List Value} (h : EntRows w S ys xs) (h0 : w.ownsRow 0 9 1 u n z) (h1 : w'.ownsRow 0 9 1 u n z') (hg : w.grownBy w' u.ownBlock) : EntRows w' S ys xs := fun i hi => by
  obtain ⟨u0, u1, z0, z1, a1, a2, a3, a4, a5, a6⟩ := h i hi
  obtain ⟨z2, a7⟩ := owns_over a3 h0 h1 hg (by omega)
  exact ⟨u0, u1, z2, z1, a1, a2, a7, a4, a5.kept hg (owns_apart a5 h0 (by decide)), a6⟩
theorem EntRows.overN {w w' : World} {S : Nat → Prop} {ys : List Value} {xs : List EntryD} {u : Value} {n : Nat} {z z' : List Value} (h : EntRows w S ys xs) (h0 : w.ownsRow 0 67 2 u n z) (h1 : w'.ownsRow 0 67 2 u n z') (hg : w.grownBy w' u.ownBlock) : EntRows w' S ys xs := fun i hi => by
  obtain ⟨u0, u1, z0, z1, a1, a2, a3, a4, a5, a6⟩ := h i hi
  obtain ⟨z2, a7⟩ := owns_over a5 h0 h1 hg (by omega)
  exact ⟨u0, u1, z0, z2, a1, a2, a3.kept hg (owns_apart a3 h0 (by decide)), a4, a7, a6⟩
theorem entRows_of {S : Nat → Prop} {w : World} {ys : List Value} {xs : List EntryD} (h : Laid shEntryO S w ys xs xs.length) : EntRows w S ys xs := fun i hi => by
  obtain ⟨cs, h1, ⟨u0, u1, rfl, _, h2, _, h3⟩, h4⟩ := h i hi hi
  obtain ⟨_, yn, h5, h6, _⟩ := h3
  exact ⟨u0, u1, _, _, h4 4 (by simp), h4 5 (by simp), h2.1, h2.2, h5, h6⟩
def cntE (d : EntryD) : Nat := 4 + d.vP.length + d.needs.length * 2
def cntEs (xs : List EntryD) : Nat := (xs.map cntE).sum
theorem cntEs_take (xs : List EntryD) (i : Nat) (h : i < xs.length) : cntEs (xs.take (i + 1)) = cntEs (xs.take i) + cntE xs[i] := by
  unfold cntEs
  rw [List.take_succ_eq_append_getElem h, List.map_append, List.sum_append]; simp
theorem cntEs_le (xs : List EntryD) (i : Nat) : cntEs (xs.take i) ≤ cntEs xs := by
  unfold cntEs
  conv => rhs; rw [← List.take_append_drop i xs, List.map_append, List.sum_append]
  omega
theorem cntE_wt (d : EntryD) : cntE d ≤ 4 * (1 + wtEntry d) := by
  have h1 := len_wtRow wtNeed d.needs
  unfold cntE wtEntry bulkS
  omega
theorem cntEs_wt : ∀ xs : List EntryD, cntEs xs ≤ 4 * wtRow wtEntry xs
  | [] => by simp [cntEs]
  | d :: xs => by
    have h1 := cntEs_wt xs
    have h2 := cntE_wt d
    have e1 : cntEs (d :: xs) = cntE d + cntEs xs := by simp [cntEs]
    have e2 : wtRow wtEntry (d :: xs) = (1 + wtEntry d) + wtRow wtEntry xs := by simp [wtRow]
    omega

set_option maxHeartbeats 8000000 in
set_option maxRecDepth 100000 in
theorem markEntryS_c (S : Nat → Prop) (v : Value) (xs : List EntryD) (k : Nat) (w : World) (hv : RowOwn shEntryO 40 S w v xs) (h1 : 1 ≤ k) (h2 : k + cntEs xs ≤ 4294967296) :
    Calls Try.prog 9 #[v, .int .i64 (k : Int)] w fun e w' => e = .returned (.int .i64 ((k + cntEs xs : Nat) : Int)) ∧ Chg S w w' := by
  obtain ⟨_, zs, hv, hg, hld⟩ := hv
  have hr := entRows_of hld
  clear hld
  have hv : w.ownsRow 0 40 6 v xs.length zs := hv
  rcases id hv.2 with ⟨rfl, hn0⟩ | ⟨g, cap, cur, rfl, _, hgb, hcap, hmax, _⟩
  · have hns : xs = [] := List.eq_nil_of_length_eq_zero hn0
    subst hns
    clear hv hg hr
    go_enter Try.func9, Try.ntmps9
    go_wp2_with fail
    go_loopw [1, 5] (fun vk vi wr => vk = .int .i64 (k : Int) ∧ vi = .int .i64 0 ∧ wr = w) (fun _ _ _ => 0)
    case atStart => exact ⟨rfl, rfl, rfl⟩
    case round =>
      obtain ⟨rfl, rfl, rfl⟩ := hrel
      go_wp2_with fail
      go_ret
      exact ⟨by simp [cntEs], Chg.refl _ _⟩
  · have hSg := hg g rfl
    unfold maxLen at hmax
    clear hgb hg
    go_enter Try.func9, Try.ntmps9
    go_wp2_with fail
    go_loopw [1, 5] (fun vk vi wr => ∃ (i m : Nat) (ys : List Value), i ≤ xs.length ∧ vi = .int .i64 (i : Int) ∧ vk = .int .i64 (m : Int) ∧ Hid (m = k + cntEs (xs.take i)) ∧ wr.ownsRow 0 40 6 (.slice (some ⟨g, 0, none⟩) xs.length cap) xs.length ys ∧ Hid (EntRows wr S ys xs) ∧ Chg S w wr) (fun _ vi _ => xs.length - (intOf vi).toNat)
    case atStart => exact ⟨0, k, zs, Nat.zero_le _, rfl, rfl, by show _ = _; simp [cntEs], hv, hr, Chg.refl _ _⟩
    case round =>
      obtain ⟨i, m, ys, hi, rfl, rfl, hm, hown, hrr, hchg⟩ := hrel
      by_cases hlt : i < xs.length
      · have hlen := hown.1
        have hts := cntEs_take xs i hlt
        have htl := cntEs_le xs (i + 1)
        have HTS : Hid (cntEs (xs.take (i + 1)) = cntEs (xs.take i) + (4 + xs[i].vP.length + xs[i].needs.length * 2) ∧ cntEs (xs.take (i + 1)) ≤ cntEs xs) := ⟨hts, htl⟩
        obtain ⟨P, hP⟩ : ∃ P, P = xs[i].vP.length := ⟨_, rfl⟩
        obtain ⟨Q, hQ⟩ : ∃ Q, Q = xs[i].needs.length := ⟨_, rfl⟩
        rw [← hP, ← hQ] at HTS
        have HP := hidden hP
        have HQ := hidden hQ
        have hm2 : m + 4 + P + Q * 2 ≤ 4294967296 := by have := hm.out; have := HTS.out; omega
        have hm1 : 1 ≤ m := by have := hm.out; omega
        have hki : (i : Int) < (xs.length : Int) := by omega
        have HO := hidden hown
        have HM1 := hidden (fun w1 => markText_c m w1 (by omega) (by omega))
        clear hown hv hr hts htl hP hQ
        go_wp2_with fail
        go_at_call 20
        refine (HM1.out _).mono ?_
        rintro e w1 ⟨rfl, b1⟩
        have r1 := HO.out.kept (grown_of_below b1 none) (by simp [Value.ownBlock])
        have f1 := r1.frozenAt
        have hc : ∀ j, j < 6 → ∃ x, w1.cell? ⟨g, i * 6 + j, none⟩ = some x := fun j hj => ⟨ys.getD (i * 6 + j) undef, by rw [r1.cellAt _ (by omega)]; simp [List.getD_eq_getElem?_getD, show i * 6 + j < ys.length by omega]⟩
        obtain ⟨c0, d0⟩ := hc 0 (by omega)
        obtain ⟨c1, d1⟩ := hc 1 (by omega)
        obtain ⟨c2, d2⟩ := hc 2 (by omega)
        obtain ⟨c3, d3⟩ := hc 3 (by omega)
        rw [Nat.add_zero] at d0
        have q1 := hrr.out.below b1
        have s0 := r1.stored (i * 6 + 0) (.string (markStr m))
        have q2 := (q1.store (j := i * 6 + 0) (x := .string (markStr m)) r1).set i 0 (by omega) (.string (markStr m))
        have s1 := s0.1.stored (i * 6 + 1) (.int .i64 ((m : Int) + 1))
        have q3 := (q2.store (j := i * 6 + 1) (x := .int .i64 ((m : Int) + 1)) s0.1).set i 1 (by omega) (.int .i64 ((m : Int) + 1))
        have s2 := s1.1.stored (i * 6 + 2) (.int .i64 ((m : Int) + 1 + 1))
        have q4 := (q3.store (j := i * 6 + 2) (x := .int .i64 ((m : Int) + 1 + 1)) s1.1).set i 2 (by omega) (.int .i64 ((m : Int) + 1 + 1))
        have s3 := s2.1.stored (i * 6 + 3) (.int .i64 ((m : Int) + 1 + 1 + 1))
        have q5 := (q4.store (j := i * 6 + 3) (x := .int .i64 ((m : Int) + 1 + 1 + 1)) s2.1).set i 3 (by omega) (.int .i64 ((m : Int) + 1 + 1 + 1))
        obtain ⟨u0, u1, z0, z1, hu1, hu2, hu3, hu4, hu5, hu6⟩ := q5 i hlt
        rw [← HP.out] at hu3
        have d4 : w1.cell? ⟨g, i * 6 + 4, none⟩ = some u0 := by
          rw [r1.cellAt _ (by omega)]
          rw [List.getElem?_set_ne (by omega), List.getElem?_set_ne (by omega), List.getElem?_set_ne (by omega), List.getElem?_set_ne (by omega)] at hu1
          exact hu1
        obtain ⟨qu, cu, eu⟩ := owns_sliceP hu3
        have HMS := markStrs_c u0 0 P z0 (m + 4) _ hu3 (by omega) (by omega) (by omega) (Nat.zero_le _)
        rw [show ((m + 4 : Nat) : Int) = (m : Int) + 1 + 1 + 1 + 1 by omega] at HMS
        subst eu
        have CH1 : Chg S wr ((((w1.setCell ⟨g, i * 6 + 0, none⟩ (.string (markStr m))).setCell ⟨g, i * 6 + 1, none⟩ (.int .i64 ((m : Int) + 1))).setCell ⟨g, i * 6 + 2, none⟩ (.int .i64 ((m : Int) + 1 + 1))).setCell ⟨g, i * 6 + 3, none⟩ (.int .i64 ((m : Int) + 1 + 1 + 1))) := (Chg.of b1).trans ((Chg.set hSg).trans ((Chg.set hSg).trans ((Chg.set hSg).trans (Chg.set hSg))))
        simp only [Nat.add_zero] at HMS s3 q5 CH1 hu3
        have HMS2 := hidden HMS
        have HR2 := hidden s3.1
        have HQ2 := hidden q5
        have HU2 := hidden hu3
        have HCH1 := hidden CH1
        clear r1 s0 s1 s2 s3 q1 q2 q3 q4 q5 HMS hu1 hu2 hu3 hu5 hu6 CH1 hc
        go_wp2_with fail
        go_at_call 21
        refine HMS2.out.mono ?_
        rintro e w2 ⟨rfl, y2, g2⟩
        have r3 := HR2.out.kept g2 (owns_apart HR2.out HU2.out (by decide))
        have q6 := HQ2.out.overS HU2.out y2 g2
        obtain ⟨t0, t1, x0, x1, hv1, hv2, hv3, hv4, hv5, hv6⟩ := q6 i hlt
        rw [← HQ.out] at hv5
        have hl3 := r3.1
        have d5 : w2.cell? ⟨g, i * 6 + 5, none⟩ = some t1 := by
          rw [r3.cellAt _ (by omega)]
          exact hv2
        obtain ⟨qt, ct, et⟩ := owns_sliceP hv5
        have HMN := markNeedV_c t1 0 Q (m + 4 + P) x1 _ hv5 (by omega) (by omega)
        rw [show ((m + 4 + P : Nat) : Int) = (m : Int) + 1 + 1 + 1 + 1 + (P : Int) by omega] at HMN
        subst et
        have HMN2 := hidden HMN
        have HR3 := hidden r3
        have HQ3 := hidden q6
        have HU3 := hidden hv5
        have HCH2 := hidden (HCH1.out.trans (Chg.grown g2 hu4))
        clear r3 q6 HMN hv1 hv2 hv3 hv4 hv5 y2
        go_wp2_with fail
        go_at_call 22
        refine HMN2.out.mono ?_
        rintro e w3 ⟨rfl, y3, g3⟩
        have r4 := HR3.out.kept g3 (owns_apart HR3.out HU3.out (by decide))
        have q7 := HQ3.out.overN HU3.out y3 g3
        have HR4 := hidden r4
        have HQ4 := hidden q7
        have HCH3 := hidden (HCH2.out.trans (Chg.grown g3 hv6))
        clear r4 q7 y3
        go_wp2_with fail
        go_roundw
        case rel => exact ⟨i + 1, m + 4 + P + Q * 2, _, by omega, by go_num, by first | rfl | (simp; done) | (simp; omega), (by show _ = _; have := hm.out; have := HTS.out; omega), HR4.out, HQ4, hchg.trans HCH3.out⟩
        case measure => simp [intOf]; omega
      · have he : i = xs.length := by omega
        subst he
        have hmm : m = k + cntEs xs := by have := hm.out; rw [List.take_length] at this; exact this
        have HMM := hidden hmm
        clear hown hv hr hrr hmm
        go_wp2_with fail
        go_ret
        exact ⟨by rw [← HMM.out]; rfl, hchg⟩
end Go.Proofs.Ytablcicfagmhpaa

/-! What a text falls into between the bytes c, and what the specification's Split answers: just that list; conditions: the text has at most 2 to the 20 bytes and a few more. -/
namespace Go.Proofs.Ytablcicfagmhpaa
open Go.RowKit
set_option linter.unusedSimpArgs false
set_option linter.unusedVariables false

/-- The pieces behind place i, the piece at hand having begun at place b. -/
def splitGo (s : ByteArray) (c : Int) : Nat → Nat → Nat → List ByteArray
  | 0, _, b => [s.extract b s.size]
  | f + 1, i, b => if ((s.data[i]!).toNat : Int) = c then s.extract b i :: splitGo s c f (i + 1) (i + 1) else splitGo s c f (i + 1) b
def splitS (s : ByteArray) (c : Int) : List ByteArray := splitGo s c s.size 0 0

theorem splitGo_hit (s : ByteArray) (c : Int) (i b : Nat) (hi : i < s.size) (h : ((s.data[i]!).toNat : Int) = c) : splitGo s c (s.size - i) i b = s.extract b i :: splitGo s c (s.size - (i + 1)) (i + 1) (i + 1) := by
  obtain ⟨f, hf⟩ : ∃ f, s.size - i = f + 1 := ⟨s.size - i - 1, by omega⟩
  rw [hf, splitGo, if_pos h, show s.size - (i + 1) = f by omega]
theorem splitGo_miss (s : ByteArray) (c : Int) (i b : Nat) (hi : i < s.size) (h : ¬ ((s.data[i]!).toNat : Int) = c) : splitGo s c (s.size - i) i b = splitGo s c (s.size - (i + 1)) (i + 1) b := by
  obtain ⟨f, hf⟩ : ∃ f, s.size - i = f + 1 := ⟨s.size - i - 1, by omega⟩
  rw [hf, splitGo, if_neg h, show s.size - (i + 1) = f by omega]
theorem splitGo_end (s : ByteArray) (c : Int) (b : Nat) : splitGo s c (s.size - s.size) s.size b = [s.extract b s.size] := by
  rw [Nat.sub_self, splitGo]

theorem strs_append (xs ys : List ByteArray) : strsV xs ++ strsV ys = strsV (xs ++ ys) := by simp [strsV]

end Go.Proofs.Ytablcicfagmhpaa

/-! Contracts of two functions of the library (the first place of a byte in a text; a copy of a text), taken over from the library of contracts at the numbers of this program; conditions as each says. -/
namespace Go.Proofs
open Go.Shelf
def Try.laysM316_ren : Go.Shelf.Ren := ⟨fun | 316 => 46 | n => n, fun | 9 => 9 | 3 => 3 | 4 => 4 | 37 => 65 | 0 => 0 | 127 => 79 | 5 => 5 | n => n, fun | n => n⟩
theorem Try.laysM316 : Go.Proofs.LaysM.n316 Try.prog Try.laysM316_ren := {
  mixed := by kernel_rfl
  f316 := Try.func46.trans (congrArg some (by kernel_rfl))
  t0 := Try.underlying0
  a0 := Try.isAgg0
  z0 := Try.sizeOf0
  v0 := Try.zeroValue0
  t3 := Try.underlying3
  a3 := Try.isAgg3
  z3 := Try.sizeOf3
  v3 := Try.zeroValue3
  t4 := Try.underlying4
  a4 := Try.isAgg4
  z4 := Try.sizeOf4
  v4 := Try.zeroValue4
  t9 := Try.underlying9
  a9 := Try.isAgg9
  z9 := Try.sizeOf9
  v9 := Try.zeroValue9
  t37 := Try.underlying65
  a37 := Try.isAgg65
  z37 := Try.sizeOf65
  v37 := Try.zeroValue65
  t127 := Try.underlying79
  a127 := Try.isAgg79
  z127 := Try.sizeOf79
  v127 := Try.zeroValue79
  t5 := Try.underlying5
  a5 := Try.isAgg5
  z5 := Try.sizeOf5
  v5 := Try.zeroValue5
  i0 := by kernel_rfl
  i3 := by kernel_rfl
  i4 := by kernel_rfl
  i5 := by kernel_rfl
  i9 := by kernel_rfl
  i37 := by kernel_rfl
  i127 := by kernel_rfl }
open Go.RowKit in
theorem Try.stringslite_Clone (s : ByteArray) (w : World) (hlim : s.size ≤ 281474976710656) :
    Calls Try.prog 46 #[.string s] w fun e w' => e = .returned (.string s) ∧ Below w.heap.size w w' := Any.stringslite_Clone Try.laysM316 s w hlim
end Go.Proofs

/-! What the program's Split answers: the same list as the specification's, in memory of its own; condition: the text has at most 2 to the 20 bytes. -/
namespace Go.Proofs.Ytablcicfagmhpaa
open Go.RowKit
set_option linter.unusedSimpArgs false
set_option linter.unusedVariables false

theorem split_none (s : ByteArray) (c : Int) (b : Nat) : ∀ (n i : Nat), n = s.size - i → i ≤ s.size → (∀ j, i ≤ j → j < s.size → ¬ ((s.data[j]!).toNat : Int) = c) → splitGo s c (s.size - i) i b = [s.extract b s.size]
  | 0, i, hn, hi, h => by
    have : i = s.size := by omega
    subst this
    exact splitGo_end s c b
  | n + 1, i, hn, hi, h => by
    rw [splitGo_miss s c i b (by omega) (h i (Nat.le_refl _) (by omega))]
    exact split_none s c b n (i + 1) (by omega) (by omega) (fun j h1 h2 => h j (by omega) h2)
theorem split_some (s : ByteArray) (c : Int) (b j : Nat) (hj : j < s.size) (hc : ((s.data[j]!).toNat : Int) = c) : ∀ (n i : Nat), n = j - i → i ≤ j → (∀ k, i ≤ k → k < j → ¬ ((s.data[k]!).toNat : Int) = c) → splitGo s c (s.size - i) i b = s.extract b j :: splitGo s c (s.size - (j + 1)) (j + 1) (j + 1)
  | 0, i, hn, hi, h => by
    have : i = j := by omega
    subst this
    exact splitGo_hit s c i b hj hc
  | n + 1, i, hn, hi, h => by
    rw [splitGo_miss s c i b (by omega) (h i (Nat.le_refl _) (by omega))]
    exact split_some s c b j hj hc n (i + 1) (by omega) (by omega) (fun k h1 h2 => h k (by omega) h2)

def strSize : Value → Nat | .string s => s.size | _ => 0

theorem ext_list {a b : ByteArray} (h : a.data.toList = b.data.toList) : a = b := ByteArray.ext (Array.toList_inj.1 h)
theorem extract_list (s : ByteArray) (a b : Nat) : (s.extract a b).data.toList = (s.data.toList.drop a).take (b - a) := Lib.extract_data s a b
theorem len_list (s : ByteArray) : s.data.toList.length = s.size := by rw [Array.length_toList]; rfl
theorem size_tail (s : ByteArray) (b : Nat) (h : b ≤ s.size) : (s.extract b s.size).size = s.size - b := by
  rw [← len_list, extract_list, List.length_take, List.length_drop, len_list]; omega
theorem tail_list (s : ByteArray) (b : Nat) : (s.extract b s.size).data.toList = s.data.toList.drop b := by
  rw [extract_list, List.take_of_length_le (by rw [List.length_drop, len_list]; omega)]
theorem tail_head (s : ByteArray) (b k : Nat) : (s.extract b s.size).extract 0 k = s.extract b (b + k) := by
  apply ext_list
  rw [extract_list, tail_list, extract_list]
  simp
theorem tail_tail (s : ByteArray) (b k : Nat) : (s.extract b s.size).extract k (s.extract b s.size).size = s.extract (b + k) s.size := by
  apply ext_list
  rw [tail_list, tail_list, tail_list, List.drop_drop]

theorem bang_list (s : ByteArray) (j : Nat) (h : j < s.size) : s.data.toList[j]? = some (s.data[j]!) := by
  rw [byteBang s j h, List.getElem?_eq_getElem (by rw [len_list]; exact h)]
  rfl

/-- What the search for the byte says of the text behind place b. -/
theorem search (s : ByteArray) (c : Int) (b : Nat) (hb : b ≤ s.size) (h0 : 0 ≤ c) (h1 : c ≤ 255) :
    (Lib.indexByte (s.extract b s.size).data.toList c.toNat.toUInt8 = -1 ∧ splitGo s c (s.size - b) b b = [s.extract b s.size]) ∨
    ∃ k : Nat, Lib.indexByte (s.extract b s.size).data.toList c.toNat.toUInt8 = (k : Int) ∧ b + k < s.size ∧ splitGo s c (s.size - b) b b = s.extract b (b + k) :: splitGo s c (s.size - (b + k + 1)) (b + k + 1) (b + k + 1) := by
  have hcn : ∀ u : UInt8, (u.toNat : Int) = c ↔ u = c.toNat.toUInt8 := fun u => by
    have hu := u.toNat_lt
    constructor
    · intro e
      have : u.toNat = c.toNat := by omega
      rw [← this]; simp
    · intro e
      subst e
      simp [UInt8.toNat_ofNat']
      omega
  rw [tail_list]
  have hge := Lib.indexByte_ge (s.data.toList.drop b) c.toNat.toUInt8
  by_cases hm : Lib.indexByte (s.data.toList.drop b) c.toNat.toUInt8 = -1
  · refine .inl ⟨hm, split_none s c b _ b rfl hb (fun j h1 h2 e => ?_)⟩
    have := Lib.indexByte_none hm (j - b)
    rw [List.getElem?_drop, show b + (j - b) = j by omega, bang_list s j h2] at this
    exact this (by rw [(hcn _).1 e])
  · obtain ⟨k, hk⟩ := Int.eq_ofNat_of_zero_le (show 0 ≤ Lib.indexByte (s.data.toList.drop b) c.toNat.toUInt8 by omega)
    obtain ⟨hh, hbef⟩ := Lib.indexByte_some hk
    rw [List.getElem?_drop] at hh
    have hlt : b + k < s.size := by
      rw [← len_list]
      exact (List.getElem?_eq_some_iff.1 hh).1
    refine .inr ⟨k, hk, hlt, split_some s c b (b + k) hlt ?_ _ b rfl (by omega) (fun j h1 h2 e => ?_)⟩
    · rw [bang_list s _ hlt] at hh
      exact (hcn _).2 (by simpa using hh)
    · have := hbef (j - b) (by omega)
      rw [List.getElem?_drop, show b + (j - b) = j by omega, bang_list s j (by omega)] at this
      exact this (by rw [(hcn _).1 e])

set_option maxHeartbeats 1000000 in
theorem clone_c (s : ByteArray) (w : World) (h : s.size ≤ 1048576) : Calls Try.prog 31 #[.string s] w fun e w' => e = .returned (.string s) ∧ Below w.heap.size w w' := by
  go_enter Try.func31, Try.ntmps31
  go_wp2_with (go_at_call 46; refine (Try.stringslite_Clone s _ (by omega)).mono ?_; rintro e w1 ⟨rfl, b1⟩)
  go_ret
  exact ⟨rfl, b1⟩

end Go.Proofs.Ytablcicfagmhpaa

/-! Copies of versions, needs and entries, as the program makes them: contracts for the walks; conditions: they lie in memory, and hold at most 2 to the 20. -/
namespace Go.Proofs.Ytablcicfagmhpaa
open Go.RowKit
set_option linter.unusedSimpArgs false
set_option linter.unusedVariables false

/-- A block of another type than a row's is not the row's. -/
theorem row_box {w : World} {lo sz n g : Nat} {e t : TypeId} {v : Value} {xs : List Value} {cs : Array Value} {fz : Nat × Nat} (h : w.ownsRow lo e sz v n xs) (hb : w.heap[g]? = some (.cells cs t fz)) (hne : e ≠ t) : v.ownBlock ≠ some g := fun he => by
  rcases h.2 with ⟨rfl, _⟩ | ⟨g', cap, cur, rfl, _, hg, _⟩
  · simp [Value.ownBlock] at he
  · simp [Value.ownBlock] at he
    subst he
    rw [hg] at hb
    simp at hb
    exact hne hb.2.1
theorem box_grown {w w' : World} {row : Option Nat} {g : Nat} {o : Obj} (hb : w.heap[g]? = some o) (hg : w.grownBy w' row) (hne : row ≠ some g) : w'.heap[g]? = some o :=
  (hg.block g (Array.getElem?_eq_some_iff.1 hb).1 (fun e => hne e.symm)).trans hb
theorem box_below {w w' : World} {g : Nat} {o : Obj} (hb : w.heap[g]? = some o) (h : Below w.heap.size w w') : w'.heap[g]? = some o :=
  (h.block g (Array.getElem?_eq_some_iff.1 hb).1).trans hb
theorem row_put {w : World} {lo sz n g j : Nat} {e t : TypeId} {v x : Value} {xs : List Value} {cs : Array Value} {fz : Nat × Nat} (h : w.ownsRow lo e sz v n xs) (hb : w.heap[g]? = some (.cells cs t fz)) (hne : e ≠ t) : (w.setCell ⟨g, j, none⟩ x).ownsRow lo e sz v n xs :=
  owns_kept (S := fun b => b ≠ g) (Kp.set (by simp)) (fun b hb' => by rintro rfl; exact row_box h hb hne hb') h
theorem List.single_le_sum_natC {ss : List ByteArray} {t : ByteArray} (h : t ∈ ss) : t.size ≤ (ss.map ByteArray.size).sum := by
  induction ss with
  | nil => simp at h
  | cons a l ih =>
    simp only [List.map_cons, List.sum_cons]
    rcases List.mem_cons.1 h with rfl | h
    · omega
    · have := ih h; omega
theorem two_boxes {w : World} (A R : Obj) : ((w.alloc A).alloc R).heap[w.heap.size]? = some A ∧ ((w.alloc A).alloc R).heap[w.heap.size + 1]? = some R := by
  have s1 : (w.alloc A).heap.size = w.heap.size + 1 := by simp
  refine ⟨?_, ?_⟩
  · rw [vheap_old _ _ (by simp), vheap_new]
  · rw [← s1, vheap_new]

set_option maxHeartbeats 2000000 in
set_option maxRecDepth 100000 in
theorem copyVer_c (a b c : Int) (u : Value) (ps : List ByteArray) (w : World) (hu : Reads w u (strsV ps)) (hb : bulkS ps ≤ 1048576) :
    Calls Try.prog 32 #[.agg #[.int .i64 a, .int .i64 b, .int .i64 c, u]] w fun e w' => ∃ u', e = .returned (.agg #[.int .i64 a, .int .i64 b, .int .i64 c, u']) ∧ w'.ownsRow w.heap.size 9 1 u' ps.length (strsV ps) ∧ Below w.heap.size w w' := by
  obtain ⟨i0, hi, hz0, hz1, hz2⟩ := info_parts infoS
  obtain ⟨q, cap, rfl, _, hc⟩ := reads_strs hu
  have hn : ps.length ≤ 1048576 := by unfold bulkS at hb; omega
  have hsz : ∀ t ∈ ps, t.size ≤ 1048576 := fun t ht => by
    have : t.size ≤ (ps.map ByteArray.size).sum := List.single_le_sum_natC ht
    unfold bulkS at hb; omega
  have hb2 : ∀ A R, Below w.heap.size w ((w.alloc A).alloc R) := fun A R => ((Below.refl _ _).alloc (Nat.le_refl _) _).alloc (by simp) _
  have HB0 := two_boxes (w := w) (.cells #[.int .i64 a, .int .i64 b, .int .i64 c, .slice q ps.length cap] 37 (0, 0)) (.cells #[.int .i64 0, .int .i64 0, .int .i64 0, .slice none 0 0] 37 (0, 0))
  clear hu hb
  go_enter Try.func32, Try.ntmps32
  go_wp2_with fail
  go_loopw [3, 9] (fun vx vi wr => ∃ (k : Nat) (vo : Value), k ≤ ps.length ∧ vi = .int .i64 (k : Int) ∧ vx = vo ∧ wr.ownsRow w.heap.size 9 1 vo k (strsV (ps.take k)) ∧ Hid (wr.heap[w.heap.size]? = some (.cells #[.int .i64 a, .int .i64 b, .int .i64 c, .slice q ps.length cap] 37 (0, 0)) ∧ wr.heap[w.heap.size + 1]? = some (.cells #[.int .i64 0, .int .i64 0, .int .i64 0, .slice none 0 0] 37 (0, 0))) ∧ Below w.heap.size w wr) (fun _ vi _ => ps.length - (intOf vi).toNat)
  case atStart => exact ⟨0, _, Nat.zero_le _, rfl, rfl, (by rw [List.take_zero]; exact World.ownsRow_nil _ _ _ _), HB0, hb2 _ _⟩
  case round =>
    clear HB0
    obtain ⟨k, vo, hk, rfl, rfl, hown, hbx, hbr⟩ := hrel
    by_cases hlt' : k < ps.length
    · rcases hc with rfl | ⟨b0, off, rfl, hlt, hc⟩
      · simp at hlt'
      have e0 : wr.cell? ⟨b0, off + k, none⟩ = some (.string ps[k]) := (hbr.cell (by simpa using hlt)).trans (hc k hlt')
      have hsk := hsz ps[k] (List.getElem_mem hlt')
      have HT : Hid (strsV (ps.take k) ++ strsV [ps[k]] = strsV (ps.take (k + 1))) := by show _ = _; rw [strs_append, List.take_succ_eq_append_getElem hlt']
      obtain ⟨t, ht⟩ : ∃ t, t = ps[k] := ⟨_, rfl⟩
      rw [← ht] at e0 hsk HT
      have hki : (k : Int) < (ps.length : Int) := by omega
      clear hc ht hsz
      go_wp2_with (first
        | (go_at_call 31; refine (clone_c t _ hsk).mono ?_; rintro e w2 ⟨rfl, b2⟩
           have hown2 := owns_of_below hown b2)
        | (at_builtin; refine wpList_append_own _ rfl _ _ 31 rfl w.heap.size 9 i0 (.string ⟨#[]⟩) 1 16 Try.underlying31 hi hz0 hz1 hz2 rfl (by decide) _ k (strsV (ps.take k)) rfl (hown2.alloc _) ⟨w2.heap.size, 0, none⟩ 1 1 (strsV [t]) rfl rfl (cell_one_new _ _ _) (fun u hu => by simp [strsV] at hu; subst hu; rfl) (by unfold maxLen; omega) (by omega) (by have h1 := hbr.size; have h2 := b2.size; simp; omega) ?_))
      intro v3 w3 o3 gr3 _
      rw [HT.out] at o3
      have hbw2 := hbr.trans (b2.mono hbr.size)
      have hb3 : Below w.heap.size w w3 := Below.grown (hbw2.alloc hbw2.size _) gr3 (by have := hbw2.size; simp; omega) (fun j hj => (hown2.lt _ hj).1)
      have kA : Below w2.heap.size w2 (w2.alloc (.cells #[.string t] 9)) := (Below.refl _ _).alloc (Nat.le_refl _) _
      have hA1 := box_below (box_below hbx.out.1 b2) kA
      have hR1 := box_below (box_below hbx.out.2 b2) kA
      have hown4 := hown2.alloc (.cells #[.string t] 9)
      have HX := hidden (And.intro (box_grown hA1 gr3 (row_box hown4 hA1 (by decide))) (box_grown hR1 gr3 (row_box hown4 hR1 (by decide))))
      clear hA1 hR1 kA hbx hown4
      go_wp2_with fail
      go_roundw
      case rel => exact ⟨k + 1, _, by omega, by go_num, rfl, o3, HX, hb3⟩
      case measure => simp [intOf]; omega
    · have he : k = ps.length := by omega
      subst he
      rw [List.take_length] at hown
      obtain ⟨hA, hR⟩ := hbx.out
      obtain ⟨qo, co, hvo⟩ := owns_sliceP hown
      subst hvo
      have hA2 := heap_setCell_same wr w.heap.size 3 _ _ (.slice qo ps.length co) hA
      have hR2 := (Below.heap_setCell wr ⟨w.heap.size, 3, none⟩ (.slice qo ps.length co) (w.heap.size + 1) (by simp)).trans hR
      have HO : Hid (∀ c0 c1 c2 c3, (((((wr.setCell ⟨w.heap.size, 3, none⟩ (.slice qo ps.length co)).setCell ⟨w.heap.size + 1, 0, none⟩ c0).setCell ⟨w.heap.size + 1, 1, none⟩ c1).setCell ⟨w.heap.size + 1, 2, none⟩ c2).setCell ⟨w.heap.size + 1, 3, none⟩ c3).ownsRow w.heap.size 9 1 (.slice qo ps.length co) ps.length (strsV ps)) := fun c0 c1 c2 c3 =>
        owns_kept (S := fun b => b ≠ w.heap.size ∧ b ≠ w.heap.size + 1) ((((((Kp.set (by simp)).trans (Kp.set (by simp))).trans (Kp.set (by simp))).trans (Kp.set (by simp))).trans (Kp.set (by simp)))) (fun b hb' => ⟨by rintro rfl; exact row_box hown hA (by decide) hb', by rintro rfl; exact row_box hown hR (by decide) hb'⟩) hown
      have a0 := vblk_cell hA 0
      have a1 := vblk_cell hA 1
      have a2 := vblk_cell hA 2
      have a3 := vblk_cell hA 3
      have fa := vblk_frozen hA
      have r0 := vblk_cell hR 0
      have r1 := vblk_cell hR 1
      have r2 := vblk_cell hR 2
      have r3 := vblk_cell hR 3
      have fr := vblk_frozen hR
      simp only [List.getElem?_toArray, List.getElem?_cons_succ, List.getElem?_cons_zero] at a0 a1 a2 a3 r0 r1 r2 r3
      clear hc hsz hA hR hA2 hR2 hbx
      go_wp2_with fail
      refine bodyPost_ret (v := .agg #[.int .i64 a, .int .i64 b, .int .i64 c, .slice qo ps.length co]) (by simp [results, Try.results32, go_sem, a0, a1, a2, a3, r0, r1, r2, r3]) rfl ⟨_, rfl, HO.out _ _ _ _, ?_⟩
      (repeat (refine Below.setCell ?_ (by simp) _))
      exact hbr

end Go.Proofs.Ytablcicfagmhpaa

/-! Copies of needs and entries, as the program makes them: contracts for the walks; conditions: they lie in memory, and hold at most 2 to the 20. -/
namespace Go.Proofs.Ytablcicfagmhpaa
open Go.RowKit
set_option linter.unusedSimpArgs false
set_option linter.unusedVariables false

/-- The cells of needs. -/
def needsV (xs : List NeedD) : List Value := xs.flatMap fun d => [.string d.n, .string d.r]
theorem needsV_length (xs : List NeedD) : (needsV xs).length = xs.length * 2 := by
  induction xs with
  | nil => rfl
  | cons d l ih => simp only [needsV, List.flatMap_cons, List.length_append, List.length_cons, List.length_nil] at *; omega
theorem needsV_append (xs ys : List NeedD) : needsV xs ++ needsV ys = needsV (xs ++ ys) := by simp [needsV]
theorem needsV_take (xs : List NeedD) (k : Nat) (h : k < xs.length) : needsV (xs.take k) ++ [.string xs[k].n, .string xs[k].r] = needsV (xs.take (k + 1)) := by
  rw [List.take_succ_eq_append_getElem h, ← needsV_append]; rfl
theorem needsV_at (xs : List NeedD) : ∀ i (h : i < xs.length), (needsV xs)[i * 2]? = some (.string xs[i].n) ∧ (needsV xs)[i * 2 + 1]? = some (.string xs[i].r) := by
  induction xs with
  | nil => intro i h; simp at h
  | cons d l ih =>
    intro i h
    have e : needsV (d :: l) = [.string d.n, .string d.r] ++ needsV l := by simp [needsV]
    cases i with
    | zero => rw [e]; simp
    | succ i =>
      have h' := ih i (by simpa using h)
      rw [e, List.getElem?_append_right (by simp; omega), List.getElem?_append_right (by simp; omega)]
      simp only [List.length_cons, List.length_nil]
      rw [show (i + 1) * 2 - (0 + 1 + 1) = i * 2 by omega, show (i + 1) * 2 + 1 - (0 + 1 + 1) = i * 2 + 1 by omega]
      simpa using h'
theorem needs_own {w : World} {lo : Nat} {v : Value} {xs : List NeedD} (h : w.ownsRow lo 67 2 v xs.length (needsV xs)) (hl : xs.length ≤ maxLen) (hs : ∀ d ∈ xs, d.n.size ≤ maxLen ∧ d.r.size ≤ maxLen) : RowOwn shNeed 67 (Ow lo w.heap.size) w v xs := by
  refine ⟨hl, needsV xs, owns_lo (Nat.zero_le _) h, owns_in h, fun i hi _ => ⟨[.string xs[i].n, .string xs[i].r], rfl, ⟨rfl, hs _ (List.getElem_mem hi)⟩, fun j hj => ?_⟩⟩
  obtain ⟨h1, h2⟩ := needsV_at xs i hi
  match j, hj with
  | 0, _ => exact h1
  | 1, _ => exact h2

theorem owns_of_belowN {w w' : World} {lo sz n : Nat} {e : TypeId} {v : Value} {xs : List Value} (h : w.ownsRow lo e sz v n xs) (hb : Below w.heap.size w w') : w'.ownsRow lo e sz v n xs := h.kept (grown_of_below hb none) (by cases hq : v.ownBlock <;> simp)
theorem cells_put {w : World} {N M : Nat} {o : Obj} (h : w.heap[N]? = some o) (hne : N ≠ M) (j : Nat) (v : Value) : (w.setCell ⟨M, j, none⟩ v).heap[N]? = some o := (Below.heap_setCell w ⟨M, j, none⟩ v N (by simpa using hne)).trans h
theorem two_src (w : World) (c0 c1 : Value) : ∀ j u, ([c0, c1] : List Value)[j]? = some u → (w.alloc (.cells #[c0, c1] 67)).cell? ((⟨w.heap.size, 0, none⟩ : Addr).add j) = some u := fun j u hu => by
  have e : ((⟨w.heap.size, 0, none⟩ : Addr).add j) = ⟨w.heap.size, j, none⟩ := by unfold Addr.add; split <;> simp_all
  rw [e, vblk_cell (vheap_new _ _) j]
  simpa using hu

set_option maxHeartbeats 2000000 in
set_option maxRecDepth 100000 in
theorem copyNeeds_c (S : Nat → Prop) (v : Value) (xs : List NeedD) (w : World) (hv : RowIn shNeed S w v xs) (hB : ∀ b, S b → b < w.heap.size) (hw : wtRow wtNeed xs ≤ 1048576) :
    Calls Try.prog 33 #[v] w fun e w' => ∃ u', e = .returned u' ∧ w'.ownsRow w.heap.size 67 2 u' xs.length (needsV xs) ∧ Below w.heap.size w w' := by
  obtain ⟨i0, hi, hz0, hz1, hz2⟩ := info_parts infoNeed
  obtain ⟨a, cap, rfl, hl, hc, ha⟩ := hv
  have hn := len_wtRow wtNeed xs
  have hsz : ∀ d ∈ xs, d.n.size ≤ 1048576 ∧ d.r.size ≤ 1048576 := fun d hd => by
    have h1 : d.n.size + d.r.size ≤ wtRow wtNeed xs := wt_wtRow wtNeed hd
    omega
  unfold maxLen at hl
  go_enter Try.func33, Try.ntmps33
  go_wp2_with fail
  go_loopw [3, 8] (fun vx vi wr => ∃ (k : Nat), k ≤ xs.length ∧ vi = .int .i64 (k : Int) ∧ wr.ownsRow w.heap.size 67 2 vx k (needsV (xs.take k)) ∧ Below w.heap.size w wr) (fun _ vi _ => xs.length - (intOf vi).toNat)
  case atStart => exact ⟨0, Nat.zero_le _, rfl, (by rw [List.take_zero]; exact World.ownsRow_nil _ _ _ _), Below.refl _ _⟩
  case round =>
    obtain ⟨k, hk, rfl, hown, hbr⟩ := hrel
    obtain ⟨qo, co, hvo⟩ := owns_sliceP hown
    subst hvo
    by_cases hlt' : k < xs.length
    · rcases ha with rfl | ⟨b0, off, rfl, hlt, ha⟩
      · simp at hlt'
      obtain ⟨cs, hL, hcell⟩ := ha k hlt'
      replace hcell := hcell.keep (.of hbr hB) hlt
      obtain ⟨hs1, hs2⟩ := hsz xs[k] (List.getElem_mem hlt')
      have HT : Hid (needsV (xs.take k) ++ [.string xs[k].n, .string xs[k].r] = needsV (xs.take (k + 1))) := needsV_take xs k hlt'
      obtain ⟨d, hd⟩ : ∃ d, d = xs[k] := ⟨_, rfl⟩
      rw [← hd] at hL hs1 hs2 HT
      obtain ⟨rfl, _, _⟩ := hL
      have e0 : wr.cell? ⟨b0, off + k * 2, none⟩ = some (.string d.n) := hcell 0 (by simp)
      have e1 : wr.cell? ⟨b0, off + k * 2 + 1, none⟩ = some (.string d.r) := hcell 1 (by simp)
      have hki : (k : Int) < (xs.length : Int) := by omega
      clear ha hd hsz hcell
      have kB : Below wr.heap.size wr (wr.alloc (.cells #[.string d.n, .string d.r] 67)) := (Below.refl _ _).alloc (Nat.le_refl _) _
      have hbx5 : (wr.alloc (.cells #[.string d.n, .string d.r] 67)).heap[wr.heap.size]? = some (.cells #[.string d.n, .string d.r] 67 (0, 0)) := vheap_new _ _
      have hown5 := owns_of_belowN hown kB
      have hbr5 := hbr.trans (kB.mono hbr.size)
      have hne5 : (Value.slice qo k co).ownBlock ≠ some wr.heap.size := fun e => by have := (hown.lt _ e).2; omega
      clear kB hown
      go_wp2_with fail
      obtain ⟨N5, hN5e⟩ : ∃ N5, N5 = wr.heap.size := ⟨_, rfl⟩
      obtain ⟨w5, hW5⟩ : ∃ w5, w5 = wr.alloc (.cells #[.string d.n, .string d.r] 67) := ⟨_, rfl⟩
      rw [← hN5e, ← hW5] at hbx5
      rw [← hW5] at hown5 hbr5
      rw [← hN5e] at hne5
      rw [← hN5e, ← hW5]
      clear hN5e hW5 e0 e1
      have h0 : Below w5.heap.size w5 w5.drew := (Below.refl _ _).drew
      have KEEP : Hid (∀ w1, Below w5.heap.size w5 w1 → w1.cell? ⟨N5, 0, none⟩ = some (.string d.n) ∧ w1.cell? ⟨N5, 1, none⟩ = some (.string d.r)) := fun w1 h => ⟨vblk_cell (box_below hbx5 h) 0, vblk_cell (box_below hbx5 h) 1⟩
      refine wp_region_held_drew (S := (fun w' => w'.cell? ⟨N5, 0, none⟩ = some (.string d.n) ∧ w'.cell? ⟨N5, 1, none⟩ = some (.string d.r))) (by kernel_rfl) ?SR10 (fun hHeld => ?_)
      case SR10 => (first | (with_reducible exact KEEP.out _ h3) | (with_reducible exact KEEP.out _ h2) | (with_reducible exact KEEP.out _ h1) | (with_reducible exact KEEP.out _ h0))
      refine wpAnyH_take (i := 0) (oi := _) (v := ?vR10) rfl (by kernel_rfl) (by kernel_rfl) (by kernel_rfl) (fun _ _ _ h => h) (Or.inl ⟨by rfl, ?yR10⟩) hHeld ?_
      case yR10 => (intro w hSw; (try dsimp only at hSw); go_simp <;> with_reducible rfl)
      try simp only [Act.put, List.getElem_toArray, List.getElem_cons_zero, List.getElem_cons_succ, List.setIfInBounds_toArray, List.set_cons_zero, List.set_cons_succ]
      refine wpAnyH_take (i := 1) (oi := _) (v := ?vR11) rfl (by kernel_rfl) (by kernel_rfl) (by kernel_rfl) (fun _ _ _ h => h) (Or.inl ⟨by rfl, ?yR11⟩) hHeld ?_
      case yR11 => (intro w hSw; (try dsimp only at hSw); go_simp <;> with_reducible rfl)
      try simp only [Act.put, List.getElem_toArray, List.getElem_cons_zero, List.getElem_cons_succ, List.setIfInBounds_toArray, List.set_cons_zero, List.set_cons_succ]
      refine wpAnyH_take (i := 2) (oi := _) (v := ?vR12) rfl (by kernel_rfl) (by kernel_rfl) (by kernel_rfl) (fun _ _ _ h => h) (Or.inl ⟨by rfl, ?yR12⟩) hHeld ?_
      case yR12 => (intro w hSw; (try dsimp only at hSw); go_simp <;> with_reducible rfl)
      try simp only [Act.put, List.getElem_toArray, List.getElem_cons_zero, List.getElem_cons_succ, List.setIfInBounds_toArray, List.set_cons_zero, List.set_cons_succ]
      refine wpAnyH_take (i := 4) (oi := _) (v := ?vR13) rfl (by kernel_rfl) (by kernel_rfl) (by kernel_rfl) (fun _ _ _ h => h) (Or.inl ⟨by rfl, ?yR13⟩) hHeld ?_
      case yR13 => (intro w hSw; (try dsimp only at hSw); go_simp <;> with_reducible rfl)
      try simp only [Act.put, List.getElem_toArray, List.getElem_cons_zero, List.getElem_cons_succ, List.setIfInBounds_toArray, List.set_cons_zero, List.set_cons_succ]
      refine wpAnyH_take (i := 5) (oi := _) (v := ?vR14) rfl (by kernel_rfl) (by kernel_rfl) (by kernel_rfl) (fun _ _ _ h => h) (Or.inl ⟨by rfl, ?yR14⟩) hHeld ?_
      case yR14 => (intro w hSw; (try dsimp only at hSw); go_simp <;> with_reducible rfl)
      try simp only [Act.put, List.getElem_toArray, List.getElem_cons_zero, List.getElem_cons_succ, List.setIfInBounds_toArray, List.set_cons_zero, List.set_cons_succ]
      refine wpAnyH_ready (rs := [3]) (by kernel_rfl) (by simp) ?_
      refine AllReadyH.cons rfl (fun K hK => ?_) AllReadyH.nil
      go_simp
      go_wp2_with (go_at_call 31; refine (clone_c d.n _ hs1).mono ?_; rintro e w1 ⟨rfl, b1⟩; have h1 : Below w5.heap.size w5 w1 := h0.trans (b1.mono h0.size))
      clear hHeld
      refine hK.out _ _ ?SR16 (fun hHeld => ?_)
      case SR16 => ((try dsimp only); first | (with_reducible exact KEEP.out _ h3) | (with_reducible exact KEEP.out _ h2) | (with_reducible exact KEEP.out _ h1) | (with_reducible exact KEEP.out _ h0))
      clear hK K
      refine wpAnyH_ready (rs := [6]) (by kernel_rfl) (by simp) ?_
      refine AllReadyH.cons rfl (fun K hK => ?_) AllReadyH.nil
      go_simp
      go_wp2_with (go_at_call 31; refine (clone_c d.r _ hs2).mono ?_; rintro e w2 ⟨rfl, b2⟩; have h2 : Below w5.heap.size w5 w2 := h1.trans (b2.mono h1.size))
      clear hHeld
      refine hK.out _ _ ?SR17 (fun hHeld => ?_)
      case SR17 => ((try dsimp only); first | (with_reducible exact KEEP.out _ h3) | (with_reducible exact KEEP.out _ h2) | (with_reducible exact KEEP.out _ h1) | (with_reducible exact KEEP.out _ h0))
      clear hK K
      refine wpAnyH_take (i := 7) (oi := _) (v := ?vR17) rfl (by kernel_rfl) (by kernel_rfl) (by kernel_rfl) (fun _ _ _ h => h) (Or.inl ⟨by rfl, ?yR17⟩) hHeld ?_
      case yR17 => (intro w hSw; (try dsimp only at hSw); go_simp <;> with_reducible rfl)
      try simp only [Act.put, List.getElem_toArray, List.getElem_cons_zero, List.getElem_cons_succ, List.setIfInBounds_toArray, List.set_cons_zero, List.set_cons_succ]
      have k2 := hbr5.trans (h2.mono hbr5.size)
      have o2 := owns_of_belowN hown5 h2
      have kA : Below w2.heap.size w2 (w2.alloc (.cells #[.string d.n, .string d.r] 67)) := (Below.refl _ _).alloc (Nat.le_refl _) _
      refine wpAnyH_ready (rs := [8]) (by kernel_rfl) (by simp) ?_
      refine AllReadyH.cons rfl (fun K hK => ?_) AllReadyH.nil
      go_simp
      clear hHeld
      have h3 : Below w5.heap.size w5 (w2.alloc (.cells #[.string d.n, .string d.r] 67)) := h2.trans (kA.mono h2.size)
      refine hK.out _ (w2.alloc (.cells #[.string d.n, .string d.r] 67)) ?SR1_8 (fun hHeld => ?_)
      case SR1_8 => (exact KEEP.out _ h3)
      clear hK K
      try simp only [Act.put, List.getElem_toArray, List.getElem_cons_zero, List.getElem_cons_succ, List.setIfInBounds_toArray, List.set_cons_zero, List.set_cons_succ]
      refine wpAnyH_ready (rs := [9]) (by kernel_rfl) (by simp) ?_
      refine AllReadyH.cons rfl (fun K hK => ?_) AllReadyH.nil
      rw [if_pos (by rfl)]
      refine wp_append_own _ _ _ 38 rfl w.heap.size 67 i0 (.agg #[.string ⟨#[]⟩, .string ⟨#[]⟩]) 2 32 Try.underlying38 hi hz0 hz1 hz2 rfl (by decide) _ k (needsV (xs.take k)) rfl (owns_of_belowN o2 kA) ⟨w2.heap.size, 0, none⟩ 1 1 [.string d.n, .string d.r] rfl rfl (two_src w2 _ _) (by simp [Value.oneCell']) (by unfold maxLen; omega) (by omega) (Nat.le_trans k2.size kA.size) ?_
      intro v3 w3 o3 gr3 _
      rw [HT.out] at o3
      have hb3 : Below w.heap.size w w3 := Below.grown (k2.trans (kA.mono k2.size)) gr3 (Nat.le_trans k2.size kA.size) (fun j hj => ((owns_of_belowN o2 kA).lt _ hj).1)
      clear hHeld
      refine hK.out _ _ ?TR1_8 (fun hHeld => ?_)
      case TR1_8 => (exact ⟨vblk_cell (box_grown (box_below hbx5 h3) gr3 hne5) 0, vblk_cell (box_grown (box_below hbx5 h3) gr3 hne5) 1⟩)
      clear hK K
      try simp only [Act.put, List.getElem_toArray, List.getElem_cons_zero, List.getElem_cons_succ, List.setIfInBounds_toArray, List.set_cons_zero, List.set_cons_succ]
      refine wpAnyH_take (i := 10) (oi := _) (v := ?vR19) rfl (by kernel_rfl) (by kernel_rfl) (by kernel_rfl) (fun _ _ _ h => h) (Or.inl ⟨by rfl, ?yR19⟩) hHeld ?_
      case yR19 => (intro w hSw; (try dsimp only at hSw); go_simp <;> with_reducible rfl)
      try simp only [Act.put, List.getElem_toArray, List.getElem_cons_zero, List.getElem_cons_succ, List.setIfInBounds_toArray, List.set_cons_zero, List.set_cons_succ]
      refine wpAnyH_done (by kernel_rfl) ?_ _
      go_wp2_with fail
      go_roundw
      case rel => exact ⟨k + 1, by omega, by go_num, o3, hb3⟩
      case measure => simp [intOf]; omega
    · have he : k = xs.length := by omega
      subst he
      rw [List.take_length] at hown
      clear ha
      go_wp2_with fail
      go_ret
      exact ⟨_, rfl, hown, hbr⟩

end Go.Proofs.Ytablcicfagmhpaa

/-! Facts on blocks of memory that are kept, for the laws over two versions; no condition. -/
namespace Go.Proofs.Ytablcicfagmhpaa
open Go.RowKit
set_option linter.unusedSimpArgs false
set_option linter.unusedVariables false

/-- The block N holds these four cells. -/
def Four (w : World) (N : Nat) (t : TypeId) (c0 c1 c2 c3 : Value) : Prop := w.heap[N]? = some (.cells #[c0, c1, c2, c3] t (0, 0))
theorem Four.lt {w : World} {N : Nat} {t : TypeId} {c0 c1 c2 c3 : Value} (h : Four w N t c0 c1 c2 c3) : N < w.heap.size := (Array.getElem?_eq_some_iff.1 h).1
theorem Four.keep {w w' : World} {N : Nat} {t : TypeId} {c0 c1 c2 c3 : Value} (h : Four w N t c0 c1 c2 c3) (b : Below w.heap.size w w') : Four w' N t c0 c1 c2 c3 := (b.block N h.lt).trans h
theorem Four.cells {w : World} {N : Nat} {t : TypeId} {c0 c1 c2 c3 : Value} (h : Four w N t c0 c1 c2 c3) : w.cell? ⟨N, 0, none⟩ = some c0 ∧ w.cell? ⟨N, 1, none⟩ = some c1 ∧ w.cell? ⟨N, 2, none⟩ = some c2 ∧ w.cell? ⟨N, 3, none⟩ = some c3 :=
  ⟨vblk_cell h 0, vblk_cell h 1, vblk_cell h 2, vblk_cell h 3⟩
theorem Four.drew {w : World} {N : Nat} {t : TypeId} {c0 c1 c2 c3 : Value} (h : Four w N t c0 c1 c2 c3) : Four w.drew N t c0 c1 c2 c3 := h
theorem four_new (w : World) (t : TypeId) (c0 c1 c2 c3 : Value) : Four (w.alloc (.cells #[c0, c1, c2, c3] t)) w.heap.size t c0 c1 c2 c3 := vheap_new _ _
theorem four_old {w : World} {N : Nat} {t : TypeId} {c0 c1 c2 c3 : Value} (h : Four w N t c0 c1 c2 c3) (o : Obj) : Four (w.alloc o) N t c0 c1 c2 c3 := (vheap_old w o h.lt).trans h
theorem four_two (w : World) (t t' : TypeId) (c0 c1 c2 c3 d0 d1 d2 d3 : Value) : Four ((w.alloc (.cells #[c0, c1, c2, c3] t)).alloc (.cells #[d0, d1, d2, d3] t')) w.heap.size t c0 c1 c2 c3 ∧ Four ((w.alloc (.cells #[c0, c1, c2, c3] t)).alloc (.cells #[d0, d1, d2, d3] t')) (w.heap.size + 1) t' d0 d1 d2 d3 := by
  refine ⟨four_old (four_new _ _ _ _ _ _) _, ?_⟩
  have h := four_new (w.alloc (.cells #[c0, c1, c2, c3] t)) t' d0 d1 d2 d3
  have s1 : ∀ o, (w.alloc o).heap.size = w.heap.size + 1 := fun o => by simp
  rw [s1] at h
  exact h
end Go.Proofs.Ytablcicfagmhpaa

/-! What the law's helpers that mark a version's texts, and look whether the marks are held, answer: contracts for the walks; condition: the list lies in memory as told. -/
namespace Go.Proofs.Ytablcicfagmhpaa
open Go.RowKit
set_option linter.unusedSimpArgs false
set_option linter.unusedVariables false

theorem Four.turned {w w' : World} {R : Nat} {t : TypeId} {c0 c1 c2 c3 : Value} {row : Option Nat} (h : Four w R t c0 c1 c2 c3) (hg : w.grownBy w' row) (hne : row ≠ some R) : Four w' R t c0 c1 c2 c3 :=
  (hg.block R h.lt (fun e => hne e.symm)).trans h
theorem below_turned {B : Nat} {w0 w w' : World} {row : Option Nat} (h : Below B w0 w) (hg : w.grownBy w' row) (hB : B ≤ w.heap.size) (hrow : ∀ k, row = some k → B ≤ k) : Below B w0 w' :=
  h.trans ⟨hg.os, hg.tape, hg.output, hg.size, fun k hk => hg.block k (by omega) (fun e => by have := hrow k e.symm; omega)⟩

end Go.Proofs.Ytablcicfagmhpaa

/-! What the functions that draw out of a code answer: contracts for the walks over a cursor (a pointer to a struct of the call's own) that reads the code; each says no more of what is drawn than its bounds; conditions: the code lies in memory as told. -/
namespace Go.Proofs.Ytablcicfagmhpaa
open Go.RowKit
set_option linter.unusedSimpArgs false
set_option linter.unusedVariables false

theorem and_255 (x : Int) : 0 ≤ bits .and .i64 x 255 ∧ bits .and .i64 x 255 ≤ 255 := by
  show 0 ≤ IntKind.i64.wrap ((BitVec.ofInt 64 x &&& BitVec.ofInt 64 ((255 : Nat) : Int)).toNat : Int) ∧ IntKind.i64.wrap ((BitVec.ofInt 64 x &&& BitVec.ofInt 64 ((255 : Nat) : Int)).toNat : Int) ≤ 255
  rw [BitVec.toNat_and, ofInt_u64 255 (by omega)]
  have h := Nat.and_le_right (n := (BitVec.ofInt 64 x).toNat) (m := 255)
  rw [IntKind.wrap_i64]
  omega

theorem cell_of_heap {w : World} {g : Nat} {cs : Array Value} {t : TypeId} (h : w.heap[g]? = some (.cells cs t (0, 0))) (j : Nat) : w.cell? ⟨g, j, none⟩ = cs[j]? := cell_of_row w g j cs t (0, 0) h

theorem grown_set (w : World) (g j : Nat) (u : Value) : w.grownBy (w.setCell ⟨g, j, none⟩ u) (some g) :=
  ⟨rfl, rfl, rfl, by simp, fun k _ hk => heap_setCell_other w ⟨g, j, none⟩ k u (fun e => hk (by simp [e]))⟩
theorem grown_drewN {w w' : World} {r : Option Nat} (h : w.grownBy w' r) (n : Nat) : w.grownBy (w'.drewN n) r := ⟨h.os, h.tape, h.output, h.size, h.block⟩
def textList : List ByteArray := [⟨#[]⟩, ⟨#[97]⟩, ⟨#[98]⟩, ⟨#[97, 98]⟩, ⟨#[97, 45, 98]⟩, ⟨#[65, 98]⟩, ⟨#[120, 49]⟩, ⟨#[101, 108, 101, 118, 101, 110, 98, 121, 116, 101, 115]⟩, ⟨#[116, 101, 110, 45, 98, 121, 116, 101, 115, 49]⟩, ⟨#[97, 32, 98]⟩, ⟨#[9]⟩, ⟨#[127]⟩, ⟨#[49, 97]⟩, ⟨#[45, 97]⟩, ⟨#[122]⟩, ⟨#[104, 101, 108, 108, 111]⟩]
theorem textList_small : ∀ t ∈ textList, t.size ≤ 11 := by decide +kernel

theorem lit_strs (w : World) (xs : List ByteArray) : ∀ k (h : k < xs.length), (w.alloc (.cells (xs.map Value.string).toArray 9)).cell? ⟨w.heap.size, k, none⟩ = some (.string xs[k]) := by
  intro k h
  simp [h]
theorem lit_ints (w : World) (xs : List Int) : ∀ k, k < xs.length → (w.alloc (.cells (xs.map (Value.int .i64)).toArray 3)).cell? ⟨w.heap.size, k, none⟩ = some (.int .i64 (xs.getD k 0)) := by
  intro k h
  simp [h, List.getD_eq_getElem?_getD]

theorem grown_own {w w1 w2 : World} {o : Obj} {g : Nat} {r : Option Nat} (h1 : w.grownBy w1 (some g)) (h2 : (w1.alloc o).grownBy w2 r) (hr : ∀ k, r = some k → w.heap.size ≤ k) : w.grownBy w2 (some g) := by
  have ha := World.grownBy_alloc w1 o none
  refine ⟨h2.os.trans h1.os, h2.tape.trans h1.tape, h2.output.trans h1.output, Nat.le_trans h1.size (Nat.le_trans ha.size h2.size), fun k hk hne => ?_⟩
  rw [h2.block k (Nat.lt_of_lt_of_le (Nat.lt_of_lt_of_le hk h1.size) ha.size) (fun e => by have := hr k e.symm; omega)]
  rw [ha.block k (Nat.lt_of_lt_of_le hk h1.size) (by simp)]
  exact h1.block k hk hne
end Go.Proofs.Ytablcicfagmhpaa

/-! What the functions that draw versions answer: contracts for the walks: a version in memory of its own, of no more than a few short texts; conditions: the code lies in memory as told. -/
namespace Go.Proofs.Ytablcicfagmhpaa
open Go.RowKit
set_option linter.unusedSimpArgs false
set_option linter.unusedVariables false
attribute [local go_sem ↓] Go.wp_at_zero Go.wp_at_succ

theorem Four.ice {w : World} {N : Nat} {t : TypeId} {c0 c1 c2 c3 : Value} (h : Four w N t c0 c1 c2 c3) (j : Nat) : w.frozen? ⟨N, j, none⟩ = false := vblk_frozen h j

theorem four_put {w : World} {R : Nat} {t : TypeId} {c0 c1 c2 c3 : Value} (h : Four w R t c0 c1 c2 c3) (v : Value) :
    Four (w.setCell ⟨R, 0, none⟩ v) R t v c1 c2 c3 ∧ Four (w.setCell ⟨R, 1, none⟩ v) R t c0 v c2 c3 ∧ Four (w.setCell ⟨R, 2, none⟩ v) R t c0 c1 v c3 ∧ Four (w.setCell ⟨R, 3, none⟩ v) R t c0 c1 c2 v := by
  refine ⟨?_, ?_, ?_, ?_⟩ <;> (unfold Four at *; rw [heap_setCell_same w R _ _ t v h]; rfl)
theorem four_far {w : World} {R N j : Nat} {t : TypeId} {c0 c1 c2 c3 : Value} (h : Four w R t c0 c1 c2 c3) (hn : R ≠ N) (v : Value) : Four (w.setCell ⟨N, j, none⟩ v) R t c0 c1 c2 c3 := (Below.heap_setCell w ⟨N, j, none⟩ v R hn).trans h
theorem owns_put {w : World} {base N j : Nat} {e t : TypeId} {u : Value} {n : Nat} {xs : List Value} {c0 c1 c2 c3 : Value} (h : w.ownsRow base e 1 u n xs) (hF : Four w N t c0 c1 c2 c3) (hne : t ≠ e) (v : Value) : (w.setCell ⟨N, j, none⟩ v).ownsRow base e 1 u n xs := by
  obtain ⟨h1, h2⟩ := h
  refine ⟨h1, ?_⟩
  rcases h2 with h2 | ⟨g, cap, cur, a, b, c, d⟩
  · exact .inl h2
  · have hg : g ≠ N := fun e1 => by
      subst e1
      unfold Four at hF
      rw [c] at hF
      simp only [Option.some.injEq, Obj.cells.injEq] at hF
      exact hne hF.2.1.symm
    exact .inr ⟨g, cap, cur, a, b, by rw [Below.heap_setCell _ _ _ _ hg]; exact c, d⟩
theorem row_four {w : World} {base N : Nat} {e t : TypeId} {u : Value} {n : Nat} {xs : List Value} {c0 c1 c2 c3 : Value} (h : w.ownsRow base e 1 u n xs) (hF : Four w N t c0 c1 c2 c3) (hne : t ≠ e) : u.ownBlock ≠ some N := by
  rcases h.2 with ⟨rfl, _⟩ | ⟨g, cap, cur, rfl, b, c, d⟩
  · simp [Value.ownBlock]
  · intro e1
    simp only [Value.ownBlock, Option.some.injEq] at e1
    subst e1
    unfold Four at hF
    rw [c] at hF
    simp only [Option.some.injEq, Obj.cells.injEq] at hF
    exact hne hF.2.1.symm
theorem grown_put {w0 w : World} {r : Option Nat} {N j : Nat} (h : w0.grownBy w r) (hN : w0.heap.size ≤ N) (v : Value) : w0.grownBy (w.setCell ⟨N, j, none⟩ v) r :=
  ⟨h.os, h.tape, h.output, by simpa [World.setCell] using h.size, fun k hk hne => (Below.heap_setCell w ⟨N, j, none⟩ v k (by simp; omega)).trans (h.block k hk hne)⟩
/-- What is drawn is small. -/
def smallP (n : Nat) (ps : List ByteArray) : Prop := ps.length ≤ n ∧ ∀ t ∈ ps, t.size ≤ 9
def pre1 : List ByteArray := [⟨#[48]⟩, ⟨#[49]⟩, ⟨#[49, 48]⟩, ⟨#[97]⟩, ⟨#[114, 99]⟩, ⟨#[98, 45, 49]⟩]
def pre2 : List ByteArray := [⟨#[48]⟩, ⟨#[50]⟩, ⟨#[120]⟩]
theorem pre1_small : ∀ t ∈ pre1, t.size ≤ 9 := by decide +kernel
theorem pre2_small : ∀ t ∈ pre2, t.size ≤ 9 := by decide +kernel

theorem grown_drewl {a b : World} {r : Option Nat} (h : a.drew.grownBy b r) : a.grownBy b r := ⟨h.os, h.tape, h.output, h.size, h.block⟩

/-- A drawn version: its numbers are at most 2. -/
def small3 (a b c : Int) (ps : List ByteArray) : Prop := smallP 2 ps ∧ (0 ≤ a ∧ a ≤ 2) ∧ (0 ≤ b ∧ b ≤ 2) ∧ (0 ≤ c ∧ c ≤ 2)

end Go.Proofs.Ytablcicfagmhpaa

/-! What the function that draws any version answers: a contract for the walks: a version in memory of its own, of no more than four short texts; conditions: the code lies in memory as told. -/
namespace Go.Proofs.Ytablcicfagmhpaa
open Go.RowKit
set_option linter.unusedSimpArgs false
set_option linter.unusedVariables false
attribute [local go_sem ↓] Go.wp_at_zero Go.wp_at_succ

def bentInts : List Int := [-1, 9999, 10000]
def cutInts : List Int := [3, 4]
def bentPre : List ByteArray := [⟨#[]⟩, ⟨#[48, 49]⟩, ⟨#[110, 105, 110, 101, 45, 98, 121, 116, 101]⟩, ⟨#[97, 95]⟩, ⟨#[48, 48]⟩, ⟨#[101, 105, 103, 104, 116, 45, 98, 121]⟩]
def abcd : List ByteArray := [⟨#[97]⟩, ⟨#[98]⟩, ⟨#[99]⟩, ⟨#[100]⟩]
theorem bentPre_small : ∀ t ∈ bentPre, t.size ≤ 9 := by decide +kernel
theorem abcd_small : ∀ t ∈ abcd, t.size ≤ 9 := by decide +kernel

theorem own_lower {w : World} {base base' : Nat} {e : TypeId} {v : Value} {n : Nat} {xs : List Value} (h : w.ownsRow base e 1 v n xs) (hb : base' ≤ base) : w.ownsRow base' e 1 v n xs := by
  obtain ⟨h1, h2⟩ := h
  refine ⟨h1, ?_⟩
  rcases h2 with h2 | ⟨g, cap, cur, a, b, c⟩
  · exact .inl h2
  · exact .inr ⟨g, cap, cur, a, Nat.le_trans hb b, c⟩
theorem small_more {ps : List ByteArray} (h : smallP 2 ps) : smallP 4 ps := ⟨by have := h.1; omega, h.2⟩
theorem small_snoc {ps : List ByteArray} {t : ByteArray} (h : smallP 2 ps) (ht : t.size ≤ 9) : smallP 4 (ps ++ [t]) := ⟨by have := h.1; simp; omega, fun x hx => by
  rcases List.mem_append.1 hx with h1 | h1
  · exact h.2 x h1
  · simp at h1; subst h1; exact ht⟩
theorem row_take {w : World} {base : Nat} {e : TypeId} {g n k cap : Nat} {xs : List Value} (h : w.ownsRow base e 1 (.slice (some ⟨g, 0, none⟩) n cap) n xs) (hk : k ≤ n) : w.ownsRow base e 1 (.slice (some ⟨g, 0, none⟩) k cap) k (xs.take k) := by
  have hl := h.1
  rcases h.2 with ⟨h, _⟩ | ⟨g', cap', cur, hv, hb, hg, hn, hc, hs, ht⟩
  · cases h
  · cases hv
    refine ⟨by simp; omega, .inr ⟨g, cap, cur, rfl, hb, hg, by omega, hc, hs, ?_⟩⟩
    rw [← ht, List.take_take, Nat.mul_one, Nat.mul_one, Nat.min_eq_left hk]

end Go.Proofs.Ytablcicfagmhpaa

/-! What the functions that copy and draw versions answer: contracts for the walks; conditions: what comes in lies in memory as told. -/
namespace Go.Proofs.Ytablcicfagmhpaa
open Go.RowKit
set_option linter.unusedSimpArgs false
set_option linter.unusedVariables false
attribute [local go_sem ↓] Go.wp_at_zero Go.wp_at_succ

theorem four_put4 {w : World} {R N : Nat} {t : TypeId} {c0 c1 c2 c3 : Value} (h : Four w R t c0 c1 c2 c3) (hn : R ≠ N) (v0 v1 v2 v3 : Value) : Four ((((w.setCell ⟨N, 0, none⟩ v0).setCell ⟨N, 1, none⟩ v1).setCell ⟨N, 2, none⟩ v2).setCell ⟨N, 3, none⟩ v3) R t c0 c1 c2 c3 :=
  four_far (four_far (four_far (four_far h hn v0) hn v1) hn v2) hn v3
theorem owns_put4 {w : World} {base N : Nat} {e t : TypeId} {u : Value} {n : Nat} {xs : List Value} {c0 c1 c2 c3 : Value} (hO : w.ownsRow base e 1 u n xs) (hF : Four w N t c0 c1 c2 c3) (hne : t ≠ e) (v0 v1 v2 v3 : Value) :
    ((((w.setCell ⟨N, 0, none⟩ v0).setCell ⟨N, 1, none⟩ v1).setCell ⟨N, 2, none⟩ v2).setCell ⟨N, 3, none⟩ v3).ownsRow base e 1 u n xs :=
  owns_put (owns_put (owns_put (owns_put hO hF hne v0) (four_put hF v0).1 hne v1) (four_put (four_put hF v0).1 v1).2.1 hne v2) (four_put (four_put (four_put hF v0).1 v1).2.1 v2).2.2.1 hne v3
theorem below_put4 {B : Nat} {w0 w : World} {N : Nat} (h : Below B w0 w) (hN : B ≤ N) (v0 v1 v2 v3 : Value) : Below B w0 ((((w.setCell ⟨N, 0, none⟩ v0).setCell ⟨N, 1, none⟩ v1).setCell ⟨N, 2, none⟩ v2).setCell ⟨N, 3, none⟩ v3) :=
  (((h.setCell (by simpa using hN) _).setCell (by simpa using hN) _).setCell (by simpa using hN) _).setCell (by simpa using hN) _

theorem four_three (w : World) (t : TypeId) (a0 a1 a2 a3 b0 b1 b2 b3 c0 c1 c2 c3 : Value) : Four (((w.alloc (.cells #[a0, a1, a2, a3] t)).alloc (.cells #[b0, b1, b2, b3] t)).alloc (.cells #[c0, c1, c2, c3] t)) w.heap.size t a0 a1 a2 a3 ∧ Four (((w.alloc (.cells #[a0, a1, a2, a3] t)).alloc (.cells #[b0, b1, b2, b3] t)).alloc (.cells #[c0, c1, c2, c3] t)) (w.heap.size + 1) t b0 b1 b2 b3 ∧ Four (((w.alloc (.cells #[a0, a1, a2, a3] t)).alloc (.cells #[b0, b1, b2, b3] t)).alloc (.cells #[c0, c1, c2, c3] t)) (w.heap.size + 1 + 1) t c0 c1 c2 c3 := by
  obtain ⟨h1, h2⟩ := four_two w t t a0 a1 a2 a3 b0 b1 b2 b3
  refine ⟨four_old h1 _, four_old h2 _, ?_⟩
  have h := four_new ((w.alloc (.cells #[a0, a1, a2, a3] t)).alloc (.cells #[b0, b1, b2, b3] t)) t c0 c1 c2 c3
  have s2 : ∀ o o', ((w.alloc o).alloc o').heap.size = w.heap.size + 1 + 1 := fun o o' => by simp
  rw [s2] at h
  exact h

set_option maxHeartbeats 2000000 in
set_option maxRecDepth 100000 in
theorem copy_c (a b c : Int) (u : Value) (ps : List ByteArray) (base : Nat) (w : World) (hu : w.ownsRow base 9 1 u ps.length (strsV ps)) (hn : ps.length ≤ 1048576) :
    Calls Try.prog 27 #[.agg #[.int .i64 a, .int .i64 b, .int .i64 c, u]] w fun e w' => ∃ u', e = .returned (.agg #[.int .i64 a, .int .i64 b, .int .i64 c, u']) ∧ w'.ownsRow w.heap.size 9 1 u' ps.length (strsV ps) ∧ Below w.heap.size w w' := by
  obtain ⟨i0, hi, hz0, hz1, hz2⟩ := info_parts infoS
  have hb3 : ∀ A R O, Below w.heap.size w (((w.alloc A).alloc R).alloc O) := fun A R O => (((Below.refl _ _).alloc (Nat.le_refl _) _).alloc (by simp) _).alloc (by simp; omega) _
  have hs3 : ∀ A R O, (((w.alloc A).alloc R).alloc O).heap.size = w.heap.size + 1 + 1 + 1 := fun A R O => by simp
  have LIT : Hid (∀ A R O, ((((w.alloc A).alloc R).alloc O).alloc (.cells #[] 9)).ownsRow w.heap.size 9 1 (.slice (some ⟨w.heap.size + 1 + 1 + 1, 0, none⟩) 0 0) 0 []) := fun A R O => by
    have ho := World.ownsRow_lit (((w.alloc A).alloc R).alloc O) #[] 0 (base := w.heap.size) (e := 9) (size := 1) (hb3 _ _ _).size (by unfold maxLen; omega) rfl
    rw [hs3] at ho
    exact ho
  have hb4 : ∀ A R O, Below w.heap.size w ((((w.alloc A).alloc R).alloc O).alloc (.cells #[] 9)) := fun A R O => (hb3 A R O).alloc (hb3 A R O).size _
  rcases hu.2 with ⟨rfl, h0⟩ | ⟨gu, cap, cur, rfl, hgu, hgh, _⟩
  · have hps : ps = [] := List.eq_nil_of_length_eq_zero h0
    subst hps
    clear hu
    go_enter Try.func27, Try.ntmps27
    go_wp2_with (at_builtin; refine wpList_append_own_none rfl _ _ 31 rfl w.heap.size 9 i0 1 Try.underlying31 hi (.slice (some ⟨w.heap.size + 1 + 1 + 1, 0, none⟩) 0 0) 0 [] rfl (LIT.out _ _ _) rfl ?_)
    exact bodyPost_ret (v := .agg #[.int .i64 a, .int .i64 b, .int .i64 c, .slice (some ⟨w.heap.size + 1 + 1 + 1, 0, none⟩) 0 0]) (by simp [results, Try.results27, go_sem]) rfl ⟨_, rfl, LIT.out _ _ _, hb4 _ _ _⟩
  · have hgl : gu < w.heap.size := (Array.getElem?_eq_some_iff.1 hgh).1
    obtain ⟨F0, F1, F2⟩ := four_three w 37 (.int .i64 a) (.int .i64 b) (.int .i64 c) (.slice (some ⟨gu, 0, none⟩) ps.length cap) (.int .i64 0) (.int .i64 0) (.int .i64 0) (.slice none 0 0) (.int .i64 a) (.int .i64 b) (.int .i64 c) (.slice (some ⟨gu, 0, none⟩) ps.length cap)
    have G1 := four_old F1 (.cells #[] 9)
    have G2 := four_old F2 (.cells #[] 9)
    have KB := hb4 (.cells #[.int .i64 a, .int .i64 b, .int .i64 c, .slice (some ⟨gu, 0, none⟩) ps.length cap] 37) (.cells #[.int .i64 0, .int .i64 0, .int .i64 0, .slice none 0 0] 37) (.cells #[.int .i64 a, .int .i64 b, .int .i64 c, .slice (some ⟨gu, 0, none⟩) ps.length cap] 37)
    have HN : Hid (∀ j u, (strsV ps)[j]? = some u → ((((w.alloc (.cells #[.int .i64 a, .int .i64 b, .int .i64 c, .slice (some ⟨gu, 0, none⟩) ps.length cap] 37)).alloc (.cells #[.int .i64 0, .int .i64 0, .int .i64 0, .slice none 0 0] 37)).alloc (.cells #[.int .i64 a, .int .i64 b, .int .i64 c, .slice (some ⟨gu, 0, none⟩) ps.length cap] 37)).alloc (.cells #[] 9)).cell? ((⟨gu, 0, none⟩ : Addr).add j) = some u) := fun j x hx => by
      have hj : j < ps.length := by have := (List.getElem?_eq_some_iff.1 hx).1; simpa using this
      have e : ((⟨gu, 0, none⟩ : Addr).add j) = ⟨gu, j, none⟩ := by unfold Addr.add; split <;> simp_all
      rw [e, KB.cell (p := ⟨gu, j, none⟩) hgl, hu.cellAt j (by simpa using hj), hx]
    clear F0 F1 F2 hgh
    go_enter Try.func27, Try.ntmps27
    go_wp2_with (at_builtin; refine wpList_append_own _ rfl _ _ 31 rfl w.heap.size 9 i0 (.string ⟨#[]⟩) 1 16 Try.underlying31 hi hz0 hz1 hz2 rfl (by decide) (.slice (some ⟨w.heap.size + 1 + 1 + 1, 0, none⟩) 0 0) 0 [] rfl (LIT.out _ _ _) ⟨gu, 0, none⟩ ps.length cap (strsV ps) rfl (by simp) HN.out (fun u hu => by simp [strsV] at hu; obtain ⟨t, _, rfl⟩ := hu; rfl) (by unfold maxLen; omega) (by omega) KB.size ?_)
    intro v2 w2 o2 gr2 _
    have X1 := G1.turned gr2 (fun h => by simp only [Value.ownBlock, Option.some.injEq] at h; omega)
    have X2 := G2.turned gr2 (fun h => by simp only [Value.ownBlock, Option.some.injEq] at h; omega)
    have KB2 := below_turned KB gr2 KB.size (fun k hk => by simp [Value.ownBlock] at hk; omega)
    obtain ⟨q2, n2, c2, hv2⟩ : ∃ q n c, v2 = .slice q n c := by rcases o2.2 with ⟨rfl, _⟩ | ⟨g, cap, cur, rfl, _⟩ <;> exact ⟨_, _, _, rfl⟩
    subst hv2
    have o3 : w2.ownsRow w.heap.size 9 1 (.slice q2 n2 c2) ps.length (strsV ps) := by simpa using o2
    obtain ⟨x0, x1, x2, x3⟩ := X1.cells
    have fx := X1.ice
    obtain ⟨y0, y1, y2, y3⟩ := X2.cells
    have fy := X2.ice
    clear gr2 o2 G1 G2 HN hu KB
    have O4 := owns_put (j := 3) o3 X2 (by decide) (.slice q2 n2 c2)
    have Y1 := four_far (N := w.heap.size + 1 + 1) (j := 3) X1 (by omega) (.slice q2 n2 c2)
    have KB3 := KB2.setCell (p := ⟨w.heap.size + 1 + 1, 3, none⟩) (by simp; omega) (.slice q2 n2 c2)
    go_wp2_with fail
    refine bodyPost_ret (v := .agg #[.int .i64 a, .int .i64 b, .int .i64 c, .slice q2 n2 c2]) (by simp [results, Try.results27, go_sem, x0, x1, x2, x3]) rfl ⟨_, rfl, ?_, ?_⟩
    · exact owns_put4 O4 Y1 (by decide) _ _ _ _
    · exact below_put4 KB3 (by omega) _ _ _ _

end Go.Proofs.Ytablcicfagmhpaa
