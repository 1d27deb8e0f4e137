/-
  Contracts for the walks, several texts in one: each part says what it proves, and under which conditions.
-/
import Derived.Deep.RegionHeld
import Derived.Test.YtablcicfagmhpaaQ6
import Derived.Test.YtablcicfagmhpaaQ4
import Derived.Test.YtablcicfagmhpaaQ1

/-! The sort by insertion of a part of a list of entries, newest first: a contract for the walk; conditions: the row may be written, each Pre holds no more than 2 to the 20, and the row no more than 2 to the 40. -/
namespace Go.Proofs.Ytablcicfagmhpaa
open Go.RowKit
set_option linter.unusedSimpArgs false
set_option linter.unusedVariables false

set_option maxHeartbeats 16000000 in
set_option maxRecDepth 100000 in
theorem insB_c (B g cap N p q : Nat) (P X R : List EC) (w : World) (hp : p = P.length) (hq : q = p + X.length) (hN : N = q + R.length) (hr : RowE B w (.slice (some ⟨g, 0, none⟩) N cap) (P ++ (X ++ R))) (hB : B ≤ w.heap.size) (hn : N ≤ 1099511627776) (hw : ∀ x ∈ X, bulkS x.d.vP ≤ 1048576) :
    Calls Try.prog 47 #[.slice (some ⟨g, 0, none⟩) N cap, .int .i64 (p : Int), .int .i64 (q : Int), .func (.func 17) #[] #[]] w fun e w' => e = .returned (.tuple #[]) ∧ RowE B w' (.slice (some ⟨g, 0, none⟩) N cap) (P ++ (sortC X ++ R)) ∧ Below B w w' := by
  have hgB : B ≤ g := (hr.1.lt g rfl).1
  have HW := hidden hw
  have HPL := hidden hp
  have HR0 : Hid (RowE B w (.slice (some ⟨g, 0, none⟩) N cap) (P ++ ((sortC (X.take 1) ++ X.drop 1) ++ R))) := by rw [sortC_one]; exact hr
  have a1 : q ≤ p + X.length := by omega
  have a2 : p + X.length ≤ q := by omega
  have a3 : N ≤ q + R.length := by omega
  have a4 : q + R.length ≤ N := by omega
  clear hw hr hp hq hN
  go_enter Try.func47, Try.ntmps47
  go_wp2_with fail
  go_loopw [8] (fun vi wr => ∃ i : Nat, vi = .int .i64 ((p + i : Nat) : Int) ∧ (i ≤ X.length ∨ i = 1) ∧ Hid (RowE B wr (.slice (some ⟨g, 0, none⟩) N cap) (P ++ ((sortC (X.take i) ++ X.drop i) ++ R))) ∧ Hid (Below B w wr)) (fun vi _ => q + 1 - (intOf vi).toNat)
  case atStart => exact ⟨1, by go_num, .inr rfl, HR0, Below.refl _ _⟩
  case round =>
    clear HR0
    obtain ⟨wo, hwo⟩ : ∃ wo, wo = wr := ⟨_, rfl⟩
    subst hwo
    obtain ⟨i, rfl, hi, HRO, HBO⟩ := hrel
    obtain ⟨i9, hi9⟩ : ∃ a, a = p + i := ⟨_, rfl⟩
    rw [← hi9]
    by_cases hlt : i < X.length
    case neg =>
      have hq : ¬ (i9 : Int) < (q : Int) := by omega
      have HE : Hid (RowE B wo (.slice (some ⟨g, 0, none⟩) N cap) (P ++ (sortC X ++ R)) ∧ Below B w wo) := by
        refine ⟨?_, HBO.out⟩
        have h9 := HRO.out
        rw [List.take_of_length_le (by omega), List.drop_eq_nil_of_le (by omega), List.append_nil] at h9
        exact h9
      clear HRO HBO hi9
      go_wp2_with fail
      go_end0
      exact ⟨rfl, HE.out⟩
    case pos =>
    have hq : (i9 : Int) < (q : Int) := by omega
    have hal : (sortC (X.take i)).length = i := by rw [sortC_len, List.length_take]; omega
    have HST := hidden (sortC_step X i hlt)
    have HDR : Hid (P ++ ((sortC (X.take i) ++ X.drop i) ++ R) = P ++ (holeC (sortC (X.take i)) i X[i] ++ (X.drop (i + 1) ++ R))) := by
      show _ = _
      have hdn : (sortC (X.take i)).drop i = [] := List.drop_eq_nil_of_le (by omega)
      unfold holeC
      rw [List.take_of_length_le (l := sortC (X.take i)) (i := i) (by omega), hdn, List.drop_eq_getElem_cons hlt]
      simp only [List.append_nil, List.append_assoc, List.cons_append, List.nil_append]
    have HWA : Hid (∀ p ∈ sortC (X.take i), bulkS p.d.vP ≤ 1048576) := fun p hp => HW.out p (List.mem_of_mem_take (sortC_mem hp))
    have hbx0 : bulkS X[i].d.vP ≤ 1048576 := HW.out _ (List.getElem_mem hlt)
    have hll : p + ((sortC (X.take i)).length + 1 + (X.drop (i + 1) ++ R).length) = N := by rw [hal, List.length_append, List.length_drop]; omega
    obtain ⟨ac, hac⟩ : ∃ ac, ac = sortC (X.take i) := ⟨_, rfl⟩
    obtain ⟨xx, hx⟩ : ∃ x, x = X[i] := ⟨_, rfl⟩
    obtain ⟨rs, hrs⟩ : ∃ rs, rs = X.drop (i + 1) ++ R := ⟨_, rfl⟩
    rw [HDR.out] at HRO
    rw [← hac, ← hx, ← hrs] at HRO
    rw [← hac] at hal HWA HST
    rw [← hx] at HST hbx0
    rw [← hac, ← hrs] at hll
    have HRS := hidden hrs
    have hac1 : ac.length ≤ i := by omega
    have hac2 : i ≤ ac.length := by omega
    have hN1 : p + (ac.length + 1 + rs.length) ≤ N := by omega
    have hN2 : N ≤ p + (ac.length + 1 + rs.length) := by omega
    have hi1 : i9 ≤ p + i := by omega
    have hi2 : p + i ≤ i9 := by omega
    clear HDR hac hx hrs hal hll hi9
    go_wp2_with fail
    go_loopw [9] (fun vk wr => ∃ k : Nat, k ≤ i ∧ vk = .int .i64 ((p + k : Nat) : Int) ∧ Hid (posR lessC ac xx ac.length = posR lessC ac xx k) ∧ Hid (RowE B wr (.slice (some ⟨g, 0, none⟩) N cap) (P ++ (holeC ac k xx ++ rs))) ∧ Hid (Below B w wr)) (fun vk _ => (intOf vk).toNat)
    case atStart => exact ⟨i, Nat.le_refl _, by congr 1; omega, (by show _ = _; rw [show ac.length = i by omega]), HRO, HBO⟩
    case round =>
      clear HRO HBO
      obtain ⟨k, hk, rfl, HP, HROW, HBR⟩ := hrel
      rcases k with _ | k
      · rw [show p + 0 = p from rfl]
        have hb6 := HBR.out.drew
        have hrw6 := HROW.out.below ((Below.refl _ _).drew)
        have hpp : ¬ (p : Int) < (p : Int) := by omega
        have HFIN : Hid (RowE B wr.drew (.slice (some ⟨g, 0, none⟩) N cap) (P ++ ((sortC (X.take (i + 1)) ++ X.drop (i + 1)) ++ R))) := by
          have h9 : holeC ac 0 xx = insG lessC ac xx := by unfold insG; rw [HP.out]; rfl
          rw [HST.out, ← h9, List.append_assoc, ← HRS.out]
          exact hrw6
        have HBL := hidden hb6
        clear hb6 hrw6
        go_wp2_with fail
        refine wp_region_held_drew (S := (fun _ => True)) (by kernel_rfl) ?SR10 (fun hHeld => ?_)
        case SR10 => (exact True.intro)
        refine wpAnyH_take (i := 0) (oi := _) (v := ?vR10) rfl (by kernel_rfl) (by kernel_rfl) (by kernel_rfl) (fun _ _ _ h => h) (Or.inl ⟨by rfl, ?yR10⟩) hHeld ?_
        case yR10 => (intro w hSw; (try dsimp only at hSw); go_simp <;> with_reducible rfl)
        try simp only [Act.put, List.getElem_toArray, List.getElem_cons_zero, List.getElem_cons_succ, List.setIfInBounds_toArray, List.set_cons_zero, List.set_cons_succ]
        refine wpAnyH_take (i := 1) (oi := _) (v := ?vR11) rfl (by kernel_rfl) (by kernel_rfl) (by kernel_rfl) (fun _ _ _ h => h) (Or.inl ⟨by rfl, ?yR11⟩) hHeld ?_
        case yR11 => (intro w hSw; (try dsimp only at hSw); go_simp <;> with_reducible rfl)
        try simp only [Act.put, List.getElem_toArray, List.getElem_cons_zero, List.getElem_cons_succ, List.setIfInBounds_toArray, List.set_cons_zero, List.set_cons_succ]
        refine wpAnyH_take (i := 2) (oi := _) (v := ?vR12) rfl (by kernel_rfl) (by kernel_rfl) (by kernel_rfl) (fun _ _ _ h => h) (Or.inl ⟨by rfl, ?yR12⟩) hHeld ?_
        case yR12 => (intro w hSw; (try dsimp only at hSw); go_simp <;> with_reducible rfl)
        try simp only [Act.put, List.getElem_toArray, List.getElem_cons_zero, List.getElem_cons_succ, List.setIfInBounds_toArray, List.set_cons_zero, List.set_cons_succ]
        refine wpAnyH_take (i := 3) (oi := _) (v := ?vR13) rfl (by kernel_rfl) (by kernel_rfl) (by kernel_rfl) (fun _ _ _ h => h) (Or.inl ⟨by rfl, ?yR13⟩) hHeld ?_
        case yR13 => (intro w hSw; (try dsimp only at hSw); go_simp <;> with_reducible rfl)
        try simp only [Act.put, List.getElem_toArray, List.getElem_cons_zero, List.getElem_cons_succ, List.setIfInBounds_toArray, List.set_cons_zero, List.set_cons_succ]
        refine wpAnyH_take (i := 4) (oi := _) (v := undef) rfl (by kernel_rfl) (by kernel_rfl) (by kernel_rfl) (fun _ _ _ h => h) (Or.inr ⟨by rfl, rfl⟩) hHeld ?_
        try simp only [Act.put, List.getElem_toArray, List.getElem_cons_zero, List.getElem_cons_succ, List.setIfInBounds_toArray, List.set_cons_zero, List.set_cons_succ]
        refine wpAnyH_take (i := 5) (oi := _) (v := undef) rfl (by kernel_rfl) (by kernel_rfl) (by kernel_rfl) (fun _ _ _ h => h) (Or.inr ⟨by rfl, rfl⟩) hHeld ?_
        try simp only [Act.put, List.getElem_toArray, List.getElem_cons_zero, List.getElem_cons_succ, List.setIfInBounds_toArray, List.set_cons_zero, List.set_cons_succ]
        refine wpAnyH_take (i := 6) (oi := _) (v := undef) rfl (by kernel_rfl) (by kernel_rfl) (by kernel_rfl) (fun _ _ _ h => h) (Or.inr ⟨by rfl, rfl⟩) hHeld ?_
        try simp only [Act.put, List.getElem_toArray, List.getElem_cons_zero, List.getElem_cons_succ, List.setIfInBounds_toArray, List.set_cons_zero, List.set_cons_succ]
        refine wpAnyH_take (i := 7) (oi := _) (v := undef) rfl (by kernel_rfl) (by kernel_rfl) (by kernel_rfl) (fun _ _ _ h => h) (Or.inr ⟨by rfl, rfl⟩) hHeld ?_
        try simp only [Act.put, List.getElem_toArray, List.getElem_cons_zero, List.getElem_cons_succ, List.setIfInBounds_toArray, List.set_cons_zero, List.set_cons_succ]
        refine wpAnyH_take (i := 8) (oi := _) (v := undef) rfl (by kernel_rfl) (by kernel_rfl) (by kernel_rfl) (fun _ _ _ h => h) (Or.inr ⟨by rfl, rfl⟩) hHeld ?_
        try simp only [Act.put, List.getElem_toArray, List.getElem_cons_zero, List.getElem_cons_succ, List.setIfInBounds_toArray, List.set_cons_zero, List.set_cons_succ]
        refine wpAnyH_take (i := 9) (oi := _) (v := undef) rfl (by kernel_rfl) (by kernel_rfl) (by kernel_rfl) (fun _ _ _ h => h) (Or.inr ⟨by rfl, rfl⟩) hHeld ?_
        try simp only [Act.put, List.getElem_toArray, List.getElem_cons_zero, List.getElem_cons_succ, List.setIfInBounds_toArray, List.set_cons_zero, List.set_cons_succ]
        refine wpAnyH_take (i := 10) (oi := _) (v := undef) rfl (by kernel_rfl) (by kernel_rfl) (by kernel_rfl) (fun _ _ _ h => h) (Or.inr ⟨by rfl, rfl⟩) hHeld ?_
        try simp only [Act.put, List.getElem_toArray, List.getElem_cons_zero, List.getElem_cons_succ, List.setIfInBounds_toArray, List.set_cons_zero, List.set_cons_succ]
        refine wpAnyH_take (i := 11) (oi := _) (v := undef) rfl (by kernel_rfl) (by kernel_rfl) (by kernel_rfl) (fun _ _ _ h => h) (Or.inr ⟨by rfl, rfl⟩) hHeld ?_
        try simp only [Act.put, List.getElem_toArray, List.getElem_cons_zero, List.getElem_cons_succ, List.setIfInBounds_toArray, List.set_cons_zero, List.set_cons_succ]
        refine wpAnyH_take (i := 12) (oi := _) (v := undef) rfl (by kernel_rfl) (by kernel_rfl) (by kernel_rfl) (fun _ _ _ h => h) (Or.inr ⟨by rfl, rfl⟩) hHeld ?_
        try simp only [Act.put, List.getElem_toArray, List.getElem_cons_zero, List.getElem_cons_succ, List.setIfInBounds_toArray, List.set_cons_zero, List.set_cons_succ]
        refine wpAnyH_take (i := 13) (oi := _) (v := undef) rfl (by kernel_rfl) (by kernel_rfl) (by kernel_rfl) (fun _ _ _ h => h) (Or.inr ⟨by rfl, rfl⟩) hHeld ?_
        try simp only [Act.put, List.getElem_toArray, List.getElem_cons_zero, List.getElem_cons_succ, List.setIfInBounds_toArray, List.set_cons_zero, List.set_cons_succ]
        refine wpAnyH_take (i := 14) (oi := _) (v := undef) rfl (by kernel_rfl) (by kernel_rfl) (by kernel_rfl) (fun _ _ _ h => h) (Or.inr ⟨by rfl, rfl⟩) hHeld ?_
        try simp only [Act.put, List.getElem_toArray, List.getElem_cons_zero, List.getElem_cons_succ, List.setIfInBounds_toArray, List.set_cons_zero, List.set_cons_succ]
        refine wpAnyH_take (i := 15) (oi := _) (v := undef) rfl (by kernel_rfl) (by kernel_rfl) (by kernel_rfl) (fun _ _ _ h => h) (Or.inr ⟨by rfl, rfl⟩) hHeld ?_
        try simp only [Act.put, List.getElem_toArray, List.getElem_cons_zero, List.getElem_cons_succ, List.setIfInBounds_toArray, List.set_cons_zero, List.set_cons_succ]
        refine wpAnyH_take (i := 16) (oi := _) (v := ?vR116) rfl (by kernel_rfl) (by kernel_rfl) (by kernel_rfl) (fun _ _ _ h => h) (Or.inl ⟨by rfl, ?yR116⟩) hHeld ?_
        case yR116 => (intro w hSw; (try dsimp only at hSw); go_simp <;> with_reducible rfl)
        try simp only [Act.put, List.getElem_toArray, List.getElem_cons_zero, List.getElem_cons_succ, List.setIfInBounds_toArray, List.set_cons_zero, List.set_cons_succ]
        refine wpAnyH_done (by kernel_rfl) ?_ _
        go_wp2_with fail
        go_roundw
        case rel => exact ⟨i + 1, by first | go_num | (congr 1; omega), by omega, HFIN, HBL⟩
        case measure => simp [intOf]; omega
      · obtain ⟨I, hI⟩ : ∃ I, I = p + (k + 1) := ⟨_, rfl⟩
        obtain ⟨J, hJ⟩ : ∃ J, J = p + k := ⟨_, rfl⟩
        rw [← hI]
        have hkl : k < ac.length := by omega
        obtain ⟨Q, hQ⟩ : ∃ Q, Q = P ++ (holeC ac (k + 1) xx ++ rs) := ⟨_, rfl⟩
        have hL : N = Q.length := by rw [hQ, List.length_append, List.length_append, hole_len _ _ _ (by omega), ← HPL.out]; omega
        obtain ⟨x, hx⟩ : ∃ x, x = xx := ⟨_, rfl⟩
        obtain ⟨yc, hyq⟩ : ∃ y, y = ac[k]'hkl := ⟨_, rfl⟩
        have hxI : Q[I]? = some x := by rw [hQ, hI, hx]; exact holeP_self P ac rs (k + 1) p xx HPL.out (by omega)
        have hyJ : Q[J]? = some yc := by rw [hQ, hJ, hyq]; exact holeP_at P ac rs k p xx HPL.out hkl
        have hbx : bulkS x.d.vP ≤ 1048576 := by rw [hx]; exact hbx0
        have hby : bulkS yc.d.vP ≤ 1048576 := by rw [hyq]; exact HWA.out _ (List.getElem_mem hkl)
        have HSW : Hid ((Q.set I yc).set J x = P ++ (holeC ac k xx ++ rs)) := by
          show _ = _
          rw [hQ, hI, hJ, hx, hyq]
          exact hole_left P ac rs k p xx HPL.out hkl
        have HPO : Hid (posR lessC ac xx (k + 1) = if lessC yc x = true then posR lessC ac xx k else k + 1) := by
          show _ = _
          rw [posR_step lessC ac xx k hkl, hyq, hx]
        have HXI := hidden hxI
        have HYJ := hidden hyJ
        rw [← hQ] at HROW
        have HQE := hidden hQ
        have hAJ : (I : Int) - 1 = (J : Int) := by omega
        have hI0 : (0 : Int) ≤ (I : Int) := by omega
        have hJ0 : (0 : Int) ≤ (J : Int) := by omega
        have hI1 : (I : Int) < (N : Int) := by omega
        have hJ1 : (J : Int) < (N : Int) := by omega
        have hIw : IntKind.i64.wrap (I : Int) = (I : Int) := IntWalk.i64_in _ ⟨by omega, by omega⟩
        have hJw : IntKind.i64.wrap (J : Int) = (J : Int) := IntWalk.i64_in _ ⟨by omega, by omega⟩
        have hI2 : I < N := by omega
        have hJ2 : J < N := by omega
        have hIJ0 : J < I := by omega
        have hpI : (p : Int) < (I : Int) := by omega
        have HIN := hidden hI
        have HJN := hidden hJ
        clear hQ hx hyq hI hJ
        have hxo : EntOwn wr x := HROW.out.2 _ (List.mem_of_getElem? hxI)
        have hyo : EntOwn wr yc := HROW.out.2 _ (List.mem_of_getElem? hyJ)
        obtain ⟨q0, c0, q1, c1, f0, f1⟩ := ent_slices hxo
        obtain ⟨s0, t0, s1, t1, y0, y1⟩ := ent_slices hyo
        have hxc : ∀ j, j < 6 → wr.cell? ⟨g, I * 6 + j, none⟩ = (x.cells)[j]? := fun j hj => HROW.out.cellQ hL hxI j hj
        have hyc : ∀ j, j < 6 → wr.cell? ⟨g, J * 6 + j, none⟩ = (yc.cells)[j]? := fun j hj => HROW.out.cellQ hL hyJ j hj
        obtain ⟨d, hd⟩ : ∃ d, d = x.d := ⟨_, rfl⟩
        obtain ⟨y, hy⟩ : ∃ y, y = yc.d := ⟨_, rfl⟩
        have hle : lessE y d = lessC yc x := by unfold lessC; rw [← hd, ← hy]
        rw [← hd] at f0 f1 hbx
        rw [← hy] at y0 y1 hby
        have hxcl : x.cells = [.string d.name, .int .i64 d.vA, .int .i64 d.vB, .int .i64 d.vC, .slice q0 d.vP.length c0, .slice q1 d.needs.length c1] := by unfold EC.cells; rw [f0, f1, ← hd]
        have hycl : yc.cells = [.string y.name, .int .i64 y.vA, .int .i64 y.vB, .int .i64 y.vC, .slice s0 y.vP.length t0, .slice s1 y.needs.length t1] := by unfold EC.cells; rw [y0, y1, ← hy]
        rw [hxcl] at hxc
        rw [hycl] at hyc
        have hrX : Reads wr (.slice q0 d.vP.length c0) (strsV d.vP) := by have h9 := hxo.1; rw [f0, ← hd] at h9; exact reads_of_owns h9
        have hrY : Reads wr (.slice s0 y.vP.length t0) (strsV y.vP) := by have h9 := hyo.1; rw [y0, ← hy] at h9; exact reads_of_owns h9
        have HLS' : ∀ W, Below wr.heap.size wr W → Calls Try.prog 17 #[.agg #[.string d.name, .int .i64 d.vA, .int .i64 d.vB, .int .i64 d.vC, .slice q0 d.vP.length c0, .slice q1 d.needs.length c1], .agg #[.string y.name, .int .i64 y.vA, .int .i64 y.vB, .int .i64 y.vC, .slice s0 y.vP.length t0, .slice s1 y.needs.length t1]] W fun e w' => ∃ m : Int, e = .returned (.int .i64 m) ∧ decide (m < 0) = lessE y d ∧ Below W.heap.size W w' := fun W hW => cmpNew_c d y _ _ _ _ W (hrX.below hW) (hrY.below hW) hbx hby
        rw [hle] at HLS'
        have HLS := hidden HLS'
        have hgr : g < wr.heap.size := (HROW.out.1.lt g rfl).2
        have KEEP' : ∀ W, Below wr.heap.size wr W → W.cell? ⟨g, I * 6, none⟩ = some (.string d.name) ∧ W.cell? ⟨g, I * 6 + 1, none⟩ = some (.int .i64 d.vA) ∧ W.cell? ⟨g, I * 6 + 2, none⟩ = some (.int .i64 d.vB) ∧ W.cell? ⟨g, I * 6 + 3, none⟩ = some (.int .i64 d.vC) ∧ W.cell? ⟨g, I * 6 + 4, none⟩ = some (.slice q0 d.vP.length c0) ∧ W.cell? ⟨g, I * 6 + 5, none⟩ = some (.slice q1 d.needs.length c1) ∧ W.cell? ⟨g, J * 6, none⟩ = some (.string y.name) ∧ W.cell? ⟨g, J * 6 + 1, none⟩ = some (.int .i64 y.vA) ∧ W.cell? ⟨g, J * 6 + 2, none⟩ = some (.int .i64 y.vB) ∧ W.cell? ⟨g, J * 6 + 3, none⟩ = some (.int .i64 y.vC) ∧ W.cell? ⟨g, J * 6 + 4, none⟩ = some (.slice s0 y.vP.length t0) ∧ W.cell? ⟨g, J * 6 + 5, none⟩ = some (.slice s1 y.needs.length t1) := fun W hW => by
          have hY : ∀ j, W.cell? ⟨g, j, none⟩ = wr.cell? ⟨g, j, none⟩ := fun j => hW.cell (p := ⟨g, j, none⟩) hgr
          simp only [hY]
          exact ⟨hxc 0 (by omega), hxc 1 (by omega), hxc 2 (by omega), hxc 3 (by omega), hxc 4 (by omega), hxc 5 (by omega), hyc 0 (by omega), hyc 1 (by omega), hyc 2 (by omega), hyc 3 (by omega), hyc 4 (by omega), hyc 5 (by omega)⟩
        have KEEP := hidden KEEP'
        have hd0 : Below wr.heap.size wr wr.drew := (Below.refl _ _).drew
        have HL := hidden hL
        obtain ⟨bl, hbl⟩ : ∃ b, b = lessC yc x := ⟨_, rfl⟩
        rw [← hbl] at HLS
        have HBLL := hidden hbl
        clear hL KEEP' HLS' hrY hrX hyc hxc hyo hxo y0 y1 f0 f1 hycl hxcl hy hd hbx hby hle hbl hgr
        go_wp2_with fail
        refine wp_region_held_drew (S := (fun W => W.cell? ⟨g, I * 6, none⟩ = some (.string d.name) ∧ W.cell? ⟨g, I * 6 + 1, none⟩ = some (.int .i64 d.vA) ∧ W.cell? ⟨g, I * 6 + 2, none⟩ = some (.int .i64 d.vB) ∧ W.cell? ⟨g, I * 6 + 3, none⟩ = some (.int .i64 d.vC) ∧ W.cell? ⟨g, I * 6 + 4, none⟩ = some (.slice q0 d.vP.length c0) ∧ W.cell? ⟨g, I * 6 + 5, none⟩ = some (.slice q1 d.needs.length c1) ∧ W.cell? ⟨g, J * 6, none⟩ = some (.string y.name) ∧ W.cell? ⟨g, J * 6 + 1, none⟩ = some (.int .i64 y.vA) ∧ W.cell? ⟨g, J * 6 + 2, none⟩ = some (.int .i64 y.vB) ∧ W.cell? ⟨g, J * 6 + 3, none⟩ = some (.int .i64 y.vC) ∧ W.cell? ⟨g, J * 6 + 4, none⟩ = some (.slice s0 y.vP.length t0) ∧ W.cell? ⟨g, J * 6 + 5, none⟩ = some (.slice s1 y.needs.length t1))) (by kernel_rfl) ?SR20 (fun hHeld => ?_)
        case SR20 => (first | (with_reducible exact KEEP.out _ hd1) | (with_reducible exact KEEP.out _ hd0))
        refine wpAnyH_take (i := 0) (oi := _) (v := ?vR20) rfl (by kernel_rfl) (by kernel_rfl) (by kernel_rfl) (fun _ _ _ h => h) (Or.inl ⟨by rfl, ?yR20⟩) hHeld ?_
        case yR20 => (intro w hSw; (try dsimp only at hSw); go_simp <;> with_reducible rfl)
        try simp only [Act.put, List.getElem_toArray, List.getElem_cons_zero, List.getElem_cons_succ, List.setIfInBounds_toArray, List.set_cons_zero, List.set_cons_succ]
        refine wpAnyH_take (i := 1) (oi := _) (v := ?vR21) rfl (by kernel_rfl) (by kernel_rfl) (by kernel_rfl) (fun _ _ _ h => h) (Or.inl ⟨by rfl, ?yR21⟩) hHeld ?_
        case yR21 => (intro w hSw; (try dsimp only at hSw); go_simp <;> with_reducible rfl)
        try simp only [Act.put, List.getElem_toArray, List.getElem_cons_zero, List.getElem_cons_succ, List.setIfInBounds_toArray, List.set_cons_zero, List.set_cons_succ]
        refine wpAnyH_take (i := 2) (oi := _) (v := ?vR22) rfl (by kernel_rfl) (by kernel_rfl) (by kernel_rfl) (fun _ _ _ h => h) (Or.inl ⟨by rfl, ?yR22⟩) hHeld ?_
        case yR22 => (intro w hSw; (try dsimp only at hSw); go_simp <;> with_reducible rfl)
        try simp only [Act.put, List.getElem_toArray, List.getElem_cons_zero, List.getElem_cons_succ, List.setIfInBounds_toArray, List.set_cons_zero, List.set_cons_succ]
        refine wpAnyH_take (i := 3) (oi := _) (v := ?vR23) rfl (by kernel_rfl) (by kernel_rfl) (by kernel_rfl) (fun _ _ _ h => h) (Or.inl ⟨by rfl, ?yR23⟩) hHeld ?_
        case yR23 => (intro w hSw; (try dsimp only at hSw); go_simp <;> with_reducible rfl)
        try simp only [Act.put, List.getElem_toArray, List.getElem_cons_zero, List.getElem_cons_succ, List.setIfInBounds_toArray, List.set_cons_zero, List.set_cons_succ]
        refine wpAnyH_take (i := 4) (oi := _) (v := ?vR24) rfl (by kernel_rfl) (by kernel_rfl) (by kernel_rfl) (fun _ _ _ h => h) (Or.inl ⟨by rfl, ?yR24⟩) hHeld ?_
        case yR24 => (intro w hSw; (try dsimp only at hSw); go_simp <;> with_reducible rfl)
        try simp only [Act.put, List.getElem_toArray, List.getElem_cons_zero, List.getElem_cons_succ, List.setIfInBounds_toArray, List.set_cons_zero, List.set_cons_succ]
        refine wpAnyH_take (i := 5) (oi := _) (v := ?vR25) rfl (by kernel_rfl) (by kernel_rfl) (by kernel_rfl) (fun _ _ _ h => h) (Or.inl ⟨by rfl, ?yR25⟩) hHeld ?_
        case yR25 => (intro w hSw; (try dsimp only at hSw); go_simp <;> with_reducible rfl)
        try simp only [Act.put, List.getElem_toArray, List.getElem_cons_zero, List.getElem_cons_succ, List.setIfInBounds_toArray, List.set_cons_zero, List.set_cons_succ]
        refine wpAnyH_take (i := 6) (oi := _) (v := ?vR26) rfl (by kernel_rfl) (by kernel_rfl) (by kernel_rfl) (fun _ _ _ h => h) (Or.inl ⟨by rfl, ?yR26⟩) hHeld ?_
        case yR26 => (intro w hSw; (try dsimp only at hSw); go_simp <;> with_reducible rfl)
        try simp only [Act.put, List.getElem_toArray, List.getElem_cons_zero, List.getElem_cons_succ, List.setIfInBounds_toArray, List.set_cons_zero, List.set_cons_succ]
        refine wpAnyH_take (i := 7) (oi := _) (v := ?vR27) rfl (by kernel_rfl) (by kernel_rfl) (by kernel_rfl) (fun _ _ _ h => h) (Or.inl ⟨by rfl, ?yR27⟩) hHeld ?_
        case yR27 => (intro w hSw; (try dsimp only at hSw); go_simp <;> with_reducible rfl)
        try simp only [Act.put, List.getElem_toArray, List.getElem_cons_zero, List.getElem_cons_succ, List.setIfInBounds_toArray, List.set_cons_zero, List.set_cons_succ]
        refine wpAnyH_take (i := 8) (oi := _) (v := ?vR28) rfl (by kernel_rfl) (by kernel_rfl) (by kernel_rfl) (fun _ _ _ h => h) (Or.inl ⟨by rfl, ?yR28⟩) hHeld ?_
        case yR28 => (intro w hSw; (try dsimp only at hSw); go_simp <;> with_reducible rfl)
        try simp only [Act.put, List.getElem_toArray, List.getElem_cons_zero, List.getElem_cons_succ, List.setIfInBounds_toArray, List.set_cons_zero, List.set_cons_succ]
        refine wpAnyH_take (i := 9) (oi := _) (v := ?vR29) rfl (by kernel_rfl) (by kernel_rfl) (by kernel_rfl) (fun _ _ _ h => h) (Or.inl ⟨by rfl, ?yR29⟩) hHeld ?_
        case yR29 => (intro w hSw; (try dsimp only at hSw); go_simp <;> with_reducible rfl)
        try simp only [Act.put, List.getElem_toArray, List.getElem_cons_zero, List.getElem_cons_succ, List.setIfInBounds_toArray, List.set_cons_zero, List.set_cons_succ]
        refine wpAnyH_take (i := 10) (oi := _) (v := ?vR210) rfl (by kernel_rfl) (by kernel_rfl) (by kernel_rfl) (fun _ _ _ h => h) (Or.inl ⟨by rfl, ?yR210⟩) hHeld ?_
        case yR210 => (intro w hSw; (try dsimp only at hSw); go_simp <;> with_reducible rfl)
        try simp only [Act.put, List.getElem_toArray, List.getElem_cons_zero, List.getElem_cons_succ, List.setIfInBounds_toArray, List.set_cons_zero, List.set_cons_succ]
        refine wpAnyH_take (i := 11) (oi := _) (v := ?vR211) rfl (by kernel_rfl) (by kernel_rfl) (by kernel_rfl) (fun _ _ _ h => h) (Or.inl ⟨by rfl, ?yR211⟩) hHeld ?_
        case yR211 => (intro w hSw; (try dsimp only at hSw); go_simp <;> with_reducible rfl)
        try simp only [Act.put, List.getElem_toArray, List.getElem_cons_zero, List.getElem_cons_succ, List.setIfInBounds_toArray, List.set_cons_zero, List.set_cons_succ]
        refine wpAnyH_take (i := 12) (oi := _) (v := ?vR212) rfl (by kernel_rfl) (by kernel_rfl) (by kernel_rfl) (fun _ _ _ h => h) (Or.inl ⟨by rfl, ?yR212⟩) hHeld ?_
        case yR212 => (intro w hSw; (try dsimp only at hSw); go_simp <;> with_reducible rfl)
        try simp only [Act.put, List.getElem_toArray, List.getElem_cons_zero, List.getElem_cons_succ, List.setIfInBounds_toArray, List.set_cons_zero, List.set_cons_succ]
        refine wpAnyH_take (i := 13) (oi := _) (v := ?vR213) rfl (by kernel_rfl) (by kernel_rfl) (by kernel_rfl) (fun _ _ _ h => h) (Or.inl ⟨by rfl, ?yR213⟩) hHeld ?_
        case yR213 => (intro w hSw; (try dsimp only at hSw); go_simp <;> with_reducible rfl)
        try simp only [Act.put, List.getElem_toArray, List.getElem_cons_zero, List.getElem_cons_succ, List.setIfInBounds_toArray, List.set_cons_zero, List.set_cons_succ]
        refine wpAnyH_ready (rs := [14]) (by kernel_rfl) (by simp) ?_
        refine AllReadyH.cons rfl (fun K hK => ?_) AllReadyH.nil
        go_simp
        go_wp2_with (go_at_call 17; refine (HLS.out _ hd0).mono ?_; rintro e w6 ⟨m6, rfl, hm, b6⟩; have hd1 : Below wr.heap.size wr w6 := hd0.trans (b6.mono hd0.size); replace hm := hidden hm)
        clear hHeld
        refine hK.out _ _ ?SR215 (fun hHeld => ?_)
        case SR215 => ((try dsimp only); first | (with_reducible exact KEEP.out _ hd1) | (with_reducible exact KEEP.out _ hd0))
        clear hK K
        refine wpAnyH_take (i := 15) (oi := _) (v := ?vR215) rfl (by kernel_rfl) (by kernel_rfl) (by kernel_rfl) (fun _ _ _ h => h) (Or.inl ⟨by rfl, ?yR215⟩) hHeld ?_
        case yR215 => (intro w hSw; (try dsimp only at hSw); go_simp <;> with_reducible rfl)
        try simp only [Act.put, List.getElem_toArray, List.getElem_cons_zero, List.getElem_cons_succ, List.setIfInBounds_toArray, List.set_cons_zero, List.set_cons_succ]
        refine wpAnyH_take (i := 16) (oi := _) (v := ?vR216) rfl (by kernel_rfl) (by kernel_rfl) (by kernel_rfl) (fun _ _ _ h => h) (Or.inl ⟨by rfl, ?yR216⟩) hHeld ?_
        case yR216 => (intro w hSw; (try dsimp only at hSw); go_simp <;> with_reducible rfl)
        try simp only [Act.put, List.getElem_toArray, List.getElem_cons_zero, List.getElem_cons_succ, List.setIfInBounds_toArray, List.set_cons_zero, List.set_cons_succ]
        refine wpAnyH_done (by kernel_rfl) ?_ _
        have HR6 := hidden (HROW.out.below hd1)
        have HB6 := hidden (HBR.out.trans (hd1.mono (Nat.le_trans hB HBR.out.size)))
        have hL := HL.out
        clear HLS KEEP hd1 hd0 b6 HROW HBR HL
        cases bl with
        | false =>
          have hmz : ¬ m6 < 0 := by simpa using hm.out
          have HFIN : Hid (RowE B w6 (.slice (some ⟨g, 0, none⟩) N cap) (P ++ ((sortC (X.take (i + 1)) ++ X.drop (i + 1)) ++ R))) := by
            have h9 : holeC ac (k + 1) xx = insG lessC ac xx := by unfold insG; rw [HP.out, HPO.out, ← HBLL.out]; rfl
            have h8 := HR6.out
            rw [HQE.out, h9] at h8
            rw [HST.out, List.append_assoc, ← HRS.out]
            exact h8
          clear HP HPO HSW HBLL hm HXI HYJ HQE HR6
          go_wp2_with fail
          go_roundw
          case rel => exact ⟨i + 1, by first | go_num | (congr 1; omega), by omega, HFIN, HB6⟩
          case measure => simp [intOf]; omega
        | true =>
          have hmz : m6 < 0 := by simpa using hm.out
          have HPK : Hid (posR lessC ac xx ac.length = posR lessC ac xx k) := by
            show _ = _
            rw [HP.out, HPO.out, ← HBLL.out]
            rfl
          have HROW := HR6
          have HBR := HB6
          have hxI := HXI.out
          have hyJ := HYJ.out
          clear HP HPO HBLL hm HXI HYJ HQE HR6 HB6
          have hdm : decide (m6 < 0) = true := decide_eq_true hmz
          simp only [hdm]
          clear hdm
          have hxo : EntOwn w6 x := HROW.out.2 _ (List.mem_of_getElem? hxI)
          have hyo : EntOwn w6 yc := HROW.out.2 _ (List.mem_of_getElem? hyJ)
          obtain ⟨q0, c0, q1, c1, f0, f1⟩ := ent_slices hxo
          obtain ⟨s0, t0, s1, t1, y0, y1⟩ := ent_slices hyo
          have hxc : ∀ j, j < 6 → w6.cell? ⟨g, I * 6 + j, none⟩ = (x.cells)[j]? := fun j hj => HROW.out.cellQ hL hxI j hj
          have hyc : ∀ j, j < 6 → w6.cell? ⟨g, J * 6 + j, none⟩ = (yc.cells)[j]? := fun j hj => HROW.out.cellQ hL hyJ j hj
          obtain ⟨d, hd⟩ : ∃ d, d = x.d := ⟨_, rfl⟩
          obtain ⟨y, hy⟩ : ∃ y, y = yc.d := ⟨_, rfl⟩
          rw [← hd] at f0 f1
          rw [← hy] at y0 y1
          have hxcl : x.cells = [.string d.name, .int .i64 d.vA, .int .i64 d.vB, .int .i64 d.vC, .slice q0 d.vP.length c0, .slice q1 d.needs.length c1] := by unfold EC.cells; rw [f0, f1, ← hd]
          have hycl : yc.cells = [.string y.name, .int .i64 y.vA, .int .i64 y.vB, .int .i64 y.vC, .slice s0 y.vP.length t0, .slice s1 y.needs.length t1] := by unfold EC.cells; rw [y0, y1, ← hy]
          have HXC := hidden hxcl
          have HYC := hidden hycl
          rw [hxcl] at hxc
          rw [hycl] at hyc
          have hIJ : I ≠ J := by omega
          have hdr : Below w6.heap.size w6 w6.drew := (Below.refl _ _).drew
          obtain ⟨w9, hw9⟩ : ∃ w9, w9 = ((((((w6.setCell ⟨g, I * 6, none⟩ (.string y.name)).setCell ⟨g, I * 6 + 1, none⟩ (.int .i64 y.vA)).setCell ⟨g, I * 6 + 2, none⟩ (.int .i64 y.vB)).setCell ⟨g, I * 6 + 3, none⟩ (.int .i64 y.vC)).setCell ⟨g, I * 6 + 4, none⟩ (.slice s0 y.vP.length t0)).setCell ⟨g, I * 6 + 5, none⟩ (.slice s1 y.needs.length t1)).drew := ⟨_, rfl⟩
          obtain ⟨w10, hw10⟩ : ∃ w10, w10 = ((((((w9.setCell ⟨g, J * 6, none⟩ (.string d.name)).setCell ⟨g, J * 6 + 1, none⟩ (.int .i64 d.vA)).setCell ⟨g, J * 6 + 2, none⟩ (.int .i64 d.vB)).setCell ⟨g, J * 6 + 3, none⟩ (.int .i64 d.vC)).setCell ⟨g, J * 6 + 4, none⟩ (.slice q0 d.vP.length c0)).setCell ⟨g, J * 6 + 5, none⟩ (.slice q1 d.needs.length c1)) := ⟨_, rfl⟩
          have hIl : I < Q.length := (List.getElem?_eq_some_iff.1 hxI).1
          have hJl : J < Q.length := (List.getElem?_eq_some_iff.1 hyJ).1
          have e9 : w9 = (setW w6 g (I * 6) yc.cells).drew := by rw [HYC.out]; exact hw9
          have R9 : RowE B w9 (.slice (some ⟨g, 0, none⟩) N cap) (Q.set (I) yc) := by
            rw [e9]
            exact (HROW.out.setN hL hIl hyo).below ((Below.refl _ _).drew)
          have X9 : EntOwn w9 x := by
            have h8 := HROW.out.1
            rw [← hL] at h8
            rw [e9]
            exact (EntOwn.puts _ hxo h8).below ((Below.refl _ _).drew)
          have e10 : w10 = setW w9 g (J * 6) x.cells := by rw [HXC.out]; exact hw10
          have R10 : RowE B w10 (.slice (some ⟨g, 0, none⟩) N cap) ((Q.set (I) yc).set (J) x) := by
            rw [e10]
            exact R9.setN (by rw [List.length_set]; exact hL) (by rw [List.length_set]; exact hJl) X9
          have HFIN := hidden R10
          have HBL : Hid (Below B w w10) := by
            show Below B w w10
            rw [e10, e9]
            exact setW_below hgB _ _ _ _ (setW_below hgB _ _ _ _ HBR.out).drew
          have hz9 : ∀ j, w9.cell? ⟨g, J * 6 + j, none⟩ = w9.cell? ⟨g, J * 6 + j, none⟩ := fun _ => rfl
          have h9at : (Q.set (I) yc)[J]? = some yc := by rw [List.getElem?_set_ne hIJ]; exact hyJ
          have hc9 : ∀ j, j < 6 → w9.cell? ⟨g, J * 6 + j, none⟩ = ([.string y.name, .int .i64 y.vA, .int .i64 y.vB, .int .i64 y.vC, .slice s0 y.vP.length t0, .slice s1 y.needs.length t1] : List Value)[j]? := fun j hj => by
            rw [← HYC.out]
            exact R9.cellQ (by rw [List.length_set]; exact hL) h9at j hj
          have a0_ : w6.drew.cell? ⟨g, I * 6, none⟩ = some (.string d.name) := hxc 0 (by omega)
          have a1_ : w6.drew.cell? ⟨g, I * 6 + 1, none⟩ = some (.int .i64 d.vA) := hxc 1 (by omega)
          have a2_ : w6.drew.cell? ⟨g, I * 6 + 2, none⟩ = some (.int .i64 d.vB) := hxc 2 (by omega)
          have a3_ : w6.drew.cell? ⟨g, I * 6 + 3, none⟩ = some (.int .i64 d.vC) := hxc 3 (by omega)
          have a4_ : w6.drew.cell? ⟨g, I * 6 + 4, none⟩ = some (.slice q0 d.vP.length c0) := hxc 4 (by omega)
          have a5_ : w6.drew.cell? ⟨g, I * 6 + 5, none⟩ = some (.slice q1 d.needs.length c1) := hxc 5 (by omega)
          have b0_ : w6.drew.cell? ⟨g, J * 6, none⟩ = some (.string y.name) := hyc 0 (by omega)
          have b1_ : w6.drew.cell? ⟨g, J * 6 + 1, none⟩ = some (.int .i64 y.vA) := hyc 1 (by omega)
          have b2_ : w6.drew.cell? ⟨g, J * 6 + 2, none⟩ = some (.int .i64 y.vB) := hyc 2 (by omega)
          have b3_ : w6.drew.cell? ⟨g, J * 6 + 3, none⟩ = some (.int .i64 y.vC) := hyc 3 (by omega)
          have b4_ : w6.drew.cell? ⟨g, J * 6 + 4, none⟩ = some (.slice s0 y.vP.length t0) := hyc 4 (by omega)
          have b5_ : w6.drew.cell? ⟨g, J * 6 + 5, none⟩ = some (.slice s1 y.needs.length t1) := hyc 5 (by omega)
          have a0_w : w6.cell? ⟨g, I * 6, none⟩ = some (.string d.name) := hxc 0 (by omega)
          have a1_w : w6.cell? ⟨g, I * 6 + 1, none⟩ = some (.int .i64 d.vA) := hxc 1 (by omega)
          have a2_w : w6.cell? ⟨g, I * 6 + 2, none⟩ = some (.int .i64 d.vB) := hxc 2 (by omega)
          have a3_w : w6.cell? ⟨g, I * 6 + 3, none⟩ = some (.int .i64 d.vC) := hxc 3 (by omega)
          have a4_w : w6.cell? ⟨g, I * 6 + 4, none⟩ = some (.slice q0 d.vP.length c0) := hxc 4 (by omega)
          have a5_w : w6.cell? ⟨g, I * 6 + 5, none⟩ = some (.slice q1 d.needs.length c1) := hxc 5 (by omega)
          have z0_ : w9.cell? ⟨g, J * 6, none⟩ = some (.string y.name) := hc9 0 (by omega)
          have z1_ : w9.cell? ⟨g, J * 6 + 1, none⟩ = some (.int .i64 y.vA) := hc9 1 (by omega)
          have z2_ : w9.cell? ⟨g, J * 6 + 2, none⟩ = some (.int .i64 y.vB) := hc9 2 (by omega)
          have z3_ : w9.cell? ⟨g, J * 6 + 3, none⟩ = some (.int .i64 y.vC) := hc9 3 (by omega)
          have z4_ : w9.cell? ⟨g, J * 6 + 4, none⟩ = some (.slice s0 y.vP.length t0) := hc9 4 (by omega)
          have z5_ : w9.cell? ⟨g, J * 6 + 5, none⟩ = some (.slice s1 y.needs.length t1) := hc9 5 (by omega)
          have hf8 : ∀ j, w6.drew.frozen? ⟨g, j, none⟩ = false := fun j => HROW.out.frz hL j
          have hf6 : ∀ j, w6.frozen? ⟨g, j, none⟩ = false := fun j => HROW.out.frz hL j
          have hf9 : ∀ j, w9.frozen? ⟨g, j, none⟩ = false := fun j => R9.frz (by rw [List.length_set]; exact hL) j
          have HW9 := hidden hw9
          have HW10 := hidden hw10
          have HLL := hidden hL
          have HIJ := hidden hIJ
          clear hz9 hw9 hw10 e9 e10 R9 R10 X9 h9at hc9 hL hxc hyc hxcl hycl hxo hyo f0 f1 y0 y1 hd hy hdr hIJ HXC HYC HROW HBR hxI hyJ hIl hJl
          go_wp2_with fail
          refine wp_region_held_drew (S := (fun _ => True)) (by kernel_rfl) True.intro (fun hHeld => ?_)
          refine wpAnyH_take (i := 0) (oi := _) (v := ?vZsa0) rfl (by kernel_rfl) (by kernel_rfl) (by kernel_rfl) (fun _ _ _ h => h) (Or.inl ⟨by rfl, ?yZsa0⟩) hHeld ?_
          case yZsa0 => (intro w hSw; (try dsimp only at hSw); go_simp <;> with_reducible rfl)
          try simp only [Act.put, List.getElem_toArray, List.getElem_cons_zero, List.getElem_cons_succ, List.setIfInBounds_toArray, List.set_cons_zero, List.set_cons_succ]
          refine wpAnyH_take (i := 1) (oi := _) (v := ?vZsa1) rfl (by kernel_rfl) (by kernel_rfl) (by kernel_rfl) (fun _ _ _ h => h) (Or.inl ⟨by rfl, ?yZsa1⟩) hHeld ?_
          case yZsa1 => (intro w hSw; (try dsimp only at hSw); go_simp <;> with_reducible rfl)
          try simp only [Act.put, List.getElem_toArray, List.getElem_cons_zero, List.getElem_cons_succ, List.setIfInBounds_toArray, List.set_cons_zero, List.set_cons_succ]
          refine wpAnyH_take (i := 2) (oi := _) (v := ?vZsa2) rfl (by kernel_rfl) (by kernel_rfl) (by kernel_rfl) (fun _ _ _ h => h) (Or.inl ⟨by rfl, ?yZsa2⟩) hHeld ?_
          case yZsa2 => (intro w hSw; (try dsimp only at hSw); go_simp <;> with_reducible rfl)
          try simp only [Act.put, List.getElem_toArray, List.getElem_cons_zero, List.getElem_cons_succ, List.setIfInBounds_toArray, List.set_cons_zero, List.set_cons_succ]
          refine wpAnyH_take (i := 3) (oi := _) (v := ?vZsa3) rfl (by kernel_rfl) (by kernel_rfl) (by kernel_rfl) (fun _ _ _ h => h) (Or.inl ⟨by rfl, ?yZsa3⟩) hHeld ?_
          case yZsa3 => (intro w hSw; (try dsimp only at hSw); go_simp <;> with_reducible rfl)
          try simp only [Act.put, List.getElem_toArray, List.getElem_cons_zero, List.getElem_cons_succ, List.setIfInBounds_toArray, List.set_cons_zero, List.set_cons_succ]
          refine wpAnyH_take (i := 4) (oi := _) (v := ?vZsa4) rfl (by kernel_rfl) (by kernel_rfl) (by kernel_rfl) (fun _ _ _ h => h) (Or.inl ⟨by rfl, ?yZsa4⟩) hHeld ?_
          case yZsa4 => (intro w hSw; (try dsimp only at hSw); go_simp <;> with_reducible rfl)
          try simp only [Act.put, List.getElem_toArray, List.getElem_cons_zero, List.getElem_cons_succ, List.setIfInBounds_toArray, List.set_cons_zero, List.set_cons_succ]
          refine wpAnyH_take (i := 5) (oi := _) (v := ?vZsa5) rfl (by kernel_rfl) (by kernel_rfl) (by kernel_rfl) (fun _ _ _ h => h) (Or.inl ⟨by rfl, ?yZsa5⟩) hHeld ?_
          case yZsa5 => (intro w hSw; (try dsimp only at hSw); go_simp <;> with_reducible rfl)
          try simp only [Act.put, List.getElem_toArray, List.getElem_cons_zero, List.getElem_cons_succ, List.setIfInBounds_toArray, List.set_cons_zero, List.set_cons_succ]
          refine wpAnyH_take (i := 6) (oi := _) (v := ?vZsa6) rfl (by kernel_rfl) (by kernel_rfl) (by kernel_rfl) (fun _ _ _ h => h) (Or.inl ⟨by rfl, ?yZsa6⟩) hHeld ?_
          case yZsa6 => (intro w hSw; (try dsimp only at hSw); go_simp <;> with_reducible rfl)
          try simp only [Act.put, List.getElem_toArray, List.getElem_cons_zero, List.getElem_cons_succ, List.setIfInBounds_toArray, List.set_cons_zero, List.set_cons_succ]
          refine wpAnyH_take (i := 7) (oi := _) (v := ?vZsa7) rfl (by kernel_rfl) (by kernel_rfl) (by kernel_rfl) (fun _ _ _ h => h) (Or.inl ⟨by rfl, ?yZsa7⟩) hHeld ?_
          case yZsa7 => (intro w hSw; (try dsimp only at hSw); go_simp <;> with_reducible rfl)
          try simp only [Act.put, List.getElem_toArray, List.getElem_cons_zero, List.getElem_cons_succ, List.setIfInBounds_toArray, List.set_cons_zero, List.set_cons_succ]
          refine wpAnyH_take (i := 8) (oi := _) (v := ?vZsa8) rfl (by kernel_rfl) (by kernel_rfl) (by kernel_rfl) (fun _ _ _ h => h) (Or.inl ⟨by rfl, ?yZsa8⟩) hHeld ?_
          case yZsa8 => (intro w hSw; (try dsimp only at hSw); go_simp <;> with_reducible rfl)
          try simp only [Act.put, List.getElem_toArray, List.getElem_cons_zero, List.getElem_cons_succ, List.setIfInBounds_toArray, List.set_cons_zero, List.set_cons_succ]
          refine wpAnyH_take (i := 10) (oi := _) (v := ?vZsa10) rfl (by kernel_rfl) (by kernel_rfl) (by kernel_rfl) (fun _ _ _ h => h) (Or.inl ⟨by rfl, ?yZsa10⟩) hHeld ?_
          case yZsa10 => (intro w hSw; (try dsimp only at hSw); go_simp <;> with_reducible rfl)
          try simp only [Act.put, List.getElem_toArray, List.getElem_cons_zero, List.getElem_cons_succ, List.setIfInBounds_toArray, List.set_cons_zero, List.set_cons_succ]
          refine wpAnyH_take (i := 11) (oi := _) (v := ?vZsa11) rfl (by kernel_rfl) (by kernel_rfl) (by kernel_rfl) (fun _ _ _ h => h) (Or.inl ⟨by rfl, ?yZsa11⟩) hHeld ?_
          case yZsa11 => (intro w hSw; (try dsimp only at hSw); go_simp <;> with_reducible rfl)
          try simp only [Act.put, List.getElem_toArray, List.getElem_cons_zero, List.getElem_cons_succ, List.setIfInBounds_toArray, List.set_cons_zero, List.set_cons_succ]
          refine wpAnyH_take (i := 12) (oi := _) (v := ?vZsa12) rfl (by kernel_rfl) (by kernel_rfl) (by kernel_rfl) (fun _ _ _ h => h) (Or.inl ⟨by rfl, ?yZsa12⟩) hHeld ?_
          case yZsa12 => (intro w hSw; (try dsimp only at hSw); go_simp <;> with_reducible rfl)
          try simp only [Act.put, List.getElem_toArray, List.getElem_cons_zero, List.getElem_cons_succ, List.setIfInBounds_toArray, List.set_cons_zero, List.set_cons_succ]
          refine wpAnyH_ready (rs := [9, 13]) (by kernel_rfl) (by simp) ?_
          refine AllReadyH.cons rfl (fun K hK => ?_) (AllReadyH.cons rfl (fun K hK => ?_) AllReadyH.nil)
          · go_simp
            clear hHeld
            refine hK.out _ _ True.intro (fun hHeld => ?_)
            clear hK K
            refine wpAnyH_ready (rs := [13]) (by kernel_rfl) (by simp) ?_
            refine AllReadyH.cons rfl (fun K hK => ?_) AllReadyH.nil
            go_simp
            clear hHeld
            refine hK.out _ _ True.intro (fun hHeld => ?_)
            clear hK K
            refine wpAnyH_take (i := 14) (oi := _) (v := ?vZspi) rfl (by kernel_rfl) (by kernel_rfl) (by kernel_rfl) (fun _ _ _ h => h) (Or.inl ⟨by rfl, ?yZspi⟩) hHeld ?_
            case yZspi => (intro w hSw; (try dsimp only at hSw); go_simp <;> with_reducible rfl)
            try simp only [Act.put, List.getElem_toArray, List.getElem_cons_zero, List.getElem_cons_succ, List.setIfInBounds_toArray, List.set_cons_zero, List.set_cons_succ]
            refine wpAnyH_ready (rs := [15]) (by kernel_rfl) (by simp) ?_
            refine AllReadyH.cons rfl (fun K hK => ?_) AllReadyH.nil
            go_simp
            clear hHeld
            refine hK.out _ _ True.intro (fun hHeld => ?_)
            clear hK K
            rw [← HW9.out]
            refine wpAnyH_take (i := 16) (oi := _) (v := ?vZspj) rfl (by kernel_rfl) (by kernel_rfl) (by kernel_rfl) (fun _ _ _ h => h) (Or.inl ⟨by rfl, ?yZspj⟩) hHeld ?_
            case yZspj => (intro w hSw; (try dsimp only at hSw); go_simp <;> with_reducible rfl)
            try simp only [Act.put, List.getElem_toArray, List.getElem_cons_zero, List.getElem_cons_succ, List.setIfInBounds_toArray, List.set_cons_zero, List.set_cons_succ]
            refine wpAnyH_ready (rs := [17]) (by kernel_rfl) (by simp) ?_
            refine AllReadyH.cons rfl (fun K hK => ?_) AllReadyH.nil
            go_simp
            clear hHeld
            refine hK.out _ _ True.intro (fun hHeld => ?_)
            clear hK K
            rw [← HW10.out]
            refine wpAnyH_done (by kernel_rfl) ?_ _
            go_wp2_with fail
            go_roundw
            case rel => exact ⟨k, by omega, by have h1 := HIN.out; have h2 := HJN.out; first | (rw [show p + k = J by omega]; go_num) | (rw [← h2]; rfl) | (congr 1; omega), HPK, by rw [← HSW.out]; exact HFIN, HBL⟩
            case measure => have h1 := HIN.out; have h2 := HJN.out; simp [intOf]; omega
          · go_simp
            clear hHeld
            refine hK.out _ _ True.intro (fun hHeld => ?_)
            clear hK K
            refine wpAnyH_ready (rs := [9]) (by kernel_rfl) (by simp) ?_
            refine AllReadyH.cons rfl (fun K hK => ?_) AllReadyH.nil
            go_simp
            clear hHeld
            refine hK.out _ _ True.intro (fun hHeld => ?_)
            clear hK K
            refine wpAnyH_take (i := 14) (oi := _) (v := ?vZsqi) rfl (by kernel_rfl) (by kernel_rfl) (by kernel_rfl) (fun _ _ _ h => h) (Or.inl ⟨by rfl, ?yZsqi⟩) hHeld ?_
            case yZsqi => (intro w hSw; (try dsimp only at hSw); go_simp <;> with_reducible rfl)
            try simp only [Act.put, List.getElem_toArray, List.getElem_cons_zero, List.getElem_cons_succ, List.setIfInBounds_toArray, List.set_cons_zero, List.set_cons_succ]
            refine wpAnyH_ready (rs := [15]) (by kernel_rfl) (by simp) ?_
            refine AllReadyH.cons rfl (fun K hK => ?_) AllReadyH.nil
            go_simp
            clear hHeld
            refine hK.out _ _ True.intro (fun hHeld => ?_)
            clear hK K
            rw [← HW9.out]
            refine wpAnyH_take (i := 16) (oi := _) (v := ?vZsqj) rfl (by kernel_rfl) (by kernel_rfl) (by kernel_rfl) (fun _ _ _ h => h) (Or.inl ⟨by rfl, ?yZsqj⟩) hHeld ?_
            case yZsqj => (intro w hSw; (try dsimp only at hSw); go_simp <;> with_reducible rfl)
            try simp only [Act.put, List.getElem_toArray, List.getElem_cons_zero, List.getElem_cons_succ, List.setIfInBounds_toArray, List.set_cons_zero, List.set_cons_succ]
            refine wpAnyH_ready (rs := [17]) (by kernel_rfl) (by simp) ?_
            refine AllReadyH.cons rfl (fun K hK => ?_) AllReadyH.nil
            go_simp
            clear hHeld
            refine hK.out _ _ True.intro (fun hHeld => ?_)
            clear hK K
            rw [← HW10.out]
            refine wpAnyH_done (by kernel_rfl) ?_ _
            go_wp2_with fail
            go_roundw
            case rel => exact ⟨k, by omega, by have h1 := HIN.out; have h2 := HJN.out; first | (rw [show p + k = J by omega]; go_num) | (rw [← h2]; rfl) | (congr 1; omega), HPK, by rw [← HSW.out]; exact HFIN, HBL⟩
            case measure => have h1 := HIN.out; have h2 := HJN.out; simp [intOf]; omega
end Go.Proofs.Ytablcicfagmhpaa

/-! The stable sort of fewer than 20 entries, newest first: a contract for the walk; conditions: the row may be written, each Pre holds no more than 2 to the 20. -/
namespace Go.Proofs.Ytablcicfagmhpaa
open Go.RowKit
set_option linter.unusedSimpArgs false
set_option linter.unusedVariables false

set_option maxHeartbeats 4000000 in
theorem insSort_nil (w : World) : Calls Try.prog 47 #[.slice none 0 0, .int .i64 0, .int .i64 0, .func (.func 17) #[] #[]] w fun e w' => e = .returned (.tuple #[]) ∧ w' = w := by
  go_enter Try.func47, Try.ntmps47
  go_wp2_with fail
  go_loopw [8] (fun vi wr => vi = .int .i64 1 ∧ wr = w) (fun _ _ => 0)
  case atStart => exact ⟨rfl, rfl⟩
  case round =>
    obtain ⟨rfl, rfl⟩ := hrel
    go_wp2_with fail
    go_end0
    exact ⟨rfl, rfl⟩

theorem insSort_any (B : Nat) (v : Value) (ps : List EC) (w : World) (hr : RowE B w v ps) (hB : B ≤ w.heap.size) (hn : ps.length < 20) (hw : ∀ p ∈ ps, bulkS p.d.vP ≤ 1048576) :
    Calls Try.prog 47 #[v, .int .i64 0, .int .i64 (ps.length : Int), .func (.func 17) #[] #[]] w fun e w' => e = .returned (.tuple #[]) ∧ RowE B w' (v) (sortC ps) ∧ Below B w w' := by
  rcases id hr.1.2 with ⟨e, h0⟩ | ⟨g, cap, cur, e, _⟩
  · have hp : ps = [] := List.eq_nil_of_length_eq_zero h0
    subst hp
    subst e
    refine (insSort_nil w).mono ?_
    rintro e w' ⟨rfl, rfl⟩
    exact ⟨rfl, hr, Below.refl _ _⟩
  · subst e
    exact insSort_c B g cap ps w hr hB (by omega) hw

set_option maxHeartbeats 4000000 in
theorem stable_c (B : Nat) (v : Value) (ps : List EC) (w : World) (hr : RowE B w v ps) (hB : B ≤ w.heap.size) (hn : ps.length < 20) (hw : ∀ p ∈ ps, bulkS p.d.vP ≤ 1048576) :
    Calls Try.prog 34 #[v, .int .i64 (ps.length : Int), .func (.func 17) #[] #[]] w fun e w' => e = .returned (.tuple #[]) ∧ RowE B w' (v) (sortC ps) ∧ Below B w w' := by
  have HI := hidden (insSort_any B v ps w hr hB hn hw)
  obtain ⟨qo, co, hvo⟩ := owns_sliceP hr.1
  subst hvo
  clear hr hw
  go_enter Try.func34, Try.ntmps34
  go_wp2_with fail
  go_loopw [7, 8] (fun va vb wr => va = .int .i64 0 ∧ vb = .int .i64 20 ∧ wr = w) (fun _ _ _ => 0)
  case atStart => exact ⟨rfl, rfl, rfl⟩
  case round =>
    obtain ⟨rfl, rfl, rfl⟩ := hrel
    have hq : ¬ (20 : Int) ≤ (ps.length : Int) := by omega
    have hq2 : ¬ (20 : Int) < (ps.length : Int) := by omega
    go_wp2_with (go_at_call 47; refine HI.out.mono ?_; rintro e w1 ⟨rfl, r1, b1⟩; replace r1 := hidden r1; replace b1 := hidden b1)
    go_loopw [6, 7, 8] (fun vs va vb wr => vs = .int .i64 20 ∧ wr = w1) (fun _ _ _ _ => 0)
    case atStart => exact ⟨rfl, rfl⟩
    case round =>
      obtain ⟨rfl, rfl⟩ := hrel
      go_wp2_with fail
      go_end0
      exact ⟨rfl, r1.out, b1.out⟩

set_option maxHeartbeats 4000000 in
theorem sortStable_c (B : Nat) (v : Value) (ps : List EC) (w : World) (hr : RowE B w v ps) (hB : B ≤ w.heap.size) (hn : ps.length < 20) (hw : ∀ p ∈ ps, bulkS p.d.vP ≤ 1048576) :
    Calls Try.prog 16 #[v, .func (.func 17) #[] #[]] w fun e w' => e = .returned (.tuple #[]) ∧ RowE B w' (v) (sortC ps) ∧ Below B w w' := by
  have HI := hidden (stable_c B v ps w hr hB hn hw)
  obtain ⟨qo, co, hvo⟩ := owns_sliceP hr.1
  subst hvo
  clear hr hw
  go_enter Try.func16, Try.ntmps16
  go_wp2_with (go_at_call 34; refine HI.out.mono ?_; rintro e w1 ⟨rfl, r1, b1⟩; replace r1 := hidden r1; replace b1 := hidden b1)
  go_end0
  exact ⟨rfl, r1.out, b1.out⟩
end Go.Proofs.Ytablcicfagmhpaa

/-! The stable sort of entries, newest first, at any length: a contract for the walk; conditions: the row may be written, each Pre holds no more than 2 to the 20, and the row no more than 2 to the 40. -/
namespace Go.Proofs.Ytablcicfagmhpaa
open Go.RowKit
set_option linter.unusedSimpArgs false
set_option linter.unusedVariables false

theorem sortC_e : sortC ([] : List EC) = [] := List.eq_nil_of_length_eq_zero (by rw [sortC_len]; rfl)
/-- Sorted in blocks of s, the last one may be shorter. -/
inductive Blk (s : Nat) : List EC → List EC → Prop
  | last (l : List EC) (h : l.length ≤ s) : Blk s l (sortC l)
  | more (u l D : List EC) (h : u.length = s) (hb : Blk s l D) : Blk s (u ++ l) (sortC u ++ D)
theorem blk_short {s : Nat} {l D : List EC} (hb : Blk s l D) (h : l.length ≤ s) : D = sortC l := by
  cases hb with
  | last _ _ => rfl
  | more u l D hu hb =>
    rw [List.length_append] at h
    have hl : l = [] := List.eq_nil_of_length_eq_zero (by omega)
    subst hl
    have hD : D = [] := by
      clear h hu
      generalize hz : ([] : List EC) = z at hb
      induction hb with
      | last l _ => rw [← hz]; exact sortC_e
      | more u l D _ _ ih =>
        have h1 := congrArg List.length hz
        rw [List.length_append] at h1
        have h2 : u = [] := List.eq_nil_of_length_eq_zero (by simp at h1; omega)
        have h3 : l = [] := List.eq_nil_of_length_eq_zero (by simp at h1; omega)
        rw [h2, sortC_e, ih h3.symm]
    rw [hD, List.append_nil, List.append_nil]
theorem blk_take {s : Nat} {l D : List EC} (hb : Blk s l D) (h : s ≤ l.length) : ∃ D', D = sortC (l.take s) ++ D' ∧ Blk s (l.drop s) D' := by
  cases hb with
  | last _ h1 =>
    refine ⟨[], ?_, ?_⟩
    · rw [List.take_of_length_le h1, List.append_nil]
    · have h9 : Blk s [] (sortC []) := .last _ (Nat.zero_le _)
      rw [sortC_e] at h9
      rw [List.drop_eq_nil_of_le h1]; exact h9
  | more u l D hu hb =>
    refine ⟨D, ?_, ?_⟩
    · rw [List.take_append_of_le_length (by omega), List.take_of_length_le (by omega)]
    · rw [List.drop_append_of_le_length (by omega), List.drop_eq_nil_of_le (by omega), List.nil_append]; exact hb
theorem blk_len {s : Nat} {l D : List EC} (hb : Blk s l D) : D.length = l.length := by
  induction hb with
  | last l _ => exact sortC_len l
  | more u l D _ _ ih => rw [List.length_append, List.length_append, sortC_len, ih]

set_option maxHeartbeats 16000000 in
set_option maxRecDepth 100000 in
theorem stableG_c (B g cap N : Nat) (ps : List EC) (w : World) (hN : N = ps.length) (hr : RowE B w (.slice (some ⟨g, 0, none⟩) N cap) ps) (hB : B ≤ w.heap.size) (hn : N ≤ 1099511627776) (hw : ∀ p ∈ ps, bulkS p.d.vP ≤ 1048576) :
    Calls Try.prog 34 #[.slice (some ⟨g, 0, none⟩) N cap, .int .i64 (N : Int), .func (.func 17) #[] #[]] w fun e w' => e = .returned (.tuple #[]) ∧ RowE B w' (.slice (some ⟨g, 0, none⟩) N cap) (sortC ps) ∧ Below B w w' := by
  have HW := hidden hw
  have HNN := hidden hN
  have HR0 := hidden hr
  clear hw hr hN
  go_enter Try.func34, Try.ntmps34
  go_wp2_with fail
  go_loopw [7, 8] (fun va vb wr => ∃ (pre l P : List EC) (a : Nat), va = .int .i64 (a : Int) ∧ vb = .int .i64 ((a + 20 : Nat) : Int) ∧ Hid (ps = pre ++ l ∧ pre.length = a ∧ P.length = a) ∧ Hid (∀ l' E, Blk 20 l' E → Blk 20 (pre ++ l') (P ++ E)) ∧ a ≤ N ∧ Hid (RowE B wr (.slice (some ⟨g, 0, none⟩) N cap) (P ++ l)) ∧ Hid (Below B w wr)) (fun va _ _ => N - (intOf va).toNat)
  case atStart => exact ⟨[], ps, [], 0, rfl, rfl, ⟨rfl, rfl, rfl⟩, fun l' E h => h, Nat.zero_le _, HR0, Below.refl _ _⟩
  case round =>
    clear HR0
    obtain ⟨pre, l, P, a, rfl, rfl, HE, HCL, haN, HROW, HBR⟩ := hrel
    have hlen : a + l.length = N := by have h1 := congrArg List.length HE.out.1; rw [List.length_append, HE.out.2.1] at h1; have := HNN.out; omega
    have hwl : ∀ p ∈ l, bulkS p.d.vP ≤ 1048576 := fun p hp => HW.out p (by rw [HE.out.1]; exact List.mem_append_right _ hp)
    obtain ⟨b9, hb9⟩ : ∃ b, b = a + 20 := ⟨_, rfl⟩
    rw [← hb9]
    by_cases hlt : b9 ≤ N
    case pos =>
      have hq : (b9 : Int) ≤ (N : Int) := by omega
      have h20 : 20 ≤ l.length := by omega
      have htl : (l.take 20).length = 20 := by rw [List.length_take]; omega
      have HC : Hid (Calls Try.prog 47 #[.slice (some ⟨g, 0, none⟩) N cap, .int .i64 (a : Int), .int .i64 (b9 : Int), .func (.func 17) #[] #[]] wr fun e w' => e = .returned (.tuple #[]) ∧ RowE B w' (.slice (some ⟨g, 0, none⟩) N cap) (P ++ (sortC (l.take 20) ++ l.drop 20)) ∧ Below B wr w') := by
        have h9 := insB_c B g cap N a b9 P (l.take 20) (l.drop 20) wr HE.out.2.2.symm (by omega) (by rw [List.length_drop]; omega) (by rw [List.take_append_drop]; exact HROW.out) (Nat.le_trans hB HBR.out.size) hn (fun p hp => hwl p (List.mem_of_mem_take hp))
        exact h9
      have HE2 : Hid (ps = (pre ++ l.take 20) ++ l.drop 20 ∧ (pre ++ l.take 20).length = b9 ∧ (P ++ sortC (l.take 20)).length = b9) := by
        refine ⟨?_, ?_, ?_⟩
        · rw [List.append_assoc, List.take_append_drop]; exact HE.out.1
        · rw [List.length_append, htl, HE.out.2.1, hb9]
        · rw [List.length_append, sortC_len, htl, HE.out.2.2, hb9]
      have HCL2 : Hid (∀ l' E, Blk 20 l' E → Blk 20 ((pre ++ l.take 20) ++ l') ((P ++ sortC (l.take 20)) ++ E)) := fun l' E h => by
        rw [List.append_assoc, List.append_assoc]
        exact HCL.out _ _ (.more _ _ _ htl h)
      clear HE HCL HROW hwl htl
      have hI1 : b9 ≤ a + 20 := by omega
      have hI2 : a + 20 ≤ b9 := by omega
      clear hb9
      go_wp2_with (go_at_call 47; refine HC.out.mono ?_; rintro e w1 ⟨rfl, r1, b1⟩; replace r1 := hidden r1; replace b1 := hidden b1)
      have HR2 : Hid (RowE B w1 (.slice (some ⟨g, 0, none⟩) N cap) ((P ++ sortC (l.take 20)) ++ l.drop 20)) := by show RowE _ _ _ _; rw [List.append_assoc]; exact r1.out
      have HB2 := hidden (HBR.out.trans b1.out)
      clear r1 b1 HC HBR
      go_roundw
      case rel => exact ⟨pre ++ l.take 20, l.drop 20, P ++ sortC (l.take 20), b9, rfl, by go_num, HE2, HCL2, hlt, HR2, HB2⟩
      case measure => simp [intOf]; omega
    case neg =>
      have hq : ¬ (b9 : Int) ≤ (N : Int) := by omega
      have HC : Hid (Calls Try.prog 47 #[.slice (some ⟨g, 0, none⟩) N cap, .int .i64 (a : Int), .int .i64 (N : Int), .func (.func 17) #[] #[]] wr fun e w' => e = .returned (.tuple #[]) ∧ RowE B w' (.slice (some ⟨g, 0, none⟩) N cap) (P ++ sortC l) ∧ Below B wr w') := by
        have h9 := insB_c B g cap N a N P l [] wr HE.out.2.2.symm (by omega) (by simp) (by rw [List.append_nil]; exact HROW.out) (Nat.le_trans hB HBR.out.size) hn hwl
        rw [List.append_nil] at h9
        exact h9
      have HBK : Hid (Blk 20 ps (P ++ sortC l)) := by show Blk _ _ _; rw [HE.out.1]; exact HCL.out _ _ (.last _ (by omega))
      clear HE HCL HROW hwl hlen hb9
      go_wp2_with (go_at_call 47; refine HC.out.mono ?_; rintro e w1 ⟨rfl, r1, b1⟩; replace r1 := hidden r1; replace b1 := hidden b1)
      have HB2 := hidden (HBR.out.trans b1.out)
      clear b1 HC HBR
      go_loopw [6, 7, 8] (fun vs va vb wr => ∃ (s : Nat) (E : List EC), vs = .int .i64 (s : Int) ∧ 20 ≤ s ∧ s < 2 * N + 21 ∧ Hid (Blk s ps E) ∧ Hid (RowE B wr (.slice (some ⟨g, 0, none⟩) N cap) E) ∧ Hid (Below B w wr)) (fun vs _ _ _ => 2 * N + 21 - (intOf vs).toNat)
      case atStart => exact ⟨20, _, rfl, Nat.le_refl _, by omega, HBK, r1, HB2⟩
      case round =>
        clear HBK r1 HB2
        obtain ⟨s, E, rfl, hs1, hs2, HBK, HROW, HBR⟩ := hrel
        by_cases hlt2 : s < N
        case neg =>
          have hq2 : ¬ (s : Int) < (N : Int) := by omega
          have HFIN : Hid (RowE B wr (.slice (some ⟨g, 0, none⟩) N cap) (sortC ps)) := by have h9 := HROW.out; rw [blk_short HBK.out (by have := HNN.out; omega)] at h9; exact h9
          clear HBK HROW
          go_wp2_with fail
          go_end0
          exact ⟨rfl, HFIN.out, HBR.out⟩
        case pos =>
        have hq2 : (s : Int) < (N : Int) := by omega
        obtain ⟨t, ht⟩ : ∃ t, t = 2 * s := ⟨_, rfl⟩
        have ht0 : 2 * (s : Int) = (t : Int) := by omega
        have ht1 : (s : Int) * 2 = (t : Int) := by omega
        have hA1 : t ≤ 2 * s := by omega
        have hA2 : 2 * s ≤ t := by omega
        clear ht
        go_wp2_with fail
        go_loopw [7, 8] (fun va vb wr => ∃ (pre l P E' : List EC) (a b : Nat), va = .int .i64 (a : Int) ∧ vb = .int .i64 (b : Int) ∧ b = a + t ∧ Hid (ps = pre ++ l ∧ pre.length = a ∧ P.length = a) ∧ Hid (Blk s l E') ∧ Hid (∀ l' E, Blk t l' E → Blk t (pre ++ l') (P ++ E)) ∧ a ≤ N ∧ Hid (RowE B wr (.slice (some ⟨g, 0, none⟩) N cap) (P ++ E')) ∧ Hid (Below B w wr)) (fun va _ _ => N - (intOf va).toNat)
        case atStart => exact ⟨[], ps, [], E, 0, t, rfl, rfl, (by omega), ⟨rfl, rfl, rfl⟩, HBK, fun l' E h => h, Nat.zero_le _, HROW, HBR⟩
        case round =>
          clear HBK HROW HBR
          obtain ⟨pre, l, P, E', a, b, rfl, rfl, hb9, HE, HBK, HCL, haN, HROW, HBR⟩ := hrel
          have hlen : a + l.length = N := by have h1 := congrArg List.length HE.out.1; rw [List.length_append, HE.out.2.1] at h1; have := HNN.out; omega
          have hwl : Hid (∀ p ∈ l, bulkS p.d.vP ≤ 1048576) := fun p hp => HW.out p (by rw [HE.out.1]; exact List.mem_append_right _ hp)
          obtain ⟨m, hm⟩ : ∃ m, m = a + s := ⟨_, rfl⟩
          have hm0 : (a : Int) + (s : Int) = (m : Int) := by omega
          have hE9 := blk_len HBK.out
          by_cases hlt3 : b ≤ N
          case pos =>
            have hq3 : (b : Int) ≤ (N : Int) := by omega
            obtain ⟨E1, hE1, hB1⟩ := blk_take HBK.out (by omega)
            obtain ⟨E2, hE2, hB2⟩ := blk_take hB1 (by rw [List.length_drop]; omega)
            obtain ⟨U, hU⟩ : ∃ U, U = l.take s := ⟨_, rfl⟩
            obtain ⟨V, hV⟩ : ∃ V, V = (l.drop s).take s := ⟨_, rfl⟩
            have hUl : U.length = s := by rw [hU, List.length_take]; omega
            have hVl : V.length = s := by rw [hV, List.length_take, List.length_drop]; omega
            have hlUV : l = (U ++ V) ++ (l.drop s).drop s := by rw [hU, hV, List.append_assoc, List.take_append_drop, List.take_append_drop]
            obtain ⟨l', hl'⟩ : ∃ l', l' = (l.drop s).drop s := ⟨_, rfl⟩
            rw [← hU] at hE1
            rw [← hV] at hE2
            rw [← hl'] at hB2 hlUV
            have hE2l := blk_len hB2
            have hll : l.length = s + s + l'.length := by rw [hlUV, List.length_append, List.length_append, hUl, hVl]
            have HC : Hid (Calls Try.prog 48 #[.slice (some ⟨g, 0, none⟩) N cap, .int .i64 (a : Int), .int .i64 (m : Int), .int .i64 (b : Int), .func (.func 17) #[] #[]] wr fun e w' => e = .returned (.tuple #[]) ∧ RowE B w' (.slice (some ⟨g, 0, none⟩) N cap) (P ++ (sortC (U ++ V) ++ E2)) ∧ Below B wr w') := by
              have h9 := symMerge_c B g cap N hn (s + s + 1) a m b P (sortC U) (sortC V) E2 wr HE.out.2.2.symm (by rw [sortC_len]; omega) (by rw [sortC_len]; omega) (by omega) (by rw [← hE2, ← hE1]; exact HROW.out) (Nat.le_trans hB HBR.out.size) (by rw [sortC_len]; omega) (by rw [sortC_len]; omega) (sortC_ord U) (sortC_ord V) (fun u hu => hwl.out u (by rw [hlUV]; exact List.mem_append_left _ (List.mem_append_left _ (sortC_mem hu)))) (fun u hu => hwl.out u (by rw [hlUV]; exact List.mem_append_left _ (List.mem_append_right _ (sortC_mem hu)))) (by rw [sortC_len, sortC_len]; omega)
              rw [← sortC_app] at h9
              exact h9
            have HE2 : Hid (ps = (pre ++ (U ++ V)) ++ l' ∧ (pre ++ (U ++ V)).length = b ∧ (P ++ sortC (U ++ V)).length = b) := by
              refine ⟨?_, ?_, ?_⟩
              · rw [List.append_assoc, ← hlUV]; exact HE.out.1
              · rw [List.length_append, List.length_append, HE.out.2.1]; omega
              · rw [List.length_append, sortC_len, List.length_append, HE.out.2.2]; omega
            have HCL2 : Hid (∀ l' E, Blk t l' E → Blk t ((pre ++ (U ++ V)) ++ l') ((P ++ sortC (U ++ V)) ++ E)) := fun l' E h => by
              rw [List.append_assoc pre, List.append_assoc P]
              exact HCL.out _ _ (Blk.more (U ++ V) l' E (by rw [List.length_append]; omega) h)
            have HB2 := hidden hB2
            obtain ⟨b2, hb2⟩ : ∃ b2, b2 = b + t := ⟨_, rfl⟩
            have hb20 : (b : Int) + (t : Int) = (b2 : Int) := by omega
            have hb21 : IntKind.i64.wrap (b2 : Int) = (b2 : Int) := IntWalk.i64_in _ ⟨by omega, by omega⟩
            have HB2E := hidden hb2
            clear hb2
            clear HE HCL HROW hwl HBK hE1 hE2 hB1 hU hV hUl hVl hlUV hl' hE2l hE9 hll
            have hI1 : b ≤ a + t := by omega
            have hI2 : a + t ≤ b := by omega
            have hm1 : m ≤ N := by omega
            clear hb9 hm
            go_wp2_with (go_at_call 48; refine HC.out.mono ?_; rintro e w1 ⟨rfl, r1, b1⟩; replace r1 := hidden r1; replace b1 := hidden b1)
            have HR2 : Hid (RowE B w1 (.slice (some ⟨g, 0, none⟩) N cap) ((P ++ sortC (U ++ V)) ++ E2)) := by show RowE _ _ _ _; rw [List.append_assoc]; exact r1.out
            have HB3 := hidden (HBR.out.trans b1.out)
            clear r1 b1 HC HBR
            go_roundw
            case rel => exact ⟨pre ++ (U ++ V), l', P ++ sortC (U ++ V), E2, b, b2, rfl, rfl, HB2E.out, HE2, HB2, HCL2, hlt3, HR2, HB3⟩
            case measure => simp [intOf]; omega
          case neg =>
            have hq3 : ¬ (b : Int) ≤ (N : Int) := by omega
            have HNX : Hid (Blk t ps (P ++ sortC l)) := by show Blk _ _ _; rw [HE.out.1]; exact HCL.out _ _ (.last _ (by omega))
            by_cases hlt4 : m < N
            · have hq4 : (m : Int) < (N : Int) := by omega
              obtain ⟨E1, hE1, hB1⟩ := blk_take HBK.out (by omega)
              have hE2 := blk_short hB1 (by rw [List.length_drop]; omega)
              obtain ⟨U, hU⟩ : ∃ U, U = l.take s := ⟨_, rfl⟩
              obtain ⟨V, hV⟩ : ∃ V, V = l.drop s := ⟨_, rfl⟩
              have hUl : U.length = s := by rw [hU, List.length_take]; omega
              have hlUV : l = U ++ V := by rw [hU, hV, List.take_append_drop]
              rw [← hU] at hE1
              rw [← hV] at hE2
              have hll : l.length = s + V.length := by rw [hlUV, List.length_append, hUl]
              have HC : Hid (Calls Try.prog 48 #[.slice (some ⟨g, 0, none⟩) N cap, .int .i64 (a : Int), .int .i64 (m : Int), .int .i64 (N : Int), .func (.func 17) #[] #[]] wr fun e w' => e = .returned (.tuple #[]) ∧ RowE B w' (.slice (some ⟨g, 0, none⟩) N cap) (P ++ sortC l) ∧ Below B wr w') := by
                have h9 := symMerge_c B g cap N hn (s + s + 1) a m N P (sortC U) (sortC V) [] wr HE.out.2.2.symm (by rw [sortC_len]; omega) (by rw [sortC_len]; omega) (by simp) (by rw [List.append_nil, ← hE2, ← hE1]; exact HROW.out) (Nat.le_trans hB HBR.out.size) (by rw [sortC_len]; omega) (by rw [sortC_len]; omega) (sortC_ord U) (sortC_ord V) (fun u hu => hwl.out u (by rw [hlUV]; exact List.mem_append_left _ (sortC_mem hu))) (fun u hu => hwl.out u (by rw [hlUV]; exact List.mem_append_right _ (sortC_mem hu))) (by rw [sortC_len, sortC_len]; omega)
                rw [← sortC_app, ← hlUV, List.append_nil] at h9
                exact h9
              clear HE HCL HROW hwl HBK hE1 hE2 hB1 hU hV hUl hlUV hE9 hll hm
              go_wp2_with (go_at_call 48; refine HC.out.mono ?_; rintro e w1 ⟨rfl, r1, b1⟩; replace r1 := hidden r1; replace b1 := hidden b1)
              have HB3 := hidden (HBR.out.trans b1.out)
              clear b1 HC HBR
              go_roundw
              case rel => exact ⟨t, _, rfl, by omega, by omega, HNX, r1, HB3⟩
              case measure => simp [intOf]; omega
            · have hq4 : ¬ (m : Int) < (N : Int) := by omega
              have HR2 : Hid (RowE B wr (.slice (some ⟨g, 0, none⟩) N cap) (P ++ sortC l)) := by have h9 := HROW.out; rw [blk_short HBK.out (by omega)] at h9; exact h9
              clear HE HCL HROW hwl HBK hE9 hm
              go_wp2_with fail
              go_roundw
              case rel => exact ⟨t, _, rfl, by omega, by omega, HNX, HR2, HBR⟩
              case measure => simp [intOf]; omega

theorem stableA_c (B : Nat) (v : Value) (ps : List EC) (w : World) (hr : RowE B w v ps) (hB : B ≤ w.heap.size) (hn : ps.length ≤ 1099511627776) (hw : ∀ p ∈ ps, bulkS p.d.vP ≤ 1048576) :
    Calls Try.prog 34 #[v, .int .i64 (ps.length : Int), .func (.func 17) #[] #[]] w fun e w' => e = .returned (.tuple #[]) ∧ RowE B w' v (sortC ps) ∧ Below B w w' := by
  by_cases h20 : ps.length < 20
  · exact stable_c B v ps w hr hB h20 hw
  rcases id hr.1.2 with ⟨e, h0⟩ | ⟨g, cap, cur, e, _⟩
  · omega
  · subst e
    exact stableG_c B g cap _ ps w rfl hr hB hn hw

set_option maxHeartbeats 4000000 in
theorem sortStableA_c (B : Nat) (v : Value) (ps : List EC) (w : World) (hr : RowE B w v ps) (hB : B ≤ w.heap.size) (hn : ps.length ≤ 1099511627776) (hw : ∀ p ∈ ps, bulkS p.d.vP ≤ 1048576) :
    Calls Try.prog 16 #[v, .func (.func 17) #[] #[]] w fun e w' => e = .returned (.tuple #[]) ∧ RowE B w' (v) (sortC ps) ∧ Below B w w' := by
  have HI := hidden (stableA_c B v ps w hr hB hn hw)
  obtain ⟨qo, co, hvo⟩ := owns_sliceP hr.1
  subst hvo
  clear hr hw
  go_enter Try.func16, Try.ntmps16
  go_wp2_with (go_at_call 34; refine HI.out.mono ?_; rintro e w1 ⟨rfl, r1, b1⟩; replace r1 := hidden r1; replace b1 := hidden b1)
  go_end0
  exact ⟨rfl, r1.out, b1.out⟩
end Go.Proofs.Ytablcicfagmhpaa

/-! The newest first, as the program answers it, whatever the number of entries, and the lists of its entries lie apart: a contract for the walk; conditions: what comes in lies in memory, and holds at most 2 to the 20. -/
namespace Go.Proofs.Ytablcicfagmhpaa
open Go.RowKit
set_option linter.unusedSimpArgs false
set_option linter.unusedVariables false

/-- The entries of a name, in their order. -/
def ofName (xs : List EntryD) (n : ByteArray) : List EntryD := xs.filter fun d => decide (d.name = n)
theorem ofName_step (xs : List EntryD) (n : ByteArray) (i : Nat) (h : i < xs.length) : ofName (xs.take (i + 1)) n = if xs[i].name = n then ofName (xs.take i) n ++ [xs[i]] else ofName (xs.take i) n := by
  unfold ofName
  rw [List.take_succ_eq_append_getElem h, List.filter_append]
  by_cases e : xs[i].name = n
  · rw [if_pos e]; simp [e]
  · rw [if_neg e]; simp [e]
theorem ofName_len (xs : List EntryD) (n : ByteArray) : (ofName xs n).length ≤ xs.length := List.length_filter_le _ _

/-- Two entries' lists lie apart. -/
def SepE (p q : EC) : Prop := (∀ g, p.u0.ownBlock = some g → q.u0.ownBlock ≠ some g) ∧ ∀ g, p.u1.ownBlock = some g → q.u1.ownBlock ≠ some g
theorem SepE.symm {p q : EC} (h : SepE p q) : SepE q p := ⟨fun g a b => h.1 g b a, fun g a b => h.2 g b a⟩
/-- Each entry's lists lie apart from every other's, and behind B. -/
def Apart (B : Nat) (ps : List EC) : Prop := ps.Pairwise SepE ∧ ∀ p ∈ ps, (∀ g, p.u0.ownBlock = some g → B ≤ g) ∧ ∀ g, p.u1.ownBlock = some g → B ≤ g
theorem insG_perm {α : Type} (f : α → α → Bool) (ys : List α) (x : α) : (insG f ys x).Perm (x :: ys) := by
  unfold insG
  refine List.perm_middle.trans ?_
  rw [List.take_append_drop]
theorem fold_perm {α : Type} (f : α → α → Bool) : ∀ (l acc : List α), (l.foldl (insG f) acc).Perm (acc ++ l)
  | [], acc => by simp
  | x :: l, acc => by
    refine (fold_perm f l (insG f acc x)).trans ?_
    refine ((insG_perm f acc x).append_right l).trans ?_
    exact List.perm_middle.symm
theorem sortC_perm (ps : List EC) : (sortC ps).Perm ps := by
  have h := fold_perm lessC ps []
  rwa [List.nil_append] at h
theorem Apart.sort {B : Nat} {ps : List EC} (h : Apart B ps) : Apart B (sortC ps) := ⟨((sortC_perm ps).pairwise_iff (fun h => h.symm)).2 h.1, fun p hp => h.2 p (sortC_mem hp)⟩
theorem entC_far {S : Nat → Prop} {w : World} {cs : List Value} {d : EntryD} (h : shEntryO.lies S w cs d) : ∃ p : EC, p.d = d ∧ cs = p.cells ∧ EntOwn w p ∧ (∀ g, p.u0.ownBlock = some g → S g) ∧ ∀ g, p.u1.ownBlock = some g → S g := by
  obtain ⟨u0, u1, rfl, _, r0, _, r1⟩ := h
  obtain ⟨_, ys, ho, hf, hld⟩ := r1
  have hy := laid_needs hld ho.1
  subst hy
  exact ⟨⟨d, u0, u1⟩, rfl, rfl, ⟨r0.1, ho⟩, r0.2, hf⟩
theorem Apart.add {B : Nat} {w : World} {ps : List EC} {p : EC} {S : Nat → Prop} (h : Apart B ps) (ho : ∀ q ∈ ps, EntOwn w q) (hB : B ≤ w.heap.size) (h0 : ∀ g, p.u0.ownBlock = some g → w.heap.size ≤ g) (h1 : ∀ g, p.u1.ownBlock = some g → w.heap.size ≤ g) : Apart B (ps ++ [p]) := by
  refine ⟨List.pairwise_append.2 ⟨h.1, List.pairwise_singleton _ _, fun q hq r hr => ?_⟩, fun q hq => ?_⟩
  · rw [List.mem_singleton.1 hr]
    refine ⟨fun g a b => ?_, fun g a b => ?_⟩
    · have x1 := (owns_in (ho q hq).1 g a).2
      have x2 := h0 g b
      omega
    · have x1 := (owns_in (ho q hq).2 g a).2
      have x2 := h1 g b
      omega
  · rcases List.mem_append.1 hq with h9 | h9
    · exact h.2 q h9
    · rw [List.mem_singleton.1 h9]
      exact ⟨fun g a => Nat.le_trans hB (h0 g a), fun g a => Nat.le_trans hB (h1 g a)⟩

set_option maxHeartbeats 16000000 in
set_option maxRecDepth 100000 in
theorem implNewest_c (S : Nat → Prop) (v : Value) (xs : List EntryD) (n : ByteArray) (w : World) (hv : RowIn shEntry S w v xs) (hB : ∀ b, S b → b < w.heap.size) (hw : wtRow wtEntry xs ≤ 1048576) :
    Calls Try.prog 7 #[v, .string n] w fun e w' => ∃ v' ps, e = .returned v' ∧ RowE w.heap.size w' v' ps ∧ ps.map EC.d = newD xs n ∧ Apart w.heap.size ps ∧ Below w.heap.size w w' := by
  obtain ⟨i0, hi0, hz0, hz1, hz2⟩ := info_parts infoEntry
  have hwe : ∀ d ∈ xs, wtEntry d ≤ 1048576 := fun d hd => Nat.le_trans (wt_wtRow wtEntry hd) hw
  have hlx := len_wtRow wtEntry xs
  obtain ⟨av, cv, rfl, hl, hc, ha⟩ := hv
  unfold maxLen at hl
  have HG0 : Hid (RowE w.heap.size w (.slice none 0 0) []) := ⟨World.ownsRow_nil w _ _ _, fun p hp => by simp at hp⟩
  have HWE := hidden hwe
  have HFEW : Hid (xs.length ≤ 1048576) := by show _ ≤ _; omega
  clear hwe
  go_enter Try.func7, Try.ntmps7
  go_wp2_with fail
  go_loopw [5, 10] (fun vx vi wr => ∃ (i : Nat) (vo : Value) (ps : List EC), i ≤ xs.length ∧ vi = .int .i64 (i : Int) ∧ vx = vo ∧ Hid (ps.map EC.d = ofName (xs.take i) n) ∧ Hid (RowE w.heap.size wr vo ps) ∧ Hid (Apart w.heap.size ps) ∧ Hid (Below w.heap.size w wr)) (fun _ vi _ => xs.length - (intOf vi).toNat)
  case atStart => exact ⟨0, _, [], Nat.zero_le _, rfl, rfl, (by show _ = _; simp [ofName]), HG0, ⟨List.Pairwise.nil, fun p hp => nomatch hp⟩, Below.refl _ _⟩
  case round =>
    clear HG0
    obtain ⟨wo, hwo⟩ : ∃ wo, wo = wr := ⟨_, rfl⟩
    subst hwo
    obtain ⟨i, vo, ps, hil, rfl, hvx, hps, hrow, HAP, HBR⟩ := hrel
    have hbr := HBR.out
    have hpl : ps.length ≤ i := by
      have h1 := ofName_len (xs.take i) n
      have h2 := congrArg List.length hps.out
      rw [List.length_map] at h2
      rw [List.length_take] at h1
      omega
    have hwp : Hid (∀ q ∈ ps, bulkS q.d.vP ≤ 1048576) := fun q hq => by
      have h1 : q.d ∈ ps.map EC.d := List.mem_map_of_mem hq
      rw [hps.out] at h1
      exact wtE_vP (HWE.out _ (List.mem_of_mem_take (List.mem_filter.1 h1).1))
    obtain ⟨qo, co, hvo⟩ := owns_sliceP hrow.out.1
    subst hvx
    subst hvo
    by_cases hlt : i < xs.length
    · rcases ha with rfl | ⟨b, off, rfl, hlb, ha⟩
      · simp at hlt
      obtain ⟨cs, hL, hcell⟩ := ha i hlt
      have hcell2 := hcell.keep (.of hbr hB) hlb
      replace hL := shEntry.keep (.of hbr hB) hL
      have hBr : ∀ b, S b → b < wo.heap.size := fun b h => Nat.lt_of_lt_of_le (hB b h) hbr.size
      have hwk := HWE.out xs[i] (List.getElem_mem hlt)
      have HST := hidden (ofName_step xs n i hlt)
      obtain ⟨d, hd⟩ : ∃ d, d = xs[i] := ⟨_, rfl⟩
      rw [← hd] at hL hwk HST
      have HCP' : ∀ w1, Below wo.heap.size wo w1 → Calls Try.prog 15 #[.agg cs.toArray] w1 fun e w' => ∃ cs', e = .returned (.agg cs'.toArray) ∧ shEntryO.lies (Ow w1.heap.size w'.heap.size) w' cs' d ∧ Below w1.heap.size w1 w' := fun w1 h => copyEntry_c S d cs w1 (shEntry.keep (.of h hBr) hL) (fun b hb => Nat.lt_of_lt_of_le (hBr b hb) h.size) hwk
      obtain ⟨u0, u1, rfl, s_n, r0, p0, r1⟩ := hL
      obtain ⟨a0, cap0, eu0, _⟩ := id r0
      rw [length_strsV] at eu0
      subst eu0
      obtain ⟨a1, cap1, eu1, _⟩ := id r1
      subst eu1
      have HCP := hidden HCP'
      have e0 : wo.cell? ⟨b, off + i * 6, none⟩ = some (.string d.name) := hcell2 0 (by simp)
      have e1 : wo.cell? ⟨b, off + i * 6 + 1, none⟩ = some (.int .i64 d.vA) := hcell2 1 (by simp)
      have e2 : wo.cell? ⟨b, off + i * 6 + 2, none⟩ = some (.int .i64 d.vB) := hcell2 2 (by simp)
      have e3 : wo.cell? ⟨b, off + i * 6 + 3, none⟩ = some (.int .i64 d.vC) := hcell2 3 (by simp)
      have e4 : wo.cell? ⟨b, off + i * 6 + 4, none⟩ = some (.slice a0 d.vP.length cap0) := hcell2 4 (by simp)
      have e5 : wo.cell? ⟨b, off + i * 6 + 5, none⟩ = some (.slice a1 d.needs.length cap1) := hcell2 5 (by simp)
      have b0_ : (wo.alloc (.cells #[.string d.name, .int .i64 d.vA, .int .i64 d.vB, .int .i64 d.vC, .slice a0 d.vP.length cap0, .slice a1 d.needs.length cap1] 40)).cell? ⟨wo.heap.size, 0, none⟩ = some (.string d.name) := vblk_cell (vheap_new _ _) 0
      have b1_ : (wo.alloc (.cells #[.string d.name, .int .i64 d.vA, .int .i64 d.vB, .int .i64 d.vC, .slice a0 d.vP.length cap0, .slice a1 d.needs.length cap1] 40)).cell? ⟨wo.heap.size, 1, none⟩ = some (.int .i64 d.vA) := vblk_cell (vheap_new _ _) 1
      have b2_ : (wo.alloc (.cells #[.string d.name, .int .i64 d.vA, .int .i64 d.vB, .int .i64 d.vC, .slice a0 d.vP.length cap0, .slice a1 d.needs.length cap1] 40)).cell? ⟨wo.heap.size, 2, none⟩ = some (.int .i64 d.vB) := vblk_cell (vheap_new _ _) 2
      have b3_ : (wo.alloc (.cells #[.string d.name, .int .i64 d.vA, .int .i64 d.vB, .int .i64 d.vC, .slice a0 d.vP.length cap0, .slice a1 d.needs.length cap1] 40)).cell? ⟨wo.heap.size, 3, none⟩ = some (.int .i64 d.vC) := vblk_cell (vheap_new _ _) 3
      have b4_ : (wo.alloc (.cells #[.string d.name, .int .i64 d.vA, .int .i64 d.vB, .int .i64 d.vC, .slice a0 d.vP.length cap0, .slice a1 d.needs.length cap1] 40)).cell? ⟨wo.heap.size, 4, none⟩ = some (.slice a0 d.vP.length cap0) := vblk_cell (vheap_new _ _) 4
      have b5_ : (wo.alloc (.cells #[.string d.name, .int .i64 d.vA, .int .i64 d.vB, .int .i64 d.vC, .slice a0 d.vP.length cap0, .slice a1 d.needs.length cap1] 40)).cell? ⟨wo.heap.size, 5, none⟩ = some (.slice a1 d.needs.length cap1) := vblk_cell (vheap_new _ _) 5
      have hki : (i : Int) < (xs.length : Int) := by omega
      have hal := name_alike d.name n
      have kb : Below wo.heap.size wo (wo.alloc (.cells #[.string d.name, .int .i64 d.vA, .int .i64 d.vB, .int .i64 d.vC, .slice a0 d.vP.length cap0, .slice a1 d.needs.length cap1] 40)) := (Below.refl _ _).alloc (Nat.le_refl _) _
      have KB := hidden kb
      have HBA : Hid (Below w.heap.size w (wo.alloc (.cells #[.string d.name, .int .i64 d.vA, .int .i64 d.vB, .int .i64 d.vC, .slice a0 d.vP.length cap0, .slice a1 d.needs.length cap1] 40))) := hbr.alloc hbr.size _
      have HRA := hidden (hrow.out.below kb)
      clear ha hd hcell hcell2 HCP' r0 r1 p0 s_n hwk hrow hbr HBR kb
      by_cases hts : d.name = n
      case neg =>
        have hq : (d.name.toList == n.toList) = false := by rw [hal]; simpa using hts
        rw [if_neg hts] at HST
        clear hts hal HCP
        go_wp2_with fail
        go_roundw
        case rel => exact ⟨i + 1, _, ps, by omega, by go_num, rfl, (by show _ = _; rw [HST.out]; exact hps.out), HRA, HAP, HBA⟩
        case measure => simp [intOf]; omega
      case pos =>
      have hq : (d.name.toList == n.toList) = true := by rw [hal]; simpa using hts
      rw [if_pos hts] at HST
      clear hts hal
      go_wp2_with fail
      go_at_call 15
      refine (HCP.out _ KB.out).mono ?_
      rintro e w2 ⟨cs2, rfl, hX2, b2⟩
      obtain ⟨p, hpd, hpc, hpo, hf0, hf1⟩ := entC_far hX2
      have HAP2 : Hid (Apart w.heap.size (ps ++ [p])) := Apart.add (S := fun _ => True) HAP.out HRA.out.2 HBA.out.size (fun g h => (hf0 g h).1) (fun g h => (hf1 g h).1)
      subst hpc
      have hrow2 := HRA.out.below b2
      have k2 := HBA.out.trans (b2.mono HBA.out.size)
      obtain ⟨q0, c0, q1, c1, f0, f1⟩ := ent_slices hpo
      have hpcells : p.cells = [.string d.name, .int .i64 d.vA, .int .i64 d.vB, .int .i64 d.vC, .slice q0 d.vP.length c0, .slice q1 d.needs.length c1] := by unfold EC.cells; rw [f0, f1, hpd]
      have HPC := hidden hpcells
      rw [hpcells]
      have hown2 : w2.ownsRow w.heap.size 40 6 (.slice qo ps.length co) ps.length (flatE ps) := hrow2.1
      have kz : Below w.heap.size w (w2.alloc (.cells #[.string d.name, .int .i64 d.vA, .int .i64 d.vB, .int .i64 d.vC, .slice q0 d.vP.length c0, .slice q1 d.needs.length c1] 40)) := k2.alloc k2.size _
      have HALL : Hid (∀ q ∈ ps, EntOwn w2 q) := hrow2.2
      clear HCP hX2 HRA hrow2 e0 e1 e2 e3 e4 e5 b0_ b1_ b2_ b3_ b4_ b5_ HBA KB
      go_wp2_with (at_builtin; refine wpList_append_own _ rfl _ _ 24 rfl w.heap.size 40 i0 (.agg #[.string ⟨#[]⟩, .int .i64 0, .int .i64 0, .int .i64 0, .slice none 0 0, .slice none 0 0]) 6 88 Try.underlying24 hi0 hz0 hz1 hz2 rfl (by decide) _ ps.length (flatE ps) rfl (hown2.alloc _) ⟨w2.heap.size, 0, none⟩ 1 1 [.string d.name, .int .i64 d.vA, .int .i64 d.vB, .int .i64 d.vC, .slice q0 d.vP.length c0, .slice q1 d.needs.length c1] rfl rfl (src_newN _ [.string d.name, .int .i64 d.vA, .int .i64 d.vB, .int .i64 d.vC, .slice q0 d.vP.length c0, .slice q1 d.needs.length c1] _) (by intro u hu; simp at hu; rcases hu with rfl | rfl | rfl | rfl | rfl | rfl <;> rfl) (by unfold maxLen; omega) (by omega) (by have := k2.size; simp; omega) ?_)
      intro v3 w3 o3 gr3 _
      have hb3 : Below w.heap.size w w3 := kz.grown gr3 kz.size (fun j hj => (hown2.lt j hj).1)
      have hrow3 : RowE w.heap.size w3 v3 (ps ++ [p]) := by
        refine ⟨?_, fun q hq => ?_⟩
        · rw [flatE_append, List.length_append]
          have e9 : flatE [p] = [.string d.name, .int .i64 d.vA, .int .i64 d.vB, .int .i64 d.vC, .slice q0 d.vP.length c0, .slice q1 d.needs.length c1] := by show p.cells ++ [] = _; rw [List.append_nil]; exact HPC.out
          rw [e9]
          exact o3
        · have kz2 : Below w2.heap.size w2 (w2.alloc (.cells #[.string d.name, .int .i64 d.vA, .int .i64 d.vB, .int .i64 d.vC, .slice q0 d.vP.length c0, .slice q1 d.needs.length c1] 40)) := (Below.refl _ _).alloc (Nat.le_refl _) _
          rcases List.mem_append.1 hq with h9 | h9
          · exact ((HALL.out q h9).below kz2).grown (hown2.alloc _) gr3
          · rw [List.mem_singleton.1 h9]; exact (hpo.below kz2).grown (hown2.alloc _) gr3
      have HR3 := hidden hrow3
      have HB3 := hidden hb3
      have HNW : Hid ((ps ++ [p]).map EC.d = ofName (xs.take (i + 1)) n) := by
        show _ = _
        rw [HST.out, List.map_append, hps.out, ← hpd]
        rfl
      clear hf0 hf1 HAP hrow3 hb3 o3 gr3 HALL kz k2 b2 hown2 hpo hps hpd hpcells f0 f1
      go_wp2_with fail
      go_roundw
      case rel => exact ⟨i + 1, _, ps ++ [p], by omega, by go_num, rfl, HNW, HR3, HAP2, HB3⟩
      case measure => simp [intOf]; omega
    · have he : i = xs.length := by omega
      subst he
      rw [List.take_length] at hps
      have hlen : ps.length ≤ 1099511627776 := by
        have h2 := congrArg List.length hps.out
        rw [List.length_map] at h2
        have := HFEW.out
        have := ofName_len xs n
        omega
      have HSS := hidden (sortStableA_c w.heap.size _ ps wo hrow.out hbr.size hlen hwp.out)
      have HND : Hid ((sortC ps).map EC.d = newD xs n) := by
        show _ = _
        rw [sortC_map, hps.out]
        rfl
      clear ha hrow hwp hps hbr
      go_wp2_with (go_at_call 16; refine HSS.out.mono ?_; rintro e w1 ⟨rfl, r1, b1⟩; replace r1 := hidden r1; replace b1 := hidden b1)
      go_ret
      exact ⟨_, sortC ps, rfl, r1.out, HND.out, HAP.out.sort, HBR.out.trans b1.out⟩
end Go.Proofs.Ytablcicfagmhpaa

/-! Marks put into a row of entries whose lists lie apart, told one by one: a contract for the walk; conditions: the row may be written, its lists lie apart, and there are at most 2 to the 32 marks. -/
namespace Go.Proofs.Ytablcicfagmhpaa
open Go.RowKit
set_option linter.unusedSimpArgs false
set_option linter.unusedVariables false

theorem flatE_four (qs : List EC) (i : Nat) (h : i < qs.length) (p : EC) (h0 : p.u0 = qs[i].u0) (h1 : p.u1 = qs[i].u1) : ((((flatE qs).set (i * 6) (.string p.d.name)).set (i * 6 + 1) (.int .i64 p.d.vA)).set (i * 6 + 2) (.int .i64 p.d.vB)).set (i * 6 + 3) (.int .i64 p.d.vC) = flatE (qs.set i p) := by
  apply List.ext_getElem?
  intro m
  have hl := flatE_length qs
  by_cases hm : m < qs.length * 6
  · obtain ⟨q, r, rfl, h6⟩ : ∃ q r, m = q * 6 + r ∧ r < 6 := ⟨m / 6, m % 6, by omega, Nat.mod_lt _ (by omega)⟩
    have hq : q < qs.length := by omega
    rw [flatE_at (qs.set i p) q (by simpa using hq) r h6]
    by_cases hi : i = q
    · subst hi
      have e9 : (qs.set i p)[i]'(by simpa using hq) = p := by simp
      rw [e9]
      have hA := flatE_at qs i h r h6
      obtain rfl | rfl | rfl | rfl | rfl | rfl : r = 0 ∨ r = 1 ∨ r = 2 ∨ r = 3 ∨ r = 4 ∨ r = 5 := by omega
      · rw [List.getElem?_set_ne (by omega), List.getElem?_set_ne (by omega), List.getElem?_set_ne (by omega), Nat.add_zero, List.getElem?_set_self (by omega)]; rfl
      · rw [List.getElem?_set_ne (by omega), List.getElem?_set_ne (by omega), List.getElem?_set_self (by rw [List.length_set]; omega)]; rfl
      · rw [List.getElem?_set_ne (by omega), List.getElem?_set_self (by rw [List.length_set, List.length_set]; omega)]; rfl
      · rw [List.getElem?_set_self (by rw [List.length_set, List.length_set, List.length_set]; omega)]; rfl
      · rw [List.getElem?_set_ne (by omega), List.getElem?_set_ne (by omega), List.getElem?_set_ne (by omega), List.getElem?_set_ne (by omega), hA]
        show some qs[i].u0 = some p.u0
        rw [h0]
      · rw [List.getElem?_set_ne (by omega), List.getElem?_set_ne (by omega), List.getElem?_set_ne (by omega), List.getElem?_set_ne (by omega), hA]
        show some qs[i].u1 = some p.u1
        rw [h1]
    · rw [List.getElem?_set_ne (by omega), List.getElem?_set_ne (by omega), List.getElem?_set_ne (by omega), List.getElem?_set_ne (by omega), flatE_at _ _ hq _ h6]
      simp [List.getElem_set, hi]
  · rw [List.getElem?_eq_none (by simp; omega), List.getElem?_eq_none (by rw [flatE_length]; simp; omega)]
/-- Needs whose texts are marks. -/
def needsM (k q : Nat) : List NeedD := (List.range q).map fun j => ⟨markStr (k + j * 2), markStr (k + j * 2 + 1)⟩
theorem needsM_len (k q : Nat) : (needsM k q).length = q := by simp [needsM]
theorem needsV_M (k q : Nat) : needsV (needsM k q) = strsV (marksS k (q * 2)) := by
  induction q with
  | zero => rfl
  | succ q ih =>
    have e1 : needsM k (q + 1) = needsM k q ++ [⟨markStr (k + q * 2), markStr (k + q * 2 + 1)⟩] := by simp [needsM, List.range_succ]
    have e2 : marksS k ((q + 1) * 2) = marksS k (q * 2) ++ [markStr (k + q * 2), markStr (k + q * 2 + 1)] := by
      unfold marksS
      rw [show (q + 1) * 2 = q * 2 + 1 + 1 by omega, List.range_succ, List.range_succ]
      simp [Nat.add_assoc]
    rw [e1, e2]
    unfold needsV strsV at *
    rw [List.flatMap_append, ih, List.map_append]
    rfl
/-- An entry marked from m on. -/
def mkE (p : EC) (m : Nat) : EC := ⟨⟨markStr m, (m : Int) + 1, (m : Int) + 1 + 1, (m : Int) + 1 + 1 + 1, marksS (m + 4) p.d.vP.length, needsM (m + 4 + p.d.vP.length) p.d.needs.length⟩, p.u0, p.u1⟩
/-- The first i marked from k on. -/
def hybE (ps : List EC) (k i : Nat) : List EC := ps.mapIdx fun j p => if j < i then mkE p (k + cntEs ((ps.map EC.d).take j)) else p
theorem hyb_len (ps : List EC) (k i : Nat) : (hybE ps k i).length = ps.length := by simp [hybE]
theorem hyb_zero (ps : List EC) (k : Nat) : hybE ps k 0 = ps := by
  apply List.ext_getElem (hyb_len ps k 0)
  intro j h1 h2
  simp [hybE]
theorem hyb_at (ps : List EC) (k i j : Nat) (h : j < ps.length) : (hybE ps k i)[j]'(by rw [hyb_len]; exact h) = if j < i then mkE ps[j] (k + cntEs ((ps.map EC.d).take j)) else ps[j] := by simp [hybE]
theorem hyb_self (ps : List EC) (k i : Nat) (h : i < ps.length) : (hybE ps k i)[i]'(by rw [hyb_len]; exact h) = ps[i] := by rw [hyb_at _ _ _ _ h, if_neg (by omega)]
theorem hyb_u (ps : List EC) (k i j : Nat) (h : j < ps.length) : ((hybE ps k i)[j]'(by rw [hyb_len]; exact h)).u0 = ps[j].u0 ∧ ((hybE ps k i)[j]'(by rw [hyb_len]; exact h)).u1 = ps[j].u1 := by
  rw [hyb_at _ _ _ _ h]
  split <;> exact ⟨rfl, rfl⟩
theorem hyb_succ (ps : List EC) (k i : Nat) (h : i < ps.length) : hybE ps k (i + 1) = (hybE ps k i).set i (mkE ps[i] (k + cntEs ((ps.map EC.d).take i))) := by
  apply List.ext_getElem (by rw [List.length_set, hyb_len, hyb_len])
  intro j h1 h2
  have hj : j < ps.length := by rw [hyb_len] at h1; exact h1
  rw [hyb_at _ _ _ _ hj, List.getElem_set]
  by_cases e : i = j
  · subst e; rw [if_pos (by omega), if_pos rfl]
  · rw [if_neg e, hyb_at _ _ _ _ hj]
    by_cases e2 : j < i
    · rw [if_pos e2, if_pos (by omega)]
    · rw [if_neg e2, if_neg (by omega)]
theorem sep_cond {a b : Value} (h : ∀ g, a.ownBlock = some g → b.ownBlock ≠ some g) : a.ownBlock = none ∨ a.ownBlock ≠ b.ownBlock := by
  cases ha : a.ownBlock with
  | none => exact .inl rfl
  | some g => exact .inr (fun e => h g ha e.symm)
theorem apart_at {B : Nat} {ps : List EC} (h : Apart B ps) (i j : Nat) (hi : i < ps.length) (hj : j < ps.length) (hne : j ≠ i) : SepE ps[j] ps[i] := by
  rcases Nat.lt_or_gt_of_ne hne with k | k
  · exact List.pairwise_iff_getElem.1 h.1 j i hj hi k
  · exact (List.pairwise_iff_getElem.1 h.1 i j hi hj k).symm
/-- All but one. -/
def AllBut (W : World) (Q : List EC) (i : Nat) : Prop := ∀ j (h : j < Q.length), j ≠ i → EntOwn W Q[j]
/-- What marking an entry comes to. -/
theorem rowE_mark {B m i : Nat} {W : World} {v : Value} {Q : List EC} {p : EC} (hpx : Q[i]? = some p) (ho : W.ownsRow B 40 6 v Q.length (((((flatE Q).set (i * 6) (.string (markStr m))).set (i * 6 + 1) (.int .i64 ((m : Int) + 1))).set (i * 6 + 2) (.int .i64 ((m : Int) + 1 + 1))).set (i * 6 + 3) (.int .i64 ((m : Int) + 1 + 1 + 1)))) (ha : AllBut W Q i) (h0 : W.ownsRow 0 9 1 p.u0 p.d.vP.length (strsV (marksS (m + 4) p.d.vP.length))) (h1 : W.ownsRow 0 67 2 p.u1 p.d.needs.length (strsV (marksS (m + 4 + p.d.vP.length) (p.d.needs.length * 2)))) : RowE B W v (Q.set i (mkE p m)) := by
  obtain ⟨hi, hp⟩ := List.getElem?_eq_some_iff.1 hpx
  have e9 := flatE_four Q i hi (mkE p m) (by rw [hp]; rfl) (by rw [hp]; rfl)
  refine ⟨?_, fun q hq => ?_⟩
  · rw [List.length_set, ← e9]; exact ho
  · obtain ⟨j, hj, rfl⟩ := List.mem_iff_getElem.1 hq
    rw [List.getElem_set]
    rw [List.length_set] at hj
    by_cases e : i = j
    · rw [if_pos e]
      refine ⟨?_, ?_⟩
      · show W.ownsRow 0 9 1 p.u0 (marksS (m + 4) p.d.vP.length).length (strsV (marksS (m + 4) p.d.vP.length))
        rw [length_marksS]; exact h0
      · show W.ownsRow 0 67 2 p.u1 (needsM (m + 4 + p.d.vP.length) p.d.needs.length).length (needsV (needsM (m + 4 + p.d.vP.length) p.d.needs.length))
        rw [needsM_len, needsV_M]; exact h1
    · rw [if_neg e]; exact ha j hj (fun h => e h.symm)

set_option maxHeartbeats 8000000 in
set_option maxRecDepth 100000 in
theorem markRowE_c (B : Nat) (v : Value) (ps : List EC) (k : Nat) (w : World) (hv : RowE B w v ps) (hap : Apart B ps) (h1 : 1 ≤ k) (h2 : k + cntEs (ps.map EC.d) ≤ 4294967296) :
    Calls Try.prog 9 #[v, .int .i64 (k : Int)] w fun e w' => e = .returned (.int .i64 ((k + cntEs (ps.map EC.d) : Nat) : Int)) ∧ RowE B w' v (hybE ps k ps.length) ∧ Chg (Ow B w.heap.size) w w' := by
  rcases id hv.1.2 with ⟨rfl, hn0⟩ | ⟨g, cap, cur, rfl, hBg, hgb, hcap, hmax, _⟩
  · have hns : ps = [] := List.eq_nil_of_length_eq_zero hn0
    subst hns
    have HV := hidden hv
    clear hv hap
    go_enter Try.func9, Try.ntmps9
    go_wp2_with fail
    go_loopw [1, 5] (fun vk vi wr => vk = .int .i64 (k : Int) ∧ vi = .int .i64 0 ∧ wr = w) (fun _ _ _ => 0)
    case atStart => exact ⟨rfl, rfl, rfl⟩
    case round =>
      obtain ⟨rfl, rfl, rfl⟩ := hrel
      go_wp2_with fail
      go_ret
      exact ⟨by simp [cntEs], HV.out, Chg.refl _ _⟩
  · have hglt : g < w.heap.size := (hv.1.lt g rfl).2
    have hSg : Ow B w.heap.size g := ⟨hBg, hglt⟩
    unfold maxLen at hmax
    have HSS : Hid (∀ p ∈ ps, (∀ g, p.u0.ownBlock = some g → Ow B w.heap.size g) ∧ ∀ g, p.u1.ownBlock = some g → Ow B w.heap.size g) := fun p hp => ⟨fun g h => ⟨(hap.2 p hp).1 g h, (owns_in (hv.2 p hp).1 g h).2⟩, fun g h => ⟨(hap.2 p hp).2 g h, (owns_in (hv.2 p hp).2 g h).2⟩⟩
    have HAP := hidden hap
    have HV0 : Hid (RowE B w (.slice (some ⟨g, 0, none⟩) ps.length cap) (hybE ps k 0)) := by rw [hyb_zero]; exact hv
    obtain ⟨xs, hxs⟩ : ∃ xs, xs = ps.map EC.d := ⟨_, rfl⟩
    have hxl : xs.length = ps.length := by rw [hxs, List.length_map]
    have HXS := hidden hxs
    rw [← hxs] at h2 ⊢
    clear hv hap hgb hBg hxs
    go_enter Try.func9, Try.ntmps9
    go_wp2_with fail
    go_loopw [1, 5] (fun vk vi wr => ∃ (i m : Nat), i ≤ ps.length ∧ vi = .int .i64 (i : Int) ∧ vk = .int .i64 (m : Int) ∧ Hid (m = k + cntEs (xs.take i)) ∧ Hid (RowE B wr (.slice (some ⟨g, 0, none⟩) ps.length cap) (hybE ps k i)) ∧ Hid (Chg (Ow B w.heap.size) w wr)) (fun _ vi _ => ps.length - (intOf vi).toNat)
    case atStart => exact ⟨0, k, Nat.zero_le _, rfl, rfl, by show _ = _; simp [cntEs], HV0, Chg.refl _ _⟩
    case round =>
      clear HV0
      obtain ⟨i, m, hi, rfl, rfl, hm, HROW, HCHG⟩ := hrel
      by_cases hlt : i < ps.length
      · have hts := cntEs_take xs i (by omega)
        have htl := cntEs_le xs (i + 1)
        have hxi : xs[i]'(by omega) = ps[i].d := by have := HXS.out; subst this; simp
        rw [hxi] at hts
        have HST := hidden (hyb_succ ps k i hlt)
        rw [← HXS.out, ← hm.out] at HST
        obtain ⟨Q, hQe⟩ : ∃ Q, Q = hybE ps k i := ⟨_, rfl⟩
        have hQl : Q.length = ps.length := by rw [hQe, hyb_len]
        have hQi : Q[i]'(by omega) = ps[i] := by subst hQe; exact hyb_self ps k i hlt
        have HSP : Hid (∀ j (h : j < Q.length), j ≠ i → SepE Q[j] ps[i]) := fun j h hne => by
          have hj : j < ps.length := by omega
          have h8 := hyb_u ps k i j hj
          have h9 := apart_at HAP.out i j hlt hj hne
          subst hQe
          unfold SepE at h9 ⊢
          rw [h8.1, h8.2]
          exact h9
        have HQX : Hid ((hybE ps k (i + 1)) = Q.set i (mkE ps[i] m)) := by show _ = _; rw [HST.out, ← hQe]
        rw [← hQe] at HROW
        have hps0 := (HSS.out ps[i] (List.getElem_mem hlt)).1
        have hps1 := (HSS.out ps[i] (List.getElem_mem hlt)).2
        have HEO : Hid (∀ W (h : ∀ q ∈ Q, EntOwn W q), EntOwn W ps[i] ∧ AllBut W Q i) := fun W h => ⟨by rw [← hQi]; exact h _ (List.getElem_mem _), fun j hj _ => h _ (List.getElem_mem _)⟩
        obtain ⟨p, hp⟩ : ∃ p, p = ps[i] := ⟨_, rfl⟩
        rw [← hp] at HQX HSP hps0 hps1 HEO hts hQi
        obtain ⟨u0, hu0⟩ : ∃ u, u = p.u0 := ⟨_, rfl⟩
        obtain ⟨u1, hu1⟩ : ∃ u, u = p.u1 := ⟨_, rfl⟩
        obtain ⟨P, hP⟩ : ∃ P, P = p.d.vP.length := ⟨_, rfl⟩
        obtain ⟨N, hN⟩ : ∃ N, N = p.d.needs.length := ⟨_, rfl⟩
        have HFLD := hidden (And.intro hu0 (And.intro hu1 (And.intro hP hN)))
        have HTS : Hid (cntEs (xs.take (i + 1)) = cntEs (xs.take i) + (4 + P + N * 2) ∧ cntEs (xs.take (i + 1)) ≤ cntEs xs) := ⟨by rw [hP, hN]; exact hts, htl⟩
        have hm2 : m + 4 + P + N * 2 ≤ 4294967296 := by have := hm.out; have := HTS.out; omega
        have hm1 : 1 ≤ m := by have := hm.out; omega
        have hki : (i : Int) < (ps.length : Int) := by omega
        have hown : wr.ownsRow B 40 6 (.slice (some ⟨g, 0, none⟩) ps.length cap) ps.length (flatE Q) := by rw [← hQl]; rw [← hQl] at HROW; exact HROW.out.1
        have HALL : Hid (∀ q ∈ Q, EntOwn wr q) := HROW.out.2
        have HO := hidden hown
        have hfl := flatE_length Q
        have hcell : ∀ j, j < 6 → ∃ x, (flatE Q)[i * 6 + j]? = some x := fun j hj => ⟨(flatE Q).getD (i * 6 + j) undef, by simp [List.getD_eq_getElem?_getD, show i * 6 + j < (flatE Q).length by omega]⟩
        have hc4 : (flatE Q)[i * 6 + 4]? = some u0 := by rw [flatE_at Q i (by omega) 4 (by omega), hQi, hu0]; rfl
        have hc5 : (flatE Q)[i * 6 + 5]? = some u1 := by rw [flatE_at Q i (by omega) 5 (by omega), hQi, hu1]; rfl
        have HM1 := hidden (fun w1 => markText_c m w1 (by omega) (by omega))
        have HQL := hidden hQl
        have HQI : Hid (Q[i]? = some p) := List.getElem?_eq_some_iff.2 ⟨by omega, hQi⟩
        have HQE := hidden hQe
        rw [← hu0] at hps0
        rw [← hu1] at hps1
        clear hown hts htl hP hN hu0 hu1 hxi HST hQl hQi hQe hp HROW hxl hi
        go_wp2_with fail
        go_at_call 20
        refine (HM1.out _).mono ?_
        rintro e w1 ⟨rfl, b1⟩
        have r1 := HO.out.kept (grown_of_below b1 none) (by simp [Value.ownBlock])
        have f1 := r1.frozenAt
        have hcx : ∀ j, j < 6 → ∃ x, w1.cell? ⟨g, i * 6 + j, none⟩ = some x := fun j hj => by
          obtain ⟨x, hx⟩ := hcell j hj
          exact ⟨x, by rw [r1.cellAt _ (by omega)]; exact hx⟩
        obtain ⟨c0, d0⟩ := hcx 0 (by omega)
        obtain ⟨c1, d1⟩ := hcx 1 (by omega)
        obtain ⟨c2, d2⟩ := hcx 2 (by omega)
        obtain ⟨c3, d3⟩ := hcx 3 (by omega)
        rw [Nat.add_zero] at d0
        have s0 := r1.stored (i * 6) (.string (markStr m))
        have s1 := s0.1.stored (i * 6 + 1) (.int .i64 ((m : Int) + 1))
        have s2 := s1.1.stored (i * 6 + 2) (.int .i64 ((m : Int) + 1 + 1))
        have s3 := s2.1.stored (i * 6 + 3) (.int .i64 ((m : Int) + 1 + 1 + 1))
        have q5 : ∀ q ∈ Q, EntOwn ((((w1.setCell ⟨g, i * 6, none⟩ (.string (markStr m))).setCell ⟨g, i * 6 + 1, none⟩ (.int .i64 ((m : Int) + 1))).setCell ⟨g, i * 6 + 2, none⟩ (.int .i64 ((m : Int) + 1 + 1))).setCell ⟨g, i * 6 + 3, none⟩ (.int .i64 ((m : Int) + 1 + 1 + 1))) q := fun q hq => (((((HALL.out q hq).below b1).put r1).put s0.1).put s1.1).put s2.1
        obtain ⟨hpo, hab⟩ := HEO.out _ q5
        have hu3 := hpo.1
        have hu5 := hpo.2
        rw [← HFLD.out.1, ← HFLD.out.2.2.1] at hu3
        rw [← HFLD.out.2.1, ← HFLD.out.2.2.2] at hu5
        have d4 : w1.cell? ⟨g, i * 6 + 4, none⟩ = some u0 := by rw [r1.cellAt _ (by omega)]; exact hc4
        obtain ⟨qu, cu, eu⟩ := owns_sliceP hu3
        have HMS := markStrs_c u0 0 P _ (m + 4) _ hu3 (by omega) (by omega) (by omega) (Nat.zero_le _)
        rw [show ((m + 4 : Nat) : Int) = (m : Int) + 1 + 1 + 1 + 1 by omega] at HMS
        have CH1 : Chg (Ow B w.heap.size) wr ((((w1.setCell ⟨g, i * 6, none⟩ (.string (markStr m))).setCell ⟨g, i * 6 + 1, none⟩ (.int .i64 ((m : Int) + 1))).setCell ⟨g, i * 6 + 2, none⟩ (.int .i64 ((m : Int) + 1 + 1))).setCell ⟨g, i * 6 + 3, none⟩ (.int .i64 ((m : Int) + 1 + 1 + 1))) := (Chg.of b1).trans ((Chg.set hSg).trans ((Chg.set hSg).trans ((Chg.set hSg).trans (Chg.set hSg))))
        have HSP0 : Hid (∀ j (h : j < Q.length), j ≠ i → (Q[j].u0.ownBlock = none ∨ Q[j].u0.ownBlock ≠ u0.ownBlock) ∧ (Q[j].u1.ownBlock = none ∨ Q[j].u1.ownBlock ≠ u1.ownBlock)) := fun j h hne => by
          rw [HFLD.out.1, HFLD.out.2.1]
          exact ⟨sep_cond (HSP.out j h hne).1, sep_cond (HSP.out j h hne).2⟩
        subst eu
        have HMS2 := hidden HMS
        have HR2 := hidden s3.1
        have HAB := hidden hab
        have HU2 := hidden hu3
        have HU5 := hidden hu5
        have HCH1 := hidden CH1
        have HC5 := hidden hc5
        clear r1 s0 s1 s2 s3 q5 HMS hu3 hu5 CH1 hcx hcell hc4 hc5 hpo hab HALL HEO HSP b1
        go_wp2_with fail
        go_at_call 21
        refine HMS2.out.mono ?_
        rintro e w2 ⟨rfl, y2, g2⟩
        have r3 := HR2.out.kept g2 (owns_apart HR2.out HU2.out (by decide))
        have n3 := HU5.out.kept g2 (owns_apart HU5.out HU2.out (by decide))
        have ab3 : AllBut w2 Q i := fun j hj hne => ⟨(HAB.out j hj hne).1.kept g2 (HSP0.out j hj hne).1, (HAB.out j hj hne).2.kept g2 (owns_apart (HAB.out j hj hne).2 HU2.out (by decide))⟩
        have d5 : w2.cell? ⟨g, i * 6 + 5, none⟩ = some u1 := by
          rw [r3.cellAt _ (by omega), List.getElem?_set_ne (by omega), List.getElem?_set_ne (by omega), List.getElem?_set_ne (by omega), List.getElem?_set_ne (by omega)]
          exact HC5.out
        obtain ⟨qt, ct, et⟩ := owns_sliceP n3
        have HMN := markNeedV_c u1 0 N (m + 4 + P) _ _ n3 (by omega) (by omega)
        rw [show ((m + 4 + P : Nat) : Int) = (m : Int) + 1 + 1 + 1 + 1 + (P : Int) by omega] at HMN
        subst et
        have HMN2 := hidden HMN
        have HR3 := hidden r3
        have HN3 := hidden n3
        have HY2 := hidden y2
        have HAB3 := hidden ab3
        have HCH2 := hidden (HCH1.out.trans (Chg.grown g2 hps0))
        clear r3 n3 HMN y2 ab3 HAB HR2 HMS2 HU2 HU5 HC5
        go_wp2_with fail
        go_at_call 22
        refine HMN2.out.mono ?_
        rintro e w3 ⟨rfl, y3, g3⟩
        have r4 := HR3.out.kept g3 (owns_apart HR3.out HN3.out (by decide))
        have y4 := HY2.out.kept g3 (owns_apart HY2.out HN3.out (by decide))
        have ab4 : AllBut w3 Q i := fun j hj hne => ⟨(HAB3.out j hj hne).1.kept g3 (owns_apart (HAB3.out j hj hne).1 HN3.out (by decide)), (HAB3.out j hj hne).2.kept g3 (HSP0.out j hj hne).2⟩
        have HRW : Hid (RowE B w3 (.slice (some ⟨g, 0, none⟩) ps.length cap) (hybE ps k (i + 1))) := by
          show RowE _ _ _ _
          rw [HQX.out]
          refine rowE_mark HQI.out (by rw [HQL.out]; exact r4) ab4 ?_ ?_
          · rw [← HFLD.out.1, ← HFLD.out.2.2.1]; exact y4
          · rw [← HFLD.out.2.1, ← HFLD.out.2.2.1, ← HFLD.out.2.2.2]; exact y3
        have HCH3 := hidden (HCHG.out.trans (HCH2.out.trans (Chg.grown g3 hps1)))
        clear r4 y3 y4 ab4 HCHG HCH2 HCH1
        go_wp2_with fail
        go_roundw
        case rel => exact ⟨i + 1, m + 4 + P + N * 2, by omega, by go_num, by first | rfl | (simp; done) | (simp; omega), (by show _ = _; have := hm.out; have := HTS.out; omega), HRW, HCH3⟩
        case measure => simp [intOf]; omega
      · have he : i = ps.length := by omega
        subst he
        have hmm : m = k + cntEs xs := by have := hm.out; rw [List.take_of_length_le (by omega)] at this; exact this
        have HMM := hidden hmm
        clear hmm
        go_wp2_with fail
        go_ret
        exact ⟨by rw [← HMM.out]; rfl, HROW.out, HCHG.out⟩
end Go.Proofs.Ytablcicfagmhpaa

/-! The marks of a row of entries found again: a contract for the walk; condition: there are at most 2 to the 32 marks. -/
namespace Go.Proofs.Ytablcicfagmhpaa
open Go.RowKit
set_option linter.unusedSimpArgs false
set_option linter.unusedVariables false

set_option maxHeartbeats 8000000 in
set_option maxRecDepth 100000 in
theorem heldRowE_c (B : Nat) (v : Value) (ps : List EC) (k : Nat) (w : World) (hv : RowE B w v (hybE ps k ps.length)) (h1 : 1 ≤ k) (h2 : k + cntEs (ps.map EC.d) ≤ 4294967296) :
    Calls Try.prog 10 #[v, .int .i64 (k : Int)] w fun e w' => e = .returned (.int .i64 ((k + cntEs (ps.map EC.d) : Nat) : Int)) ∧ Below w.heap.size w w' := by
  have hyl := hyb_len ps k ps.length
  rcases id hv.1.2 with ⟨rfl, hn0⟩ | ⟨g, cap, cur, rfl, hBg, hgb, hcap, hmax, _⟩
  · have hns : ps = [] := List.eq_nil_of_length_eq_zero (by omega)
    subst hns
    clear hv
    go_enter Try.func10, Try.ntmps10
    go_wp2_with fail
    go_loopw [1, 5] (fun vk vi wr => vk = .int .i64 (k : Int) ∧ vi = .int .i64 0 ∧ wr = w) (fun _ _ _ => 0)
    case atStart => exact ⟨rfl, rfl, rfl⟩
    case round =>
      obtain ⟨rfl, rfl, rfl⟩ := hrel
      go_wp2_with fail
      go_ret
      exact ⟨by simp [cntEs], Below.refl _ _⟩
  · have hglt : g < w.heap.size := (hv.1.lt g rfl).2
    unfold maxLen at hmax
    rw [hyl] at hcap
    have HCE : Hid (∀ i (h : i < ps.length) c, c < 6 → w.cell? ⟨g, i * 6 + c, none⟩ = ((mkE ps[i] (k + cntEs ((ps.map EC.d).take i))).cells)[c]?) := fun i h c hc => by
      have h9 := hv.cell rfl (i := i) (by omega) c hc
      rw [hyb_at ps k ps.length i h, if_pos h] at h9
      exact h9
    have HEO : Hid (∀ i (h : i < ps.length), EntOwn w (mkE ps[i] (k + cntEs ((ps.map EC.d).take i)))) := fun i h => by
      have h9 := hv.2 _ (List.getElem_mem (l := hybE ps k ps.length) (n := i) (by omega))
      rw [hyb_at ps k ps.length i h, if_pos h] at h9
      exact h9
    obtain ⟨xs, hxs⟩ : ∃ xs, xs = ps.map EC.d := ⟨_, rfl⟩
    have hxl : xs.length = ps.length := by rw [hxs, List.length_map]
    have HXS := hidden hxs
    rw [← hxs] at h2 HCE HEO ⊢
    rw [hyl]
    clear hv hgb hBg hxs hyl
    go_enter Try.func10, Try.ntmps10
    go_wp2_with fail
    go_loopw [1, 5] (fun vk vi wr => ∃ (i m : Nat), i ≤ ps.length ∧ vi = .int .i64 (i : Int) ∧ vk = .int .i64 (m : Int) ∧ Hid (m = k + cntEs (xs.take i)) ∧ Hid (Below w.heap.size w wr)) (fun _ vi _ => ps.length - (intOf vi).toNat)
    case atStart => exact ⟨0, k, Nat.zero_le _, rfl, rfl, by show _ = _; simp [cntEs], Below.refl _ _⟩
    case round =>
      obtain ⟨i, m, hi, rfl, rfl, hm, HBR⟩ := hrel
      by_cases hlt : i < ps.length
      · have hts := cntEs_take xs i (by omega)
        have htl := cntEs_le xs (i + 1)
        have hxi : xs[i]'(by omega) = ps[i].d := by have := HXS.out; subst this; simp
        rw [hxi] at hts
        have hce := HCE.out i hlt
        have heo := HEO.out i hlt
        rw [← hm.out] at hce heo
        obtain ⟨p, hp⟩ : ∃ p, p = ps[i] := ⟨_, rfl⟩
        rw [← hp] at hts hce heo
        obtain ⟨P, hP⟩ : ∃ P, P = p.d.vP.length := ⟨_, rfl⟩
        obtain ⟨N, hN⟩ : ∃ N, N = p.d.needs.length := ⟨_, rfl⟩
        have HTS : Hid (cntEs (xs.take (i + 1)) = cntEs (xs.take i) + (4 + P + N * 2) ∧ cntEs (xs.take (i + 1)) ≤ cntEs xs) := ⟨by rw [hP, hN]; exact hts, htl⟩
        have hm9 : m + 4 + P + N * 2 ≤ 4294967296 := by have := hm.out; have := HTS.out; omega
        have hm0 : 1 ≤ m := by have := hm.out; omega
        have hki : (i : Int) < (ps.length : Int) := by omega
        have ho0 : w.ownsRow 0 9 1 p.u0 P (strsV (marksS (m + 4) P)) := by
          have h9 := heo.1
          change w.ownsRow 0 9 1 p.u0 (marksS (m + 4) p.d.vP.length).length (strsV (marksS (m + 4) p.d.vP.length)) at h9
          rw [length_marksS, ← hP] at h9; exact h9
        have ho1 : w.ownsRow 0 67 2 p.u1 N (strsV (marksS (m + 4 + P) (N * 2))) := by
          have h9 := heo.2
          change w.ownsRow 0 67 2 p.u1 (needsM (m + 4 + p.d.vP.length) p.d.needs.length).length (needsV (needsM (m + 4 + p.d.vP.length) p.d.needs.length)) at h9
          rw [needsM_len, needsV_M, ← hP, ← hN] at h9; exact h9
        obtain ⟨m1, hm1⟩ : ∃ a, a = m + 1 := ⟨_, rfl⟩
        obtain ⟨m2, hm2⟩ : ∃ a, a = m1 + 1 := ⟨_, rfl⟩
        obtain ⟨m3, hm3⟩ : ∃ a, a = m2 + 1 := ⟨_, rfl⟩
        obtain ⟨m4, hm4⟩ : ∃ a, a = m3 + 1 := ⟨_, rfl⟩
        obtain ⟨m5, hm5⟩ : ∃ a, a = m4 + P := ⟨_, rfl⟩
        obtain ⟨m6, hm6⟩ : ∃ a, a = m5 + N * 2 := ⟨_, rfl⟩
        have f1 : (m : Int) + 1 = (m1 : Int) := by omega
        have f2 : (m1 : Int) + 1 = (m2 : Int) := by omega
        have f3 : (m2 : Int) + 1 = (m3 : Int) := by omega
        have f4 : (m3 : Int) + 1 = (m4 : Int) := by omega
        have f5 : ¬ (m5 : Int) < 0 := by omega
        have f6 : ¬ (m6 : Int) < 0 := by omega
        have f7 : m6 ≤ 4294967296 := by omega
        have f8 : m1 ≤ m6 := by omega
        have f9 : m2 ≤ m6 := by omega
        have f10 : m3 ≤ m6 := by omega
        have f11 : m4 ≤ m6 := by omega
        have HM6 : Hid (m6 = m + 4 + P + N * 2) := by show _ = _; omega
        have HS0 : Hid (∀ W, Below w.heap.size w W → Calls Try.prog 23 #[p.u0, .int .i64 (m4 : Int)] W fun e w' => e = .returned (.int .i64 (m5 : Int)) ∧ Below W.heap.size W w') := fun W h => by
          have h9 := heldStrs_c p.u0 P m4 W (reads_of_owns (by rw [show m4 = m + 4 by omega]; exact owns_of_belowN ho0 h)) (by omega) (by omega) (by omega)
          rwa [show (m4 : Int) + (P : Int) = (m5 : Int) by omega] at h9
        have HS1 : Hid (∀ W, Below w.heap.size w W → Calls Try.prog 24 #[p.u1, .int .i64 (m5 : Int)] W fun e w' => e = .returned (.int .i64 (m6 : Int)) ∧ Below W.heap.size W w') := fun W h => by
          have h9 := heldNeedS_c p.u1 0 N m5 W (by rw [show m5 = m + 4 + P by omega]; exact owns_of_belowN ho1 h) (by omega) (by omega)
          rwa [← hm6] at h9
        obtain ⟨q0, c0, eu0⟩ := owns_sliceP ho0
        obtain ⟨q1, c1, eu1⟩ := owns_sliceP ho1
        have HM1 := hidden (fun w1 => markText_c m w1 (by omega) (by omega))
        obtain ⟨M1, hM1⟩ : ∃ M, M = markStr m := ⟨_, rfl⟩
        simp only [← hM1] at HM1
        have KEEP : Hid (∀ w1, Below wr.heap.size wr w1 → w1.cell? ⟨g, i * 6, none⟩ = some (.string M1) ∧ w1.cell? ⟨g, i * 6 + 1, none⟩ = some (.int .i64 (m1 : Int)) ∧ w1.cell? ⟨g, i * 6 + 2, none⟩ = some (.int .i64 (m2 : Int)) ∧ w1.cell? ⟨g, i * 6 + 3, none⟩ = some (.int .i64 (m3 : Int)) ∧ w1.cell? ⟨g, i * 6 + 4, none⟩ = some p.u0 ∧ w1.cell? ⟨g, i * 6 + 5, none⟩ = some p.u1) := fun w1 h => by
          have hb := HBR.out.trans (h.mono HBR.out.size)
          have e0 := hce 0 (by omega)
          have e1 := hce 1 (by omega)
          have e2 := hce 2 (by omega)
          have e3 := hce 3 (by omega)
          have e4 := hce 4 (by omega)
          have e5 := hce 5 (by omega)
          rw [Nat.add_zero] at e0
          refine ⟨(hb.cell (p := ⟨g, _, none⟩) hglt).trans (e0.trans (by rw [hM1]; rfl)), (hb.cell (p := ⟨g, _, none⟩) hglt).trans (e1.trans (by rw [← f1]; rfl)), (hb.cell (p := ⟨g, _, none⟩) hglt).trans (e2.trans (by rw [← f2, ← f1]; rfl)), (hb.cell (p := ⟨g, _, none⟩) hglt).trans (e3.trans (by rw [← f3, ← f2, ← f1]; rfl)), (hb.cell (p := ⟨g, _, none⟩) hglt).trans e4, (hb.cell (p := ⟨g, _, none⟩) hglt).trans e5⟩
        rw [eu0, eu1] at KEEP
        rw [eu0] at HS0
        rw [eu1] at HS1
        have h0 : Below wr.heap.size wr wr.drew := (Below.refl _ _).drew
        clear hce heo ho0 ho1 eu0 eu1 hM1 hm1 hm2 hm3 hm4 hm5 hm6 hP hN hp hts htl hxi hxl
        go_wp2_with fail
        refine wp_region_held_drew (S := (fun w' => w'.cell? ⟨g, i * 6, none⟩ = some (.string M1))) (by kernel_rfl) ?SR10 (fun hHeld => ?_)
        case SR10 => (first | (with_reducible exact (KEEP.out _ h1).1) | (with_reducible exact (KEEP.out _ h0).1))
        refine wpAnyH_take (i := 0) (oi := _) (v := ?vR10) rfl (by kernel_rfl) (by kernel_rfl) (by kernel_rfl) (fun _ _ _ h => h) (Or.inl ⟨by rfl, ?yR10⟩) hHeld ?_
        case yR10 => (intro w hSw; (try dsimp only at hSw); go_simp <;> with_reducible rfl)
        try simp only [Act.put, List.getElem_toArray, List.getElem_cons_zero, List.getElem_cons_succ, List.setIfInBounds_toArray, List.set_cons_zero, List.set_cons_succ]
        refine wpAnyH_take (i := 1) (oi := _) (v := ?vR11) rfl (by kernel_rfl) (by kernel_rfl) (by kernel_rfl) (fun _ _ _ h => h) (Or.inl ⟨by rfl, ?yR11⟩) hHeld ?_
        case yR11 => (intro w hSw; (try dsimp only at hSw); go_simp <;> with_reducible rfl)
        try simp only [Act.put, List.getElem_toArray, List.getElem_cons_zero, List.getElem_cons_succ, List.setIfInBounds_toArray, List.set_cons_zero, List.set_cons_succ]
        refine wpAnyH_take (i := 2) (oi := _) (v := ?vR12) rfl (by kernel_rfl) (by kernel_rfl) (by kernel_rfl) (fun _ _ _ h => h) (Or.inl ⟨by rfl, ?yR12⟩) hHeld ?_
        case yR12 => (intro w hSw; (try dsimp only at hSw); go_simp <;> with_reducible rfl)
        try simp only [Act.put, List.getElem_toArray, List.getElem_cons_zero, List.getElem_cons_succ, List.setIfInBounds_toArray, List.set_cons_zero, List.set_cons_succ]
        refine wpAnyH_take (i := 3) (oi := _) (v := ?vR13) rfl (by kernel_rfl) (by kernel_rfl) (by kernel_rfl) (fun _ _ _ h => h) (Or.inl ⟨by rfl, ?yR13⟩) hHeld ?_
        case yR13 => (intro w hSw; (try dsimp only at hSw); go_simp <;> with_reducible rfl)
        try simp only [Act.put, List.getElem_toArray, List.getElem_cons_zero, List.getElem_cons_succ, List.setIfInBounds_toArray, List.set_cons_zero, List.set_cons_succ]
        refine wpAnyH_take (i := 4) (oi := _) (v := ?vR14) rfl (by kernel_rfl) (by kernel_rfl) (by kernel_rfl) (fun _ _ _ h => h) (Or.inl ⟨by rfl, ?yR14⟩) hHeld ?_
        case yR14 => (intro w hSw; (try dsimp only at hSw); go_simp <;> with_reducible rfl)
        try simp only [Act.put, List.getElem_toArray, List.getElem_cons_zero, List.getElem_cons_succ, List.setIfInBounds_toArray, List.set_cons_zero, List.set_cons_succ]
        refine wpAnyH_take (i := 5) (oi := _) (v := ?vR15) rfl (by kernel_rfl) (by kernel_rfl) (by kernel_rfl) (fun _ _ _ h => h) (Or.inl ⟨by rfl, ?yR15⟩) hHeld ?_
        case yR15 => (intro w hSw; (try dsimp only at hSw); go_simp <;> with_reducible rfl)
        try simp only [Act.put, List.getElem_toArray, List.getElem_cons_zero, List.getElem_cons_succ, List.setIfInBounds_toArray, List.set_cons_zero, List.set_cons_succ]
        refine wpAnyH_ready (rs := [6]) (by kernel_rfl) (by simp) ?_
        refine AllReadyH.cons rfl (fun K hK => ?_) AllReadyH.nil
        go_simp
        go_wp2_with (go_at_call 20; refine (HM1.out _).mono ?_; rintro e w1 ⟨rfl, b1⟩; have h1 : Below wr.heap.size wr w1 := h0.trans (b1.mono h0.size))
        clear hHeld
        refine hK.out _ _ ?SR17 (fun hHeld => ?_)
        case SR17 => ((try dsimp only); first | (with_reducible exact (KEEP.out _ h1).1) | (with_reducible exact (KEEP.out _ h0).1))
        clear hK K
        refine wpAnyH_take (i := 7) (oi := _) (v := ?vR17) rfl (by kernel_rfl) (by kernel_rfl) (by kernel_rfl) (fun _ _ _ h => h) (Or.inl ⟨by rfl, ?yR17⟩) hHeld ?_
        case yR17 => (intro w hSw; (try dsimp only at hSw); go_simp <;> with_reducible rfl)
        try simp only [Act.put, List.getElem_toArray, List.getElem_cons_zero, List.getElem_cons_succ, List.setIfInBounds_toArray, List.set_cons_zero, List.set_cons_succ]
        refine wpAnyH_done (by kernel_rfl) ?_ _
        obtain ⟨k0, k1, k2, k3, k4, k5⟩ := KEEP.out _ h1
        go_wp2_with fail
        go_at_call 23
        refine (HS0.out _ (HBR.out.trans (h1.mono HBR.out.size))).mono ?_
        rintro e w2 ⟨rfl, b2⟩
        have h2 : Below wr.heap.size wr w2 := h1.trans (b2.mono h1.size)
        obtain ⟨l0, l1, l2, l3, l4, l5⟩ := KEEP.out _ h2
        clear k0 k1 k2 k3 k4 k5
        go_wp2_with fail
        go_at_call 24
        refine (HS1.out _ (HBR.out.trans (h2.mono HBR.out.size))).mono ?_
        rintro e w3 ⟨rfl, b3⟩
        have HB3 := hidden (HBR.out.trans ((h2.trans (b3.mono h2.size)).mono HBR.out.size))
        clear l0 l1 l2 l3 l4 l5 KEEP
        go_wp2_with fail
        go_roundw
        case rel => exact ⟨i + 1, m6, by omega, by go_num, rfl, (by show _ = _; have := hm.out; have := HTS.out; have := HM6.out; omega), HB3⟩
        case measure => simp [intOf]; omega
      · have he : i = ps.length := by omega
        subst he
        have hmm : m = k + cntEs xs := by have := hm.out; rw [List.take_of_length_le (by omega)] at this; exact this
        have HMM := hidden hmm
        clear hmm
        go_wp2_with fail
        go_ret
        exact ⟨by rw [← HMM.out]; rfl, HBR.out⟩
end Go.Proofs.Ytablcicfagmhpaa

/-! Needs and commands, and rows of them, that are the same are told so by the law's own comparison: contracts for what lies in memory and holds at most 2 to the 20. -/
namespace Go.Proofs.Ytablcicfagmhpaa
open Go.RowKit
set_option linter.unusedSimpArgs false
set_option linter.unusedVariables false

theorem boxTwo {w w1 : World} {A R : Obj} (hb : Below ((w.alloc A).alloc R).heap.size ((w.alloc A).alloc R) w1) : w1.heap[w.heap.size]? = some A ∧ w1.heap[w.heap.size + 1]? = some R := by
  have s1 : (w.alloc A).heap.size = w.heap.size + 1 := by simp
  refine ⟨?_, ?_⟩
  · rw [hb.block _ (by simp; omega), vheap_old _ _ (by simp), vheap_new]
  · rw [hb.block _ (by simp), ← s1, vheap_new]

set_option maxHeartbeats 2000000 in
set_option maxRecDepth 100000 in
theorem eqNeed_c (S S' : Nat → Prop) (d : NeedD) (cs cs' : List Value) (w : World) (hd : shNeed.lies S w cs d) (hd' : shNeed.lies S' w cs' d) (hB : ∀ b, S b → b < w.heap.size) (hB' : ∀ b, S' b → b < w.heap.size) (hw : wtNeed d ≤ 1048576) :
    Calls Try.prog 53 #[.agg cs.toArray, .agg cs'.toArray] w fun e w' => e = .returned (.bool true) ∧ Below w.heap.size w w' := by
  obtain ⟨rfl, xs_n, xs_r⟩ := hd
  obtain ⟨rfl, ys_n, ys_r⟩ := hd'
  have hb2 : ∀ A R, Below w.heap.size w ((w.alloc A).alloc R) := fun A R => ((Below.refl _ _).alloc (Nat.le_refl _) _).alloc (by simp) _
  unfold wtNeed at hw
  go_enter Try.func53, Try.ntmps53
  go_wp2_with fail
  go_ret
  exact ⟨rfl, (hb2 _ _)⟩

set_option maxHeartbeats 2000000 in
set_option maxRecDepth 100000 in
theorem eqNeedS_c (S S' : Nat → Prop) (v u : Value) (xs : List NeedD) (w : World) (hv : RowIn shNeed S w v xs) (hv' : RowIn shNeed S' w u xs) (hB : ∀ b, S b → b < w.heap.size) (hB' : ∀ b, S' b → b < w.heap.size) (hw : wtRow wtNeed xs ≤ 1048576) :
    Calls Try.prog 40 #[v, u] w fun e w' => e = .returned (.bool true) ∧ Below w.heap.size w w' := by
  obtain ⟨a, cap, rfl, hl, hc, ha⟩ := hv
  obtain ⟨a', cap', rfl, _, hc', ha'⟩ := hv'
  unfold maxLen at hl
  go_enter Try.func40, Try.ntmps40
  go_wp2_with fail
  go_loopw [5] (fun vi wr => ∃ k : Nat, k ≤ xs.length ∧ vi = .int .i64 (k : Int) ∧ Below w.heap.size w wr) (fun vi _ => xs.length - (intOf vi).toNat)
  case atStart => exact ⟨0, Nat.zero_le _, rfl, Below.refl _ _⟩
  case round =>
    obtain ⟨k, hk, rfl, hbr⟩ := hrel
    by_cases hlt' : k < xs.length
    · rcases ha with rfl | ⟨b, off, rfl, hlt, ha⟩
      · simp at hlt'
      rcases ha' with rfl | ⟨b', off', rfl, hlt3, ha'⟩
      · simp at hlt'
      obtain ⟨cs, hL, hcell⟩ := ha k hlt'
      obtain ⟨cs', hL', hcell'⟩ := ha' k hlt'
      have hwt : wtNeed xs[k] ≤ 1048576 := by have := wt_wtRow wtNeed (List.getElem_mem hlt'); omega
      have HC := eqNeed_c S S' xs[k] cs cs' wr.drew (shNeed.keep (.of hbr.drew hB) hL) (shNeed.keep (.of hbr.drew hB') hL') (fun b h => Nat.lt_of_lt_of_le (hB b h) hbr.size) (fun b h => Nat.lt_of_lt_of_le (hB' b h) hbr.size) hwt
      replace hL := shNeed.keep (.of hbr hB) hL
      replace hL' := shNeed.keep (.of hbr hB') hL'
      replace hcell := hcell.keep (.of hbr hB) hlt
      replace hcell' := hcell'.keep (.of hbr hB') hlt3
      obtain ⟨d, hd⟩ : ∃ d, d = xs[k] := ⟨_, rfl⟩
      rw [← hd] at hL hL' hwt
      clear ha ha' hd
      obtain ⟨rfl, xs_n, xs_r⟩ := hL
      obtain ⟨rfl, ys_n, ys_r⟩ := hL'
      clear xs_n xs_r ys_n ys_r
      have xv0 : wr.cell? ⟨b, off + k * 2, none⟩ = some (.string d.n) := hcell 0 (by simp)
      have xv1 : wr.cell? ⟨b, off + k * 2 + 1, none⟩ = some (.string d.r) := hcell 1 (by simp)
      have yv0 : wr.cell? ⟨b', off' + k * 2, none⟩ = some (.string d.n) := hcell' 0 (by simp)
      have yv1 : wr.cell? ⟨b', off' + k * 2 + 1, none⟩ = some (.string d.r) := hcell' 1 (by simp)
      have HC2 := hidden HC
      have hki : (k : Int) < (xs.length : Int) := by omega
      clear hcell hcell' HC hwt
      go_wp2_with fail
      go_region_with (go_at_call 53; refine HC2.out.mono ?_; rintro e w2 ⟨rfl, hb2⟩)
      all_goals go_wp2_with fail
      all_goals go_roundw
      all_goals first
        | exact ⟨k + 1, by omega, by go_num, hbr.drew.trans (hb2.mono hbr.size)⟩
        | (simp [intOf]; omega)
    · have he : k = xs.length := by omega
      subst he
      clear ha ha'
      go_wp2_with fail
      go_ret
      exact ⟨rfl, hbr⟩

end Go.Proofs.Ytablcicfagmhpaa
