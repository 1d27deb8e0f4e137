/-
  Contracts for the walks, several texts in one: each part says what it proves, and under which conditions.
-/
import Derived.Deep.RegionHeld
import Derived.Deep.CutRange
import Derived.Test.YtablcicfagmhpaaQ5

/-! Two neighbouring parts in order of a list of entries merged, the second of one row alone: a contract for the walk; conditions: the row may be written, each Pre holds no more than 2 to the 20, and the row no more than 2 to the 40. -/
namespace Go.Proofs.Ytablcicfagmhpaa
open Go.RowKit
set_option linter.unusedSimpArgs false
set_option linter.unusedVariables false

theorem ord_up2 {U : List EC} {v : EC} {s : Nat} (ho : InOrd lessC U) (hs : s ≤ U.length) (h : s = 0 ∨ ∃ y, U[s - 1]? = some y ∧ lessC y v = false) : ∀ u ∈ U.take s, lessC u v = false := by
  intro u hu
  obtain ⟨k, hk, rfl⟩ := List.mem_iff_getElem.1 hu
  rw [List.length_take] at hk
  rw [List.getElem_take]
  rcases h with h | ⟨y, h1, h2⟩
  · omega
  · obtain ⟨hl, rfl⟩ := List.getElem?_eq_some_iff.1 h1
    by_cases e : k = s - 1
    · subst e; exact h2
    · exact lessC_N _ _ _ (List.pairwise_iff_getElem.1 ho k (s - 1) (by omega) hl (by omega)) h2
theorem ord_dn2 {U : List EC} {v : EC} {t : Nat} (ho : InOrd lessC U) (h : t = U.length ∨ ∃ y, U[t]? = some y ∧ lessC y v = true) : ∀ u ∈ U.drop t, lessC u v = true := by
  intro u hu
  obtain ⟨k, hk, rfl⟩ := List.mem_iff_getElem.1 hu
  rw [List.length_drop] at hk
  rw [List.getElem_drop]
  rcases h with h | ⟨y, h1, h2⟩
  · omega
  · obtain ⟨hl, rfl⟩ := List.getElem?_eq_some_iff.1 h1
    by_cases e : k = 0
    · subst e; exact h2
    · cases hf : lessC U[t + k] v with
      | true => rfl
      | false =>
        have h9 := lessC_N _ _ _ (List.pairwise_iff_getElem.1 ho t (t + k) hl (by omega) (by omega)) hf
        rw [h2] at h9; cases h9
theorem mg_two {U : List EC} {v : EC} {s : Nat} (h1 : ∀ u ∈ U.take s, lessC u v = false) (h2 : ∀ u ∈ U.drop s, lessC u v = true) : mgG lessC U [v] = U.take s ++ v :: U.drop s := by
  have a := mg_split lessC _ (U.take s) [] (U.drop s) [v] rfl (fun x hx y hy => by
    obtain rfl : y = v := by simpa using hy
    exact h1 x hx) (fun y hy => nomatch hy)
  have b := mg_split lessC _ [] [v] (U.drop s) [] rfl (fun x hx => nomatch hx) (fun y hy x hx => by
    obtain rfl : y = v := by simpa using hy
    exact h2 x hx)
  rw [List.nil_append, mg_nil, List.take_append_drop] at a
  rw [List.append_nil, List.nil_append, nil_mg, mg_nil] at b
  rw [a, b]
  rfl
theorem hole_left (P ys r : List EC) (k p : Nat) (x : EC) (hp : p = P.length) (h : k < ys.length) : ((P ++ (holeC ys (k + 1) x ++ r)).set (p + (k + 1)) ys[k]).set (p + k) x = P ++ (holeC ys k x ++ r) := by
  subst hp
  rw [List.set_append_right _ _ (by omega), List.set_append_right _ _ (by omega), show P.length + k - P.length = k by omega, show P.length + (k + 1) - P.length = k + 1 by omega, hole_swap ys r k x h]
theorem holeP_at (P ys r : List EC) (k p : Nat) (x : EC) (hp : p = P.length) (h : k < ys.length) : (P ++ (holeC ys (k + 1) x ++ r))[p + k]? = some ys[k] := by
  subst hp
  rw [List.getElem?_append_right (by omega), show P.length + k - P.length = k by omega]
  exact holeR_at ys r k x h

set_option maxHeartbeats 16000000 in
set_option maxRecDepth 100000 in
theorem sym2_c (B g cap N p m q : Nat) (P U R : List EC) (v : EC) (w : World) (hp : p = P.length) (hm : m = p + U.length) (hq : q = m + 1) (hN : N = q + R.length) (hr : RowE B w (.slice (some ⟨g, 0, none⟩) N cap) (P ++ (U ++ (v :: R)))) (hB : B ≤ w.heap.size) (hn : N ≤ 1099511627776) (hU : 2 ≤ U.length) (ho : InOrd lessC U) (hbv : bulkS v.d.vP ≤ 1048576) (hbu : ∀ u ∈ U, bulkS u.d.vP ≤ 1048576) :
    Calls Try.prog 48 #[.slice (some ⟨g, 0, none⟩) N cap, .int .i64 (p : Int), .int .i64 (m : Int), .int .i64 (q : Int), .func (.func 17) #[] #[]] w fun e w' => e = .returned (.tuple #[]) ∧ RowE B w' (.slice (some ⟨g, 0, none⟩) N cap) (P ++ (mgG lessC U [v] ++ R)) ∧ Below B w w' := by
  have hgB : B ≤ g := (hr.1.lt g rfl).1
  obtain ⟨T, hT⟩ : ∃ T, T = P ++ (mgG lessC U [v] ++ R) := ⟨_, rfl⟩
  have HT := hidden hT
  rw [← hT]
  obtain ⟨Q, hQ⟩ : ∃ Q, Q = P ++ (U ++ (v :: R)) := ⟨_, rfl⟩
  have hQl : N = Q.length := by rw [hQ]; simp; omega
  have hQm : Q[m]? = some v := by rw [hQ, List.getElem?_append_right (by omega), List.getElem?_append_right (by omega), show m - P.length - U.length = 0 by omega]; rfl
  have HQU : Hid (∀ k (h : k < U.length), Q[p + k]? = some U[k]) := fun k h => by
    rw [hQ, List.getElem?_append_right (by omega), show p + k - P.length = k by omega, List.getElem?_append_left h]
    exact List.getElem?_eq_getElem h
  have HQQ := hidden hQ
  rw [← hQ] at hr
  have HR0 := hidden hr
  have HO := hidden ho
  have HU := hidden hbu
  have HQL := hidden hQl
  have HQM := hidden hQm
  have HPL := hidden hp
  obtain ⟨u0, hu0⟩ : ∃ u, u = U.length := ⟨_, rfl⟩
  have e0 : (m : Int) - (p : Int) = (u0 : Int) := by omega
  have e1 : ((u0 : Int) == 1) = false := by rw [beq_eq_false_iff_ne]; omega
  have e2 : ¬ (u0 : Int) = 1 := by omega
  have e4 : ¬ u0 = 1 := by omega
  have e3 : (q : Int) - (m : Int) = 1 := by omega
  have a1 : m ≤ p + U.length := by omega
  have a2 : p + U.length ≤ m := by omega
  have a3 : q ≤ m + 1 := by omega
  have a4 : m + 1 ≤ q := by omega
  have a5 : N ≤ q + R.length := by omega
  have a6 : q + R.length ≤ N := by omega
  clear hT hQ hr ho hbu hQl hQm hp hm hq hN hu0
  go_enter Try.func48, Try.ntmps48
  go_wp2_with fail
  go_loopw [14, 15] (fun vi vj wr => ∃ i j : Nat, vi = .int .i64 (i : Int) ∧ vj = .int .i64 (j : Int) ∧ p ≤ i ∧ i ≤ j ∧ j ≤ m ∧ Hid (i - p = 0 ∨ ∃ y, U[i - p - 1]? = some y ∧ lessC y v = false) ∧ Hid (j - p = U.length ∨ ∃ y, U[j - p]? = some y ∧ lessC y v = true) ∧ Hid (RowE B wr (.slice (some ⟨g, 0, none⟩) N cap) Q) ∧ Hid (Below B w wr)) (fun vi vj _ => (intOf vj).toNat - (intOf vi).toNat)
  case atStart => exact ⟨p, m, rfl, rfl, Nat.le_refl _, by omega, Nat.le_refl _, .inl (by omega), .inl (by omega), HR0, Below.refl _ _⟩
  case round =>
    clear HR0
    obtain ⟨i, j, rfl, rfl, hi, hij, hj, HI, HJ, HROW, HBR⟩ := hrel
    by_cases hlt : i < j
    case pos =>
      have hq1 : (i : Int) < (j : Int) := by omega
      obtain ⟨h, hh⟩ : ∃ h, h = (i + j) / 2 := ⟨_, rfl⟩
      have hmid : ((i : Int) + (j : Int)) / 2 = (h : Int) := by omega
      have hL : N = Q.length := HQL.out
      obtain ⟨yc, hy0⟩ : ∃ x, x = U[h - p]'(by omega) := ⟨_, rfl⟩
      have hyJ : Q[h]? = some yc := by rw [hy0, ← HQU.out (h - p) (by omega), show p + (h - p) = h by omega]
      obtain ⟨x, hx0⟩ : ∃ y, y = v := ⟨_, rfl⟩
      have hxI : Q[m]? = some x := by rw [hx0]; exact HQM.out
      have hby : bulkS yc.d.vP ≤ 1048576 := HU.out yc (by rw [hy0]; exact List.getElem_mem _)
      have hbx : bulkS x.d.vP ≤ 1048576 := by rw [hx0]; exact hbv
      have hUy : Hid (U[h - p]? = some yc) := by rw [hy0]; exact List.getElem?_eq_getElem _
      have HXV := hidden hx0
      have g0 : (0 : Int) ≤ (h : Int) := by omega
      have g1 : (h : Int) < (N : Int) := by omega
      have g2 : (0 : Int) ≤ (m : Int) := by omega
      have g3 : (m : Int) < (N : Int) := by omega
      have gw : IntKind.i64.wrap (h : Int) = (h : Int) := IntWalk.i64_in _ ⟨by omega, by omega⟩
      have hh1 : i ≤ h := by omega
      have hh2 : h < j := by omega
      clear hx0 hy0 hh
      have hxo : EntOwn wr x := HROW.out.2 _ (List.mem_of_getElem? hxI)
      have hyo : EntOwn wr yc := HROW.out.2 _ (List.mem_of_getElem? hyJ)
      obtain ⟨q0, c0, q1, c1, f0, f1⟩ := ent_slices hxo
      obtain ⟨s0, t0, s1, t1, y0, y1⟩ := ent_slices hyo
      have hxc : ∀ j, j < 6 → wr.cell? ⟨g, m * 6 + j, none⟩ = (x.cells)[j]? := fun j hj => HROW.out.cellQ hL hxI j hj
      have hyc : ∀ j, j < 6 → wr.cell? ⟨g, h * 6 + j, none⟩ = (yc.cells)[j]? := fun j hj => HROW.out.cellQ hL hyJ j hj
      obtain ⟨d, hd⟩ : ∃ d, d = x.d := ⟨_, rfl⟩
      obtain ⟨y, hy⟩ : ∃ y, y = yc.d := ⟨_, rfl⟩
      have hle : lessE y d = lessC yc x := by unfold lessC; rw [← hd, ← hy]
      rw [← hd] at f0 f1 hbx
      rw [← hy] at y0 y1 hby
      have hxcl : x.cells = [.string d.name, .int .i64 d.vA, .int .i64 d.vB, .int .i64 d.vC, .slice q0 d.vP.length c0, .slice q1 d.needs.length c1] := by unfold EC.cells; rw [f0, f1, ← hd]
      have hycl : yc.cells = [.string y.name, .int .i64 y.vA, .int .i64 y.vB, .int .i64 y.vC, .slice s0 y.vP.length t0, .slice s1 y.needs.length t1] := by unfold EC.cells; rw [y0, y1, ← hy]
      rw [hxcl] at hxc
      rw [hycl] at hyc
      have hrX : Reads wr (.slice q0 d.vP.length c0) (strsV d.vP) := by have h9 := hxo.1; rw [f0, ← hd] at h9; exact reads_of_owns h9
      have hrY : Reads wr (.slice s0 y.vP.length t0) (strsV y.vP) := by have h9 := hyo.1; rw [y0, ← hy] at h9; exact reads_of_owns h9
      have HLS' : ∀ W, Below wr.heap.size wr W → Calls Try.prog 17 #[.agg #[.string d.name, .int .i64 d.vA, .int .i64 d.vB, .int .i64 d.vC, .slice q0 d.vP.length c0, .slice q1 d.needs.length c1], .agg #[.string y.name, .int .i64 y.vA, .int .i64 y.vB, .int .i64 y.vC, .slice s0 y.vP.length t0, .slice s1 y.needs.length t1]] W fun e w' => ∃ m : Int, e = .returned (.int .i64 m) ∧ decide (m < 0) = lessE y d ∧ Below W.heap.size W w' := fun W hW => cmpNew_c d y _ _ _ _ W (hrX.below hW) (hrY.below hW) hbx hby
      rw [hle] at HLS'
      have HLS := hidden HLS'
      have hgr : g < wr.heap.size := (HROW.out.1.lt g rfl).2
      have KEEP' : ∀ W, Below wr.heap.size wr W → W.cell? ⟨g, m * 6, none⟩ = some (.string d.name) ∧ W.cell? ⟨g, m * 6 + 1, none⟩ = some (.int .i64 d.vA) ∧ W.cell? ⟨g, m * 6 + 2, none⟩ = some (.int .i64 d.vB) ∧ W.cell? ⟨g, m * 6 + 3, none⟩ = some (.int .i64 d.vC) ∧ W.cell? ⟨g, m * 6 + 4, none⟩ = some (.slice q0 d.vP.length c0) ∧ W.cell? ⟨g, m * 6 + 5, none⟩ = some (.slice q1 d.needs.length c1) ∧ W.cell? ⟨g, h * 6, none⟩ = some (.string y.name) ∧ W.cell? ⟨g, h * 6 + 1, none⟩ = some (.int .i64 y.vA) ∧ W.cell? ⟨g, h * 6 + 2, none⟩ = some (.int .i64 y.vB) ∧ W.cell? ⟨g, h * 6 + 3, none⟩ = some (.int .i64 y.vC) ∧ W.cell? ⟨g, h * 6 + 4, none⟩ = some (.slice s0 y.vP.length t0) ∧ W.cell? ⟨g, h * 6 + 5, none⟩ = some (.slice s1 y.needs.length t1) := fun W hW => by
        have hY : ∀ j, W.cell? ⟨g, j, none⟩ = wr.cell? ⟨g, j, none⟩ := fun j => hW.cell (p := ⟨g, j, none⟩) hgr
        simp only [hY]
        exact ⟨hxc 0 (by omega), hxc 1 (by omega), hxc 2 (by omega), hxc 3 (by omega), hxc 4 (by omega), hxc 5 (by omega), hyc 0 (by omega), hyc 1 (by omega), hyc 2 (by omega), hyc 3 (by omega), hyc 4 (by omega), hyc 5 (by omega)⟩
      have KEEP := hidden KEEP'
      have hd0 : Below wr.heap.size wr wr.drew := (Below.refl _ _).drew
      have HL := hidden hL
      obtain ⟨bl, hbl⟩ : ∃ b, b = lessC yc x := ⟨_, rfl⟩
      rw [← hbl] at HLS
      have HBLL := hidden hbl
      clear hL KEEP' HLS' hrY hrX hyc hxc hyo hxo y0 y1 f0 f1 hycl hxcl hy hd hbx hby hle hbl hgr
      go_wp2_with fail
      refine wp_region_held_drew (S := (fun W => W.cell? ⟨g, m * 6, none⟩ = some (.string d.name) ∧ W.cell? ⟨g, m * 6 + 1, none⟩ = some (.int .i64 d.vA) ∧ W.cell? ⟨g, m * 6 + 2, none⟩ = some (.int .i64 d.vB) ∧ W.cell? ⟨g, m * 6 + 3, none⟩ = some (.int .i64 d.vC) ∧ W.cell? ⟨g, m * 6 + 4, none⟩ = some (.slice q0 d.vP.length c0) ∧ W.cell? ⟨g, m * 6 + 5, none⟩ = some (.slice q1 d.needs.length c1) ∧ W.cell? ⟨g, h * 6, none⟩ = some (.string y.name) ∧ W.cell? ⟨g, h * 6 + 1, none⟩ = some (.int .i64 y.vA) ∧ W.cell? ⟨g, h * 6 + 2, none⟩ = some (.int .i64 y.vB) ∧ W.cell? ⟨g, h * 6 + 3, none⟩ = some (.int .i64 y.vC) ∧ W.cell? ⟨g, h * 6 + 4, none⟩ = some (.slice s0 y.vP.length t0) ∧ W.cell? ⟨g, h * 6 + 5, none⟩ = some (.slice s1 y.needs.length t1))) (by kernel_rfl) ?SR10 (fun hHeld => ?_)
      case SR10 => (first | (with_reducible exact KEEP.out _ hd1) | (with_reducible exact KEEP.out _ hd0))
      refine wpAnyH_take (i := 0) (oi := _) (v := ?vR10) rfl (by kernel_rfl) (by kernel_rfl) (by kernel_rfl) (fun _ _ _ h => h) (Or.inl ⟨by rfl, ?yR10⟩) hHeld ?_
      case yR10 => (intro w hSw; (try dsimp only at hSw); go_simp <;> with_reducible rfl)
      try simp only [Act.put, List.getElem_toArray, List.getElem_cons_zero, List.getElem_cons_succ, List.setIfInBounds_toArray, List.set_cons_zero, List.set_cons_succ]
      refine wpAnyH_take (i := 1) (oi := _) (v := ?vR11) rfl (by kernel_rfl) (by kernel_rfl) (by kernel_rfl) (fun _ _ _ h => h) (Or.inl ⟨by rfl, ?yR11⟩) hHeld ?_
      case yR11 => (intro w hSw; (try dsimp only at hSw); go_simp <;> with_reducible rfl)
      try simp only [Act.put, List.getElem_toArray, List.getElem_cons_zero, List.getElem_cons_succ, List.setIfInBounds_toArray, List.set_cons_zero, List.set_cons_succ]
      refine wpAnyH_take (i := 2) (oi := _) (v := ?vR12) rfl (by kernel_rfl) (by kernel_rfl) (by kernel_rfl) (fun _ _ _ h => h) (Or.inl ⟨by rfl, ?yR12⟩) hHeld ?_
      case yR12 => (intro w hSw; (try dsimp only at hSw); go_simp <;> with_reducible rfl)
      try simp only [Act.put, List.getElem_toArray, List.getElem_cons_zero, List.getElem_cons_succ, List.setIfInBounds_toArray, List.set_cons_zero, List.set_cons_succ]
      refine wpAnyH_take (i := 3) (oi := _) (v := ?vR13) rfl (by kernel_rfl) (by kernel_rfl) (by kernel_rfl) (fun _ _ _ h => h) (Or.inl ⟨by rfl, ?yR13⟩) hHeld ?_
      case yR13 => (intro w hSw; (try dsimp only at hSw); go_simp <;> with_reducible rfl)
      try simp only [Act.put, List.getElem_toArray, List.getElem_cons_zero, List.getElem_cons_succ, List.setIfInBounds_toArray, List.set_cons_zero, List.set_cons_succ]
      refine wpAnyH_take (i := 4) (oi := _) (v := ?vR14) rfl (by kernel_rfl) (by kernel_rfl) (by kernel_rfl) (fun _ _ _ h => h) (Or.inl ⟨by rfl, ?yR14⟩) hHeld ?_
      case yR14 => (intro w hSw; (try dsimp only at hSw); go_simp <;> with_reducible rfl)
      try simp only [Act.put, List.getElem_toArray, List.getElem_cons_zero, List.getElem_cons_succ, List.setIfInBounds_toArray, List.set_cons_zero, List.set_cons_succ]
      refine wpAnyH_take (i := 5) (oi := _) (v := ?vR15) rfl (by kernel_rfl) (by kernel_rfl) (by kernel_rfl) (fun _ _ _ h => h) (Or.inl ⟨by rfl, ?yR15⟩) hHeld ?_
      case yR15 => (intro w hSw; (try dsimp only at hSw); go_simp <;> with_reducible rfl)
      try simp only [Act.put, List.getElem_toArray, List.getElem_cons_zero, List.getElem_cons_succ, List.setIfInBounds_toArray, List.set_cons_zero, List.set_cons_succ]
      refine wpAnyH_take (i := 6) (oi := _) (v := ?vR16) rfl (by kernel_rfl) (by kernel_rfl) (by kernel_rfl) (fun _ _ _ h => h) (Or.inl ⟨by rfl, ?yR16⟩) hHeld ?_
      case yR16 => (intro w hSw; (try dsimp only at hSw); go_simp <;> with_reducible rfl)
      try simp only [Act.put, List.getElem_toArray, List.getElem_cons_zero, List.getElem_cons_succ, List.setIfInBounds_toArray, List.set_cons_zero, List.set_cons_succ]
      refine wpAnyH_take (i := 7) (oi := _) (v := ?vR17) rfl (by kernel_rfl) (by kernel_rfl) (by kernel_rfl) (fun _ _ _ h => h) (Or.inl ⟨by rfl, ?yR17⟩) hHeld ?_
      case yR17 => (intro w hSw; (try dsimp only at hSw); go_simp <;> with_reducible rfl)
      try simp only [Act.put, List.getElem_toArray, List.getElem_cons_zero, List.getElem_cons_succ, List.setIfInBounds_toArray, List.set_cons_zero, List.set_cons_succ]
      refine wpAnyH_take (i := 8) (oi := _) (v := ?vR18) rfl (by kernel_rfl) (by kernel_rfl) (by kernel_rfl) (fun _ _ _ h => h) (Or.inl ⟨by rfl, ?yR18⟩) hHeld ?_
      case yR18 => (intro w hSw; (try dsimp only at hSw); go_simp <;> with_reducible rfl)
      try simp only [Act.put, List.getElem_toArray, List.getElem_cons_zero, List.getElem_cons_succ, List.setIfInBounds_toArray, List.set_cons_zero, List.set_cons_succ]
      refine wpAnyH_ready (rs := [9]) (by kernel_rfl) (by simp) ?_
      refine AllReadyH.cons rfl (fun K hK => ?_) AllReadyH.nil
      go_simp
      go_wp2_with (go_at_call 17; refine (HLS.out _ hd0).mono ?_; rintro e w6 ⟨m6, rfl, hm, b6⟩; have hd1 : Below wr.heap.size wr w6 := hd0.trans (b6.mono hd0.size); replace hm := hidden hm)
      clear hHeld
      refine hK.out _ _ ?SR110 (fun hHeld => ?_)
      case SR110 => ((try dsimp only); first | (with_reducible exact KEEP.out _ hd1) | (with_reducible exact KEEP.out _ hd0))
      clear hK K
      refine wpAnyH_take (i := 10) (oi := _) (v := ?vR110) rfl (by kernel_rfl) (by kernel_rfl) (by kernel_rfl) (fun _ _ _ h => h) (Or.inl ⟨by rfl, ?yR110⟩) hHeld ?_
      case yR110 => (intro w hSw; (try dsimp only at hSw); go_simp <;> with_reducible rfl)
      try simp only [Act.put, List.getElem_toArray, List.getElem_cons_zero, List.getElem_cons_succ, List.setIfInBounds_toArray, List.set_cons_zero, List.set_cons_succ]
      refine wpAnyH_take (i := 11) (oi := _) (v := ?vR111) rfl (by kernel_rfl) (by kernel_rfl) (by kernel_rfl) (fun _ _ _ h => h) (Or.inl ⟨by rfl, ?yR111⟩) hHeld ?_
      case yR111 => (intro w hSw; (try dsimp only at hSw); go_simp <;> with_reducible rfl)
      try simp only [Act.put, List.getElem_toArray, List.getElem_cons_zero, List.getElem_cons_succ, List.setIfInBounds_toArray, List.set_cons_zero, List.set_cons_succ]
      refine wpAnyH_done (by kernel_rfl) ?_ _
      have HR6 := hidden (HROW.out.below hd1)
      have HB6 := hidden (HBR.out.trans (hd1.mono (Nat.le_trans hB HBR.out.size)))
      have hL := HL.out
      clear HLS KEEP hd1 hd0 b6 HROW HBR HL
      cases bl with
      | true =>
        have hmz : m6 < 0 := by simpa using hm.out
        have hdm : decide (m6 < 0) = true := decide_eq_true hmz
        simp only [hdm, Bool.not_true]
        clear hdm
        have HJ2 : Hid (h - p = U.length ∨ ∃ y, U[h - p]? = some y ∧ lessC y v = true) := .inr ⟨yc, hUy.out, by rw [← HXV.out]; exact HBLL.out.symm⟩
        clear hUy HXV HBLL hm HJ
        go_wp2_with fail
        go_roundw
        case rel => exact ⟨i, h, rfl, rfl, hi, by omega, by omega, HI, HJ2, HR6, HB6⟩
        case measure => simp [intOf]; omega
      | false =>
        have hmz : ¬ m6 < 0 := by simpa using hm.out
        have hdm : decide (m6 < 0) = false := decide_eq_false hmz
        simp only [hdm, Bool.not_false]
        clear hdm
        have HI2 : Hid (h + 1 - p = 0 ∨ ∃ y, U[h + 1 - p - 1]? = some y ∧ lessC y v = false) := .inr ⟨yc, by rw [show h + 1 - p - 1 = h - p by omega]; exact hUy.out, by rw [← HXV.out]; exact HBLL.out.symm⟩
        clear hUy HXV HBLL hm HI
        go_wp2_with fail
        go_roundw
        case rel => exact ⟨h + 1, j, by go_num, rfl, by omega, by omega, hj, HI2, HJ, HR6, HB6⟩
        case measure => simp [intOf]; omega
    case neg =>
      have hq1 : ¬ (i : Int) < (j : Int) := by omega
      obtain rfl : i = j := by omega
      obtain ⟨s, hs⟩ : ∃ s, s = i - p := ⟨_, rfl⟩
      rw [← hs] at HI HJ
      have hsl : s ≤ U.length := by omega
      have HMG : Hid (P ++ (holeC U s v ++ R) = T) := by
        show _ = _
        rw [HT.out, mg_two (ord_up2 HO.out hsl HI.out) (ord_dn2 HO.out HJ.out)]
        rfl
      have HR1 : Hid (RowE B wr (.slice (some ⟨g, 0, none⟩) N cap) (P ++ (holeC U U.length v ++ R))) := by
        have h9 := HROW.out
        rw [HQQ.out] at h9
        have h8 : holeC U U.length v ++ R = U ++ (v :: R) := by unfold holeC; rw [List.take_length, List.drop_length]; simp
        rw [h8]
        exact h9
      obtain ⟨wo, hwo⟩ : ∃ wo, wo = wr := ⟨_, rfl⟩
      subst hwo
      have hs1 : i ≤ p + s := by omega
      have hs2 : p + s ≤ i := by omega
      obtain ⟨n0, hn0⟩ : ∃ n, n = U.length := ⟨_, rfl⟩
      have hn1 : m ≤ p + n0 := by omega
      have hn2 : p + n0 ≤ m := by omega
      rw [← hn0] at HR1
      have HN0 := hidden hn0
      clear HI HJ HROW HT HQQ HQU HQL HQM HO HU hs hn0
      go_wp2_with fail
      go_loopw [17] (fun vk wr => ∃ k : Nat, vk = .int .i64 ((p + k : Nat) : Int) ∧ s ≤ k ∧ k ≤ n0 ∧ Hid (RowE B wr (.slice (some ⟨g, 0, none⟩) N cap) (P ++ (holeC U k v ++ R))) ∧ Hid (Below B w wr)) (fun vk _ => (intOf vk).toNat)
      case atStart => exact ⟨n0, by congr 1; omega, by have := HN0.out; omega, Nat.le_refl _, HR1, HBR⟩
      case round =>
        clear HR1 HBR
        obtain ⟨k, rfl, hk1, hk2, HROW, HBR⟩ := hrel
        by_cases hks : s < k
        case neg =>
          obtain rfl : k = s := by omega
          have HE : Hid (RowE B wr (.slice (some ⟨g, 0, none⟩) N cap) T ∧ Below B w wr) := ⟨by rw [← HMG.out]; exact HROW.out, HBR.out⟩
          have hpi : p + k = i := by omega
          rw [hpi]
          have hq3 : ¬ (i : Int) < (i : Int) := by omega
          clear HROW HBR HMG hpi
          go_wp2_with fail
          refine bodyPost_ret (results_none rfl _ _ _) rfl ?_
          exact ⟨rfl, HE.out⟩
        case pos =>
          obtain ⟨k, rfl⟩ : ∃ r, k = r + 1 := ⟨k - 1, by omega⟩
          obtain ⟨I, hI⟩ : ∃ I, I = p + (k + 1) := ⟨_, rfl⟩
          obtain ⟨J, hJ⟩ : ∃ J, J = p + k := ⟨_, rfl⟩
          have hku : k < U.length := by have := HN0.out; omega
          rw [← hI]
          have hq2 : (i : Int) < (I : Int) := by omega
          obtain ⟨Q, hQ⟩ : ∃ Q, Q = P ++ (holeC U (k + 1) v ++ R) := ⟨_, rfl⟩
          have hL : N = Q.length := by rw [hQ, List.length_append, List.length_append, hole_len _ _ _ (by omega), ← HPL.out]; omega
          obtain ⟨x, hx⟩ : ∃ x, x = v := ⟨_, rfl⟩
          obtain ⟨yc, hyq⟩ : ∃ x, x = U[k]'hku := ⟨_, rfl⟩
          have hxI : Q[I]? = some x := by rw [hQ, hI, hx]; exact holeP_self P U R (k + 1) p v HPL.out (by omega)
          have hyJ : Q[J]? = some yc := by rw [hQ, hJ, hyq]; exact holeP_at P U R k p v HPL.out hku
          have HSW : Hid ((Q.set I yc).set J x = P ++ (holeC U k v ++ R)) := by
            show _ = _
            rw [hQ, hI, hJ, hx, hyq]
            exact hole_left P U R k p v HPL.out hku
          rw [← hQ] at HROW
          have hAJ : (I : Int) - 1 = (J : Int) := by omega
          have hI0 : (0 : Int) ≤ (I : Int) := by omega
          have hJ0 : (0 : Int) ≤ (J : Int) := by omega
          have hI1 : (I : Int) < (N : Int) := by omega
          have hJ1 : (J : Int) < (N : Int) := by omega
          have hIw : IntKind.i64.wrap (I : Int) = (I : Int) := IntWalk.i64_in _ ⟨by omega, by omega⟩
          have hJw : IntKind.i64.wrap (J : Int) = (J : Int) := IntWalk.i64_in _ ⟨by omega, by omega⟩
          have hI2 : I < N := by omega
          have hJ2 : J < N := by omega
          have hIJ0 : J < I := by omega
          have HIN := hidden hI
          have HJN := hidden hJ
          clear hQ hx hyq hI hJ
          have hxo : EntOwn wr x := HROW.out.2 _ (List.mem_of_getElem? hxI)
          have hyo : EntOwn wr yc := HROW.out.2 _ (List.mem_of_getElem? hyJ)
          obtain ⟨q0, c0, q1, c1, f0, f1⟩ := ent_slices hxo
          obtain ⟨s0, t0, s1, t1, y0, y1⟩ := ent_slices hyo
          have hxc : ∀ j, j < 6 → wr.cell? ⟨g, I * 6 + j, none⟩ = (x.cells)[j]? := fun j hj => HROW.out.cellQ hL hxI j hj
          have hyc : ∀ j, j < 6 → wr.cell? ⟨g, J * 6 + j, none⟩ = (yc.cells)[j]? := fun j hj => HROW.out.cellQ hL hyJ j hj
          obtain ⟨d, hd⟩ : ∃ d, d = x.d := ⟨_, rfl⟩
          obtain ⟨y, hy⟩ : ∃ y, y = yc.d := ⟨_, rfl⟩
          rw [← hd] at f0 f1
          rw [← hy] at y0 y1
          have hxcl : x.cells = [.string d.name, .int .i64 d.vA, .int .i64 d.vB, .int .i64 d.vC, .slice q0 d.vP.length c0, .slice q1 d.needs.length c1] := by unfold EC.cells; rw [f0, f1, ← hd]
          have hycl : yc.cells = [.string y.name, .int .i64 y.vA, .int .i64 y.vB, .int .i64 y.vC, .slice s0 y.vP.length t0, .slice s1 y.needs.length t1] := by unfold EC.cells; rw [y0, y1, ← hy]
          have HXC := hidden hxcl
          have HYC := hidden hycl
          rw [hxcl] at hxc
          rw [hycl] at hyc
          have hIJ : I ≠ J := by omega
          have hdr : Below wr.heap.size wr wr.drew := (Below.refl _ _).drew
          obtain ⟨w9, hw9⟩ : ∃ w9, w9 = ((((((wr.setCell ⟨g, I * 6, none⟩ (.string y.name)).setCell ⟨g, I * 6 + 1, none⟩ (.int .i64 y.vA)).setCell ⟨g, I * 6 + 2, none⟩ (.int .i64 y.vB)).setCell ⟨g, I * 6 + 3, none⟩ (.int .i64 y.vC)).setCell ⟨g, I * 6 + 4, none⟩ (.slice s0 y.vP.length t0)).setCell ⟨g, I * 6 + 5, none⟩ (.slice s1 y.needs.length t1)).drew := ⟨_, rfl⟩
          obtain ⟨w10, hw10⟩ : ∃ w10, w10 = ((((((w9.setCell ⟨g, J * 6, none⟩ (.string d.name)).setCell ⟨g, J * 6 + 1, none⟩ (.int .i64 d.vA)).setCell ⟨g, J * 6 + 2, none⟩ (.int .i64 d.vB)).setCell ⟨g, J * 6 + 3, none⟩ (.int .i64 d.vC)).setCell ⟨g, J * 6 + 4, none⟩ (.slice q0 d.vP.length c0)).setCell ⟨g, J * 6 + 5, none⟩ (.slice q1 d.needs.length c1)) := ⟨_, rfl⟩
          have hIl : I < Q.length := (List.getElem?_eq_some_iff.1 hxI).1
          have hJl : J < Q.length := (List.getElem?_eq_some_iff.1 hyJ).1
          have e9 : w9 = (setW wr g (I * 6) yc.cells).drew := by rw [HYC.out]; exact hw9
          have R9 : RowE B w9 (.slice (some ⟨g, 0, none⟩) N cap) (Q.set (I) yc) := by
            rw [e9]
            exact (HROW.out.setN hL hIl hyo).below ((Below.refl _ _).drew)
          have X9 : EntOwn w9 x := by
            have h8 := HROW.out.1
            rw [← hL] at h8
            rw [e9]
            exact (EntOwn.puts _ hxo h8).below ((Below.refl _ _).drew)
          have e10 : w10 = setW w9 g (J * 6) x.cells := by rw [HXC.out]; exact hw10
          have R10 : RowE B w10 (.slice (some ⟨g, 0, none⟩) N cap) ((Q.set (I) yc).set (J) x) := by
            rw [e10]
            exact R9.setN (by rw [List.length_set]; exact hL) (by rw [List.length_set]; exact hJl) X9
          have HFIN := hidden R10
          have HBL : Hid (Below B w w10) := by
            show Below B w w10
            rw [e10, e9]
            exact setW_below hgB _ _ _ _ (setW_below hgB _ _ _ _ HBR.out).drew
          have hz9 : ∀ j, w9.cell? ⟨g, J * 6 + j, none⟩ = w9.cell? ⟨g, J * 6 + j, none⟩ := fun _ => rfl
          have h9at : (Q.set (I) yc)[J]? = some yc := by rw [List.getElem?_set_ne hIJ]; exact hyJ
          have hc9 : ∀ j, j < 6 → w9.cell? ⟨g, J * 6 + j, none⟩ = ([.string y.name, .int .i64 y.vA, .int .i64 y.vB, .int .i64 y.vC, .slice s0 y.vP.length t0, .slice s1 y.needs.length t1] : List Value)[j]? := fun j hj => by
            rw [← HYC.out]
            exact R9.cellQ (by rw [List.length_set]; exact hL) h9at j hj
          have a0_ : wr.drew.cell? ⟨g, I * 6, none⟩ = some (.string d.name) := hxc 0 (by omega)
          have a1_ : wr.drew.cell? ⟨g, I * 6 + 1, none⟩ = some (.int .i64 d.vA) := hxc 1 (by omega)
          have a2_ : wr.drew.cell? ⟨g, I * 6 + 2, none⟩ = some (.int .i64 d.vB) := hxc 2 (by omega)
          have a3_ : wr.drew.cell? ⟨g, I * 6 + 3, none⟩ = some (.int .i64 d.vC) := hxc 3 (by omega)
          have a4_ : wr.drew.cell? ⟨g, I * 6 + 4, none⟩ = some (.slice q0 d.vP.length c0) := hxc 4 (by omega)
          have a5_ : wr.drew.cell? ⟨g, I * 6 + 5, none⟩ = some (.slice q1 d.needs.length c1) := hxc 5 (by omega)
          have b0_ : wr.drew.cell? ⟨g, J * 6, none⟩ = some (.string y.name) := hyc 0 (by omega)
          have b1_ : wr.drew.cell? ⟨g, J * 6 + 1, none⟩ = some (.int .i64 y.vA) := hyc 1 (by omega)
          have b2_ : wr.drew.cell? ⟨g, J * 6 + 2, none⟩ = some (.int .i64 y.vB) := hyc 2 (by omega)
          have b3_ : wr.drew.cell? ⟨g, J * 6 + 3, none⟩ = some (.int .i64 y.vC) := hyc 3 (by omega)
          have b4_ : wr.drew.cell? ⟨g, J * 6 + 4, none⟩ = some (.slice s0 y.vP.length t0) := hyc 4 (by omega)
          have b5_ : wr.drew.cell? ⟨g, J * 6 + 5, none⟩ = some (.slice s1 y.needs.length t1) := hyc 5 (by omega)
          have a0_w : wr.cell? ⟨g, I * 6, none⟩ = some (.string d.name) := hxc 0 (by omega)
          have a1_w : wr.cell? ⟨g, I * 6 + 1, none⟩ = some (.int .i64 d.vA) := hxc 1 (by omega)
          have a2_w : wr.cell? ⟨g, I * 6 + 2, none⟩ = some (.int .i64 d.vB) := hxc 2 (by omega)
          have a3_w : wr.cell? ⟨g, I * 6 + 3, none⟩ = some (.int .i64 d.vC) := hxc 3 (by omega)
          have a4_w : wr.cell? ⟨g, I * 6 + 4, none⟩ = some (.slice q0 d.vP.length c0) := hxc 4 (by omega)
          have a5_w : wr.cell? ⟨g, I * 6 + 5, none⟩ = some (.slice q1 d.needs.length c1) := hxc 5 (by omega)
          have z0_ : w9.cell? ⟨g, J * 6, none⟩ = some (.string y.name) := hc9 0 (by omega)
          have z1_ : w9.cell? ⟨g, J * 6 + 1, none⟩ = some (.int .i64 y.vA) := hc9 1 (by omega)
          have z2_ : w9.cell? ⟨g, J * 6 + 2, none⟩ = some (.int .i64 y.vB) := hc9 2 (by omega)
          have z3_ : w9.cell? ⟨g, J * 6 + 3, none⟩ = some (.int .i64 y.vC) := hc9 3 (by omega)
          have z4_ : w9.cell? ⟨g, J * 6 + 4, none⟩ = some (.slice s0 y.vP.length t0) := hc9 4 (by omega)
          have z5_ : w9.cell? ⟨g, J * 6 + 5, none⟩ = some (.slice s1 y.needs.length t1) := hc9 5 (by omega)
          have hf8 : ∀ j, wr.drew.frozen? ⟨g, j, none⟩ = false := fun j => HROW.out.frz hL j
          have hf6 : ∀ j, wr.frozen? ⟨g, j, none⟩ = false := fun j => HROW.out.frz hL j
          have hf9 : ∀ j, w9.frozen? ⟨g, j, none⟩ = false := fun j => R9.frz (by rw [List.length_set]; exact hL) j
          have HW9 := hidden hw9
          have HW10 := hidden hw10
          have HLL := hidden hL
          have HIJ := hidden hIJ
          clear hz9 hw9 hw10 e9 e10 R9 R10 X9 h9at hc9 hL hxc hyc hxcl hycl hxo hyo f0 f1 y0 y1 hd hy hdr hIJ HXC HYC HROW HBR hxI hyJ hIl hJl
          go_wp2_with fail
          refine wp_region_held_drew (S := (fun _ => True)) (by kernel_rfl) True.intro (fun hHeld => ?_)
          refine wpAnyH_take (i := 0) (oi := _) (v := ?vZsa0) rfl (by kernel_rfl) (by kernel_rfl) (by kernel_rfl) (fun _ _ _ h => h) (Or.inl ⟨by rfl, ?yZsa0⟩) hHeld ?_
          case yZsa0 => (intro w hSw; (try dsimp only at hSw); go_simp <;> with_reducible rfl)
          try simp only [Act.put, List.getElem_toArray, List.getElem_cons_zero, List.getElem_cons_succ, List.setIfInBounds_toArray, List.set_cons_zero, List.set_cons_succ]
          refine wpAnyH_take (i := 1) (oi := _) (v := ?vZsa1) rfl (by kernel_rfl) (by kernel_rfl) (by kernel_rfl) (fun _ _ _ h => h) (Or.inl ⟨by rfl, ?yZsa1⟩) hHeld ?_
          case yZsa1 => (intro w hSw; (try dsimp only at hSw); go_simp <;> with_reducible rfl)
          try simp only [Act.put, List.getElem_toArray, List.getElem_cons_zero, List.getElem_cons_succ, List.setIfInBounds_toArray, List.set_cons_zero, List.set_cons_succ]
          refine wpAnyH_take (i := 2) (oi := _) (v := ?vZsa2) rfl (by kernel_rfl) (by kernel_rfl) (by kernel_rfl) (fun _ _ _ h => h) (Or.inl ⟨by rfl, ?yZsa2⟩) hHeld ?_
          case yZsa2 => (intro w hSw; (try dsimp only at hSw); go_simp <;> with_reducible rfl)
          try simp only [Act.put, List.getElem_toArray, List.getElem_cons_zero, List.getElem_cons_succ, List.setIfInBounds_toArray, List.set_cons_zero, List.set_cons_succ]
          refine wpAnyH_take (i := 3) (oi := _) (v := ?vZsa3) rfl (by kernel_rfl) (by kernel_rfl) (by kernel_rfl) (fun _ _ _ h => h) (Or.inl ⟨by rfl, ?yZsa3⟩) hHeld ?_
          case yZsa3 => (intro w hSw; (try dsimp only at hSw); go_simp <;> with_reducible rfl)
          try simp only [Act.put, List.getElem_toArray, List.getElem_cons_zero, List.getElem_cons_succ, List.setIfInBounds_toArray, List.set_cons_zero, List.set_cons_succ]
          refine wpAnyH_take (i := 4) (oi := _) (v := ?vZsa4) rfl (by kernel_rfl) (by kernel_rfl) (by kernel_rfl) (fun _ _ _ h => h) (Or.inl ⟨by rfl, ?yZsa4⟩) hHeld ?_
          case yZsa4 => (intro w hSw; (try dsimp only at hSw); go_simp <;> with_reducible rfl)
          try simp only [Act.put, List.getElem_toArray, List.getElem_cons_zero, List.getElem_cons_succ, List.setIfInBounds_toArray, List.set_cons_zero, List.set_cons_succ]
          refine wpAnyH_take (i := 5) (oi := _) (v := ?vZsa5) rfl (by kernel_rfl) (by kernel_rfl) (by kernel_rfl) (fun _ _ _ h => h) (Or.inl ⟨by rfl, ?yZsa5⟩) hHeld ?_
          case yZsa5 => (intro w hSw; (try dsimp only at hSw); go_simp <;> with_reducible rfl)
          try simp only [Act.put, List.getElem_toArray, List.getElem_cons_zero, List.getElem_cons_succ, List.setIfInBounds_toArray, List.set_cons_zero, List.set_cons_succ]
          refine wpAnyH_take (i := 6) (oi := _) (v := ?vZsa6) rfl (by kernel_rfl) (by kernel_rfl) (by kernel_rfl) (fun _ _ _ h => h) (Or.inl ⟨by rfl, ?yZsa6⟩) hHeld ?_
          case yZsa6 => (intro w hSw; (try dsimp only at hSw); go_simp <;> with_reducible rfl)
          try simp only [Act.put, List.getElem_toArray, List.getElem_cons_zero, List.getElem_cons_succ, List.setIfInBounds_toArray, List.set_cons_zero, List.set_cons_succ]
          refine wpAnyH_take (i := 7) (oi := _) (v := ?vZsa7) rfl (by kernel_rfl) (by kernel_rfl) (by kernel_rfl) (fun _ _ _ h => h) (Or.inl ⟨by rfl, ?yZsa7⟩) hHeld ?_
          case yZsa7 => (intro w hSw; (try dsimp only at hSw); go_simp <;> with_reducible rfl)
          try simp only [Act.put, List.getElem_toArray, List.getElem_cons_zero, List.getElem_cons_succ, List.setIfInBounds_toArray, List.set_cons_zero, List.set_cons_succ]
          refine wpAnyH_take (i := 8) (oi := _) (v := ?vZsa8) rfl (by kernel_rfl) (by kernel_rfl) (by kernel_rfl) (fun _ _ _ h => h) (Or.inl ⟨by rfl, ?yZsa8⟩) hHeld ?_
          case yZsa8 => (intro w hSw; (try dsimp only at hSw); go_simp <;> with_reducible rfl)
          try simp only [Act.put, List.getElem_toArray, List.getElem_cons_zero, List.getElem_cons_succ, List.setIfInBounds_toArray, List.set_cons_zero, List.set_cons_succ]
          refine wpAnyH_take (i := 10) (oi := _) (v := ?vZsa10) rfl (by kernel_rfl) (by kernel_rfl) (by kernel_rfl) (fun _ _ _ h => h) (Or.inl ⟨by rfl, ?yZsa10⟩) hHeld ?_
          case yZsa10 => (intro w hSw; (try dsimp only at hSw); go_simp <;> with_reducible rfl)
          try simp only [Act.put, List.getElem_toArray, List.getElem_cons_zero, List.getElem_cons_succ, List.setIfInBounds_toArray, List.set_cons_zero, List.set_cons_succ]
          refine wpAnyH_take (i := 11) (oi := _) (v := ?vZsa11) rfl (by kernel_rfl) (by kernel_rfl) (by kernel_rfl) (fun _ _ _ h => h) (Or.inl ⟨by rfl, ?yZsa11⟩) hHeld ?_
          case yZsa11 => (intro w hSw; (try dsimp only at hSw); go_simp <;> with_reducible rfl)
          try simp only [Act.put, List.getElem_toArray, List.getElem_cons_zero, List.getElem_cons_succ, List.setIfInBounds_toArray, List.set_cons_zero, List.set_cons_succ]
          refine wpAnyH_take (i := 12) (oi := _) (v := ?vZsa12) rfl (by kernel_rfl) (by kernel_rfl) (by kernel_rfl) (fun _ _ _ h => h) (Or.inl ⟨by rfl, ?yZsa12⟩) hHeld ?_
          case yZsa12 => (intro w hSw; (try dsimp only at hSw); go_simp <;> with_reducible rfl)
          try simp only [Act.put, List.getElem_toArray, List.getElem_cons_zero, List.getElem_cons_succ, List.setIfInBounds_toArray, List.set_cons_zero, List.set_cons_succ]
          refine wpAnyH_ready (rs := [9, 13]) (by kernel_rfl) (by simp) ?_
          refine AllReadyH.cons rfl (fun K hK => ?_) (AllReadyH.cons rfl (fun K hK => ?_) AllReadyH.nil)
          · go_simp
            clear hHeld
            refine hK.out _ _ True.intro (fun hHeld => ?_)
            clear hK K
            refine wpAnyH_ready (rs := [13]) (by kernel_rfl) (by simp) ?_
            refine AllReadyH.cons rfl (fun K hK => ?_) AllReadyH.nil
            go_simp
            clear hHeld
            refine hK.out _ _ True.intro (fun hHeld => ?_)
            clear hK K
            refine wpAnyH_take (i := 14) (oi := _) (v := ?vZspi) rfl (by kernel_rfl) (by kernel_rfl) (by kernel_rfl) (fun _ _ _ h => h) (Or.inl ⟨by rfl, ?yZspi⟩) hHeld ?_
            case yZspi => (intro w hSw; (try dsimp only at hSw); go_simp <;> with_reducible rfl)
            try simp only [Act.put, List.getElem_toArray, List.getElem_cons_zero, List.getElem_cons_succ, List.setIfInBounds_toArray, List.set_cons_zero, List.set_cons_succ]
            refine wpAnyH_ready (rs := [15]) (by kernel_rfl) (by simp) ?_
            refine AllReadyH.cons rfl (fun K hK => ?_) AllReadyH.nil
            go_simp
            clear hHeld
            refine hK.out _ _ True.intro (fun hHeld => ?_)
            clear hK K
            rw [← HW9.out]
            refine wpAnyH_take (i := 16) (oi := _) (v := ?vZspj) rfl (by kernel_rfl) (by kernel_rfl) (by kernel_rfl) (fun _ _ _ h => h) (Or.inl ⟨by rfl, ?yZspj⟩) hHeld ?_
            case yZspj => (intro w hSw; (try dsimp only at hSw); go_simp <;> with_reducible rfl)
            try simp only [Act.put, List.getElem_toArray, List.getElem_cons_zero, List.getElem_cons_succ, List.setIfInBounds_toArray, List.set_cons_zero, List.set_cons_succ]
            refine wpAnyH_ready (rs := [17]) (by kernel_rfl) (by simp) ?_
            refine AllReadyH.cons rfl (fun K hK => ?_) AllReadyH.nil
            go_simp
            clear hHeld
            refine hK.out _ _ True.intro (fun hHeld => ?_)
            clear hK K
            rw [← HW10.out]
            refine wpAnyH_done (by kernel_rfl) ?_ _
            go_wp2_with fail
            go_roundw
            case rel => exact ⟨k, by have h1 := HIN.out; have h2 := HJN.out; first | (rw [show p + k = J by omega]; go_num) | (rw [← h2]; rfl) | (congr 1; omega), by omega, by omega, by rw [← HSW.out]; exact HFIN, HBL⟩
            case measure => have h1 := HIN.out; have h2 := HJN.out; simp [intOf]; omega
          · go_simp
            clear hHeld
            refine hK.out _ _ True.intro (fun hHeld => ?_)
            clear hK K
            refine wpAnyH_ready (rs := [9]) (by kernel_rfl) (by simp) ?_
            refine AllReadyH.cons rfl (fun K hK => ?_) AllReadyH.nil
            go_simp
            clear hHeld
            refine hK.out _ _ True.intro (fun hHeld => ?_)
            clear hK K
            refine wpAnyH_take (i := 14) (oi := _) (v := ?vZsqi) rfl (by kernel_rfl) (by kernel_rfl) (by kernel_rfl) (fun _ _ _ h => h) (Or.inl ⟨by rfl, ?yZsqi⟩) hHeld ?_
            case yZsqi => (intro w hSw; (try dsimp only at hSw); go_simp <;> with_reducible rfl)
            try simp only [Act.put, List.getElem_toArray, List.getElem_cons_zero, List.getElem_cons_succ, List.setIfInBounds_toArray, List.set_cons_zero, List.set_cons_succ]
            refine wpAnyH_ready (rs := [15]) (by kernel_rfl) (by simp) ?_
            refine AllReadyH.cons rfl (fun K hK => ?_) AllReadyH.nil
            go_simp
            clear hHeld
            refine hK.out _ _ True.intro (fun hHeld => ?_)
            clear hK K
            rw [← HW9.out]
            refine wpAnyH_take (i := 16) (oi := _) (v := ?vZsqj) rfl (by kernel_rfl) (by kernel_rfl) (by kernel_rfl) (fun _ _ _ h => h) (Or.inl ⟨by rfl, ?yZsqj⟩) hHeld ?_
            case yZsqj => (intro w hSw; (try dsimp only at hSw); go_simp <;> with_reducible rfl)
            try simp only [Act.put, List.getElem_toArray, List.getElem_cons_zero, List.getElem_cons_succ, List.setIfInBounds_toArray, List.set_cons_zero, List.set_cons_succ]
            refine wpAnyH_ready (rs := [17]) (by kernel_rfl) (by simp) ?_
            refine AllReadyH.cons rfl (fun K hK => ?_) AllReadyH.nil
            go_simp
            clear hHeld
            refine hK.out _ _ True.intro (fun hHeld => ?_)
            clear hK K
            rw [← HW10.out]
            refine wpAnyH_done (by kernel_rfl) ?_ _
            go_wp2_with fail
            go_roundw
            case rel => exact ⟨k, by have h1 := HIN.out; have h2 := HJN.out; first | (rw [show p + k = J by omega]; go_num) | (rw [← h2]; rfl) | (congr 1; omega), by omega, by omega, by rw [← HSW.out]; exact HFIN, HBL⟩
            case measure => have h1 := HIN.out; have h2 := HJN.out; simp [intOf]; omega
end Go.Proofs.Ytablcicfagmhpaa

/-! Two neighbouring parts in order of a list of entries merged: a contract for the walk; conditions: the row may be written, each Pre holds no more than 2 to the 20, and the row no more than 2 to the 40. -/
namespace Go.Proofs.Ytablcicfagmhpaa
open Go.RowKit
set_option linter.unusedSimpArgs false
set_option linter.unusedVariables false

theorem mg_triv {xs ys : List EC} (h : xs = [] ∨ ys = []) : mgG lessC xs ys = xs ++ ys := by
  rcases h with rfl | rfl
  · rw [nil_mg]; rfl
  · rw [mg_nil, List.append_nil]
theorem ord_sub {l : List EC} (ho : InOrd lessC l) (s : Nat) : InOrd lessC (l.take s) ∧ InOrd lessC (l.drop s) := ⟨List.Pairwise.sublist (List.take_sublist _ _) ho, List.Pairwise.sublist (List.drop_sublist _ _) ho⟩
/-- What the search comes to: what is ahead of the one place, and behind the other, needs no more comparing. -/
theorem cross_up {U V : List EC} {s e : Nat} (ho : InOrd lessC U) (hv : InOrd lessC V) (hs : s ≤ U.length) (h : s = 0 ∨ e = V.length ∨ ∃ x y, U[s - 1]? = some y ∧ V[e]? = some x ∧ lessC y x = false) : ∀ u ∈ U.take s, ∀ v ∈ V.drop e, lessC u v = false := by
  intro u hu v hvv
  obtain ⟨k, hk, rfl⟩ := List.mem_iff_getElem.1 hu
  obtain ⟨j, hj, rfl⟩ := List.mem_iff_getElem.1 hvv
  rw [List.length_take] at hk
  rw [List.length_drop] at hj
  rw [List.getElem_take, List.getElem_drop]
  rcases h with h | h | ⟨x, y, h1, h2, h3⟩
  · omega
  · omega
  · obtain ⟨hl, rfl⟩ := List.getElem?_eq_some_iff.1 h1
    obtain ⟨hl2, rfl⟩ := List.getElem?_eq_some_iff.1 h2
    have a1 : lessC U[k] V[e] = false := by
      by_cases c : k = s - 1
      · subst c; exact h3
      · exact lessC_N _ _ _ (List.pairwise_iff_getElem.1 ho k (s - 1) (by omega) hl (by omega)) h3
    by_cases c : j = 0
    · subst c; exact a1
    · exact lessC_N _ _ _ a1 (List.pairwise_iff_getElem.1 hv e (e + j) hl2 (by omega) (by omega))
theorem cross_dn {U V : List EC} {s e : Nat} (ho : InOrd lessC U) (hv : InOrd lessC V) (he : e ≤ V.length) (h : s = U.length ∨ e = 0 ∨ ∃ x y, U[s]? = some y ∧ V[e - 1]? = some x ∧ lessC y x = true) : ∀ v ∈ V.take e, ∀ u ∈ U.drop s, lessC u v = true := by
  intro v hvv u hu
  obtain ⟨k, hk, rfl⟩ := List.mem_iff_getElem.1 hu
  obtain ⟨j, hj, rfl⟩ := List.mem_iff_getElem.1 hvv
  rw [List.length_drop] at hk
  rw [List.length_take] at hj
  rw [List.getElem_drop, List.getElem_take]
  rcases h with h | h | ⟨x, y, h1, h2, h3⟩
  · omega
  · omega
  · obtain ⟨hl, rfl⟩ := List.getElem?_eq_some_iff.1 h1
    obtain ⟨hl2, rfl⟩ := List.getElem?_eq_some_iff.1 h2
    cases hf : lessC U[s + k] V[j] with
    | true => rfl
    | false =>
      have a1 : lessC U[s] V[j] = false := by
        by_cases c : k = 0
        · subst c; exact hf
        · exact lessC_N _ _ _ (List.pairwise_iff_getElem.1 ho s (s + k) hl (by omega) (by omega)) hf
      have a2 : lessC U[s] V[e - 1] = false := by
        by_cases c : j = e - 1
        · subst c; exact a1
        · exact lessC_N _ _ _ a1 (List.pairwise_iff_getElem.1 hv j (e - 1) (by omega) hl2 (by omega))
      rw [h3] at a2; cases a2

set_option maxHeartbeats 32000000 in
set_option maxRecDepth 100000 in
theorem symg_c (B g cap N z p m q : Nat) (P U V R : List EC) (w : World) (hz : U.length + V.length ≤ z) (HREC : Hid (∀ (p m q : Nat) (P U V R : List EC) (w : World), p = P.length → m = p + U.length → q = m + V.length → N = q + R.length → RowE B w (.slice (some ⟨g, 0, none⟩) N cap) (P ++ (U ++ (V ++ R))) → B ≤ w.heap.size → 0 < U.length → 0 < V.length → InOrd lessC U → InOrd lessC V → (∀ u ∈ U, bulkS u.d.vP ≤ 1048576) → (∀ v ∈ V, bulkS v.d.vP ≤ 1048576) → U.length + V.length < z → Calls Try.prog 48 #[.slice (some ⟨g, 0, none⟩) N cap, .int .i64 (p : Int), .int .i64 (m : Int), .int .i64 (q : Int), .func (.func 17) #[] #[]] w fun e w' => e = .returned (.tuple #[]) ∧ RowE B w' (.slice (some ⟨g, 0, none⟩) N cap) (P ++ (mgG lessC U V ++ R)) ∧ Below B w w')) (hp : p = P.length) (hm : m = p + U.length) (hq : q = m + V.length) (hN : N = q + R.length) (hr : RowE B w (.slice (some ⟨g, 0, none⟩) N cap) (P ++ (U ++ (V ++ R)))) (hB : B ≤ w.heap.size) (hn : N ≤ 1099511627776) (hU : 2 ≤ U.length) (hV : 2 ≤ V.length) (ho : InOrd lessC U) (hov : InOrd lessC V) (hbu : ∀ u ∈ U, bulkS u.d.vP ≤ 1048576) (hbv : ∀ v ∈ V, bulkS v.d.vP ≤ 1048576) :
    Calls Try.prog 48 #[.slice (some ⟨g, 0, none⟩) N cap, .int .i64 (p : Int), .int .i64 (m : Int), .int .i64 (q : Int), .func (.func 17) #[] #[]] w fun e w' => e = .returned (.tuple #[]) ∧ RowE B w' (.slice (some ⟨g, 0, none⟩) N cap) (P ++ (mgG lessC U V ++ R)) ∧ Below B w w' := by
  have hgB : B ≤ g := (hr.1.lt g rfl).1
  obtain ⟨T, hT⟩ : ∃ T, T = P ++ (mgG lessC U V ++ R) := ⟨_, rfl⟩
  have HT := hidden hT
  rw [← hT]
  obtain ⟨Q, hQ⟩ : ∃ Q, Q = P ++ (U ++ (V ++ R)) := ⟨_, rfl⟩
  have hQl : N = Q.length := by rw [hQ]; simp; omega
  have HQU : Hid (∀ k (h : k < U.length), Q[p + k]? = some U[k]) := fun k h => by
    rw [hQ, List.getElem?_append_right (by omega), show p + k - P.length = k by omega, List.getElem?_append_left h]
    exact List.getElem?_eq_getElem h
  have HQV : Hid (∀ k (h : k < V.length), Q[m + k]? = some V[k]) := fun k h => by
    rw [hQ, List.getElem?_append_right (by omega), List.getElem?_append_right (by omega), show m + k - P.length - U.length = k by omega, List.getElem?_append_left h]
    exact List.getElem?_eq_getElem h
  have HQQ := hidden hQ
  rw [← hQ] at hr
  have HR0 := hidden hr
  have HO := hidden ho
  have HOV := hidden hov
  have HU := hidden hbu
  have HV := hidden hbv
  have HQL := hidden hQl
  have HPL := hidden hp
  obtain ⟨u0, hu0⟩ : ∃ u, u = U.length := ⟨_, rfl⟩
  obtain ⟨v0, hv0⟩ : ∃ u, u = V.length := ⟨_, rfl⟩
  have e0 : (m : Int) - (p : Int) = (u0 : Int) := by omega
  have e1 : ((u0 : Int) == 1) = false := by rw [beq_eq_false_iff_ne]; omega
  have e2 : ¬ (u0 : Int) = 1 := by omega
  have e4 : ¬ u0 = 1 := by omega
  have f0 : (q : Int) - (m : Int) = (v0 : Int) := by omega
  have f1 : ((v0 : Int) == 1) = false := by rw [beq_eq_false_iff_ne]; omega
  have f2 : ¬ (v0 : Int) = 1 := by omega
  have f4 : ¬ v0 = 1 := by omega
  have a1 : m ≤ p + U.length := by omega
  have a2 : p + U.length ≤ m := by omega
  have a3 : q ≤ m + V.length := by omega
  have a4 : m + V.length ≤ q := by omega
  have a5 : N ≤ q + R.length := by omega
  have a6 : q + R.length ≤ N := by omega
  obtain ⟨md, hmd⟩ : ∃ d, d = (p + q) / 2 := ⟨_, rfl⟩
  obtain ⟨nn, hnn⟩ : ∃ d, d = md + m := ⟨_, rfl⟩
  obtain ⟨p9, hp9⟩ : ∃ d, d = nn - 1 := ⟨_, rfl⟩
  have g0 : ((p : Int) + (q : Int)) / 2 = (md : Int) := by omega
  have g1 : (md : Int) + (m : Int) = (nn : Int) := by omega
  have g2 : (nn : Int) - 1 = (p9 : Int) := by omega
  have b1 : 2 * md ≤ p + q := by omega
  have b2 : p + q ≤ 2 * md + 1 := by omega
  have b3 : nn ≤ md + m := by omega
  have b4 : md + m ≤ nn := by omega
  have b5 : p9 + 1 ≤ nn := by omega
  have b6 : nn ≤ p9 + 1 := by omega
  clear hT hQ hr ho hov hbu hbv hQl hp hm hq hN hu0 hv0 hmd hnn hp9
  go_enter Try.func48, Try.ntmps48
  go_upto_if 140 with (fail)
  go_cut [20, 21] from 138 to 146 (fun v20 v21 wc => wc = w ∧ ∃ lo hi : Nat, v20 = .int .i64 (lo : Int) ∧ v21 = .int .i64 (hi : Int) ∧ p ≤ lo ∧ lo ≤ hi ∧ hi ≤ md ∧ hi ≤ m ∧ nn ≤ lo + q ∧ (lo = p ∨ lo + q = nn) ∧ (hi = md ∨ hi = m))
  case first =>
    clear HR0 HQU HQV HQQ HREC HO HOV HU HV HQL HPL HT
    by_cases c : md < m
    · have c' : (md : Int) < (m : Int) := by omega
      obtain ⟨lo, hlo⟩ : ∃ d, d = nn - q := ⟨_, rfl⟩
      have g3 : (nn : Int) - (q : Int) = (lo : Int) := by omega
      have h1 : p ≤ lo := by omega
      have h2 : lo ≤ md := by omega
      have h3 : nn ≤ lo + q := by omega
      have h4 : lo + q ≤ nn := by omega
      clear hlo
      go_wp2_with fail
      go_meet
      case rel => exact ⟨rfl, lo, md, rfl, rfl, h1, h2, Nat.le_refl _, by omega, h3, .inr (by omega), .inl rfl⟩
    · have c' : ¬ (md : Int) < (m : Int) := by omega
      go_wp2_with fail
      go_meet
      case rel => exact ⟨rfl, p, m, rfl, rfl, Nat.le_refl _, by omega, by omega, Nat.le_refl _, by omega, .inl rfl, .inr rfl⟩
  case rest =>
    obtain ⟨rfl, lo, hi, rfl, rfl, c1, c2, c3, c4, c5, c6, c7⟩ := hcut
    have HC6 := hidden c6
    have HC7 := hidden c7
    clear c6 c7
    go_wp2_with fail
    obtain ⟨w0, hw0⟩ : ∃ w0, w0 = wc := ⟨_, rfl⟩
    subst hw0
    go_loopw [20, 21] (fun vi vj wr => ∃ i j : Nat, vi = .int .i64 (i : Int) ∧ vj = .int .i64 (j : Int) ∧ lo ≤ i ∧ i ≤ j ∧ j ≤ hi ∧ Hid (i = lo ∨ ∃ x y, U[i - 1 - p]? = some y ∧ V[nn - i - m]? = some x ∧ lessC y x = false) ∧ Hid (j = hi ∨ ∃ x y, U[j - p]? = some y ∧ V[nn - 1 - j - m]? = some x ∧ lessC y x = true) ∧ Hid (RowE B wr (.slice (some ⟨g, 0, none⟩) N cap) Q) ∧ Hid (Below B w0 wr)) (fun vi vj _ => (intOf vj).toNat - (intOf vi).toNat)
    case atStart => exact ⟨lo, hi, rfl, rfl, Nat.le_refl _, c2, Nat.le_refl _, .inl rfl, .inl rfl, HR0, Below.refl _ _⟩
    case round =>
      clear HR0
      obtain ⟨i, j, rfl, rfl, hi1, hij, hj1, HI, HJ, HROW, HBR⟩ := hrel
      by_cases hlt : i < j
      case pos =>
        have hq1 : (i : Int) < (j : Int) := by omega
        obtain ⟨h, hh⟩ : ∃ h, h = (i + j) / 2 := ⟨_, rfl⟩
        have hmid : ((i : Int) + (j : Int)) / 2 = (h : Int) := by omega
        obtain ⟨I, hI⟩ : ∃ h', h' = p9 - h := ⟨_, rfl⟩
        have hIe : (p9 : Int) - (h : Int) = (I : Int) := by omega
        have hL : N = Q.length := HQL.out
        obtain ⟨yc, hy0⟩ : ∃ x, x = U[h - p]'(by omega) := ⟨_, rfl⟩
        have hyJ : Q[h]? = some yc := by rw [hy0, ← HQU.out (h - p) (by omega), show p + (h - p) = h by omega]
        obtain ⟨x, hx0⟩ : ∃ y, y = V[I - m]'(by omega) := ⟨_, rfl⟩
        have hxI : Q[I]? = some x := by rw [hx0, ← HQV.out (I - m) (by omega), show m + (I - m) = I by omega]
        have hby : bulkS yc.d.vP ≤ 1048576 := HU.out yc (by rw [hy0]; exact List.getElem_mem _)
        have hbx : bulkS x.d.vP ≤ 1048576 := HV.out x (by rw [hx0]; exact List.getElem_mem _)
        have hUy : Hid (U[h - p]? = some yc) := by rw [hy0]; exact List.getElem?_eq_getElem _
        have hVx : Hid (V[I - m]? = some x) := by rw [hx0]; exact List.getElem?_eq_getElem _
        have k0 : (0 : Int) ≤ (h : Int) := by omega
        have k1 : (h : Int) < (N : Int) := by omega
        have k2 : (0 : Int) ≤ (I : Int) := by omega
        have k3 : (I : Int) < (N : Int) := by omega
        have gw : IntKind.i64.wrap (h : Int) = (h : Int) := IntWalk.i64_in _ ⟨by omega, by omega⟩
        have gw2 : IntKind.i64.wrap (I : Int) = (I : Int) := IntWalk.i64_in _ ⟨by omega, by omega⟩
        have hh1 : i ≤ h := by omega
        have hh2 : h < j := by omega
        have HII := hidden hI
        clear hx0 hy0 hh hI
        have hxo : EntOwn wr x := HROW.out.2 _ (List.mem_of_getElem? hxI)
        have hyo : EntOwn wr yc := HROW.out.2 _ (List.mem_of_getElem? hyJ)
        obtain ⟨q0, c0, q1, c1, f0, f1⟩ := ent_slices hxo
        obtain ⟨s0, t0, s1, t1, y0, y1⟩ := ent_slices hyo
        have hxc : ∀ j, j < 6 → wr.cell? ⟨g, I * 6 + j, none⟩ = (x.cells)[j]? := fun j hj => HROW.out.cellQ hL hxI j hj
        have hyc : ∀ j, j < 6 → wr.cell? ⟨g, h * 6 + j, none⟩ = (yc.cells)[j]? := fun j hj => HROW.out.cellQ hL hyJ j hj
        obtain ⟨d, hd⟩ : ∃ d, d = x.d := ⟨_, rfl⟩
        obtain ⟨y, hy⟩ : ∃ y, y = yc.d := ⟨_, rfl⟩
        have hle : lessE y d = lessC yc x := by unfold lessC; rw [← hd, ← hy]
        rw [← hd] at f0 f1 hbx
        rw [← hy] at y0 y1 hby
        have hxcl : x.cells = [.string d.name, .int .i64 d.vA, .int .i64 d.vB, .int .i64 d.vC, .slice q0 d.vP.length c0, .slice q1 d.needs.length c1] := by unfold EC.cells; rw [f0, f1, ← hd]
        have hycl : yc.cells = [.string y.name, .int .i64 y.vA, .int .i64 y.vB, .int .i64 y.vC, .slice s0 y.vP.length t0, .slice s1 y.needs.length t1] := by unfold EC.cells; rw [y0, y1, ← hy]
        rw [hxcl] at hxc
        rw [hycl] at hyc
        have hrX : Reads wr (.slice q0 d.vP.length c0) (strsV d.vP) := by have h9 := hxo.1; rw [f0, ← hd] at h9; exact reads_of_owns h9
        have hrY : Reads wr (.slice s0 y.vP.length t0) (strsV y.vP) := by have h9 := hyo.1; rw [y0, ← hy] at h9; exact reads_of_owns h9
        have HLS' : ∀ W, Below wr.heap.size wr W → Calls Try.prog 17 #[.agg #[.string d.name, .int .i64 d.vA, .int .i64 d.vB, .int .i64 d.vC, .slice q0 d.vP.length c0, .slice q1 d.needs.length c1], .agg #[.string y.name, .int .i64 y.vA, .int .i64 y.vB, .int .i64 y.vC, .slice s0 y.vP.length t0, .slice s1 y.needs.length t1]] W fun e w' => ∃ m : Int, e = .returned (.int .i64 m) ∧ decide (m < 0) = lessE y d ∧ Below W.heap.size W w' := fun W hW => cmpNew_c d y _ _ _ _ W (hrX.below hW) (hrY.below hW) hbx hby
        rw [hle] at HLS'
        have HLS := hidden HLS'
        have hgr : g < wr.heap.size := (HROW.out.1.lt g rfl).2
        have KEEP' : ∀ W, Below wr.heap.size wr W → W.cell? ⟨g, I * 6, none⟩ = some (.string d.name) ∧ W.cell? ⟨g, I * 6 + 1, none⟩ = some (.int .i64 d.vA) ∧ W.cell? ⟨g, I * 6 + 2, none⟩ = some (.int .i64 d.vB) ∧ W.cell? ⟨g, I * 6 + 3, none⟩ = some (.int .i64 d.vC) ∧ W.cell? ⟨g, I * 6 + 4, none⟩ = some (.slice q0 d.vP.length c0) ∧ W.cell? ⟨g, I * 6 + 5, none⟩ = some (.slice q1 d.needs.length c1) ∧ W.cell? ⟨g, h * 6, none⟩ = some (.string y.name) ∧ W.cell? ⟨g, h * 6 + 1, none⟩ = some (.int .i64 y.vA) ∧ W.cell? ⟨g, h * 6 + 2, none⟩ = some (.int .i64 y.vB) ∧ W.cell? ⟨g, h * 6 + 3, none⟩ = some (.int .i64 y.vC) ∧ W.cell? ⟨g, h * 6 + 4, none⟩ = some (.slice s0 y.vP.length t0) ∧ W.cell? ⟨g, h * 6 + 5, none⟩ = some (.slice s1 y.needs.length t1) := fun W hW => by
          have hY : ∀ j, W.cell? ⟨g, j, none⟩ = wr.cell? ⟨g, j, none⟩ := fun j => hW.cell (p := ⟨g, j, none⟩) hgr
          simp only [hY]
          exact ⟨hxc 0 (by omega), hxc 1 (by omega), hxc 2 (by omega), hxc 3 (by omega), hxc 4 (by omega), hxc 5 (by omega), hyc 0 (by omega), hyc 1 (by omega), hyc 2 (by omega), hyc 3 (by omega), hyc 4 (by omega), hyc 5 (by omega)⟩
        have KEEP := hidden KEEP'
        have hd0 : Below wr.heap.size wr wr.drew := (Below.refl _ _).drew
        have HL := hidden hL
        obtain ⟨bl, hbl⟩ : ∃ b, b = lessC yc x := ⟨_, rfl⟩
        rw [← hbl] at HLS
        have HBLL := hidden hbl
        clear hL KEEP' HLS' hrY hrX hyc hxc hyo hxo y0 y1 f0 f1 hycl hxcl hy hd hbx hby hle hbl hgr
        go_wp2_with fail
        refine wp_region_held_drew (S := (fun W => W.cell? ⟨g, I * 6, none⟩ = some (.string d.name) ∧ W.cell? ⟨g, I * 6 + 1, none⟩ = some (.int .i64 d.vA) ∧ W.cell? ⟨g, I * 6 + 2, none⟩ = some (.int .i64 d.vB) ∧ W.cell? ⟨g, I * 6 + 3, none⟩ = some (.int .i64 d.vC) ∧ W.cell? ⟨g, I * 6 + 4, none⟩ = some (.slice q0 d.vP.length c0) ∧ W.cell? ⟨g, I * 6 + 5, none⟩ = some (.slice q1 d.needs.length c1) ∧ W.cell? ⟨g, h * 6, none⟩ = some (.string y.name) ∧ W.cell? ⟨g, h * 6 + 1, none⟩ = some (.int .i64 y.vA) ∧ W.cell? ⟨g, h * 6 + 2, none⟩ = some (.int .i64 y.vB) ∧ W.cell? ⟨g, h * 6 + 3, none⟩ = some (.int .i64 y.vC) ∧ W.cell? ⟨g, h * 6 + 4, none⟩ = some (.slice s0 y.vP.length t0) ∧ W.cell? ⟨g, h * 6 + 5, none⟩ = some (.slice s1 y.needs.length t1))) (by kernel_rfl) ?SR10 (fun hHeld => ?_)
        case SR10 => (first | (with_reducible exact KEEP.out _ hd1) | (with_reducible exact KEEP.out _ hd0))
        refine wpAnyH_take (i := 0) (oi := _) (v := ?vR10) rfl (by kernel_rfl) (by kernel_rfl) (by kernel_rfl) (fun _ _ _ h => h) (Or.inl ⟨by rfl, ?yR10⟩) hHeld ?_
        case yR10 => (intro w hSw; (try dsimp only at hSw); go_simp <;> with_reducible rfl)
        try simp only [Act.put, List.getElem_toArray, List.getElem_cons_zero, List.getElem_cons_succ, List.setIfInBounds_toArray, List.set_cons_zero, List.set_cons_succ]
        refine wpAnyH_take (i := 1) (oi := _) (v := ?vR11) rfl (by kernel_rfl) (by kernel_rfl) (by kernel_rfl) (fun _ _ _ h => h) (Or.inl ⟨by rfl, ?yR11⟩) hHeld ?_
        case yR11 => (intro w hSw; (try dsimp only at hSw); go_simp <;> with_reducible rfl)
        try simp only [Act.put, List.getElem_toArray, List.getElem_cons_zero, List.getElem_cons_succ, List.setIfInBounds_toArray, List.set_cons_zero, List.set_cons_succ]
        refine wpAnyH_take (i := 2) (oi := _) (v := ?vR12) rfl (by kernel_rfl) (by kernel_rfl) (by kernel_rfl) (fun _ _ _ h => h) (Or.inl ⟨by rfl, ?yR12⟩) hHeld ?_
        case yR12 => (intro w hSw; (try dsimp only at hSw); go_simp <;> with_reducible rfl)
        try simp only [Act.put, List.getElem_toArray, List.getElem_cons_zero, List.getElem_cons_succ, List.setIfInBounds_toArray, List.set_cons_zero, List.set_cons_succ]
        refine wpAnyH_take (i := 3) (oi := _) (v := ?vR13) rfl (by kernel_rfl) (by kernel_rfl) (by kernel_rfl) (fun _ _ _ h => h) (Or.inl ⟨by rfl, ?yR13⟩) hHeld ?_
        case yR13 => (intro w hSw; (try dsimp only at hSw); go_simp <;> with_reducible rfl)
        try simp only [Act.put, List.getElem_toArray, List.getElem_cons_zero, List.getElem_cons_succ, List.setIfInBounds_toArray, List.set_cons_zero, List.set_cons_succ]
        refine wpAnyH_take (i := 4) (oi := _) (v := ?vR14) rfl (by kernel_rfl) (by kernel_rfl) (by kernel_rfl) (fun _ _ _ h => h) (Or.inl ⟨by rfl, ?yR14⟩) hHeld ?_
        case yR14 => (intro w hSw; (try dsimp only at hSw); go_simp <;> with_reducible rfl)
        try simp only [Act.put, List.getElem_toArray, List.getElem_cons_zero, List.getElem_cons_succ, List.setIfInBounds_toArray, List.set_cons_zero, List.set_cons_succ]
        refine wpAnyH_take (i := 5) (oi := _) (v := ?vR15) rfl (by kernel_rfl) (by kernel_rfl) (by kernel_rfl) (fun _ _ _ h => h) (Or.inl ⟨by rfl, ?yR15⟩) hHeld ?_
        case yR15 => (intro w hSw; (try dsimp only at hSw); go_simp <;> with_reducible rfl)
        try simp only [Act.put, List.getElem_toArray, List.getElem_cons_zero, List.getElem_cons_succ, List.setIfInBounds_toArray, List.set_cons_zero, List.set_cons_succ]
        refine wpAnyH_take (i := 6) (oi := _) (v := ?vR16) rfl (by kernel_rfl) (by kernel_rfl) (by kernel_rfl) (fun _ _ _ h => h) (Or.inl ⟨by rfl, ?yR16⟩) hHeld ?_
        case yR16 => (intro w hSw; (try dsimp only at hSw); go_simp <;> with_reducible rfl)
        try simp only [Act.put, List.getElem_toArray, List.getElem_cons_zero, List.getElem_cons_succ, List.setIfInBounds_toArray, List.set_cons_zero, List.set_cons_succ]
        refine wpAnyH_take (i := 7) (oi := _) (v := ?vR17) rfl (by kernel_rfl) (by kernel_rfl) (by kernel_rfl) (fun _ _ _ h => h) (Or.inl ⟨by rfl, ?yR17⟩) hHeld ?_
        case yR17 => (intro w hSw; (try dsimp only at hSw); go_simp <;> with_reducible rfl)
        try simp only [Act.put, List.getElem_toArray, List.getElem_cons_zero, List.getElem_cons_succ, List.setIfInBounds_toArray, List.set_cons_zero, List.set_cons_succ]
        refine wpAnyH_take (i := 8) (oi := _) (v := ?vR18) rfl (by kernel_rfl) (by kernel_rfl) (by kernel_rfl) (fun _ _ _ h => h) (Or.inl ⟨by rfl, ?yR18⟩) hHeld ?_
        case yR18 => (intro w hSw; (try dsimp only at hSw); go_simp <;> with_reducible rfl)
        try simp only [Act.put, List.getElem_toArray, List.getElem_cons_zero, List.getElem_cons_succ, List.setIfInBounds_toArray, List.set_cons_zero, List.set_cons_succ]
        refine wpAnyH_take (i := 9) (oi := _) (v := ?vR19) rfl (by kernel_rfl) (by kernel_rfl) (by kernel_rfl) (fun _ _ _ h => h) (Or.inl ⟨by rfl, ?yR19⟩) hHeld ?_
        case yR19 => (intro w hSw; (try dsimp only at hSw); go_simp <;> with_reducible rfl)
        try simp only [Act.put, List.getElem_toArray, List.getElem_cons_zero, List.getElem_cons_succ, List.setIfInBounds_toArray, List.set_cons_zero, List.set_cons_succ]
        refine wpAnyH_take (i := 10) (oi := _) (v := ?vR110) rfl (by kernel_rfl) (by kernel_rfl) (by kernel_rfl) (fun _ _ _ h => h) (Or.inl ⟨by rfl, ?yR110⟩) hHeld ?_
        case yR110 => (intro w hSw; (try dsimp only at hSw); go_simp <;> with_reducible rfl)
        try simp only [Act.put, List.getElem_toArray, List.getElem_cons_zero, List.getElem_cons_succ, List.setIfInBounds_toArray, List.set_cons_zero, List.set_cons_succ]
        refine wpAnyH_ready (rs := [11]) (by kernel_rfl) (by simp) ?_
        refine AllReadyH.cons rfl (fun K hK => ?_) AllReadyH.nil
        go_simp
        go_wp2_with (go_at_call 17; refine (HLS.out _ hd0).mono ?_; rintro e w6 ⟨m6, rfl, hm, b6⟩; have hd1 : Below wr.heap.size wr w6 := hd0.trans (b6.mono hd0.size); replace hm := hidden hm)
        clear hHeld
        refine hK.out _ _ ?SR112 (fun hHeld => ?_)
        case SR112 => ((try dsimp only); first | (with_reducible exact KEEP.out _ hd1) | (with_reducible exact KEEP.out _ hd0))
        clear hK K
        refine wpAnyH_take (i := 12) (oi := _) (v := ?vR112) rfl (by kernel_rfl) (by kernel_rfl) (by kernel_rfl) (fun _ _ _ h => h) (Or.inl ⟨by rfl, ?yR112⟩) hHeld ?_
        case yR112 => (intro w hSw; (try dsimp only at hSw); go_simp <;> with_reducible rfl)
        try simp only [Act.put, List.getElem_toArray, List.getElem_cons_zero, List.getElem_cons_succ, List.setIfInBounds_toArray, List.set_cons_zero, List.set_cons_succ]
        refine wpAnyH_take (i := 13) (oi := _) (v := ?vR113) rfl (by kernel_rfl) (by kernel_rfl) (by kernel_rfl) (fun _ _ _ h => h) (Or.inl ⟨by rfl, ?yR113⟩) hHeld ?_
        case yR113 => (intro w hSw; (try dsimp only at hSw); go_simp <;> with_reducible rfl)
        try simp only [Act.put, List.getElem_toArray, List.getElem_cons_zero, List.getElem_cons_succ, List.setIfInBounds_toArray, List.set_cons_zero, List.set_cons_succ]
        refine wpAnyH_done (by kernel_rfl) ?_ _
        have HR6 := hidden (HROW.out.below hd1)
        have HB6 := hidden (HBR.out.trans (hd1.mono (Nat.le_trans hB HBR.out.size)))
        have hL := HL.out
        clear HLS KEEP hd1 hd0 b6 HROW HBR HL
        cases bl with
        | true =>
          have hmz : m6 < 0 := by simpa using hm.out
          have hdm : decide (m6 < 0) = true := decide_eq_true hmz
          simp only [hdm, Bool.not_true]
          clear hdm
          have HJ2 : Hid (h = hi ∨ ∃ x y, U[h - p]? = some y ∧ V[nn - 1 - h - m]? = some x ∧ lessC y x = true) := .inr ⟨x, yc, hUy.out, by rw [show nn - 1 - h - m = I - m by have := HII.out; omega]; exact hVx.out, HBLL.out.symm⟩
          clear hUy hVx HBLL hm HJ HII
          go_wp2_with fail
          go_roundw
          case rel => exact ⟨i, h, rfl, rfl, hi1, by omega, by omega, HI, HJ2, HR6, HB6⟩
          case measure => simp [intOf]; omega
        | false =>
          have hmz : ¬ m6 < 0 := by simpa using hm.out
          have hdm : decide (m6 < 0) = false := decide_eq_false hmz
          simp only [hdm, Bool.not_false]
          clear hdm
          have HI2 : Hid (h + 1 = lo ∨ ∃ x y, U[h + 1 - 1 - p]? = some y ∧ V[nn - (h + 1) - m]? = some x ∧ lessC y x = false) := .inr ⟨x, yc, by rw [show h + 1 - 1 - p = h - p by omega]; exact hUy.out, by rw [show nn - (h + 1) - m = I - m by have := HII.out; omega]; exact hVx.out, HBLL.out.symm⟩
          clear hUy hVx HBLL hm HI HII
          go_wp2_with fail
          go_roundw
          case rel => exact ⟨h + 1, j, by go_num, rfl, by omega, by omega, hj1, HI2, HJ, HR6, HB6⟩
          case measure => simp [intOf]; omega
      case neg =>
        have hq1 : ¬ (i : Int) < (j : Int) := by omega
        obtain rfl : i = j := by omega
        obtain ⟨en, hen⟩ : ∃ e, e = nn - i := ⟨_, rfl⟩
        have he0 : (nn : Int) - (i : Int) = (en : Int) := by omega
        obtain ⟨s, hs⟩ : ∃ s, s = i - p := ⟨_, rfl⟩
        obtain ⟨t, ht⟩ : ∃ t, t = en - m := ⟨_, rfl⟩
        have hsl : s ≤ U.length := by omega
        have htl : t ≤ V.length := by omega
        have hup := cross_up (s := s) (e := t) HO.out HOV.out hsl (by
          rcases HI.out with h | ⟨x, y, h1, h2, h3⟩
          · rcases HC6.out with h' | h'
            · exact .inl (by omega)
            · exact .inr (.inl (by omega))
          · exact .inr (.inr ⟨x, y, by rw [show s - 1 = i - 1 - p by omega]; exact h1, by rw [show t = nn - i - m by omega]; exact h2, h3⟩))
        have hdn := cross_dn (s := s) (e := t) HO.out HOV.out htl (by
          rcases HJ.out with h | ⟨x, y, h1, h2, h3⟩
          · rcases HC7.out with h' | h'
            · exact .inr (.inl (by omega))
            · exact .inl (by omega)
          · exact .inr (.inr ⟨x, y, by rw [hs]; exact h1, by rw [show t - 1 = nn - 1 - i - m by omega]; exact h2, h3⟩))
        have HMG : Hid (P ++ (mgG lessC (U.take s) (V.take t) ++ (mgG lessC (U.drop s) (V.drop t) ++ R)) = T) := by
          show _ = _
          have h9 := mg_split lessC _ (U.take s) (V.take t) (U.drop s) (V.drop t) rfl hup hdn
          rw [List.take_append_drop, List.take_append_drop] at h9
          rw [HT.out, h9, List.append_assoc]
        obtain ⟨hO1, hO2⟩ := ord_sub HO.out s
        obtain ⟨hV1, hV2⟩ := ord_sub HOV.out t
        have hbU1 : ∀ u ∈ U.take s, bulkS u.d.vP ≤ 1048576 := fun u hu => HU.out u (List.mem_of_mem_take hu)
        have hbU2 : ∀ u ∈ U.drop s, bulkS u.d.vP ≤ 1048576 := fun u hu => HU.out u (List.mem_of_mem_drop hu)
        have hbV1 : ∀ u ∈ V.take t, bulkS u.d.vP ≤ 1048576 := fun u hu => HV.out u (List.mem_of_mem_take hu)
        have hbV2 : ∀ u ∈ V.drop t, bulkS u.d.vP ≤ 1048576 := fun u hu => HV.out u (List.mem_of_mem_drop hu)
        have hQ1 : Q = P ++ (U.take s ++ (U.drop s ++ (V.take t ++ (V.drop t ++ R)))) := by
          rw [HQQ.out]
          conv => lhs; rw [← List.take_append_drop s U, ← List.take_append_drop t V]
          simp only [List.append_assoc]
        have hl1 : (U.take s).length = s := by rw [List.length_take]; omega
        have hl2 : (U.drop s).length = U.length - s := by rw [List.length_drop]
        have hl3 : (V.take t).length = t := by rw [List.length_take]; omega
        have hl4 : (V.drop t).length = V.length - t := by rw [List.length_drop]
        obtain ⟨U1, hU1⟩ : ∃ l, l = U.take s := ⟨_, rfl⟩
        obtain ⟨U2, hU2⟩ : ∃ l, l = U.drop s := ⟨_, rfl⟩
        obtain ⟨V1, hV1e⟩ : ∃ l, l = V.take t := ⟨_, rfl⟩
        obtain ⟨V2, hV2e⟩ : ∃ l, l = V.drop t := ⟨_, rfl⟩
        rw [← hU1] at hO1 hbU1 hQ1 hl1 HMG
        rw [← hU2] at hO2 hbU2 hQ1 hl2 HMG
        rw [← hV1e] at hV1 hbV1 hQ1 hl3 HMG
        rw [← hV2e] at hV2 hbV2 hQ1 hl4 HMG
        rw [hQ1] at HROW
        have hmi : i ≤ m := by omega
        have HROT : Hid (i < m → m < en → ∀ W, RowE B W (.slice (some ⟨g, 0, none⟩) N cap) (P ++ (U1 ++ (U2 ++ (V1 ++ (V2 ++ R))))) → B ≤ W.heap.size → Calls Try.prog 55 #[.slice (some ⟨g, 0, none⟩) N cap, .int .i64 (i : Int), .int .i64 (m : Int), .int .i64 (en : Int), .func (.func 17) #[] #[]] W fun e w' => e = .returned (.tuple #[]) ∧ RowE B w' (.slice (some ⟨g, 0, none⟩) N cap) (P ++ (U1 ++ (V1 ++ (U2 ++ (V2 ++ R))))) ∧ Below B W w') := fun k1 k2 W h hb => by
          have h9 := rotate_c B g cap N i m en (P ++ U1) U2 V1 (V2 ++ R) W (by rw [List.length_append, hl1, ← HPL.out]; omega) (by rw [List.length_append, hl1, hl2, ← HPL.out]; omega) (by rw [List.length_append, hl1, hl2, hl3, ← HPL.out]; omega) (by rw [List.length_append, List.length_append, hl1, hl2, hl3, hl4, ← HPL.out]; omega) (by simpa only [List.append_assoc] using h) hb hn (by omega) (by omega)
          simpa only [List.append_assoc] using h9
        have HLFT : Hid (p < i → i < md → ∀ W, RowE B W (.slice (some ⟨g, 0, none⟩) N cap) (P ++ (U1 ++ (V1 ++ (U2 ++ (V2 ++ R))))) → B ≤ W.heap.size → Calls Try.prog 48 #[.slice (some ⟨g, 0, none⟩) N cap, .int .i64 (p : Int), .int .i64 (i : Int), .int .i64 (md : Int), .func (.func 17) #[] #[]] W fun e w' => e = .returned (.tuple #[]) ∧ RowE B w' (.slice (some ⟨g, 0, none⟩) N cap) (P ++ (mgG lessC U1 V1 ++ (U2 ++ (V2 ++ R)))) ∧ Below B W w') := fun k1 k2 W h hb =>
          HREC.out p i md P U1 V1 (U2 ++ (V2 ++ R)) W HPL.out (by omega) (by omega) (by rw [List.length_append, List.length_append, hl2, hl4]; omega) h hb (by omega) (by omega) hO1 hV1 hbU1 hbV1 (by omega)
        have HRGT : Hid (∀ A : List EC, A.length = s + t → md < en → en < q → ∀ W, RowE B W (.slice (some ⟨g, 0, none⟩) N cap) (P ++ (A ++ (U2 ++ (V2 ++ R)))) → B ≤ W.heap.size → Calls Try.prog 48 #[.slice (some ⟨g, 0, none⟩) N cap, .int .i64 (md : Int), .int .i64 (en : Int), .int .i64 (q : Int), .func (.func 17) #[] #[]] W fun e w' => e = .returned (.tuple #[]) ∧ RowE B w' (.slice (some ⟨g, 0, none⟩) N cap) (P ++ (A ++ (mgG lessC U2 V2 ++ R))) ∧ Below B W w') := fun A hA k1 k2 W h hb => by
          have h9 := HREC.out md en q (P ++ A) U2 V2 R W (by rw [List.length_append, hA, ← HPL.out]; omega) (by omega) (by omega) (by omega) (by simpa only [List.append_assoc] using h) hb (by omega) (by omega) hO2 hV2 hbU2 hbV2 (by omega)
          simpa only [List.append_assoc] using h9
        have HE1 : Hid (¬ (i < m ∧ m < en) → U2 ++ (V1 ++ (V2 ++ R)) = V1 ++ (U2 ++ (V2 ++ R))) := fun h => by
          by_cases c : i < m
          · have : V1 = [] := List.eq_nil_of_length_eq_zero (by omega)
            rw [this]; rfl
          · have : U2 = [] := List.eq_nil_of_length_eq_zero (by omega)
            rw [this]; rfl
        have HE2 : Hid (¬ (p < i ∧ i < md) → U1 ++ (V1 ++ (U2 ++ (V2 ++ R))) = mgG lessC U1 V1 ++ (U2 ++ (V2 ++ R))) := fun h => by
          rw [mg_triv (xs := U1) (ys := V1), List.append_assoc]
          by_cases c : p < i
          · exact .inr (List.eq_nil_of_length_eq_zero (by omega))
          · exact .inl (List.eq_nil_of_length_eq_zero (by omega))
        have HE3 : Hid (¬ (md < en ∧ en < q) → U2 ++ (V2 ++ R) = mgG lessC U2 V2 ++ R) := fun h => by
          rw [mg_triv (xs := U2) (ys := V2), List.append_assoc]
          by_cases c : md < en
          · exact .inr (List.eq_nil_of_length_eq_zero (by omega))
          · exact .inl (List.eq_nil_of_length_eq_zero (by omega))
        have HML : Hid ((mgG lessC U1 V1).length = s + t) := by show _ = _; rw [mg_len lessC _ U1 V1 rfl, hl1, hl3]
        have HB0 := hB
        clear HI HJ HQU HQV HQQ HQL HO HOV HU HV HC6 HC7 HREC HPL HT hup hdn hO1 hO2 hV1 hV2 hbU1 hbU2 hbV1 hbV2 hQ1 hl1 hl2 hl3 hl4 hU1 hU2 hV1e hV2e hs ht hen hsl htl
        obtain ⟨w1, hw1⟩ : ∃ w1, w1 = wr := ⟨_, rfl⟩
        subst hw1
        obtain ⟨D1, hD1⟩ : ∃ D, D = decide (i < m ∧ m < en) := ⟨_, rfl⟩
        have HD1 := hidden hD1
        clear hD1
        go_upto_region 39 with fail
        try clear e0
        try clear e1
        try clear e2
        try clear e4
        try clear f0
        try clear f1
        try clear f2
        try clear f4
        try clear a1
        try clear a2
        try clear a3
        try clear a4
        try clear a5
        try clear a6
        try clear g0
        try clear g1
        try clear g2
        try clear b1
        try clear b2
        try clear b3
        try clear b4
        try clear b5
        try clear b6
        try clear c1
        try clear c2
        try clear c3
        try clear c4
        try clear c5
        try clear he0
        try clear hmi
        try clear hq1
        try clear hlt
        try clear hi1
        try clear hj1
        try clear hij
        try clear hz
        try clear hn
        try clear hU
        try clear hV
        try clear hgB
        go_cut [185] from 178 to 185 (fun vd wd => wd = w1 ∧ vd = .bool D1)
        case first =>
          clear HROT HLFT HRGT HE1 HE2 HE3 HML HMG
          by_cases r1 : i < m
          · have r1' : (i : Int) < (m : Int) := by omega
            by_cases r2 : m < en
            · have r2' : (m : Int) < (en : Int) := by omega
              have hD : D1 = true := by rw [HD1.out]; exact decide_eq_true ⟨r1, r2⟩
              subst hD
              go_wp2_with fail
              go_meet
              case rel => exact ⟨rfl, rfl⟩
            · have r2' : ¬ (m : Int) < (en : Int) := by omega
              have hD : D1 = false := by rw [HD1.out]; exact decide_eq_false (fun h => r2 h.2)
              subst hD
              go_wp2_with fail
              go_meet
              case rel => exact ⟨rfl, rfl⟩
          · have r1' : ¬ (i : Int) < (m : Int) := by omega
            have hD : D1 = false := by rw [HD1.out]; exact decide_eq_false (fun h => r1 h.1)
            subst hD
            go_wp2_with fail
            go_meet
            case rel => exact ⟨rfl, rfl⟩
        case rest =>
          obtain ⟨rfl, rfl⟩ := hcut
          go_upto_if 185 with (fail)
          go_cut [] from 186 to 191 (fun wd => Hid (RowE B wd (.slice (some ⟨g, 0, none⟩) N cap) (P ++ (U1 ++ (V1 ++ (U2 ++ (V2 ++ R)))))) ∧ Hid (Below B w0 wd))
          case first =>
            clear HLFT HRGT HE2 HE3 HML HMG
            cases D1 with
            | true =>
              have r := of_decide_eq_true HD1.out.symm
              have HC := hidden (HROT.out r.1 r.2 _ HROW.out (Nat.le_trans hB HBR.out.size))
              clear HROT HE1 HROW r HD1
              go_wp2_with fail
              go_at_call 55
              refine HC.out.mono ?_
              rintro e W2 ⟨rfl, x1, x2⟩
              have X1 := hidden x1
              have X2 := hidden (HBR.out.trans x2)
              clear x1 x2 HC HBR
              go_wp2_with fail
              go_meet
              case rel => exact ⟨X1, X2⟩
            | false =>
              have r := of_decide_eq_false HD1.out.symm
              have X1 := hidden (show RowE B _ (.slice (some ⟨g, 0, none⟩) N cap) (P ++ (U1 ++ (V1 ++ (U2 ++ (V2 ++ R))))) by rw [← HE1.out r]; exact HROW.out)
              clear HROT HE1 HROW r HD1
              go_wp2_with fail
              go_meet
              case rel => exact ⟨X1, HBR⟩
          case rest =>
            obtain ⟨HROW2, HBR2⟩ := hcut
            clear HROW HBR HROT HE1 HD1
            obtain ⟨w2, hw2⟩ : ∃ w2, w2 = wc := ⟨_, rfl⟩
            subst hw2
            obtain ⟨D2, hD2⟩ : ∃ D, D = decide (p < i ∧ i < md) := ⟨_, rfl⟩
            have HD2 := hidden hD2
            clear hD2
            go_upto_region 41 with fail
            go_cut [199] from 192 to 199 (fun vd wd => wd = w2 ∧ vd = .bool D2)
            case first =>
              clear HLFT HRGT HE2 HE3 HML HMG
              by_cases r1 : p < i
              · have r1' : (p : Int) < (i : Int) := by omega
                by_cases r2 : i < md
                · have r2' : (i : Int) < (md : Int) := by omega
                  have hD : D2 = true := by rw [HD2.out]; exact decide_eq_true ⟨r1, r2⟩
                  subst hD
                  go_wp2_with fail
                  go_meet
                  case rel => exact ⟨rfl, rfl⟩
                · have r2' : ¬ (i : Int) < (md : Int) := by omega
                  have hD : D2 = false := by rw [HD2.out]; exact decide_eq_false (fun h => r2 h.2)
                  subst hD
                  go_wp2_with fail
                  go_meet
                  case rel => exact ⟨rfl, rfl⟩
              · have r1' : ¬ (p : Int) < (i : Int) := by omega
                have hD : D2 = false := by rw [HD2.out]; exact decide_eq_false (fun h => r1 h.1)
                subst hD
                go_wp2_with fail
                go_meet
                case rel => exact ⟨rfl, rfl⟩
            case rest =>
              obtain ⟨rfl, rfl⟩ := hcut
              go_upto_if 199 with (fail)
              go_cut [] from 200 to 205 (fun we => Hid (RowE B we (.slice (some ⟨g, 0, none⟩) N cap) (P ++ (mgG lessC U1 V1 ++ (U2 ++ (V2 ++ R))))) ∧ Hid (Below B w0 we))
              case first =>
                clear HRGT HE3 HML HMG
                cases D2 with
                | true =>
                  have r := of_decide_eq_true HD2.out.symm
                  have HC := hidden (HLFT.out r.1 r.2 _ HROW2.out (Nat.le_trans hB HBR2.out.size))
                  clear HLFT HE2 HROW2 r HD2
                  go_wp2_with fail
                  go_at_call 48
                  refine HC.out.mono ?_
                  rintro e W2 ⟨rfl, x1, x2⟩
                  have X1 := hidden x1
                  have X2 := hidden (HBR2.out.trans x2)
                  clear x1 x2 HC HBR2
                  go_wp2_with fail
                  go_meet
                  case rel => exact ⟨X1, X2⟩
                | false =>
                  have r := of_decide_eq_false HD2.out.symm
                  have X1 := hidden (show RowE B _ (.slice (some ⟨g, 0, none⟩) N cap) (P ++ (mgG lessC U1 V1 ++ (U2 ++ (V2 ++ R)))) by rw [← HE2.out r]; exact HROW2.out)
                  clear HLFT HE2 HROW2 r HD2
                  go_wp2_with fail
                  go_meet
                  case rel => exact ⟨X1, HBR2⟩
              case rest =>
                obtain ⟨HROW3, HBR3⟩ := hcut
                clear HROW2 HBR2 HLFT HE2 HD2
                obtain ⟨w3, hw3⟩ : ∃ w3, w3 = wc := ⟨_, rfl⟩
                subst hw3
                obtain ⟨D3, hD3⟩ : ∃ D, D = decide (md < en ∧ en < q) := ⟨_, rfl⟩
                have HD3 := hidden hD3
                clear hD3
                go_upto_region 43 with fail
                go_cut [213] from 206 to 213 (fun vd wd => wd = w3 ∧ vd = .bool D3)
                case first =>
                  clear HRGT HE3 HML HMG
                  by_cases r1 : md < en
                  · have r1' : (md : Int) < (en : Int) := by omega
                    by_cases r2 : en < q
                    · have r2' : (en : Int) < (q : Int) := by omega
                      have hD : D3 = true := by rw [HD3.out]; exact decide_eq_true ⟨r1, r2⟩
                      subst hD
                      go_wp2_with fail
                      go_meet
                      case rel => exact ⟨rfl, rfl⟩
                    · have r2' : ¬ (en : Int) < (q : Int) := by omega
                      have hD : D3 = false := by rw [HD3.out]; exact decide_eq_false (fun h => r2 h.2)
                      subst hD
                      go_wp2_with fail
                      go_meet
                      case rel => exact ⟨rfl, rfl⟩
                  · have r1' : ¬ (md : Int) < (en : Int) := by omega
                    have hD : D3 = false := by rw [HD3.out]; exact decide_eq_false (fun h => r1 h.1)
                    subst hD
                    go_wp2_with fail
                    go_meet
                    case rel => exact ⟨rfl, rfl⟩
                case rest =>
                  obtain ⟨rfl, rfl⟩ := hcut
                  cases D3 with
                  | true =>
                    have r := of_decide_eq_true HD3.out.symm
                    have HC := hidden (HRGT.out _ HML.out r.1 r.2 _ HROW3.out (Nat.le_trans hB HBR3.out.size))
                    clear HRGT HE3 HROW3 r HD3
                    go_wp2_with fail
                    go_at_call 48
                    refine HC.out.mono ?_
                    rintro e W2 ⟨rfl, x1, x2⟩
                    have X1 := hidden x1
                    have X2 := hidden (HBR3.out.trans x2)
                    clear x1 x2 HC HBR3
                    go_wp2_with fail
                    go_end0
                    exact ⟨rfl, by rw [← HMG.out]; exact X1.out, X2.out⟩
                  | false =>
                    have r := of_decide_eq_false HD3.out.symm
                    have X1 := hidden (show RowE B _ (.slice (some ⟨g, 0, none⟩) N cap) T by rw [← HMG.out, ← HE3.out r]; exact HROW3.out)
                    clear HRGT HE3 HROW3 r HD3
                    go_wp2_with fail
                    go_end0
                    exact ⟨rfl, X1.out, HBR3.out⟩

theorem symMerge_c (B g cap N : Nat) (hn : N ≤ 1099511627776) : ∀ z, ∀ (p m q : Nat) (P U V R : List EC) (w : World), p = P.length → m = p + U.length → q = m + V.length → N = q + R.length → RowE B w (.slice (some ⟨g, 0, none⟩) N cap) (P ++ (U ++ (V ++ R))) → B ≤ w.heap.size → 0 < U.length → 0 < V.length → InOrd lessC U → InOrd lessC V → (∀ u ∈ U, bulkS u.d.vP ≤ 1048576) → (∀ v ∈ V, bulkS v.d.vP ≤ 1048576) → U.length + V.length < z → Calls Try.prog 48 #[.slice (some ⟨g, 0, none⟩) N cap, .int .i64 (p : Int), .int .i64 (m : Int), .int .i64 (q : Int), .func (.func 17) #[] #[]] w fun e w' => e = .returned (.tuple #[]) ∧ RowE B w' (.slice (some ⟨g, 0, none⟩) N cap) (P ++ (mgG lessC U V ++ R)) ∧ Below B w w'
  | 0 => fun _ _ _ _ _ _ _ _ _ _ _ _ _ _ h _ _ _ _ _ hz => by omega
  | z + 1 => fun p m q P U V R w hp hm hq hN hr hB hU hV ho hov hbu hbv hz => by
    by_cases h1 : U.length = 1
    · obtain ⟨u, rfl⟩ : ∃ u, U = [u] := by
        cases U with
        | nil => simp at h1
        | cons a l => cases l with
          | nil => exact ⟨a, rfl⟩
          | cons b l => simp at h1
      exact sym1_c B g cap N p m q P V R u w hp (by simpa using hm) hq hN hr hB hn hov (hbu u (by simp)) hbv
    by_cases h2 : V.length = 1
    · obtain ⟨v, rfl⟩ : ∃ v, V = [v] := by
        cases V with
        | nil => simp at h2
        | cons a l => cases l with
          | nil => exact ⟨a, rfl⟩
          | cons b l => simp at h2
      exact sym2_c B g cap N p m q P U R v w hp hm (by simpa using hq) hN hr hB hn (by omega) ho (hbv v (by simp)) hbu
    · exact symg_c B g cap N z p m q P U V R w (by omega) (symMerge_c B g cap N hn z) hp hm hq hN hr hB hn (by omega) (by omega) ho hov hbu hbv
end Go.Proofs.Ytablcicfagmhpaa
