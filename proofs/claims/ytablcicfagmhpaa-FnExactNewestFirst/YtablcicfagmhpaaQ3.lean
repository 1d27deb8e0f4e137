/-
  Contracts for the walks, several texts in one: each part says what it proves, and under which conditions.
-/
import Derived.Lib.OthersKept
import Derived.Laws.RangeAny
import Derived.BigQuiet
import Derived.Deep.QuietTactic
import Derived.Sort.Walk0
import Derived.Test.YtablcicfagmhpaaQ2
import Derived.Test.YtablcicfagmhpaaQ1

/-! A copy of an entry, as the specification makes it: a contract for the walks; conditions: it lies in memory that may be written, and holds at most 2 to the 20. -/
namespace Go.Proofs.Ytablcicfagmhpaa
open Go.RowKit
set_option linter.unusedSimpArgs false
set_option linter.unusedVariables false

theorem wp_append_nilE {P : Program} {w : World} {o : Oper} {a : Act} {K : Act → World → Prop} {Q : Exit → Act → World → Prop} (s x : Operand) (t : TypeId)
    (ho : o.op = .call { callee := .builtin .append, args := #[s, x], argTypes := #[t, t] })
    (base : Nat) (e : TypeId) (i : TypeInfo) (size : Nat) (ht : P.underlying t = some (.slice e)) (hi : P.info? e = some i)
    (v : Value) (n : Nat) (xs : List Value) (hs : a.eval s = v) (hown : w.ownsRow base e size v n xs) (hx : a.eval x = .slice none 0 0)
    (h : K (a.put o.dst v) w) : o.wp P a w K Q := by
  have hrun := run_append_owned_none (P := P) (w := w) base t o.type e i size ht hi v n xs hown
  unfold Oper.wp
  simp [execOp, ho, resolve, invoke, builtin, hs, hx, hrun, Result.andThen]
  exact h
theorem rows_apartE {w : World} {base base' e e' sz sz' : Nat} {v v' : Value} {n n' : Nat} {xs xs' : List Value} (h : w.ownsRow base e sz v n xs) (h' : w.ownsRow base' e' sz' v' n' xs') (hne : e ≠ e') : v'.ownBlock = none ∨ v'.ownBlock ≠ v.ownBlock := by
  rcases h.2 with ⟨rfl, _⟩ | ⟨g, cap, cur, rfl, _, hg, _⟩
  · rcases h'.2 with ⟨rfl, _⟩ | ⟨g', cap', cur', rfl, _, hg', _⟩
    · exact .inl rfl
    · exact .inr (by simp [Value.ownBlock])
  · rcases h'.2 with ⟨rfl, _⟩ | ⟨g', cap', cur', rfl, _, hg', _⟩
    · exact .inl rfl
    · refine .inr fun e1 => hne ?_
      simp only [Value.ownBlock, Option.some.injEq] at e1
      subst e1
      rw [hg] at hg'
      simp only [Option.some.injEq, Obj.cells.injEq] at hg'
      exact hg'.2.1
theorem owns_loE {w : World} {lo lo' : Nat} {e : TypeId} {sz n : Nat} {v : Value} {xs : List Value} (h : lo' ≤ lo) (hg : w.ownsRow lo e sz v n xs) : w.ownsRow lo' e sz v n xs := owns_lo h hg
theorem needsV_one (xs : List NeedD) : ∀ u ∈ needsV xs, u.oneCell' = true := fun u hu => by
  simp only [needsV, List.mem_flatMap] at hu
  obtain ⟨d, _, hd⟩ := hu
  simp at hd
  rcases hd with rfl | rfl <;> rfl
theorem laid_needs {S : Nat → Prop} {w : World} {ys : List Value} {xs : List NeedD} (h : Laid shNeed S w ys xs xs.length) (hl : ys.length = xs.length * 2) : ys = needsV xs := by
  apply List.ext_getElem?
  intro j
  by_cases hj : j < xs.length * 2
  · have hi : j / 2 < xs.length := by omega
    obtain ⟨cs, h1, ⟨rfl, _, _⟩, h3⟩ := h (j / 2) hi hi
    obtain ⟨n1, n2⟩ := needsV_at xs (j / 2) hi
    have e0 : ys[j / 2 * 2 + 0]? = some (Value.string xs[j / 2].n) := h3 0 (by simp)
    have e1 : ys[j / 2 * 2 + 1]? = some (Value.string xs[j / 2].r) := h3 1 (by simp)
    rcases (by omega : j % 2 = 0 ∨ j % 2 = 1) with hm | hm
    · have ej : j = j / 2 * 2 := by omega
      rw [ej, n1]; simpa using e0
    · have ej : j = j / 2 * 2 + 1 := by omega
      rw [ej, n2]; simpa using e1
  · rw [List.getElem?_eq_none (by omega), List.getElem?_eq_none (by rw [needsV_length]; omega)]

set_option maxHeartbeats 8000000 in
set_option maxRecDepth 100000 in
theorem l8Copy_c (S : Nat → Prop) (d : EntryD) (cs : List Value) (w : World) (hd : shEntryO.lies S w cs d) (hB : ∀ b, S b → b < w.heap.size) (hw : wtEntry d ≤ 1048576) :
    Calls Try.prog 12 #[.agg cs.toArray] w fun e w' => ∃ cs', e = .returned (.agg cs'.toArray) ∧ shEntryO.lies (Ow w.heap.size w'.heap.size) w' cs' d ∧ Below w.heap.size w w' := by
  obtain ⟨u0, u1, rfl, s_n, r0, p0, r1⟩ := hd
  obtain ⟨i0, hi, hz0, hz1, hz2⟩ := info_parts infoNeed
  have hb2 : ∀ A R, Below w.heap.size w ((w.alloc A).alloc R) := fun A R => ((Below.refl _ _).alloc (Nat.le_refl _) _).alloc (by simp) _
  have hnw : wtRow wtNeed d.needs ≤ 1048576 := by unfold wtEntry at hw; omega
  have hnn := len_wtRow wtNeed d.needs
  have hbk : bulkS d.vP ≤ 1048576 := by unfold wtEntry at hw; omega
  have hpl : d.vP.length ≤ 1048576 := by unfold bulkS at hbk; omega
  have hns2 : ∀ x ∈ d.needs, x.n.size ≤ maxLen ∧ x.r.size ≤ maxLen := fun x hx => by
    have h1 : x.n.size + x.r.size ≤ wtRow wtNeed d.needs := wt_wtRow wtNeed hx
    unfold maxLen; omega
  obtain ⟨hnl, ysN, oN, hSg, hLd⟩ := r1
  have hyN := laid_needs hLd oN.1
  subst hyN
  have HV' : ∀ w1, Below w.heap.size w w1 → Calls Try.prog 27 #[.agg #[.int .i64 d.vA, .int .i64 d.vB, .int .i64 d.vC, u0]] w1 fun e w' => ∃ u', e = .returned (.agg #[.int .i64 d.vA, .int .i64 d.vB, .int .i64 d.vC, u']) ∧ w'.ownsRow w1.heap.size 9 1 u' d.vP.length (strsV d.vP) ∧ Below w1.heap.size w1 w' := fun w1 h => copy_c _ _ _ u0 d.vP 0 w1 (r0.keep (.of h hB)).1 hpl
  obtain ⟨a0, cap0, eu0⟩ := r0.slice
  subst eu0
  clear r0 hLd
  rcases id oN.2 with ⟨rfl, hnil0⟩ | ⟨gN, cap1, cur, rfl, _, hgN, _⟩
  · have hnil : d.needs = [] := List.eq_nil_of_length_eq_zero hnil0
    obtain ⟨hAz, hRz⟩ := two_boxes (w := w) (.cells #[.string d.name, .int .i64 d.vA, .int .i64 d.vB, .int .i64 d.vC, .slice a0 d.vP.length cap0, .slice none 0 0] 40 (0, 0)) (.cells #[.string ⟨#[]⟩, .int .i64 0, .int .i64 0, .int .i64 0, .slice none 0 0, .slice none 0 0] 40 (0, 0))
    have hwz := hb2 (.cells #[.string d.name, .int .i64 d.vA, .int .i64 d.vB, .int .i64 d.vC, .slice a0 d.vP.length cap0, .slice none 0 0] 40 (0, 0)) (.cells #[.string ⟨#[]⟩, .int .i64 0, .int .i64 0, .int .i64 0, .slice none 0 0, .slice none 0 0] 40 (0, 0))
    have hsz : ((w.alloc (.cells #[.string d.name, .int .i64 d.vA, .int .i64 d.vB, .int .i64 d.vC, .slice a0 d.vP.length cap0, .slice none 0 0] 40 (0, 0))).alloc (.cells #[.string ⟨#[]⟩, .int .i64 0, .int .i64 0, .int .i64 0, .slice none 0 0, .slice none 0 0] 40 (0, 0))).heap.size = w.heap.size + 2 := by simp
    go_enter Try.func12, Try.ntmps12
    go_wp2_with fail
    obtain ⟨wz, hW⟩ : ∃ wz, wz = (w.alloc (.cells #[.string d.name, .int .i64 d.vA, .int .i64 d.vB, .int .i64 d.vC, .slice a0 d.vP.length cap0, .slice none 0 0] 40 (0, 0))).alloc (.cells #[.string ⟨#[]⟩, .int .i64 0, .int .i64 0, .int .i64 0, .slice none 0 0, .slice none 0 0] 40 (0, 0)) := ⟨_, rfl⟩
    rw [← hW] at hAz hRz hwz hsz
    rw [← hW]
    clear hW
    have HV : Hid (∀ w1, Below wz.heap.size wz w1 → Calls Try.prog 27 #[.agg #[.int .i64 d.vA, .int .i64 d.vB, .int .i64 d.vC, .slice a0 d.vP.length cap0]] w1 fun e w' => ∃ u', e = .returned (.agg #[.int .i64 d.vA, .int .i64 d.vB, .int .i64 d.vC, u']) ∧ w'.ownsRow w1.heap.size 9 1 u' d.vP.length (strsV d.vP) ∧ Below w1.heap.size w1 w') := fun w1 h => HV' w1 (hwz.trans (h.mono (by omega)))
    have h0 : Below wz.heap.size wz wz.drew := (Below.refl _ _).drew
    have KEEP : Hid (∀ w1, Below wz.heap.size wz w1 → w1.cell? ⟨w.heap.size, 0, none⟩ = some (.string d.name) ∧ w1.cell? ⟨w.heap.size, 1, none⟩ = some (.int .i64 d.vA) ∧ w1.cell? ⟨w.heap.size, 2, none⟩ = some (.int .i64 d.vB) ∧ w1.cell? ⟨w.heap.size, 3, none⟩ = some (.int .i64 d.vC) ∧ w1.cell? ⟨w.heap.size, 4, none⟩ = some (.slice a0 d.vP.length cap0) ∧ w1.cell? ⟨w.heap.size, 5, none⟩ = some (.slice none 0 0)) := fun w1 h => by
      have hA := (h.block w.heap.size (by omega)).trans hAz
      exact ⟨vblk_cell hA 0, vblk_cell hA 1, vblk_cell hA 2, vblk_cell hA 3, vblk_cell hA 4, vblk_cell hA 5⟩
    clear HV'
    refine wp_region_held_drew (S := (fun w1 => w1.cell? ⟨w.heap.size, 0, none⟩ = some (.string d.name) ∧ w1.cell? ⟨w.heap.size, 1, none⟩ = some (.int .i64 d.vA) ∧ w1.cell? ⟨w.heap.size, 2, none⟩ = some (.int .i64 d.vB) ∧ w1.cell? ⟨w.heap.size, 3, none⟩ = some (.int .i64 d.vC) ∧ w1.cell? ⟨w.heap.size, 4, none⟩ = some (.slice a0 d.vP.length cap0) ∧ w1.cell? ⟨w.heap.size, 5, none⟩ = some (.slice none 0 0))) (by kernel_rfl) ?S1 (fun hHeld => ?_)
    case S1 => (exact KEEP.out _ h0)
    refine wpAnyH_take (i := 0) (oi := _) (v := ?vT2) rfl (by kernel_rfl) (by kernel_rfl) (by kernel_rfl) (fun _ _ _ h => h) (Or.inl ⟨by rfl, ?yT2⟩) hHeld ?_
    case yT2 => (intro w hSw; (try dsimp only at hSw); go_simp <;> with_reducible rfl)
    try simp only [Act.put, List.getElem_toArray, List.getElem_cons_zero, List.getElem_cons_succ, List.setIfInBounds_toArray, List.set_cons_zero, List.set_cons_succ]
    refine wpAnyH_take (i := 1) (oi := _) (v := ?vT3) rfl (by kernel_rfl) (by kernel_rfl) (by kernel_rfl) (fun _ _ _ h => h) (Or.inl ⟨by rfl, ?yT3⟩) hHeld ?_
    case yT3 => (intro w hSw; (try dsimp only at hSw); go_simp <;> with_reducible rfl)
    try simp only [Act.put, List.getElem_toArray, List.getElem_cons_zero, List.getElem_cons_succ, List.setIfInBounds_toArray, List.set_cons_zero, List.set_cons_succ]
    refine wpAnyH_take (i := 2) (oi := _) (v := ?vT4) rfl (by kernel_rfl) (by kernel_rfl) (by kernel_rfl) (fun _ _ _ h => h) (Or.inl ⟨by rfl, ?yT4⟩) hHeld ?_
    case yT4 => (intro w hSw; (try dsimp only at hSw); go_simp <;> with_reducible rfl)
    try simp only [Act.put, List.getElem_toArray, List.getElem_cons_zero, List.getElem_cons_succ, List.setIfInBounds_toArray, List.set_cons_zero, List.set_cons_succ]
    refine wpAnyH_take (i := 3) (oi := _) (v := ?vT5) rfl (by kernel_rfl) (by kernel_rfl) (by kernel_rfl) (fun _ _ _ h => h) (Or.inl ⟨by rfl, ?yT5⟩) hHeld ?_
    case yT5 => (intro w hSw; (try dsimp only at hSw); go_simp <;> with_reducible rfl)
    try simp only [Act.put, List.getElem_toArray, List.getElem_cons_zero, List.getElem_cons_succ, List.setIfInBounds_toArray, List.set_cons_zero, List.set_cons_succ]
    refine wpAnyH_take (i := 6) (oi := _) (v := ?vT6) rfl (by kernel_rfl) (by kernel_rfl) (by kernel_rfl) (fun _ _ _ h => h) (Or.inl ⟨by rfl, ?yT6⟩) hHeld ?_
    case yT6 => (intro w hSw; (try dsimp only at hSw); go_simp <;> with_reducible rfl)
    try simp only [Act.put, List.getElem_toArray, List.getElem_cons_zero, List.getElem_cons_succ, List.setIfInBounds_toArray, List.set_cons_zero, List.set_cons_succ]
    refine wpAnyH_take (i := 7) (oi := _) (v := ?vT7) rfl (by kernel_rfl) (by kernel_rfl) (by kernel_rfl) (fun _ _ _ h => h) (Or.inl ⟨by rfl, ?yT7⟩) hHeld ?_
    case yT7 => (intro w hSw; (try dsimp only at hSw); go_simp <;> with_reducible rfl)
    try simp only [Act.put, List.getElem_toArray, List.getElem_cons_zero, List.getElem_cons_succ, List.setIfInBounds_toArray, List.set_cons_zero, List.set_cons_succ]
    obtain ⟨wd, hwd⟩ : ∃ wd, wd = wz.drew := ⟨_, rfl⟩
    rw [← hwd] at h0
    rw [← hwd]
    clear hwd
    refine wpAnyH_ready (rs := [4, 5]) (by kernel_rfl) (by simp) ?_
    refine AllReadyH.cons rfl (fun K hK => ?_) (AllReadyH.cons rfl (fun K hK => ?_) AllReadyH.nil)
    · go_simp
      go_wp2_with (go_at_call 27; refine (HV.out _ (h0)).mono ?_; rintro e wv1 ⟨c0, rfl, hv, bv1⟩; obtain ⟨qv, cv, ev⟩ := owns_sliceP hv; subst ev)
      have hv1 : Below wz.heap.size wz wv1 := (h0).trans (bv1.mono (h0).size)
      replace hv := owns_loE (h0).size hv
      clear hHeld
      refine hK.out _ _ ?G8 (fun hHeld => ?_)
      case G8 => ((try dsimp only); exact KEEP.out _ hv1)
      clear hK K
      try simp only [Act.put, List.getElem_toArray, List.getElem_cons_zero, List.getElem_cons_succ, List.setIfInBounds_toArray, List.set_cons_zero, List.set_cons_succ]
      refine wpAnyH_ready (rs := [5]) (by kernel_rfl) (by simp) ?_
      refine AllReadyH.cons rfl (fun K hK => ?_) AllReadyH.nil
      go_simp
      have kz2 : Below (wv1).heap.size (wv1) ((wv1).alloc (.cells #[] 67)) := (Below.refl _ _).alloc (Nat.le_refl _) _
      have hl2 : Below wz.heap.size wz ((wv1).alloc (.cells #[] 67)) := (hv1).trans (kz2.mono (hv1).size)
      have hg : ((wv1).alloc (.cells #[] 67)).ownsRow wz.heap.size 67 2 (.slice (some ⟨(wv1).heap.size, 0, none⟩) 0 0) 0 [] := World.ownsRow_lit (wv1) #[] 0 (hv1).size (by unfold maxLen; omega) rfl
      have hv := owns_of_belowN hv kz2
      clear hHeld
      refine hK.out _ ((wv1).alloc (.cells #[] 67)) ?G92 (fun hHeld => ?_)
      case G92 => (exact KEEP.out _ hl2)
      clear hK K
      try simp only [Act.put, List.getElem_toArray, List.getElem_cons_zero, List.getElem_cons_succ, List.setIfInBounds_toArray, List.set_cons_zero, List.set_cons_succ]
      obtain ⟨gL, hge⟩ : ∃ g, g = (wv1).heap.size := ⟨_, rfl⟩
      rw [← hge] at hg
      try rw [← hge]
      obtain ⟨wl2, hwl⟩ : ∃ wl, wl = (wv1).alloc (.cells #[] 67) := ⟨_, rfl⟩
      rw [← hwl] at hg hl2 hv
      try rw [← hwl]
      clear hge hwl kz2
      refine wpAnyH_ready (rs := [8]) (by kernel_rfl) (by simp) ?_
      refine AllReadyH.cons rfl (fun K hK => ?_) AllReadyH.nil
      rw [if_pos (by rfl)]
      refine wp_append_nilE _ _ 38 rfl wz.heap.size 67 i0 2 Try.underlying38 hi (.slice (some ⟨gL, 0, none⟩) 0 0) 0 [] rfl hg rfl ?_
      obtain ⟨qn, hqn⟩ : ∃ q : Option Addr, q = some ⟨gL, 0, none⟩ := ⟨_, rfl⟩
      have o8 : (wl2).ownsRow wz.heap.size 67 2 (.slice qn 0 0) d.needs.length (needsV d.needs) := by rw [hnil, hqn]; exact hg
      have ov8 := hv
      have h8 := hl2
      try rw [← hqn]
      clear hqn
      clear hHeld
      refine hK.out _ _ ?G9 (fun hHeld => ?_)
      case G9 => ((try dsimp only); exact KEEP.out _ h8)
      clear hK K
      try simp only [Act.put, List.getElem_toArray, List.getElem_cons_zero, List.getElem_cons_succ, List.setIfInBounds_toArray, List.set_cons_zero, List.set_cons_succ]
      refine wpAnyH_take (i := 9) (oi := _) (v := ?vT10) rfl (by kernel_rfl) (by kernel_rfl) (by kernel_rfl) (fun _ _ _ h => h) (Or.inl ⟨by rfl, ?yT10⟩) hHeld ?_
      case yT10 => (intro w hSw; (try dsimp only at hSw); go_simp <;> with_reducible rfl)
      try simp only [Act.put, List.getElem_toArray, List.getElem_cons_zero, List.getElem_cons_succ, List.setIfInBounds_toArray, List.set_cons_zero, List.set_cons_succ]
      have hR3 := (h8.block (w.heap.size + 1) (by omega)).trans hRz
      have fy := vblk_frozen hR3
      have y0 := vblk_cell hR3 0
      have y1 := vblk_cell hR3 1
      have y2 := vblk_cell hR3 2
      have y3 := vblk_cell hR3 3
      have y4 := vblk_cell hR3 4
      have y5 := vblk_cell hR3 5
      simp only [List.getElem?_toArray, List.getElem?_cons_succ, List.getElem?_cons_zero] at y0 y1 y2 y3 y4 y5
      refine wpAnyH_ready (rs := [10]) (by kernel_rfl) (by simp) ?_
      refine AllReadyH.cons rfl (fun K hK => ?_) AllReadyH.nil
      go_simp
      clear hHeld
      refine hK.out _ _ ?U11 (fun hHeld => ?_)
      case U11 => (have hA3 := (h8.block w.heap.size (by omega)).trans hAz; exact ⟨vblk_cell (cells_put (cells_put (cells_put (cells_put (cells_put (cells_put hA3 (by omega) _ _) (by omega) _ _) (by omega) _ _) (by omega) _ _) (by omega) _ _) (by omega) _ _) 0, vblk_cell (cells_put (cells_put (cells_put (cells_put (cells_put (cells_put hA3 (by omega) _ _) (by omega) _ _) (by omega) _ _) (by omega) _ _) (by omega) _ _) (by omega) _ _) 1, vblk_cell (cells_put (cells_put (cells_put (cells_put (cells_put (cells_put hA3 (by omega) _ _) (by omega) _ _) (by omega) _ _) (by omega) _ _) (by omega) _ _) (by omega) _ _) 2, vblk_cell (cells_put (cells_put (cells_put (cells_put (cells_put (cells_put hA3 (by omega) _ _) (by omega) _ _) (by omega) _ _) (by omega) _ _) (by omega) _ _) (by omega) _ _) 3, vblk_cell (cells_put (cells_put (cells_put (cells_put (cells_put (cells_put hA3 (by omega) _ _) (by omega) _ _) (by omega) _ _) (by omega) _ _) (by omega) _ _) (by omega) _ _) 4, vblk_cell (cells_put (cells_put (cells_put (cells_put (cells_put (cells_put hA3 (by omega) _ _) (by omega) _ _) (by omega) _ _) (by omega) _ _) (by omega) _ _) (by omega) _ _) 5⟩)
      clear hK K
      try simp only [Act.put, List.getElem_toArray, List.getElem_cons_zero, List.getElem_cons_succ, List.setIfInBounds_toArray, List.set_cons_zero, List.set_cons_succ]
      refine wpAnyH_done (by kernel_rfl) ?_ _
      clear hHeld
      have HO : Hid (∀ W : World, W.heap.size = (wl2).heap.size → Kp (fun b => b ≠ w.heap.size + 1) (wl2) W → shEntryO.lies (Ow w.heap.size W.heap.size) W [.string d.name, .int .i64 d.vA, .int .i64 d.vB, .int .i64 d.vC, .slice qv d.vP.length cv, .slice qn 0 0] d) := fun W hWs hk => by
        have i2 := owns_in ov8
        have i3 := owns_in o8
        refine ⟨_, _, rfl, s_n, ⟨owns_kept hk (fun g hg => by have := (i2 g hg).1; show g ≠ _; omega) (owns_lo (Nat.zero_le _) ov8), fun g hg => ?_⟩, p0, ?_⟩
        · have h9 := i2 g hg
          exact ⟨by have := h9.1; omega, by have := h9.2; omega⟩
        · have hK2 : Kp (Ow wz.heap.size (wl2).heap.size) (wl2) W := fun b hb => hk b (by have := hb.1; show b ≠ _; omega)
          have hN0 := (needs_own o8 hnl hns2).keep hK2
          exact hN0.mono (Ow.mono (by omega) (by omega))
      go_wp2_with fail
      refine bodyPost_ret (v := .agg #[.string d.name, .int .i64 d.vA, .int .i64 d.vB, .int .i64 d.vC, .slice qv d.vP.length cv, .slice qn 0 0]) (by simp [results, Try.results12, go_sem, y0, y1, y2, y3, y4, y5]) rfl ⟨[.string d.name, .int .i64 d.vA, .int .i64 d.vB, .int .i64 d.vC, .slice qv d.vP.length cv, .slice qn 0 0], rfl, HO.out _ (by simp [World.setCell]) ?_, ?_⟩
      · (repeat (refine Kp.trans ?_ (Kp.set (by simp))))
        exact fun b hb => rfl
      · (repeat (refine Below.setCell ?_ (by simp) _))
        exact hwz.trans (h8.mono (by omega))
    · go_simp
      have kz3 : Below (wd).heap.size (wd) ((wd).alloc (.cells #[] 67)) := (Below.refl _ _).alloc (Nat.le_refl _) _
      have hl3 : Below wz.heap.size wz ((wd).alloc (.cells #[] 67)) := (h0).trans (kz3.mono (h0).size)
      have hg : ((wd).alloc (.cells #[] 67)).ownsRow wz.heap.size 67 2 (.slice (some ⟨(wd).heap.size, 0, none⟩) 0 0) 0 [] := World.ownsRow_lit (wd) #[] 0 (h0).size (by unfold maxLen; omega) rfl
      clear hHeld
      refine hK.out _ ((wd).alloc (.cells #[] 67)) ?G93 (fun hHeld => ?_)
      case G93 => (exact KEEP.out _ hl3)
      clear hK K
      try simp only [Act.put, List.getElem_toArray, List.getElem_cons_zero, List.getElem_cons_succ, List.setIfInBounds_toArray, List.set_cons_zero, List.set_cons_succ]
      obtain ⟨gL, hge⟩ : ∃ g, g = (wd).heap.size := ⟨_, rfl⟩
      rw [← hge] at hg
      try rw [← hge]
      obtain ⟨wl3, hwl⟩ : ∃ wl, wl = (wd).alloc (.cells #[] 67) := ⟨_, rfl⟩
      rw [← hwl] at hg hl3
      try rw [← hwl]
      clear hge hwl kz3
      refine wpAnyH_ready (rs := [4]) (by kernel_rfl) (by simp) ?_
      refine AllReadyH.cons rfl (fun K hK => ?_) AllReadyH.nil
      go_simp
      go_wp2_with (go_at_call 27; refine (HV.out _ (hl3)).mono ?_; rintro e wv4 ⟨c0, rfl, hv, bv4⟩; obtain ⟨qv, cv, ev⟩ := owns_sliceP hv; subst ev)
      have hv4 : Below wz.heap.size wz wv4 := (hl3).trans (bv4.mono (hl3).size)
      replace hv := owns_loE (hl3).size hv
      have hg := owns_of_belowN hg bv4
      clear hHeld
      refine hK.out _ _ ?G12 (fun hHeld => ?_)
      case G12 => ((try dsimp only); exact KEEP.out _ hv4)
      clear hK K
      try simp only [Act.put, List.getElem_toArray, List.getElem_cons_zero, List.getElem_cons_succ, List.setIfInBounds_toArray, List.set_cons_zero, List.set_cons_succ]
      refine wpAnyH_ready (rs := [8]) (by kernel_rfl) (by simp) ?_
      refine AllReadyH.cons rfl (fun K hK => ?_) AllReadyH.nil
      rw [if_pos (by rfl)]
      refine wp_append_nilE _ _ 38 rfl wz.heap.size 67 i0 2 Try.underlying38 hi (.slice (some ⟨gL, 0, none⟩) 0 0) 0 [] rfl hg rfl ?_
      obtain ⟨qn, hqn⟩ : ∃ q : Option Addr, q = some ⟨gL, 0, none⟩ := ⟨_, rfl⟩
      have o8 : (wv4).ownsRow wz.heap.size 67 2 (.slice qn 0 0) d.needs.length (needsV d.needs) := by rw [hnil, hqn]; exact hg
      have ov8 := hv
      have h8 := hv4
      try rw [← hqn]
      clear hqn
      clear hHeld
      refine hK.out _ _ ?G13 (fun hHeld => ?_)
      case G13 => ((try dsimp only); exact KEEP.out _ h8)
      clear hK K
      try simp only [Act.put, List.getElem_toArray, List.getElem_cons_zero, List.getElem_cons_succ, List.setIfInBounds_toArray, List.set_cons_zero, List.set_cons_succ]
      refine wpAnyH_take (i := 9) (oi := _) (v := ?vT14) rfl (by kernel_rfl) (by kernel_rfl) (by kernel_rfl) (fun _ _ _ h => h) (Or.inl ⟨by rfl, ?yT14⟩) hHeld ?_
      case yT14 => (intro w hSw; (try dsimp only at hSw); go_simp <;> with_reducible rfl)
      try simp only [Act.put, List.getElem_toArray, List.getElem_cons_zero, List.getElem_cons_succ, List.setIfInBounds_toArray, List.set_cons_zero, List.set_cons_succ]
      have hR3 := (h8.block (w.heap.size + 1) (by omega)).trans hRz
      have fy := vblk_frozen hR3
      have y0 := vblk_cell hR3 0
      have y1 := vblk_cell hR3 1
      have y2 := vblk_cell hR3 2
      have y3 := vblk_cell hR3 3
      have y4 := vblk_cell hR3 4
      have y5 := vblk_cell hR3 5
      simp only [List.getElem?_toArray, List.getElem?_cons_succ, List.getElem?_cons_zero] at y0 y1 y2 y3 y4 y5
      refine wpAnyH_ready (rs := [10]) (by kernel_rfl) (by simp) ?_
      refine AllReadyH.cons rfl (fun K hK => ?_) AllReadyH.nil
      go_simp
      clear hHeld
      refine hK.out _ _ ?U15 (fun hHeld => ?_)
      case U15 => (have hA3 := (h8.block w.heap.size (by omega)).trans hAz; exact ⟨vblk_cell (cells_put (cells_put (cells_put (cells_put (cells_put (cells_put hA3 (by omega) _ _) (by omega) _ _) (by omega) _ _) (by omega) _ _) (by omega) _ _) (by omega) _ _) 0, vblk_cell (cells_put (cells_put (cells_put (cells_put (cells_put (cells_put hA3 (by omega) _ _) (by omega) _ _) (by omega) _ _) (by omega) _ _) (by omega) _ _) (by omega) _ _) 1, vblk_cell (cells_put (cells_put (cells_put (cells_put (cells_put (cells_put hA3 (by omega) _ _) (by omega) _ _) (by omega) _ _) (by omega) _ _) (by omega) _ _) (by omega) _ _) 2, vblk_cell (cells_put (cells_put (cells_put (cells_put (cells_put (cells_put hA3 (by omega) _ _) (by omega) _ _) (by omega) _ _) (by omega) _ _) (by omega) _ _) (by omega) _ _) 3, vblk_cell (cells_put (cells_put (cells_put (cells_put (cells_put (cells_put hA3 (by omega) _ _) (by omega) _ _) (by omega) _ _) (by omega) _ _) (by omega) _ _) (by omega) _ _) 4, vblk_cell (cells_put (cells_put (cells_put (cells_put (cells_put (cells_put hA3 (by omega) _ _) (by omega) _ _) (by omega) _ _) (by omega) _ _) (by omega) _ _) (by omega) _ _) 5⟩)
      clear hK K
      try simp only [Act.put, List.getElem_toArray, List.getElem_cons_zero, List.getElem_cons_succ, List.setIfInBounds_toArray, List.set_cons_zero, List.set_cons_succ]
      refine wpAnyH_done (by kernel_rfl) ?_ _
      clear hHeld
      have HO : Hid (∀ W : World, W.heap.size = (wv4).heap.size → Kp (fun b => b ≠ w.heap.size + 1) (wv4) W → shEntryO.lies (Ow w.heap.size W.heap.size) W [.string d.name, .int .i64 d.vA, .int .i64 d.vB, .int .i64 d.vC, .slice qv d.vP.length cv, .slice qn 0 0] d) := fun W hWs hk => by
        have i2 := owns_in ov8
        have i3 := owns_in o8
        refine ⟨_, _, rfl, s_n, ⟨owns_kept hk (fun g hg => by have := (i2 g hg).1; show g ≠ _; omega) (owns_lo (Nat.zero_le _) ov8), fun g hg => ?_⟩, p0, ?_⟩
        · have h9 := i2 g hg
          exact ⟨by have := h9.1; omega, by have := h9.2; omega⟩
        · have hK2 : Kp (Ow wz.heap.size (wv4).heap.size) (wv4) W := fun b hb => hk b (by have := hb.1; show b ≠ _; omega)
          have hN0 := (needs_own o8 hnl hns2).keep hK2
          exact hN0.mono (Ow.mono (by omega) (by omega))
      go_wp2_with fail
      refine bodyPost_ret (v := .agg #[.string d.name, .int .i64 d.vA, .int .i64 d.vB, .int .i64 d.vC, .slice qv d.vP.length cv, .slice qn 0 0]) (by simp [results, Try.results12, go_sem, y0, y1, y2, y3, y4, y5]) rfl ⟨[.string d.name, .int .i64 d.vA, .int .i64 d.vB, .int .i64 d.vC, .slice qv d.vP.length cv, .slice qn 0 0], rfl, HO.out _ (by simp [World.setCell]) ?_, ?_⟩
      · (repeat (refine Kp.trans ?_ (Kp.set (by simp))))
        exact fun b hb => rfl
      · (repeat (refine Below.setCell ?_ (by simp) _))
        exact hwz.trans (h8.mono (by omega))
  · clear hgN
    obtain ⟨hAz, hRz⟩ := two_boxes (w := w) (.cells #[.string d.name, .int .i64 d.vA, .int .i64 d.vB, .int .i64 d.vC, .slice a0 d.vP.length cap0, .slice (some ⟨gN, 0, none⟩) d.needs.length cap1] 40 (0, 0)) (.cells #[.string ⟨#[]⟩, .int .i64 0, .int .i64 0, .int .i64 0, .slice none 0 0, .slice none 0 0] 40 (0, 0))
    have hwz := hb2 (.cells #[.string d.name, .int .i64 d.vA, .int .i64 d.vB, .int .i64 d.vC, .slice a0 d.vP.length cap0, .slice (some ⟨gN, 0, none⟩) d.needs.length cap1] 40 (0, 0)) (.cells #[.string ⟨#[]⟩, .int .i64 0, .int .i64 0, .int .i64 0, .slice none 0 0, .slice none 0 0] 40 (0, 0))
    have hsz : ((w.alloc (.cells #[.string d.name, .int .i64 d.vA, .int .i64 d.vB, .int .i64 d.vC, .slice a0 d.vP.length cap0, .slice (some ⟨gN, 0, none⟩) d.needs.length cap1] 40 (0, 0))).alloc (.cells #[.string ⟨#[]⟩, .int .i64 0, .int .i64 0, .int .i64 0, .slice none 0 0, .slice none 0 0] 40 (0, 0))).heap.size = w.heap.size + 2 := by simp
    go_enter Try.func12, Try.ntmps12
    go_wp2_with fail
    obtain ⟨wz, hW⟩ : ∃ wz, wz = (w.alloc (.cells #[.string d.name, .int .i64 d.vA, .int .i64 d.vB, .int .i64 d.vC, .slice a0 d.vP.length cap0, .slice (some ⟨gN, 0, none⟩) d.needs.length cap1] 40 (0, 0))).alloc (.cells #[.string ⟨#[]⟩, .int .i64 0, .int .i64 0, .int .i64 0, .slice none 0 0, .slice none 0 0] 40 (0, 0)) := ⟨_, rfl⟩
    rw [← hW] at hAz hRz hwz hsz
    rw [← hW]
    clear hW
    have HV : Hid (∀ w1, Below wz.heap.size wz w1 → Calls Try.prog 27 #[.agg #[.int .i64 d.vA, .int .i64 d.vB, .int .i64 d.vC, .slice a0 d.vP.length cap0]] w1 fun e w' => ∃ u', e = .returned (.agg #[.int .i64 d.vA, .int .i64 d.vB, .int .i64 d.vC, u']) ∧ w'.ownsRow w1.heap.size 9 1 u' d.vP.length (strsV d.vP) ∧ Below w1.heap.size w1 w') := fun w1 h => HV' w1 (hwz.trans (h.mono (by omega)))
    have h0 : Below wz.heap.size wz wz.drew := (Below.refl _ _).drew
    have KEEP : Hid (∀ w1, Below wz.heap.size wz w1 → w1.cell? ⟨w.heap.size, 0, none⟩ = some (.string d.name) ∧ w1.cell? ⟨w.heap.size, 1, none⟩ = some (.int .i64 d.vA) ∧ w1.cell? ⟨w.heap.size, 2, none⟩ = some (.int .i64 d.vB) ∧ w1.cell? ⟨w.heap.size, 3, none⟩ = some (.int .i64 d.vC) ∧ w1.cell? ⟨w.heap.size, 4, none⟩ = some (.slice a0 d.vP.length cap0) ∧ w1.cell? ⟨w.heap.size, 5, none⟩ = some (.slice (some ⟨gN, 0, none⟩) d.needs.length cap1)) := fun w1 h => by
      have hA := (h.block w.heap.size (by omega)).trans hAz
      exact ⟨vblk_cell hA 0, vblk_cell hA 1, vblk_cell hA 2, vblk_cell hA 3, vblk_cell hA 4, vblk_cell hA 5⟩
    have SRC : Hid (∀ w1, Below wz.heap.size wz w1 → ∀ j u, (needsV d.needs)[j]? = some u → w1.cell? ((⟨gN, 0, none⟩ : Addr).add j) = some u) := fun w1 h j u hu => by
      have hj : j < d.needs.length * 2 := by have := (List.getElem?_eq_some_iff.1 hu).1; rw [needsV_length] at this; exact this
      have e : ((⟨gN, 0, none⟩ : Addr).add j) = ⟨gN, j, none⟩ := by unfold Addr.add; split <;> simp_all
      have hgw : gN < w.heap.size := hB _ (hSg gN rfl)
      have hk := hwz.trans (h.mono (by omega))
      rw [e, hk.cell (p := ⟨gN, j, none⟩) hgw, oN.cellAt j hj, hu]
    clear HV'
    refine wp_region_held_drew (S := (fun w1 => w1.cell? ⟨w.heap.size, 0, none⟩ = some (.string d.name) ∧ w1.cell? ⟨w.heap.size, 1, none⟩ = some (.int .i64 d.vA) ∧ w1.cell? ⟨w.heap.size, 2, none⟩ = some (.int .i64 d.vB) ∧ w1.cell? ⟨w.heap.size, 3, none⟩ = some (.int .i64 d.vC) ∧ w1.cell? ⟨w.heap.size, 4, none⟩ = some (.slice a0 d.vP.length cap0) ∧ w1.cell? ⟨w.heap.size, 5, none⟩ = some (.slice (some ⟨gN, 0, none⟩) d.needs.length cap1))) (by kernel_rfl) ?S16 (fun hHeld => ?_)
    case S16 => (exact KEEP.out _ h0)
    refine wpAnyH_take (i := 0) (oi := _) (v := ?vT17) rfl (by kernel_rfl) (by kernel_rfl) (by kernel_rfl) (fun _ _ _ h => h) (Or.inl ⟨by rfl, ?yT17⟩) hHeld ?_
    case yT17 => (intro w hSw; (try dsimp only at hSw); go_simp <;> with_reducible rfl)
    try simp only [Act.put, List.getElem_toArray, List.getElem_cons_zero, List.getElem_cons_succ, List.setIfInBounds_toArray, List.set_cons_zero, List.set_cons_succ]
    refine wpAnyH_take (i := 1) (oi := _) (v := ?vT18) rfl (by kernel_rfl) (by kernel_rfl) (by kernel_rfl) (fun _ _ _ h => h) (Or.inl ⟨by rfl, ?yT18⟩) hHeld ?_
    case yT18 => (intro w hSw; (try dsimp only at hSw); go_simp <;> with_reducible rfl)
    try simp only [Act.put, List.getElem_toArray, List.getElem_cons_zero, List.getElem_cons_succ, List.setIfInBounds_toArray, List.set_cons_zero, List.set_cons_succ]
    refine wpAnyH_take (i := 2) (oi := _) (v := ?vT19) rfl (by kernel_rfl) (by kernel_rfl) (by kernel_rfl) (fun _ _ _ h => h) (Or.inl ⟨by rfl, ?yT19⟩) hHeld ?_
    case yT19 => (intro w hSw; (try dsimp only at hSw); go_simp <;> with_reducible rfl)
    try simp only [Act.put, List.getElem_toArray, List.getElem_cons_zero, List.getElem_cons_succ, List.setIfInBounds_toArray, List.set_cons_zero, List.set_cons_succ]
    refine wpAnyH_take (i := 3) (oi := _) (v := ?vT20) rfl (by kernel_rfl) (by kernel_rfl) (by kernel_rfl) (fun _ _ _ h => h) (Or.inl ⟨by rfl, ?yT20⟩) hHeld ?_
    case yT20 => (intro w hSw; (try dsimp only at hSw); go_simp <;> with_reducible rfl)
    try simp only [Act.put, List.getElem_toArray, List.getElem_cons_zero, List.getElem_cons_succ, List.setIfInBounds_toArray, List.set_cons_zero, List.set_cons_succ]
    refine wpAnyH_take (i := 6) (oi := _) (v := ?vT21) rfl (by kernel_rfl) (by kernel_rfl) (by kernel_rfl) (fun _ _ _ h => h) (Or.inl ⟨by rfl, ?yT21⟩) hHeld ?_
    case yT21 => (intro w hSw; (try dsimp only at hSw); go_simp <;> with_reducible rfl)
    try simp only [Act.put, List.getElem_toArray, List.getElem_cons_zero, List.getElem_cons_succ, List.setIfInBounds_toArray, List.set_cons_zero, List.set_cons_succ]
    refine wpAnyH_take (i := 7) (oi := _) (v := ?vT22) rfl (by kernel_rfl) (by kernel_rfl) (by kernel_rfl) (fun _ _ _ h => h) (Or.inl ⟨by rfl, ?yT22⟩) hHeld ?_
    case yT22 => (intro w hSw; (try dsimp only at hSw); go_simp <;> with_reducible rfl)
    try simp only [Act.put, List.getElem_toArray, List.getElem_cons_zero, List.getElem_cons_succ, List.setIfInBounds_toArray, List.set_cons_zero, List.set_cons_succ]
    obtain ⟨wd, hwd⟩ : ∃ wd, wd = wz.drew := ⟨_, rfl⟩
    rw [← hwd] at h0
    rw [← hwd]
    clear hwd
    refine wpAnyH_ready (rs := [4, 5]) (by kernel_rfl) (by simp) ?_
    refine AllReadyH.cons rfl (fun K hK => ?_) (AllReadyH.cons rfl (fun K hK => ?_) AllReadyH.nil)
    · go_simp
      go_wp2_with (go_at_call 27; refine (HV.out _ (h0)).mono ?_; rintro e wv5 ⟨c0, rfl, hv, bv5⟩; obtain ⟨qv, cv, ev⟩ := owns_sliceP hv; subst ev)
      have hv5 : Below wz.heap.size wz wv5 := (h0).trans (bv5.mono (h0).size)
      replace hv := owns_loE (h0).size hv
      clear hHeld
      refine hK.out _ _ ?G23 (fun hHeld => ?_)
      case G23 => ((try dsimp only); exact KEEP.out _ hv5)
      clear hK K
      try simp only [Act.put, List.getElem_toArray, List.getElem_cons_zero, List.getElem_cons_succ, List.setIfInBounds_toArray, List.set_cons_zero, List.set_cons_succ]
      refine wpAnyH_ready (rs := [5]) (by kernel_rfl) (by simp) ?_
      refine AllReadyH.cons rfl (fun K hK => ?_) AllReadyH.nil
      go_simp
      have kz6 : Below (wv5).heap.size (wv5) ((wv5).alloc (.cells #[] 67)) := (Below.refl _ _).alloc (Nat.le_refl _) _
      have hl6 : Below wz.heap.size wz ((wv5).alloc (.cells #[] 67)) := (hv5).trans (kz6.mono (hv5).size)
      have hg : ((wv5).alloc (.cells #[] 67)).ownsRow wz.heap.size 67 2 (.slice (some ⟨(wv5).heap.size, 0, none⟩) 0 0) 0 [] := World.ownsRow_lit (wv5) #[] 0 (hv5).size (by unfold maxLen; omega) rfl
      have hv := owns_of_belowN hv kz6
      clear hHeld
      refine hK.out _ ((wv5).alloc (.cells #[] 67)) ?G96 (fun hHeld => ?_)
      case G96 => (exact KEEP.out _ hl6)
      clear hK K
      try simp only [Act.put, List.getElem_toArray, List.getElem_cons_zero, List.getElem_cons_succ, List.setIfInBounds_toArray, List.set_cons_zero, List.set_cons_succ]
      obtain ⟨gL, hge⟩ : ∃ g, g = (wv5).heap.size := ⟨_, rfl⟩
      rw [← hge] at hg
      try rw [← hge]
      obtain ⟨wl6, hwl⟩ : ∃ wl, wl = (wv5).alloc (.cells #[] 67) := ⟨_, rfl⟩
      rw [← hwl] at hg hl6 hv
      try rw [← hwl]
      clear hge hwl kz6
      refine wpAnyH_ready (rs := [8]) (by kernel_rfl) (by simp) ?_
      refine AllReadyH.cons rfl (fun K hK => ?_) AllReadyH.nil
      rw [if_pos (by rfl)]
      refine wp_append_own _ _ _ 38 rfl wz.heap.size 67 i0 (.agg #[.string ⟨#[]⟩, .string ⟨#[]⟩]) 2 32 Try.underlying38 hi hz0 hz1 hz2 rfl (by decide) (.slice (some ⟨gL, 0, none⟩) 0 0) 0 [] rfl hg ⟨gN, 0, none⟩ d.needs.length cap1 (needsV d.needs) rfl (needsV_length _) (SRC.out _ (hl6)) (needsV_one _) (by unfold maxLen; omega) (by omega) (hl6).size ?_
      intro v8 w8 o8 gr8 _
      rw [Nat.zero_add, List.nil_append] at o8
      obtain ⟨qn, cn, en⟩ := owns_sliceP o8
      subst en
      have h8 : Below wz.heap.size wz w8 := Below.grown (hl6) gr8 (hl6).size (fun j hj => (hg.lt _ hj).1)
      have ov8 := hv.kept gr8 (rows_apartE hg hv (by decide))
      clear hHeld
      refine hK.out _ _ ?G24 (fun hHeld => ?_)
      case G24 => ((try dsimp only); exact KEEP.out _ h8)
      clear hK K
      try simp only [Act.put, List.getElem_toArray, List.getElem_cons_zero, List.getElem_cons_succ, List.setIfInBounds_toArray, List.set_cons_zero, List.set_cons_succ]
      refine wpAnyH_take (i := 9) (oi := _) (v := ?vT25) rfl (by kernel_rfl) (by kernel_rfl) (by kernel_rfl) (fun _ _ _ h => h) (Or.inl ⟨by rfl, ?yT25⟩) hHeld ?_
      case yT25 => (intro w hSw; (try dsimp only at hSw); go_simp <;> with_reducible rfl)
      try simp only [Act.put, List.getElem_toArray, List.getElem_cons_zero, List.getElem_cons_succ, List.setIfInBounds_toArray, List.set_cons_zero, List.set_cons_succ]
      have hR3 := (h8.block (w.heap.size + 1) (by omega)).trans hRz
      have fy := vblk_frozen hR3
      have y0 := vblk_cell hR3 0
      have y1 := vblk_cell hR3 1
      have y2 := vblk_cell hR3 2
      have y3 := vblk_cell hR3 3
      have y4 := vblk_cell hR3 4
      have y5 := vblk_cell hR3 5
      simp only [List.getElem?_toArray, List.getElem?_cons_succ, List.getElem?_cons_zero] at y0 y1 y2 y3 y4 y5
      refine wpAnyH_ready (rs := [10]) (by kernel_rfl) (by simp) ?_
      refine AllReadyH.cons rfl (fun K hK => ?_) AllReadyH.nil
      go_simp
      clear hHeld
      refine hK.out _ _ ?U26 (fun hHeld => ?_)
      case U26 => (have hA3 := (h8.block w.heap.size (by omega)).trans hAz; exact ⟨vblk_cell (cells_put (cells_put (cells_put (cells_put (cells_put (cells_put hA3 (by omega) _ _) (by omega) _ _) (by omega) _ _) (by omega) _ _) (by omega) _ _) (by omega) _ _) 0, vblk_cell (cells_put (cells_put (cells_put (cells_put (cells_put (cells_put hA3 (by omega) _ _) (by omega) _ _) (by omega) _ _) (by omega) _ _) (by omega) _ _) (by omega) _ _) 1, vblk_cell (cells_put (cells_put (cells_put (cells_put (cells_put (cells_put hA3 (by omega) _ _) (by omega) _ _) (by omega) _ _) (by omega) _ _) (by omega) _ _) (by omega) _ _) 2, vblk_cell (cells_put (cells_put (cells_put (cells_put (cells_put (cells_put hA3 (by omega) _ _) (by omega) _ _) (by omega) _ _) (by omega) _ _) (by omega) _ _) (by omega) _ _) 3, vblk_cell (cells_put (cells_put (cells_put (cells_put (cells_put (cells_put hA3 (by omega) _ _) (by omega) _ _) (by omega) _ _) (by omega) _ _) (by omega) _ _) (by omega) _ _) 4, vblk_cell (cells_put (cells_put (cells_put (cells_put (cells_put (cells_put hA3 (by omega) _ _) (by omega) _ _) (by omega) _ _) (by omega) _ _) (by omega) _ _) (by omega) _ _) 5⟩)
      clear hK K
      try simp only [Act.put, List.getElem_toArray, List.getElem_cons_zero, List.getElem_cons_succ, List.setIfInBounds_toArray, List.set_cons_zero, List.set_cons_succ]
      refine wpAnyH_done (by kernel_rfl) ?_ _
      clear hHeld
      have HO : Hid (∀ W : World, W.heap.size = (w8).heap.size → Kp (fun b => b ≠ w.heap.size + 1) (w8) W → shEntryO.lies (Ow w.heap.size W.heap.size) W [.string d.name, .int .i64 d.vA, .int .i64 d.vB, .int .i64 d.vC, .slice qv d.vP.length cv, .slice qn d.needs.length cn] d) := fun W hWs hk => by
        have i2 := owns_in ov8
        have i3 := owns_in o8
        refine ⟨_, _, rfl, s_n, ⟨owns_kept hk (fun g hg => by have := (i2 g hg).1; show g ≠ _; omega) (owns_lo (Nat.zero_le _) ov8), fun g hg => ?_⟩, p0, ?_⟩
        · have h9 := i2 g hg
          exact ⟨by have := h9.1; omega, by have := h9.2; omega⟩
        · have hK2 : Kp (Ow wz.heap.size (w8).heap.size) (w8) W := fun b hb => hk b (by have := hb.1; show b ≠ _; omega)
          exact ((needs_own o8 hnl hns2).keep hK2).mono (Ow.mono (by omega) (by omega))
      go_wp2_with fail
      refine bodyPost_ret (v := .agg #[.string d.name, .int .i64 d.vA, .int .i64 d.vB, .int .i64 d.vC, .slice qv d.vP.length cv, .slice qn d.needs.length cn]) (by simp [results, Try.results12, go_sem, y0, y1, y2, y3, y4, y5]) rfl ⟨[.string d.name, .int .i64 d.vA, .int .i64 d.vB, .int .i64 d.vC, .slice qv d.vP.length cv, .slice qn d.needs.length cn], rfl, HO.out _ (by simp [World.setCell]) ?_, ?_⟩
      · (repeat (refine Kp.trans ?_ (Kp.set (by simp))))
        exact fun b hb => rfl
      · (repeat (refine Below.setCell ?_ (by simp) _))
        exact hwz.trans (h8.mono (by omega))
    · go_simp
      have kz7 : Below (wd).heap.size (wd) ((wd).alloc (.cells #[] 67)) := (Below.refl _ _).alloc (Nat.le_refl _) _
      have hl7 : Below wz.heap.size wz ((wd).alloc (.cells #[] 67)) := (h0).trans (kz7.mono (h0).size)
      have hg : ((wd).alloc (.cells #[] 67)).ownsRow wz.heap.size 67 2 (.slice (some ⟨(wd).heap.size, 0, none⟩) 0 0) 0 [] := World.ownsRow_lit (wd) #[] 0 (h0).size (by unfold maxLen; omega) rfl
      clear hHeld
      refine hK.out _ ((wd).alloc (.cells #[] 67)) ?G97 (fun hHeld => ?_)
      case G97 => (exact KEEP.out _ hl7)
      clear hK K
      try simp only [Act.put, List.getElem_toArray, List.getElem_cons_zero, List.getElem_cons_succ, List.setIfInBounds_toArray, List.set_cons_zero, List.set_cons_succ]
      obtain ⟨gL, hge⟩ : ∃ g, g = (wd).heap.size := ⟨_, rfl⟩
      rw [← hge] at hg
      try rw [← hge]
      obtain ⟨wl7, hwl⟩ : ∃ wl, wl = (wd).alloc (.cells #[] 67) := ⟨_, rfl⟩
      rw [← hwl] at hg hl7
      try rw [← hwl]
      clear hge hwl kz7
      refine wpAnyH_ready (rs := [4]) (by kernel_rfl) (by simp) ?_
      refine AllReadyH.cons rfl (fun K hK => ?_) AllReadyH.nil
      go_simp
      go_wp2_with (go_at_call 27; refine (HV.out _ (hl7)).mono ?_; rintro e wv8 ⟨c0, rfl, hv, bv8⟩; obtain ⟨qv, cv, ev⟩ := owns_sliceP hv; subst ev)
      have hv8 : Below wz.heap.size wz wv8 := (hl7).trans (bv8.mono (hl7).size)
      replace hv := owns_loE (hl7).size hv
      have hg := owns_of_belowN hg bv8
      clear hHeld
      refine hK.out _ _ ?G27 (fun hHeld => ?_)
      case G27 => ((try dsimp only); exact KEEP.out _ hv8)
      clear hK K
      try simp only [Act.put, List.getElem_toArray, List.getElem_cons_zero, List.getElem_cons_succ, List.setIfInBounds_toArray, List.set_cons_zero, List.set_cons_succ]
      refine wpAnyH_ready (rs := [8]) (by kernel_rfl) (by simp) ?_
      refine AllReadyH.cons rfl (fun K hK => ?_) AllReadyH.nil
      rw [if_pos (by rfl)]
      refine wp_append_own _ _ _ 38 rfl wz.heap.size 67 i0 (.agg #[.string ⟨#[]⟩, .string ⟨#[]⟩]) 2 32 Try.underlying38 hi hz0 hz1 hz2 rfl (by decide) (.slice (some ⟨gL, 0, none⟩) 0 0) 0 [] rfl hg ⟨gN, 0, none⟩ d.needs.length cap1 (needsV d.needs) rfl (needsV_length _) (SRC.out _ (hv8)) (needsV_one _) (by unfold maxLen; omega) (by omega) (hv8).size ?_
      intro v8 w8 o8 gr8 _
      rw [Nat.zero_add, List.nil_append] at o8
      obtain ⟨qn, cn, en⟩ := owns_sliceP o8
      subst en
      have h8 : Below wz.heap.size wz w8 := Below.grown (hv8) gr8 (hv8).size (fun j hj => (hg.lt _ hj).1)
      have ov8 := hv.kept gr8 (rows_apartE hg hv (by decide))
      clear hHeld
      refine hK.out _ _ ?G28 (fun hHeld => ?_)
      case G28 => ((try dsimp only); exact KEEP.out _ h8)
      clear hK K
      try simp only [Act.put, List.getElem_toArray, List.getElem_cons_zero, List.getElem_cons_succ, List.setIfInBounds_toArray, List.set_cons_zero, List.set_cons_succ]
      refine wpAnyH_take (i := 9) (oi := _) (v := ?vT29) rfl (by kernel_rfl) (by kernel_rfl) (by kernel_rfl) (fun _ _ _ h => h) (Or.inl ⟨by rfl, ?yT29⟩) hHeld ?_
      case yT29 => (intro w hSw; (try dsimp only at hSw); go_simp <;> with_reducible rfl)
      try simp only [Act.put, List.getElem_toArray, List.getElem_cons_zero, List.getElem_cons_succ, List.setIfInBounds_toArray, List.set_cons_zero, List.set_cons_succ]
      have hR3 := (h8.block (w.heap.size + 1) (by omega)).trans hRz
      have fy := vblk_frozen hR3
      have y0 := vblk_cell hR3 0
      have y1 := vblk_cell hR3 1
      have y2 := vblk_cell hR3 2
      have y3 := vblk_cell hR3 3
      have y4 := vblk_cell hR3 4
      have y5 := vblk_cell hR3 5
      simp only [List.getElem?_toArray, List.getElem?_cons_succ, List.getElem?_cons_zero] at y0 y1 y2 y3 y4 y5
      refine wpAnyH_ready (rs := [10]) (by kernel_rfl) (by simp) ?_
      refine AllReadyH.cons rfl (fun K hK => ?_) AllReadyH.nil
      go_simp
      clear hHeld
      refine hK.out _ _ ?U30 (fun hHeld => ?_)
      case U30 => (have hA3 := (h8.block w.heap.size (by omega)).trans hAz; exact ⟨vblk_cell (cells_put (cells_put (cells_put (cells_put (cells_put (cells_put hA3 (by omega) _ _) (by omega) _ _) (by omega) _ _) (by omega) _ _) (by omega) _ _) (by omega) _ _) 0, vblk_cell (cells_put (cells_put (cells_put (cells_put (cells_put (cells_put hA3 (by omega) _ _) (by omega) _ _) (by omega) _ _) (by omega) _ _) (by omega) _ _) (by omega) _ _) 1, vblk_cell (cells_put (cells_put (cells_put (cells_put (cells_put (cells_put hA3 (by omega) _ _) (by omega) _ _) (by omega) _ _) (by omega) _ _) (by omega) _ _) (by omega) _ _) 2, vblk_cell (cells_put (cells_put (cells_put (cells_put (cells_put (cells_put hA3 (by omega) _ _) (by omega) _ _) (by omega) _ _) (by omega) _ _) (by omega) _ _) (by omega) _ _) 3, vblk_cell (cells_put (cells_put (cells_put (cells_put (cells_put (cells_put hA3 (by omega) _ _) (by omega) _ _) (by omega) _ _) (by omega) _ _) (by omega) _ _) (by omega) _ _) 4, vblk_cell (cells_put (cells_put (cells_put (cells_put (cells_put (cells_put hA3 (by omega) _ _) (by omega) _ _) (by omega) _ _) (by omega) _ _) (by omega) _ _) (by omega) _ _) 5⟩)
      clear hK K
      try simp only [Act.put, List.getElem_toArray, List.getElem_cons_zero, List.getElem_cons_succ, List.setIfInBounds_toArray, List.set_cons_zero, List.set_cons_succ]
      refine wpAnyH_done (by kernel_rfl) ?_ _
      clear hHeld
      have HO : Hid (∀ W : World, W.heap.size = (w8).heap.size → Kp (fun b => b ≠ w.heap.size + 1) (w8) W → shEntryO.lies (Ow w.heap.size W.heap.size) W [.string d.name, .int .i64 d.vA, .int .i64 d.vB, .int .i64 d.vC, .slice qv d.vP.length cv, .slice qn d.needs.length cn] d) := fun W hWs hk => by
        have i2 := owns_in ov8
        have i3 := owns_in o8
        refine ⟨_, _, rfl, s_n, ⟨owns_kept hk (fun g hg => by have := (i2 g hg).1; show g ≠ _; omega) (owns_lo (Nat.zero_le _) ov8), fun g hg => ?_⟩, p0, ?_⟩
        · have h9 := i2 g hg
          exact ⟨by have := h9.1; omega, by have := h9.2; omega⟩
        · have hK2 : Kp (Ow wz.heap.size (w8).heap.size) (w8) W := fun b hb => hk b (by have := hb.1; show b ≠ _; omega)
          exact ((needs_own o8 hnl hns2).keep hK2).mono (Ow.mono (by omega) (by omega))
      go_wp2_with fail
      refine bodyPost_ret (v := .agg #[.string d.name, .int .i64 d.vA, .int .i64 d.vB, .int .i64 d.vC, .slice qv d.vP.length cv, .slice qn d.needs.length cn]) (by simp [results, Try.results12, go_sem, y0, y1, y2, y3, y4, y5]) rfl ⟨[.string d.name, .int .i64 d.vA, .int .i64 d.vB, .int .i64 d.vC, .slice qv d.vP.length cv, .slice qn d.needs.length cn], rfl, HO.out _ (by simp [World.setCell]) ?_, ?_⟩
      · (repeat (refine Kp.trans ?_ (Kp.set (by simp))))
        exact fun b hb => rfl
      · (repeat (refine Below.setCell ?_ (by simp) _))
        exact hwz.trans (h8.mono (by omega))
end Go.Proofs.Ytablcicfagmhpaa

/-! What the two functions ParseNum (the program's and the specification's) answer: one and the same pair for every string and every bound; no condition but that a string is no longer than an int can count. -/
namespace Go.Proofs.Ytablcicfagmhpaa
open Go.RowKit
set_option linter.unusedSimpArgs false
set_option linter.unusedVariables false

/-- The number that the first k bytes tell. -/
def numUpto (s : ByteArray) : Nat → Int
  | 0 => 0
  | k + 1 => numUpto s k * 10 + (((s.data[k]!).toNat : Int) - 48)

def okDigit (_ : Nat) (c : Int) : Bool := digitB c

theorem digit_bounds {c : Int} (h : digitB c = true) : 48 ≤ c ∧ c ≤ 57 := by
  simpa [digitB] using h

theorem numUpto_bounds (s : ByteArray) : ∀ k, allUpto okDigit s k = true → 0 ≤ numUpto s k ∧ numUpto s k < (10 : Int) ^ k
  | 0, _ => by simp [numUpto]
  | k + 1, h => by
    rw [allUpto, Bool.and_eq_true] at h
    have ih := numUpto_bounds s k h.1
    have hd := digit_bounds (c := ((s.data[k]!).toNat : Int)) h.2
    rw [numUpto, Int.pow_succ]
    omega

theorem numUpto_step {s : ByteArray} {k : Nat} (hk : k < s.size) : numUpto s (k + 1) = numUpto s k * 10 + (((s[k]).toNat : Int) - 48) := by
  rw [numUpto, byteBang s k hk]

theorem num_small {s : ByteArray} {k : Nat} (h : allUpto okDigit s k = true) (h8 : k ≤ 8) : 0 ≤ numUpto s k ∧ numUpto s k < 100000000 := by
  have hb := numUpto_bounds s k h
  have : (10 : Int) ^ k ≤ 10 ^ 8 := by
    have : (10 : Nat) ^ k ≤ 10 ^ 8 := Nat.pow_le_pow_right (by decide) h8
    exact_mod_cast this
  omega

/-- What both answer. -/
def numGood (s : ByteArray) (most : Int) : Bool :=
  inB s.size 1 7 && allUpto okDigit s s.size && !(decide (1 < s.size) && ((s.data[0]!).toNat : Int) == 48) && decide (numUpto s s.size ≤ most)
def numOut (s : ByteArray) (most : Int) : Int := if numGood s most then numUpto s s.size else 0

theorem numOut_bad {s : ByteArray} {most : Int} (h : numGood s most = false) : numOut s most = 0 := by simp [numOut, h]
theorem numOut_good {s : ByteArray} {most : Int} (h : numGood s most = true) : numOut s most = numUpto s s.size := by simp [numOut, h]

theorem bad_digit {s : ByteArray} {most : Int} {k : Nat} (hk : k < s.size) (h : digitB ((s[k]).toNat : Int) = false) : numGood s most = false := by
  rw [numGood, end_false (p := okDigit) hk h]; simp
theorem bad_size {s : ByteArray} {most : Int} (h : inB s.size 1 7 = false) : numGood s most = false := by
  rw [numGood, h]; simp
theorem bad_nought {s : ByteArray} {most : Int} (h1 : 1 < s.size) (h : (((s[0]).toNat : Int) == 48) = true) : numGood s most = false := by
  rw [numGood, byteBang s 0 (by omega), h, decide_eq_true h1]; simp
theorem bad_most {s : ByteArray} {most : Int} (h : most < numUpto s s.size) : numGood s most = false := by
  rw [numGood, decide_eq_false (p := numUpto s s.size ≤ most) (by omega)]; simp
theorem good_all {s : ByteArray} {most : Int} (h1 : inB s.size 1 7 = true) (h2 : allUpto okDigit s s.size = true) (h3 : ∀ h : 1 < s.size, (((s[0]).toNat : Int) == 48) = false) (h4 : numUpto s s.size ≤ most) : numGood s most = true := by
  rw [numGood, h1, h2, decide_eq_true h4]
  by_cases h : 1 < s.size
  · rw [byteBang s 0 (by omega), h3 h]; simp
  · simp [h]

theorem in17 {s : ByteArray} (h : inB s.size 1 7 = true) : 1 ≤ s.size ∧ s.size ≤ 7 := by
  simp only [inB, Bool.and_eq_true, decide_eq_true_eq] at h
  omega
theorem out17 {s : ByteArray} (h : ¬ inB s.size 1 7 = true) : inB s.size 1 7 = false := by simpa using h

theorem pair_bad {s : ByteArray} {most : Int} (h : numGood s most = false) : Ending.returned (.tuple #[.int .i64 0, .bool false]) = Ending.returned (.tuple #[.int .i64 (numOut s most), .bool (numGood s most)]) := by
  rw [numOut_bad h, h]
theorem pair_good {s : ByteArray} {most n : Int} (h : numGood s most = true) (hn : n = numUpto s s.size) : Ending.returned (.tuple #[.int .i64 n, .bool true]) = Ending.returned (.tuple #[.int .i64 (numOut s most), .bool (numGood s most)]) := by
  rw [numOut_good h, h, hn]

theorem in_false {s : ByteArray} (h : s.size = 0 ∨ 7 < s.size) : inB s.size 1 7 = false := by
  simp only [inB, Bool.and_eq_false_iff, decide_eq_false_iff_not]
  omega
theorem in_true {s : ByteArray} (h0 : 0 < s.size) (h : s.size ≤ 7) : inB s.size 1 7 = true := by
  simp only [inB, Bool.and_eq_true, decide_eq_true_eq]
  omega

end Go.Proofs.Ytablcicfagmhpaa

/-! What the functions that look at one text of a Pre answer (the program's and the specification's): contracts for the walks; condition: a string is no longer than an int can count. -/
namespace Go.Proofs.Ytablcicfagmhpaa
open Go.RowKit
set_option linter.unusedSimpArgs false
set_option linter.unusedVariables false

def preB (c : Int) : Bool := smallB c || inB c 65 90 || digitB c || c == 45
def okPre (_ : Nat) (c : Int) : Bool := preB c
def digitsB (s : ByteArray) : Bool := allUpto okDigit s s.size
def firstB (s : ByteArray) : Bool := ((s.data[0]!).toNat : Int) == 48
def partB (s : ByteArray) : Bool := allUpto okPre s s.size && inB s.size 1 8 && (!digitsB s || decide (s.size = 1) || !firstB s)

theorem ret_bool {a b : Bool} (h : a = b) : Ending.returned (.bool a) = .returned (.bool b) := by rw [h]

set_option maxHeartbeats 1000000 in
theorem specDigits_c (s : ByteArray) (hs : s.size ≤ maxLen) (w : World) :
    Calls Try.prog 54 #[.string s] w fun e w' => e = .returned (.bool (digitsB s)) ∧ w = w' := by
  unfold maxLen at hs
  go_enter Try.func54, Try.ntmps54
  go_wp2
  go_loop [3] (fun vi => ∃ k : Nat, k ≤ s.size ∧ vi = .int .i64 (k : Int) ∧ Hid (allUpto okDigit s k = true)) (fun vi => s.size - (intOf vi).toNat)
  case atStart => exact ⟨0, Nat.zero_le _, rfl, rfl⟩
  case round =>
    obtain ⟨k, hk, rfl, hh⟩ := hrel
    go_wp2_with (go_at_call 58; refine (digit_c _ (byte0 _) (byte255 _) _).mono ?_; rintro e w' ⟨rfl, rfl⟩)
    · have hlt : k < s.size := by assumption
      have h1 : (!digitB ((s[k]).toNat : Int)) = true := by assumption
      go_ret
      exact ⟨by rw [digitsB, end_false hlt (by simpa [okDigit] using h1)]; rfl, rfl⟩
    · have hlt : k < s.size := by assumption
      have h1 : (!digitB ((s[k]).toNat : Int)) = false := by assumption
      go_round
      case rel => exact ⟨k + 1, by omega, by go_num, step_true hlt hh (by simpa [okDigit] using h1)⟩
      case measure => simp [intOf]; omega
    · have he : k = s.size := by omega
      subst he
      go_ret
      exact ⟨by rw [digitsB, hh.out]; rfl, rfl⟩

set_option maxHeartbeats 1000000 in
theorem implDigits_c (s : ByteArray) (hs : s.size ≤ maxLen) (w : World) :
    Calls Try.prog 50 #[.string s] w fun e w' => e = .returned (.bool (digitsB s)) ∧ w = w' := by
  unfold maxLen at hs
  go_enter Try.func50, Try.ntmps50
  go_wp2
  go_loop [6] (fun vi => ∃ k : Nat, k ≤ s.size ∧ vi = .int .i64 (k : Int) ∧ Hid (allUpto okDigit s k = true)) (fun vi => s.size - (intOf vi).toNat)
  case atStart => exact ⟨0, Nat.zero_le _, rfl, rfl⟩
  case round =>
    obtain ⟨k, hk, rfl, hh⟩ := hrel
    go_wp2_with (go_at_call 56; refine (isDigit_c _ _).mono ?_; rintro e w' ⟨rfl, rfl⟩)
    · have hlt : k < s.size := by assumption
      have h1 : (!digitB ((s[k]).toNat : Int)) = true := by assumption
      go_ret
      exact ⟨by rw [digitsB, end_false hlt (by simpa [okDigit] using h1)]; rfl, rfl⟩
    · have hlt : k < s.size := by assumption
      have h1 : (!digitB ((s[k]).toNat : Int)) = false := by assumption
      go_round
      case rel => exact ⟨k + 1, by omega, by go_num, step_true hlt hh (by simpa [okDigit] using h1)⟩
      case measure => simp [intOf]; omega
    · have he : k = s.size := by omega
      subst he
      go_ret
      exact ⟨by rw [digitsB, hh.out]; rfl, rfl⟩

theorem pre_high {c : Int} (h : 128 ≤ c) : preB c = false := by
  rw [Bool.eq_false_iff]; simp [preB, smallB, inB, digitB]; omega

theorem partB_out {s : ByteArray} (h : s.size = 0 ∨ 8 < s.size) : partB s = false := by
  have : inB s.size 1 8 = false := by
    simp only [inB, Bool.and_eq_false_iff, decide_eq_false_iff_not]
    omega
  rw [partB, this, Bool.and_false, Bool.false_and]
theorem partB_bad {s : ByteArray} (h : allUpto okPre s s.size = false) : partB s = false := by rw [partB, h]; rfl
theorem partB_in {s : ByteArray} (h0 : 0 < s.size) (h1 : s.size ≤ 8) (h : allUpto okPre s s.size = true) : partB s = (!digitsB s || decide (s.size = 1) || !firstB s) := by
  have : inB s.size 1 8 = true := by
    simp only [inB, Bool.and_eq_true, decide_eq_true_eq]
    omega
  rw [partB, this, h]; rfl
theorem firstB_eq {s : ByteArray} (h0 : 0 < s.size) : firstB s = (((s[0]).toNat : Int) == 48) := by rw [firstB, byteBang s 0 h0]

theorem pre_1 {c : Int} (k : Nat) (h : digitB c = true) : okPre k c = true := by simp [okPre, preB, h]
theorem pre_2 {c : Int} (k : Nat) (h : smallB c = true) : okPre k c = true := by simp [okPre, preB, h]
theorem pre_3 {c : Int} (k : Nat) (h : inB c 65 90 = true) : okPre k c = true := by simp [okPre, preB, h]
theorem pre_4 {c : Int} (k : Nat) (h : (c != 45) = false) : okPre k c = true := by
  have : (c == 45) = true := by simpa using h
  simp only [okPre, preB, this, Bool.or_true]

end Go.Proofs.Ytablcicfagmhpaa

/-! What the specification's look at one text of a Pre answers: a contract for the walks; condition: the string is no longer than an int can count. -/
namespace Go.Proofs.Ytablcicfagmhpaa
open Go.RowKit
set_option linter.unusedSimpArgs false
set_option linter.unusedVariables false

theorem pre_none {c : Int} (k : Nat) (h1 : ¬ digitB c = true) (h2 : ¬ smallB c = true) (h3 : ¬ inB c 65 90 = true) (h4 : (c != 45) = true) : okPre k c = false := by
  have h5 : (c == 45) = false := by simpa using h4
  simp only [okPre, preB, h1, h2, h3, h5]; rfl

end Go.Proofs.Ytablcicfagmhpaa

/-! What the program's look at one text of a Pre answers (it goes over the text's runes): a contract for the walks; condition: the string is no longer than an int can count. -/
namespace Go.Proofs.Ytablcicfagmhpaa
open Go.RowKit
set_option linter.unusedSimpArgs false
set_option linter.unusedVariables false

theorem iterPos_of {w : World} {k : Nat} {s : ByteArray} {p : Nat} (h : w.heap[k]? = some (.stringIter s p)) : w.iterPos k = p := by simp [World.iterPos, h]
theorem rune_high (s : ByteArray) (pos : Nat) (h : pos < s.size) (ha : 128 ≤ (s[pos]).toNat) : preB ((Utf8.decode s pos).1 : Int) = false := pre_high (by have := (decode_high s pos h ha).1; omega)
theorem byte_high (s : ByteArray) (pos : Nat) (h : pos < s.size) (ha : 128 ≤ (s[pos]).toNat) : preB ((s[pos]).toNat : Int) = false := pre_high (by omega)

end Go.Proofs.Ytablcicfagmhpaa

/-! What VerOk answers, the program's and the specification's: contracts for the walks; conditions: the list of texts lies in memory as told, and is no longer than 2 to the 20, with all that it holds. -/
namespace Go.Proofs.Ytablcicfagmhpaa
open Go.RowKit
set_option linter.unusedSimpArgs false
set_option linter.unusedVariables false

def partsUpto (ps : List ByteArray) : Nat → Bool
  | 0 => true
  | k + 1 => partsUpto ps k && partB (ps.getD k ⟨#[]⟩)
def verB (a b c : Int) (ps : List ByteArray) : Bool := partsUpto ps ps.length && inB a 0 9999 && inB b 0 9999 && inB c 0 9999 && decide (ps.length ≤ 3)

theorem partsUpto_cut (ps : List ByteArray) (k : Nat) (h : partB (ps.getD k ⟨#[]⟩) = false) : ∀ n, k < n → partsUpto ps n = false
  | 0, h0 => by omega
  | n + 1, hk => by
    unfold partsUpto
    by_cases e : k = n
    · subst e; rw [h, Bool.and_false]
    · rw [partsUpto_cut ps k h n (by omega)]; rfl
theorem parts_end {ps : List ByteArray} {k : Nat} (hk : k < ps.length) (h : partB ps[k] = false) : partsUpto ps ps.length = false :=
  partsUpto_cut ps k (by simpa [List.getD_eq_getElem?_getD, hk] using h) _ hk
theorem parts_step {ps : List ByteArray} {k : Nat} (hk : k < ps.length) (hh : Hid (partsUpto ps k = true)) (h : partB ps[k] = true) : Hid (partsUpto ps (k + 1) = true) := by
  show _ = _
  rw [partsUpto, hh.out]
  simpa [List.getD_eq_getElem?_getD, hk] using h
theorem verB_parts {a b c : Int} {ps : List ByteArray} (h : partsUpto ps ps.length = false) : verB a b c ps = false := by rw [verB, h]; rfl
theorem verB_all {a b c : Int} {ps : List ByteArray} (h : partsUpto ps ps.length = true) : verB a b c ps = (inB a 0 9999 && inB b 0 9999 && inB c 0 9999 && decide (ps.length ≤ 3)) := by rw [verB, h]; rfl

theorem le_sum_of_mem : ∀ {ps : List ByteArray} {s : ByteArray}, s ∈ ps → s.size ≤ (ps.map ByteArray.size).sum
  | p :: ps, s, h => by
    rw [List.map_cons, List.sum_cons]
    rcases List.mem_cons.1 h with rfl | h
    · omega
    · have := le_sum_of_mem h; omega
theorem size_of_bulk {ps : List ByteArray} {s : ByteArray} (h : s ∈ ps) : s.size ≤ bulkS ps := by
  unfold bulkS
  have := le_sum_of_mem h
  omega

theorem verB_num {a b c : Int} {ps : List ByteArray} (h : inB a 0 9999 = false ∨ inB b 0 9999 = false ∨ inB c 0 9999 = false ∨ 3 < ps.length) : verB a b c ps = false := by
  rw [verB]
  rcases h with h | h | h | h
  · rw [h]; simp
  · rw [h]; simp
  · rw [h]; simp
  · have : decide (ps.length ≤ 3) = false := by simp; omega
    rw [this, Bool.and_false]

end Go.Proofs.Ytablcicfagmhpaa

/-! Which of two texts, numbers and lists of texts of a Pre is less, as the program reckons it (by -1, 0 and 1) and as the specification does: both the same; and the contracts of the functions that compare two of them; condition: a string is no longer than an int can count. -/
namespace Go.Proofs.Ytablcicfagmhpaa
open Go.RowKit
set_option linter.unusedSimpArgs false
set_option linter.unusedVariables false

theorem vltL_irrefl (x : List UInt8) : ¬ x < x := List.lt_irrefl x
theorem vltL_trans {x y z : List UInt8} (h : x < y) (k : y < z) : x < z := List.lt_trans h k
theorem vltL_total {x y : List UInt8} (h : ¬ x < y) (k : ¬ y < x) : x = y := List.le_antisymm (by simpa using k) (by simpa using h)
def listB (s : ByteArray) : List UInt8 := s.data.toList
theorem listB_inj {a b : ByteArray} (h : listB a = listB b) : a = b := ByteArray.ext (Array.toList_inj.1 h)
def ltS (a b : ByteArray) : Bool := Op.bytesLess a.toList b.toList
theorem ltS_iff (a b : ByteArray) : ltS a b = decide (listB a < listB b) := by
  rw [ltS, ByteArray.toList_eq, ByteArray.toList_eq, bytesLess_eq]; rfl
theorem gtS (a b : ByteArray) : (!(Op.bytesLess a.toList b.toList || a.toList == b.toList)) = ltS b a := by
  rw [ltS_iff, ByteArray.toList_eq, ByteArray.toList_eq, bytesLess_eq]
  show _ = decide (b.data.toList < a.data.toList)
  by_cases h : b.data.toList < a.data.toList
  · have h1 : ¬ a.data.toList < b.data.toList := fun k => vltL_irrefl _ (vltL_trans h k)
    have h2 : ¬ a.data = b.data := fun e => by rw [e] at h; exact vltL_irrefl _ h
    simp [h, h1, h2]
  · by_cases h1 : a.data.toList < b.data.toList
    · simp [h, h1]
    · have h2 : a.data.toList = b.data.toList := vltL_total h1 h
      simp [h2, vltL_irrefl]
theorem ltS_irrefl (a : ByteArray) : ltS a a = false := by rw [ltS_iff]; simp [vltL_irrefl]
theorem ltS_asymm {a b : ByteArray} (h : ltS a b = true) : ltS b a = false := by
  rw [ltS_iff] at *
  simp only [decide_eq_true_eq] at h
  simp only [decide_eq_false_iff_not]
  exact fun k => vltL_irrefl _ (vltL_trans h k)
theorem ltS_total {a b : ByteArray} (h : ltS a b = false) (k : ltS b a = false) : a = b := by
  rw [ltS_iff, decide_eq_false_iff_not] at *
  exact listB_inj (vltL_total h k)

def cmpI (a b : Int) : Int := if a < b then -1 else if b < a then 1 else 0
def cmpS (a b : ByteArray) : Int := if ltS a b then -1 else if ltS b a then 1 else 0
def orI : List Int → Int
  | [] => 0
  | z :: zs => if z = 0 then orI zs else z
def cmpPart (a b : ByteArray) : Int :=
  if digitsB a && digitsB b then orI [cmpI a.size b.size, cmpS a b] else if digitsB a then -1 else if digitsB b then 1 else cmpS a b
def cmpPre : List ByteArray → List ByteArray → Int
  | [], [] => 0
  | [], _ :: _ => -1
  | _ :: _, [] => 1
  | a :: xs, b :: ys => if cmpPart a b = 0 then cmpPre xs ys else cmpPart a b
def cmpVer (a b c : Int) (ps : List ByteArray) (a' b' c' : Int) (ps' : List ByteArray) : Int :=
  if orI [cmpI a a', cmpI b b', cmpI c c'] = 0 then (if ps.length = 0 ∨ ps'.length = 0 then cmpI ps'.length ps.length else cmpPre ps ps') else orI [cmpI a a', cmpI b b', cmpI c c']

def lessPart (a b : ByteArray) : Bool :=
  if digitsB a && digitsB b then (if a.size = b.size then ltS a b else decide (a.size < b.size)) else if digitsB a = digitsB b then ltS a b else digitsB a
def lessGo : List ByteArray → List ByteArray → Bool
  | a :: xs, b :: ys => if a = b then lessGo xs ys else lessPart a b
  | [], ys => decide (0 < ys.length)
  | _ :: _, [] => false
def lessPre (ps ps' : List ByteArray) : Bool := if ps.length = 0 ∨ ps'.length = 0 then decide (0 < ps.length) && decide (ps'.length = 0) else lessGo ps ps'
def lessB (a b c : Int) (ps : List ByteArray) (a' b' c' : Int) (ps' : List ByteArray) : Bool :=
  if a = a' then (if b = b' then (if c = c' then lessPre ps ps' else decide (c < c')) else decide (b < b')) else decide (a < a')

theorem cmpI_zero (a b : Int) : cmpI a b = 0 ↔ a = b := by unfold cmpI; split <;> (try split) <;> omega
theorem cmpI_neg (a b : Int) : cmpI a b < 0 ↔ a < b := by unfold cmpI; split <;> (try split) <;> omega
theorem cmpS_zero (a b : ByteArray) : cmpS a b = 0 ↔ a = b := by
  unfold cmpS
  constructor
  · intro h
    split at h
    · omega
    · split at h
      · omega
      · exact ltS_total (by simpa using ‹¬ ltS a b = true›) (by simpa using ‹¬ ltS b a = true›)
  · rintro rfl
    simp [ltS_irrefl]
theorem cmpS_neg (a b : ByteArray) : cmpS a b < 0 ↔ ltS a b = true := by
  unfold cmpS
  constructor
  · intro h
    split at h
    · assumption
    · split at h <;> omega
  · intro h; rw [if_pos h]; omega
theorem orI_two (x y : Int) : orI [x, y] = if x = 0 then (if y = 0 then 0 else y) else x := by simp [orI]
theorem cmpPart_zero (a b : ByteArray) : cmpPart a b = 0 ↔ a = b := by
  constructor
  · intro h
    unfold cmpPart at h
    rw [orI_two] at h
    split at h
    · split at h
      · split at h
        · exact (cmpS_zero a b).1 ‹_›
        · exact (cmpS_zero a b).1 h
      · exact absurd h ‹_›
    · split at h
      · omega
      · split at h
        · omega
        · exact (cmpS_zero a b).1 h
  · rintro rfl
    have h1 := (cmpS_zero a a).2 rfl
    have h2 := (cmpI_zero a.size a.size).2 rfl
    unfold cmpPart
    rw [orI_two, h1, h2]
    cases digitsB a <;> simp
theorem cmpPart_neg {a b : ByteArray} (hne : ¬ a = b) : decide (cmpPart a b < 0) = lessPart a b := by
  rw [Bool.eq_iff_iff, decide_eq_true_eq]
  unfold cmpPart lessPart
  rw [orI_two]
  have s0 := cmpS_zero a b
  have s1 := cmpS_neg a b
  have i0 := cmpI_zero a.size b.size
  have i1 := cmpI_neg a.size b.size
  cases ha : digitsB a <;> cases hb : digitsB b
  · simpa using s1
  · simp
  · simp
  · simp only [Bool.and_self, if_true]
    by_cases he : a.size = b.size
    · have : cmpI a.size b.size = 0 := i0.2 (by omega)
      rw [if_pos this, if_pos he, if_neg (fun h => hne (s0.1 h))]
      exact s1
    · have : ¬ cmpI a.size b.size = 0 := fun h => he (by have := i0.1 h; omega)
      rw [if_neg this, if_neg he, i1]
      simp
theorem cmpPre_neg : ∀ (ps ps' : List ByteArray), decide (cmpPre ps ps' < 0) = lessGo ps ps'
  | [], [] => by simp [cmpPre, lessGo]
  | [], _ :: _ => by simp [cmpPre, lessGo]
  | _ :: _, [] => by simp [cmpPre, lessGo]
  | a :: xs, b :: ys => by
    rw [cmpPre, lessGo]
    by_cases h : a = b
    · rw [if_pos ((cmpPart_zero a b).2 h), if_pos h]; exact cmpPre_neg xs ys
    · rw [if_neg (fun k => h ((cmpPart_zero a b).1 k)), if_neg h]; exact cmpPart_neg h
theorem cmpVer_neg (a b c : Int) (ps : List ByteArray) (a' b' c' : Int) (ps' : List ByteArray) : decide (cmpVer a b c ps a' b' c' ps' < 0) = lessB a b c ps a' b' c' ps' := by
  unfold cmpVer lessB
  have e : orI [cmpI a a', cmpI b b', cmpI c c'] = if cmpI a a' = 0 then (if cmpI b b' = 0 then (if cmpI c c' = 0 then 0 else cmpI c c') else cmpI b b') else cmpI a a' := by simp [orI]
  rw [e]
  by_cases ha : a = a'
  · rw [if_pos ha, if_pos ((cmpI_zero a a').2 ha)]
    by_cases hb : b = b'
    · rw [if_pos hb, if_pos ((cmpI_zero b b').2 hb)]
      by_cases hc : c = c'
      · rw [if_pos hc, if_pos ((cmpI_zero c c').2 hc), if_pos rfl]
        unfold lessPre
        by_cases hp : ps.length = 0 ∨ ps'.length = 0
        · rw [if_pos hp, if_pos hp, Bool.eq_iff_iff, decide_eq_true_eq, cmpI_neg, Bool.and_eq_true, decide_eq_true_eq, decide_eq_true_eq]
          omega
        · rw [if_neg hp, if_neg hp]; exact cmpPre_neg ps ps'
      · have h := fun k => hc ((cmpI_zero c c').1 k)
        rw [if_neg hc, if_neg h, if_neg h, Bool.eq_iff_iff, decide_eq_true_eq, decide_eq_true_eq]
        exact cmpI_neg c c'
    · have h := fun k => hb ((cmpI_zero b b').1 k)
      rw [if_neg hb, if_neg h, if_neg h, Bool.eq_iff_iff, decide_eq_true_eq, decide_eq_true_eq]
      exact cmpI_neg b b'
  · have h := fun k => ha ((cmpI_zero a a').1 k)
    rw [if_neg ha, if_neg h, if_neg h, Bool.eq_iff_iff, decide_eq_true_eq, decide_eq_true_eq]
    exact cmpI_neg a a'

theorem ret_int {k : IntKind} {a b : Int} (h : a = b) : Ending.returned (.int k a) = .returned (.int k b) := by rw [h]

theorem nanInt_c (a : Int) (w : World) : Calls Try.prog 49 #[.int .i64 a] w fun e w' => e = .returned (.bool false) ∧ w = w' := by
  go_enter Try.func49, Try.ntmps49
  go_wp2
  go_ret
  exact ⟨by simp, rfl⟩
theorem nanStr_c (a : ByteArray) (w : World) : Calls Try.prog 57 #[.string a] w fun e w' => e = .returned (.bool false) ∧ w = w' := by
  go_enter Try.func57, Try.ntmps57
  go_wp2
  go_ret
  exact ⟨by simp, rfl⟩
theorem compareInt_c (a b : Int) (w : World) : Calls Try.prog 36 #[.int .i64 a, .int .i64 b] w fun e w' => e = .returned (.int .i64 (cmpI a b)) ∧ w = w' := by
  go_enter Try.func36, Try.ntmps36
  go_wp2_with (go_at_call 49; refine (nanInt_c _ _).mono ?_; rintro e w' ⟨rfl, rfl⟩)
  all_goals go_ret
  all_goals exact ⟨ret_int (by unfold cmpI; split <;> (try split) <;> omega), rfl⟩
theorem cmpS_one {a b : ByteArray} (h : ltS a b = true) : cmpS a b = -1 := by rw [cmpS, if_pos h]
theorem cmpS_two {a b : ByteArray} (h : ltS a b = false) (k : ltS b a = true) : cmpS a b = 1 := by rw [cmpS, if_neg (by simp [h]), if_pos k]
theorem cmpS_three {a b : ByteArray} (h : ltS a b = false) (k : ltS b a = false) : cmpS a b = 0 := by rw [cmpS, if_neg (by simp [h]), if_neg (by simp [k])]
theorem compareStr_c (a b : ByteArray) (w : World) : Calls Try.prog 51 #[.string a, .string b] w fun e w' => e = .returned (.int .i64 (cmpS a b)) ∧ w = w' := by
  go_enter Try.func51, Try.ntmps51
  go_wp2_with (go_at_call 57; refine (nanStr_c _ _).mono ?_; rintro e w' ⟨rfl, rfl⟩)
  · have h1 : ltS a b = true := by assumption
    go_ret
    exact ⟨ret_int (cmpS_one h1).symm, rfl⟩
  · have h1 : ltS a b = false := by assumption
    have h2 : (!a.toList == b.toList) = true := by assumption
    have h3 : ltS b a = true := by rw [← gtS, show Op.bytesLess a.toList b.toList = false from h1]; exact h2
    go_ret
    exact ⟨ret_int (cmpS_two h1 h3).symm, rfl⟩
  · have h1 : ltS a b = false := by assumption
    have h2 : (!a.toList == b.toList) = false := by assumption
    have h3 : ltS b a = false := by rw [← gtS, show Op.bytesLess a.toList b.toList = false from h1]; exact h2
    go_ret
    exact ⟨ret_int (cmpS_three h1 h3).symm, rfl⟩
theorem specLessPart_c (a b : ByteArray) (ha : a.size ≤ maxLen) (hb : b.size ≤ maxLen) (w : World) :
    Calls Try.prog 43 #[.string a, .string b] w fun e w' => e = .returned (.bool (lessPart a b)) ∧ w = w' := by
  go_enter Try.func43, Try.ntmps43
  go_wp2_with (go_at_call 54; refine (specDigits_c _ (by assumption) _).mono ?_; rintro e w' ⟨rfl, rfl⟩)
  · have h1 : digitsB a = true := by assumption
    have h2 : digitsB b = true := by assumption
    have h3 : ((a.size : Int) != (b.size : Int)) = true := by assumption
    have h4 : ¬ a.size = b.size := by simp at h3; omega
    go_ret
    exact ⟨ret_bool (by rw [lessPart, h1, h2, if_pos (by rfl), if_neg h4]), rfl⟩
  · have h1 : digitsB a = true := by assumption
    have h2 : digitsB b = true := by assumption
    have h3 : ((a.size : Int) != (b.size : Int)) = false := by assumption
    have h4 : a.size = b.size := by simp at h3; omega
    go_ret
    exact ⟨ret_bool (by rw [lessPart, h1, h2, if_pos (by rfl), if_pos h4]; rfl), rfl⟩
  · have h1 : digitsB a = true := by assumption
    have h2 : digitsB b = false := by assumption
    go_ret
    exact ⟨ret_bool (by rw [lessPart, h1, h2]; rfl), rfl⟩
  · have h1 : ¬ digitsB a = true := by assumption
    have h2 : digitsB b = true := by assumption
    have h3 : digitsB a = false := by simpa using h1
    go_ret
    exact ⟨ret_bool (by rw [lessPart, h2, h3]; rfl), rfl⟩
  · have h1 : ¬ digitsB a = true := by assumption
    have h2 : digitsB b = false := by assumption
    have h3 : digitsB a = false := by simpa using h1
    go_ret
    exact ⟨ret_bool (by rw [lessPart, h2, h3]; rfl), rfl⟩
end Go.Proofs.Ytablcicfagmhpaa

/-! What SameVer answers, the program's and the specification's: contracts for the walks; conditions: the lists of texts lie in memory as told, and are no longer than 2 to the 40. -/
namespace Go.Proofs.Ytablcicfagmhpaa
open Go.RowKit
set_option linter.unusedSimpArgs false
set_option linter.unusedVariables false

theorem boxes_pre {w w1 : World} {c0 c1 c2 c3 d0 d1 d2 d3 : Value} {t t' : TypeId} (hb : Below ((w.alloc (.cells #[c0, c1, c2, c3] t)).alloc (.cells #[d0, d1, d2, d3] t')).heap.size ((w.alloc (.cells #[c0, c1, c2, c3] t)).alloc (.cells #[d0, d1, d2, d3] t')) w1) :
    w1.cell? ⟨w.heap.size, 3, none⟩ = some c3 ∧ w1.cell? ⟨w.heap.size + 1, 3, none⟩ = some d3 := by
  have s1 : ∀ o, (w.alloc o).heap.size = w.heap.size + 1 := fun o => by simp
  refine ⟨?_, ?_⟩
  · rw [hb.cell (p := ⟨w.heap.size, 3, none⟩) (by simp; omega)]
    exact vblk_cell ((vheap_old _ _ (by simp)).trans (vheap_new _ _)) 3
  · rw [hb.cell (p := ⟨w.heap.size + 1, 3, none⟩) (by simp)]
    have h := vheap_new (w.alloc (.cells #[c0, c1, c2, c3] t)) (.cells #[d0, d1, d2, d3] t')
    rw [s1] at h
    exact vblk_cell h 3


def coreB (a b c a' b' c' : Int) : Bool := a == a' && b == b' && c == c'
def sameB (a b c : Int) (ps : List ByteArray) (a' b' c' : Int) (ps' : List ByteArray) : Bool := coreB a b c a' b' c' && decide (ps = ps')

theorem two_box {w : World} (o o' : Obj) : Below w.heap.size w ((w.alloc o).alloc o') := ((Below.refl _ _).alloc (Nat.le_refl _) _).alloc (by simp) _

end Go.Proofs.Ytablcicfagmhpaa

/-! What LessVer answers, the program's and the specification's: contracts for the walks; conditions: the lists of texts lie in memory as told, and hold no more than 2 to the 20. -/
namespace Go.Proofs.Ytablcicfagmhpaa
open Go.RowKit
set_option linter.unusedSimpArgs false
set_option linter.unusedVariables false

theorem orI_drop (zs : List Int) (k : Nat) (h : k < zs.length) : orI (zs.drop k) = if zs[k] = 0 then orI (zs.drop (k + 1)) else zs[k] := by
  rw [List.drop_eq_getElem_cons h, orI]

set_option maxHeartbeats 1000000 in
theorem or_c (zs : List Int) (B cap : Nat) (w : World) (hn : zs.length ≤ 1048576) (hcap : zs.length ≤ cap) (hc : ∀ k (h : k < zs.length), w.cell? ⟨B, k, none⟩ = some (.int .i64 zs[k])) :
    Calls Try.prog 35 #[.slice (some ⟨B, 0, none⟩) zs.length cap] w fun e w' => e = .returned (.int .i64 (orI zs)) ∧ w = w' := by
  go_enter Try.func35, Try.ntmps35
  go_wp2
  go_loop [5, 8] (fun _ vi => ∃ k : Nat, k ≤ zs.length ∧ vi = .int .i64 (k : Int) ∧ Hid (orI zs = orI (zs.drop k))) (fun _ vi => zs.length - (intOf vi).toNat)
  case atStart => exact ⟨0, Nat.zero_le _, rfl, rfl⟩
  case round =>
    obtain ⟨k, hk, rfl, hh⟩ := hrel
    by_cases hlt : k < zs.length
    · have hcx := hc k hlt
      have HD : Hid (orI (zs.drop k) = if zs[k] = 0 then orI (zs.drop (k + 1)) else zs[k]) := orI_drop zs k hlt
      obtain ⟨z, hz⟩ : ∃ z, z = zs[k] := ⟨_, rfl⟩
      rw [← hz] at hcx
      have HZ : Hid (z = zs[k]) := hz
      have hki : (k : Int) < (zs.length : Int) := by omega
      clear hc hz
      go_wp2
      · have h1 : (z != 0) = true := by assumption
        have h2 : ¬ z = 0 := by simpa using h1
        go_ret
        exact ⟨ret_int (by rw [hh.out, HD.out, ← HZ.out, if_neg h2]), rfl⟩
      · have h1 : (z != 0) = false := by assumption
        have h2 : z = 0 := by simpa using h1
        have HN : Hid (orI zs = orI (zs.drop (k + 1))) := by show _ = _; rw [hh.out, HD.out, ← HZ.out, if_pos h2]
        clear h2
        go_round
        case rel => exact ⟨k + 1, by omega, by go_num, HN⟩
        case measure => simp [intOf]; omega
    · have he : k = zs.length := by omega
      subst he
      clear hc
      have HE : Hid (orI zs = 0) := by show _ = _; rw [hh.out, List.drop_length]; rfl
      go_wp2
      go_ret
      exact ⟨ret_int HE.out.symm, rfl⟩

theorem two_cells (w : World) (x y : Int) (t : TypeId) : ∀ k (h : k < [x, y].length), (w.alloc (.cells #[.int .i64 x, .int .i64 y] t)).cell? ⟨w.heap.size, k, none⟩ = some (.int .i64 [x, y][k]) := fun k h => by
  have e := vblk_cell (vheap_new w (.cells #[.int .i64 x, .int .i64 y] t)) k
  rw [e]
  match k, h with
  | 0, _ => rfl
  | 1, _ => rfl
theorem three_cells (w : World) (x y z : Int) (t : TypeId) : ∀ k (h : k < [x, y, z].length), (w.alloc (.cells #[.int .i64 x, .int .i64 y, .int .i64 z] t)).cell? ⟨w.heap.size, k, none⟩ = some (.int .i64 [x, y, z][k]) := fun k h => by
  have e := vblk_cell (vheap_new w (.cells #[.int .i64 x, .int .i64 y, .int .i64 z] t)) k
  rw [e]
  match k, h with
  | 0, _ => rfl
  | 1, _ => rfl
  | 2, _ => rfl

set_option maxHeartbeats 1000000 in
theorem comparePart_c (a b : ByteArray) (ha : a.size ≤ maxLen) (hb : b.size ≤ maxLen) (w : World) :
    Calls Try.prog 38 #[.string a, .string b] w fun e w' => e = .returned (.int .i64 (cmpPart a b)) ∧ Below w.heap.size w w' := by
  have HA : Hid (∀ w1, Calls Try.prog 50 #[.string a] w1 fun e w' => e = .returned (.bool (digitsB a)) ∧ w1 = w') := fun w1 => implDigits_c a ha w1
  have HB : Hid (∀ w1, Calls Try.prog 50 #[.string b] w1 fun e w' => e = .returned (.bool (digitsB b)) ∧ w1 = w') := fun w1 => implDigits_c b hb w1
  unfold maxLen at ha hb
  cases h1 : digitsB a <;> cases h2 : digitsB b
  · have e : cmpPart a b = cmpS a b := by rw [cmpPart, h1, h2]; rfl
    rw [e]
    rw [h1] at HA
    rw [h2] at HB
    go_enter Try.func38, Try.ntmps38
    go_wp2_with fail
    go_at_call 50
    refine (HA.out _).mono ?_
    rintro e w' ⟨rfl, rfl⟩
    go_wp2_with fail
    go_at_call 50
    refine (HB.out _).mono ?_
    rintro e w' ⟨rfl, rfl⟩
    go_wp2_with (go_at_call 51; refine (compareStr_c _ _ _).mono ?_; rintro e w' ⟨rfl, rfl⟩)
    go_ret
    exact ⟨rfl, Below.refl _ _⟩
  · have e : cmpPart a b = 1 := by rw [cmpPart, h1, h2]; rfl
    rw [e]
    rw [h1] at HA
    rw [h2] at HB
    go_enter Try.func38, Try.ntmps38
    go_wp2_with fail
    go_at_call 50
    refine (HA.out _).mono ?_
    rintro e w' ⟨rfl, rfl⟩
    go_wp2_with fail
    go_at_call 50
    refine (HB.out _).mono ?_
    rintro e w' ⟨rfl, rfl⟩
    go_wp2
    go_ret
    exact ⟨rfl, Below.refl _ _⟩
  · have e : cmpPart a b = -1 := by rw [cmpPart, h1, h2]; rfl
    rw [e]
    rw [h1] at HA
    rw [h2] at HB
    go_enter Try.func38, Try.ntmps38
    go_wp2_with fail
    go_at_call 50
    refine (HA.out _).mono ?_
    rintro e w' ⟨rfl, rfl⟩
    go_wp2_with fail
    go_at_call 50
    refine (HB.out _).mono ?_
    rintro e w' ⟨rfl, rfl⟩
    go_wp2
    go_ret
    exact ⟨rfl, Below.refl _ _⟩
  · have e : cmpPart a b = orI [cmpI a.size b.size, cmpS a b] := by rw [cmpPart, h1, h2]; rfl
    rw [e]
    rw [h1] at HA
    rw [h2] at HB
    clear e
    go_enter Try.func38, Try.ntmps38
    go_wp2_with fail
    go_at_call 50
    refine (HA.out _).mono ?_
    rintro e w' ⟨rfl, rfl⟩
    go_wp2_with fail
    go_at_call 50
    refine (HB.out _).mono ?_
    rintro e w' ⟨rfl, rfl⟩
    go_wp2_with (first
      | (go_at_call 51; refine (compareStr_c _ _ _).mono ?_; rintro e w' ⟨rfl, rfl⟩)
      | (go_at_call 36; refine (compareInt_c _ _ _).mono ?_; rintro e w' ⟨rfl, rfl⟩)
      | (go_at_call 35; refine (or_c [cmpI a.size b.size, cmpS a b] _ _ _ (by simp) (by simp) (two_cells _ _ _ _)).mono ?_; rintro e w' ⟨rfl, rfl⟩))
    go_ret
    exact ⟨rfl, (Below.refl _ _).alloc (Nat.le_refl _) _⟩
end Go.Proofs.Ytablcicfagmhpaa

/-! What LessVer answers, the program's: contracts for the walks; conditions: the lists of texts lie in memory as told, and hold no more than 2 to the 20. -/
namespace Go.Proofs.Ytablcicfagmhpaa
open Go.RowKit
set_option linter.unusedSimpArgs false
set_option linter.unusedVariables false

theorem cmpPre_at (ps ps' : List ByteArray) (k : Nat) (h : k < ps.length) (h' : k < ps'.length) : cmpPre (ps.drop k) (ps'.drop k) = if cmpPart ps[k] ps'[k] = 0 then cmpPre (ps.drop (k + 1)) (ps'.drop (k + 1)) else cmpPart ps[k] ps'[k] := by
  rw [List.drop_eq_getElem_cons h, List.drop_eq_getElem_cons h', cmpPre]
theorem cmpPre_past (ps ps' : List ByteArray) (k : Nat) (h : k < ps.length) (h' : ¬ k < ps'.length) : cmpPre (ps.drop k) (ps'.drop k) = 1 := by
  rw [List.drop_eq_getElem_cons h, List.drop_eq_nil_of_le (show ps'.length ≤ k by omega), cmpPre]
theorem cmpPre_end (ps ps' : List ByteArray) : cmpPre (ps.drop ps.length) (ps'.drop ps.length) = if ps.length < ps'.length then -1 else 0 := by
  rw [List.drop_length]
  by_cases h : ps.length < ps'.length
  · rw [List.drop_eq_getElem_cons h, cmpPre, if_pos h]
  · rw [List.drop_eq_nil_of_le (show ps'.length ≤ ps.length by omega), cmpPre, if_neg h]

set_option maxHeartbeats 1000000 in
set_option maxRecDepth 100000 in
theorem compareFunc_c (u u' : Value) (ps ps' : List ByteArray) (w : World) (hu : Reads w u (strsV ps)) (hu' : Reads w u' (strsV ps')) (hb : bulkS ps ≤ 1048576) (hb' : bulkS ps' ≤ 1048576) :
    Calls Try.prog 37 #[u, u', .func (.func 38) #[] #[]] w fun e w' => e = .returned (.int .i64 (cmpPre ps ps')) ∧ Below w.heap.size w w' := by
  have hsz : ∀ s ∈ ps, s.size ≤ maxLen := fun s hs => by have := size_of_bulk hs; unfold maxLen; omega
  have hsz' : ∀ s ∈ ps', s.size ≤ maxLen := fun s hs => by have := size_of_bulk hs; unfold maxLen; omega
  have hn : ps.length ≤ 1048576 := by unfold bulkS at hb; omega
  have hn' : ps'.length ≤ 1048576 := by unfold bulkS at hb'; omega
  obtain ⟨q, cap, rfl, _, hc⟩ := reads_strs hu
  obtain ⟨q', cap', rfl, _, hc'⟩ := reads_strs hu'
  clear hu hu' hb hb'
  go_enter Try.func37, Try.ntmps37
  go_wp2
  go_loopw [7, 8, 9, 10, 13] (fun _ _ _ _ vi wr => ∃ k : Nat, k ≤ ps.length ∧ vi = .int .i64 (k : Int) ∧ Hid (cmpPre (ps.drop k) (ps'.drop k) = cmpPre ps ps') ∧ Below w.heap.size w wr) (fun _ _ _ _ vi _ => ps.length - (intOf vi).toNat)
  case atStart => exact ⟨0, Nat.zero_le _, rfl, rfl, Below.refl _ _⟩
  case round =>
    obtain ⟨k, hk, rfl, hh, hbr⟩ := hrel
    by_cases hlt : k < ps.length
    · rcases hc with rfl | ⟨bl, off, rfl, hlb, hc⟩
      · simp at hlt
      have hcx : wr.cell? ⟨bl, off + k, none⟩ = some (.string ps[k]) := (hbr.cell (p := ⟨bl, off + k, none⟩) hlb).trans (hc k hlt)
      have hsk := hsz ps[k] (List.getElem_mem hlt)
      obtain ⟨t, ht⟩ : ∃ t, t = ps[k] := ⟨_, rfl⟩
      rw [← ht] at hcx hsk
      have HT : Hid (t = ps[k]) := ht
      have hki : (k : Int) < (ps.length : Int) := by omega
      clear hc hsz ht
      by_cases hlt' : k < ps'.length
      · rcases hc' with rfl | ⟨bl', off', rfl, hlb', hc'⟩
        · simp at hlt'
        have hcx' : wr.cell? ⟨bl', off' + k, none⟩ = some (.string ps'[k]) := (hbr.cell (p := ⟨bl', off' + k, none⟩) hlb').trans (hc' k hlt')
        have hsk' := hsz' ps'[k] (List.getElem_mem hlt')
        obtain ⟨t', ht'⟩ : ∃ t, t = ps'[k] := ⟨_, rfl⟩
        rw [← ht'] at hcx' hsk'
        have HT' : Hid (t' = ps'[k]) := ht'
        have hki' : (k : Int) < (ps'.length : Int) := by omega
        have HP : Hid (cmpPre (ps.drop k) (ps'.drop k) = if cmpPart t t' = 0 then cmpPre (ps.drop (k + 1)) (ps'.drop (k + 1)) else cmpPart t t') := by rw [HT.out, HT'.out]; exact cmpPre_at ps ps' k hlt hlt'
        clear hc' hsz' ht'
        obtain ⟨z, hz⟩ : ∃ z, z = cmpPart t t' := ⟨_, rfl⟩
        have HC : Hid (∀ w1, Calls Try.prog 38 #[.string t, .string t'] w1 fun e w' => e = .returned (.int .i64 z) ∧ Below w1.heap.size w1 w') := fun w1 => by rw [hz]; exact comparePart_c t t' hsk hsk' w1
        rw [← hz] at HP
        clear hz
        go_wp2_with (go_at_call 38; refine (HC.out _).mono ?_; rintro e w1 ⟨rfl, b1⟩)
        · have h1 : (z != 0) = true := by assumption
          have h2 : ¬ z = 0 := by simpa using h1
          go_ret
          exact ⟨ret_int (by rw [← hh.out, HP.out, if_neg h2]), hbr.trans (b1.mono hbr.size)⟩
        · have h1 : (z != 0) = false := by assumption
          have h2 : z = 0 := by simpa using h1
          have HN : Hid (cmpPre (ps.drop (k + 1)) (ps'.drop (k + 1)) = cmpPre ps ps') := by show _ = _; rw [← hh.out, HP.out, if_pos h2]
          clear h2
          go_roundw
          case rel => exact ⟨k + 1, by omega, by go_num, HN, hbr.trans (b1.mono hbr.size)⟩
          case measure => simp [intOf]; omega
      · have hki' : ¬ (k : Int) < (ps'.length : Int) := by omega
        have hki2 : (ps'.length : Int) ≤ (k : Int) := by omega
        clear hc' hsz'
        go_wp2
        go_ret
        exact ⟨ret_int (by rw [← hh.out]; exact (cmpPre_past ps ps' k hlt hlt').symm), hbr⟩
    · have he : k = ps.length := by omega
      subst he
      have HE : Hid (cmpPre ps ps' = if ps.length < ps'.length then -1 else 0) := by show _ = _; rw [← hh.out]; exact cmpPre_end ps ps'
      clear hc hc' hsz hsz'
      by_cases hl : ps.length < ps'.length
      · have hl' : (ps.length : Int) < (ps'.length : Int) := by omega
        go_wp2
        go_ret
        exact ⟨ret_int (by rw [HE.out, if_pos hl]), hbr⟩
      · have hl' : ¬ (ps.length : Int) < (ps'.length : Int) := by omega
        go_wp2
        go_ret
        exact ⟨ret_int (by rw [HE.out, if_neg hl]), hbr⟩

theorem three_cells_d (w : World) (x y z : Int) (t : TypeId) : ∀ k (h : k < [x, y, z].length), (w.alloc (.cells #[.int .i64 x, .int .i64 y, .int .i64 z] t)).drew.cell? ⟨w.heap.size, k, none⟩ = some (.int .i64 [x, y, z][k]) := three_cells w x y z t

set_option maxHeartbeats 2000000 in
set_option maxRecDepth 100000 in
theorem compareVers_c (a b c : Int) (u : Value) (ps : List ByteArray) (a' b' c' : Int) (u' : Value) (ps' : List ByteArray) (w : World) (hu : Reads w u (strsV ps)) (hu' : Reads w u' (strsV ps')) (hb : bulkS ps ≤ 1048576) (hb' : bulkS ps' ≤ 1048576) :
    Calls Try.prog 18 #[.agg #[.int .i64 a, .int .i64 b, .int .i64 c, u], .agg #[.int .i64 a', .int .i64 b', .int .i64 c', u']] w fun e w' => e = .returned (.int .i64 (cmpVer a b c ps a' b' c' ps')) ∧ Below w.heap.size w w' := by
  have HF : Hid (∀ w1, Below w.heap.size w w1 → Calls Try.prog 37 #[u, u', .func (.func 38) #[] #[]] w1 fun e w' => e = .returned (.int .i64 (cmpPre ps ps')) ∧ Below w1.heap.size w1 w') := fun w1 h => compareFunc_c u u' ps ps' w1 (hu.below h) (hu'.below h) hb hb'
  have hn : ps.length ≤ 1048576 := by unfold bulkS at hb; omega
  have hn' : ps'.length ≤ 1048576 := by unfold bulkS at hb'; omega
  obtain ⟨q, cap, rfl, _, _⟩ := reads_strs hu
  obtain ⟨q', cap', rfl, _, _⟩ := reads_strs hu'
  clear hu hu' hb hb'
  obtain ⟨x, hx⟩ : ∃ x, x = orI [cmpI a a', cmpI b b', cmpI c c'] := ⟨_, rfl⟩
  have HV : Hid (cmpVer a b c ps a' b' c' ps' = if x = 0 then (if ps.length = 0 ∨ ps'.length = 0 then cmpI ps'.length ps.length else cmpPre ps ps') else x) := by show _ = _; rw [cmpVer, ← hx]
  have HO : Hid (∀ B w1, (∀ k (h : k < [cmpI a a', cmpI b b', cmpI c c'].length), w1.cell? ⟨B, k, none⟩ = some (.int .i64 [cmpI a a', cmpI b b', cmpI c c'][k])) → Calls Try.prog 35 #[.slice (some ⟨B, 0, none⟩) 3 3] w1 fun e w' => e = .returned (.int .i64 x) ∧ w1 = w') := fun B w1 h => by rw [hx]; exact or_c [cmpI a a', cmpI b b', cmpI c c'] B 3 w1 (by simp) (by simp) h
  clear hx
  have hb3 : ∀ A R O, Below w.heap.size w (((w.alloc A).alloc R).alloc O) := fun A R O => (((Below.refl _ _).alloc (Nat.le_refl _) _).alloc (by simp) _).alloc (by simp; omega) _
  go_enter Try.func18, Try.ntmps18
  go_wp2_with fail
  obtain ⟨A0, B0⟩ := four_two w 37 37 (.int .i64 a) (.int .i64 b) (.int .i64 c) (.slice q ps.length cap) (.int .i64 a') (.int .i64 b') (.int .i64 c') (.slice q' ps'.length cap')
  have hW := two_box (w := w) (.cells #[.int .i64 a, .int .i64 b, .int .i64 c, .slice q ps.length cap] 37) (.cells #[.int .i64 a', .int .i64 b', .int .i64 c', .slice q' ps'.length cap'] 37)
  generalize ((w.alloc (.cells #[.int .i64 a, .int .i64 b, .int .i64 c, .slice q ps.length cap] 37)).alloc (.cells #[.int .i64 a', .int .i64 b', .int .i64 c', .slice q' ps'.length cap'] 37)) = W0 at A0 B0 hW ⊢
  obtain ⟨x0, x1, x2, x3⟩ := A0.cells
  obtain ⟨y0, y1, y2, y3⟩ := B0.cells
  have la := A0.lt
  have lb := B0.lt
  go_region_held (fun w' => w'.cell? ⟨w.heap.size, 0, none⟩ = some (.int .i64 a) ∧ w'.cell? ⟨w.heap.size, 1, none⟩ = some (.int .i64 b) ∧ w'.cell? ⟨w.heap.size, 2, none⟩ = some (.int .i64 c) ∧ w'.cell? ⟨w.heap.size, 3, none⟩ = some (.slice q ps.length cap) ∧ w'.cell? ⟨w.heap.size + 1, 0, none⟩ = some (.int .i64 a') ∧ w'.cell? ⟨w.heap.size + 1, 1, none⟩ = some (.int .i64 b') ∧ w'.cell? ⟨w.heap.size + 1, 2, none⟩ = some (.int .i64 c') ∧ w'.cell? ⟨w.heap.size + 1, 3, none⟩ = some (.slice q' ps'.length cap')) (go_keep) (first
    | (go_at_call 36
       refine (compareInt_c _ _ _).mono ?_
       rintro e w1 ⟨rfl, rfl⟩)
    | (go_at_call 35
       refine (HO.out _ _ (three_cells_d _ _ _ _ _)).mono ?_
       rintro e w1 ⟨rfl, rfl⟩))
  have hW2 : ∀ o, Below w.heap.size w (W0.alloc o).drew := fun o => (hW.alloc hW.size _).drew
  by_cases h0 : x = 0
  · have HV2 : Hid (cmpVer a b c ps a' b' c' ps' = if ps.length = 0 ∨ ps'.length = 0 then cmpI ps'.length ps.length else cmpPre ps ps') := by show _ = _; rw [HV.out, if_pos h0]
    subst h0
    clear HV HO
    by_cases hp : ps.length = 0
    · have hp1 : ((ps.length : Int) == 0) = true := by simp [hp]
      have HP : Hid (cmpVer a b c ps a' b' c' ps' = cmpI ps'.length ps.length) := by show _ = _; rw [HV2.out, if_pos (.inl hp)]
      clear hp
      go_wp2_with (go_at_call 36; refine (compareInt_c _ _ _).mono ?_; rintro e w1 ⟨rfl, rfl⟩)
      go_ret
      exact ⟨ret_int HP.out.symm, hW2 _⟩
    · have hp1 : ((ps.length : Int) == 0) = false := by rw [beq_eq_false_iff_ne]; omega
      by_cases hp' : ps'.length = 0
      · have hp2 : ((ps'.length : Int) == 0) = true := by simp [hp']
        have HP : Hid (cmpVer a b c ps a' b' c' ps' = cmpI ps'.length ps.length) := by show _ = _; rw [HV2.out, if_pos (.inr hp')]
        clear hp hp'
        go_wp2_with (go_at_call 36; refine (compareInt_c _ _ _).mono ?_; rintro e w1 ⟨rfl, rfl⟩)
        go_ret
        exact ⟨ret_int HP.out.symm, hW2 _⟩
      · have hp2 : ((ps'.length : Int) == 0) = false := by rw [beq_eq_false_iff_ne]; omega
        have HP : Hid (cmpVer a b c ps a' b' c' ps' = cmpPre ps ps') := by show _ = _; rw [HV2.out, if_neg (by omega)]
        clear hp hp'
        go_wp2_with (go_at_call 37; refine (HF.out _ (hW2 _)).mono ?_; rintro e w1 ⟨rfl, b1⟩)
        go_ret
        exact ⟨ret_int HP.out.symm, (hW2 _).trans (b1.mono (hW2 _).size)⟩
  · have h1 : (x != 0) = true := by simpa using h0
    go_wp2
    go_ret
    exact ⟨ret_int (by rw [HV.out, if_neg h0]), hW2 _⟩

end Go.Proofs.Ytablcicfagmhpaa

/-! What LessVer answers, the specification's: contracts for the walks; conditions: the lists of texts lie in memory as told, and hold no more than 2 to the 20. -/
namespace Go.Proofs.Ytablcicfagmhpaa
open Go.RowKit
set_option linter.unusedSimpArgs false
set_option linter.unusedVariables false

theorem quiet_ver {P : Program} {f : FuncId} {args : Array Value} {w : World} {n : Nat} {v : Value}
    (h : Calls P f args (w.drewN n) fun e w' => e = .returned v ∧ w.drewN n = w') : Calls P f args (w.drewN n) fun e w'' => e = .returned v ∧ ∃ m, w'' = w.drewN m :=
  h.mono fun _ _ ⟨he, hm⟩ => ⟨he, n, hm.symm⟩

theorem lessGo_at (ps ps' : List ByteArray) (k : Nat) (h : k < ps.length) (h' : k < ps'.length) : lessGo (ps.drop k) (ps'.drop k) = if ps[k] = ps'[k] then lessGo (ps.drop (k + 1)) (ps'.drop (k + 1)) else lessPart ps[k] ps'[k] := by
  rw [List.drop_eq_getElem_cons h, List.drop_eq_getElem_cons h', lessGo]
theorem lessGo_end (ps ps' : List ByteArray) (k : Nat) (h : k ≤ ps.length) (h' : k ≤ ps'.length) (he : ¬ (k < ps.length ∧ k < ps'.length)) : lessGo (ps.drop k) (ps'.drop k) = decide (ps.length < ps'.length) := by
  by_cases hk : k < ps.length
  · have : ps'.length = k := by omega
    rw [List.drop_eq_getElem_cons hk, List.drop_eq_nil_of_le (show ps'.length ≤ k by omega), lessGo, Bool.eq_iff_iff]
    simp; omega
  · rw [List.drop_eq_nil_of_le (show ps.length ≤ k by omega), lessGo, Bool.eq_iff_iff]
    simp; omega

set_option maxHeartbeats 1000000 in
set_option maxRecDepth 100000 in
theorem lessPre_c (u u' : Value) (ps ps' : List ByteArray) (w : World) (hu : Reads w u (strsV ps)) (hu' : Reads w u' (strsV ps')) (hb : bulkS ps ≤ 1048576) (hb' : bulkS ps' ≤ 1048576) :
    Calls Try.prog 28 #[u, u'] w fun e w' => e = .returned (.bool (lessPre ps ps')) ∧ Below w.heap.size w w' := by
  have hsz : ∀ s ∈ ps, s.size ≤ maxLen := fun s hs => by have := size_of_bulk hs; unfold maxLen; omega
  have hsz' : ∀ s ∈ ps', s.size ≤ maxLen := fun s hs => by have := size_of_bulk hs; unfold maxLen; omega
  have hn : ps.length ≤ 1048576 := by unfold bulkS at hb; omega
  have hn' : ps'.length ≤ 1048576 := by unfold bulkS at hb'; omega
  obtain ⟨q, cap, rfl, _, hc⟩ := reads_strs hu
  obtain ⟨q', cap', rfl, _, hc'⟩ := reads_strs hu'
  clear hu hu' hb hb'
  by_cases hp : ps.length = 0
  · have hp1 : ((ps.length : Int) == 0) = true := by simp [hp]
    have hp2 : ¬ (0 : Int) < (ps.length : Int) := by omega
    have HP : Hid (lessPre ps ps' = false) := by show _ = _; rw [lessPre, if_pos (.inl hp)]; simp [hp]
    clear hp hc hc'
    go_enter Try.func28, Try.ntmps28
    go_wp2
    go_ret
    exact ⟨ret_bool HP.out.symm, Below.refl _ _⟩
  have hp1 : ((ps.length : Int) == 0) = false := by rw [beq_eq_false_iff_ne]; omega
  by_cases hp' : ps'.length = 0
  · have hp2 : ((ps'.length : Int) == 0) = true := by simp [hp']
    have hp3 : (0 : Int) < (ps.length : Int) := by omega
    have HP : Hid (lessPre ps ps' = true) := by show _ = _; rw [lessPre, if_pos (.inr hp')]; simp [hp']; omega
    clear hp hp' hc hc'
    go_enter Try.func28, Try.ntmps28
    go_wp2
    go_ret
    exact ⟨ret_bool HP.out.symm, Below.refl _ _⟩
  have hp2 : ((ps'.length : Int) == 0) = false := by rw [beq_eq_false_iff_ne]; omega
  have HP : Hid (lessPre ps ps' = lessGo ps ps') := by show _ = _; rw [lessPre, if_neg (by omega)]
  rcases hc with rfl | ⟨bl, off, rfl, hlb, hc⟩
  · simp at hp
  rcases hc' with rfl | ⟨bl', off', rfl, hlb', hc'⟩
  · simp at hp'
  clear hp hp'
  go_enter Try.func28, Try.ntmps28
  go_wp2
  go_loopw [5] (fun vi wr => ∃ k : Nat, k ≤ ps.length ∧ k ≤ ps'.length ∧ vi = .int .i64 (k : Int) ∧ Hid (lessGo (ps.drop k) (ps'.drop k) = lessGo ps ps') ∧ Below w.heap.size w wr) (fun vi _ => ps.length - (intOf vi).toNat)
  case atStart => exact ⟨0, Nat.zero_le _, Nat.zero_le _, rfl, rfl, Below.refl _ _⟩
  case round =>
    obtain ⟨k, hk, hk', rfl, hh, hbr⟩ := hrel
    by_cases hlt : k < ps.length
    · have hki : (k : Int) < (ps.length : Int) := by omega
      by_cases hlt' : k < ps'.length
      · have hki' : (k : Int) < (ps'.length : Int) := by omega
        have hcx : wr.cell? ⟨bl, off + k, none⟩ = some (.string ps[k]) := (hbr.cell (p := ⟨bl, off + k, none⟩) hlb).trans (hc k hlt)
        have hsk := hsz ps[k] (List.getElem_mem hlt)
        have hcx' : wr.cell? ⟨bl', off' + k, none⟩ = some (.string ps'[k]) := (hbr.cell (p := ⟨bl', off' + k, none⟩) hlb').trans (hc' k hlt')
        have hsk' := hsz' ps'[k] (List.getElem_mem hlt')
        have HG := lessGo_at ps ps' k hlt hlt'
        obtain ⟨t, ht⟩ : ∃ t, t = ps[k] := ⟨_, rfl⟩
        obtain ⟨t', ht'⟩ : ∃ t, t = ps'[k] := ⟨_, rfl⟩
        rw [← ht] at hcx hsk HG
        rw [← ht'] at hcx' hsk' HG
        have HG : Hid (lessGo (ps.drop k) (ps'.drop k) = if t = t' then lessGo (ps.drop (k + 1)) (ps'.drop (k + 1)) else lessPart t t') := HG
        clear hc hc' hsz hsz' ht ht'
        by_cases hne : t = t'
        · have hq : (!t.toList == t'.toList) = false := by rw [hne]; simp
          have HN : Hid (lessGo (ps.drop (k + 1)) (ps'.drop (k + 1)) = lessGo ps ps') := by show _ = _; rw [← hh.out, HG.out, if_pos hne]
          clear hne
          go_wp2
          go_quiet (fail)
          go_wp2
          go_roundw
          case rel => exact ⟨k + 1, by omega, by omega, by go_num, HN, below_drewN' hbr _⟩
          case measure => simp [intOf]; omega
        · have hq : (!t.toList == t'.toList) = true := by
            have : ¬ t.toList = t'.toList := fun e => hne (bytes_eq_of_toList e)
            simpa using this
          have HQ : Hid (∀ w1, Calls Try.prog 43 #[.string t, .string t'] w1 fun e w' => e = .returned (.bool (lessPart t t')) ∧ w1 = w') := fun w1 => specLessPart_c t t' hsk hsk' w1
          have HN : Hid (lessPart t t' = lessPre ps ps') := by show _ = _; rw [HP.out, ← hh.out, HG.out, if_neg hne]
          clear hne
          go_wp2
          go_quiet (fail)
          go_wp2
          have hbr2 := below_drewN' hbr nq
          have hcz : (wr.drewN nq).cell? ⟨bl, off + k, none⟩ = some (.string t) := hcx
          have hcz' : (wr.drewN nq).cell? ⟨bl', off' + k, none⟩ = some (.string t') := hcx'
          generalize wr.drewN nq = W1 at hbr2 hcz hcz' ⊢
          clear hcx hcx' hbr
          go_quiet (first | (go_at_call 43; exact quiet_ver (HQ.out _)))
          go_wp2
          go_ret
          exact ⟨ret_bool HN.out, below_drewN' hbr2 _⟩
      · have hki' : ¬ (k : Int) < (ps'.length : Int) := by omega
        have HE : Hid (lessPre ps ps' = decide (ps.length < ps'.length)) := by show _ = _; rw [HP.out, ← hh.out]; exact lessGo_end ps ps' k hk hk' (by omega)
        clear hc hc' hsz hsz'
        go_wp2
        go_ret
        exact ⟨ret_bool (by rw [HE.out, Bool.eq_iff_iff]; first | done | simp), hbr⟩
    · have hki : ¬ (k : Int) < (ps.length : Int) := by omega
      have HE : Hid (lessPre ps ps' = decide (ps.length < ps'.length)) := by show _ = _; rw [HP.out, ← hh.out]; exact lessGo_end ps ps' k hk hk' (by omega)
      clear hc hc' hsz hsz'
      go_wp2
      go_ret
      exact ⟨ret_bool (by rw [HE.out, Bool.eq_iff_iff]; first | done | simp), hbr⟩

set_option maxHeartbeats 1000000 in
set_option maxRecDepth 100000 in
theorem specLess_c (a b c : Int) (u : Value) (ps : List ByteArray) (a' b' c' : Int) (u' : Value) (ps' : List ByteArray) (w : World) (hu : Reads w u (strsV ps)) (hu' : Reads w u' (strsV ps')) (hb : bulkS ps ≤ 1048576) (hb' : bulkS ps' ≤ 1048576) :
    Calls Try.prog 13 #[.agg #[.int .i64 a, .int .i64 b, .int .i64 c, u], .agg #[.int .i64 a', .int .i64 b', .int .i64 c', u']] w fun e w' => e = .returned (.bool (lessB a b c ps a' b' c' ps')) ∧ Below w.heap.size w w' := by
  have HF : Hid (∀ w1, Below w.heap.size w w1 → Calls Try.prog 28 #[u, u'] w1 fun e w' => e = .returned (.bool (lessPre ps ps')) ∧ Below w1.heap.size w1 w') := fun w1 h => lessPre_c u u' ps ps' w1 (hu.below h) (hu'.below h) hb hb'
  obtain ⟨q, cap, rfl, _, _⟩ := reads_strs hu
  obtain ⟨q', cap', rfl, _, _⟩ := reads_strs hu'
  clear hu hu' hb hb'
  by_cases ha : a = a'
  · by_cases hb : b = b'
    · by_cases hc : c = c'
      · have HE : Hid (lessB a b c ps a' b' c' ps' = lessPre ps ps') := by show _ = _; rw [lessB, if_pos ha, if_pos hb, if_pos hc]
        have e1 : (a != a') = false := by simp [ha]
        have e2 : (b != b') = false := by simp [hb]
        have e3 : (c != c') = false := by simp [hc]
        clear ha hb hc
        go_enter Try.func13, Try.ntmps13
        go_wp2_with (go_at_call 28; refine (HF.out _ (two_box _ _)).mono ?_; rintro e w1 ⟨rfl, b1⟩)
        go_ret
        exact ⟨ret_bool HE.out.symm, (two_box _ _).trans (b1.mono (by simp; omega))⟩
      · have HE : Hid (lessB a b c ps a' b' c' ps' = decide (c < c')) := by show _ = _; rw [lessB, if_pos ha, if_pos hb, if_neg hc]
        have e1 : (a != a') = false := by simp [ha]
        have e2 : (b != b') = false := by simp [hb]
        have e3 : (c != c') = true := by simpa using hc
        clear ha hb hc
        go_enter Try.func13, Try.ntmps13
        go_wp2
        go_ret
        exact ⟨ret_bool HE.out.symm, two_box _ _⟩
    · have HE : Hid (lessB a b c ps a' b' c' ps' = decide (b < b')) := by show _ = _; rw [lessB, if_pos ha, if_neg hb]
      have e1 : (a != a') = false := by simp [ha]
      have e2 : (b != b') = true := by simpa using hb
      clear ha hb
      go_enter Try.func13, Try.ntmps13
      go_wp2
      go_ret
      exact ⟨ret_bool HE.out.symm, two_box _ _⟩
  · have HE : Hid (lessB a b c ps a' b' c' ps' = decide (a < a')) := by show _ = _; rw [lessB, if_neg ha]
    have e1 : (a != a') = true := by simpa using ha
    clear ha
    go_enter Try.func13, Try.ntmps13
    go_wp2
    go_ret
    exact ⟨ret_bool HE.out.symm, two_box _ _⟩
end Go.Proofs.Ytablcicfagmhpaa

/-! Rows of entries whose parts are told one by one, and the order that the newest come first in: pure facts and what memory keeps; no condition. -/
namespace Go.Proofs.Ytablcicfagmhpaa
open Go.RowKit
set_option linter.unusedSimpArgs false
set_option linter.unusedVariables false

/-- An entry and its two lists, as values. -/
structure EC where
  d : EntryD
  u0 : Value
  u1 : Value
def EC.cells (p : EC) : List Value := [.string p.d.name, .int .i64 p.d.vA, .int .i64 p.d.vB, .int .i64 p.d.vC, p.u0, p.u1]
def flatE (ps : List EC) : List Value := ps.flatMap EC.cells
theorem flatE_length (ps : List EC) : (flatE ps).length = ps.length * 6 := by
  induction ps with
  | nil => rfl
  | cons p r ih => simp only [flatE, List.flatMap_cons, List.length_append, List.length_cons] at *; rw [ih]; simp [EC.cells]; omega
theorem flatE_append (a b : List EC) : flatE (a ++ b) = flatE a ++ flatE b := by simp [flatE]
theorem flatE_at (ps : List EC) (i : Nat) (h : i < ps.length) (j : Nat) (hj : j < 6) : (flatE ps)[i * 6 + j]? = (ps[i].cells)[j]? := by
  induction ps generalizing i with
  | nil => simp at h
  | cons p r ih =>
    show (p.cells ++ flatE r)[i * 6 + j]? = _
    have hc : p.cells.length = 6 := rfl
    cases i with
    | zero => rw [Nat.zero_mul, Nat.zero_add, List.getElem?_append_left (by omega)]; rfl
    | succ i =>
      rw [List.getElem?_append_right (by omega), hc, show (i + 1) * 6 + j - 6 = i * 6 + j by omega]
      exact ih i (by simpa using h)
theorem flatE_put (ps : List EC) (i : Nat) (h : i < ps.length) (p : EC) : putL (flatE ps) (i * 6) p.cells = flatE (ps.set i p) := by
  apply List.ext_getElem?
  intro m
  have hl := flatE_length ps
  have hc : p.cells.length = 6 := rfl
  by_cases hm : m < ps.length * 6
  · obtain ⟨q, r, rfl, h6⟩ : ∃ q r, m = q * 6 + r ∧ r < 6 := ⟨m / 6, m % 6, by omega, Nat.mod_lt _ (by omega)⟩
    have hq : q < ps.length := by omega
    by_cases hi : i = q
    · subst hi
      rw [flatE_at _ _ (by simpa using hq) _ h6, putL_in _ _ _ _ (by rw [hc, hl]; omega) (by rw [hc]; exact h6)]
      simp
    · rw [putL_out _ _ _ _ (by rw [hc]; omega), flatE_at _ _ hq _ h6, flatE_at _ _ (by simpa using hq) _ h6]
      simp [List.getElem_set, hi]
  · rw [List.getElem?_eq_none (by rw [putL_length, hl]; omega), List.getElem?_eq_none (by rw [flatE_length]; simp; omega)]

/-- What the two lists of an entry hold. -/
def EntOwn (w : World) (p : EC) : Prop := w.ownsRow 0 9 1 p.u0 p.d.vP.length (strsV p.d.vP) ∧ w.ownsRow 0 67 2 p.u1 p.d.needs.length (needsV p.d.needs)
theorem EntOwn.below {w w' : World} {p : EC} (h : EntOwn w p) (hb : Below w.heap.size w w') : EntOwn w' p := ⟨owns_of_belowN h.1 hb, owns_of_belowN h.2 hb⟩
theorem EntOwn.put {w : World} {p : EC} {lo n cap g j : Nat} {zs : List Value} {x : Value} (h : EntOwn w p) (hg : w.ownsRow lo 40 6 (.slice (some ⟨g, 0, none⟩) n cap) n zs) : EntOwn (w.setCell ⟨g, j, none⟩ x) p := ⟨own_put h.1 hg (by decide), own_put h.2 hg (by decide)⟩
theorem EntOwn.puts {p : EC} {lo n cap g : Nat} (cs : List Value) : ∀ {w : World} {zs : List Value} {j : Nat}, EntOwn w p → w.ownsRow lo 40 6 (.slice (some ⟨g, 0, none⟩) n cap) n zs → EntOwn (setW w g j cs) p := by
  induction cs with
  | nil => intro w zs j h _; exact h
  | cons c cs ih => intro w zs j h hg; exact ih (h.put hg) (hg.stored j c).1
theorem EntOwn.grown {w w' : World} {p : EC} {lo n : Nat} {v : Value} {zs : List Value} (h : EntOwn w p) (hv : w.ownsRow lo 40 6 v n zs) (hg : w.grownBy w' v.ownBlock) : EntOwn w' p := ⟨h.1.kept hg (owns_apart h.1 hv (by decide)), h.2.kept hg (owns_apart h.2 hv (by decide))⟩
/-- A row of entries that may be written. -/
def RowE (B : Nat) (w : World) (v : Value) (ps : List EC) : Prop := w.ownsRow B 40 6 v ps.length (flatE ps) ∧ ∀ p ∈ ps, EntOwn w p
theorem RowE.below {B : Nat} {w w' : World} {v : Value} {ps : List EC} (h : RowE B w v ps) (hb : Below w.heap.size w w') : RowE B w' v ps := ⟨owns_of_belowN h.1 hb, fun p hp => (h.2 p hp).below hb⟩
theorem RowE.set {B g cap : Nat} {w : World} {ps : List EC} (h : RowE B w (.slice (some ⟨g, 0, none⟩) ps.length cap) ps) {i : Nat} (hi : i < ps.length) {p : EC} (hp : EntOwn w p) : RowE B (setW w g (i * 6) p.cells) (.slice (some ⟨g, 0, none⟩) (ps.set i p).length cap) (ps.set i p) := by
  constructor
  · have h1 := setW_owns p.cells w (flatE ps) (i * 6) h.1
    rw [flatE_put ps i hi p] at h1
    rw [List.length_set]
    exact h1
  · intro q hq
    rcases List.mem_or_eq_of_mem_set hq with h2 | rfl
    · exact (h.2 q h2).puts p.cells h.1
    · exact hp.puts q.cells h.1
/-- The version of the first is less than that of the second. -/
def lessE (a b : EntryD) : Bool := lessB a.vA a.vB a.vC a.vP b.vA b.vB b.vC b.vP
/-- Where x comes to stand, gone through from the right. -/
def posR {α : Type} (f : α → α → Bool) (ys : List α) (x : α) : Nat → Nat
  | 0 => 0
  | k + 1 => if (ys[k]?.map fun y => f y x) = some true then posR f ys x k else k + 1
def lessC (a b : EC) : Bool := lessE a.d b.d
def insG {α : Type} (f : α → α → Bool) (ys : List α) (x : α) : List α := ys.take (posR f ys x ys.length) ++ x :: ys.drop (posR f ys x ys.length)
def newD (xs : List EntryD) (n : ByteArray) : List EntryD := (xs.filter fun d => decide (d.name = n)).foldl (insG lessE) []
theorem posR_step {α : Type} (f : α → α → Bool) (ys : List α) (x : α) (k : Nat) (h : k < ys.length) : posR f ys x (k + 1) = if f ys[k] x = true then posR f ys x k else k + 1 := by
  show (if (ys[k]?.map fun y => f y x) = some true then posR f ys x k else k + 1) = _
  rw [List.getElem?_eq_getElem h]
  simp
theorem posR_le {α : Type} (f : α → α → Bool) (ys : List α) (x : α) : ∀ k, k ≤ ys.length → posR f ys x k ≤ k := by
  intro k
  induction k with
  | zero => intro _; exact Nat.le_refl _
  | succ k ih => intro h; rw [posR_step f ys x k (by omega)]; have := ih (by omega); split <;> omega
theorem posR_map (ys : List EC) (x : EC) : ∀ k, posR lessC ys x k = posR lessE (ys.map EC.d) x.d k := by
  intro k
  induction k with
  | zero => rfl
  | succ k ih =>
    show (if (ys[k]?.map fun y => lessC y x) = some true then posR lessC ys x k else k + 1) = (if ((ys.map EC.d)[k]?.map fun y => lessE y x.d) = some true then posR lessE (ys.map EC.d) x.d k else k + 1)
    rw [ih, List.getElem?_map, Option.map_map]
    rfl
theorem insG_map (ys : List EC) (x : EC) : (insG lessC ys x).map EC.d = insG lessE (ys.map EC.d) x.d := by
  unfold insG
  rw [posR_map, List.length_map]
  simp
theorem newD_step (xs : List EntryD) (n : ByteArray) (i : Nat) (h : i < xs.length) : newD (xs.take (i + 1)) n = if xs[i].name = n then insG lessE (newD (xs.take i) n) xs[i] else newD (xs.take i) n := by
  unfold newD
  rw [List.take_succ_eq_append_getElem h, List.filter_append, List.foldl_append]
  by_cases e : xs[i].name = n
  · rw [if_pos e]; simp [e]
  · rw [if_neg e]; simp [e]
theorem insG_len {α : Type} (f : α → α → Bool) (ys : List α) (x : α) : (insG f ys x).length = ys.length + 1 := by
  have := posR_le f ys x ys.length (Nat.le_refl _)
  simp [insG]; omega
theorem newD_len (xs : List EntryD) (n : ByteArray) : ∀ i, i ≤ xs.length → (newD (xs.take i) n).length ≤ i := by
  intro i
  induction i with
  | zero => intro _; simp [newD]
  | succ i ih =>
    intro h
    have := ih (by omega)
    rw [newD_step xs n i (by omega)]
    split
    · rw [insG_len]; omega
    · omega
/-- A row with a place that is to be filled. -/
def holeC (ys : List EC) (k : Nat) (z : EC) : List EC := ys.take k ++ z :: ys.drop k
theorem hole_len (ys : List EC) (k : Nat) (z : EC) (h : k ≤ ys.length) : (holeC ys k z).length = ys.length + 1 := by
  simp [holeC]; omega
theorem hole_at (ys : List EC) (k : Nat) (z : EC) (h : k < ys.length) : (holeC ys (k + 1) z)[k]? = some ys[k] := by
  unfold holeC
  rw [List.getElem?_append_left (by simp; omega), List.getElem?_take_of_lt (by omega), List.getElem?_eq_getElem h]
theorem hole_set (ys : List EC) (k : Nat) (z x : EC) (h : k ≤ ys.length) : (holeC ys k z).set k x = holeC ys k x := by
  unfold holeC
  rw [List.set_append_right _ _ (by simp; omega)]
  have : k - (ys.take k).length = 0 := by simp; omega
  rw [this]
  rfl
theorem hole_shift (ys : List EC) (k : Nat) (h : k < ys.length) : holeC ys (k + 1) ys[k] = holeC ys k ys[k] := by
  unfold holeC
  rw [List.take_succ_eq_append_getElem h]
  conv => rhs; rw [List.drop_eq_getElem_cons h]
  simp only [List.append_assoc, List.cons_append, List.nil_append]
end Go.Proofs.Ytablcicfagmhpaa

/-! The place of the pack of a name, the program's and the specification's: contracts for the walks; conditions: the row of packs lies in memory. -/
namespace Go.Proofs.Ytablcicfagmhpaa
open Go.RowKit
set_option linter.unusedSimpArgs false
set_option linter.unusedVariables false

/-- The place of the first pack of this name, or -1. -/
def findP (xs : List PackD) (s : ByteArray) : Int := if xs.findIdx (fun d => decide (d.name = s)) < xs.length then (xs.findIdx (fun d => decide (d.name = s)) : Int) else -1
theorem findP_here {xs : List PackD} {s : ByteArray} {k : Nat} (h : k < xs.length) (hy : xs[k].name = s) (hn : ∀ j (hj : j < xs.length), j < k → ¬ xs[j].name = s) : findP xs s = (k : Int) := by
  have e : xs.findIdx (fun d => decide (d.name = s)) = k := by
    rw [List.findIdx_eq h]
    exact ⟨by simpa using hy, fun j hj => by simpa using hn j (by omega) hj⟩
  unfold findP
  rw [e, if_pos h]
theorem findP_none {xs : List PackD} {s : ByteArray} (hn : ∀ j (hj : j < xs.length), ¬ xs[j].name = s) : findP xs s = -1 := by
  have e : xs.findIdx (fun d => decide (d.name = s)) = xs.length := by
    rw [List.findIdx_eq_length]
    intro x hx
    obtain ⟨j, hj, rfl⟩ := List.mem_iff_getElem.1 hx
    simpa using hn j hj
  unfold findP
  rw [e, if_neg (by omega)]
theorem name_alike (a b : ByteArray) : (a.toList == b.toList) = decide (a = b) := by
  by_cases h : a = b
  · subst h; simp
  · rw [decide_eq_false h]
    cases hh : (a.toList == b.toList) with
    | false => rfl
    | true => exact absurd (bytes_eq_of_toList (by simpa using hh)) h

end Go.Proofs.Ytablcicfagmhpaa
