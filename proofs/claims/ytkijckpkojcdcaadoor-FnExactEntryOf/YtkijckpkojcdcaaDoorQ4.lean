/-
  Contracts for the walks, several texts in one: each part says what it proves, and under which conditions.
-/
import Derived.Shelf.Strings.Builder1
import Derived.Shelf.Strings.BuilderF
import Derived.Shelf.Strconv.Itoa0
import Derived.Shelf.Strconv.Itoa1
import Derived.Shelf.LaysM
import Derived.Shelf.Strconv.Itoa2
import Derived.Shelf.Strconv.Itoa3
import Derived.Shelf.Strconv.Clone
import Derived.Test.YtkijckpkojcdcaaDoorProg
import Derived.Lib.Builder
import Derived.Lib.AppendStr
import Derived.Lib.UnsafeStr
import Derived.Laws.Externs
import Derived.Test.YtkijckpkojcdcaaDoorQ3
import Derived.Test.YtkijckpkojcdcaaDoorQ1

/-! A copy of an entry, as the specification makes it: a contract for the walks; conditions: it lies in memory that may be written, and holds at most 2 to the 20. -/
namespace Go.Proofs.YtkijckpkojcdcaaDoor
open Go.RowKit
set_option linter.unusedSimpArgs false
set_option linter.unusedVariables false

theorem wp_append_nilE {P : Program} {w : World} {o : Oper} {a : Act} {K : Act → World → Prop} {Q : Exit → Act → World → Prop} (s x : Operand) (t : TypeId)
    (ho : o.op = .call { callee := .builtin .append, args := #[s, x], argTypes := #[t, t] })
    (base : Nat) (e : TypeId) (i : TypeInfo) (size : Nat) (ht : P.underlying t = some (.slice e)) (hi : P.info? e = some i)
    (v : Value) (n : Nat) (xs : List Value) (hs : a.eval s = v) (hown : w.ownsRow base e size v n xs) (hx : a.eval x = .slice none 0 0)
    (h : K (a.put o.dst v) w) : o.wp P a w K Q := by
  have hrun := run_append_owned_none (P := P) (w := w) base t o.type e i size ht hi v n xs hown
  unfold Oper.wp
  simp [execOp, ho, resolve, invoke, builtin, hs, hx, hrun, Result.andThen]
  exact h
theorem rows_apartE {w : World} {base base' e e' sz sz' : Nat} {v v' : Value} {n n' : Nat} {xs xs' : List Value} (h : w.ownsRow base e sz v n xs) (h' : w.ownsRow base' e' sz' v' n' xs') (hne : e ≠ e') : v'.ownBlock = none ∨ v'.ownBlock ≠ v.ownBlock := by
  rcases h.2 with ⟨rfl, _⟩ | ⟨g, cap, cur, rfl, _, hg, _⟩
  · rcases h'.2 with ⟨rfl, _⟩ | ⟨g', cap', cur', rfl, _, hg', _⟩
    · exact .inl rfl
    · exact .inr (by simp [Value.ownBlock])
  · rcases h'.2 with ⟨rfl, _⟩ | ⟨g', cap', cur', rfl, _, hg', _⟩
    · exact .inl rfl
    · refine .inr fun e1 => hne ?_
      simp only [Value.ownBlock, Option.some.injEq] at e1
      subst e1
      rw [hg] at hg'
      simp only [Option.some.injEq, Obj.cells.injEq] at hg'
      exact hg'.2.1
theorem owns_loE {w : World} {lo lo' : Nat} {e : TypeId} {sz n : Nat} {v : Value} {xs : List Value} (h : lo' ≤ lo) (hg : w.ownsRow lo e sz v n xs) : w.ownsRow lo' e sz v n xs := owns_lo h hg
theorem needsV_one (xs : List NeedD) : ∀ u ∈ needsV xs, u.oneCell' = true := fun u hu => by
  simp only [needsV, List.mem_flatMap] at hu
  obtain ⟨d, _, hd⟩ := hu
  simp at hd
  rcases hd with rfl | rfl <;> rfl
theorem laid_needs {S : Nat → Prop} {w : World} {ys : List Value} {xs : List NeedD} (h : Laid shNeed S w ys xs xs.length) (hl : ys.length = xs.length * 2) : ys = needsV xs := by
  apply List.ext_getElem?
  intro j
  by_cases hj : j < xs.length * 2
  · have hi : j / 2 < xs.length := by omega
    obtain ⟨cs, h1, ⟨rfl, _, _⟩, h3⟩ := h (j / 2) hi hi
    obtain ⟨n1, n2⟩ := needsV_at xs (j / 2) hi
    have e0 : ys[j / 2 * 2 + 0]? = some (Value.string xs[j / 2].n) := h3 0 (by simp)
    have e1 : ys[j / 2 * 2 + 1]? = some (Value.string xs[j / 2].r) := h3 1 (by simp)
    rcases (by omega : j % 2 = 0 ∨ j % 2 = 1) with hm | hm
    · have ej : j = j / 2 * 2 := by omega
      rw [ej, n1]; simpa using e0
    · have ej : j = j / 2 * 2 + 1 := by omega
      rw [ej, n2]; simpa using e1
  · rw [List.getElem?_eq_none (by omega), List.getElem?_eq_none (by rw [needsV_length]; omega)]

set_option maxHeartbeats 8000000 in
set_option maxRecDepth 100000 in
theorem l8Copy_c (S : Nat → Prop) (d : EntryD) (cs : List Value) (w : World) (hd : shEntryO.lies S w cs d) (hB : ∀ b, S b → b < w.heap.size) (hw : wtEntry d ≤ 1048576) :
    Calls Tryd.prog 35 #[.agg cs.toArray] w fun e w' => ∃ cs', e = .returned (.agg cs'.toArray) ∧ shEntryO.lies (Ow w.heap.size w'.heap.size) w' cs' d ∧ Below w.heap.size w w' := by
  obtain ⟨u0, u1, rfl, s_n, r0, p0, r1⟩ := hd
  obtain ⟨i0, hi, hz0, hz1, hz2⟩ := info_parts infoNeed
  have hb2 : ∀ A R, Below w.heap.size w ((w.alloc A).alloc R) := fun A R => ((Below.refl _ _).alloc (Nat.le_refl _) _).alloc (by simp) _
  have hnw : wtRow wtNeed d.needs ≤ 1048576 := by unfold wtEntry at hw; omega
  have hnn := len_wtRow wtNeed d.needs
  have hbk : bulkS d.vP ≤ 1048576 := by unfold wtEntry at hw; omega
  have hpl : d.vP.length ≤ 1048576 := by unfold bulkS at hbk; omega
  have hns2 : ∀ x ∈ d.needs, x.n.size ≤ maxLen ∧ x.r.size ≤ maxLen := fun x hx => by
    have h1 : x.n.size + x.r.size ≤ wtRow wtNeed d.needs := wt_wtRow wtNeed hx
    unfold maxLen; omega
  obtain ⟨hnl, ysN, oN, hSg, hLd⟩ := r1
  have hyN := laid_needs hLd oN.1
  subst hyN
  have HV' : ∀ w1, Below w.heap.size w w1 → Calls Tryd.prog 58 #[.agg #[.int .i64 d.vA, .int .i64 d.vB, .int .i64 d.vC, u0]] w1 fun e w' => ∃ u', e = .returned (.agg #[.int .i64 d.vA, .int .i64 d.vB, .int .i64 d.vC, u']) ∧ w'.ownsRow w1.heap.size 9 1 u' d.vP.length (strsV d.vP) ∧ Below w1.heap.size w1 w' := fun w1 h => copy_c _ _ _ u0 d.vP 0 w1 (r0.keep (.of h hB)).1 hpl
  obtain ⟨a0, cap0, eu0⟩ := r0.slice
  subst eu0
  clear r0 hLd
  rcases id oN.2 with ⟨rfl, hnil0⟩ | ⟨gN, cap1, cur, rfl, _, hgN, _⟩
  · have hnil : d.needs = [] := List.eq_nil_of_length_eq_zero hnil0
    obtain ⟨hAz, hRz⟩ := two_boxes (w := w) (.cells #[.string d.name, .int .i64 d.vA, .int .i64 d.vB, .int .i64 d.vC, .slice a0 d.vP.length cap0, .slice none 0 0] 42 (0, 0)) (.cells #[.string ⟨#[]⟩, .int .i64 0, .int .i64 0, .int .i64 0, .slice none 0 0, .slice none 0 0] 42 (0, 0))
    have hwz := hb2 (.cells #[.string d.name, .int .i64 d.vA, .int .i64 d.vB, .int .i64 d.vC, .slice a0 d.vP.length cap0, .slice none 0 0] 42 (0, 0)) (.cells #[.string ⟨#[]⟩, .int .i64 0, .int .i64 0, .int .i64 0, .slice none 0 0, .slice none 0 0] 42 (0, 0))
    have hsz : ((w.alloc (.cells #[.string d.name, .int .i64 d.vA, .int .i64 d.vB, .int .i64 d.vC, .slice a0 d.vP.length cap0, .slice none 0 0] 42 (0, 0))).alloc (.cells #[.string ⟨#[]⟩, .int .i64 0, .int .i64 0, .int .i64 0, .slice none 0 0, .slice none 0 0] 42 (0, 0))).heap.size = w.heap.size + 2 := by simp
    go_enter Tryd.func35, Tryd.ntmps35
    go_wp2_with fail
    obtain ⟨wz, hW⟩ : ∃ wz, wz = (w.alloc (.cells #[.string d.name, .int .i64 d.vA, .int .i64 d.vB, .int .i64 d.vC, .slice a0 d.vP.length cap0, .slice none 0 0] 42 (0, 0))).alloc (.cells #[.string ⟨#[]⟩, .int .i64 0, .int .i64 0, .int .i64 0, .slice none 0 0, .slice none 0 0] 42 (0, 0)) := ⟨_, rfl⟩
    rw [← hW] at hAz hRz hwz hsz
    rw [← hW]
    clear hW
    have HV : Hid (∀ w1, Below wz.heap.size wz w1 → Calls Tryd.prog 58 #[.agg #[.int .i64 d.vA, .int .i64 d.vB, .int .i64 d.vC, .slice a0 d.vP.length cap0]] w1 fun e w' => ∃ u', e = .returned (.agg #[.int .i64 d.vA, .int .i64 d.vB, .int .i64 d.vC, u']) ∧ w'.ownsRow w1.heap.size 9 1 u' d.vP.length (strsV d.vP) ∧ Below w1.heap.size w1 w') := fun w1 h => HV' w1 (hwz.trans (h.mono (by omega)))
    have h0 : Below wz.heap.size wz wz.drew := (Below.refl _ _).drew
    have KEEP : Hid (∀ w1, Below wz.heap.size wz w1 → w1.cell? ⟨w.heap.size, 0, none⟩ = some (.string d.name) ∧ w1.cell? ⟨w.heap.size, 1, none⟩ = some (.int .i64 d.vA) ∧ w1.cell? ⟨w.heap.size, 2, none⟩ = some (.int .i64 d.vB) ∧ w1.cell? ⟨w.heap.size, 3, none⟩ = some (.int .i64 d.vC) ∧ w1.cell? ⟨w.heap.size, 4, none⟩ = some (.slice a0 d.vP.length cap0) ∧ w1.cell? ⟨w.heap.size, 5, none⟩ = some (.slice none 0 0)) := fun w1 h => by
      have hA := (h.block w.heap.size (by omega)).trans hAz
      exact ⟨vblk_cell hA 0, vblk_cell hA 1, vblk_cell hA 2, vblk_cell hA 3, vblk_cell hA 4, vblk_cell hA 5⟩
    clear HV'
    refine wp_region_held_drew (S := (fun w1 => w1.cell? ⟨w.heap.size, 0, none⟩ = some (.string d.name) ∧ w1.cell? ⟨w.heap.size, 1, none⟩ = some (.int .i64 d.vA) ∧ w1.cell? ⟨w.heap.size, 2, none⟩ = some (.int .i64 d.vB) ∧ w1.cell? ⟨w.heap.size, 3, none⟩ = some (.int .i64 d.vC) ∧ w1.cell? ⟨w.heap.size, 4, none⟩ = some (.slice a0 d.vP.length cap0) ∧ w1.cell? ⟨w.heap.size, 5, none⟩ = some (.slice none 0 0))) (by kernel_rfl) ?S1 (fun hHeld => ?_)
    case S1 => (exact KEEP.out _ h0)
    refine wpAnyH_take (i := 0) (oi := _) (v := ?vT2) rfl (by kernel_rfl) (by kernel_rfl) (by kernel_rfl) (fun _ _ _ h => h) (Or.inl ⟨by rfl, ?yT2⟩) hHeld ?_
    case yT2 => (intro w hSw; (try dsimp only at hSw); go_simp <;> with_reducible rfl)
    try simp only [Act.put, List.getElem_toArray, List.getElem_cons_zero, List.getElem_cons_succ, List.setIfInBounds_toArray, List.set_cons_zero, List.set_cons_succ]
    refine wpAnyH_take (i := 1) (oi := _) (v := ?vT3) rfl (by kernel_rfl) (by kernel_rfl) (by kernel_rfl) (fun _ _ _ h => h) (Or.inl ⟨by rfl, ?yT3⟩) hHeld ?_
    case yT3 => (intro w hSw; (try dsimp only at hSw); go_simp <;> with_reducible rfl)
    try simp only [Act.put, List.getElem_toArray, List.getElem_cons_zero, List.getElem_cons_succ, List.setIfInBounds_toArray, List.set_cons_zero, List.set_cons_succ]
    refine wpAnyH_take (i := 2) (oi := _) (v := ?vT4) rfl (by kernel_rfl) (by kernel_rfl) (by kernel_rfl) (fun _ _ _ h => h) (Or.inl ⟨by rfl, ?yT4⟩) hHeld ?_
    case yT4 => (intro w hSw; (try dsimp only at hSw); go_simp <;> with_reducible rfl)
    try simp only [Act.put, List.getElem_toArray, List.getElem_cons_zero, List.getElem_cons_succ, List.setIfInBounds_toArray, List.set_cons_zero, List.set_cons_succ]
    refine wpAnyH_take (i := 3) (oi := _) (v := ?vT5) rfl (by kernel_rfl) (by kernel_rfl) (by kernel_rfl) (fun _ _ _ h => h) (Or.inl ⟨by rfl, ?yT5⟩) hHeld ?_
    case yT5 => (intro w hSw; (try dsimp only at hSw); go_simp <;> with_reducible rfl)
    try simp only [Act.put, List.getElem_toArray, List.getElem_cons_zero, List.getElem_cons_succ, List.setIfInBounds_toArray, List.set_cons_zero, List.set_cons_succ]
    refine wpAnyH_take (i := 6) (oi := _) (v := ?vT6) rfl (by kernel_rfl) (by kernel_rfl) (by kernel_rfl) (fun _ _ _ h => h) (Or.inl ⟨by rfl, ?yT6⟩) hHeld ?_
    case yT6 => (intro w hSw; (try dsimp only at hSw); go_simp <;> with_reducible rfl)
    try simp only [Act.put, List.getElem_toArray, List.getElem_cons_zero, List.getElem_cons_succ, List.setIfInBounds_toArray, List.set_cons_zero, List.set_cons_succ]
    refine wpAnyH_take (i := 7) (oi := _) (v := ?vT7) rfl (by kernel_rfl) (by kernel_rfl) (by kernel_rfl) (fun _ _ _ h => h) (Or.inl ⟨by rfl, ?yT7⟩) hHeld ?_
    case yT7 => (intro w hSw; (try dsimp only at hSw); go_simp <;> with_reducible rfl)
    try simp only [Act.put, List.getElem_toArray, List.getElem_cons_zero, List.getElem_cons_succ, List.setIfInBounds_toArray, List.set_cons_zero, List.set_cons_succ]
    obtain ⟨wd, hwd⟩ : ∃ wd, wd = wz.drew := ⟨_, rfl⟩
    rw [← hwd] at h0
    rw [← hwd]
    clear hwd
    refine wpAnyH_ready (rs := [4, 5]) (by kernel_rfl) (by simp) ?_
    refine AllReadyH.cons rfl (fun K hK => ?_) (AllReadyH.cons rfl (fun K hK => ?_) AllReadyH.nil)
    · go_simp
      go_wp2_with (go_at_call 58; refine (HV.out _ (h0)).mono ?_; rintro e wv1 ⟨c0, rfl, hv, bv1⟩; obtain ⟨qv, cv, ev⟩ := owns_sliceP hv; subst ev)
      have hv1 : Below wz.heap.size wz wv1 := (h0).trans (bv1.mono (h0).size)
      replace hv := owns_loE (h0).size hv
      clear hHeld
      refine hK.out _ _ ?G8 (fun hHeld => ?_)
      case G8 => ((try dsimp only); exact KEEP.out _ hv1)
      clear hK K
      try simp only [Act.put, List.getElem_toArray, List.getElem_cons_zero, List.getElem_cons_succ, List.setIfInBounds_toArray, List.set_cons_zero, List.set_cons_succ]
      refine wpAnyH_ready (rs := [5]) (by kernel_rfl) (by simp) ?_
      refine AllReadyH.cons rfl (fun K hK => ?_) AllReadyH.nil
      go_simp
      have kz2 : Below (wv1).heap.size (wv1) ((wv1).alloc (.cells #[] 106)) := (Below.refl _ _).alloc (Nat.le_refl _) _
      have hl2 : Below wz.heap.size wz ((wv1).alloc (.cells #[] 106)) := (hv1).trans (kz2.mono (hv1).size)
      have hg : ((wv1).alloc (.cells #[] 106)).ownsRow wz.heap.size 106 2 (.slice (some ⟨(wv1).heap.size, 0, none⟩) 0 0) 0 [] := World.ownsRow_lit (wv1) #[] 0 (hv1).size (by unfold maxLen; omega) rfl
      have hv := owns_of_belowN hv kz2
      clear hHeld
      refine hK.out _ ((wv1).alloc (.cells #[] 106)) ?G92 (fun hHeld => ?_)
      case G92 => (exact KEEP.out _ hl2)
      clear hK K
      try simp only [Act.put, List.getElem_toArray, List.getElem_cons_zero, List.getElem_cons_succ, List.setIfInBounds_toArray, List.set_cons_zero, List.set_cons_succ]
      obtain ⟨gL, hge⟩ : ∃ g, g = (wv1).heap.size := ⟨_, rfl⟩
      rw [← hge] at hg
      try rw [← hge]
      obtain ⟨wl2, hwl⟩ : ∃ wl, wl = (wv1).alloc (.cells #[] 106) := ⟨_, rfl⟩
      rw [← hwl] at hg hl2 hv
      try rw [← hwl]
      clear hge hwl kz2
      refine wpAnyH_ready (rs := [8]) (by kernel_rfl) (by simp) ?_
      refine AllReadyH.cons rfl (fun K hK => ?_) AllReadyH.nil
      rw [if_pos (by rfl)]
      refine wp_append_nilE _ _ 40 rfl wz.heap.size 106 i0 2 Tryd.underlying40 hi (.slice (some ⟨gL, 0, none⟩) 0 0) 0 [] rfl hg rfl ?_
      obtain ⟨qn, hqn⟩ : ∃ q : Option Addr, q = some ⟨gL, 0, none⟩ := ⟨_, rfl⟩
      have o8 : (wl2).ownsRow wz.heap.size 106 2 (.slice qn 0 0) d.needs.length (needsV d.needs) := by rw [hnil, hqn]; exact hg
      have ov8 := hv
      have h8 := hl2
      try rw [← hqn]
      clear hqn
      clear hHeld
      refine hK.out _ _ ?G9 (fun hHeld => ?_)
      case G9 => ((try dsimp only); exact KEEP.out _ h8)
      clear hK K
      try simp only [Act.put, List.getElem_toArray, List.getElem_cons_zero, List.getElem_cons_succ, List.setIfInBounds_toArray, List.set_cons_zero, List.set_cons_succ]
      refine wpAnyH_take (i := 9) (oi := _) (v := ?vT10) rfl (by kernel_rfl) (by kernel_rfl) (by kernel_rfl) (fun _ _ _ h => h) (Or.inl ⟨by rfl, ?yT10⟩) hHeld ?_
      case yT10 => (intro w hSw; (try dsimp only at hSw); go_simp <;> with_reducible rfl)
      try simp only [Act.put, List.getElem_toArray, List.getElem_cons_zero, List.getElem_cons_succ, List.setIfInBounds_toArray, List.set_cons_zero, List.set_cons_succ]
      have hR3 := (h8.block (w.heap.size + 1) (by omega)).trans hRz
      have fy := vblk_frozen hR3
      have y0 := vblk_cell hR3 0
      have y1 := vblk_cell hR3 1
      have y2 := vblk_cell hR3 2
      have y3 := vblk_cell hR3 3
      have y4 := vblk_cell hR3 4
      have y5 := vblk_cell hR3 5
      simp only [List.getElem?_toArray, List.getElem?_cons_succ, List.getElem?_cons_zero] at y0 y1 y2 y3 y4 y5
      refine wpAnyH_ready (rs := [10]) (by kernel_rfl) (by simp) ?_
      refine AllReadyH.cons rfl (fun K hK => ?_) AllReadyH.nil
      go_simp
      clear hHeld
      refine hK.out _ _ ?U11 (fun hHeld => ?_)
      case U11 => (have hA3 := (h8.block w.heap.size (by omega)).trans hAz; exact ⟨vblk_cell (cells_put (cells_put (cells_put (cells_put (cells_put (cells_put hA3 (by omega) _ _) (by omega) _ _) (by omega) _ _) (by omega) _ _) (by omega) _ _) (by omega) _ _) 0, vblk_cell (cells_put (cells_put (cells_put (cells_put (cells_put (cells_put hA3 (by omega) _ _) (by omega) _ _) (by omega) _ _) (by omega) _ _) (by omega) _ _) (by omega) _ _) 1, vblk_cell (cells_put (cells_put (cells_put (cells_put (cells_put (cells_put hA3 (by omega) _ _) (by omega) _ _) (by omega) _ _) (by omega) _ _) (by omega) _ _) (by omega) _ _) 2, vblk_cell (cells_put (cells_put (cells_put (cells_put (cells_put (cells_put hA3 (by omega) _ _) (by omega) _ _) (by omega) _ _) (by omega) _ _) (by omega) _ _) (by omega) _ _) 3, vblk_cell (cells_put (cells_put (cells_put (cells_put (cells_put (cells_put hA3 (by omega) _ _) (by omega) _ _) (by omega) _ _) (by omega) _ _) (by omega) _ _) (by omega) _ _) 4, vblk_cell (cells_put (cells_put (cells_put (cells_put (cells_put (cells_put hA3 (by omega) _ _) (by omega) _ _) (by omega) _ _) (by omega) _ _) (by omega) _ _) (by omega) _ _) 5⟩)
      clear hK K
      try simp only [Act.put, List.getElem_toArray, List.getElem_cons_zero, List.getElem_cons_succ, List.setIfInBounds_toArray, List.set_cons_zero, List.set_cons_succ]
      refine wpAnyH_done (by kernel_rfl) ?_ _
      clear hHeld
      have HO : Hid (∀ W : World, W.heap.size = (wl2).heap.size → Kp (fun b => b ≠ w.heap.size + 1) (wl2) W → shEntryO.lies (Ow w.heap.size W.heap.size) W [.string d.name, .int .i64 d.vA, .int .i64 d.vB, .int .i64 d.vC, .slice qv d.vP.length cv, .slice qn 0 0] d) := fun W hWs hk => by
        have i2 := owns_in ov8
        have i3 := owns_in o8
        refine ⟨_, _, rfl, s_n, ⟨owns_kept hk (fun g hg => by have := (i2 g hg).1; show g ≠ _; omega) (owns_lo (Nat.zero_le _) ov8), fun g hg => ?_⟩, p0, ?_⟩
        · have h9 := i2 g hg
          exact ⟨by have := h9.1; omega, by have := h9.2; omega⟩
        · have hK2 : Kp (Ow wz.heap.size (wl2).heap.size) (wl2) W := fun b hb => hk b (by have := hb.1; show b ≠ _; omega)
          have hN0 := (needs_own o8 hnl hns2).keep hK2
          exact hN0.mono (Ow.mono (by omega) (by omega))
      go_wp2_with fail
      refine bodyPost_ret (v := .agg #[.string d.name, .int .i64 d.vA, .int .i64 d.vB, .int .i64 d.vC, .slice qv d.vP.length cv, .slice qn 0 0]) (by simp [results, Tryd.results35, go_sem, y0, y1, y2, y3, y4, y5]) rfl ⟨[.string d.name, .int .i64 d.vA, .int .i64 d.vB, .int .i64 d.vC, .slice qv d.vP.length cv, .slice qn 0 0], rfl, HO.out _ (by simp [World.setCell]) ?_, ?_⟩
      · (repeat (refine Kp.trans ?_ (Kp.set (by simp))))
        exact fun b hb => rfl
      · (repeat (refine Below.setCell ?_ (by simp) _))
        exact hwz.trans (h8.mono (by omega))
    · go_simp
      have kz3 : Below (wd).heap.size (wd) ((wd).alloc (.cells #[] 106)) := (Below.refl _ _).alloc (Nat.le_refl _) _
      have hl3 : Below wz.heap.size wz ((wd).alloc (.cells #[] 106)) := (h0).trans (kz3.mono (h0).size)
      have hg : ((wd).alloc (.cells #[] 106)).ownsRow wz.heap.size 106 2 (.slice (some ⟨(wd).heap.size, 0, none⟩) 0 0) 0 [] := World.ownsRow_lit (wd) #[] 0 (h0).size (by unfold maxLen; omega) rfl
      clear hHeld
      refine hK.out _ ((wd).alloc (.cells #[] 106)) ?G93 (fun hHeld => ?_)
      case G93 => (exact KEEP.out _ hl3)
      clear hK K
      try simp only [Act.put, List.getElem_toArray, List.getElem_cons_zero, List.getElem_cons_succ, List.setIfInBounds_toArray, List.set_cons_zero, List.set_cons_succ]
      obtain ⟨gL, hge⟩ : ∃ g, g = (wd).heap.size := ⟨_, rfl⟩
      rw [← hge] at hg
      try rw [← hge]
      obtain ⟨wl3, hwl⟩ : ∃ wl, wl = (wd).alloc (.cells #[] 106) := ⟨_, rfl⟩
      rw [← hwl] at hg hl3
      try rw [← hwl]
      clear hge hwl kz3
      refine wpAnyH_ready (rs := [4]) (by kernel_rfl) (by simp) ?_
      refine AllReadyH.cons rfl (fun K hK => ?_) AllReadyH.nil
      go_simp
      go_wp2_with (go_at_call 58; refine (HV.out _ (hl3)).mono ?_; rintro e wv4 ⟨c0, rfl, hv, bv4⟩; obtain ⟨qv, cv, ev⟩ := owns_sliceP hv; subst ev)
      have hv4 : Below wz.heap.size wz wv4 := (hl3).trans (bv4.mono (hl3).size)
      replace hv := owns_loE (hl3).size hv
      have hg := owns_of_belowN hg bv4
      clear hHeld
      refine hK.out _ _ ?G12 (fun hHeld => ?_)
      case G12 => ((try dsimp only); exact KEEP.out _ hv4)
      clear hK K
      try simp only [Act.put, List.getElem_toArray, List.getElem_cons_zero, List.getElem_cons_succ, List.setIfInBounds_toArray, List.set_cons_zero, List.set_cons_succ]
      refine wpAnyH_ready (rs := [8]) (by kernel_rfl) (by simp) ?_
      refine AllReadyH.cons rfl (fun K hK => ?_) AllReadyH.nil
      rw [if_pos (by rfl)]
      refine wp_append_nilE _ _ 40 rfl wz.heap.size 106 i0 2 Tryd.underlying40 hi (.slice (some ⟨gL, 0, none⟩) 0 0) 0 [] rfl hg rfl ?_
      obtain ⟨qn, hqn⟩ : ∃ q : Option Addr, q = some ⟨gL, 0, none⟩ := ⟨_, rfl⟩
      have o8 : (wv4).ownsRow wz.heap.size 106 2 (.slice qn 0 0) d.needs.length (needsV d.needs) := by rw [hnil, hqn]; exact hg
      have ov8 := hv
      have h8 := hv4
      try rw [← hqn]
      clear hqn
      clear hHeld
      refine hK.out _ _ ?G13 (fun hHeld => ?_)
      case G13 => ((try dsimp only); exact KEEP.out _ h8)
      clear hK K
      try simp only [Act.put, List.getElem_toArray, List.getElem_cons_zero, List.getElem_cons_succ, List.setIfInBounds_toArray, List.set_cons_zero, List.set_cons_succ]
      refine wpAnyH_take (i := 9) (oi := _) (v := ?vT14) rfl (by kernel_rfl) (by kernel_rfl) (by kernel_rfl) (fun _ _ _ h => h) (Or.inl ⟨by rfl, ?yT14⟩) hHeld ?_
      case yT14 => (intro w hSw; (try dsimp only at hSw); go_simp <;> with_reducible rfl)
      try simp only [Act.put, List.getElem_toArray, List.getElem_cons_zero, List.getElem_cons_succ, List.setIfInBounds_toArray, List.set_cons_zero, List.set_cons_succ]
      have hR3 := (h8.block (w.heap.size + 1) (by omega)).trans hRz
      have fy := vblk_frozen hR3
      have y0 := vblk_cell hR3 0
      have y1 := vblk_cell hR3 1
      have y2 := vblk_cell hR3 2
      have y3 := vblk_cell hR3 3
      have y4 := vblk_cell hR3 4
      have y5 := vblk_cell hR3 5
      simp only [List.getElem?_toArray, List.getElem?_cons_succ, List.getElem?_cons_zero] at y0 y1 y2 y3 y4 y5
      refine wpAnyH_ready (rs := [10]) (by kernel_rfl) (by simp) ?_
      refine AllReadyH.cons rfl (fun K hK => ?_) AllReadyH.nil
      go_simp
      clear hHeld
      refine hK.out _ _ ?U15 (fun hHeld => ?_)
      case U15 => (have hA3 := (h8.block w.heap.size (by omega)).trans hAz; exact ⟨vblk_cell (cells_put (cells_put (cells_put (cells_put (cells_put (cells_put hA3 (by omega) _ _) (by omega) _ _) (by omega) _ _) (by omega) _ _) (by omega) _ _) (by omega) _ _) 0, vblk_cell (cells_put (cells_put (cells_put (cells_put (cells_put (cells_put hA3 (by omega) _ _) (by omega) _ _) (by omega) _ _) (by omega) _ _) (by omega) _ _) (by omega) _ _) 1, vblk_cell (cells_put (cells_put (cells_put (cells_put (cells_put (cells_put hA3 (by omega) _ _) (by omega) _ _) (by omega) _ _) (by omega) _ _) (by omega) _ _) (by omega) _ _) 2, vblk_cell (cells_put (cells_put (cells_put (cells_put (cells_put (cells_put hA3 (by omega) _ _) (by omega) _ _) (by omega) _ _) (by omega) _ _) (by omega) _ _) (by omega) _ _) 3, vblk_cell (cells_put (cells_put (cells_put (cells_put (cells_put (cells_put hA3 (by omega) _ _) (by omega) _ _) (by omega) _ _) (by omega) _ _) (by omega) _ _) (by omega) _ _) 4, vblk_cell (cells_put (cells_put (cells_put (cells_put (cells_put (cells_put hA3 (by omega) _ _) (by omega) _ _) (by omega) _ _) (by omega) _ _) (by omega) _ _) (by omega) _ _) 5⟩)
      clear hK K
      try simp only [Act.put, List.getElem_toArray, List.getElem_cons_zero, List.getElem_cons_succ, List.setIfInBounds_toArray, List.set_cons_zero, List.set_cons_succ]
      refine wpAnyH_done (by kernel_rfl) ?_ _
      clear hHeld
      have HO : Hid (∀ W : World, W.heap.size = (wv4).heap.size → Kp (fun b => b ≠ w.heap.size + 1) (wv4) W → shEntryO.lies (Ow w.heap.size W.heap.size) W [.string d.name, .int .i64 d.vA, .int .i64 d.vB, .int .i64 d.vC, .slice qv d.vP.length cv, .slice qn 0 0] d) := fun W hWs hk => by
        have i2 := owns_in ov8
        have i3 := owns_in o8
        refine ⟨_, _, rfl, s_n, ⟨owns_kept hk (fun g hg => by have := (i2 g hg).1; show g ≠ _; omega) (owns_lo (Nat.zero_le _) ov8), fun g hg => ?_⟩, p0, ?_⟩
        · have h9 := i2 g hg
          exact ⟨by have := h9.1; omega, by have := h9.2; omega⟩
        · have hK2 : Kp (Ow wz.heap.size (wv4).heap.size) (wv4) W := fun b hb => hk b (by have := hb.1; show b ≠ _; omega)
          have hN0 := (needs_own o8 hnl hns2).keep hK2
          exact hN0.mono (Ow.mono (by omega) (by omega))
      go_wp2_with fail
      refine bodyPost_ret (v := .agg #[.string d.name, .int .i64 d.vA, .int .i64 d.vB, .int .i64 d.vC, .slice qv d.vP.length cv, .slice qn 0 0]) (by simp [results, Tryd.results35, go_sem, y0, y1, y2, y3, y4, y5]) rfl ⟨[.string d.name, .int .i64 d.vA, .int .i64 d.vB, .int .i64 d.vC, .slice qv d.vP.length cv, .slice qn 0 0], rfl, HO.out _ (by simp [World.setCell]) ?_, ?_⟩
      · (repeat (refine Kp.trans ?_ (Kp.set (by simp))))
        exact fun b hb => rfl
      · (repeat (refine Below.setCell ?_ (by simp) _))
        exact hwz.trans (h8.mono (by omega))
  · clear hgN
    obtain ⟨hAz, hRz⟩ := two_boxes (w := w) (.cells #[.string d.name, .int .i64 d.vA, .int .i64 d.vB, .int .i64 d.vC, .slice a0 d.vP.length cap0, .slice (some ⟨gN, 0, none⟩) d.needs.length cap1] 42 (0, 0)) (.cells #[.string ⟨#[]⟩, .int .i64 0, .int .i64 0, .int .i64 0, .slice none 0 0, .slice none 0 0] 42 (0, 0))
    have hwz := hb2 (.cells #[.string d.name, .int .i64 d.vA, .int .i64 d.vB, .int .i64 d.vC, .slice a0 d.vP.length cap0, .slice (some ⟨gN, 0, none⟩) d.needs.length cap1] 42 (0, 0)) (.cells #[.string ⟨#[]⟩, .int .i64 0, .int .i64 0, .int .i64 0, .slice none 0 0, .slice none 0 0] 42 (0, 0))
    have hsz : ((w.alloc (.cells #[.string d.name, .int .i64 d.vA, .int .i64 d.vB, .int .i64 d.vC, .slice a0 d.vP.length cap0, .slice (some ⟨gN, 0, none⟩) d.needs.length cap1] 42 (0, 0))).alloc (.cells #[.string ⟨#[]⟩, .int .i64 0, .int .i64 0, .int .i64 0, .slice none 0 0, .slice none 0 0] 42 (0, 0))).heap.size = w.heap.size + 2 := by simp
    go_enter Tryd.func35, Tryd.ntmps35
    go_wp2_with fail
    obtain ⟨wz, hW⟩ : ∃ wz, wz = (w.alloc (.cells #[.string d.name, .int .i64 d.vA, .int .i64 d.vB, .int .i64 d.vC, .slice a0 d.vP.length cap0, .slice (some ⟨gN, 0, none⟩) d.needs.length cap1] 42 (0, 0))).alloc (.cells #[.string ⟨#[]⟩, .int .i64 0, .int .i64 0, .int .i64 0, .slice none 0 0, .slice none 0 0] 42 (0, 0)) := ⟨_, rfl⟩
    rw [← hW] at hAz hRz hwz hsz
    rw [← hW]
    clear hW
    have HV : Hid (∀ w1, Below wz.heap.size wz w1 → Calls Tryd.prog 58 #[.agg #[.int .i64 d.vA, .int .i64 d.vB, .int .i64 d.vC, .slice a0 d.vP.length cap0]] w1 fun e w' => ∃ u', e = .returned (.agg #[.int .i64 d.vA, .int .i64 d.vB, .int .i64 d.vC, u']) ∧ w'.ownsRow w1.heap.size 9 1 u' d.vP.length (strsV d.vP) ∧ Below w1.heap.size w1 w') := fun w1 h => HV' w1 (hwz.trans (h.mono (by omega)))
    have h0 : Below wz.heap.size wz wz.drew := (Below.refl _ _).drew
    have KEEP : Hid (∀ w1, Below wz.heap.size wz w1 → w1.cell? ⟨w.heap.size, 0, none⟩ = some (.string d.name) ∧ w1.cell? ⟨w.heap.size, 1, none⟩ = some (.int .i64 d.vA) ∧ w1.cell? ⟨w.heap.size, 2, none⟩ = some (.int .i64 d.vB) ∧ w1.cell? ⟨w.heap.size, 3, none⟩ = some (.int .i64 d.vC) ∧ w1.cell? ⟨w.heap.size, 4, none⟩ = some (.slice a0 d.vP.length cap0) ∧ w1.cell? ⟨w.heap.size, 5, none⟩ = some (.slice (some ⟨gN, 0, none⟩) d.needs.length cap1)) := fun w1 h => by
      have hA := (h.block w.heap.size (by omega)).trans hAz
      exact ⟨vblk_cell hA 0, vblk_cell hA 1, vblk_cell hA 2, vblk_cell hA 3, vblk_cell hA 4, vblk_cell hA 5⟩
    have SRC : Hid (∀ w1, Below wz.heap.size wz w1 → ∀ j u, (needsV d.needs)[j]? = some u → w1.cell? ((⟨gN, 0, none⟩ : Addr).add j) = some u) := fun w1 h j u hu => by
      have hj : j < d.needs.length * 2 := by have := (List.getElem?_eq_some_iff.1 hu).1; rw [needsV_length] at this; exact this
      have e : ((⟨gN, 0, none⟩ : Addr).add j) = ⟨gN, j, none⟩ := by unfold Addr.add; split <;> simp_all
      have hgw : gN < w.heap.size := hB _ (hSg gN rfl)
      have hk := hwz.trans (h.mono (by omega))
      rw [e, hk.cell (p := ⟨gN, j, none⟩) hgw, oN.cellAt j hj, hu]
    clear HV'
    refine wp_region_held_drew (S := (fun w1 => w1.cell? ⟨w.heap.size, 0, none⟩ = some (.string d.name) ∧ w1.cell? ⟨w.heap.size, 1, none⟩ = some (.int .i64 d.vA) ∧ w1.cell? ⟨w.heap.size, 2, none⟩ = some (.int .i64 d.vB) ∧ w1.cell? ⟨w.heap.size, 3, none⟩ = some (.int .i64 d.vC) ∧ w1.cell? ⟨w.heap.size, 4, none⟩ = some (.slice a0 d.vP.length cap0) ∧ w1.cell? ⟨w.heap.size, 5, none⟩ = some (.slice (some ⟨gN, 0, none⟩) d.needs.length cap1))) (by kernel_rfl) ?S16 (fun hHeld => ?_)
    case S16 => (exact KEEP.out _ h0)
    refine wpAnyH_take (i := 0) (oi := _) (v := ?vT17) rfl (by kernel_rfl) (by kernel_rfl) (by kernel_rfl) (fun _ _ _ h => h) (Or.inl ⟨by rfl, ?yT17⟩) hHeld ?_
    case yT17 => (intro w hSw; (try dsimp only at hSw); go_simp <;> with_reducible rfl)
    try simp only [Act.put, List.getElem_toArray, List.getElem_cons_zero, List.getElem_cons_succ, List.setIfInBounds_toArray, List.set_cons_zero, List.set_cons_succ]
    refine wpAnyH_take (i := 1) (oi := _) (v := ?vT18) rfl (by kernel_rfl) (by kernel_rfl) (by kernel_rfl) (fun _ _ _ h => h) (Or.inl ⟨by rfl, ?yT18⟩) hHeld ?_
    case yT18 => (intro w hSw; (try dsimp only at hSw); go_simp <;> with_reducible rfl)
    try simp only [Act.put, List.getElem_toArray, List.getElem_cons_zero, List.getElem_cons_succ, List.setIfInBounds_toArray, List.set_cons_zero, List.set_cons_succ]
    refine wpAnyH_take (i := 2) (oi := _) (v := ?vT19) rfl (by kernel_rfl) (by kernel_rfl) (by kernel_rfl) (fun _ _ _ h => h) (Or.inl ⟨by rfl, ?yT19⟩) hHeld ?_
    case yT19 => (intro w hSw; (try dsimp only at hSw); go_simp <;> with_reducible rfl)
    try simp only [Act.put, List.getElem_toArray, List.getElem_cons_zero, List.getElem_cons_succ, List.setIfInBounds_toArray, List.set_cons_zero, List.set_cons_succ]
    refine wpAnyH_take (i := 3) (oi := _) (v := ?vT20) rfl (by kernel_rfl) (by kernel_rfl) (by kernel_rfl) (fun _ _ _ h => h) (Or.inl ⟨by rfl, ?yT20⟩) hHeld ?_
    case yT20 => (intro w hSw; (try dsimp only at hSw); go_simp <;> with_reducible rfl)
    try simp only [Act.put, List.getElem_toArray, List.getElem_cons_zero, List.getElem_cons_succ, List.setIfInBounds_toArray, List.set_cons_zero, List.set_cons_succ]
    refine wpAnyH_take (i := 6) (oi := _) (v := ?vT21) rfl (by kernel_rfl) (by kernel_rfl) (by kernel_rfl) (fun _ _ _ h => h) (Or.inl ⟨by rfl, ?yT21⟩) hHeld ?_
    case yT21 => (intro w hSw; (try dsimp only at hSw); go_simp <;> with_reducible rfl)
    try simp only [Act.put, List.getElem_toArray, List.getElem_cons_zero, List.getElem_cons_succ, List.setIfInBounds_toArray, List.set_cons_zero, List.set_cons_succ]
    refine wpAnyH_take (i := 7) (oi := _) (v := ?vT22) rfl (by kernel_rfl) (by kernel_rfl) (by kernel_rfl) (fun _ _ _ h => h) (Or.inl ⟨by rfl, ?yT22⟩) hHeld ?_
    case yT22 => (intro w hSw; (try dsimp only at hSw); go_simp <;> with_reducible rfl)
    try simp only [Act.put, List.getElem_toArray, List.getElem_cons_zero, List.getElem_cons_succ, List.setIfInBounds_toArray, List.set_cons_zero, List.set_cons_succ]
    obtain ⟨wd, hwd⟩ : ∃ wd, wd = wz.drew := ⟨_, rfl⟩
    rw [← hwd] at h0
    rw [← hwd]
    clear hwd
    refine wpAnyH_ready (rs := [4, 5]) (by kernel_rfl) (by simp) ?_
    refine AllReadyH.cons rfl (fun K hK => ?_) (AllReadyH.cons rfl (fun K hK => ?_) AllReadyH.nil)
    · go_simp
      go_wp2_with (go_at_call 58; refine (HV.out _ (h0)).mono ?_; rintro e wv5 ⟨c0, rfl, hv, bv5⟩; obtain ⟨qv, cv, ev⟩ := owns_sliceP hv; subst ev)
      have hv5 : Below wz.heap.size wz wv5 := (h0).trans (bv5.mono (h0).size)
      replace hv := owns_loE (h0).size hv
      clear hHeld
      refine hK.out _ _ ?G23 (fun hHeld => ?_)
      case G23 => ((try dsimp only); exact KEEP.out _ hv5)
      clear hK K
      try simp only [Act.put, List.getElem_toArray, List.getElem_cons_zero, List.getElem_cons_succ, List.setIfInBounds_toArray, List.set_cons_zero, List.set_cons_succ]
      refine wpAnyH_ready (rs := [5]) (by kernel_rfl) (by simp) ?_
      refine AllReadyH.cons rfl (fun K hK => ?_) AllReadyH.nil
      go_simp
      have kz6 : Below (wv5).heap.size (wv5) ((wv5).alloc (.cells #[] 106)) := (Below.refl _ _).alloc (Nat.le_refl _) _
      have hl6 : Below wz.heap.size wz ((wv5).alloc (.cells #[] 106)) := (hv5).trans (kz6.mono (hv5).size)
      have hg : ((wv5).alloc (.cells #[] 106)).ownsRow wz.heap.size 106 2 (.slice (some ⟨(wv5).heap.size, 0, none⟩) 0 0) 0 [] := World.ownsRow_lit (wv5) #[] 0 (hv5).size (by unfold maxLen; omega) rfl
      have hv := owns_of_belowN hv kz6
      clear hHeld
      refine hK.out _ ((wv5).alloc (.cells #[] 106)) ?G96 (fun hHeld => ?_)
      case G96 => (exact KEEP.out _ hl6)
      clear hK K
      try simp only [Act.put, List.getElem_toArray, List.getElem_cons_zero, List.getElem_cons_succ, List.setIfInBounds_toArray, List.set_cons_zero, List.set_cons_succ]
      obtain ⟨gL, hge⟩ : ∃ g, g = (wv5).heap.size := ⟨_, rfl⟩
      rw [← hge] at hg
      try rw [← hge]
      obtain ⟨wl6, hwl⟩ : ∃ wl, wl = (wv5).alloc (.cells #[] 106) := ⟨_, rfl⟩
      rw [← hwl] at hg hl6 hv
      try rw [← hwl]
      clear hge hwl kz6
      refine wpAnyH_ready (rs := [8]) (by kernel_rfl) (by simp) ?_
      refine AllReadyH.cons rfl (fun K hK => ?_) AllReadyH.nil
      rw [if_pos (by rfl)]
      refine wp_append_own _ _ _ 40 rfl wz.heap.size 106 i0 (.agg #[.string ⟨#[]⟩, .string ⟨#[]⟩]) 2 32 Tryd.underlying40 hi hz0 hz1 hz2 rfl (by decide) (.slice (some ⟨gL, 0, none⟩) 0 0) 0 [] rfl hg ⟨gN, 0, none⟩ d.needs.length cap1 (needsV d.needs) rfl (needsV_length _) (SRC.out _ (hl6)) (needsV_one _) (by unfold maxLen; omega) (by omega) (hl6).size ?_
      intro v8 w8 o8 gr8 _
      rw [Nat.zero_add, List.nil_append] at o8
      obtain ⟨qn, cn, en⟩ := owns_sliceP o8
      subst en
      have h8 : Below wz.heap.size wz w8 := Below.grown (hl6) gr8 (hl6).size (fun j hj => (hg.lt _ hj).1)
      have ov8 := hv.kept gr8 (rows_apartE hg hv (by decide))
      clear hHeld
      refine hK.out _ _ ?G24 (fun hHeld => ?_)
      case G24 => ((try dsimp only); exact KEEP.out _ h8)
      clear hK K
      try simp only [Act.put, List.getElem_toArray, List.getElem_cons_zero, List.getElem_cons_succ, List.setIfInBounds_toArray, List.set_cons_zero, List.set_cons_succ]
      refine wpAnyH_take (i := 9) (oi := _) (v := ?vT25) rfl (by kernel_rfl) (by kernel_rfl) (by kernel_rfl) (fun _ _ _ h => h) (Or.inl ⟨by rfl, ?yT25⟩) hHeld ?_
      case yT25 => (intro w hSw; (try dsimp only at hSw); go_simp <;> with_reducible rfl)
      try simp only [Act.put, List.getElem_toArray, List.getElem_cons_zero, List.getElem_cons_succ, List.setIfInBounds_toArray, List.set_cons_zero, List.set_cons_succ]
      have hR3 := (h8.block (w.heap.size + 1) (by omega)).trans hRz
      have fy := vblk_frozen hR3
      have y0 := vblk_cell hR3 0
      have y1 := vblk_cell hR3 1
      have y2 := vblk_cell hR3 2
      have y3 := vblk_cell hR3 3
      have y4 := vblk_cell hR3 4
      have y5 := vblk_cell hR3 5
      simp only [List.getElem?_toArray, List.getElem?_cons_succ, List.getElem?_cons_zero] at y0 y1 y2 y3 y4 y5
      refine wpAnyH_ready (rs := [10]) (by kernel_rfl) (by simp) ?_
      refine AllReadyH.cons rfl (fun K hK => ?_) AllReadyH.nil
      go_simp
      clear hHeld
      refine hK.out _ _ ?U26 (fun hHeld => ?_)
      case U26 => (have hA3 := (h8.block w.heap.size (by omega)).trans hAz; exact ⟨vblk_cell (cells_put (cells_put (cells_put (cells_put (cells_put (cells_put hA3 (by omega) _ _) (by omega) _ _) (by omega) _ _) (by omega) _ _) (by omega) _ _) (by omega) _ _) 0, vblk_cell (cells_put (cells_put (cells_put (cells_put (cells_put (cells_put hA3 (by omega) _ _) (by omega) _ _) (by omega) _ _) (by omega) _ _) (by omega) _ _) (by omega) _ _) 1, vblk_cell (cells_put (cells_put (cells_put (cells_put (cells_put (cells_put hA3 (by omega) _ _) (by omega) _ _) (by omega) _ _) (by omega) _ _) (by omega) _ _) (by omega) _ _) 2, vblk_cell (cells_put (cells_put (cells_put (cells_put (cells_put (cells_put hA3 (by omega) _ _) (by omega) _ _) (by omega) _ _) (by omega) _ _) (by omega) _ _) (by omega) _ _) 3, vblk_cell (cells_put (cells_put (cells_put (cells_put (cells_put (cells_put hA3 (by omega) _ _) (by omega) _ _) (by omega) _ _) (by omega) _ _) (by omega) _ _) (by omega) _ _) 4, vblk_cell (cells_put (cells_put (cells_put (cells_put (cells_put (cells_put hA3 (by omega) _ _) (by omega) _ _) (by omega) _ _) (by omega) _ _) (by omega) _ _) (by omega) _ _) 5⟩)
      clear hK K
      try simp only [Act.put, List.getElem_toArray, List.getElem_cons_zero, List.getElem_cons_succ, List.setIfInBounds_toArray, List.set_cons_zero, List.set_cons_succ]
      refine wpAnyH_done (by kernel_rfl) ?_ _
      clear hHeld
      have HO : Hid (∀ W : World, W.heap.size = (w8).heap.size → Kp (fun b => b ≠ w.heap.size + 1) (w8) W → shEntryO.lies (Ow w.heap.size W.heap.size) W [.string d.name, .int .i64 d.vA, .int .i64 d.vB, .int .i64 d.vC, .slice qv d.vP.length cv, .slice qn d.needs.length cn] d) := fun W hWs hk => by
        have i2 := owns_in ov8
        have i3 := owns_in o8
        refine ⟨_, _, rfl, s_n, ⟨owns_kept hk (fun g hg => by have := (i2 g hg).1; show g ≠ _; omega) (owns_lo (Nat.zero_le _) ov8), fun g hg => ?_⟩, p0, ?_⟩
        · have h9 := i2 g hg
          exact ⟨by have := h9.1; omega, by have := h9.2; omega⟩
        · have hK2 : Kp (Ow wz.heap.size (w8).heap.size) (w8) W := fun b hb => hk b (by have := hb.1; show b ≠ _; omega)
          exact ((needs_own o8 hnl hns2).keep hK2).mono (Ow.mono (by omega) (by omega))
      go_wp2_with fail
      refine bodyPost_ret (v := .agg #[.string d.name, .int .i64 d.vA, .int .i64 d.vB, .int .i64 d.vC, .slice qv d.vP.length cv, .slice qn d.needs.length cn]) (by simp [results, Tryd.results35, go_sem, y0, y1, y2, y3, y4, y5]) rfl ⟨[.string d.name, .int .i64 d.vA, .int .i64 d.vB, .int .i64 d.vC, .slice qv d.vP.length cv, .slice qn d.needs.length cn], rfl, HO.out _ (by simp [World.setCell]) ?_, ?_⟩
      · (repeat (refine Kp.trans ?_ (Kp.set (by simp))))
        exact fun b hb => rfl
      · (repeat (refine Below.setCell ?_ (by simp) _))
        exact hwz.trans (h8.mono (by omega))
    · go_simp
      have kz7 : Below (wd).heap.size (wd) ((wd).alloc (.cells #[] 106)) := (Below.refl _ _).alloc (Nat.le_refl _) _
      have hl7 : Below wz.heap.size wz ((wd).alloc (.cells #[] 106)) := (h0).trans (kz7.mono (h0).size)
      have hg : ((wd).alloc (.cells #[] 106)).ownsRow wz.heap.size 106 2 (.slice (some ⟨(wd).heap.size, 0, none⟩) 0 0) 0 [] := World.ownsRow_lit (wd) #[] 0 (h0).size (by unfold maxLen; omega) rfl
      clear hHeld
      refine hK.out _ ((wd).alloc (.cells #[] 106)) ?G97 (fun hHeld => ?_)
      case G97 => (exact KEEP.out _ hl7)
      clear hK K
      try simp only [Act.put, List.getElem_toArray, List.getElem_cons_zero, List.getElem_cons_succ, List.setIfInBounds_toArray, List.set_cons_zero, List.set_cons_succ]
      obtain ⟨gL, hge⟩ : ∃ g, g = (wd).heap.size := ⟨_, rfl⟩
      rw [← hge] at hg
      try rw [← hge]
      obtain ⟨wl7, hwl⟩ : ∃ wl, wl = (wd).alloc (.cells #[] 106) := ⟨_, rfl⟩
      rw [← hwl] at hg hl7
      try rw [← hwl]
      clear hge hwl kz7
      refine wpAnyH_ready (rs := [4]) (by kernel_rfl) (by simp) ?_
      refine AllReadyH.cons rfl (fun K hK => ?_) AllReadyH.nil
      go_simp
      go_wp2_with (go_at_call 58; refine (HV.out _ (hl7)).mono ?_; rintro e wv8 ⟨c0, rfl, hv, bv8⟩; obtain ⟨qv, cv, ev⟩ := owns_sliceP hv; subst ev)
      have hv8 : Below wz.heap.size wz wv8 := (hl7).trans (bv8.mono (hl7).size)
      replace hv := owns_loE (hl7).size hv
      have hg := owns_of_belowN hg bv8
      clear hHeld
      refine hK.out _ _ ?G27 (fun hHeld => ?_)
      case G27 => ((try dsimp only); exact KEEP.out _ hv8)
      clear hK K
      try simp only [Act.put, List.getElem_toArray, List.getElem_cons_zero, List.getElem_cons_succ, List.setIfInBounds_toArray, List.set_cons_zero, List.set_cons_succ]
      refine wpAnyH_ready (rs := [8]) (by kernel_rfl) (by simp) ?_
      refine AllReadyH.cons rfl (fun K hK => ?_) AllReadyH.nil
      rw [if_pos (by rfl)]
      refine wp_append_own _ _ _ 40 rfl wz.heap.size 106 i0 (.agg #[.string ⟨#[]⟩, .string ⟨#[]⟩]) 2 32 Tryd.underlying40 hi hz0 hz1 hz2 rfl (by decide) (.slice (some ⟨gL, 0, none⟩) 0 0) 0 [] rfl hg ⟨gN, 0, none⟩ d.needs.length cap1 (needsV d.needs) rfl (needsV_length _) (SRC.out _ (hv8)) (needsV_one _) (by unfold maxLen; omega) (by omega) (hv8).size ?_
      intro v8 w8 o8 gr8 _
      rw [Nat.zero_add, List.nil_append] at o8
      obtain ⟨qn, cn, en⟩ := owns_sliceP o8
      subst en
      have h8 : Below wz.heap.size wz w8 := Below.grown (hv8) gr8 (hv8).size (fun j hj => (hg.lt _ hj).1)
      have ov8 := hv.kept gr8 (rows_apartE hg hv (by decide))
      clear hHeld
      refine hK.out _ _ ?G28 (fun hHeld => ?_)
      case G28 => ((try dsimp only); exact KEEP.out _ h8)
      clear hK K
      try simp only [Act.put, List.getElem_toArray, List.getElem_cons_zero, List.getElem_cons_succ, List.setIfInBounds_toArray, List.set_cons_zero, List.set_cons_succ]
      refine wpAnyH_take (i := 9) (oi := _) (v := ?vT29) rfl (by kernel_rfl) (by kernel_rfl) (by kernel_rfl) (fun _ _ _ h => h) (Or.inl ⟨by rfl, ?yT29⟩) hHeld ?_
      case yT29 => (intro w hSw; (try dsimp only at hSw); go_simp <;> with_reducible rfl)
      try simp only [Act.put, List.getElem_toArray, List.getElem_cons_zero, List.getElem_cons_succ, List.setIfInBounds_toArray, List.set_cons_zero, List.set_cons_succ]
      have hR3 := (h8.block (w.heap.size + 1) (by omega)).trans hRz
      have fy := vblk_frozen hR3
      have y0 := vblk_cell hR3 0
      have y1 := vblk_cell hR3 1
      have y2 := vblk_cell hR3 2
      have y3 := vblk_cell hR3 3
      have y4 := vblk_cell hR3 4
      have y5 := vblk_cell hR3 5
      simp only [List.getElem?_toArray, List.getElem?_cons_succ, List.getElem?_cons_zero] at y0 y1 y2 y3 y4 y5
      refine wpAnyH_ready (rs := [10]) (by kernel_rfl) (by simp) ?_
      refine AllReadyH.cons rfl (fun K hK => ?_) AllReadyH.nil
      go_simp
      clear hHeld
      refine hK.out _ _ ?U30 (fun hHeld => ?_)
      case U30 => (have hA3 := (h8.block w.heap.size (by omega)).trans hAz; exact ⟨vblk_cell (cells_put (cells_put (cells_put (cells_put (cells_put (cells_put hA3 (by omega) _ _) (by omega) _ _) (by omega) _ _) (by omega) _ _) (by omega) _ _) (by omega) _ _) 0, vblk_cell (cells_put (cells_put (cells_put (cells_put (cells_put (cells_put hA3 (by omega) _ _) (by omega) _ _) (by omega) _ _) (by omega) _ _) (by omega) _ _) (by omega) _ _) 1, vblk_cell (cells_put (cells_put (cells_put (cells_put (cells_put (cells_put hA3 (by omega) _ _) (by omega) _ _) (by omega) _ _) (by omega) _ _) (by omega) _ _) (by omega) _ _) 2, vblk_cell (cells_put (cells_put (cells_put (cells_put (cells_put (cells_put hA3 (by omega) _ _) (by omega) _ _) (by omega) _ _) (by omega) _ _) (by omega) _ _) (by omega) _ _) 3, vblk_cell (cells_put (cells_put (cells_put (cells_put (cells_put (cells_put hA3 (by omega) _ _) (by omega) _ _) (by omega) _ _) (by omega) _ _) (by omega) _ _) (by omega) _ _) 4, vblk_cell (cells_put (cells_put (cells_put (cells_put (cells_put (cells_put hA3 (by omega) _ _) (by omega) _ _) (by omega) _ _) (by omega) _ _) (by omega) _ _) (by omega) _ _) 5⟩)
      clear hK K
      try simp only [Act.put, List.getElem_toArray, List.getElem_cons_zero, List.getElem_cons_succ, List.setIfInBounds_toArray, List.set_cons_zero, List.set_cons_succ]
      refine wpAnyH_done (by kernel_rfl) ?_ _
      clear hHeld
      have HO : Hid (∀ W : World, W.heap.size = (w8).heap.size → Kp (fun b => b ≠ w.heap.size + 1) (w8) W → shEntryO.lies (Ow w.heap.size W.heap.size) W [.string d.name, .int .i64 d.vA, .int .i64 d.vB, .int .i64 d.vC, .slice qv d.vP.length cv, .slice qn d.needs.length cn] d) := fun W hWs hk => by
        have i2 := owns_in ov8
        have i3 := owns_in o8
        refine ⟨_, _, rfl, s_n, ⟨owns_kept hk (fun g hg => by have := (i2 g hg).1; show g ≠ _; omega) (owns_lo (Nat.zero_le _) ov8), fun g hg => ?_⟩, p0, ?_⟩
        · have h9 := i2 g hg
          exact ⟨by have := h9.1; omega, by have := h9.2; omega⟩
        · have hK2 : Kp (Ow wz.heap.size (w8).heap.size) (w8) W := fun b hb => hk b (by have := hb.1; show b ≠ _; omega)
          exact ((needs_own o8 hnl hns2).keep hK2).mono (Ow.mono (by omega) (by omega))
      go_wp2_with fail
      refine bodyPost_ret (v := .agg #[.string d.name, .int .i64 d.vA, .int .i64 d.vB, .int .i64 d.vC, .slice qv d.vP.length cv, .slice qn d.needs.length cn]) (by simp [results, Tryd.results35, go_sem, y0, y1, y2, y3, y4, y5]) rfl ⟨[.string d.name, .int .i64 d.vA, .int .i64 d.vB, .int .i64 d.vC, .slice qv d.vP.length cv, .slice qn d.needs.length cn], rfl, HO.out _ (by simp [World.setCell]) ?_, ?_⟩
      · (repeat (refine Kp.trans ?_ (Kp.set (by simp))))
        exact fun b hb => rfl
      · (repeat (refine Below.setCell ?_ (by simp) _))
        exact hwz.trans (h8.mono (by omega))
end Go.Proofs.YtkijckpkojcdcaaDoor

/-! The contract of the library for the text that a Builder holds, taken over from the library of contracts at the numbers of this program; conditions as it says. -/
namespace Go.Proofs
open Go.Shelf
def Tryd.lays169_ren : Go.Shelf.Ren := ⟨fun | 169 => 80 | n => n, fun | 70 => 118 | 9 => 9 | 0 => 0 | 72 => 120 | 37 => 64 | 127 => 132 | 3 => 3 | 5 => 5 | n => n, fun | n => n⟩
theorem Tryd.lays169 : Go.Proofs.Lays.n169 Tryd.prog Tryd.lays169_ren := {
  mixed := by kernel_rfl
  f169 := Tryd.func80.trans (congrArg some (by kernel_rfl))
  t0 := Tryd.underlying0
  a0 := Tryd.isAgg0
  z0 := Tryd.sizeOf0
  v0 := Tryd.zeroValue0
  t3 := Tryd.underlying3
  a3 := Tryd.isAgg3
  z3 := Tryd.sizeOf3
  v3 := Tryd.zeroValue3
  t9 := Tryd.underlying9
  a9 := Tryd.isAgg9
  z9 := Tryd.sizeOf9
  v9 := Tryd.zeroValue9
  t37 := Tryd.underlying64
  a37 := Tryd.isAgg64
  z37 := Tryd.sizeOf64
  v37 := Tryd.zeroValue64
  t70 := Tryd.underlying118
  a70 := Tryd.isAgg118
  z70 := Tryd.sizeOf118
  v70 := Tryd.zeroValue118
  t72 := Tryd.underlying120
  a72 := Tryd.isAgg120
  z72 := Tryd.sizeOf120
  v72 := Tryd.zeroValue120
  t127 := Tryd.underlying132
  a127 := Tryd.isAgg132
  z127 := Tryd.sizeOf132
  v127 := Tryd.zeroValue132 }
theorem Tryd.Builder_Extra_169 : Builder.Extra Tryd.prog Tryd.lays169_ren := {
  sizeBuilder := by kernel_rfl
  liesBuilder := by kernel_rfl
  t5 := Tryd.underlying5
  a5 := Tryd.isAgg5
  z5 := Tryd.sizeOf5
  v5 := Tryd.zeroValue5
  infoByte := by kernel_rfl
  cellsByte := by kernel_rfl
  sizeByte := by kernel_rfl
  neB5 := by decide }
open Go.RowKit in
theorem Tryd.Builder_String (B b : Nat) (l : List UInt8) (w : World) (h : Lib.IsBuilder 120 5 B b (Lib.byteCells l) w) (h0 : l ≠ []) :
    Calls Tryd.prog 80 #[.pointer (some ⟨b, 0, none⟩)] w fun e w' => e = .returned (.string ⟨l.toArray⟩) ∧ Below B w w' := Any.Builder_String Tryd.lays169 Tryd.Builder_Extra_169 B b l w h h0
open Go.RowKit in
theorem Tryd.Builder_String_empty (B b : Nat) (w : World) (h : Lib.IsBuilder 120 5 B b [] w) (hBw : B ≤ w.heap.size) :
    Calls Tryd.prog 80 #[.pointer (some ⟨b, 0, none⟩)] w fun e w' => e = .returned (.string ⟨#[]⟩) ∧ Below B w w' := Any.Builder_String_empty Tryd.lays169 Tryd.Builder_Extra_169 B b w h hBw
open Go.RowKit in
theorem Tryd.Builder_String_any (B b : Nat) (l : List UInt8) (w : World) (h : Lib.IsBuilder 120 5 B b (Lib.byteCells l) w) (hBw : B ≤ w.heap.size) :
    Calls Tryd.prog 80 #[.pointer (some ⟨b, 0, none⟩)] w fun e w' => e = .returned (.string ⟨l.toArray⟩) ∧ Below B w w' := Any.Builder_String_any Tryd.lays169 Tryd.Builder_Extra_169 B b l w h hBw
open Go.RowKit in
theorem Tryd.Builder_String_f (B b : Nat) (l : List UInt8) (w : World) (h : Lib.IsBuilderF 120 5 B b (Lib.byteCells l) w) (h0 : l ≠ []) :
    Calls Tryd.prog 80 #[.pointer (some ⟨b, 0, none⟩)] w fun e w' => e = .returned (.string ⟨l.toArray⟩) ∧ (Lib.IsBuilderF 120 5 B b (Lib.byteCells l) w' ∧ Below B w w') := Any.Builder_String_f Tryd.lays169 Tryd.Builder_Extra_169 B b l w h h0
open Go.RowKit in
theorem Tryd.Builder_String_empty_f (B b : Nat) (w : World) (h : Lib.IsBuilderF 120 5 B b [] w) (hBw : B ≤ w.heap.size) :
    Calls Tryd.prog 80 #[.pointer (some ⟨b, 0, none⟩)] w fun e w' => e = .returned (.string ⟨#[]⟩) ∧ (Lib.IsBuilderF 120 5 B b [] w' ∧ Below B w w') := Any.Builder_String_empty_f Tryd.lays169 Tryd.Builder_Extra_169 B b w h hBw
open Go.RowKit in
theorem Tryd.Builder_String_any_f (B b : Nat) (l : List UInt8) (w : World) (h : Lib.IsBuilderF 120 5 B b (Lib.byteCells l) w) (hBw : B ≤ w.heap.size) :
    Calls Tryd.prog 80 #[.pointer (some ⟨b, 0, none⟩)] w fun e w' => e = .returned (.string ⟨l.toArray⟩) ∧ (Lib.IsBuilderF 120 5 B b (Lib.byteCells l) w' ∧ Below B w w') := Any.Builder_String_any_f Tryd.lays169 Tryd.Builder_Extra_169 B b l w h hBw
end Go.Proofs

/-! What writing a text into a Builder of the call's own does, walked at this program's own copy of the library's text: the Builder holds the bytes behind those that it held; condition: together at most 2 to the 47. -/
namespace Go.Proofs.YtkijckpkojcdcaaDoor
open Go.RowKit
set_option linter.unusedSimpArgs false
set_option linter.unusedVariables false

theorem sizeBuilder : (Tryd.prog.info? 120).map (·.size) = some 2 := by kernel_rfl

set_option maxHeartbeats 1000000 in
set_option maxRecDepth 100000 in
theorem check_used (b : Nat) (w : World) (h0 : w.cell? ⟨b, 0, none⟩ = some (.pointer (some ⟨b, 0, none⟩))) :
    Calls Tryd.prog 87 #[.pointer (some ⟨b, 0, none⟩)] w fun e w' => e = .returned (.tuple #[]) ∧ w = w' := by
  obtain ⟨j, hj, _⟩ := Option.map_eq_some_iff.1 sizeBuilder
  have hne := Lib.run_neq_ptr_same w (⟨b, 0, none⟩ : Addr) Tryd.underlying118 hj
  go_enter Tryd.func87, Tryd.ntmps87
  go_wp2
  go_end0
  exact ⟨rfl, rfl⟩

set_option maxHeartbeats 1000000 in
set_option maxRecDepth 100000 in
theorem check_fresh (b : Nat) (w : World) (h0 : w.cell? ⟨b, 0, none⟩ = some (.pointer none)) (hsh : w.shape? b = some (120, 2)) (hfz : w.frozen? ⟨b, 0, none⟩ = false) :
    Calls Tryd.prog 87 #[.pointer (some ⟨b, 0, none⟩)] w fun e w' => e = .returned (.tuple #[]) ∧ w.setCell ⟨b, 0, none⟩ (.pointer (some ⟨b, 0, none⟩)) = w' := by
  obtain ⟨j, hj, hjs⟩ := Option.map_eq_some_iff.1 sizeBuilder
  have u1 := Lib.run_to_unsafe w ⟨b, 0, none⟩ Tryd.underlying118 Tryd.underlying138 hj (by rw [hjs]; decide) hsh (Nat.zero_lt_succ 1)
  have u2 := Lib.run_from_unsafe w ⟨b, 0, none⟩ Tryd.underlying138 Tryd.underlying118 hj hsh (by kernel_rfl)
  have u3 : ∀ v w, (callFunc 94 #[v]).run Tryd.prog w = .ok (.value v) w := fun v w => by
    rw [run_callFunc_extern Tryd.func94 (by kernel_rfl) (by kernel_rfl) (by kernel_rfl) (e := Extern.AbiNoEscape.same) (by kernel_rfl), Lib.run_noEscape]
    rfl
  go_enter Tryd.func87, Tryd.ntmps87
  go_wp2
  go_end0
  exact ⟨rfl, rfl⟩

theorem check_c (B b : Nat) (bs : List Value) (w : World) (h : Lib.IsBuilder 120 5 B b bs w) :
    Calls Tryd.prog 87 #[.pointer (some ⟨b, 0, none⟩)] w fun e w' => e = .returned (.tuple #[]) ∧ (Lib.BuilderAt 120 5 B b (.pointer (some ⟨b, 0, none⟩)) bs w' ∧ Below B w w') := by
  rcases h with h | h
  · exact (check_fresh b w h.cell0 h.shape h.frozen0).mono fun e w' ⟨h1, h2⟩ => by
      subst h2
      exact ⟨h1, h.used _, (Below.refl B w).setCell (p := ⟨b, 0, none⟩) h.1 _⟩
  · exact (check_used b w h.cell0).mono fun e w' ⟨h1, h2⟩ => by
      subst h2
      exact ⟨h1, h, Below.refl B _⟩

set_option maxHeartbeats 2000000 in
set_option maxRecDepth 100000 in
theorem write_c (B b : Nat) (bs : List Value) (s : ByteArray) (w : World) (h : Lib.IsBuilder 120 5 B b bs w) (hlen : bs.length + s.size ≤ 140737488355328) (hBw : B ≤ w.heap.size) :
    Calls Tryd.prog 77 #[.pointer (some ⟨b, 0, none⟩), .string s] w fun e w' => e = .returned (.tuple #[.int .i64 s.size, .nilIface]) ∧ (Lib.BuilderAt 120 5 B b (.pointer (some ⟨b, 0, none⟩)) (bs ++ Lib.strCells s) w' ∧ Below B w w') := by
  obtain ⟨i0, hi, hz0, hz1, hz2⟩ := info_parts info5
  go_enter Tryd.func77, Tryd.ntmps77
  go_wp2_with (first
    | (go_at_call 87
       refine (check_c B b bs _ h).mono ?_
       rintro e w1 ⟨rfl, h1, hb1⟩
       obtain ⟨hB, v, hbk, hown, hne⟩ := h1
       have c0 : w1.cell? ⟨b, 0, none⟩ = some (.pointer (some ⟨b, 0, none⟩)) := by rw [Lib.cell_of_heap hbk]; rfl
       have c1 : w1.cell? ⟨b, 1, none⟩ = some v := by rw [Lib.cell_of_heap hbk]; rfl)
    | (at_builtin; refine Lib.wpList_append_own_string _ rfl _ _ 64 9 rfl B 5 i0 Tryd.underlying64 Tryd.underlying9 hi hz0 hz1 hz2 _ bs.length bs rfl hown s rfl (by unfold maxLen; omega) hlen (Nat.le_trans hBw hb1.size) ?_))
  intro v' w2 hown' hgrow hnil
  have hlt : b < w1.heap.size := (Array.getElem?_eq_some_iff.1 hbk).1
  have hb2 : w2.heap[b]? = some (.cells #[.pointer (some ⟨b, 0, none⟩), v] 120 (0, 0)) := by
    rw [hgrow.block b hlt (fun e => hne e.symm)]
    exact hbk
  have d0 : w2.cell? ⟨b, 0, none⟩ = some (.pointer (some ⟨b, 0, none⟩)) := by rw [Lib.cell_of_heap hb2]; rfl
  have d1 : w2.cell? ⟨b, 1, none⟩ = some v := by rw [Lib.cell_of_heap hb2]; rfl
  have f1 : w2.frozen? ⟨b, 1, none⟩ = false := Lib.frozen_of_heap hb2 1
  have hex : ∃ ao cap, v' = .slice ao (bs.length + s.size) cap := by
    rcases hown'.2 with ⟨hv, h0⟩ | ⟨g, cap, cur, hv, _⟩
    · exact ⟨none, 0, by rw [hv, h0]⟩
    · exact ⟨_, cap, hv⟩
  have hbel : Below B w (w2.setCell ⟨b, 1, none⟩ v') := (hb1.grown hgrow (Nat.le_trans hBw hb1.size) (fun k hk => (hown.lt k hk).1)).setCell (p := ⟨b, 1, none⟩) hB _
  have hput : Lib.BuilderAt 120 5 B b (.pointer (some ⟨b, 0, none⟩)) (bs ++ Lib.strCells s) (w2.setCell ⟨b, 1, none⟩ v') :=
    Lib.BuilderAt.put hB hb2 (bs' := bs ++ Lib.strCells s) (by rw [List.length_append, Lib.strCells_length]; exact hown') (by decide)
  obtain ⟨ao, cap, hv⟩ := hex
  subst hv
  clear hnil
  go_wp2
  go_ret2
  exact ⟨rfl, hput, hbel⟩
end Go.Proofs.YtkijckpkojcdcaaDoor

/-! What all texts of a list make with another text between them, and what the two functions Join (the program's, by a Builder, and the specification's) answer: just that text; conditions: at most 2 to the 20 texts and letters in the list, and as many in the text between. -/
namespace Go.Proofs.YtkijckpkojcdcaaDoor
open Go.RowKit
set_option linter.unusedSimpArgs false
set_option linter.unusedVariables false

def joinUpto (ss : List ByteArray) (t : ByteArray) : Nat → ByteArray
  | 0 => ⟨#[]⟩
  | k + 1 => (if k = 0 then joinUpto ss t k else joinUpto ss t k ++ t) ++ ss.getD k ⟨#[]⟩
def joinS (ss : List ByteArray) (t : ByteArray) : ByteArray := joinUpto ss t ss.length

theorem joinUpto_size (ss : List ByteArray) (t : ByteArray) : ∀ k, k ≤ ss.length → (joinUpto ss t k).size ≤ k * t.size + ((ss.take k).map ByteArray.size).sum
  | 0, _ => by simp [joinUpto]; rfl
  | k + 1, h => by
    have ih := joinUpto_size ss t k (by omega)
    have hs := sum_take_succ ss k (by omega)
    have hg : ss.getD k ⟨#[]⟩ = ss[k] := by simp [List.getD_eq_getElem?_getD, show k < ss.length by omega]
    rw [joinUpto, ByteArray.size_append, hg, hs, Nat.succ_mul]
    split
    · omega
    · rw [ByteArray.size_append]; omega
theorem joinUpto_succ0 (ss : List ByteArray) (t : ByteArray) (h : 0 < ss.length) : joinUpto ss t 1 = joinUpto ss t 0 ++ ss[0] := by
  simp [joinUpto, List.getD_eq_getElem?_getD, h]
theorem joinUpto_succ (ss : List ByteArray) (t : ByteArray) (k : Nat) (hk : ¬ k = 0) (h : k < ss.length) : joinUpto ss t (k + 1) = joinUpto ss t k ++ t ++ ss[k] := by
  rw [joinUpto, if_neg hk]
  simp [List.getD_eq_getElem?_getD, h]

theorem join_bound (ss : List ByteArray) (t : ByteArray) (k : Nat) (hk : k ≤ ss.length) (hb : bulkS ss ≤ 1048576) (ht : t.size ≤ 1048576) : (joinUpto ss t k).size ≤ 1099512676352 := by
  have h1 := joinUpto_size ss t k hk
  have h2 := sum_take_le ss k
  have h3 : k * t.size ≤ 1048576 * 1048576 := Nat.mul_le_mul (by unfold bulkS at hb; omega) ht
  unfold bulkS at hb
  omega

theorem strCells_append (a b : ByteArray) : Lib.strCells (a ++ b) = Lib.strCells a ++ Lib.strCells b := by
  simp [Lib.strCells, ByteArray.data_append]

theorem fresh_builder (w : World) : Lib.IsBuilder 120 5 w.heap.size w.heap.size [] (w.alloc (.cells #[.pointer none, .slice none 0 0] 120)) :=
  .inl ⟨Nat.le_refl _, .slice none 0 0, heap_alloc_new w _, World.ownsRow_nil _ _ _ _, by simp [Value.ownBlock]⟩

end Go.Proofs.YtkijckpkojcdcaaDoor
