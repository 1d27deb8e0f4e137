/-
  Contracts for the walks, several texts in one: each part says what it proves, and under which conditions.
-/
import Derived.Deep.RegionHeld
import Derived.SliceStrings
import Derived.ChangeArms
import Derived.ChangeOld
import Derived.ChangeAt
import Derived.Test.YtbkeenhmhibhhaaQ2
import Derived.Test.YtbkeenhmhibhhaaQ1

/-! Whether two values are alike, as the specification asks it: a contract for the walks; conditions: they lie in memory, and the first holds at most 2 to the 20. -/
namespace Go.Proofs.Ytbkeenhmhibhhaa
open Go.RowKit
set_option linter.unusedSimpArgs false
set_option linter.unusedVariables false

def SmpC (T : Tree) : Prop := ∀ (T' : Tree) (S S' : Nat → Prop) (v u : Value) (w : World), Lies S w v T → Lies S' w u T' → (∀ b, S b → b < w.heap.size) → (∀ b, S' b → b < w.heap.size) → T.wt ≤ 1048576 →
  Calls Try.prog 5 #[v, u] w fun e w' => ∃ r : Bool, e = .returned (.bool r) ∧ (r = true ↔ T = T') ∧ Below w.heap.size w w'

set_option maxHeartbeats 16000000 in
set_option maxRecDepth 100000 in
theorem samev_step (xk xn : Int) (xs : ByteArray) (l : List Tree) (xks : List ByteArray) (ih : ∀ U ∈ l, SmpC U) : SmpC (.mk xk xn xs l xks) := by
  intro T' S S' v u w hv hu hB hB' hw
  obtain ⟨yk, yn, ys, l', yks⟩ := T'
  obtain ⟨c, uk, rfl, hs, hk, hl, hu1⟩ := hv.out
  obtain ⟨c', uk', rfl, hs', hk', hl', hu2⟩ := hu.out
  clear hv hu
  rw [wt_mk] at hw
  have hb2 : ∀ A R, Below w.heap.size w ((w.alloc A).alloc R) := fun A R => ((Below.refl _ _).alloc (Nat.le_refl _) _).alloc (by simp) _
  have hkn : xks.length ≤ 1099511627776 := by unfold bulkS at hw; omega
  have HE : Hid (∀ w1, Below w.heap.size w w1 → Calls Try.prog 11 #[uk, uk'] w1 fun e w' => e = .returned (.bool (decide (xks = yks))) ∧ Below w1.heap.size w1 w') := fun w1 h => sameTextsH_c uk uk' xks yks w1 ((hu1.keep (.of h hB)).reads (fun b hb => Nat.lt_of_lt_of_le (hB b hb) h.size)) ((hu2.keep (.of h hB')).reads (fun b hb => Nat.lt_of_lt_of_le (hB' b hb) h.size)) hkn
  have HREC : Hid (∀ w1, Below w.heap.size w w1 → ∀ i (h : i < l.length) (h' : i < l'.length), ∃ b o c0 c1 c2 c3 c4 b' o' d0 d1 d2 d3 d4, (∃ cap, c = .slice (some ⟨b, o, none⟩) l.length cap) ∧ (∃ cap, c' = .slice (some ⟨b', o', none⟩) l'.length cap) ∧
      (∀ W, Below w.heap.size w W → (W.cell? ⟨b, o + i * 5, none⟩ = some c0 ∧ W.cell? ⟨b, o + i * 5 + 1, none⟩ = some c1 ∧ W.cell? ⟨b, o + i * 5 + 2, none⟩ = some c2 ∧ W.cell? ⟨b, o + i * 5 + 3, none⟩ = some c3 ∧ W.cell? ⟨b, o + i * 5 + 4, none⟩ = some c4) ∧ (W.cell? ⟨b', o' + i * 5, none⟩ = some d0 ∧ W.cell? ⟨b', o' + i * 5 + 1, none⟩ = some d1 ∧ W.cell? ⟨b', o' + i * 5 + 2, none⟩ = some d2 ∧ W.cell? ⟨b', o' + i * 5 + 3, none⟩ = some d3 ∧ W.cell? ⟨b', o' + i * 5 + 4, none⟩ = some d4)) ∧
      ∀ W, Below w.heap.size w W → Calls Try.prog 5 #[.agg #[c0, c1, c2, c3, c4], .agg #[d0, d1, d2, d3, d4]] W fun e w' => ∃ r : Bool, e = .returned (.bool r) ∧ (r = true ↔ l[i] = l'[i]) ∧ Below W.heap.size W w') := fun w1 hw1 i h h' => by
    obtain ⟨a, cap, ec, _, _, ha⟩ := hl.at
    obtain ⟨a', cap', ec', _, _, ha'⟩ := hl'.at
    rcases ha with ha | ⟨b, o, ea, hlt, ha⟩
    · rw [ha] at h; simp at h
    rcases ha' with ha' | ⟨b', o', ea', hlt', ha'⟩
    · rw [ha'] at h'; simp at h'
    subst ea ea'
    obtain ⟨c0, c1, c2, c3, c4, f0, f1, f2, f3, f4, hT⟩ := ha i h
    obtain ⟨d0, d1, d2, d3, d4, g0, g1, g2, g3, g4, hT'⟩ := ha' i h'
    have hbl := hB b hlt
    have hbl' := hB' b' hlt'
    refine ⟨b, o, c0, c1, c2, c3, c4, b', o', d0, d1, d2, d3, d4, ⟨cap, ec⟩, ⟨cap', ec'⟩, fun W hW => ⟨⟨(hW.cell (by simpa using hbl)).trans f0, (hW.cell (by simpa using hbl)).trans f1, (hW.cell (by simpa using hbl)).trans f2, (hW.cell (by simpa using hbl)).trans f3, (hW.cell (by simpa using hbl)).trans f4⟩, ⟨(hW.cell (by simpa using hbl')).trans g0, (hW.cell (by simpa using hbl')).trans g1, (hW.cell (by simpa using hbl')).trans g2, (hW.cell (by simpa using hbl')).trans g3, (hW.cell (by simpa using hbl')).trans g4⟩⟩, fun W hW => ?_⟩
    have hwt : (l[i]).wt ≤ 1048576 := by have := wt_le_wtL (List.getElem_mem h); omega
    exact ih _ (List.getElem_mem h) _ S S' _ _ W (hT.keep (.of hW hB)) (hT'.keep (.of hW hB')) (fun b hb => Nat.lt_of_lt_of_le (hB b hb) hW.size) (fun b hb => Nat.lt_of_lt_of_le (hB' b hb) hW.size) hwt
  obtain ⟨xa, xc, ec, hlm⟩ : ∃ a cap, c = .slice a l.length cap ∧ l.length ≤ maxLen := by obtain ⟨a, cap, _, e, hm, _⟩ := hl; exact ⟨a, cap, e, hm⟩
  obtain ⟨ya, yc, ec', hlm'⟩ : ∃ a cap, c' = .slice a l'.length cap ∧ l'.length ≤ maxLen := by obtain ⟨a, cap, _, e, hm, _⟩ := hl'; exact ⟨a, cap, e, hm⟩
  subst ec ec'
  obtain ⟨xq, xd, euk, _, _⟩ := reads_strs (hu1.reads hB)
  obtain ⟨yq, yd, euk', _, _⟩ := reads_strs (hu2.reads hB')
  subst euk euk'
  obtain ⟨xl, hxl⟩ : ∃ n, n = xks.length := ⟨_, rfl⟩
  obtain ⟨yl, hyl⟩ : ∃ n, n = yks.length := ⟨_, rfl⟩
  obtain ⟨xm, hxm⟩ : ∃ n, n = l.length := ⟨_, rfl⟩
  obtain ⟨ym, hym⟩ : ∃ n, n = l'.length := ⟨_, rfl⟩
  unfold maxLen at hlm hlm'
  rw [← hxl, ← hyl] at HE
  rw [← hxl, ← hyl, ← hxm, ← hym]
  rw [← hxm] at hlm
  have HXM := hidden hxm
  have HYM := hidden hym
  clear hw hkn hs hs' hk hk' hl hl' hu1 hu2 ih hB hB' hxl hyl hxm hym hlm'
  by_cases e0 : xk = yk
  case neg =>
    have HX : Hid (¬ Tree.mk xk xn xs l xks = Tree.mk yk yn ys l' yks) := fun h => by injection h with h0 h1 h2 h3 h4; exact e0 h0
    have q0 : ((xk : Int) != yk) = true := bne_iff_ne.2 e0
    have q00 : ((xk : Int) == yk) = false := by rw [beq_eq_false_iff_ne]; exact e0
    clear HE HREC e0
    go_enter Try.func5, Try.ntmps5
    go_wp2_with fail
    go_ret
    exact ⟨false, rfl, by simpa using HX.out, hb2 _ _⟩
  subst e0
  by_cases e1 : xn = yn
  case neg =>
    have HX : Hid (¬ Tree.mk xk xn xs l xks = Tree.mk xk yn ys l' yks) := fun h => by injection h with h0 h1 h2 h3 h4; exact e1 h1
    have q1 : ((xn : Int) != yn) = true := bne_iff_ne.2 e1
    have q11 : ((xn : Int) == yn) = false := by rw [beq_eq_false_iff_ne]; exact e1
    clear HE HREC e1
    go_enter Try.func5, Try.ntmps5
    go_wp2_with fail
    go_ret
    exact ⟨false, rfl, by simpa using HX.out, hb2 _ _⟩
  subst e1
  by_cases e2 : xs = ys
  case neg =>
    have HX : Hid (¬ Tree.mk xk xn xs l xks = Tree.mk xk xn ys l' yks) := fun h => by injection h with h0 h1 h2 h3 h4; exact e2 h2
    have q2 : (xs.toList == ys.toList) = false := by rw [text_alikeH]; exact decide_eq_false e2
    have q22 : (!xs.toList == ys.toList) = true := by rw [q2]; rfl
    clear HE HREC e2
    go_enter Try.func5, Try.ntmps5
    go_wp2_with fail
    go_ret
    exact ⟨false, rfl, by simpa using HX.out, hb2 _ _⟩
  subst e2
  have q2 : (xs.toList == xs.toList) = true := beq_self_eq_true _
  by_cases e3 : xm = ym
  case neg =>
    have HX : Hid (¬ Tree.mk xk xn xs l xks = Tree.mk xk xn xs l' yks) := fun h => by injection h with h0 h1 h2 h3 h4; exact e3 (by rw [HXM.out, HYM.out, h3])
    have q3 : ((xm : Int) == (ym : Int)) = false := by rw [beq_eq_false_iff_ne]; omega
    have qm : ¬ (xm : Int) = (ym : Int) := by omega
    have q33 : ((xm : Int) != (ym : Int)) = true := bne_iff_ne.2 qm
    clear HE HREC e3
    go_enter Try.func5, Try.ntmps5
    go_wp2_with fail
    go_ret
    exact ⟨false, rfl, by simpa using HX.out, hb2 _ _⟩
  subst e3
  obtain ⟨r, hr⟩ : ∃ r, r = decide (xks = yks) := ⟨_, rfl⟩
  rw [← hr] at HE
  cases r with
  | false =>
    have HX : Hid (¬ Tree.mk xk xn xs l xks = Tree.mk xk xn xs l' yks) := fun h => by injection h with h0 h1 h2 h3 h4; rw [decide_eq_true h4] at hr; cases hr
    clear HREC hr
    go_enter Try.func5, Try.ntmps5
    go_wp2_with fail
    go_at_call 11
    refine (HE.out _ (hb2 _ _)).mono ?_
    rintro e w1 ⟨rfl, b1⟩
    go_wp2_with fail
    go_ret
    exact ⟨false, rfl, by simpa using HX.out, (hb2 _ _).trans (b1.mono (hb2 _ _).size)⟩
  | true =>
    have e4 : xks = yks := of_decide_eq_true hr.symm
    subst e4
    clear hr
    go_enter Try.func5, Try.ntmps5
    go_wp2_with fail
    go_at_call 11
    refine (HE.out _ (hb2 _ _)).mono ?_
    rintro e w1 ⟨rfl, b1⟩
    obtain ⟨hA1, hA2⟩ := box2H b1
    have k1 : Below w.heap.size w w1 := (hb2 _ _).trans (b1.mono (hb2 _ _).size)
    clear b1 HE
    go_wp2_with fail
    go_loopw [5] (fun vi wr => ∃ i : Nat, i ≤ xm ∧ vi = .int .i64 (i : Int) ∧ Hid (∀ j (h : j < l.length) (h' : j < l'.length), j < i → l[j] = l'[j]) ∧ Below w1.heap.size w1 wr) (fun vi _ => xm - (intOf vi).toNat)
    case atStart => exact ⟨0, Nat.zero_le _, rfl, (fun j h h' hj => by omega), Below.refl _ _⟩
    case round =>
      obtain ⟨i, hi, rfl, hh, hbr⟩ := hrel
      have hkr : Below w.heap.size w wr := k1.trans (hbr.mono k1.size)
      obtain ⟨x0, x1, x2, x3, x4⟩ := cells5H ((hbr.block _ (Array.getElem?_eq_some_iff.1 hA1).1).trans hA1)
      obtain ⟨y0, y1, y2, y3, y4⟩ := cells5H ((hbr.block _ (Array.getElem?_eq_some_iff.1 hA2).1).trans hA2)
      by_cases hlt' : i < xm
      · have hil : i < l.length := by have := HXM.out; omega
        have hil' : i < l'.length := by have := HYM.out; omega
        obtain ⟨b, o, c0, c1, c2, c3, c4, b', o', d0, d1, d2, d3, d4, ⟨cap, ec⟩, ⟨cap', ec'⟩, hcells, hcall⟩ := HREC.out wr hkr i hil hil'
        rw [← HXM.out] at ec
        rw [← HYM.out] at ec'
        obtain ⟨rfl, _, rfl⟩ := Value.slice.inj ec
        obtain ⟨rfl, _, rfl⟩ := Value.slice.inj ec'
        have hd0 : Below w1.heap.size w1 wr.drew := hbr.drew
        have KEEP : Hid (∀ W, Below w1.heap.size w1 W → (W.cell? ⟨w.heap.size, 3, none⟩ = some (.slice (some ⟨b, o, none⟩) xm xc) ∧ W.cell? ⟨w.heap.size + 1, 3, none⟩ = some (.slice (some ⟨b', o', none⟩) xm yc)) ∧ ((W.cell? ⟨b, o + i * 5, none⟩ = some c0 ∧ W.cell? ⟨b, o + i * 5 + 1, none⟩ = some c1 ∧ W.cell? ⟨b, o + i * 5 + 2, none⟩ = some c2 ∧ W.cell? ⟨b, o + i * 5 + 3, none⟩ = some c3 ∧ W.cell? ⟨b, o + i * 5 + 4, none⟩ = some c4) ∧ (W.cell? ⟨b', o' + i * 5, none⟩ = some d0 ∧ W.cell? ⟨b', o' + i * 5 + 1, none⟩ = some d1 ∧ W.cell? ⟨b', o' + i * 5 + 2, none⟩ = some d2 ∧ W.cell? ⟨b', o' + i * 5 + 3, none⟩ = some d3 ∧ W.cell? ⟨b', o' + i * 5 + 4, none⟩ = some d4))) := fun W h => by
          refine ⟨⟨?_, ?_⟩, hcells W (k1.trans (h.mono k1.size))⟩
          · exact (cells5H ((h.block _ (Array.getElem?_eq_some_iff.1 hA1).1).trans hA1)).2.2.2.1
          · exact (cells5H ((h.block _ (Array.getElem?_eq_some_iff.1 hA2).1).trans hA2)).2.2.2.1
        have HC := hidden (hcall wr.drew hkr.drew)
        have HIX : Hid (l[i] = l'[i] → ∀ j (h : j < l.length) (h' : j < l'.length), j < i + 1 → l[j] = l'[j]) := fun h j hj hj' hji => by
          by_cases e : j = i
          · subst e; exact h
          · exact hh.out j hj hj' (by omega)
        have HNX : Hid (¬ l[i] = l'[i] → ¬ Tree.mk xk xn xs l xks = Tree.mk xk xn xs l' xks) := fun h h2 => by
          injection h2 with _ _ _ h3 _
          subst h3
          exact h rfl
        have hki : (i : Int) < (xm : Int) := by omega
        have hz0 := hcells wr hkr
        clear hh hcells hcall hz0 ec ec'
        go_wp2_with fail
        refine wp_region_held_drew (S := (fun W => (W.cell? ⟨w.heap.size, 3, none⟩ = some (.slice (some ⟨b, o, none⟩) xm xc) ∧ W.cell? ⟨w.heap.size + 1, 3, none⟩ = some (.slice (some ⟨b', o', none⟩) xm yc)) ∧ ((W.cell? ⟨b, o + i * 5, none⟩ = some c0 ∧ W.cell? ⟨b, o + i * 5 + 1, none⟩ = some c1 ∧ W.cell? ⟨b, o + i * 5 + 2, none⟩ = some c2 ∧ W.cell? ⟨b, o + i * 5 + 3, none⟩ = some c3 ∧ W.cell? ⟨b, o + i * 5 + 4, none⟩ = some c4) ∧ (W.cell? ⟨b', o' + i * 5, none⟩ = some d0 ∧ W.cell? ⟨b', o' + i * 5 + 1, none⟩ = some d1 ∧ W.cell? ⟨b', o' + i * 5 + 2, none⟩ = some d2 ∧ W.cell? ⟨b', o' + i * 5 + 3, none⟩ = some d3 ∧ W.cell? ⟨b', o' + i * 5 + 4, none⟩ = some d4)))) (by kernel_rfl) ?SR10 (fun hHeld => ?_)
        case SR10 => (first | (with_reducible exact KEEP.out _ hd1) | (with_reducible exact KEEP.out _ hd0))
        refine wpAnyH_take (i := 0) (oi := _) (v := ?vR10) rfl (by kernel_rfl) (by kernel_rfl) (by kernel_rfl) (fun _ _ _ h => h) (Or.inl ⟨by rfl, ?yR10⟩) hHeld ?_
        case yR10 => (intro w hSw; (try dsimp only at hSw); go_simp <;> with_reducible rfl)
        try simp only [Act.put, List.getElem_toArray, List.getElem_cons_zero, List.getElem_cons_succ, List.setIfInBounds_toArray, List.set_cons_zero, List.set_cons_succ]
        refine wpAnyH_take (i := 1) (oi := _) (v := ?vR11) rfl (by kernel_rfl) (by kernel_rfl) (by kernel_rfl) (fun _ _ _ h => h) (Or.inl ⟨by rfl, ?yR11⟩) hHeld ?_
        case yR11 => (intro w hSw; (try dsimp only at hSw); go_simp <;> with_reducible rfl)
        try simp only [Act.put, List.getElem_toArray, List.getElem_cons_zero, List.getElem_cons_succ, List.setIfInBounds_toArray, List.set_cons_zero, List.set_cons_succ]
        refine wpAnyH_take (i := 2) (oi := _) (v := ?vR12) rfl (by kernel_rfl) (by kernel_rfl) (by kernel_rfl) (fun _ _ _ h => h) (Or.inl ⟨by rfl, ?yR12⟩) hHeld ?_
        case yR12 => (intro w hSw; (try dsimp only at hSw); go_simp <;> with_reducible rfl)
        try simp only [Act.put, List.getElem_toArray, List.getElem_cons_zero, List.getElem_cons_succ, List.setIfInBounds_toArray, List.set_cons_zero, List.set_cons_succ]
        refine wpAnyH_take (i := 3) (oi := _) (v := ?vR13) rfl (by kernel_rfl) (by kernel_rfl) (by kernel_rfl) (fun _ _ _ h => h) (Or.inl ⟨by rfl, ?yR13⟩) hHeld ?_
        case yR13 => (intro w hSw; (try dsimp only at hSw); go_simp <;> with_reducible rfl)
        try simp only [Act.put, List.getElem_toArray, List.getElem_cons_zero, List.getElem_cons_succ, List.setIfInBounds_toArray, List.set_cons_zero, List.set_cons_succ]
        refine wpAnyH_take (i := 4) (oi := _) (v := ?vR14) rfl (by kernel_rfl) (by kernel_rfl) (by kernel_rfl) (fun _ _ _ h => h) (Or.inl ⟨by rfl, ?yR14⟩) hHeld ?_
        case yR14 => (intro w hSw; (try dsimp only at hSw); go_simp <;> with_reducible rfl)
        try simp only [Act.put, List.getElem_toArray, List.getElem_cons_zero, List.getElem_cons_succ, List.setIfInBounds_toArray, List.set_cons_zero, List.set_cons_succ]
        refine wpAnyH_take (i := 5) (oi := _) (v := ?vR15) rfl (by kernel_rfl) (by kernel_rfl) (by kernel_rfl) (fun _ _ _ h => h) (Or.inl ⟨by rfl, ?yR15⟩) hHeld ?_
        case yR15 => (intro w hSw; (try dsimp only at hSw); go_simp <;> with_reducible rfl)
        try simp only [Act.put, List.getElem_toArray, List.getElem_cons_zero, List.getElem_cons_succ, List.setIfInBounds_toArray, List.set_cons_zero, List.set_cons_succ]
        refine wpAnyH_take (i := 6) (oi := _) (v := ?vR16) rfl (by kernel_rfl) (by kernel_rfl) (by kernel_rfl) (fun _ _ _ h => h) (Or.inl ⟨by rfl, ?yR16⟩) hHeld ?_
        case yR16 => (intro w hSw; (try dsimp only at hSw); go_simp <;> with_reducible rfl)
        try simp only [Act.put, List.getElem_toArray, List.getElem_cons_zero, List.getElem_cons_succ, List.setIfInBounds_toArray, List.set_cons_zero, List.set_cons_succ]
        refine wpAnyH_take (i := 7) (oi := _) (v := ?vR17) rfl (by kernel_rfl) (by kernel_rfl) (by kernel_rfl) (fun _ _ _ h => h) (Or.inl ⟨by rfl, ?yR17⟩) hHeld ?_
        case yR17 => (intro w hSw; (try dsimp only at hSw); go_simp <;> with_reducible rfl)
        try simp only [Act.put, List.getElem_toArray, List.getElem_cons_zero, List.getElem_cons_succ, List.setIfInBounds_toArray, List.set_cons_zero, List.set_cons_succ]
        refine wpAnyH_take (i := 8) (oi := _) (v := ?vR18) rfl (by kernel_rfl) (by kernel_rfl) (by kernel_rfl) (fun _ _ _ h => h) (Or.inl ⟨by rfl, ?yR18⟩) hHeld ?_
        case yR18 => (intro w hSw; (try dsimp only at hSw); go_simp <;> with_reducible rfl)
        try simp only [Act.put, List.getElem_toArray, List.getElem_cons_zero, List.getElem_cons_succ, List.setIfInBounds_toArray, List.set_cons_zero, List.set_cons_succ]
        refine wpAnyH_take (i := 9) (oi := _) (v := ?vR19) rfl (by kernel_rfl) (by kernel_rfl) (by kernel_rfl) (fun _ _ _ h => h) (Or.inl ⟨by rfl, ?yR19⟩) hHeld ?_
        case yR19 => (intro w hSw; (try dsimp only at hSw); go_simp <;> with_reducible rfl)
        try simp only [Act.put, List.getElem_toArray, List.getElem_cons_zero, List.getElem_cons_succ, List.setIfInBounds_toArray, List.set_cons_zero, List.set_cons_succ]
        refine wpAnyH_ready (rs := [10]) (by kernel_rfl) (by simp) ?_
        refine AllReadyH.cons rfl (fun K hK => ?_) AllReadyH.nil
        go_simp
        go_wp2_with (go_at_call 5; refine HC.out.mono ?_; rintro e w2 ⟨r, rfl, hr, b2⟩; have hd1 : Below w1.heap.size w1 w2 := hd0.trans (b2.mono hd0.size); have HR := hidden hr; clear hr)
        clear hHeld
        refine hK.out _ _ ?SR111 (fun hHeld => ?_)
        case SR111 => ((try dsimp only); first | (with_reducible exact KEEP.out _ hd1) | (with_reducible exact KEEP.out _ hd0))
        clear hK K
        refine wpAnyH_take (i := 11) (oi := _) (v := ?vR111) rfl (by kernel_rfl) (by kernel_rfl) (by kernel_rfl) (fun _ _ _ h => h) (Or.inl ⟨by rfl, ?yR111⟩) hHeld ?_
        case yR111 => (intro w hSw; (try dsimp only at hSw); go_simp <;> with_reducible rfl)
        try simp only [Act.put, List.getElem_toArray, List.getElem_cons_zero, List.getElem_cons_succ, List.setIfInBounds_toArray, List.set_cons_zero, List.set_cons_succ]
        refine wpAnyH_done (by kernel_rfl) ?_ _
        cases r with
        | false =>
          have HF := hidden (HNX.out (fun h => by have := (HR.out.2 h); cases this))
          clear HIX HNX HR
          go_wp2_with fail
          go_ret
          exact ⟨false, rfl, by simpa using HF.out, k1.trans (hd1.mono k1.size)⟩
        | true =>
          have HT := hidden (HIX.out (HR.out.1 rfl))
          clear HIX HNX HR
          go_wp2_with fail
          go_roundw
          case rel => exact ⟨i + 1, by omega, by go_num, HT.out, hd1⟩
          case measure => simp [intOf]; omega
      · have he : i = xm := by omega
        subst he
        have HF : Hid (Tree.mk xk xn xs l xks = Tree.mk xk xn xs l' xks) := by
          have h9 : l = l' := List.ext_getElem (by rw [← HXM.out, ← HYM.out]) (fun j h h' => hh.out j h h' (by have := HXM.out; omega))
          show _ = _
          rw [h9]
        clear hh HREC
        go_wp2_with fail
        go_ret
        exact ⟨true, rfl, by simpa using HF.out, hkr⟩
theorem specSameVal_c : ∀ T, SmpC T := by
  refine Tree.ind ?_
  intro k n s l ks ih
  exact samev_step k n s l ks ih
end Go.Proofs.Ytbkeenhmhibhhaa

/-! The law on SameVal, walked: whatever two values come in, the program and the specification tell alike whether they are the same, and nothing is written into an argument; conditions: what comes in lies in memory. -/
namespace Go.Proofs.Ytbkeenhmhibhhaa
open Go.RowKit
set_option linter.unusedSimpArgs false
set_option linter.unusedVariables false

theorem box_staysV {w w' : World} {b : Nat} {o : Obj} (h : w.heap[b]? = some o) (k : Below w.heap.size w w') : w'.heap[b]? = some o := (k.block b (Array.getElem?_eq_some_iff.1 h).1).trans h
/-- A copy of a value that may be written. -/
structure ValO (lo mid hi : Nat) (W : World) (v : Value) (T : Tree) : Prop where
  lies : Lies (Own lo hi) W v T
  own : OwnT lo mid hi W v T
  h1 : lo ≤ mid
  h2 : mid ≤ hi
  h3 : hi ≤ W.heap.size
theorem ValO.below {lo mid hi : Nat} {W W' : World} {v : Value} {T : Tree} (h : ValO lo mid hi W v T) (k : Below W.heap.size W W') : ValO lo mid hi W' v T :=
  ⟨h.lies.keep (fun b hb => k.block b (Nat.lt_of_lt_of_le hb.2 h.h3)), h.own.keep h.h1 h.h2 (fun b hb => k.block b (Nat.lt_of_lt_of_le hb.2 h.h3)), h.h1, h.h2, Nat.le_trans h.h3 k.size⟩

set_option maxHeartbeats 8000000 in
set_option maxRecDepth 100000 in
theorem sameVal_walk (v u : Value) (X Y : Tree) (w : World) (rx : Lies (· < w.heap.size) w v X) (ry : Lies (· < w.heap.size) w u Y) :
    Calls Try.prog 3 #[v, u] w fun e w' => e = .returned (.bool true) ∧ Below w.heap.size w w' := by
  obtain ⟨x1, x2, x3, x4, x5, x6, x7, x8, x9, rfl⟩ := rx.parts
  obtain ⟨y1, y2, y3, y4, y5, y6, y7, y8, y9, rfl⟩ := ry.parts
  have hbx : Below w.heap.size w ((w.alloc (.cells #[.int .i64 x1, .int .i64 x2, .string x3, .slice x4 x5 x6, .slice x7 x8 x9] 25 (0, 0))).alloc (.cells #[.int .i64 y1, .int .i64 y2, .string y3, .slice y4 y5 y6, .slice y7 y8 y9] 25 (0, 0))) := ((Below.refl _ _).alloc (Nat.le_refl _) _).alloc (by simp) _
  have hA0 : ((w.alloc (.cells #[.int .i64 x1, .int .i64 x2, .string x3, .slice x4 x5 x6, .slice x7 x8 x9] 25 (0, 0))).alloc (.cells #[.int .i64 y1, .int .i64 y2, .string y3, .slice y4 y5 y6, .slice y7 y8 y9] 25 (0, 0))).heap[w.heap.size]? = some (.cells #[.int .i64 x1, .int .i64 x2, .string x3, .slice x4 x5 x6, .slice x7 x8 x9] 25 (0, 0)) := by rw [vheap_old _ _ (by simp), vheap_new]
  have hB0 : ((w.alloc (.cells #[.int .i64 x1, .int .i64 x2, .string x3, .slice x4 x5 x6, .slice x7 x8 x9] 25 (0, 0))).alloc (.cells #[.int .i64 y1, .int .i64 y2, .string y3, .slice y4 y5 y6, .slice y7 y8 y9] 25 (0, 0))).heap[w.heap.size + 1]? = some (.cells #[.int .i64 y1, .int .i64 y2, .string y3, .slice y4 y5 y6, .slice y7 y8 y9] 25 (0, 0)) := by
    have h9 := vheap_new (w.alloc (.cells #[.int .i64 x1, .int .i64 x2, .string x3, .slice x4 x5 x6, .slice x7 x8 x9] 25 (0, 0))) (.cells #[.int .i64 y1, .int .i64 y2, .string y3, .slice y4 y5 y6, .slice y7 y8 y9] 25 (0, 0))
    rw [show (w.alloc (.cells #[.int .i64 x1, .int .i64 x2, .string x3, .slice x4 x5 x6, .slice x7 x8 x9] 25 (0, 0))).heap.size = w.heap.size + 1 by simp] at h9
    exact h9
  have hinX : ∀ w1, Below w.heap.size w w1 → Lies (· < w.heap.size) w1 (.agg #[.int .i64 x1, .int .i64 x2, .string x3, .slice x4 x5 x6, .slice x7 x8 x9]) X := fun w1 h => rx.keep (fun b hb => h.block b hb)
  have hinY : ∀ w1, Below w.heap.size w w1 → Lies (· < w.heap.size) w1 (.agg #[.int .i64 y1, .int .i64 y2, .string y3, .slice y4 y5 y6, .slice y7 y8 y9]) Y := fun w1 h => ry.keep (fun b hb => h.block b hb)
  have HZX : Hid (∀ w1, Below w.heap.size w w1 → Calls Try.prog 4 #[.agg #[.int .i64 x1, .int .i64 x2, .string x3, .slice x4 x5 x6, .slice x7 x8 x9], .int .i64 1048576] w1 fun e w' => e = .returned (.int .i64 (leftN X.wt 1048576)) ∧ Below w1.heap.size w1 w') := fun w1 h => szVal_all X _ _ w1 _ (hinX w1 h) (fun b hb => Nat.lt_of_lt_of_le hb h.size) (by omega) (by omega)
  by_cases hbig : (1048576 : Int) < (X.wt : Int)
  · have e1 : leftN X.wt 1048576 = -1 := leftN_bad hbig
    rw [e1] at HZX
    clear e1 hinX hinY rx ry hA0 hB0
    go_enter Try.func3, Try.ntmps3
    go_wp2_with (go_at_call 4; refine (HZX.out _ hbx).mono ?_; rintro e w1 ⟨rfl, hb1⟩)
    go_ret
    exact ⟨rfl, hbx.trans (hb1.mono hbx.size)⟩
  have hwX : X.wt ≤ 1048576 := by omega
  obtain ⟨p, hp⟩ : ∃ p, p = leftN X.wt 1048576 := ⟨_, rfl⟩
  rw [← hp] at HZX
  have hp0 : 0 ≤ p := by rw [hp, leftN_good (by omega)]; omega
  have hp1 : p ≤ 1048576 := by rw [hp, leftN_good (by omega)]; omega
  clear hp hbig
  have HZY : Hid (∀ w1, Below w.heap.size w w1 → Calls Try.prog 4 #[.agg #[.int .i64 y1, .int .i64 y2, .string y3, .slice y4 y5 y6, .slice y7 y8 y9], .int .i64 p] w1 fun e w' => e = .returned (.int .i64 (leftN Y.wt p)) ∧ Below w1.heap.size w1 w') := fun w1 h => szVal_all Y _ _ w1 _ (hinY w1 h) (fun b hb => Nat.lt_of_lt_of_le hb h.size) (by omega) (by omega)
  by_cases hbig : p < (Y.wt : Int)
  · have e1 : leftN Y.wt p = -1 := leftN_bad hbig
    rw [e1] at HZY
    clear e1 hinX hinY rx ry hbig
    go_enter Try.func3, Try.ntmps3
    go_wp2_with fail
    go_at_call 4
    refine (HZX.out _ hbx).mono ?_
    rintro e w1 ⟨rfl, b⟩
    obtain ⟨c0, c1, c2, c3, c4⟩ := cells5H (box_staysV hB0 b)
    have kA := hbx.trans (b.mono hbx.size)
    clear HZX hA0 hB0 b
    go_wp2_with fail
    go_at_call 4
    refine (HZY.out _ kA).mono ?_
    rintro e w2 ⟨rfl, b⟩
    go_wp2_with fail
    go_ret
    exact ⟨rfl, kA.trans (b.mono kA.size)⟩
  have hwY : Y.wt ≤ 1048576 := by omega
  obtain ⟨p2, hp2⟩ : ∃ p2, p2 = leftN Y.wt p := ⟨_, rfl⟩
  rw [← hp2] at HZY
  have hp20 : 0 ≤ p2 := by rw [hp2, leftN_good (by omega)]; omega
  clear hp2 hbig hp1
  have HTX : Hid (∀ w1, Below w.heap.size w w1 → Calls Try.prog 6 #[.agg #[.int .i64 x1, .int .i64 x2, .string x3, .slice x4 x5 x6, .slice x7 x8 x9]] w1 fun e w' => ∃ q1 q2 q3 q4 q5 q6 q7 q8 q9 mid, e = .returned (.agg #[.int .i64 q1, .int .i64 q2, .string q3, .slice q4 q5 q6, .slice q7 q8 q9]) ∧ ValO w1.heap.size mid w'.heap.size w' (.agg #[.int .i64 q1, .int .i64 q2, .string q3, .slice q4 q5 q6, .slice q7 q8 q9]) X ∧ Below w1.heap.size w1 w') := fun w1 h => by
    refine (toVal_own X _ _ w1 (hinX w1 h) (fun b hb => Nat.lt_of_lt_of_le hb h.size) hwX).mono ?_
    rintro e w' ⟨x, mid, rfl, hl, ho, g1, g2, kb⟩
    obtain ⟨q1, q2, q3, q4, q5, q6, q7, q8, q9, rfl⟩ := hl.parts
    exact ⟨q1, q2, q3, q4, q5, q6, q7, q8, q9, mid, rfl, ⟨hl, ho, g1, g2, Nat.le_refl _⟩, kb⟩
  have HTY : Hid (∀ w1, Below w.heap.size w w1 → Calls Try.prog 6 #[.agg #[.int .i64 y1, .int .i64 y2, .string y3, .slice y4 y5 y6, .slice y7 y8 y9]] w1 fun e w' => ∃ q1 q2 q3 q4 q5 q6 q7 q8 q9 mid, e = .returned (.agg #[.int .i64 q1, .int .i64 q2, .string q3, .slice q4 q5 q6, .slice q7 q8 q9]) ∧ ValO w1.heap.size mid w'.heap.size w' (.agg #[.int .i64 q1, .int .i64 q2, .string q3, .slice q4 q5 q6, .slice q7 q8 q9]) Y ∧ Below w1.heap.size w1 w') := fun w1 h => by
    refine (toVal_own Y _ _ w1 (hinY w1 h) (fun b hb => Nat.lt_of_lt_of_le hb h.size) hwY).mono ?_
    rintro e w' ⟨x, mid, rfl, hl, ho, g1, g2, kb⟩
    obtain ⟨q1, q2, q3, q4, q5, q6, q7, q8, q9, rfl⟩ := hl.parts
    exact ⟨q1, q2, q3, q4, q5, q6, q7, q8, q9, mid, rfl, ⟨hl, ho, g1, g2, Nat.le_refl _⟩, kb⟩
  obtain ⟨r, hr⟩ : ∃ r : Bool, (r = true ↔ X = Y) := ⟨open Classical in decide (X = Y), by simp⟩
  have HSP : Hid (∀ W l m h l' m' h' v u, ValO l m h W v X → ValO l' m' h' W u Y → Calls Try.prog 5 #[v, u] W fun e w' => e = .returned (.bool r) ∧ Below W.heap.size W w') := fun W l m h l' m' h' v u a b => by
    refine (specSameVal_c X Y _ _ v u W a.lies b.lies (fun g hg => Nat.lt_of_lt_of_le hg.2 a.h3) (fun g hg => Nat.lt_of_lt_of_le hg.2 b.h3) hwX).mono ?_
    rintro e w' ⟨r', rfl, h1, h2⟩
    have e9 : r' = r := Bool.eq_iff_iff.2 (h1.trans hr.symm)
    rw [e9]
    exact ⟨rfl, h2⟩
  have HIM : Hid (∀ W l m h l' m' h' q1 q2 q3 q4 q5 q6 q7 q8 q9 p1 p2 p3 p4 p5 p6 p7 p8 p9, ValO l m h W (.agg #[.int .i64 q1, .int .i64 q2, .string q3, .slice q4 q5 q6, .slice q7 q8 q9]) X → ValO l' m' h' W (.agg #[.int .i64 p1, .int .i64 p2, .string p3, .slice p4 p5 p6, .slice p7 p8 p9]) Y → Calls Try.prog 7 #[.agg #[.int .i64 q1, .int .i64 q2, .string q3, .slice q4 q5 q6, .slice q7 q8 q9], .agg #[.int .i64 p1, .int .i64 p2, .string p3, .slice p4 p5 p6, .slice p7 p8 p9]] W fun e w' => e = .returned (.bool r) ∧ Below W.heap.size W w') := fun W l m h l' m' h' q1 q2 q3 q4 q5 q6 q7 q8 q9 p1 p2 p3 p4 p5 p6 p7 p8 p9 a b => by
    refine (implSameVal_c X Y _ _ l m h l' m' h' q1 q2 q3 q4 q5 q6 q7 q8 q9 p1 p2 p3 p4 p5 p6 p7 p8 p9 W a.lies b.lies (fun g hg => Nat.lt_of_lt_of_le hg.2 a.h3) (fun g hg => Nat.lt_of_lt_of_le hg.2 b.h3) a.own b.own hwX).mono ?_
    rintro e w' ⟨r', rfl, h1, h2⟩
    have e9 : r' = r := Bool.eq_iff_iff.2 (h1.trans hr.symm)
    rw [e9]
    exact ⟨rfl, h2⟩
  have HEX : Hid (∀ W l m h x l' m' h' x', ValO l m h W x X → ValO l' m' h' W x' X → Calls Try.prog 8 #[x, x'] W fun e w' => e = .returned (.bool true) ∧ Below W.heap.size W w') := fun W l m h x l' m' h' x' a b => eqVal_all X _ _ x x' W a.lies b.lies (fun g hg => Nat.lt_of_lt_of_le hg.2 a.h3) (fun g hg => Nat.lt_of_lt_of_le hg.2 b.h3) hwX
  have HEY : Hid (∀ W l m h x l' m' h' x', ValO l m h W x Y → ValO l' m' h' W x' Y → Calls Try.prog 8 #[x, x'] W fun e w' => e = .returned (.bool true) ∧ Below W.heap.size W w') := fun W l m h x l' m' h' x' a b => eqVal_all Y _ _ x x' W a.lies b.lies (fun g hg => Nat.lt_of_lt_of_le hg.2 a.h3) (fun g hg => Nat.lt_of_lt_of_le hg.2 b.h3) hwY
  clear hinX hinY rx ry hwX hwY hr
  cases r
  · go_enter Try.func3, Try.ntmps3
    go_wp2_with fail
    go_at_call 4
    refine (HZX.out _ hbx).mono ?_
    rintro e w1 ⟨rfl, b⟩
    have BA := box_staysV hA0 b
    have BB := box_staysV hB0 b
    have kA := hbx.trans (b.mono hbx.size)
    have mA := (Array.getElem?_eq_some_iff.1 BA).1
    have mB := (Array.getElem?_eq_some_iff.1 BB).1
    clear HZX b hA0 hB0 hbx
    obtain ⟨a0, a1, a2, a3, a4⟩ := cells5H BB
    go_wp2_with fail
    go_at_call 4
    refine (HZY.out _ kA).mono ?_
    rintro e w2 ⟨rfl, b⟩
    clear a0 a1 a2 a3 a4
    have k1 := kA.trans (b.mono kA.size)
    have m1 := b.size
    replace BA := box_staysV BA b
    replace BB := box_staysV BB b
    clear b HZY
    have h0 : Below w2.heap.size w2 w2.drew := (Below.refl _ _).drew
    have KEEP : Hid (∀ W, Below w2.heap.size w2 W → W.cell? ⟨w.heap.size, 0, none⟩ = some (.int .i64 x1) ∧ W.cell? ⟨w.heap.size, 1, none⟩ = some (.int .i64 x2) ∧ W.cell? ⟨w.heap.size, 2, none⟩ = some (.string x3) ∧ W.cell? ⟨w.heap.size, 3, none⟩ = some (.slice x4 x5 x6) ∧ W.cell? ⟨w.heap.size, 4, none⟩ = some (.slice x7 x8 x9) ∧ W.cell? ⟨w.heap.size + 1, 0, none⟩ = some (.int .i64 y1) ∧ W.cell? ⟨w.heap.size + 1, 1, none⟩ = some (.int .i64 y2) ∧ W.cell? ⟨w.heap.size + 1, 2, none⟩ = some (.string y3) ∧ W.cell? ⟨w.heap.size + 1, 3, none⟩ = some (.slice y4 y5 y6) ∧ W.cell? ⟨w.heap.size + 1, 4, none⟩ = some (.slice y7 y8 y9)) := fun W h => by
      obtain ⟨i0, i1, i2, i3, i4⟩ := cells5H (box_staysV BA h)
      obtain ⟨j0, j1, j2, j3, j4⟩ := cells5H (box_staysV BB h)
      exact ⟨i0, i1, i2, i3, i4, j0, j1, j2, j3, j4⟩
    go_wp2_with fail
    refine wp_region_held_drew (S := (fun W => W.cell? ⟨w.heap.size, 0, none⟩ = some (.int .i64 x1) ∧ W.cell? ⟨w.heap.size, 1, none⟩ = some (.int .i64 x2) ∧ W.cell? ⟨w.heap.size, 2, none⟩ = some (.string x3) ∧ W.cell? ⟨w.heap.size, 3, none⟩ = some (.slice x4 x5 x6) ∧ W.cell? ⟨w.heap.size, 4, none⟩ = some (.slice x7 x8 x9) ∧ W.cell? ⟨w.heap.size + 1, 0, none⟩ = some (.int .i64 y1) ∧ W.cell? ⟨w.heap.size + 1, 1, none⟩ = some (.int .i64 y2) ∧ W.cell? ⟨w.heap.size + 1, 2, none⟩ = some (.string y3) ∧ W.cell? ⟨w.heap.size + 1, 3, none⟩ = some (.slice y4 y5 y6) ∧ W.cell? ⟨w.heap.size + 1, 4, none⟩ = some (.slice y7 y8 y9))) (by kernel_rfl) ?SR10 (fun hHeld => ?_)
    case SR10 => (first | (with_reducible exact KEEP.out _ h3) | (with_reducible exact KEEP.out _ h2) | (with_reducible exact KEEP.out _ h1) | (with_reducible exact KEEP.out _ h0))
    refine wpAnyH_take (i := 0) (oi := _) (v := ?vR10) rfl (by kernel_rfl) (by kernel_rfl) (by kernel_rfl) (fun _ _ _ h => h) (Or.inl ⟨by rfl, ?yR10⟩) hHeld ?_
    case yR10 => (intro w hSw; (try dsimp only at hSw); go_simp <;> with_reducible rfl)
    try simp only [Act.put, List.getElem_toArray, List.getElem_cons_zero, List.getElem_cons_succ, List.setIfInBounds_toArray, List.set_cons_zero, List.set_cons_succ]
    refine wpAnyH_take (i := 2) (oi := _) (v := ?vR11) rfl (by kernel_rfl) (by kernel_rfl) (by kernel_rfl) (fun _ _ _ h => h) (Or.inl ⟨by rfl, ?yR11⟩) hHeld ?_
    case yR11 => (intro w hSw; (try dsimp only at hSw); go_simp <;> with_reducible rfl)
    try simp only [Act.put, List.getElem_toArray, List.getElem_cons_zero, List.getElem_cons_succ, List.setIfInBounds_toArray, List.set_cons_zero, List.set_cons_succ]
    refine wpAnyH_ready (rs := [1]) (by kernel_rfl) (by simp) ?_
    refine AllReadyH.cons rfl (fun K hK => ?_) AllReadyH.nil
    go_simp
    go_wp2_with (go_at_call 6; refine (HTX.out _ (k1.trans (h0.mono k1.size))).mono ?_; rintro e w3 ⟨q1, q2, q3, q4, q5, q6, q7, q8, q9, md3, rfl, V3, b3⟩; have h1 : Below w2.heap.size w2 w3 := h0.trans (b3.mono h0.size))
    clear hHeld
    refine hK.out _ _ ?SR13 (fun hHeld => ?_)
    case SR13 => ((try dsimp only); first | (with_reducible exact KEEP.out _ h3) | (with_reducible exact KEEP.out _ h2) | (with_reducible exact KEEP.out _ h1) | (with_reducible exact KEEP.out _ h0))
    clear hK K
    refine wpAnyH_ready (rs := [3]) (by kernel_rfl) (by simp) ?_
    refine AllReadyH.cons rfl (fun K hK => ?_) AllReadyH.nil
    go_simp
    go_wp2_with (go_at_call 6; refine (HTY.out _ (k1.trans (h1.mono k1.size))).mono ?_; rintro e w4 ⟨p1, p2, p3, p4, p5, p6, p7, p8, p9, md4, rfl, V4, b4⟩; have h2 : Below w2.heap.size w2 w4 := h1.trans (b4.mono h1.size); have V34 := V3.below b4)
    clear hHeld
    refine hK.out _ _ ?SR14 (fun hHeld => ?_)
    case SR14 => ((try dsimp only); first | (with_reducible exact KEEP.out _ h3) | (with_reducible exact KEEP.out _ h2) | (with_reducible exact KEEP.out _ h1) | (with_reducible exact KEEP.out _ h0))
    clear hK K
    refine wpAnyH_ready (rs := [4]) (by kernel_rfl) (by simp) ?_
    refine AllReadyH.cons rfl (fun K hK => ?_) AllReadyH.nil
    go_simp
    go_wp2_with (go_at_call 5; refine (HSP.out _ _ _ _ _ _ _ _ _ V34 V4).mono ?_; rintro e w5 ⟨rfl, b5⟩; have h3 : Below w2.heap.size w2 w5 := h2.trans (b5.mono h2.size))
    clear hHeld
    refine hK.out _ _ ?SR15 (fun hHeld => ?_)
    case SR15 => ((try dsimp only); first | (with_reducible exact KEEP.out _ h3) | (with_reducible exact KEEP.out _ h2) | (with_reducible exact KEEP.out _ h1) | (with_reducible exact KEEP.out _ h0))
    clear hK K
    refine wpAnyH_take (i := 5) (oi := _) (v := ?vR15) rfl (by kernel_rfl) (by kernel_rfl) (by kernel_rfl) (fun _ _ _ h => h) (Or.inl ⟨by rfl, ?yR15⟩) hHeld ?_
    case yR15 => (intro w hSw; (try dsimp only at hSw); go_simp <;> with_reducible rfl)
    try simp only [Act.put, List.getElem_toArray, List.getElem_cons_zero, List.getElem_cons_succ, List.setIfInBounds_toArray, List.set_cons_zero, List.set_cons_succ]
    refine wpAnyH_done (by kernel_rfl) ?_ _
    have b := h3
    clear V3 V4 V34 b3 b4 b5 h0 h1 h2 h3 KEEP hHeld
    have k2 := k1.trans (b.mono k1.size)
    have m2 := b.size
    replace BA := box_staysV BA b
    replace BB := box_staysV BB b
    clear b HSP
    obtain ⟨a0, a1, a2, a3, a4⟩ := cells5H BA
    go_wp2_with fail
    go_at_call 6
    refine (HTX.out _ k2).mono ?_
    rintro e w6 ⟨q1, q2, q3, q4, q5, q6, q7, q8, q9, md6, rfl, V6, b⟩
    clear a0 a1 a2 a3 a4
    have k3 := k2.trans (b.mono k2.size)
    have m3 := b.size
    replace BA := box_staysV BA b
    replace BB := box_staysV BB b
    clear b
    have b : Below w6.heap.size w6 (w6.alloc (.cells #[.int .i64 q1, .int .i64 q2, .string q3, .slice q4 q5 q6, .slice q7 q8 q9] 30 (0, 0))) := (Below.refl _ _).alloc (Nat.le_refl _) _
    have hN : (w6.alloc (.cells #[.int .i64 q1, .int .i64 q2, .string q3, .slice q4 q5 q6, .slice q7 q8 q9] 30 (0, 0))).heap[w6.heap.size]? = some (.cells #[.int .i64 q1, .int .i64 q2, .string q3, .slice q4 q5 q6, .slice q7 q8 q9] 30 (0, 0)) := vheap_new _ _
    obtain ⟨a0, a1, a2, a3, a4⟩ := cells5H (box_staysV BB b)
    obtain ⟨wa, hwa⟩ : ∃ wa, wa = w6.alloc (.cells #[.int .i64 q1, .int .i64 q2, .string q3, .slice q4 q5 q6, .slice q7 q8 q9] 30 (0, 0)) := ⟨_, rfl⟩
    rw [← hwa] at b hN a0 a1 a2 a3 a4
    have HWA : Hid (wa = w6.alloc (.cells #[.int .i64 q1, .int .i64 q2, .string q3, .slice q4 q5 q6, .slice q7 q8 q9] 30 (0, 0))) := hwa
    rw [hwa] at a0 a1 a2 a3 a4
    go_wp2_with fail
    rw [← hwa] at a0 a1 a2 a3 a4
    rw [← hwa]
    clear hwa HWA
    have k4 := k3.trans (b.mono k3.size)
    have m4 := b.size
    replace BA := box_staysV BA b
    replace BB := box_staysV BB b
    replace V6 := V6.below b
    clear b
    have BX := hN
    clear hN
    go_at_call 6
    refine (HTY.out _ k4).mono ?_
    rintro e w7 ⟨p1, p2, p3, p4, p5, p6, p7, p8, p9, md7, rfl, V7, b⟩
    clear a0 a1 a2 a3 a4
    have k5 := k4.trans (b.mono k4.size)
    have m5 := b.size
    replace BA := box_staysV BA b
    replace BB := box_staysV BB b
    replace V6 := V6.below b
    replace BX := box_staysV BX b
    clear b
    have b : Below w7.heap.size w7 (w7.alloc (.cells #[.int .i64 p1, .int .i64 p2, .string p3, .slice p4 p5 p6, .slice p7 p8 p9] 30 (0, 0))) := (Below.refl _ _).alloc (Nat.le_refl _) _
    have hN : (w7.alloc (.cells #[.int .i64 p1, .int .i64 p2, .string p3, .slice p4 p5 p6, .slice p7 p8 p9] 30 (0, 0))).heap[w7.heap.size]? = some (.cells #[.int .i64 p1, .int .i64 p2, .string p3, .slice p4 p5 p6, .slice p7 p8 p9] 30 (0, 0)) := vheap_new _ _
    obtain ⟨a0, a1, a2, a3, a4⟩ := cells5H (box_staysV BX b)
    obtain ⟨wb, hwa⟩ : ∃ wa, wa = w7.alloc (.cells #[.int .i64 p1, .int .i64 p2, .string p3, .slice p4 p5 p6, .slice p7 p8 p9] 30 (0, 0)) := ⟨_, rfl⟩
    go_wp2_with fail
    rw [← hwa] at b hN a0 a1 a2 a3 a4
    rw [← hwa]
    clear hwa
    have k6 := k5.trans (b.mono k5.size)
    have m6 := b.size
    replace BA := box_staysV BA b
    replace BB := box_staysV BB b
    replace V6 := V6.below b
    replace BX := box_staysV BX b
    replace V7 := V7.below b
    clear b
    have BY := hN
    clear hN
    go_at_call 7
    refine (HIM.out _ _ _ _ _ _ _ _ _ _ _ _ _ _ _ _ _ _ _ _ _ _ _ _ _ V6 V7).mono ?_
    rintro e w8 ⟨rfl, b⟩
    clear a0 a1 a2 a3 a4
    have k7 := k6.trans (b.mono k6.size)
    have m7 := b.size
    replace BA := box_staysV BA b
    replace BB := box_staysV BB b
    replace V6 := V6.below b
    replace BX := box_staysV BX b
    replace V7 := V7.below b
    replace BY := box_staysV BY b
    clear b HIM
    have h0 : Below w8.heap.size w8 w8.drew := (Below.refl _ _).drew
    have KEEP : Hid (∀ W, Below w8.heap.size w8 W → W.cell? ⟨w6.heap.size, 0, none⟩ = some (.int .i64 q1) ∧ W.cell? ⟨w6.heap.size, 1, none⟩ = some (.int .i64 q2) ∧ W.cell? ⟨w6.heap.size, 2, none⟩ = some (.string q3) ∧ W.cell? ⟨w6.heap.size, 3, none⟩ = some (.slice q4 q5 q6) ∧ W.cell? ⟨w6.heap.size, 4, none⟩ = some (.slice q7 q8 q9) ∧ W.cell? ⟨w.heap.size, 0, none⟩ = some (.int .i64 x1) ∧ W.cell? ⟨w.heap.size, 1, none⟩ = some (.int .i64 x2) ∧ W.cell? ⟨w.heap.size, 2, none⟩ = some (.string x3) ∧ W.cell? ⟨w.heap.size, 3, none⟩ = some (.slice x4 x5 x6) ∧ W.cell? ⟨w.heap.size, 4, none⟩ = some (.slice x7 x8 x9)) := fun W h => by
      obtain ⟨i0, i1, i2, i3, i4⟩ := cells5H (box_staysV BX h)
      obtain ⟨j0, j1, j2, j3, j4⟩ := cells5H (box_staysV BA h)
      exact ⟨i0, i1, i2, i3, i4, j0, j1, j2, j3, j4⟩
    go_wp2_with fail
    refine wp_region_held_drew (S := (fun W => W.cell? ⟨w6.heap.size, 0, none⟩ = some (.int .i64 q1) ∧ W.cell? ⟨w6.heap.size, 1, none⟩ = some (.int .i64 q2) ∧ W.cell? ⟨w6.heap.size, 2, none⟩ = some (.string q3) ∧ W.cell? ⟨w6.heap.size, 3, none⟩ = some (.slice q4 q5 q6) ∧ W.cell? ⟨w6.heap.size, 4, none⟩ = some (.slice q7 q8 q9) ∧ W.cell? ⟨w.heap.size, 0, none⟩ = some (.int .i64 x1) ∧ W.cell? ⟨w.heap.size, 1, none⟩ = some (.int .i64 x2) ∧ W.cell? ⟨w.heap.size, 2, none⟩ = some (.string x3) ∧ W.cell? ⟨w.heap.size, 3, none⟩ = some (.slice x4 x5 x6) ∧ W.cell? ⟨w.heap.size, 4, none⟩ = some (.slice x7 x8 x9))) (by kernel_rfl) ?SR20 (fun hHeld => ?_)
    case SR20 => (first | (with_reducible exact KEEP.out _ h2) | (with_reducible exact KEEP.out _ h1) | (with_reducible exact KEEP.out _ h0))
    refine wpAnyH_take (i := 0) (oi := _) (v := ?vR20) rfl (by kernel_rfl) (by kernel_rfl) (by kernel_rfl) (fun _ _ _ h => h) (Or.inl ⟨by rfl, ?yR20⟩) hHeld ?_
    case yR20 => (intro w hSw; (try dsimp only at hSw); go_simp <;> with_reducible rfl)
    try simp only [Act.put, List.getElem_toArray, List.getElem_cons_zero, List.getElem_cons_succ, List.setIfInBounds_toArray, List.set_cons_zero, List.set_cons_succ]
    refine wpAnyH_take (i := 1) (oi := _) (v := ?vR21) rfl (by kernel_rfl) (by kernel_rfl) (by kernel_rfl) (fun _ _ _ h => h) (Or.inl ⟨by rfl, ?yR21⟩) hHeld ?_
    case yR21 => (intro w hSw; (try dsimp only at hSw); go_simp <;> with_reducible rfl)
    try simp only [Act.put, List.getElem_toArray, List.getElem_cons_zero, List.getElem_cons_succ, List.setIfInBounds_toArray, List.set_cons_zero, List.set_cons_succ]
    refine wpAnyH_ready (rs := [2]) (by kernel_rfl) (by simp) ?_
    refine AllReadyH.cons rfl (fun K hK => ?_) AllReadyH.nil
    go_simp
    go_wp2_with (go_at_call 6; refine (HTX.out _ (k7.trans (h0.mono k7.size))).mono ?_; rintro e w9 ⟨g1, g2, g3, g4, g5, g6, g7, g8, g9, md9, rfl, U7, b7⟩; have h1 : Below w8.heap.size w8 w9 := h0.trans (b7.mono h0.size); have U47 := V6.below h1)
    clear hHeld
    refine hK.out _ _ ?SR23 (fun hHeld => ?_)
    case SR23 => ((try dsimp only); first | (with_reducible exact KEEP.out _ h2) | (with_reducible exact KEEP.out _ h1) | (with_reducible exact KEEP.out _ h0))
    clear hK K
    refine wpAnyH_ready (rs := [3]) (by kernel_rfl) (by simp) ?_
    refine AllReadyH.cons rfl (fun K hK => ?_) AllReadyH.nil
    go_simp
    go_wp2_with (go_at_call 8; refine (HEX.out _ _ _ _ _ _ _ _ _ U47 U7).mono ?_; rintro e w10 ⟨rfl, b8⟩; have h2 : Below w8.heap.size w8 w10 := h1.trans (b8.mono h1.size))
    clear hHeld
    refine hK.out _ _ ?SR24 (fun hHeld => ?_)
    case SR24 => ((try dsimp only); first | (with_reducible exact KEEP.out _ h2) | (with_reducible exact KEEP.out _ h1) | (with_reducible exact KEEP.out _ h0))
    clear hK K
    refine wpAnyH_take (i := 4) (oi := _) (v := ?vR24) rfl (by kernel_rfl) (by kernel_rfl) (by kernel_rfl) (fun _ _ _ h => h) (Or.inl ⟨by rfl, ?yR24⟩) hHeld ?_
    case yR24 => (intro w hSw; (try dsimp only at hSw); go_simp <;> with_reducible rfl)
    try simp only [Act.put, List.getElem_toArray, List.getElem_cons_zero, List.getElem_cons_succ, List.setIfInBounds_toArray, List.set_cons_zero, List.set_cons_succ]
    refine wpAnyH_done (by kernel_rfl) ?_ _
    have b := h2
    clear U47 U7 b7 b8 h0 h1 h2 KEEP hHeld
    have k8 := k7.trans (b.mono k7.size)
    have m8 := b.size
    replace BA := box_staysV BA b
    replace BB := box_staysV BB b
    replace V6 := V6.below b
    replace BX := box_staysV BX b
    replace V7 := V7.below b
    replace BY := box_staysV BY b
    clear b
    have h0 : Below w10.heap.size w10 w10.drew := (Below.refl _ _).drew
    have KEEP : Hid (∀ W, Below w10.heap.size w10 W → W.cell? ⟨w7.heap.size, 0, none⟩ = some (.int .i64 p1) ∧ W.cell? ⟨w7.heap.size, 1, none⟩ = some (.int .i64 p2) ∧ W.cell? ⟨w7.heap.size, 2, none⟩ = some (.string p3) ∧ W.cell? ⟨w7.heap.size, 3, none⟩ = some (.slice p4 p5 p6) ∧ W.cell? ⟨w7.heap.size, 4, none⟩ = some (.slice p7 p8 p9) ∧ W.cell? ⟨w.heap.size + 1, 0, none⟩ = some (.int .i64 y1) ∧ W.cell? ⟨w.heap.size + 1, 1, none⟩ = some (.int .i64 y2) ∧ W.cell? ⟨w.heap.size + 1, 2, none⟩ = some (.string y3) ∧ W.cell? ⟨w.heap.size + 1, 3, none⟩ = some (.slice y4 y5 y6) ∧ W.cell? ⟨w.heap.size + 1, 4, none⟩ = some (.slice y7 y8 y9)) := fun W h => by
      obtain ⟨i0, i1, i2, i3, i4⟩ := cells5H (box_staysV BY h)
      obtain ⟨j0, j1, j2, j3, j4⟩ := cells5H (box_staysV BB h)
      exact ⟨i0, i1, i2, i3, i4, j0, j1, j2, j3, j4⟩
    go_wp2_with fail
    refine wp_region_held_drew (S := (fun W => W.cell? ⟨w7.heap.size, 0, none⟩ = some (.int .i64 p1) ∧ W.cell? ⟨w7.heap.size, 1, none⟩ = some (.int .i64 p2) ∧ W.cell? ⟨w7.heap.size, 2, none⟩ = some (.string p3) ∧ W.cell? ⟨w7.heap.size, 3, none⟩ = some (.slice p4 p5 p6) ∧ W.cell? ⟨w7.heap.size, 4, none⟩ = some (.slice p7 p8 p9) ∧ W.cell? ⟨w.heap.size + 1, 0, none⟩ = some (.int .i64 y1) ∧ W.cell? ⟨w.heap.size + 1, 1, none⟩ = some (.int .i64 y2) ∧ W.cell? ⟨w.heap.size + 1, 2, none⟩ = some (.string y3) ∧ W.cell? ⟨w.heap.size + 1, 3, none⟩ = some (.slice y4 y5 y6) ∧ W.cell? ⟨w.heap.size + 1, 4, none⟩ = some (.slice y7 y8 y9))) (by kernel_rfl) ?SR30 (fun hHeld => ?_)
    case SR30 => (first | (with_reducible exact KEEP.out _ h2) | (with_reducible exact KEEP.out _ h1) | (with_reducible exact KEEP.out _ h0))
    refine wpAnyH_take (i := 0) (oi := _) (v := ?vR30) rfl (by kernel_rfl) (by kernel_rfl) (by kernel_rfl) (fun _ _ _ h => h) (Or.inl ⟨by rfl, ?yR30⟩) hHeld ?_
    case yR30 => (intro w hSw; (try dsimp only at hSw); go_simp <;> with_reducible rfl)
    try simp only [Act.put, List.getElem_toArray, List.getElem_cons_zero, List.getElem_cons_succ, List.setIfInBounds_toArray, List.set_cons_zero, List.set_cons_succ]
    refine wpAnyH_take (i := 1) (oi := _) (v := ?vR31) rfl (by kernel_rfl) (by kernel_rfl) (by kernel_rfl) (fun _ _ _ h => h) (Or.inl ⟨by rfl, ?yR31⟩) hHeld ?_
    case yR31 => (intro w hSw; (try dsimp only at hSw); go_simp <;> with_reducible rfl)
    try simp only [Act.put, List.getElem_toArray, List.getElem_cons_zero, List.getElem_cons_succ, List.setIfInBounds_toArray, List.set_cons_zero, List.set_cons_succ]
    refine wpAnyH_ready (rs := [2]) (by kernel_rfl) (by simp) ?_
    refine AllReadyH.cons rfl (fun K hK => ?_) AllReadyH.nil
    go_simp
    go_wp2_with (go_at_call 6; refine (HTY.out _ (k8.trans (h0.mono k8.size))).mono ?_; rintro e w11 ⟨g1, g2, g3, g4, g5, g6, g7, g8, g9, md9, rfl, U7, b7⟩; have h1 : Below w10.heap.size w10 w11 := h0.trans (b7.mono h0.size); have U47 := V7.below h1)
    clear hHeld
    refine hK.out _ _ ?SR33 (fun hHeld => ?_)
    case SR33 => ((try dsimp only); first | (with_reducible exact KEEP.out _ h2) | (with_reducible exact KEEP.out _ h1) | (with_reducible exact KEEP.out _ h0))
    clear hK K
    refine wpAnyH_ready (rs := [3]) (by kernel_rfl) (by simp) ?_
    refine AllReadyH.cons rfl (fun K hK => ?_) AllReadyH.nil
    go_simp
    go_wp2_with (go_at_call 8; refine (HEY.out _ _ _ _ _ _ _ _ _ U47 U7).mono ?_; rintro e w12 ⟨rfl, b8⟩; have h2 : Below w10.heap.size w10 w12 := h1.trans (b8.mono h1.size))
    clear hHeld
    refine hK.out _ _ ?SR34 (fun hHeld => ?_)
    case SR34 => ((try dsimp only); first | (with_reducible exact KEEP.out _ h2) | (with_reducible exact KEEP.out _ h1) | (with_reducible exact KEEP.out _ h0))
    clear hK K
    refine wpAnyH_take (i := 4) (oi := _) (v := ?vR34) rfl (by kernel_rfl) (by kernel_rfl) (by kernel_rfl) (fun _ _ _ h => h) (Or.inl ⟨by rfl, ?yR34⟩) hHeld ?_
    case yR34 => (intro w hSw; (try dsimp only at hSw); go_simp <;> with_reducible rfl)
    try simp only [Act.put, List.getElem_toArray, List.getElem_cons_zero, List.getElem_cons_succ, List.setIfInBounds_toArray, List.set_cons_zero, List.set_cons_succ]
    refine wpAnyH_done (by kernel_rfl) ?_ _
    have b := h2
    clear U47 U7 b7 b8 h0 h1 h2 KEEP hHeld
    have k9 := k8.trans (b.mono k8.size)
    have m9 := b.size
    replace BA := box_staysV BA b
    replace BB := box_staysV BB b
    replace V6 := V6.below b
    replace BX := box_staysV BX b
    replace V7 := V7.below b
    replace BY := box_staysV BY b
    clear b
    go_wp2_with fail
    go_ret
    exact ⟨rfl, k9⟩
  · go_enter Try.func3, Try.ntmps3
    go_wp2_with fail
    go_at_call 4
    refine (HZX.out _ hbx).mono ?_
    rintro e w1 ⟨rfl, b⟩
    have BA := box_staysV hA0 b
    have BB := box_staysV hB0 b
    have kA := hbx.trans (b.mono hbx.size)
    have mA := (Array.getElem?_eq_some_iff.1 BA).1
    have mB := (Array.getElem?_eq_some_iff.1 BB).1
    clear HZX b hA0 hB0 hbx
    obtain ⟨a0, a1, a2, a3, a4⟩ := cells5H BB
    go_wp2_with fail
    go_at_call 4
    refine (HZY.out _ kA).mono ?_
    rintro e w2 ⟨rfl, b⟩
    clear a0 a1 a2 a3 a4
    have k1 := kA.trans (b.mono kA.size)
    have m1 := b.size
    replace BA := box_staysV BA b
    replace BB := box_staysV BB b
    clear b HZY
    have h0 : Below w2.heap.size w2 w2.drew := (Below.refl _ _).drew
    have KEEP : Hid (∀ W, Below w2.heap.size w2 W → W.cell? ⟨w.heap.size, 0, none⟩ = some (.int .i64 x1) ∧ W.cell? ⟨w.heap.size, 1, none⟩ = some (.int .i64 x2) ∧ W.cell? ⟨w.heap.size, 2, none⟩ = some (.string x3) ∧ W.cell? ⟨w.heap.size, 3, none⟩ = some (.slice x4 x5 x6) ∧ W.cell? ⟨w.heap.size, 4, none⟩ = some (.slice x7 x8 x9) ∧ W.cell? ⟨w.heap.size + 1, 0, none⟩ = some (.int .i64 y1) ∧ W.cell? ⟨w.heap.size + 1, 1, none⟩ = some (.int .i64 y2) ∧ W.cell? ⟨w.heap.size + 1, 2, none⟩ = some (.string y3) ∧ W.cell? ⟨w.heap.size + 1, 3, none⟩ = some (.slice y4 y5 y6) ∧ W.cell? ⟨w.heap.size + 1, 4, none⟩ = some (.slice y7 y8 y9)) := fun W h => by
      obtain ⟨i0, i1, i2, i3, i4⟩ := cells5H (box_staysV BA h)
      obtain ⟨j0, j1, j2, j3, j4⟩ := cells5H (box_staysV BB h)
      exact ⟨i0, i1, i2, i3, i4, j0, j1, j2, j3, j4⟩
    go_wp2_with fail
    refine wp_region_held_drew (S := (fun W => W.cell? ⟨w.heap.size, 0, none⟩ = some (.int .i64 x1) ∧ W.cell? ⟨w.heap.size, 1, none⟩ = some (.int .i64 x2) ∧ W.cell? ⟨w.heap.size, 2, none⟩ = some (.string x3) ∧ W.cell? ⟨w.heap.size, 3, none⟩ = some (.slice x4 x5 x6) ∧ W.cell? ⟨w.heap.size, 4, none⟩ = some (.slice x7 x8 x9) ∧ W.cell? ⟨w.heap.size + 1, 0, none⟩ = some (.int .i64 y1) ∧ W.cell? ⟨w.heap.size + 1, 1, none⟩ = some (.int .i64 y2) ∧ W.cell? ⟨w.heap.size + 1, 2, none⟩ = some (.string y3) ∧ W.cell? ⟨w.heap.size + 1, 3, none⟩ = some (.slice y4 y5 y6) ∧ W.cell? ⟨w.heap.size + 1, 4, none⟩ = some (.slice y7 y8 y9))) (by kernel_rfl) ?SR40 (fun hHeld => ?_)
    case SR40 => (first | (with_reducible exact KEEP.out _ h3) | (with_reducible exact KEEP.out _ h2) | (with_reducible exact KEEP.out _ h1) | (with_reducible exact KEEP.out _ h0))
    refine wpAnyH_take (i := 0) (oi := _) (v := ?vR40) rfl (by kernel_rfl) (by kernel_rfl) (by kernel_rfl) (fun _ _ _ h => h) (Or.inl ⟨by rfl, ?yR40⟩) hHeld ?_
    case yR40 => (intro w hSw; (try dsimp only at hSw); go_simp <;> with_reducible rfl)
    try simp only [Act.put, List.getElem_toArray, List.getElem_cons_zero, List.getElem_cons_succ, List.setIfInBounds_toArray, List.set_cons_zero, List.set_cons_succ]
    refine wpAnyH_take (i := 2) (oi := _) (v := ?vR41) rfl (by kernel_rfl) (by kernel_rfl) (by kernel_rfl) (fun _ _ _ h => h) (Or.inl ⟨by rfl, ?yR41⟩) hHeld ?_
    case yR41 => (intro w hSw; (try dsimp only at hSw); go_simp <;> with_reducible rfl)
    try simp only [Act.put, List.getElem_toArray, List.getElem_cons_zero, List.getElem_cons_succ, List.setIfInBounds_toArray, List.set_cons_zero, List.set_cons_succ]
    refine wpAnyH_ready (rs := [1]) (by kernel_rfl) (by simp) ?_
    refine AllReadyH.cons rfl (fun K hK => ?_) AllReadyH.nil
    go_simp
    go_wp2_with (go_at_call 6; refine (HTX.out _ (k1.trans (h0.mono k1.size))).mono ?_; rintro e w3 ⟨q1, q2, q3, q4, q5, q6, q7, q8, q9, md3, rfl, V3, b3⟩; have h1 : Below w2.heap.size w2 w3 := h0.trans (b3.mono h0.size))
    clear hHeld
    refine hK.out _ _ ?SR43 (fun hHeld => ?_)
    case SR43 => ((try dsimp only); first | (with_reducible exact KEEP.out _ h3) | (with_reducible exact KEEP.out _ h2) | (with_reducible exact KEEP.out _ h1) | (with_reducible exact KEEP.out _ h0))
    clear hK K
    refine wpAnyH_ready (rs := [3]) (by kernel_rfl) (by simp) ?_
    refine AllReadyH.cons rfl (fun K hK => ?_) AllReadyH.nil
    go_simp
    go_wp2_with (go_at_call 6; refine (HTY.out _ (k1.trans (h1.mono k1.size))).mono ?_; rintro e w4 ⟨p1, p2, p3, p4, p5, p6, p7, p8, p9, md4, rfl, V4, b4⟩; have h2 : Below w2.heap.size w2 w4 := h1.trans (b4.mono h1.size); have V34 := V3.below b4)
    clear hHeld
    refine hK.out _ _ ?SR44 (fun hHeld => ?_)
    case SR44 => ((try dsimp only); first | (with_reducible exact KEEP.out _ h3) | (with_reducible exact KEEP.out _ h2) | (with_reducible exact KEEP.out _ h1) | (with_reducible exact KEEP.out _ h0))
    clear hK K
    refine wpAnyH_ready (rs := [4]) (by kernel_rfl) (by simp) ?_
    refine AllReadyH.cons rfl (fun K hK => ?_) AllReadyH.nil
    go_simp
    go_wp2_with (go_at_call 5; refine (HSP.out _ _ _ _ _ _ _ _ _ V34 V4).mono ?_; rintro e w5 ⟨rfl, b5⟩; have h3 : Below w2.heap.size w2 w5 := h2.trans (b5.mono h2.size))
    clear hHeld
    refine hK.out _ _ ?SR45 (fun hHeld => ?_)
    case SR45 => ((try dsimp only); first | (with_reducible exact KEEP.out _ h3) | (with_reducible exact KEEP.out _ h2) | (with_reducible exact KEEP.out _ h1) | (with_reducible exact KEEP.out _ h0))
    clear hK K
    refine wpAnyH_take (i := 5) (oi := _) (v := ?vR45) rfl (by kernel_rfl) (by kernel_rfl) (by kernel_rfl) (fun _ _ _ h => h) (Or.inl ⟨by rfl, ?yR45⟩) hHeld ?_
    case yR45 => (intro w hSw; (try dsimp only at hSw); go_simp <;> with_reducible rfl)
    try simp only [Act.put, List.getElem_toArray, List.getElem_cons_zero, List.getElem_cons_succ, List.setIfInBounds_toArray, List.set_cons_zero, List.set_cons_succ]
    refine wpAnyH_done (by kernel_rfl) ?_ _
    have b := h3
    clear V3 V4 V34 b3 b4 b5 h0 h1 h2 h3 KEEP hHeld
    have k2 := k1.trans (b.mono k1.size)
    have m2 := b.size
    replace BA := box_staysV BA b
    replace BB := box_staysV BB b
    clear b HSP
    obtain ⟨a0, a1, a2, a3, a4⟩ := cells5H BA
    go_wp2_with fail
    go_at_call 6
    refine (HTX.out _ k2).mono ?_
    rintro e w6 ⟨q1, q2, q3, q4, q5, q6, q7, q8, q9, md6, rfl, V6, b⟩
    clear a0 a1 a2 a3 a4
    have k3 := k2.trans (b.mono k2.size)
    have m3 := b.size
    replace BA := box_staysV BA b
    replace BB := box_staysV BB b
    clear b
    have b : Below w6.heap.size w6 (w6.alloc (.cells #[.int .i64 q1, .int .i64 q2, .string q3, .slice q4 q5 q6, .slice q7 q8 q9] 30 (0, 0))) := (Below.refl _ _).alloc (Nat.le_refl _) _
    have hN : (w6.alloc (.cells #[.int .i64 q1, .int .i64 q2, .string q3, .slice q4 q5 q6, .slice q7 q8 q9] 30 (0, 0))).heap[w6.heap.size]? = some (.cells #[.int .i64 q1, .int .i64 q2, .string q3, .slice q4 q5 q6, .slice q7 q8 q9] 30 (0, 0)) := vheap_new _ _
    obtain ⟨a0, a1, a2, a3, a4⟩ := cells5H (box_staysV BB b)
    obtain ⟨wa, hwa⟩ : ∃ wa, wa = w6.alloc (.cells #[.int .i64 q1, .int .i64 q2, .string q3, .slice q4 q5 q6, .slice q7 q8 q9] 30 (0, 0)) := ⟨_, rfl⟩
    rw [← hwa] at b hN a0 a1 a2 a3 a4
    have HWA : Hid (wa = w6.alloc (.cells #[.int .i64 q1, .int .i64 q2, .string q3, .slice q4 q5 q6, .slice q7 q8 q9] 30 (0, 0))) := hwa
    rw [hwa] at a0 a1 a2 a3 a4
    go_wp2_with fail
    rw [← hwa] at a0 a1 a2 a3 a4
    rw [← hwa]
    clear hwa HWA
    have k4 := k3.trans (b.mono k3.size)
    have m4 := b.size
    replace BA := box_staysV BA b
    replace BB := box_staysV BB b
    replace V6 := V6.below b
    clear b
    have BX := hN
    clear hN
    go_at_call 6
    refine (HTY.out _ k4).mono ?_
    rintro e w7 ⟨p1, p2, p3, p4, p5, p6, p7, p8, p9, md7, rfl, V7, b⟩
    clear a0 a1 a2 a3 a4
    have k5 := k4.trans (b.mono k4.size)
    have m5 := b.size
    replace BA := box_staysV BA b
    replace BB := box_staysV BB b
    replace V6 := V6.below b
    replace BX := box_staysV BX b
    clear b
    have b : Below w7.heap.size w7 (w7.alloc (.cells #[.int .i64 p1, .int .i64 p2, .string p3, .slice p4 p5 p6, .slice p7 p8 p9] 30 (0, 0))) := (Below.refl _ _).alloc (Nat.le_refl _) _
    have hN : (w7.alloc (.cells #[.int .i64 p1, .int .i64 p2, .string p3, .slice p4 p5 p6, .slice p7 p8 p9] 30 (0, 0))).heap[w7.heap.size]? = some (.cells #[.int .i64 p1, .int .i64 p2, .string p3, .slice p4 p5 p6, .slice p7 p8 p9] 30 (0, 0)) := vheap_new _ _
    obtain ⟨a0, a1, a2, a3, a4⟩ := cells5H (box_staysV BX b)
    obtain ⟨wb, hwa⟩ : ∃ wa, wa = w7.alloc (.cells #[.int .i64 p1, .int .i64 p2, .string p3, .slice p4 p5 p6, .slice p7 p8 p9] 30 (0, 0)) := ⟨_, rfl⟩
    go_wp2_with fail
    rw [← hwa] at b hN a0 a1 a2 a3 a4
    rw [← hwa]
    clear hwa
    have k6 := k5.trans (b.mono k5.size)
    have m6 := b.size
    replace BA := box_staysV BA b
    replace BB := box_staysV BB b
    replace V6 := V6.below b
    replace BX := box_staysV BX b
    replace V7 := V7.below b
    clear b
    have BY := hN
    clear hN
    go_at_call 7
    refine (HIM.out _ _ _ _ _ _ _ _ _ _ _ _ _ _ _ _ _ _ _ _ _ _ _ _ _ V6 V7).mono ?_
    rintro e w8 ⟨rfl, b⟩
    clear a0 a1 a2 a3 a4
    have k7 := k6.trans (b.mono k6.size)
    have m7 := b.size
    replace BA := box_staysV BA b
    replace BB := box_staysV BB b
    replace V6 := V6.below b
    replace BX := box_staysV BX b
    replace V7 := V7.below b
    replace BY := box_staysV BY b
    clear b HIM
    have h0 : Below w8.heap.size w8 w8.drew := (Below.refl _ _).drew
    have KEEP : Hid (∀ W, Below w8.heap.size w8 W → W.cell? ⟨w6.heap.size, 0, none⟩ = some (.int .i64 q1) ∧ W.cell? ⟨w6.heap.size, 1, none⟩ = some (.int .i64 q2) ∧ W.cell? ⟨w6.heap.size, 2, none⟩ = some (.string q3) ∧ W.cell? ⟨w6.heap.size, 3, none⟩ = some (.slice q4 q5 q6) ∧ W.cell? ⟨w6.heap.size, 4, none⟩ = some (.slice q7 q8 q9) ∧ W.cell? ⟨w.heap.size, 0, none⟩ = some (.int .i64 x1) ∧ W.cell? ⟨w.heap.size, 1, none⟩ = some (.int .i64 x2) ∧ W.cell? ⟨w.heap.size, 2, none⟩ = some (.string x3) ∧ W.cell? ⟨w.heap.size, 3, none⟩ = some (.slice x4 x5 x6) ∧ W.cell? ⟨w.heap.size, 4, none⟩ = some (.slice x7 x8 x9)) := fun W h => by
      obtain ⟨i0, i1, i2, i3, i4⟩ := cells5H (box_staysV BX h)
      obtain ⟨j0, j1, j2, j3, j4⟩ := cells5H (box_staysV BA h)
      exact ⟨i0, i1, i2, i3, i4, j0, j1, j2, j3, j4⟩
    go_wp2_with fail
    refine wp_region_held_drew (S := (fun W => W.cell? ⟨w6.heap.size, 0, none⟩ = some (.int .i64 q1) ∧ W.cell? ⟨w6.heap.size, 1, none⟩ = some (.int .i64 q2) ∧ W.cell? ⟨w6.heap.size, 2, none⟩ = some (.string q3) ∧ W.cell? ⟨w6.heap.size, 3, none⟩ = some (.slice q4 q5 q6) ∧ W.cell? ⟨w6.heap.size, 4, none⟩ = some (.slice q7 q8 q9) ∧ W.cell? ⟨w.heap.size, 0, none⟩ = some (.int .i64 x1) ∧ W.cell? ⟨w.heap.size, 1, none⟩ = some (.int .i64 x2) ∧ W.cell? ⟨w.heap.size, 2, none⟩ = some (.string x3) ∧ W.cell? ⟨w.heap.size, 3, none⟩ = some (.slice x4 x5 x6) ∧ W.cell? ⟨w.heap.size, 4, none⟩ = some (.slice x7 x8 x9))) (by kernel_rfl) ?SR50 (fun hHeld => ?_)
    case SR50 => (first | (with_reducible exact KEEP.out _ h2) | (with_reducible exact KEEP.out _ h1) | (with_reducible exact KEEP.out _ h0))
    refine wpAnyH_take (i := 0) (oi := _) (v := ?vR50) rfl (by kernel_rfl) (by kernel_rfl) (by kernel_rfl) (fun _ _ _ h => h) (Or.inl ⟨by rfl, ?yR50⟩) hHeld ?_
    case yR50 => (intro w hSw; (try dsimp only at hSw); go_simp <;> with_reducible rfl)
    try simp only [Act.put, List.getElem_toArray, List.getElem_cons_zero, List.getElem_cons_succ, List.setIfInBounds_toArray, List.set_cons_zero, List.set_cons_succ]
    refine wpAnyH_take (i := 1) (oi := _) (v := ?vR51) rfl (by kernel_rfl) (by kernel_rfl) (by kernel_rfl) (fun _ _ _ h => h) (Or.inl ⟨by rfl, ?yR51⟩) hHeld ?_
    case yR51 => (intro w hSw; (try dsimp only at hSw); go_simp <;> with_reducible rfl)
    try simp only [Act.put, List.getElem_toArray, List.getElem_cons_zero, List.getElem_cons_succ, List.setIfInBounds_toArray, List.set_cons_zero, List.set_cons_succ]
    refine wpAnyH_ready (rs := [2]) (by kernel_rfl) (by simp) ?_
    refine AllReadyH.cons rfl (fun K hK => ?_) AllReadyH.nil
    go_simp
    go_wp2_with (go_at_call 6; refine (HTX.out _ (k7.trans (h0.mono k7.size))).mono ?_; rintro e w9 ⟨g1, g2, g3, g4, g5, g6, g7, g8, g9, md9, rfl, U7, b7⟩; have h1 : Below w8.heap.size w8 w9 := h0.trans (b7.mono h0.size); have U47 := V6.below h1)
    clear hHeld
    refine hK.out _ _ ?SR53 (fun hHeld => ?_)
    case SR53 => ((try dsimp only); first | (with_reducible exact KEEP.out _ h2) | (with_reducible exact KEEP.out _ h1) | (with_reducible exact KEEP.out _ h0))
    clear hK K
    refine wpAnyH_ready (rs := [3]) (by kernel_rfl) (by simp) ?_
    refine AllReadyH.cons rfl (fun K hK => ?_) AllReadyH.nil
    go_simp
    go_wp2_with (go_at_call 8; refine (HEX.out _ _ _ _ _ _ _ _ _ U47 U7).mono ?_; rintro e w10 ⟨rfl, b8⟩; have h2 : Below w8.heap.size w8 w10 := h1.trans (b8.mono h1.size))
    clear hHeld
    refine hK.out _ _ ?SR54 (fun hHeld => ?_)
    case SR54 => ((try dsimp only); first | (with_reducible exact KEEP.out _ h2) | (with_reducible exact KEEP.out _ h1) | (with_reducible exact KEEP.out _ h0))
    clear hK K
    refine wpAnyH_take (i := 4) (oi := _) (v := ?vR54) rfl (by kernel_rfl) (by kernel_rfl) (by kernel_rfl) (fun _ _ _ h => h) (Or.inl ⟨by rfl, ?yR54⟩) hHeld ?_
    case yR54 => (intro w hSw; (try dsimp only at hSw); go_simp <;> with_reducible rfl)
    try simp only [Act.put, List.getElem_toArray, List.getElem_cons_zero, List.getElem_cons_succ, List.setIfInBounds_toArray, List.set_cons_zero, List.set_cons_succ]
    refine wpAnyH_done (by kernel_rfl) ?_ _
    have b := h2
    clear U47 U7 b7 b8 h0 h1 h2 KEEP hHeld
    have k8 := k7.trans (b.mono k7.size)
    have m8 := b.size
    replace BA := box_staysV BA b
    replace BB := box_staysV BB b
    replace V6 := V6.below b
    replace BX := box_staysV BX b
    replace V7 := V7.below b
    replace BY := box_staysV BY b
    clear b
    have h0 : Below w10.heap.size w10 w10.drew := (Below.refl _ _).drew
    have KEEP : Hid (∀ W, Below w10.heap.size w10 W → W.cell? ⟨w7.heap.size, 0, none⟩ = some (.int .i64 p1) ∧ W.cell? ⟨w7.heap.size, 1, none⟩ = some (.int .i64 p2) ∧ W.cell? ⟨w7.heap.size, 2, none⟩ = some (.string p3) ∧ W.cell? ⟨w7.heap.size, 3, none⟩ = some (.slice p4 p5 p6) ∧ W.cell? ⟨w7.heap.size, 4, none⟩ = some (.slice p7 p8 p9) ∧ W.cell? ⟨w.heap.size + 1, 0, none⟩ = some (.int .i64 y1) ∧ W.cell? ⟨w.heap.size + 1, 1, none⟩ = some (.int .i64 y2) ∧ W.cell? ⟨w.heap.size + 1, 2, none⟩ = some (.string y3) ∧ W.cell? ⟨w.heap.size + 1, 3, none⟩ = some (.slice y4 y5 y6) ∧ W.cell? ⟨w.heap.size + 1, 4, none⟩ = some (.slice y7 y8 y9)) := fun W h => by
      obtain ⟨i0, i1, i2, i3, i4⟩ := cells5H (box_staysV BY h)
      obtain ⟨j0, j1, j2, j3, j4⟩ := cells5H (box_staysV BB h)
      exact ⟨i0, i1, i2, i3, i4, j0, j1, j2, j3, j4⟩
    go_wp2_with fail
    refine wp_region_held_drew (S := (fun W => W.cell? ⟨w7.heap.size, 0, none⟩ = some (.int .i64 p1) ∧ W.cell? ⟨w7.heap.size, 1, none⟩ = some (.int .i64 p2) ∧ W.cell? ⟨w7.heap.size, 2, none⟩ = some (.string p3) ∧ W.cell? ⟨w7.heap.size, 3, none⟩ = some (.slice p4 p5 p6) ∧ W.cell? ⟨w7.heap.size, 4, none⟩ = some (.slice p7 p8 p9) ∧ W.cell? ⟨w.heap.size + 1, 0, none⟩ = some (.int .i64 y1) ∧ W.cell? ⟨w.heap.size + 1, 1, none⟩ = some (.int .i64 y2) ∧ W.cell? ⟨w.heap.size + 1, 2, none⟩ = some (.string y3) ∧ W.cell? ⟨w.heap.size + 1, 3, none⟩ = some (.slice y4 y5 y6) ∧ W.cell? ⟨w.heap.size + 1, 4, none⟩ = some (.slice y7 y8 y9))) (by kernel_rfl) ?SR60 (fun hHeld => ?_)
    case SR60 => (first | (with_reducible exact KEEP.out _ h2) | (with_reducible exact KEEP.out _ h1) | (with_reducible exact KEEP.out _ h0))
    refine wpAnyH_take (i := 0) (oi := _) (v := ?vR60) rfl (by kernel_rfl) (by kernel_rfl) (by kernel_rfl) (fun _ _ _ h => h) (Or.inl ⟨by rfl, ?yR60⟩) hHeld ?_
    case yR60 => (intro w hSw; (try dsimp only at hSw); go_simp <;> with_reducible rfl)
    try simp only [Act.put, List.getElem_toArray, List.getElem_cons_zero, List.getElem_cons_succ, List.setIfInBounds_toArray, List.set_cons_zero, List.set_cons_succ]
    refine wpAnyH_take (i := 1) (oi := _) (v := ?vR61) rfl (by kernel_rfl) (by kernel_rfl) (by kernel_rfl) (fun _ _ _ h => h) (Or.inl ⟨by rfl, ?yR61⟩) hHeld ?_
    case yR61 => (intro w hSw; (try dsimp only at hSw); go_simp <;> with_reducible rfl)
    try simp only [Act.put, List.getElem_toArray, List.getElem_cons_zero, List.getElem_cons_succ, List.setIfInBounds_toArray, List.set_cons_zero, List.set_cons_succ]
    refine wpAnyH_ready (rs := [2]) (by kernel_rfl) (by simp) ?_
    refine AllReadyH.cons rfl (fun K hK => ?_) AllReadyH.nil
    go_simp
    go_wp2_with (go_at_call 6; refine (HTY.out _ (k8.trans (h0.mono k8.size))).mono ?_; rintro e w11 ⟨g1, g2, g3, g4, g5, g6, g7, g8, g9, md9, rfl, U7, b7⟩; have h1 : Below w10.heap.size w10 w11 := h0.trans (b7.mono h0.size); have U47 := V7.below h1)
    clear hHeld
    refine hK.out _ _ ?SR63 (fun hHeld => ?_)
    case SR63 => ((try dsimp only); first | (with_reducible exact KEEP.out _ h2) | (with_reducible exact KEEP.out _ h1) | (with_reducible exact KEEP.out _ h0))
    clear hK K
    refine wpAnyH_ready (rs := [3]) (by kernel_rfl) (by simp) ?_
    refine AllReadyH.cons rfl (fun K hK => ?_) AllReadyH.nil
    go_simp
    go_wp2_with (go_at_call 8; refine (HEY.out _ _ _ _ _ _ _ _ _ U47 U7).mono ?_; rintro e w12 ⟨rfl, b8⟩; have h2 : Below w10.heap.size w10 w12 := h1.trans (b8.mono h1.size))
    clear hHeld
    refine hK.out _ _ ?SR64 (fun hHeld => ?_)
    case SR64 => ((try dsimp only); first | (with_reducible exact KEEP.out _ h2) | (with_reducible exact KEEP.out _ h1) | (with_reducible exact KEEP.out _ h0))
    clear hK K
    refine wpAnyH_take (i := 4) (oi := _) (v := ?vR64) rfl (by kernel_rfl) (by kernel_rfl) (by kernel_rfl) (fun _ _ _ h => h) (Or.inl ⟨by rfl, ?yR64⟩) hHeld ?_
    case yR64 => (intro w hSw; (try dsimp only at hSw); go_simp <;> with_reducible rfl)
    try simp only [Act.put, List.getElem_toArray, List.getElem_cons_zero, List.getElem_cons_succ, List.setIfInBounds_toArray, List.set_cons_zero, List.set_cons_succ]
    refine wpAnyH_done (by kernel_rfl) ?_ _
    have b := h2
    clear U47 U7 b7 b8 h0 h1 h2 KEEP hHeld
    have k9 := k8.trans (b.mono k8.size)
    have m9 := b.size
    replace BA := box_staysV BA b
    replace BB := box_staysV BB b
    replace V6 := V6.below b
    replace BX := box_staysV BX b
    replace V7 := V7.below b
    replace BY := box_staysV BY b
    clear b
    go_wp2_with fail
    go_ret
    exact ⟨rfl, k9⟩
end Go.Proofs.Ytbkeenhmhibhhaa

/-! What comes in as a value of the laws' own type is a tree that lies in memory: no condition. -/
namespace Go.Proofs.Ytbkeenhmhibhhaa
open Go.ChangeShapes Go.WideShapes Go.ChangeAt Go.RowKit
set_option linter.unusedSimpArgs false
set_option linter.unusedVariables false

theorem list_of {α : Type} {P : Nat → α → Prop} : ∀ n, (∀ i, i < n → ∃ a, P i a) → ∃ l : List α, l.length = n ∧ ∀ i (h : i < l.length), P i l[i]
  | 0, _ => ⟨[], rfl, fun i h => by simp at h⟩
  | n + 1, h => by
    obtain ⟨l, hl, hp⟩ := list_of n (fun i hi => h i (by omega))
    obtain ⟨a, ha⟩ := h n (by omega)
    refine ⟨l ++ [a], by simp [hl], fun i hi => ?_⟩
    by_cases h1 : i < l.length
    · rw [List.getElem_append_left h1]; exact hp i h1
    · have : i = n := by simp at hi; omega
      subst this
      rw [List.getElem_append_right (by omega)]
      simpa using ha

theorem addr_add' (b off i : Nat) : ((⟨b, off, none⟩ : Addr).add i) = ⟨b, off + i, none⟩ := by unfold Addr.add; split <;> simp_all

theorem list5 {cs : List Value} (h : cs.length = 5) : ∃ c0 c1 c2 c3 c4, cs = [c0, c1, c2, c3, c4] := by
  match cs, h with
  | [c0, c1, c2, c3, c4], _ => exact ⟨c0, c1, c2, c3, c4, rfl⟩

theorem reads_open {H : Type} {enc : TypeId × Value → H} {w : World} {spare : Nat → Bool} {held : Bool} {fuel : Nat} {c : Value} {x : DataW H × List MemPlace}
    (hf : DataW.trod enc Try.prog w 0 spare held fuel 23 [c] = some x) : ∃ ks, ReadsB (· < w.heap.size) w c (strsV ks) ∧ saneS ks := by
  rcases open_strings Try.underlying23 Try.underlying9 (by kernel_rfl) hf with ⟨hcs, _⟩ | ⟨x, l, cap, zs, hcs, _, hl, hm, hz, _, hcell, hwz⟩
  · simp at hcs
    subst hcs
    exact ⟨[], ⟨none, 0, rfl, Nat.le_refl _, .inl rfl⟩, by simp [saneS]⟩
  · simp at hcs
    subst hcs
    have hz' : l ≤ zs.length := by rw [hz]; split <;> omega
    have hlen : (zs.take l).length = l := by simp; omega
    refine ⟨zs.take l, ?_, by rw [hlen]; omega, fun s hs => hwz s (List.mem_of_mem_take hs)⟩
    by_cases h0 : l = 0
    · subst h0
      exact ⟨some x, cap, by simp [strsV], by simp [strsV], .inl (by simp [strsV])⟩
    · obtain ⟨b, off, spot⟩ := x
      have hc0 := hcell 0 (by omega)
      have hspot : spot = none := by simpa [Addr.add] using World.cell?_spot hc0
      subst hspot
      refine ⟨some ⟨b, off, none⟩, cap, by simp [strsV]; omega, by simp [strsV]; omega, .inr ⟨b, off, rfl, ?_, fun i hi => ?_⟩⟩
      · rw [addr_add'] at hc0; exact World.block_lt_of_cell? w _ hc0
      · have hi' : i < l := by simp [strsV] at hi; omega
        have := hcell i (by omega)
        rw [addr_add'] at this
        rw [this]
        simp [strsV, List.getD_eq_getElem?_getD, show i < zs.length by omega]

set_option maxRecDepth 100000 in
theorem lies_of_trod {H : Type} {enc : TypeId × Value → H} {w : World} {spare : Nat → Bool} {held : Bool} (fuel : Nat) : ∀ (cs : List Value) (x : DataW H × List MemPlace),
    DataW.trod enc Try.prog w 0 spare held fuel 25 cs = some x → ∃ T, Lies (· < w.heap.size) w (.agg cs.toArray) T := by
  induction fuel using Nat.strongRecOn with
  | ind fuel ih =>
    intro cs x h
    obtain ⟨xs, n, rfl, _, hlen, hxl, hf⟩ := DataW.trod_struct Try.underlying25 h
    have h5 : Try.prog.cellsOf 25 = 5 := by kernel_rfl
    obtain ⟨c0, c1, c2, c3, c4, rfl⟩ := list5 (hlen.trans h5)
    have hx : ∀ i, i < 5 → ∃ y, xs[i]? = some y := fun i hi => ⟨xs[i]'(by rw [hxl]; exact hi), by rw [List.getElem?_eq_getElem]⟩
    obtain ⟨y0, e0⟩ := hx 0 (by omega)
    obtain ⟨y1, e1⟩ := hx 1 (by omega)
    obtain ⟨y2, e2⟩ := hx 2 (by omega)
    obtain ⟨y3, e3⟩ := hx 3 (by omega)
    obtain ⟨y4, e4⟩ := hx 4 (by omega)
    have k3 : Try.prog.cellsOf 3 = 1 := by kernel_rfl
    have k9 : Try.prog.cellsOf 9 = 1 := by kernel_rfl
    have kL : Try.prog.cellsOf 22 = 1 := by kernel_rfl
    have kS : Try.prog.cellsOf 23 = 1 := by kernel_rfl
    have f0 : DataW.trod enc Try.prog w 0 spare held n 3 [c0] = some y0 := by
      have h : DataW.trod enc Try.prog w 0 spare held n 3 ((([c0, c1, c2, c3, c4] : List Value).drop 0).take (Try.prog.cellsOf 3)) = some y0 := (hf 0 _ rfl).trans e0
      rw [k3] at h; exact h
    have f1 : DataW.trod enc Try.prog w 0 spare held n 3 [c1] = some y1 := by
      have h : DataW.trod enc Try.prog w 0 spare held n 3 ((([c0, c1, c2, c3, c4] : List Value).drop 1).take (Try.prog.cellsOf 3)) = some y1 := (hf 1 _ rfl).trans e1
      rw [k3] at h; exact h
    have f2 : DataW.trod enc Try.prog w 0 spare held n 9 [c2] = some y2 := by
      have h : DataW.trod enc Try.prog w 0 spare held n 9 ((([c0, c1, c2, c3, c4] : List Value).drop 2).take (Try.prog.cellsOf 9)) = some y2 := (hf 2 _ rfl).trans e2
      rw [k9] at h; exact h
    have f3 : DataW.trod enc Try.prog w 0 spare held n 22 [c3] = some y3 := by
      have h : DataW.trod enc Try.prog w 0 spare held n 22 ((([c0, c1, c2, c3, c4] : List Value).drop 3).take (Try.prog.cellsOf 22)) = some y3 := (hf 3 _ rfl).trans e3
      rw [kL] at h; exact h
    have f4 : DataW.trod enc Try.prog w 0 spare held n 23 [c4] = some y4 := by
      have h : DataW.trod enc Try.prog w 0 spare held n 23 ((([c0, c1, c2, c3, c4] : List Value).drop 4).take (Try.prog.cellsOf 23)) = some y4 := (hf 4 _ rfl).trans e4
      rw [kS] at h; exact h
    obtain ⟨k, hk, _, _⟩ := DataW.trod_int Try.underlying3 f0
    obtain ⟨m, hm, _, _⟩ := DataW.trod_int Try.underlying3 f1
    obtain ⟨s, hs, _, hsz⟩ := DataW.trod_string Try.underlying9 f2
    simp at hk hm hs
    subst hk hm hs
    obtain ⟨ks, hr, hsane⟩ := reads_open f4
    have hL : ∃ l, LiesL (· < w.heap.size) w c3 l := by
      rcases DataW.trod_slice Try.underlying22 f3 with ⟨hcs, _⟩ | ⟨a, len, cap, elems, rest, n', hn', hcs, _, _, hl, hcm, hel, hat, _, _⟩
      · simp at hcs
        subst hcs
        exact ⟨[], none, 0, fun _ _ => undef, rfl, by simp, Nat.le_refl _, .inl rfl, fun i h => by simp at h⟩
      · simp at hcs
        subst hcs
        rw [h5] at hat
        have heach : ∀ i, i < len → ∃ q : Tree × (Nat → Value), (∀ j, j < 5 → w.cell? ((a.add (i * 5)).add j) = some (q.2 j)) ∧ Lies (· < w.heap.size) w (.agg #[q.2 0, q.2 1, q.2 2, q.2 3, q.2 4]) q.1 := fun i hi => by
          have hb := hat i hi
          rw [List.getElem?_eq_getElem (by omega)] at hb
          obtain ⟨cs', hc1, hc2⟩ := Option.bind_eq_some_iff.1 hb
          obtain ⟨T, hT⟩ := ih n' (by omega) cs' _ hc2
          obtain ⟨hb1, hl5, hcell⟩ := World.cells?_some hc1
          obtain ⟨d0, d1, d2, d3, d4, rfl⟩ := list5 hl5
          refine ⟨(T, fun j => [d0, d1, d2, d3, d4].getD j undef), fun j hj => ?_, hT⟩
          rw [hcell j hj]
          match j, hj with
          | 0, _ => rfl
          | 1, _ => rfl
          | 2, _ => rfl
          | 3, _ => rfl
          | 4, _ => rfl
        obtain ⟨q, hq, hqp⟩ := list_of len heach
        refine ⟨q.map (·.1), some a, cap, fun i j => (q.getD i (.mk 0 0 ⟨#[]⟩ [] [], fun _ => undef)).2 j, by simp [hq], by simp [hq]; omega, by simp [hq]; omega, ?_, fun i h => ?_⟩
        · by_cases h0 : len = 0
          · left; simp; exact List.eq_nil_of_length_eq_zero (by omega)
          · right
            obtain ⟨b, off, spot⟩ := a
            have hc0 := (hqp 0 (by omega)).1 0 (by omega)
            have hspot : spot = none := by
              have := World.cell?_spot hc0
              simpa [Addr.add] using this
            subst hspot
            refine ⟨b, off, rfl, ?_, fun i hi j hj => ?_⟩
            · rw [addr_add', addr_add'] at hc0; exact World.block_lt_of_cell? w _ hc0
            · simp at hi
              have := (hqp i hi).1 j hj
              rw [addr_add', addr_add'] at this
              rw [this]
              simp [List.getD_eq_getElem?_getD, hi]
        · simp at h
          have := (hqp i h).2
          simpa [List.getD_eq_getElem?_getD, h] using this
    obtain ⟨l, hl⟩ := hL
    exact ⟨.mk k m s l ks, Lies.of hsz hsane hl hr⟩
#print axioms lies_of_trod
end Go.Proofs.Ytbkeenhmhibhhaa
