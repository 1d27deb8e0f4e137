/-
  Marks that a tree of values bears, found again as the law looks for them; marks put into a value and found again: contracts for the walks; conditions: there are at most 2 to the 32 marks.
-/
import Derived.Test.YtbolphjigjpmiaaTrN
import Derived.Deep.RegionHeld
namespace Go.Proofs.Ytbolphjigjpmiaa
open Go.RowKit
set_option linter.unusedSimpArgs false
set_option linter.unusedVariables false

def HeldC (l : List Tree) : Prop := ∀ (S : Nat → Prop) (v : Value) (w : World) (k : Nat), MarkL w S k v l → (∀ b, S b → b < w.heap.size) → 1 ≤ k → k + cntL l ≤ 4294967296 →
  Calls Try.prog 59 #[v, .int .i64 (k : Int)] w fun e w' => e = .returned (.int .i64 ((k + cntL l : Nat) : Int)) ∧ Below w.heap.size w w'

set_option maxHeartbeats 4000000 in
set_option maxRecDepth 100000 in
theorem heldValS_step (l : List Tree) (ih : ∀ U ∈ l, HeldC U.kids) : HeldC l := by
  intro S v w k h hS h1 h2
  cases h with
  | mk _ _ _ ys C U hrow hg hc hC hU =>
  rcases id hrow.2 with ⟨rfl, hn0⟩ | ⟨g, cap, cur, rfl, _, hgb, hcap, hmax, _⟩
  · have hl0 : l = [] := List.eq_nil_of_length_eq_zero hn0
    subst hl0
    clear hC hU hc ih hrow hg
    go_enter Try.func59, Try.ntmps59
    go_wp2_with fail
    go_loopw [1, 5] (fun vk vi wr => vk = .int .i64 (k : Int) ∧ vi = .int .i64 0 ∧ wr = w) (fun _ _ _ => 0)
    case atStart => exact ⟨rfl, rfl, rfl⟩
    case round =>
      obtain ⟨rfl, rfl, rfl⟩ := hrel
      go_wp2_with fail
      go_ret
      exact ⟨by simp [cntL], Below.refl _ _⟩
  · have hSg := hg g rfl
    have hgl := hS g hSg
    have hlen := hrow.1
    unfold maxLen at hmax
    have HCE : Hid (∀ i, i < l.length → w.cell? ⟨g, i * 5, none⟩ = some (.int .i64 ((k + cntL (l.take i) : Nat) : Int)) ∧ w.cell? ⟨g, i * 5 + 1, none⟩ = some (.int .i64 ((k + cntL (l.take i) + 1 : Nat) : Int)) ∧ w.cell? ⟨g, i * 5 + 2, none⟩ = some (.string (markStr (k + cntL (l.take i) + 2))) ∧ w.cell? ⟨g, i * 5 + 3, none⟩ = some (C i) ∧ w.cell? ⟨g, i * 5 + 4, none⟩ = some (U i)) := fun i hi => by
      obtain ⟨a, b, c, d, e⟩ := hc i hi
      exact ⟨(hrow.cellAt _ (by omega)).trans a, (hrow.cellAt _ (by omega)).trans b, (hrow.cellAt _ (by omega)).trans c, (hrow.cellAt _ (by omega)).trans d, (hrow.cellAt _ (by omega)).trans e⟩
    clear hc hg hgb hrow
    go_enter Try.func59, Try.ntmps59
    go_wp2_with fail
    go_loopw [1, 5] (fun vk vi wr => ∃ (i m : Nat), i ≤ l.length ∧ vi = .int .i64 (i : Int) ∧ vk = .int .i64 (m : Int) ∧ Hid (m = k + cntL (l.take i)) ∧ Below w.heap.size w wr) (fun _ vi _ => l.length - (intOf vi).toNat)
    case atStart => exact ⟨0, k, Nat.zero_le _, rfl, rfl, by show _ = _; simp [cntL], Below.refl _ _⟩
    case round =>
      obtain ⟨i, m, hi, rfl, rfl, hm, hbr⟩ := hrel
      by_cases hlt : i < l.length
      · obtain ⟨x0, x1, x2, x3, x4⟩ := HCE.out i hlt
        rw [← hm.out] at x0 x1 x2
        have e0 : wr.cell? ⟨g, i * 5, none⟩ = some (.int .i64 (m : Int)) := (hbr.cell (by simpa using hgl)).trans x0
        have e1 : wr.cell? ⟨g, i * 5 + 1, none⟩ = some (.int .i64 ((m : Int) + 1)) := (hbr.cell (by simpa using hgl)).trans (x1.trans (by simp))
        have KEEP : Hid (∀ w', Below wr.heap.size wr w' → w'.cell? ⟨g, i * 5 + 2, none⟩ = some (.string (markStr (m + 2)))) := fun w' h => (h.cell (by simpa using Nat.lt_of_lt_of_le hgl hbr.size)).trans ((hbr.cell (by simpa using hgl)).trans x2)
        have E3 : Hid (∀ w', Below wr.heap.size wr w' → w'.cell? ⟨g, i * 5 + 3, none⟩ = some (C i)) := fun w' h => (h.cell (by simpa using Nat.lt_of_lt_of_le hgl hbr.size)).trans ((hbr.cell (by simpa using hgl)).trans x3)
        have E4 : Hid (∀ w', Below wr.heap.size wr w' → w'.cell? ⟨g, i * 5 + 4, none⟩ = some (U i)) := fun w' h => (h.cell (by simpa using Nat.lt_of_lt_of_le hgl hbr.size)).trans ((hbr.cell (by simpa using hgl)).trans x4)
        have hcl : cntL (l.take i) + l[i].cnt ≤ cntL l := by rw [← cntL_take l i hlt]; exact cntL_take_le _ _
        have hce := cnt_eq l[i]
        have HCL : Hid (cntL (l.take i) + l[i].cnt ≤ cntL l ∧ l[i].cnt = 3 + cntL l[i].kids + l[i].keys.length) := ⟨hcl, hce⟩
        have hm2 : m + 3 ≤ 4294967296 := by have := hm.out; omega
        have hm1 : 1 ≤ m := by have := hm.out; omega
        have hki : (i : Int) < (l.length : Int) := by omega
        obtain ⟨p, hp⟩ : ∃ p, p = m + 3 + cntL l[i].kids := ⟨_, rfl⟩
        have HP := hidden hp
        have hpb : p ≤ 4294967296 := by have := HP.out; have := hm.out; omega
        have hkb : l[i].keys.length ≤ 4294967296 := by omega
        have HPM : Hid (p + l[i].keys.length = k + cntL (l.take (i + 1))) := by show _ = _; rw [cntL_take l i hlt, HP.out, hm.out]; omega
        have HMT : Hid (∀ w1, Calls Try.prog 70 #[.int .i64 ((m : Int) + 1 + 1)] w1 fun e w' => e = .returned (.string (markStr (m + 2))) ∧ Below w1.heap.size w1 w') := fun w1 => by
          have := markText_c (m + 2) w1 (by omega) (by omega)
          rw [show ((m + 2 : Nat) : Int) = (m : Int) + 1 + 1 by omega] at this
          exact this
        obtain ⟨qc, cc, ec⟩ := (hC i hlt).slice
        have HRU : ∀ w', Below w.heap.size w w' → Reads w' (U i) (strsV (marksS p l[i].keys.length)) := fun w' h => by
          have := ((hU i hlt).keep (.of h hS)).reads (fun b hb => Nat.lt_of_lt_of_le (hS b hb) h.size)
          rw [← hm.out, ← hp] at this
          exact this
        obtain ⟨qu, cu, eu, _⟩ := reads_strs (HRU w (Below.refl _ _))
        rw [length_marksS] at eu
        have HC2 : Hid (∀ w', Below wr.heap.size wr w' → Calls Try.prog 59 #[.slice qc l[i].kids.length cc, .int .i64 ((m : Int) + 1 + 1 + 1)] w' fun e w2 => e = .returned (.int .i64 (p : Int)) ∧ Below w'.heap.size w' w2) := fun w' h => by
          have hb2 : Below w.heap.size w w' := hbr.trans (h.mono hbr.size)
          have hk0 := hC i hlt
          rw [← hm.out] at hk0
          have := ih l[i] (List.getElem_mem hlt) S (C i) w' (m + 3) (hk0.keep (.of hb2 hS)) (fun b hb => Nat.lt_of_lt_of_le (hS b hb) hb2.size) (by omega) (by omega)
          rw [show ((m + 3 : Nat) : Int) = (m : Int) + 1 + 1 + 1 by omega, ← hp, ec] at this
          exact this
        have HU2 : Hid (∀ w', Below wr.heap.size wr w' → Calls Try.prog 60 #[.slice qu l[i].keys.length cu, .int .i64 (p : Int)] w' fun e w2 => e = .returned (.int .i64 ((p : Int) + (l[i].keys.length : Int))) ∧ Below w'.heap.size w' w2) := fun w' h => by
          have := heldStrs_c (U i) l[i].keys.length p w' (HRU w' (hbr.trans (h.mono hbr.size))) (by omega) (by omega) hkb
          rw [eu] at this
          exact this
        have E3' : Hid (∀ w', Below wr.heap.size wr w' → w'.cell? ⟨g, i * 5 + 3, none⟩ = some (.slice qc l[i].kids.length cc)) := fun w' h => by rw [← ec]; exact E3.out w' h
        have E4' : Hid (∀ w', Below wr.heap.size wr w' → w'.cell? ⟨g, i * 5 + 4, none⟩ = some (.slice qu l[i].keys.length cu)) := fun w' h => by rw [← eu]; exact E4.out w' h
        have hd0 : Below wr.heap.size wr wr.drew := (Below.refl _ _).drew
        clear x0 x1 x2 x3 x4 E3 E4 HRU ec eu hp hcl hce hC hU HCE ih
        go_wp2_with fail
        refine wp_region_held_drew (S := (fun w' => w'.cell? ⟨g, i * 5 + 2, none⟩ = some (.string (markStr (m + 2))))) (by kernel_rfl) ?SR10 (fun hHeld => ?_)
        case SR10 => (first | (with_reducible exact KEEP.out _ hd1) | (with_reducible exact KEEP.out _ hd0))
        refine wpAnyH_take (i := 0) (oi := _) (v := ?vR10) rfl (by kernel_rfl) (by kernel_rfl) (by kernel_rfl) (fun _ _ _ h => h) (Or.inl ⟨by rfl, ?yR10⟩) hHeld ?_
        case yR10 => (intro w hSw; (try dsimp only at hSw); go_simp <;> with_reducible rfl)
        try simp only [Act.put, List.getElem_toArray, List.getElem_cons_zero, List.getElem_cons_succ, List.setIfInBounds_toArray, List.set_cons_zero, List.set_cons_succ]
        refine wpAnyH_take (i := 1) (oi := _) (v := ?vR11) rfl (by kernel_rfl) (by kernel_rfl) (by kernel_rfl) (fun _ _ _ h => h) (Or.inl ⟨by rfl, ?yR11⟩) hHeld ?_
        case yR11 => (intro w hSw; (try dsimp only at hSw); go_simp <;> with_reducible rfl)
        try simp only [Act.put, List.getElem_toArray, List.getElem_cons_zero, List.getElem_cons_succ, List.setIfInBounds_toArray, List.set_cons_zero, List.set_cons_succ]
        refine wpAnyH_take (i := 2) (oi := _) (v := ?vR12) rfl (by kernel_rfl) (by kernel_rfl) (by kernel_rfl) (fun _ _ _ h => h) (Or.inl ⟨by rfl, ?yR12⟩) hHeld ?_
        case yR12 => (intro w hSw; (try dsimp only at hSw); go_simp <;> with_reducible rfl)
        try simp only [Act.put, List.getElem_toArray, List.getElem_cons_zero, List.getElem_cons_succ, List.setIfInBounds_toArray, List.set_cons_zero, List.set_cons_succ]
        refine wpAnyH_take (i := 3) (oi := _) (v := ?vR13) rfl (by kernel_rfl) (by kernel_rfl) (by kernel_rfl) (fun _ _ _ h => h) (Or.inl ⟨by rfl, ?yR13⟩) hHeld ?_
        case yR13 => (intro w hSw; (try dsimp only at hSw); go_simp <;> with_reducible rfl)
        try simp only [Act.put, List.getElem_toArray, List.getElem_cons_zero, List.getElem_cons_succ, List.setIfInBounds_toArray, List.set_cons_zero, List.set_cons_succ]
        refine wpAnyH_take (i := 4) (oi := _) (v := ?vR14) rfl (by kernel_rfl) (by kernel_rfl) (by kernel_rfl) (fun _ _ _ h => h) (Or.inl ⟨by rfl, ?yR14⟩) hHeld ?_
        case yR14 => (intro w hSw; (try dsimp only at hSw); go_simp <;> with_reducible rfl)
        try simp only [Act.put, List.getElem_toArray, List.getElem_cons_zero, List.getElem_cons_succ, List.setIfInBounds_toArray, List.set_cons_zero, List.set_cons_succ]
        refine wpAnyH_take (i := 5) (oi := _) (v := ?vR15) rfl (by kernel_rfl) (by kernel_rfl) (by kernel_rfl) (fun _ _ _ h => h) (Or.inl ⟨by rfl, ?yR15⟩) hHeld ?_
        case yR15 => (intro w hSw; (try dsimp only at hSw); go_simp <;> with_reducible rfl)
        try simp only [Act.put, List.getElem_toArray, List.getElem_cons_zero, List.getElem_cons_succ, List.setIfInBounds_toArray, List.set_cons_zero, List.set_cons_succ]
        refine wpAnyH_ready (rs := [6]) (by kernel_rfl) (by simp) ?_
        refine AllReadyH.cons rfl (fun K hK => ?_) AllReadyH.nil
        go_simp
        go_wp2_with (go_at_call 70; refine (HMT.out _).mono ?_; rintro e w1 ⟨rfl, b1⟩; have hd1 : Below wr.heap.size wr w1 := hd0.trans (b1.mono hd0.size))
        clear hHeld
        refine hK.out _ _ ?SR17 (fun hHeld => ?_)
        case SR17 => ((try dsimp only); first | (with_reducible exact KEEP.out _ hd1) | (with_reducible exact KEEP.out _ hd0))
        clear hK K
        refine wpAnyH_take (i := 7) (oi := _) (v := ?vR17) rfl (by kernel_rfl) (by kernel_rfl) (by kernel_rfl) (fun _ _ _ h => h) (Or.inl ⟨by rfl, ?yR17⟩) hHeld ?_
        case yR17 => (intro w hSw; (try dsimp only at hSw); go_simp <;> with_reducible rfl)
        try simp only [Act.put, List.getElem_toArray, List.getElem_cons_zero, List.getElem_cons_succ, List.setIfInBounds_toArray, List.set_cons_zero, List.set_cons_succ]
        refine wpAnyH_done (by kernel_rfl) ?_ _
        have z3 := E3'.out _ hd1
        go_wp2_with fail
        go_at_call 59
        refine (HC2.out _ hd1).mono ?_
        rintro e w2 ⟨rfl, b2⟩
        have hd2 : Below wr.heap.size wr w2 := hd1.trans (b2.mono hd1.size)
        have z4 := E4'.out _ hd2
        go_wp2_with fail
        go_at_call 60
        refine (HU2.out _ hd2).mono ?_
        rintro e w3 ⟨rfl, b3⟩
        have hd3 : Below wr.heap.size wr w3 := hd2.trans (b3.mono hd2.size)
        go_wp2_with fail
        go_roundw
        case rel => exact ⟨i + 1, p + l[i].keys.length, by omega, by go_num, by simp, HPM.out, hbr.trans (hd3.mono hbr.size)⟩
        case measure => simp [intOf]; omega
      · have he : i = l.length := by omega
        subst he
        have hmm : m = k + cntL l := by have := hm.out; rw [List.take_length] at this; exact this
        have HMM := hidden hmm
        clear hmm hC hU HCE
        go_wp2_with fail
        go_ret
        exact ⟨by rw [← HMM.out]; rfl, hbr⟩
theorem heldValS_all : ∀ T : Tree, HeldC T.kids := by
  refine Tree.ind (fun k n s l ks ih => ?_)
  exact heldValS_step l ih
theorem heldValS_c (l : List Tree) : HeldC l := heldValS_step l (fun U _ => heldValS_all U)
end Go.Proofs.Ytbolphjigjpmiaa
