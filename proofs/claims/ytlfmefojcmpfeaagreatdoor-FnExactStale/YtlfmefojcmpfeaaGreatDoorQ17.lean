/-
  Contracts for the walks, several texts in one: each part says what it proves, and under which conditions.
-/
import Derived.Test.YtlfmefojcmpfeaaGreatDoorQ2
import Derived.Test.YtlfmefojcmpfeaaGreatDoorQ4

/-! Whether picks are right, as the specification asks it: a contract for the walks; conditions: they lie in memory and hold at most 2 to the 20. -/
namespace Go.Proofs.YtlfmefojcmpfeaaGreatDoor
open Go.RowKit
set_option linter.unusedSimpArgs false
set_option linter.unusedVariables false

set_option maxHeartbeats 8000000 in
set_option maxRecDepth 100000 in
theorem l10Ok_c (S : Nat → Prop) (v : Value) (xs : List PickD) (w : World) (hv : RowIn shPick S w v xs) (hB : ∀ b, S b → b < w.heap.size) (hw : ∀ d ∈ xs, bulkS d.vP ≤ 1048576) :
    Calls Tryz.prog 129 #[v] w fun e w' => e = .returned (.bool (picksB xs)) ∧ Below w.heap.size w w' := by
  obtain ⟨a, cap, rfl, hl, hc, ha⟩ := hv
  unfold maxLen at hl
  obtain ⟨Q, hQ⟩ : ∃ R, R = rowB pickB PickD.name xs := ⟨_, rfl⟩
  unfold picksB
  rw [← hQ]
  have HQ := hidden hQ
  clear hQ
  go_enter Tryz.func129, Tryz.ntmps129
  go_wp2_with fail
  go_loopw [3] (fun vi wr => ∃ k : Nat, k ≤ xs.length ∧ vi = .int .i64 (k : Int) ∧ Hid (rowUpto pickB PickD.name xs k = true) ∧ Below w.heap.size w wr) (fun vi _ => xs.length - (intOf vi).toNat)
  case atStart => exact ⟨0, Nat.zero_le _, rfl, rfl, Below.refl _ _⟩
  case round =>
    obtain ⟨k, hk, rfl, hh, hbr⟩ := hrel
    by_cases hlt' : k < xs.length
    · rcases ha with rfl | ⟨b, off, rfl, hlt, ha⟩
      · simp at hlt'
      have hbb : b < wr.heap.size := Nat.lt_of_lt_of_le (hB b hlt) hbr.size
      have hBr : ∀ b, S b → b < wr.heap.size := fun b h => Nat.lt_of_lt_of_le (hB b h) hbr.size
      obtain ⟨cs, hL, hcell⟩ := ha k hlt'
      replace hL := shPick.keep (.of hbr hB) hL
      replace hcell := hcell.keep (.of hbr hB) hlt
      have HB : Hid (rowOk pickB PickD.name xs[k] (preX xs k) = false → Q = false) := fun h => HQ.out.trans (rowUpto_bad hlt' h _ hlt')
      have HG : Hid (rowOk pickB PickD.name xs[k] (preX xs k) = true → rowUpto pickB PickD.name xs (k + 1) = true) := fun h => rowUpto_step hlt' hh.out h
      have hpv : ∀ j, k = j + 1 → ∃ c, preX xs k = some c ∧ wr.cell? ⟨b, off + j * 5, none⟩ = some (.string c.name) := fun j hj => by
        subst hj
        have hj' : j < xs.length := by omega
        obtain ⟨cs', hL', hcell'⟩ := ha j hj'
        replace hcell' := hcell'.keep (.of hbr hB) hlt
        obtain ⟨_, rfl, _⟩ := hL'
        exact ⟨xs[j], by rw [preX, List.getElem?_eq_getElem hj'], hcell' 0 (by simp)⟩
      obtain ⟨o, ho⟩ : ∃ o, o = preX xs k := ⟨_, rfl⟩
      rw [← ho] at HB HG hpv
      have h0o : k = 0 → o = none := fun h => by subst h; exact ho
      have hwd : bulkS xs[k].vP ≤ 1048576 := hw _ (List.getElem_mem hlt')
      obtain ⟨d, hd⟩ : ∃ d, d = xs[k] := ⟨_, rfl⟩
      rw [← hd] at hL HB HG hwd
      obtain ⟨u0, rfl, s_n, r0, p0⟩ := hL
      have hbk : bulkS d.vP ≤ 1048576 := hwd
      have HN := fun w1 => specName_c d.name s_n w1
      have H1 : ∀ w1, Below wr.heap.size wr w1 → Calls Tryz.prog 95 #[.agg #[.int .i64 d.vA, .int .i64 d.vB, .int .i64 d.vC, u0]] w1 fun e w' => e = .returned (.bool (verB d.vA d.vB d.vC d.vP)) ∧ Below w1.heap.size w1 w' := fun w1 h => specVerOk_c _ _ _ u0 d.vP w1 ((r0.keep (.of h hBr)).reads (fun b hb => Nat.lt_of_lt_of_le (hBr b hb) h.size)) hbk
      have HX : Hid (pickB d = (nameB d.name && verB d.vA d.vB d.vC d.vP)) := rfl
      obtain ⟨p, hp⟩ : ∃ p, p = nameB d.name := ⟨_, rfl⟩
      obtain ⟨q, hq⟩ : ∃ p, p = verB d.vA d.vB d.vC d.vP := ⟨_, rfl⟩
      rw [← hp, ← hq] at HX
      simp only [← hp] at HN
      simp only [← hq] at H1
      replace HN := hidden HN
      replace H1 := hidden H1
      obtain ⟨a0, cap0, eu0, _⟩ := id r0
      rw [length_strsV] at eu0
      subst eu0
      have hki : (k : Int) < (xs.length : Int) := by omega
      have hd0 : Below wr.heap.size wr wr.drew := (Below.refl _ _).drew
      have e0 : wr.cell? ⟨b, off + k * 5, none⟩ = some (.string d.name) := hcell 0 (by simp)
      have e1 : wr.cell? ⟨b, off + k * 5 + 1, none⟩ = some (.int .i64 d.vA) := hcell 1 (by simp)
      have e2 : wr.cell? ⟨b, off + k * 5 + 2, none⟩ = some (.int .i64 d.vB) := hcell 2 (by simp)
      have e3 : wr.cell? ⟨b, off + k * 5 + 3, none⟩ = some (.int .i64 d.vC) := hcell 3 (by simp)
      have e4 : wr.cell? ⟨b, off + k * 5 + 4, none⟩ = some (.slice a0 d.vP.length cap0) := hcell 4 (by simp)
      clear ha hd ho hw hh hcell HQ s_n r0 p0 hp hq hbk hwd
      cases p with
      | false =>
        clear h0o hpv
        have KEEP : Hid (∀ w1, Below wr.heap.size wr w1 → w1.cell? ⟨b, off + k * 5, none⟩ = some (.string d.name) ∧ w1.cell? ⟨b, off + k * 5 + 1, none⟩ = some (.int .i64 d.vA) ∧ w1.cell? ⟨b, off + k * 5 + 2, none⟩ = some (.int .i64 d.vB) ∧ w1.cell? ⟨b, off + k * 5 + 3, none⟩ = some (.int .i64 d.vC) ∧ w1.cell? ⟨b, off + k * 5 + 4, none⟩ = some (.slice a0 d.vP.length cap0)) := fun w1 h => ⟨(h.cell (by simpa using hbb)).trans e0, (h.cell (by simpa using hbb)).trans e1, (h.cell (by simpa using hbb)).trans e2, (h.cell (by simpa using hbb)).trans e3, (h.cell (by simpa using hbb)).trans e4⟩
        clear e0 e1 e2 e3 e4
        go_wp2_with fail
        refine wp_region_held_drew (S := (fun w' => w'.cell? ⟨b, off + k * 5, none⟩ = some (.string d.name) ∧ w'.cell? ⟨b, off + k * 5 + 1, none⟩ = some (.int .i64 d.vA) ∧ w'.cell? ⟨b, off + k * 5 + 2, none⟩ = some (.int .i64 d.vB) ∧ w'.cell? ⟨b, off + k * 5 + 3, none⟩ = some (.int .i64 d.vC) ∧ w'.cell? ⟨b, off + k * 5 + 4, none⟩ = some (.slice a0 d.vP.length cap0))) (by kernel_rfl) ?SR10 (fun hHeld => ?_)
        case SR10 => (first | (with_reducible exact KEEP.out _ hd1) | (with_reducible exact KEEP.out _ hd0))
        refine wpAnyH_take (i := 0) (oi := _) (v := ?vR10) rfl (by kernel_rfl) (by kernel_rfl) (by kernel_rfl) (fun _ _ _ h => h) (Or.inl ⟨by rfl, ?yR10⟩) hHeld ?_
        case yR10 => (intro w hSw; (try dsimp only at hSw); go_simp <;> with_reducible rfl)
        try simp only [Act.put, List.getElem_toArray, List.getElem_cons_zero, List.getElem_cons_succ, List.setIfInBounds_toArray, List.set_cons_zero, List.set_cons_succ]
        refine wpAnyH_take (i := 1) (oi := _) (v := ?vR11) rfl (by kernel_rfl) (by kernel_rfl) (by kernel_rfl) (fun _ _ _ h => h) (Or.inl ⟨by rfl, ?yR11⟩) hHeld ?_
        case yR11 => (intro w hSw; (try dsimp only at hSw); go_simp <;> with_reducible rfl)
        try simp only [Act.put, List.getElem_toArray, List.getElem_cons_zero, List.getElem_cons_succ, List.setIfInBounds_toArray, List.set_cons_zero, List.set_cons_succ]
        refine wpAnyH_take (i := 2) (oi := _) (v := ?vR12) rfl (by kernel_rfl) (by kernel_rfl) (by kernel_rfl) (fun _ _ _ h => h) (Or.inl ⟨by rfl, ?yR12⟩) hHeld ?_
        case yR12 => (intro w hSw; (try dsimp only at hSw); go_simp <;> with_reducible rfl)
        try simp only [Act.put, List.getElem_toArray, List.getElem_cons_zero, List.getElem_cons_succ, List.setIfInBounds_toArray, List.set_cons_zero, List.set_cons_succ]
        refine wpAnyH_take (i := 3) (oi := _) (v := ?vR13) rfl (by kernel_rfl) (by kernel_rfl) (by kernel_rfl) (fun _ _ _ h => h) (Or.inl ⟨by rfl, ?yR13⟩) hHeld ?_
        case yR13 => (intro w hSw; (try dsimp only at hSw); go_simp <;> with_reducible rfl)
        try simp only [Act.put, List.getElem_toArray, List.getElem_cons_zero, List.getElem_cons_succ, List.setIfInBounds_toArray, List.set_cons_zero, List.set_cons_succ]
        refine wpAnyH_take (i := 4) (oi := _) (v := ?vR14) rfl (by kernel_rfl) (by kernel_rfl) (by kernel_rfl) (fun _ _ _ h => h) (Or.inl ⟨by rfl, ?yR14⟩) hHeld ?_
        case yR14 => (intro w hSw; (try dsimp only at hSw); go_simp <;> with_reducible rfl)
        try simp only [Act.put, List.getElem_toArray, List.getElem_cons_zero, List.getElem_cons_succ, List.setIfInBounds_toArray, List.set_cons_zero, List.set_cons_succ]
        refine wpAnyH_ready (rs := [5]) (by kernel_rfl) (by simp) ?_
        refine AllReadyH.cons rfl (fun K hK => ?_) AllReadyH.nil
        go_simp
        go_wp2_with (go_at_call 94; refine (HN.out _).mono ?_; rintro e w' ⟨rfl, rfl⟩)
        clear hHeld
        refine hK.out _ _ ?SR16 (fun hHeld => ?_)
        case SR16 => ((try dsimp only); first | (with_reducible exact KEEP.out _ hd1) | (with_reducible exact KEEP.out _ hd0))
        clear hK K
        refine wpAnyH_take (i := 6) (oi := _) (v := ?vR16) rfl (by kernel_rfl) (by kernel_rfl) (by kernel_rfl) (fun _ _ _ h => h) (Or.inl ⟨by rfl, ?yR16⟩) hHeld ?_
        case yR16 => (intro w hSw; (try dsimp only at hSw); go_simp <;> with_reducible rfl)
        try simp only [Act.put, List.getElem_toArray, List.getElem_cons_zero, List.getElem_cons_succ, List.setIfInBounds_toArray, List.set_cons_zero, List.set_cons_succ]
        refine wpAnyH_take (i := 7) (oi := _) (v := ?vR17) rfl (by kernel_rfl) (by kernel_rfl) (by kernel_rfl) (fun _ _ _ h => h) (Or.inl ⟨by rfl, ?yR17⟩) hHeld ?_
        case yR17 => (intro w hSw; (try dsimp only at hSw); go_simp <;> with_reducible rfl)
        try simp only [Act.put, List.getElem_toArray, List.getElem_cons_zero, List.getElem_cons_succ, List.setIfInBounds_toArray, List.set_cons_zero, List.set_cons_succ]
        refine wpAnyH_take (i := 8) (oi := _) (v := undef) rfl (by kernel_rfl) (by kernel_rfl) (by kernel_rfl) (fun _ _ _ h => h) (Or.inr ⟨by rfl, rfl⟩) hHeld ?_
        try simp only [Act.put, List.getElem_toArray, List.getElem_cons_zero, List.getElem_cons_succ, List.setIfInBounds_toArray, List.set_cons_zero, List.set_cons_succ]
        refine wpAnyH_take (i := 9) (oi := _) (v := undef) rfl (by kernel_rfl) (by kernel_rfl) (by kernel_rfl) (fun _ _ _ h => h) (Or.inr ⟨by rfl, rfl⟩) hHeld ?_
        try simp only [Act.put, List.getElem_toArray, List.getElem_cons_zero, List.getElem_cons_succ, List.setIfInBounds_toArray, List.set_cons_zero, List.set_cons_succ]
        refine wpAnyH_take (i := 10) (oi := _) (v := undef) rfl (by kernel_rfl) (by kernel_rfl) (by kernel_rfl) (fun _ _ _ h => h) (Or.inr ⟨by rfl, rfl⟩) hHeld ?_
        try simp only [Act.put, List.getElem_toArray, List.getElem_cons_zero, List.getElem_cons_succ, List.setIfInBounds_toArray, List.set_cons_zero, List.set_cons_succ]
        refine wpAnyH_take (i := 11) (oi := _) (v := undef) rfl (by kernel_rfl) (by kernel_rfl) (by kernel_rfl) (fun _ _ _ h => h) (Or.inr ⟨by rfl, rfl⟩) hHeld ?_
        try simp only [Act.put, List.getElem_toArray, List.getElem_cons_zero, List.getElem_cons_succ, List.setIfInBounds_toArray, List.set_cons_zero, List.set_cons_succ]
        refine wpAnyH_take (i := 12) (oi := _) (v := undef) rfl (by kernel_rfl) (by kernel_rfl) (by kernel_rfl) (fun _ _ _ h => h) (Or.inr ⟨by rfl, rfl⟩) hHeld ?_
        try simp only [Act.put, List.getElem_toArray, List.getElem_cons_zero, List.getElem_cons_succ, List.setIfInBounds_toArray, List.set_cons_zero, List.set_cons_succ]
        refine wpAnyH_take (i := 13) (oi := _) (v := undef) rfl (by kernel_rfl) (by kernel_rfl) (by kernel_rfl) (fun _ _ _ h => h) (Or.inr ⟨by rfl, rfl⟩) hHeld ?_
        try simp only [Act.put, List.getElem_toArray, List.getElem_cons_zero, List.getElem_cons_succ, List.setIfInBounds_toArray, List.set_cons_zero, List.set_cons_succ]
        refine wpAnyH_take (i := 14) (oi := _) (v := undef) rfl (by kernel_rfl) (by kernel_rfl) (by kernel_rfl) (fun _ _ _ h => h) (Or.inr ⟨by rfl, rfl⟩) hHeld ?_
        try simp only [Act.put, List.getElem_toArray, List.getElem_cons_zero, List.getElem_cons_succ, List.setIfInBounds_toArray, List.set_cons_zero, List.set_cons_succ]
        refine wpAnyH_take (i := 15) (oi := _) (v := ?vR115) rfl (by kernel_rfl) (by kernel_rfl) (by kernel_rfl) (fun _ _ _ h => h) (Or.inl ⟨by rfl, ?yR115⟩) hHeld ?_
        case yR115 => (intro w hSw; (try dsimp only at hSw); go_simp <;> with_reducible rfl)
        try simp only [Act.put, List.getElem_toArray, List.getElem_cons_zero, List.getElem_cons_succ, List.setIfInBounds_toArray, List.set_cons_zero, List.set_cons_succ]
        refine wpAnyH_take (i := 16) (oi := _) (v := ?vR116) rfl (by kernel_rfl) (by kernel_rfl) (by kernel_rfl) (fun _ _ _ h => h) (Or.inl ⟨by rfl, ?yR116⟩) hHeld ?_
        case yR116 => (intro w hSw; (try dsimp only at hSw); go_simp <;> with_reducible rfl)
        try simp only [Act.put, List.getElem_toArray, List.getElem_cons_zero, List.getElem_cons_succ, List.setIfInBounds_toArray, List.set_cons_zero, List.set_cons_succ]
        refine wpAnyH_take (i := 17) (oi := _) (v := undef) rfl (by kernel_rfl) (by kernel_rfl) (by kernel_rfl) (fun _ _ _ h => h) (Or.inr ⟨by rfl, rfl⟩) hHeld ?_
        try simp only [Act.put, List.getElem_toArray, List.getElem_cons_zero, List.getElem_cons_succ, List.setIfInBounds_toArray, List.set_cons_zero, List.set_cons_succ]
        refine wpAnyH_take (i := 18) (oi := _) (v := undef) rfl (by kernel_rfl) (by kernel_rfl) (by kernel_rfl) (fun _ _ _ h => h) (Or.inr ⟨by rfl, rfl⟩) hHeld ?_
        try simp only [Act.put, List.getElem_toArray, List.getElem_cons_zero, List.getElem_cons_succ, List.setIfInBounds_toArray, List.set_cons_zero, List.set_cons_succ]
        refine wpAnyH_take (i := 19) (oi := _) (v := undef) rfl (by kernel_rfl) (by kernel_rfl) (by kernel_rfl) (fun _ _ _ h => h) (Or.inr ⟨by rfl, rfl⟩) hHeld ?_
        try simp only [Act.put, List.getElem_toArray, List.getElem_cons_zero, List.getElem_cons_succ, List.setIfInBounds_toArray, List.set_cons_zero, List.set_cons_succ]
        refine wpAnyH_take (i := 20) (oi := _) (v := undef) rfl (by kernel_rfl) (by kernel_rfl) (by kernel_rfl) (fun _ _ _ h => h) (Or.inr ⟨by rfl, rfl⟩) hHeld ?_
        try simp only [Act.put, List.getElem_toArray, List.getElem_cons_zero, List.getElem_cons_succ, List.setIfInBounds_toArray, List.set_cons_zero, List.set_cons_succ]
        refine wpAnyH_take (i := 21) (oi := _) (v := undef) rfl (by kernel_rfl) (by kernel_rfl) (by kernel_rfl) (fun _ _ _ h => h) (Or.inr ⟨by rfl, rfl⟩) hHeld ?_
        try simp only [Act.put, List.getElem_toArray, List.getElem_cons_zero, List.getElem_cons_succ, List.setIfInBounds_toArray, List.set_cons_zero, List.set_cons_succ]
        refine wpAnyH_take (i := 22) (oi := _) (v := undef) rfl (by kernel_rfl) (by kernel_rfl) (by kernel_rfl) (fun _ _ _ h => h) (Or.inr ⟨by rfl, rfl⟩) hHeld ?_
        try simp only [Act.put, List.getElem_toArray, List.getElem_cons_zero, List.getElem_cons_succ, List.setIfInBounds_toArray, List.set_cons_zero, List.set_cons_succ]
        refine wpAnyH_take (i := 23) (oi := _) (v := undef) rfl (by kernel_rfl) (by kernel_rfl) (by kernel_rfl) (fun _ _ _ h => h) (Or.inr ⟨by rfl, rfl⟩) hHeld ?_
        try simp only [Act.put, List.getElem_toArray, List.getElem_cons_zero, List.getElem_cons_succ, List.setIfInBounds_toArray, List.set_cons_zero, List.set_cons_succ]
        refine wpAnyH_take (i := 24) (oi := _) (v := undef) rfl (by kernel_rfl) (by kernel_rfl) (by kernel_rfl) (fun _ _ _ h => h) (Or.inr ⟨by rfl, rfl⟩) hHeld ?_
        try simp only [Act.put, List.getElem_toArray, List.getElem_cons_zero, List.getElem_cons_succ, List.setIfInBounds_toArray, List.set_cons_zero, List.set_cons_succ]
        refine wpAnyH_take (i := 25) (oi := _) (v := undef) rfl (by kernel_rfl) (by kernel_rfl) (by kernel_rfl) (fun _ _ _ h => h) (Or.inr ⟨by rfl, rfl⟩) hHeld ?_
        try simp only [Act.put, List.getElem_toArray, List.getElem_cons_zero, List.getElem_cons_succ, List.setIfInBounds_toArray, List.set_cons_zero, List.set_cons_succ]
        refine wpAnyH_take (i := 26) (oi := _) (v := undef) rfl (by kernel_rfl) (by kernel_rfl) (by kernel_rfl) (fun _ _ _ h => h) (Or.inr ⟨by rfl, rfl⟩) hHeld ?_
        try simp only [Act.put, List.getElem_toArray, List.getElem_cons_zero, List.getElem_cons_succ, List.setIfInBounds_toArray, List.set_cons_zero, List.set_cons_succ]
        refine wpAnyH_take (i := 27) (oi := _) (v := undef) rfl (by kernel_rfl) (by kernel_rfl) (by kernel_rfl) (fun _ _ _ h => h) (Or.inr ⟨by rfl, rfl⟩) hHeld ?_
        try simp only [Act.put, List.getElem_toArray, List.getElem_cons_zero, List.getElem_cons_succ, List.setIfInBounds_toArray, List.set_cons_zero, List.set_cons_succ]
        refine wpAnyH_take (i := 28) (oi := _) (v := undef) rfl (by kernel_rfl) (by kernel_rfl) (by kernel_rfl) (fun _ _ _ h => h) (Or.inr ⟨by rfl, rfl⟩) hHeld ?_
        try simp only [Act.put, List.getElem_toArray, List.getElem_cons_zero, List.getElem_cons_succ, List.setIfInBounds_toArray, List.set_cons_zero, List.set_cons_succ]
        refine wpAnyH_take (i := 29) (oi := _) (v := undef) rfl (by kernel_rfl) (by kernel_rfl) (by kernel_rfl) (fun _ _ _ h => h) (Or.inr ⟨by rfl, rfl⟩) hHeld ?_
        try simp only [Act.put, List.getElem_toArray, List.getElem_cons_zero, List.getElem_cons_succ, List.setIfInBounds_toArray, List.set_cons_zero, List.set_cons_succ]
        refine wpAnyH_take (i := 30) (oi := _) (v := undef) rfl (by kernel_rfl) (by kernel_rfl) (by kernel_rfl) (fun _ _ _ h => h) (Or.inr ⟨by rfl, rfl⟩) hHeld ?_
        try simp only [Act.put, List.getElem_toArray, List.getElem_cons_zero, List.getElem_cons_succ, List.setIfInBounds_toArray, List.set_cons_zero, List.set_cons_succ]
        refine wpAnyH_take (i := 31) (oi := _) (v := undef) rfl (by kernel_rfl) (by kernel_rfl) (by kernel_rfl) (fun _ _ _ h => h) (Or.inr ⟨by rfl, rfl⟩) hHeld ?_
        try simp only [Act.put, List.getElem_toArray, List.getElem_cons_zero, List.getElem_cons_succ, List.setIfInBounds_toArray, List.set_cons_zero, List.set_cons_succ]
        refine wpAnyH_take (i := 32) (oi := _) (v := undef) rfl (by kernel_rfl) (by kernel_rfl) (by kernel_rfl) (fun _ _ _ h => h) (Or.inr ⟨by rfl, rfl⟩) hHeld ?_
        try simp only [Act.put, List.getElem_toArray, List.getElem_cons_zero, List.getElem_cons_succ, List.setIfInBounds_toArray, List.set_cons_zero, List.set_cons_succ]
        refine wpAnyH_take (i := 33) (oi := _) (v := ?vR133) rfl (by kernel_rfl) (by kernel_rfl) (by kernel_rfl) (fun _ _ _ h => h) (Or.inl ⟨by rfl, ?yR133⟩) hHeld ?_
        case yR133 => (intro w hSw; (try dsimp only at hSw); go_simp <;> with_reducible rfl)
        try simp only [Act.put, List.getElem_toArray, List.getElem_cons_zero, List.getElem_cons_succ, List.setIfInBounds_toArray, List.set_cons_zero, List.set_cons_succ]
        refine wpAnyH_done (by kernel_rfl) ?_ _
        go_wp2_with fail
        go_ret
        exact ⟨by rw [HB.out (rowOk_no (HX.out))]; rfl, hbr.trans (hd0.mono hbr.size)⟩
      | true =>
        cases q with
        | false =>
          clear h0o hpv
          have KEEP : Hid (∀ w1, Below wr.heap.size wr w1 → w1.cell? ⟨b, off + k * 5, none⟩ = some (.string d.name) ∧ w1.cell? ⟨b, off + k * 5 + 1, none⟩ = some (.int .i64 d.vA) ∧ w1.cell? ⟨b, off + k * 5 + 2, none⟩ = some (.int .i64 d.vB) ∧ w1.cell? ⟨b, off + k * 5 + 3, none⟩ = some (.int .i64 d.vC) ∧ w1.cell? ⟨b, off + k * 5 + 4, none⟩ = some (.slice a0 d.vP.length cap0)) := fun w1 h => ⟨(h.cell (by simpa using hbb)).trans e0, (h.cell (by simpa using hbb)).trans e1, (h.cell (by simpa using hbb)).trans e2, (h.cell (by simpa using hbb)).trans e3, (h.cell (by simpa using hbb)).trans e4⟩
          clear e0 e1 e2 e3 e4
          go_wp2_with fail
          refine wp_region_held_drew (S := (fun w' => w'.cell? ⟨b, off + k * 5, none⟩ = some (.string d.name) ∧ w'.cell? ⟨b, off + k * 5 + 1, none⟩ = some (.int .i64 d.vA) ∧ w'.cell? ⟨b, off + k * 5 + 2, none⟩ = some (.int .i64 d.vB) ∧ w'.cell? ⟨b, off + k * 5 + 3, none⟩ = some (.int .i64 d.vC) ∧ w'.cell? ⟨b, off + k * 5 + 4, none⟩ = some (.slice a0 d.vP.length cap0))) (by kernel_rfl) ?SR20 (fun hHeld => ?_)
          case SR20 => (first | (with_reducible exact KEEP.out _ hd1) | (with_reducible exact KEEP.out _ hd0))
          refine wpAnyH_take (i := 0) (oi := _) (v := ?vR20) rfl (by kernel_rfl) (by kernel_rfl) (by kernel_rfl) (fun _ _ _ h => h) (Or.inl ⟨by rfl, ?yR20⟩) hHeld ?_
          case yR20 => (intro w hSw; (try dsimp only at hSw); go_simp <;> with_reducible rfl)
          try simp only [Act.put, List.getElem_toArray, List.getElem_cons_zero, List.getElem_cons_succ, List.setIfInBounds_toArray, List.set_cons_zero, List.set_cons_succ]
          refine wpAnyH_take (i := 1) (oi := _) (v := ?vR21) rfl (by kernel_rfl) (by kernel_rfl) (by kernel_rfl) (fun _ _ _ h => h) (Or.inl ⟨by rfl, ?yR21⟩) hHeld ?_
          case yR21 => (intro w hSw; (try dsimp only at hSw); go_simp <;> with_reducible rfl)
          try simp only [Act.put, List.getElem_toArray, List.getElem_cons_zero, List.getElem_cons_succ, List.setIfInBounds_toArray, List.set_cons_zero, List.set_cons_succ]
          refine wpAnyH_take (i := 2) (oi := _) (v := ?vR22) rfl (by kernel_rfl) (by kernel_rfl) (by kernel_rfl) (fun _ _ _ h => h) (Or.inl ⟨by rfl, ?yR22⟩) hHeld ?_
          case yR22 => (intro w hSw; (try dsimp only at hSw); go_simp <;> with_reducible rfl)
          try simp only [Act.put, List.getElem_toArray, List.getElem_cons_zero, List.getElem_cons_succ, List.setIfInBounds_toArray, List.set_cons_zero, List.set_cons_succ]
          refine wpAnyH_take (i := 3) (oi := _) (v := ?vR23) rfl (by kernel_rfl) (by kernel_rfl) (by kernel_rfl) (fun _ _ _ h => h) (Or.inl ⟨by rfl, ?yR23⟩) hHeld ?_
          case yR23 => (intro w hSw; (try dsimp only at hSw); go_simp <;> with_reducible rfl)
          try simp only [Act.put, List.getElem_toArray, List.getElem_cons_zero, List.getElem_cons_succ, List.setIfInBounds_toArray, List.set_cons_zero, List.set_cons_succ]
          refine wpAnyH_take (i := 4) (oi := _) (v := ?vR24) rfl (by kernel_rfl) (by kernel_rfl) (by kernel_rfl) (fun _ _ _ h => h) (Or.inl ⟨by rfl, ?yR24⟩) hHeld ?_
          case yR24 => (intro w hSw; (try dsimp only at hSw); go_simp <;> with_reducible rfl)
          try simp only [Act.put, List.getElem_toArray, List.getElem_cons_zero, List.getElem_cons_succ, List.setIfInBounds_toArray, List.set_cons_zero, List.set_cons_succ]
          refine wpAnyH_ready (rs := [5]) (by kernel_rfl) (by simp) ?_
          refine AllReadyH.cons rfl (fun K hK => ?_) AllReadyH.nil
          go_simp
          go_wp2_with (go_at_call 94; refine (HN.out _).mono ?_; rintro e w' ⟨rfl, rfl⟩)
          clear hHeld
          refine hK.out _ _ ?SR26 (fun hHeld => ?_)
          case SR26 => ((try dsimp only); first | (with_reducible exact KEEP.out _ hd1) | (with_reducible exact KEEP.out _ hd0))
          clear hK K
          refine wpAnyH_take (i := 6) (oi := _) (v := ?vR26) rfl (by kernel_rfl) (by kernel_rfl) (by kernel_rfl) (fun _ _ _ h => h) (Or.inl ⟨by rfl, ?yR26⟩) hHeld ?_
          case yR26 => (intro w hSw; (try dsimp only at hSw); go_simp <;> with_reducible rfl)
          try simp only [Act.put, List.getElem_toArray, List.getElem_cons_zero, List.getElem_cons_succ, List.setIfInBounds_toArray, List.set_cons_zero, List.set_cons_succ]
          refine wpAnyH_take (i := 7) (oi := _) (v := ?vR27) rfl (by kernel_rfl) (by kernel_rfl) (by kernel_rfl) (fun _ _ _ h => h) (Or.inl ⟨by rfl, ?yR27⟩) hHeld ?_
          case yR27 => (intro w hSw; (try dsimp only at hSw); go_simp <;> with_reducible rfl)
          try simp only [Act.put, List.getElem_toArray, List.getElem_cons_zero, List.getElem_cons_succ, List.setIfInBounds_toArray, List.set_cons_zero, List.set_cons_succ]
          refine wpAnyH_take (i := 8) (oi := _) (v := ?vR28) rfl (by kernel_rfl) (by kernel_rfl) (by kernel_rfl) (fun _ _ _ h => h) (Or.inl ⟨by rfl, ?yR28⟩) hHeld ?_
          case yR28 => (intro w hSw; (try dsimp only at hSw); go_simp <;> with_reducible rfl)
          try simp only [Act.put, List.getElem_toArray, List.getElem_cons_zero, List.getElem_cons_succ, List.setIfInBounds_toArray, List.set_cons_zero, List.set_cons_succ]
          refine wpAnyH_take (i := 9) (oi := _) (v := ?vR29) rfl (by kernel_rfl) (by kernel_rfl) (by kernel_rfl) (fun _ _ _ h => h) (Or.inl ⟨by rfl, ?yR29⟩) hHeld ?_
          case yR29 => (intro w hSw; (try dsimp only at hSw); go_simp <;> with_reducible rfl)
          try simp only [Act.put, List.getElem_toArray, List.getElem_cons_zero, List.getElem_cons_succ, List.setIfInBounds_toArray, List.set_cons_zero, List.set_cons_succ]
          refine wpAnyH_take (i := 10) (oi := _) (v := ?vR210) rfl (by kernel_rfl) (by kernel_rfl) (by kernel_rfl) (fun _ _ _ h => h) (Or.inl ⟨by rfl, ?yR210⟩) hHeld ?_
          case yR210 => (intro w hSw; (try dsimp only at hSw); go_simp <;> with_reducible rfl)
          try simp only [Act.put, List.getElem_toArray, List.getElem_cons_zero, List.getElem_cons_succ, List.setIfInBounds_toArray, List.set_cons_zero, List.set_cons_succ]
          refine wpAnyH_take (i := 11) (oi := _) (v := ?vR211) rfl (by kernel_rfl) (by kernel_rfl) (by kernel_rfl) (fun _ _ _ h => h) (Or.inl ⟨by rfl, ?yR211⟩) hHeld ?_
          case yR211 => (intro w hSw; (try dsimp only at hSw); go_simp <;> with_reducible rfl)
          try simp only [Act.put, List.getElem_toArray, List.getElem_cons_zero, List.getElem_cons_succ, List.setIfInBounds_toArray, List.set_cons_zero, List.set_cons_succ]
          refine wpAnyH_take (i := 12) (oi := _) (v := ?vR212) rfl (by kernel_rfl) (by kernel_rfl) (by kernel_rfl) (fun _ _ _ h => h) (Or.inl ⟨by rfl, ?yR212⟩) hHeld ?_
          case yR212 => (intro w hSw; (try dsimp only at hSw); go_simp <;> with_reducible rfl)
          try simp only [Act.put, List.getElem_toArray, List.getElem_cons_zero, List.getElem_cons_succ, List.setIfInBounds_toArray, List.set_cons_zero, List.set_cons_succ]
          refine wpAnyH_ready (rs := [13]) (by kernel_rfl) (by simp) ?_
          refine AllReadyH.cons rfl (fun K hK => ?_) AllReadyH.nil
          go_simp
          go_wp2_with (go_at_call 95; refine (H1.out _ hd0).mono ?_; rintro e w1 ⟨rfl, b1⟩; have hd1 : Below wr.heap.size wr w1 := hd0.trans (b1.mono hd0.size))
          clear hHeld
          refine hK.out _ _ ?SR214 (fun hHeld => ?_)
          case SR214 => ((try dsimp only); first | (with_reducible exact KEEP.out _ hd1) | (with_reducible exact KEEP.out _ hd0))
          clear hK K
          refine wpAnyH_take (i := 14) (oi := _) (v := ?vR214) rfl (by kernel_rfl) (by kernel_rfl) (by kernel_rfl) (fun _ _ _ h => h) (Or.inl ⟨by rfl, ?yR214⟩) hHeld ?_
          case yR214 => (intro w hSw; (try dsimp only at hSw); go_simp <;> with_reducible rfl)
          try simp only [Act.put, List.getElem_toArray, List.getElem_cons_zero, List.getElem_cons_succ, List.setIfInBounds_toArray, List.set_cons_zero, List.set_cons_succ]
          refine wpAnyH_take (i := 15) (oi := _) (v := ?vR215) rfl (by kernel_rfl) (by kernel_rfl) (by kernel_rfl) (fun _ _ _ h => h) (Or.inl ⟨by rfl, ?yR215⟩) hHeld ?_
          case yR215 => (intro w hSw; (try dsimp only at hSw); go_simp <;> with_reducible rfl)
          try simp only [Act.put, List.getElem_toArray, List.getElem_cons_zero, List.getElem_cons_succ, List.setIfInBounds_toArray, List.set_cons_zero, List.set_cons_succ]
          refine wpAnyH_take (i := 16) (oi := _) (v := ?vR216) rfl (by kernel_rfl) (by kernel_rfl) (by kernel_rfl) (fun _ _ _ h => h) (Or.inl ⟨by rfl, ?yR216⟩) hHeld ?_
          case yR216 => (intro w hSw; (try dsimp only at hSw); go_simp <;> with_reducible rfl)
          try simp only [Act.put, List.getElem_toArray, List.getElem_cons_zero, List.getElem_cons_succ, List.setIfInBounds_toArray, List.set_cons_zero, List.set_cons_succ]
          refine wpAnyH_take (i := 17) (oi := _) (v := undef) rfl (by kernel_rfl) (by kernel_rfl) (by kernel_rfl) (fun _ _ _ h => h) (Or.inr ⟨by rfl, rfl⟩) hHeld ?_
          try simp only [Act.put, List.getElem_toArray, List.getElem_cons_zero, List.getElem_cons_succ, List.setIfInBounds_toArray, List.set_cons_zero, List.set_cons_succ]
          refine wpAnyH_take (i := 18) (oi := _) (v := undef) rfl (by kernel_rfl) (by kernel_rfl) (by kernel_rfl) (fun _ _ _ h => h) (Or.inr ⟨by rfl, rfl⟩) hHeld ?_
          try simp only [Act.put, List.getElem_toArray, List.getElem_cons_zero, List.getElem_cons_succ, List.setIfInBounds_toArray, List.set_cons_zero, List.set_cons_succ]
          refine wpAnyH_take (i := 19) (oi := _) (v := undef) rfl (by kernel_rfl) (by kernel_rfl) (by kernel_rfl) (fun _ _ _ h => h) (Or.inr ⟨by rfl, rfl⟩) hHeld ?_
          try simp only [Act.put, List.getElem_toArray, List.getElem_cons_zero, List.getElem_cons_succ, List.setIfInBounds_toArray, List.set_cons_zero, List.set_cons_succ]
          refine wpAnyH_take (i := 20) (oi := _) (v := undef) rfl (by kernel_rfl) (by kernel_rfl) (by kernel_rfl) (fun _ _ _ h => h) (Or.inr ⟨by rfl, rfl⟩) hHeld ?_
          try simp only [Act.put, List.getElem_toArray, List.getElem_cons_zero, List.getElem_cons_succ, List.setIfInBounds_toArray, List.set_cons_zero, List.set_cons_succ]
          refine wpAnyH_take (i := 21) (oi := _) (v := undef) rfl (by kernel_rfl) (by kernel_rfl) (by kernel_rfl) (fun _ _ _ h => h) (Or.inr ⟨by rfl, rfl⟩) hHeld ?_
          try simp only [Act.put, List.getElem_toArray, List.getElem_cons_zero, List.getElem_cons_succ, List.setIfInBounds_toArray, List.set_cons_zero, List.set_cons_succ]
          refine wpAnyH_take (i := 22) (oi := _) (v := undef) rfl (by kernel_rfl) (by kernel_rfl) (by kernel_rfl) (fun _ _ _ h => h) (Or.inr ⟨by rfl, rfl⟩) hHeld ?_
          try simp only [Act.put, List.getElem_toArray, List.getElem_cons_zero, List.getElem_cons_succ, List.setIfInBounds_toArray, List.set_cons_zero, List.set_cons_succ]
          refine wpAnyH_take (i := 23) (oi := _) (v := undef) rfl (by kernel_rfl) (by kernel_rfl) (by kernel_rfl) (fun _ _ _ h => h) (Or.inr ⟨by rfl, rfl⟩) hHeld ?_
          try simp only [Act.put, List.getElem_toArray, List.getElem_cons_zero, List.getElem_cons_succ, List.setIfInBounds_toArray, List.set_cons_zero, List.set_cons_succ]
          refine wpAnyH_take (i := 24) (oi := _) (v := undef) rfl (by kernel_rfl) (by kernel_rfl) (by kernel_rfl) (fun _ _ _ h => h) (Or.inr ⟨by rfl, rfl⟩) hHeld ?_
          try simp only [Act.put, List.getElem_toArray, List.getElem_cons_zero, List.getElem_cons_succ, List.setIfInBounds_toArray, List.set_cons_zero, List.set_cons_succ]
          refine wpAnyH_take (i := 25) (oi := _) (v := undef) rfl (by kernel_rfl) (by kernel_rfl) (by kernel_rfl) (fun _ _ _ h => h) (Or.inr ⟨by rfl, rfl⟩) hHeld ?_
          try simp only [Act.put, List.getElem_toArray, List.getElem_cons_zero, List.getElem_cons_succ, List.setIfInBounds_toArray, List.set_cons_zero, List.set_cons_succ]
          refine wpAnyH_take (i := 26) (oi := _) (v := undef) rfl (by kernel_rfl) (by kernel_rfl) (by kernel_rfl) (fun _ _ _ h => h) (Or.inr ⟨by rfl, rfl⟩) hHeld ?_
          try simp only [Act.put, List.getElem_toArray, List.getElem_cons_zero, List.getElem_cons_succ, List.setIfInBounds_toArray, List.set_cons_zero, List.set_cons_succ]
          refine wpAnyH_take (i := 27) (oi := _) (v := undef) rfl (by kernel_rfl) (by kernel_rfl) (by kernel_rfl) (fun _ _ _ h => h) (Or.inr ⟨by rfl, rfl⟩) hHeld ?_
          try simp only [Act.put, List.getElem_toArray, List.getElem_cons_zero, List.getElem_cons_succ, List.setIfInBounds_toArray, List.set_cons_zero, List.set_cons_succ]
          refine wpAnyH_take (i := 28) (oi := _) (v := undef) rfl (by kernel_rfl) (by kernel_rfl) (by kernel_rfl) (fun _ _ _ h => h) (Or.inr ⟨by rfl, rfl⟩) hHeld ?_
          try simp only [Act.put, List.getElem_toArray, List.getElem_cons_zero, List.getElem_cons_succ, List.setIfInBounds_toArray, List.set_cons_zero, List.set_cons_succ]
          refine wpAnyH_take (i := 29) (oi := _) (v := undef) rfl (by kernel_rfl) (by kernel_rfl) (by kernel_rfl) (fun _ _ _ h => h) (Or.inr ⟨by rfl, rfl⟩) hHeld ?_
          try simp only [Act.put, List.getElem_toArray, List.getElem_cons_zero, List.getElem_cons_succ, List.setIfInBounds_toArray, List.set_cons_zero, List.set_cons_succ]
          refine wpAnyH_take (i := 30) (oi := _) (v := undef) rfl (by kernel_rfl) (by kernel_rfl) (by kernel_rfl) (fun _ _ _ h => h) (Or.inr ⟨by rfl, rfl⟩) hHeld ?_
          try simp only [Act.put, List.getElem_toArray, List.getElem_cons_zero, List.getElem_cons_succ, List.setIfInBounds_toArray, List.set_cons_zero, List.set_cons_succ]
          refine wpAnyH_take (i := 31) (oi := _) (v := undef) rfl (by kernel_rfl) (by kernel_rfl) (by kernel_rfl) (fun _ _ _ h => h) (Or.inr ⟨by rfl, rfl⟩) hHeld ?_
          try simp only [Act.put, List.getElem_toArray, List.getElem_cons_zero, List.getElem_cons_succ, List.setIfInBounds_toArray, List.set_cons_zero, List.set_cons_succ]
          refine wpAnyH_take (i := 32) (oi := _) (v := undef) rfl (by kernel_rfl) (by kernel_rfl) (by kernel_rfl) (fun _ _ _ h => h) (Or.inr ⟨by rfl, rfl⟩) hHeld ?_
          try simp only [Act.put, List.getElem_toArray, List.getElem_cons_zero, List.getElem_cons_succ, List.setIfInBounds_toArray, List.set_cons_zero, List.set_cons_succ]
          refine wpAnyH_take (i := 33) (oi := _) (v := ?vR233) rfl (by kernel_rfl) (by kernel_rfl) (by kernel_rfl) (fun _ _ _ h => h) (Or.inl ⟨by rfl, ?yR233⟩) hHeld ?_
          case yR233 => (intro w hSw; (try dsimp only at hSw); go_simp <;> with_reducible rfl)
          try simp only [Act.put, List.getElem_toArray, List.getElem_cons_zero, List.getElem_cons_succ, List.setIfInBounds_toArray, List.set_cons_zero, List.set_cons_succ]
          refine wpAnyH_done (by kernel_rfl) ?_ _
          go_wp2_with fail
          go_ret
          exact ⟨by rw [HB.out (rowOk_no (HX.out))]; rfl, hbr.trans (hd1.mono hbr.size)⟩
        | true =>
          cases k with
          | zero =>
            have h1 := h0o rfl
            subst h1
            clear h0o hpv
            rw [Nat.zero_mul, Nat.add_zero] at e0 e1 e2 e3 e4
            have KEEP : Hid (∀ w1, Below wr.heap.size wr w1 → w1.cell? ⟨b, off, none⟩ = some (.string d.name) ∧ w1.cell? ⟨b, off + 1, none⟩ = some (.int .i64 d.vA) ∧ w1.cell? ⟨b, off + 2, none⟩ = some (.int .i64 d.vB) ∧ w1.cell? ⟨b, off + 3, none⟩ = some (.int .i64 d.vC) ∧ w1.cell? ⟨b, off + 4, none⟩ = some (.slice a0 d.vP.length cap0)) := fun w1 h => ⟨(h.cell (by simpa using hbb)).trans e0, (h.cell (by simpa using hbb)).trans e1, (h.cell (by simpa using hbb)).trans e2, (h.cell (by simpa using hbb)).trans e3, (h.cell (by simpa using hbb)).trans e4⟩
            clear e0 e1 e2 e3 e4
            go_wp2_with fail
            refine wp_region_held_drew (S := (fun w' => w'.cell? ⟨b, off, none⟩ = some (.string d.name) ∧ w'.cell? ⟨b, off + 1, none⟩ = some (.int .i64 d.vA) ∧ w'.cell? ⟨b, off + 2, none⟩ = some (.int .i64 d.vB) ∧ w'.cell? ⟨b, off + 3, none⟩ = some (.int .i64 d.vC) ∧ w'.cell? ⟨b, off + 4, none⟩ = some (.slice a0 d.vP.length cap0))) (by kernel_rfl) ?SR30 (fun hHeld => ?_)
            case SR30 => (first | (with_reducible exact KEEP.out _ hd1) | (with_reducible exact KEEP.out _ hd0))
            refine wpAnyH_take (i := 0) (oi := _) (v := ?vR30) rfl (by kernel_rfl) (by kernel_rfl) (by kernel_rfl) (fun _ _ _ h => h) (Or.inl ⟨by rfl, ?yR30⟩) hHeld ?_
            case yR30 => (intro w hSw; (try dsimp only at hSw); go_simp <;> with_reducible rfl)
            try simp only [Act.put, List.getElem_toArray, List.getElem_cons_zero, List.getElem_cons_succ, List.setIfInBounds_toArray, List.set_cons_zero, List.set_cons_succ]
            refine wpAnyH_take (i := 1) (oi := _) (v := ?vR31) rfl (by kernel_rfl) (by kernel_rfl) (by kernel_rfl) (fun _ _ _ h => h) (Or.inl ⟨by rfl, ?yR31⟩) hHeld ?_
            case yR31 => (intro w hSw; (try dsimp only at hSw); go_simp <;> with_reducible rfl)
            try simp only [Act.put, List.getElem_toArray, List.getElem_cons_zero, List.getElem_cons_succ, List.setIfInBounds_toArray, List.set_cons_zero, List.set_cons_succ]
            refine wpAnyH_take (i := 2) (oi := _) (v := ?vR32) rfl (by kernel_rfl) (by kernel_rfl) (by kernel_rfl) (fun _ _ _ h => h) (Or.inl ⟨by rfl, ?yR32⟩) hHeld ?_
            case yR32 => (intro w hSw; (try dsimp only at hSw); go_simp <;> with_reducible rfl)
            try simp only [Act.put, List.getElem_toArray, List.getElem_cons_zero, List.getElem_cons_succ, List.setIfInBounds_toArray, List.set_cons_zero, List.set_cons_succ]
            refine wpAnyH_take (i := 3) (oi := _) (v := ?vR33) rfl (by kernel_rfl) (by kernel_rfl) (by kernel_rfl) (fun _ _ _ h => h) (Or.inl ⟨by rfl, ?yR33⟩) hHeld ?_
            case yR33 => (intro w hSw; (try dsimp only at hSw); go_simp <;> with_reducible rfl)
            try simp only [Act.put, List.getElem_toArray, List.getElem_cons_zero, List.getElem_cons_succ, List.setIfInBounds_toArray, List.set_cons_zero, List.set_cons_succ]
            refine wpAnyH_take (i := 4) (oi := _) (v := ?vR34) rfl (by kernel_rfl) (by kernel_rfl) (by kernel_rfl) (fun _ _ _ h => h) (Or.inl ⟨by rfl, ?yR34⟩) hHeld ?_
            case yR34 => (intro w hSw; (try dsimp only at hSw); go_simp <;> with_reducible rfl)
            try simp only [Act.put, List.getElem_toArray, List.getElem_cons_zero, List.getElem_cons_succ, List.setIfInBounds_toArray, List.set_cons_zero, List.set_cons_succ]
            refine wpAnyH_ready (rs := [5]) (by kernel_rfl) (by simp) ?_
            refine AllReadyH.cons rfl (fun K hK => ?_) AllReadyH.nil
            go_simp
            go_wp2_with (go_at_call 94; refine (HN.out _).mono ?_; rintro e w' ⟨rfl, rfl⟩)
            clear hHeld
            refine hK.out _ _ ?SR36 (fun hHeld => ?_)
            case SR36 => ((try dsimp only); first | (with_reducible exact KEEP.out _ hd1) | (with_reducible exact KEEP.out _ hd0))
            clear hK K
            refine wpAnyH_take (i := 6) (oi := _) (v := ?vR36) rfl (by kernel_rfl) (by kernel_rfl) (by kernel_rfl) (fun _ _ _ h => h) (Or.inl ⟨by rfl, ?yR36⟩) hHeld ?_
            case yR36 => (intro w hSw; (try dsimp only at hSw); go_simp <;> with_reducible rfl)
            try simp only [Act.put, List.getElem_toArray, List.getElem_cons_zero, List.getElem_cons_succ, List.setIfInBounds_toArray, List.set_cons_zero, List.set_cons_succ]
            refine wpAnyH_take (i := 7) (oi := _) (v := ?vR37) rfl (by kernel_rfl) (by kernel_rfl) (by kernel_rfl) (fun _ _ _ h => h) (Or.inl ⟨by rfl, ?yR37⟩) hHeld ?_
            case yR37 => (intro w hSw; (try dsimp only at hSw); go_simp <;> with_reducible rfl)
            try simp only [Act.put, List.getElem_toArray, List.getElem_cons_zero, List.getElem_cons_succ, List.setIfInBounds_toArray, List.set_cons_zero, List.set_cons_succ]
            refine wpAnyH_take (i := 8) (oi := _) (v := ?vR38) rfl (by kernel_rfl) (by kernel_rfl) (by kernel_rfl) (fun _ _ _ h => h) (Or.inl ⟨by rfl, ?yR38⟩) hHeld ?_
            case yR38 => (intro w hSw; (try dsimp only at hSw); go_simp <;> with_reducible rfl)
            try simp only [Act.put, List.getElem_toArray, List.getElem_cons_zero, List.getElem_cons_succ, List.setIfInBounds_toArray, List.set_cons_zero, List.set_cons_succ]
            refine wpAnyH_take (i := 9) (oi := _) (v := ?vR39) rfl (by kernel_rfl) (by kernel_rfl) (by kernel_rfl) (fun _ _ _ h => h) (Or.inl ⟨by rfl, ?yR39⟩) hHeld ?_
            case yR39 => (intro w hSw; (try dsimp only at hSw); go_simp <;> with_reducible rfl)
            try simp only [Act.put, List.getElem_toArray, List.getElem_cons_zero, List.getElem_cons_succ, List.setIfInBounds_toArray, List.set_cons_zero, List.set_cons_succ]
            refine wpAnyH_take (i := 10) (oi := _) (v := ?vR310) rfl (by kernel_rfl) (by kernel_rfl) (by kernel_rfl) (fun _ _ _ h => h) (Or.inl ⟨by rfl, ?yR310⟩) hHeld ?_
            case yR310 => (intro w hSw; (try dsimp only at hSw); go_simp <;> with_reducible rfl)
            try simp only [Act.put, List.getElem_toArray, List.getElem_cons_zero, List.getElem_cons_succ, List.setIfInBounds_toArray, List.set_cons_zero, List.set_cons_succ]
            refine wpAnyH_take (i := 11) (oi := _) (v := ?vR311) rfl (by kernel_rfl) (by kernel_rfl) (by kernel_rfl) (fun _ _ _ h => h) (Or.inl ⟨by rfl, ?yR311⟩) hHeld ?_
            case yR311 => (intro w hSw; (try dsimp only at hSw); go_simp <;> with_reducible rfl)
            try simp only [Act.put, List.getElem_toArray, List.getElem_cons_zero, List.getElem_cons_succ, List.setIfInBounds_toArray, List.set_cons_zero, List.set_cons_succ]
            refine wpAnyH_take (i := 12) (oi := _) (v := ?vR312) rfl (by kernel_rfl) (by kernel_rfl) (by kernel_rfl) (fun _ _ _ h => h) (Or.inl ⟨by rfl, ?yR312⟩) hHeld ?_
            case yR312 => (intro w hSw; (try dsimp only at hSw); go_simp <;> with_reducible rfl)
            try simp only [Act.put, List.getElem_toArray, List.getElem_cons_zero, List.getElem_cons_succ, List.setIfInBounds_toArray, List.set_cons_zero, List.set_cons_succ]
            refine wpAnyH_ready (rs := [13]) (by kernel_rfl) (by simp) ?_
            refine AllReadyH.cons rfl (fun K hK => ?_) AllReadyH.nil
            go_simp
            go_wp2_with (go_at_call 95; refine (H1.out _ hd0).mono ?_; rintro e w1 ⟨rfl, b1⟩; have hd1 : Below wr.heap.size wr w1 := hd0.trans (b1.mono hd0.size))
            clear hHeld
            refine hK.out _ _ ?SR314 (fun hHeld => ?_)
            case SR314 => ((try dsimp only); first | (with_reducible exact KEEP.out _ hd1) | (with_reducible exact KEEP.out _ hd0))
            clear hK K
            refine wpAnyH_take (i := 14) (oi := _) (v := ?vR314) rfl (by kernel_rfl) (by kernel_rfl) (by kernel_rfl) (fun _ _ _ h => h) (Or.inl ⟨by rfl, ?yR314⟩) hHeld ?_
            case yR314 => (intro w hSw; (try dsimp only at hSw); go_simp <;> with_reducible rfl)
            try simp only [Act.put, List.getElem_toArray, List.getElem_cons_zero, List.getElem_cons_succ, List.setIfInBounds_toArray, List.set_cons_zero, List.set_cons_succ]
            refine wpAnyH_take (i := 15) (oi := _) (v := ?vR315) rfl (by kernel_rfl) (by kernel_rfl) (by kernel_rfl) (fun _ _ _ h => h) (Or.inl ⟨by rfl, ?yR315⟩) hHeld ?_
            case yR315 => (intro w hSw; (try dsimp only at hSw); go_simp <;> with_reducible rfl)
            try simp only [Act.put, List.getElem_toArray, List.getElem_cons_zero, List.getElem_cons_succ, List.setIfInBounds_toArray, List.set_cons_zero, List.set_cons_succ]
            refine wpAnyH_take (i := 16) (oi := _) (v := ?vR316) rfl (by kernel_rfl) (by kernel_rfl) (by kernel_rfl) (fun _ _ _ h => h) (Or.inl ⟨by rfl, ?yR316⟩) hHeld ?_
            case yR316 => (intro w hSw; (try dsimp only at hSw); go_simp <;> with_reducible rfl)
            try simp only [Act.put, List.getElem_toArray, List.getElem_cons_zero, List.getElem_cons_succ, List.setIfInBounds_toArray, List.set_cons_zero, List.set_cons_succ]
            refine wpAnyH_take (i := 17) (oi := _) (v := ?vR317) rfl (by kernel_rfl) (by kernel_rfl) (by kernel_rfl) (fun _ _ _ h => h) (Or.inl ⟨by rfl, ?yR317⟩) hHeld ?_
            case yR317 => (intro w hSw; (try dsimp only at hSw); go_simp <;> with_reducible rfl)
            try simp only [Act.put, List.getElem_toArray, List.getElem_cons_zero, List.getElem_cons_succ, List.setIfInBounds_toArray, List.set_cons_zero, List.set_cons_succ]
            refine wpAnyH_take (i := 18) (oi := _) (v := ?vR318) rfl (by kernel_rfl) (by kernel_rfl) (by kernel_rfl) (fun _ _ _ h => h) (Or.inl ⟨by rfl, ?yR318⟩) hHeld ?_
            case yR318 => (intro w hSw; (try dsimp only at hSw); go_simp <;> with_reducible rfl)
            try simp only [Act.put, List.getElem_toArray, List.getElem_cons_zero, List.getElem_cons_succ, List.setIfInBounds_toArray, List.set_cons_zero, List.set_cons_succ]
            refine wpAnyH_take (i := 19) (oi := _) (v := ?vR319) rfl (by kernel_rfl) (by kernel_rfl) (by kernel_rfl) (fun _ _ _ h => h) (Or.inl ⟨by rfl, ?yR319⟩) hHeld ?_
            case yR319 => (intro w hSw; (try dsimp only at hSw); go_simp <;> with_reducible rfl)
            try simp only [Act.put, List.getElem_toArray, List.getElem_cons_zero, List.getElem_cons_succ, List.setIfInBounds_toArray, List.set_cons_zero, List.set_cons_succ]
            refine wpAnyH_take (i := 20) (oi := _) (v := undef) rfl (by kernel_rfl) (by kernel_rfl) (by kernel_rfl) (fun _ _ _ h => h) (Or.inr ⟨by rfl, rfl⟩) hHeld ?_
            try simp only [Act.put, List.getElem_toArray, List.getElem_cons_zero, List.getElem_cons_succ, List.setIfInBounds_toArray, List.set_cons_zero, List.set_cons_succ]
            refine wpAnyH_take (i := 21) (oi := _) (v := undef) rfl (by kernel_rfl) (by kernel_rfl) (by kernel_rfl) (fun _ _ _ h => h) (Or.inr ⟨by rfl, rfl⟩) hHeld ?_
            try simp only [Act.put, List.getElem_toArray, List.getElem_cons_zero, List.getElem_cons_succ, List.setIfInBounds_toArray, List.set_cons_zero, List.set_cons_succ]
            refine wpAnyH_take (i := 22) (oi := _) (v := undef) rfl (by kernel_rfl) (by kernel_rfl) (by kernel_rfl) (fun _ _ _ h => h) (Or.inr ⟨by rfl, rfl⟩) hHeld ?_
            try simp only [Act.put, List.getElem_toArray, List.getElem_cons_zero, List.getElem_cons_succ, List.setIfInBounds_toArray, List.set_cons_zero, List.set_cons_succ]
            refine wpAnyH_take (i := 23) (oi := _) (v := undef) rfl (by kernel_rfl) (by kernel_rfl) (by kernel_rfl) (fun _ _ _ h => h) (Or.inr ⟨by rfl, rfl⟩) hHeld ?_
            try simp only [Act.put, List.getElem_toArray, List.getElem_cons_zero, List.getElem_cons_succ, List.setIfInBounds_toArray, List.set_cons_zero, List.set_cons_succ]
            refine wpAnyH_take (i := 24) (oi := _) (v := undef) rfl (by kernel_rfl) (by kernel_rfl) (by kernel_rfl) (fun _ _ _ h => h) (Or.inr ⟨by rfl, rfl⟩) hHeld ?_
            try simp only [Act.put, List.getElem_toArray, List.getElem_cons_zero, List.getElem_cons_succ, List.setIfInBounds_toArray, List.set_cons_zero, List.set_cons_succ]
            refine wpAnyH_take (i := 25) (oi := _) (v := undef) rfl (by kernel_rfl) (by kernel_rfl) (by kernel_rfl) (fun _ _ _ h => h) (Or.inr ⟨by rfl, rfl⟩) hHeld ?_
            try simp only [Act.put, List.getElem_toArray, List.getElem_cons_zero, List.getElem_cons_succ, List.setIfInBounds_toArray, List.set_cons_zero, List.set_cons_succ]
            refine wpAnyH_take (i := 26) (oi := _) (v := undef) rfl (by kernel_rfl) (by kernel_rfl) (by kernel_rfl) (fun _ _ _ h => h) (Or.inr ⟨by rfl, rfl⟩) hHeld ?_
            try simp only [Act.put, List.getElem_toArray, List.getElem_cons_zero, List.getElem_cons_succ, List.setIfInBounds_toArray, List.set_cons_zero, List.set_cons_succ]
            refine wpAnyH_take (i := 27) (oi := _) (v := undef) rfl (by kernel_rfl) (by kernel_rfl) (by kernel_rfl) (fun _ _ _ h => h) (Or.inr ⟨by rfl, rfl⟩) hHeld ?_
            try simp only [Act.put, List.getElem_toArray, List.getElem_cons_zero, List.getElem_cons_succ, List.setIfInBounds_toArray, List.set_cons_zero, List.set_cons_succ]
            refine wpAnyH_take (i := 28) (oi := _) (v := undef) rfl (by kernel_rfl) (by kernel_rfl) (by kernel_rfl) (fun _ _ _ h => h) (Or.inr ⟨by rfl, rfl⟩) hHeld ?_
            try simp only [Act.put, List.getElem_toArray, List.getElem_cons_zero, List.getElem_cons_succ, List.setIfInBounds_toArray, List.set_cons_zero, List.set_cons_succ]
            refine wpAnyH_take (i := 29) (oi := _) (v := undef) rfl (by kernel_rfl) (by kernel_rfl) (by kernel_rfl) (fun _ _ _ h => h) (Or.inr ⟨by rfl, rfl⟩) hHeld ?_
            try simp only [Act.put, List.getElem_toArray, List.getElem_cons_zero, List.getElem_cons_succ, List.setIfInBounds_toArray, List.set_cons_zero, List.set_cons_succ]
            refine wpAnyH_take (i := 30) (oi := _) (v := undef) rfl (by kernel_rfl) (by kernel_rfl) (by kernel_rfl) (fun _ _ _ h => h) (Or.inr ⟨by rfl, rfl⟩) hHeld ?_
            try simp only [Act.put, List.getElem_toArray, List.getElem_cons_zero, List.getElem_cons_succ, List.setIfInBounds_toArray, List.set_cons_zero, List.set_cons_succ]
            refine wpAnyH_take (i := 31) (oi := _) (v := undef) rfl (by kernel_rfl) (by kernel_rfl) (by kernel_rfl) (fun _ _ _ h => h) (Or.inr ⟨by rfl, rfl⟩) hHeld ?_
            try simp only [Act.put, List.getElem_toArray, List.getElem_cons_zero, List.getElem_cons_succ, List.setIfInBounds_toArray, List.set_cons_zero, List.set_cons_succ]
            refine wpAnyH_take (i := 32) (oi := _) (v := ?vR332) rfl (by kernel_rfl) (by kernel_rfl) (by kernel_rfl) (fun _ _ _ h => h) (Or.inl ⟨by rfl, ?yR332⟩) hHeld ?_
            case yR332 => (intro w hSw; (try dsimp only at hSw); go_simp <;> with_reducible rfl)
            try simp only [Act.put, List.getElem_toArray, List.getElem_cons_zero, List.getElem_cons_succ, List.setIfInBounds_toArray, List.set_cons_zero, List.set_cons_succ]
            refine wpAnyH_take (i := 33) (oi := _) (v := ?vR333) rfl (by kernel_rfl) (by kernel_rfl) (by kernel_rfl) (fun _ _ _ h => h) (Or.inl ⟨by rfl, ?yR333⟩) hHeld ?_
            case yR333 => (intro w hSw; (try dsimp only at hSw); go_simp <;> with_reducible rfl)
            try simp only [Act.put, List.getElem_toArray, List.getElem_cons_zero, List.getElem_cons_succ, List.setIfInBounds_toArray, List.set_cons_zero, List.set_cons_succ]
            refine wpAnyH_done (by kernel_rfl) ?_ _
            go_wp2_with fail
            go_roundw
            case rel => exact ⟨0 + 1, by omega, by go_num, HG.out (rowOk_first HX.out), hbr.trans (hd1.mono hbr.size)⟩
            case measure => simp [intOf]; omega
          | succ j =>
            obtain ⟨c, h1, e9⟩ := hpv j rfl
            subst h1
            clear h0o hpv
            have hj0 : (0 : Int) ≤ (j : Int) + 1 := by omega
            have hj1 : decide ((0 : Int) < (j : Int) + 1) = true := decide_eq_true (by omega)
            have hj2 : (j : Int) + 1 < (xs.length : Int) := by omega
            have hj3 : (j : Int) < (xs.length : Int) := by omega
            have hjw : IntKind.i64.wrap (j : Int) = (j : Int) := IntWalk.i64_in _ ⟨by omega, by omega⟩
            have KEEP : Hid (∀ w1, Below wr.heap.size wr w1 → w1.cell? ⟨b, off + (j + 1) * 5, none⟩ = some (.string d.name) ∧ w1.cell? ⟨b, off + (j + 1) * 5 + 1, none⟩ = some (.int .i64 d.vA) ∧ w1.cell? ⟨b, off + (j + 1) * 5 + 2, none⟩ = some (.int .i64 d.vB) ∧ w1.cell? ⟨b, off + (j + 1) * 5 + 3, none⟩ = some (.int .i64 d.vC) ∧ w1.cell? ⟨b, off + (j + 1) * 5 + 4, none⟩ = some (.slice a0 d.vP.length cap0) ∧ w1.cell? ⟨b, off + j * 5, none⟩ = some (.string c.name)) := fun w1 h => ⟨(h.cell (by simpa using hbb)).trans e0, (h.cell (by simpa using hbb)).trans e1, (h.cell (by simpa using hbb)).trans e2, (h.cell (by simpa using hbb)).trans e3, (h.cell (by simpa using hbb)).trans e4, (h.cell (by simpa using hbb)).trans e9⟩
            clear e0 e1 e2 e3 e4 e9
            go_wp2_with fail
            refine wp_region_held_drew (S := (fun w' => w'.cell? ⟨b, off + (j + 1) * 5, none⟩ = some (.string d.name) ∧ w'.cell? ⟨b, off + (j + 1) * 5 + 1, none⟩ = some (.int .i64 d.vA) ∧ w'.cell? ⟨b, off + (j + 1) * 5 + 2, none⟩ = some (.int .i64 d.vB) ∧ w'.cell? ⟨b, off + (j + 1) * 5 + 3, none⟩ = some (.int .i64 d.vC) ∧ w'.cell? ⟨b, off + (j + 1) * 5 + 4, none⟩ = some (.slice a0 d.vP.length cap0) ∧ w'.cell? ⟨b, off + j * 5, none⟩ = some (.string c.name))) (by kernel_rfl) ?SR40 (fun hHeld => ?_)
            case SR40 => (first | (with_reducible exact KEEP.out _ hd1) | (with_reducible exact KEEP.out _ hd0))
            refine wpAnyH_take (i := 0) (oi := _) (v := ?vR40) rfl (by kernel_rfl) (by kernel_rfl) (by kernel_rfl) (fun _ _ _ h => h) (Or.inl ⟨by rfl, ?yR40⟩) hHeld ?_
            case yR40 => (intro w hSw; (try dsimp only at hSw); go_simp <;> with_reducible rfl)
            try simp only [Act.put, List.getElem_toArray, List.getElem_cons_zero, List.getElem_cons_succ, List.setIfInBounds_toArray, List.set_cons_zero, List.set_cons_succ]
            refine wpAnyH_take (i := 1) (oi := _) (v := ?vR41) rfl (by kernel_rfl) (by kernel_rfl) (by kernel_rfl) (fun _ _ _ h => h) (Or.inl ⟨by rfl, ?yR41⟩) hHeld ?_
            case yR41 => (intro w hSw; (try dsimp only at hSw); go_simp <;> with_reducible rfl)
            try simp only [Act.put, List.getElem_toArray, List.getElem_cons_zero, List.getElem_cons_succ, List.setIfInBounds_toArray, List.set_cons_zero, List.set_cons_succ]
            refine wpAnyH_take (i := 2) (oi := _) (v := ?vR42) rfl (by kernel_rfl) (by kernel_rfl) (by kernel_rfl) (fun _ _ _ h => h) (Or.inl ⟨by rfl, ?yR42⟩) hHeld ?_
            case yR42 => (intro w hSw; (try dsimp only at hSw); go_simp <;> with_reducible rfl)
            try simp only [Act.put, List.getElem_toArray, List.getElem_cons_zero, List.getElem_cons_succ, List.setIfInBounds_toArray, List.set_cons_zero, List.set_cons_succ]
            refine wpAnyH_take (i := 3) (oi := _) (v := ?vR43) rfl (by kernel_rfl) (by kernel_rfl) (by kernel_rfl) (fun _ _ _ h => h) (Or.inl ⟨by rfl, ?yR43⟩) hHeld ?_
            case yR43 => (intro w hSw; (try dsimp only at hSw); go_simp <;> with_reducible rfl)
            try simp only [Act.put, List.getElem_toArray, List.getElem_cons_zero, List.getElem_cons_succ, List.setIfInBounds_toArray, List.set_cons_zero, List.set_cons_succ]
            refine wpAnyH_take (i := 4) (oi := _) (v := ?vR44) rfl (by kernel_rfl) (by kernel_rfl) (by kernel_rfl) (fun _ _ _ h => h) (Or.inl ⟨by rfl, ?yR44⟩) hHeld ?_
            case yR44 => (intro w hSw; (try dsimp only at hSw); go_simp <;> with_reducible rfl)
            try simp only [Act.put, List.getElem_toArray, List.getElem_cons_zero, List.getElem_cons_succ, List.setIfInBounds_toArray, List.set_cons_zero, List.set_cons_succ]
            refine wpAnyH_ready (rs := [5]) (by kernel_rfl) (by simp) ?_
            refine AllReadyH.cons rfl (fun K hK => ?_) AllReadyH.nil
            go_simp
            go_wp2_with (go_at_call 94; refine (HN.out _).mono ?_; rintro e w' ⟨rfl, rfl⟩)
            clear hHeld
            refine hK.out _ _ ?SR46 (fun hHeld => ?_)
            case SR46 => ((try dsimp only); first | (with_reducible exact KEEP.out _ hd1) | (with_reducible exact KEEP.out _ hd0))
            clear hK K
            refine wpAnyH_take (i := 6) (oi := _) (v := ?vR46) rfl (by kernel_rfl) (by kernel_rfl) (by kernel_rfl) (fun _ _ _ h => h) (Or.inl ⟨by rfl, ?yR46⟩) hHeld ?_
            case yR46 => (intro w hSw; (try dsimp only at hSw); go_simp <;> with_reducible rfl)
            try simp only [Act.put, List.getElem_toArray, List.getElem_cons_zero, List.getElem_cons_succ, List.setIfInBounds_toArray, List.set_cons_zero, List.set_cons_succ]
            refine wpAnyH_take (i := 7) (oi := _) (v := ?vR47) rfl (by kernel_rfl) (by kernel_rfl) (by kernel_rfl) (fun _ _ _ h => h) (Or.inl ⟨by rfl, ?yR47⟩) hHeld ?_
            case yR47 => (intro w hSw; (try dsimp only at hSw); go_simp <;> with_reducible rfl)
            try simp only [Act.put, List.getElem_toArray, List.getElem_cons_zero, List.getElem_cons_succ, List.setIfInBounds_toArray, List.set_cons_zero, List.set_cons_succ]
            refine wpAnyH_take (i := 8) (oi := _) (v := ?vR48) rfl (by kernel_rfl) (by kernel_rfl) (by kernel_rfl) (fun _ _ _ h => h) (Or.inl ⟨by rfl, ?yR48⟩) hHeld ?_
            case yR48 => (intro w hSw; (try dsimp only at hSw); go_simp <;> with_reducible rfl)
            try simp only [Act.put, List.getElem_toArray, List.getElem_cons_zero, List.getElem_cons_succ, List.setIfInBounds_toArray, List.set_cons_zero, List.set_cons_succ]
            refine wpAnyH_take (i := 9) (oi := _) (v := ?vR49) rfl (by kernel_rfl) (by kernel_rfl) (by kernel_rfl) (fun _ _ _ h => h) (Or.inl ⟨by rfl, ?yR49⟩) hHeld ?_
            case yR49 => (intro w hSw; (try dsimp only at hSw); go_simp <;> with_reducible rfl)
            try simp only [Act.put, List.getElem_toArray, List.getElem_cons_zero, List.getElem_cons_succ, List.setIfInBounds_toArray, List.set_cons_zero, List.set_cons_succ]
            refine wpAnyH_take (i := 10) (oi := _) (v := ?vR410) rfl (by kernel_rfl) (by kernel_rfl) (by kernel_rfl) (fun _ _ _ h => h) (Or.inl ⟨by rfl, ?yR410⟩) hHeld ?_
            case yR410 => (intro w hSw; (try dsimp only at hSw); go_simp <;> with_reducible rfl)
            try simp only [Act.put, List.getElem_toArray, List.getElem_cons_zero, List.getElem_cons_succ, List.setIfInBounds_toArray, List.set_cons_zero, List.set_cons_succ]
            refine wpAnyH_take (i := 11) (oi := _) (v := ?vR411) rfl (by kernel_rfl) (by kernel_rfl) (by kernel_rfl) (fun _ _ _ h => h) (Or.inl ⟨by rfl, ?yR411⟩) hHeld ?_
            case yR411 => (intro w hSw; (try dsimp only at hSw); go_simp <;> with_reducible rfl)
            try simp only [Act.put, List.getElem_toArray, List.getElem_cons_zero, List.getElem_cons_succ, List.setIfInBounds_toArray, List.set_cons_zero, List.set_cons_succ]
            refine wpAnyH_take (i := 12) (oi := _) (v := ?vR412) rfl (by kernel_rfl) (by kernel_rfl) (by kernel_rfl) (fun _ _ _ h => h) (Or.inl ⟨by rfl, ?yR412⟩) hHeld ?_
            case yR412 => (intro w hSw; (try dsimp only at hSw); go_simp <;> with_reducible rfl)
            try simp only [Act.put, List.getElem_toArray, List.getElem_cons_zero, List.getElem_cons_succ, List.setIfInBounds_toArray, List.set_cons_zero, List.set_cons_succ]
            refine wpAnyH_ready (rs := [13]) (by kernel_rfl) (by simp) ?_
            refine AllReadyH.cons rfl (fun K hK => ?_) AllReadyH.nil
            go_simp
            go_wp2_with (go_at_call 95; refine (H1.out _ hd0).mono ?_; rintro e w1 ⟨rfl, b1⟩; have hd1 : Below wr.heap.size wr w1 := hd0.trans (b1.mono hd0.size))
            clear hHeld
            refine hK.out _ _ ?SR414 (fun hHeld => ?_)
            case SR414 => ((try dsimp only); first | (with_reducible exact KEEP.out _ hd1) | (with_reducible exact KEEP.out _ hd0))
            clear hK K
            refine wpAnyH_take (i := 14) (oi := _) (v := ?vR414) rfl (by kernel_rfl) (by kernel_rfl) (by kernel_rfl) (fun _ _ _ h => h) (Or.inl ⟨by rfl, ?yR414⟩) hHeld ?_
            case yR414 => (intro w hSw; (try dsimp only at hSw); go_simp <;> with_reducible rfl)
            try simp only [Act.put, List.getElem_toArray, List.getElem_cons_zero, List.getElem_cons_succ, List.setIfInBounds_toArray, List.set_cons_zero, List.set_cons_succ]
            refine wpAnyH_take (i := 15) (oi := _) (v := ?vR415) rfl (by kernel_rfl) (by kernel_rfl) (by kernel_rfl) (fun _ _ _ h => h) (Or.inl ⟨by rfl, ?yR415⟩) hHeld ?_
            case yR415 => (intro w hSw; (try dsimp only at hSw); go_simp <;> with_reducible rfl)
            try simp only [Act.put, List.getElem_toArray, List.getElem_cons_zero, List.getElem_cons_succ, List.setIfInBounds_toArray, List.set_cons_zero, List.set_cons_succ]
            refine wpAnyH_take (i := 16) (oi := _) (v := ?vR416) rfl (by kernel_rfl) (by kernel_rfl) (by kernel_rfl) (fun _ _ _ h => h) (Or.inl ⟨by rfl, ?yR416⟩) hHeld ?_
            case yR416 => (intro w hSw; (try dsimp only at hSw); go_simp <;> with_reducible rfl)
            try simp only [Act.put, List.getElem_toArray, List.getElem_cons_zero, List.getElem_cons_succ, List.setIfInBounds_toArray, List.set_cons_zero, List.set_cons_succ]
            refine wpAnyH_take (i := 17) (oi := _) (v := ?vR417) rfl (by kernel_rfl) (by kernel_rfl) (by kernel_rfl) (fun _ _ _ h => h) (Or.inl ⟨by rfl, ?yR417⟩) hHeld ?_
            case yR417 => (intro w hSw; (try dsimp only at hSw); go_simp <;> with_reducible rfl)
            try simp only [Act.put, List.getElem_toArray, List.getElem_cons_zero, List.getElem_cons_succ, List.setIfInBounds_toArray, List.set_cons_zero, List.set_cons_succ]
            refine wpAnyH_take (i := 18) (oi := _) (v := ?vR418) rfl (by kernel_rfl) (by kernel_rfl) (by kernel_rfl) (fun _ _ _ h => h) (Or.inl ⟨by rfl, ?yR418⟩) hHeld ?_
            case yR418 => (intro w hSw; (try dsimp only at hSw); go_simp <;> with_reducible rfl)
            try simp only [Act.put, List.getElem_toArray, List.getElem_cons_zero, List.getElem_cons_succ, List.setIfInBounds_toArray, List.set_cons_zero, List.set_cons_succ]
            refine wpAnyH_take (i := 19) (oi := _) (v := ?vR419) rfl (by kernel_rfl) (by kernel_rfl) (by kernel_rfl) (fun _ _ _ h => h) (Or.inl ⟨by rfl, ?yR419⟩) hHeld ?_
            case yR419 => (intro w hSw; (try dsimp only at hSw); go_simp <;> with_reducible rfl)
            try simp only [Act.put, List.getElem_toArray, List.getElem_cons_zero, List.getElem_cons_succ, List.setIfInBounds_toArray, List.set_cons_zero, List.set_cons_succ]
            refine wpAnyH_take (i := 20) (oi := _) (v := ?vR420) rfl (by kernel_rfl) (by kernel_rfl) (by kernel_rfl) (fun _ _ _ h => h) (Or.inl ⟨by rfl, ?yR420⟩) hHeld ?_
            case yR420 => (intro w hSw; (try dsimp only at hSw); go_simp <;> with_reducible rfl)
            try simp only [Act.put, List.getElem_toArray, List.getElem_cons_zero, List.getElem_cons_succ, List.setIfInBounds_toArray, List.set_cons_zero, List.set_cons_succ]
            refine wpAnyH_take (i := 21) (oi := _) (v := ?vR421) rfl (by kernel_rfl) (by kernel_rfl) (by kernel_rfl) (fun _ _ _ h => h) (Or.inl ⟨by rfl, ?yR421⟩) hHeld ?_
            case yR421 => (intro w hSw; (try dsimp only at hSw); go_simp <;> with_reducible rfl)
            try simp only [Act.put, List.getElem_toArray, List.getElem_cons_zero, List.getElem_cons_succ, List.setIfInBounds_toArray, List.set_cons_zero, List.set_cons_succ]
            refine wpAnyH_take (i := 22) (oi := _) (v := ?vR422) rfl (by kernel_rfl) (by kernel_rfl) (by kernel_rfl) (fun _ _ _ h => h) (Or.inl ⟨by rfl, ?yR422⟩) hHeld ?_
            case yR422 => (intro w hSw; (try dsimp only at hSw); go_simp <;> with_reducible rfl)
            try simp only [Act.put, List.getElem_toArray, List.getElem_cons_zero, List.getElem_cons_succ, List.setIfInBounds_toArray, List.set_cons_zero, List.set_cons_succ]
            refine wpAnyH_take (i := 23) (oi := _) (v := ?vR423) rfl (by kernel_rfl) (by kernel_rfl) (by kernel_rfl) (fun _ _ _ h => h) (Or.inl ⟨by rfl, ?yR423⟩) hHeld ?_
            case yR423 => (intro w hSw; (try dsimp only at hSw); go_simp <;> with_reducible rfl)
            try simp only [Act.put, List.getElem_toArray, List.getElem_cons_zero, List.getElem_cons_succ, List.setIfInBounds_toArray, List.set_cons_zero, List.set_cons_succ]
            refine wpAnyH_take (i := 24) (oi := _) (v := ?vR424) rfl (by kernel_rfl) (by kernel_rfl) (by kernel_rfl) (fun _ _ _ h => h) (Or.inl ⟨by rfl, ?yR424⟩) hHeld ?_
            case yR424 => (intro w hSw; (try dsimp only at hSw); go_simp <;> with_reducible rfl)
            try simp only [Act.put, List.getElem_toArray, List.getElem_cons_zero, List.getElem_cons_succ, List.setIfInBounds_toArray, List.set_cons_zero, List.set_cons_succ]
            refine wpAnyH_take (i := 25) (oi := _) (v := ?vR425) rfl (by kernel_rfl) (by kernel_rfl) (by kernel_rfl) (fun _ _ _ h => h) (Or.inl ⟨by rfl, ?yR425⟩) hHeld ?_
            case yR425 => (intro w hSw; (try dsimp only at hSw); go_simp <;> with_reducible rfl)
            try simp only [Act.put, List.getElem_toArray, List.getElem_cons_zero, List.getElem_cons_succ, List.setIfInBounds_toArray, List.set_cons_zero, List.set_cons_succ]
            refine wpAnyH_take (i := 26) (oi := _) (v := ?vR426) rfl (by kernel_rfl) (by kernel_rfl) (by kernel_rfl) (fun _ _ _ h => h) (Or.inl ⟨by rfl, ?yR426⟩) hHeld ?_
            case yR426 => (intro w hSw; (try dsimp only at hSw); go_simp <;> with_reducible rfl)
            try simp only [Act.put, List.getElem_toArray, List.getElem_cons_zero, List.getElem_cons_succ, List.setIfInBounds_toArray, List.set_cons_zero, List.set_cons_succ]
            refine wpAnyH_take (i := 27) (oi := _) (v := ?vR427) rfl (by kernel_rfl) (by kernel_rfl) (by kernel_rfl) (fun _ _ _ h => h) (Or.inl ⟨by rfl, ?yR427⟩) hHeld ?_
            case yR427 => (intro w hSw; (try dsimp only at hSw); go_simp <;> with_reducible rfl)
            try simp only [Act.put, List.getElem_toArray, List.getElem_cons_zero, List.getElem_cons_succ, List.setIfInBounds_toArray, List.set_cons_zero, List.set_cons_succ]
            refine wpAnyH_take (i := 28) (oi := _) (v := ?vR428) rfl (by kernel_rfl) (by kernel_rfl) (by kernel_rfl) (fun _ _ _ h => h) (Or.inl ⟨by rfl, ?yR428⟩) hHeld ?_
            case yR428 => (intro w hSw; (try dsimp only at hSw); go_simp <;> with_reducible rfl)
            try simp only [Act.put, List.getElem_toArray, List.getElem_cons_zero, List.getElem_cons_succ, List.setIfInBounds_toArray, List.set_cons_zero, List.set_cons_succ]
            refine wpAnyH_take (i := 29) (oi := _) (v := ?vR429) rfl (by kernel_rfl) (by kernel_rfl) (by kernel_rfl) (fun _ _ _ h => h) (Or.inl ⟨by rfl, ?yR429⟩) hHeld ?_
            case yR429 => (intro w hSw; (try dsimp only at hSw); go_simp <;> with_reducible rfl)
            try simp only [Act.put, List.getElem_toArray, List.getElem_cons_zero, List.getElem_cons_succ, List.setIfInBounds_toArray, List.set_cons_zero, List.set_cons_succ]
            refine wpAnyH_take (i := 30) (oi := _) (v := ?vR430) rfl (by kernel_rfl) (by kernel_rfl) (by kernel_rfl) (fun _ _ _ h => h) (Or.inl ⟨by rfl, ?yR430⟩) hHeld ?_
            case yR430 => (intro w hSw; (try dsimp only at hSw); go_simp <;> with_reducible rfl)
            try simp only [Act.put, List.getElem_toArray, List.getElem_cons_zero, List.getElem_cons_succ, List.setIfInBounds_toArray, List.set_cons_zero, List.set_cons_succ]
            refine wpAnyH_take (i := 31) (oi := _) (v := ?vR431) rfl (by kernel_rfl) (by kernel_rfl) (by kernel_rfl) (fun _ _ _ h => h) (Or.inl ⟨by rfl, ?yR431⟩) hHeld ?_
            case yR431 => (intro w hSw; (try dsimp only at hSw); go_simp <;> with_reducible rfl)
            try simp only [Act.put, List.getElem_toArray, List.getElem_cons_zero, List.getElem_cons_succ, List.setIfInBounds_toArray, List.set_cons_zero, List.set_cons_succ]
            refine wpAnyH_take (i := 32) (oi := _) (v := ?vR432) rfl (by kernel_rfl) (by kernel_rfl) (by kernel_rfl) (fun _ _ _ h => h) (Or.inl ⟨by rfl, ?yR432⟩) hHeld ?_
            case yR432 => (intro w hSw; (try dsimp only at hSw); go_simp <;> with_reducible rfl)
            try simp only [Act.put, List.getElem_toArray, List.getElem_cons_zero, List.getElem_cons_succ, List.setIfInBounds_toArray, List.set_cons_zero, List.set_cons_succ]
            refine wpAnyH_take (i := 33) (oi := _) (v := ?vR433) rfl (by kernel_rfl) (by kernel_rfl) (by kernel_rfl) (fun _ _ _ h => h) (Or.inl ⟨by rfl, ?yR433⟩) hHeld ?_
            case yR433 => (intro w hSw; (try dsimp only at hSw); go_simp <;> with_reducible rfl)
            try simp only [Act.put, List.getElem_toArray, List.getElem_cons_zero, List.getElem_cons_succ, List.setIfInBounds_toArray, List.set_cons_zero, List.set_cons_succ]
            refine wpAnyH_done (by kernel_rfl) ?_ _
            go_wp2_with fail
            · have hlx : (!Op.bytesLess c.name.toList d.name.toList) = true := by assumption
              go_ret
              exact ⟨by rw [HB.out (rowOk_less (by simpa using hlx))]; rfl, hbr.trans (hd1.mono hbr.size)⟩
            · have hlx : (!Op.bytesLess c.name.toList d.name.toList) = false := by assumption
              go_roundw
              case rel => exact ⟨j + 1 + 1, by omega, by go_num, HG.out (by rw [rowOk_some HX.out]; simpa using hlx), hbr.trans (hd1.mono hbr.size)⟩
              case measure => simp [intOf]; omega
    · have he : k = xs.length := by omega
      subst he
      have HE : Hid (Q = true) := HQ.out.trans hh.out
      clear ha hh HQ
      by_cases hm : xs.length ≤ 12
      · have hm' : (xs.length : Int) ≤ 12 := by omega
        go_wp2_with fail
        go_ret
        exact ⟨by first | rfl | (rw [HE.out, decide_eq_true hm]; rfl) | (rw [HE.out, decide_eq_true hm]; simp [hm]; done) | rfl | simp [hm] | (simp; omega), hbr⟩
      · have hm' : ¬ (xs.length : Int) ≤ 12 := by omega
        go_wp2_with fail
        go_ret
        exact ⟨by first | rfl | (rw [HE.out, decide_eq_false hm]; rfl) | rfl | simp [hm] | (simp; omega), hbr⟩
end Go.Proofs.YtlfmefojcmpfeaaGreatDoor

/-! What ParseVer answers, the specification's: as before, and besides that it lies in blocks of the call's own; condition: at most 2 to the 20 bytes. -/
namespace Go.Proofs.YtlfmefojcmpfeaaGreatDoor
open Go.RowKit
set_option linter.unusedSimpArgs false
set_option linter.unusedVariables false

set_option maxHeartbeats 4000000 in
set_option maxRecDepth 100000 in
theorem specParseN_c (s : ByteArray) (hs : s.size ≤ 1048576) (w : World) :
    Calls Tryz.prog 128 #[.string s] w fun e w' => ∃ u, e = .returned (verOut s u) ∧ w'.ownsRow w.heap.size 9 1 u (resP s).length (strsV (resP s)) ∧ Below w.heap.size w w' := by
  obtain ⟨A0, B0⟩ := four_two w 30 30 (.int .i64 0) (.int .i64 0) (.int .i64 0) (.slice none 0 0) (.int .i64 0) (.int .i64 0) (.int .i64 0) (.slice none 0 0)
  have hbW := two_new (w := w) (.cells #[.int .i64 0, .int .i64 0, .int .i64 0, .slice none 0 0] 30) (.cells #[.int .i64 0, .int .i64 0, .int .i64 0, .slice none 0 0] 30)
  go_enter Tryz.func128, Tryz.ntmps128
  go_wp2
  go_loop [5] (fun vi => ∃ k : Nat, k ≤ s.size ∧ vi = .int .i64 (k : Int) ∧ Hid (∀ j, j < k → ¬ ((s.data[j]!).toNat : Int) = 45)) (fun vi => s.size - (intOf vi).toNat)
  case atStart => exact ⟨0, Nat.zero_le _, rfl, fun j hj => by omega⟩
  case round =>
    obtain ⟨k, hk, rfl, hh⟩ := hrel
    by_cases hlt : k < s.size
    · have hki : (k : Int) < (s.size : Int) := by omega
      by_cases h45 : ((s[k]).toNat : Int) = 45
      · have e45 : (((s[k]).toNat : Int) != 45) = false := by simpa using h45
        have HD : Hid (k < s.size → ((s.data[k]!).toNat : Int) = 45) := fun _ => by rw [byteBang s k hlt]; exact h45
        have hz : (s.extract (k + 1) s.size).size = s.size - (k + 1) := vsize s (k + 1) s.size (by omega) (Nat.le_refl _)
        obtain ⟨P, hP⟩ : ∃ P, P = splitS (s.extract (k + 1) s.size) 46 := ⟨_, rfl⟩
        have HP : Hid (P = if k < s.size then splitS (s.extract (k + 1) s.size) 46 else []) := by show _ = _; rw [hP, if_pos hlt]
        have HB : Hid (bulkS P ≤ 1048576) := by show _ ≤ _; rw [hP, vsplitS_bulk, hz]; omega
        have HSp : Hid (∀ w1, Calls Tryz.prog 127 #[.string (s.extract (k + 1) s.size), .int .u8 46] w1 fun e w' => ∃ v, e = .returned v ∧ w'.ownsRow w1.heap.size 9 1 v P.length (strsV P) ∧ Below w1.heap.size w1 w') := fun w1 => by rw [hP]; exact specSplit_c _ 46 w1 (by omega)
        clear h45 hz hP
        obtain ⟨L, hL⟩ : ∃ L, L = splitS (s.extract 0 k) 46 := ⟨_, rfl⟩
        have HL : Hid (L = splitS (s.extract 0 k) 46) := hL
        have hLz : (s.extract 0 k).size = k := by rw [vsize s 0 k (Nat.zero_le _) (by omega)]; omega
        have HLB : Hid (bulkS L ≤ 1048577) := by show _ ≤ _; rw [hL, vsplitS_bulk, hLz]; omega
        have HSL : Hid (∀ w1, Calls Tryz.prog 127 #[.string (s.extract 0 k), .int .u8 46] w1 fun e w' => ∃ v, e = .returned v ∧ w'.ownsRow w1.heap.size 9 1 v L.length (strsV L) ∧ Below w1.heap.size w1 w') := fun w1 => by rw [hL]; exact specSplit_c (s.extract 0 k) 46 w1 (by rw [hLz]; omega)
        clear hL hLz
        have hsW : ((w.alloc (.cells #[.int .i64 0, .int .i64 0, .int .i64 0, .slice none 0 0] 30)).alloc (.cells #[.int .i64 0, .int .i64 0, .int .i64 0, .slice none 0 0] 30)).heap.size = w.heap.size + 1 + 1 := by simp
        generalize ((w.alloc (.cells #[.int .i64 0, .int .i64 0, .int .i64 0, .slice none 0 0] 30)).alloc (.cells #[.int .i64 0, .int .i64 0, .int .i64 0, .slice none 0 0] 30)) = W0 at A0 B0 hbW hsW ⊢
        go_wp2_with fail
        go_at_call 127
        refine (HSp.out _).mono ?_
        rintro e w1 ⟨uP, rfl, o1, b1⟩
        obtain ⟨uq, uc, huP⟩ : ∃ q c, uP = .slice q P.length c := by obtain ⟨q, c, h, _⟩ := reads_of_owns o1; exact ⟨q, c, by simpa using h⟩
        rw [hsW] at o1
        have A1' := A0.keep b1
        have B1' := B0.keep b1
        obtain ⟨y0, y1, y2, y3⟩ := B1'.cells
        have fy := B1'.frozen 3
        have A1 := (Only.set (R := w.heap.size + 1) (base := w.heap.size + 1) w1 3 uP).four A1' (by omega) (by omega)
        have B1 := (four_set B1' uP).2.2.2
        have o1s := owns_set o1 (p := ⟨w.heap.size + 1, 3, none⟩) (by simp) uP
        have RP := o1s
        have HPB : Hid (∀ bl, uP.ownBlock = some bl → w.heap.size + 1 < bl) := fun bl h => by have := (o1.lt bl h).1; omega
        have hB1 : Below w.heap.size w (w1.setCell ⟨w.heap.size + 1, 3, none⟩ uP) := (hbW.trans (b1.mono hbW.size)).setCell (by simp) _
        subst huP
        clear o1 o1s HSp hbW A0 B0 b1 A1'
        go_wp2_with fail
        clear y0 y1 y2 y3 fy B1'
        generalize w1.setCell ⟨w.heap.size + 1, 3, none⟩ (.slice uq P.length uc) = W1 at A1 B1 RP hB1 ⊢
        generalize (Value.slice uq P.length uc) = uP at B1 RP HPB ⊢
        obtain ⟨x0, x1, x2, x3⟩ := A1.cells
        have f1 := A1.frozen
        go_at_call 127
        refine (HSL.out W1).mono ?_
        rintro e w2 ⟨vl, rfl, o2, b2⟩
        have A2 := A1.keep b2
        have B2 := B1.keep b2
        have RP2 := owns_of_below RP b2
        have hw2 := hB1.trans (b2.mono hB1.size)
        obtain ⟨z0, z1, z2, z3⟩ := A2.cells
        have fz := A2.frozen
        obtain ⟨y0, y1, y2, y3⟩ := B2.cells
        have fy := B2.frozen
        clear A1 B1 RP x0 x1 x2 x3 f1 HSL b2
        by_cases h3 : L.length = 3
        · obtain ⟨t0, t1, t2, hL3⟩ := three_of h3
          have hlz : ∀ t ∈ L, t.size ≤ maxLen := fun t ht => by have := size_of_bulk ht; have := HLB.out; unfold maxLen; omega
          have hall : resAll s = if L.all (fun t => numGood t 9999) && decide (L.length = 3) && P.all partB && decide (P.length ≤ 3) then some (L.map (fun t => numOut t 9999), P) else none := res_spec s k hk HD.out hh.out L P HL.out HP.out
          subst hL3
          have hz0 := hlz t0 (by simp)
          have hz1 := hlz t1 (by simp)
          have hz2 := hlz t2 (by simp)
          obtain ⟨gl, cl, hvl⟩ : ∃ g cap, vl = .slice (some ⟨g, 0, none⟩) 3 cap := by
            rcases o2.2 with ⟨_, h⟩ | ⟨g, cap, cur, hv, _⟩
            · simp at h
            · exact ⟨g, cap, hv⟩
          subst hvl
          have l0 : w2.cell? ⟨gl, 0, none⟩ = some (.string t0) := by rw [o2.cellAt 0 (by simp)]; rfl
          have l1 : w2.cell? ⟨gl, 1, none⟩ = some (.string t1) := by rw [o2.cellAt 1 (by simp)]; rfl
          have l2 : w2.cell? ⟨gl, 2, none⟩ = some (.string t2) := by rw [o2.cellAt 2 (by simp)]; rfl
          have hall2 : resAll s = if numGood t0 9999 && (numGood t1 9999 && numGood t2 9999) && P.all partB && decide (P.length ≤ 3) then some ([numOut t0 9999, numOut t1 9999, numOut t2 9999], P) else none := by rw [hall]; simp
          have HALL : Hid (resAll s = if numGood t0 9999 && (numGood t1 9999 && numGood t2 9999) && P.all partB && decide (P.length ≤ 3) then some ([numOut t0 9999, numOut t1 9999, numOut t2 9999], P) else none) := hall2
          obtain ⟨m0, hm0⟩ : ∃ m, m = numOut t0 9999 := ⟨_, rfl⟩
          obtain ⟨m1, hm1⟩ : ∃ m, m = numOut t1 9999 := ⟨_, rfl⟩
          obtain ⟨m2, hm2⟩ : ∃ m, m = numOut t2 9999 := ⟨_, rfl⟩
          have N0 : Hid (∀ w1, Calls Tryz.prog 200 #[.string t0, .int .i64 9999] w1 fun e w' => e = .returned (.tuple #[.int .i64 m0, .bool (numGood t0 9999)]) ∧ w1 = w') := fun w1 => by rw [hm0]; exact specNum_c t0 9999 hz0 w1
          have N1 : Hid (∀ w1, Calls Tryz.prog 200 #[.string t1, .int .i64 9999] w1 fun e w' => e = .returned (.tuple #[.int .i64 m1, .bool (numGood t1 9999)]) ∧ w1 = w') := fun w1 => by rw [hm1]; exact specNum_c t1 9999 hz1 w1
          have N2 : Hid (∀ w1, Calls Tryz.prog 200 #[.string t2, .int .i64 9999] w1 fun e w' => e = .returned (.tuple #[.int .i64 m2, .bool (numGood t2 9999)]) ∧ w1 = w') := fun w1 => by rw [hm2]; exact specNum_c t2 9999 hz2 w1
          have I0 : Hid (numGood t0 9999 = true → inB m0 0 9999 = true) := fun h => by rw [hm0]; exact num_in h
          have I1 : Hid (numGood t1 9999 = true → inB m1 0 9999 = true) := fun h => by rw [hm1]; exact num_in h
          have I2 : Hid (numGood t2 9999 = true → inB m2 0 9999 = true) := fun h => by rw [hm2]; exact num_in h
          rw [← hm0, ← hm1, ← hm2] at HALL
          have B3 := (four_set ((four_set ((four_set B2 (.int .i64 m0)).1) (.int .i64 m1)).2.1) (.int .i64 m2)).2.2.1
          have A3 : Four (((w2.setCell ⟨w.heap.size + 1, 0, none⟩ (.int .i64 m0)).setCell ⟨w.heap.size + 1, 1, none⟩ (.int .i64 m1)).setCell ⟨w.heap.size + 1, 2, none⟩ (.int .i64 m2)) w.heap.size 30 (.int .i64 0) (.int .i64 0) (.int .i64 0) (.slice none 0 0) :=
            ((Only.set (R := w.heap.size + 1) (base := w.heap.size + 1) w2 0 (.int .i64 m0)).trans ((Only.set _ 1 (.int .i64 m1)).trans (Only.set _ 2 (.int .i64 m2)))).four A2 (by omega) (by omega)
          have hw3 : Below w.heap.size w (((w2.setCell ⟨w.heap.size + 1, 0, none⟩ (.int .i64 m0)).setCell ⟨w.heap.size + 1, 1, none⟩ (.int .i64 m1)).setCell ⟨w.heap.size + 1, 2, none⟩ (.int .i64 m2)) := ((hw2.setCell (by simp) _).setCell (by simp) _).setCell (by simp) _
          have RP3 := owns_set (owns_set (owns_set RP2 (p := ⟨w.heap.size + 1, 0, none⟩) (by simp) (.int .i64 m0)) (p := ⟨w.heap.size + 1, 1, none⟩) (by simp) (.int .i64 m1)) (p := ⟨w.heap.size + 1, 2, none⟩) (by simp) (.int .i64 m2)
          obtain ⟨uq, un, uc, hup⟩ : ∃ q n c, uP = .slice q n c := by obtain ⟨q, c, h, _⟩ := reads_of_owns RP2; exact ⟨_, _, _, h⟩
          subst hup
          clear hall hall2 hm0 hm1 hm2 hlz o2 HL HP RP2 HD hh
          go_wp2_with fail
          go_at_call 200
          refine (N0.out _).mono ?_
          rintro e w' ⟨rfl, rfl⟩
          go_wp2_with fail
          go_at_call 200
          refine (N1.out _).mono ?_
          rintro e w' ⟨rfl, rfl⟩
          go_wp2_with fail
          go_at_call 200
          refine (N2.out _).mono ?_
          rintro e w' ⟨rfl, rfl⟩
          clear N0 N1 N2
          obtain ⟨a0, a1, a2, a3⟩ := A3.cells
          have fa := A3.frozen
          obtain ⟨b0, b1, b2, b3⟩ := B3.cells
          clear l0 l1 l2
          cases hg0 : numGood t0 9999 with
          | false =>
            have hnone : resAll s = none := by rw [HALL.out, hg0]; rfl
            obtain ⟨ho1, ho2⟩ := out_none hnone
            go_wp2_with fail
            refine bodyPost_ret (v := .tuple #[.agg #[.int .i64 0, .int .i64 0, .int .i64 0, .slice none 0 0], .bool false]) (by simp [results, Tryz.results128, go_sem, a0, a1, a2, a3]) rfl ⟨.slice none 0 0, by rw [ho1], ?_, ?_⟩
            · rw [ho2]; exact World.ownsRow_nil _ _ _ _
            · exact (((hw3.setCell (by simp) _).setCell (by simp) _).setCell (by simp) _).setCell (by simp) _
          | true =>
          cases hg1 : numGood t1 9999 with
          | false =>
            have hnone : resAll s = none := by rw [HALL.out, hg0, hg1]; rfl
            obtain ⟨ho1, ho2⟩ := out_none hnone
            go_wp2_with fail
            refine bodyPost_ret (v := .tuple #[.agg #[.int .i64 0, .int .i64 0, .int .i64 0, .slice none 0 0], .bool false]) (by simp [results, Tryz.results128, go_sem, a0, a1, a2, a3]) rfl ⟨.slice none 0 0, by rw [ho1], ?_, ?_⟩
            · rw [ho2]; exact World.ownsRow_nil _ _ _ _
            · exact (((hw3.setCell (by simp) _).setCell (by simp) _).setCell (by simp) _).setCell (by simp) _
          | true =>
          cases hg2 : numGood t2 9999 with
          | false =>
            have hnone : resAll s = none := by rw [HALL.out, hg0, hg1, hg2]; rfl
            obtain ⟨ho1, ho2⟩ := out_none hnone
            go_wp2_with fail
            refine bodyPost_ret (v := .tuple #[.agg #[.int .i64 0, .int .i64 0, .int .i64 0, .slice none 0 0], .bool false]) (by simp [results, Tryz.results128, go_sem, a0, a1, a2, a3]) rfl ⟨.slice none 0 0, by rw [ho1], ?_, ?_⟩
            · rw [ho2]; exact World.ownsRow_nil _ _ _ _
            · exact (((hw3.setCell (by simp) _).setCell (by simp) _).setCell (by simp) _).setCell (by simp) _
          | true =>
            have HV : Hid (resAll s = if verB m0 m1 m2 P then some ([m0, m1, m2], P) else none) := by
              show _ = _
              rw [HALL.out, hg0, hg1, hg2, verB, parts_all, I0.out hg0, I1.out hg1, I2.out hg2]
              simp
            go_wp2_with fail
            go_at_call 95
            refine (specVerOk_c m0 m1 m2 _ P _ (reads_of_owns RP3) HB.out).mono ?_
            rintro e w4 ⟨rfl, b4⟩
            have A4 := A3.keep b4
            have B4 := B3.keep b4
            have RP4 := owns_of_below RP3 b4
            have hw4 := hw3.trans (b4.mono hw3.size)
            obtain ⟨p0, p1, p2, p3⟩ := A4.cells
            have fp := A4.frozen
            obtain ⟨q0, q1, q2, q3⟩ := B4.cells
            clear a0 a1 a2 a3 fa b0 b1 b2 b3 A3 B3 RP3 hw3 HALL b4 I0 I1 I2
            cases hv : verB m0 m1 m2 P with
            | false =>
              have hnone : resAll s = none := by rw [HV.out, hv]; rfl
              obtain ⟨ho1, ho2⟩ := out_none hnone
              go_wp2_with fail
              refine bodyPost_ret (v := .tuple #[.agg #[.int .i64 0, .int .i64 0, .int .i64 0, .slice none 0 0], .bool false]) (by simp [results, Tryz.results128, go_sem, p0, p1, p2, p3]) rfl ⟨.slice none 0 0, by rw [ho1], ?_, ?_⟩
              · rw [ho2]; exact World.ownsRow_nil _ _ _ _
              · exact (((hw4.setCell (by simp) _).setCell (by simp) _).setCell (by simp) _).setCell (by simp) _
            | true =>
              have hsome : resAll s = some ([m0, m1, m2], P) := by rw [HV.out, hv]; rfl
              obtain ⟨ho1, ho2⟩ := out_some hsome (.slice uq un uc)
              go_wp2_with fail
              refine bodyPost_ret (v := .tuple #[.agg #[.int .i64 m0, .int .i64 m1, .int .i64 m2, .slice uq un uc], .bool true]) (by simp [results, Tryz.results128, go_sem, p0, p1, p2, p3]) rfl ⟨.slice uq un uc, by rw [ho1]; rfl, ?_, ?_⟩
              · rw [ho2]
                exact owns_lower (owns_set (owns_set (owns_set (owns_set RP4 (p := ⟨w.heap.size, 0, none⟩) (by simp; omega) (.int .i64 m0)) (p := ⟨w.heap.size, 1, none⟩) (by simp; omega) (.int .i64 m1)) (p := ⟨w.heap.size, 2, none⟩) (by simp; omega) (.int .i64 m2)) (p := ⟨w.heap.size, 3, none⟩) (by simp; omega) (.slice uq un uc)) (by omega)
              · exact (((hw4.setCell (by simp) _).setCell (by simp) _).setCell (by simp) _).setCell (by simp) _
        · have hnone : resAll s = none := by rw [res_spec s k hk HD.out hh.out L P HL.out HP.out, if_neg (by simp [h3])]
          have h3' : ((L.length : Int) != 3) = true := by simp; omega
          obtain ⟨vq, vc, hvl⟩ : ∃ q c, vl = .slice q L.length c := by obtain ⟨q, c, h, _⟩ := reads_of_owns o2; exact ⟨q, c, by simpa using h⟩
          subst hvl
          clear o2 y0 y1 y2 y3 fy
          obtain ⟨ho1, ho2⟩ := out_none hnone
          go_wp2_with fail
          refine bodyPost_ret (v := .tuple #[.agg #[.int .i64 0, .int .i64 0, .int .i64 0, .slice none 0 0], .bool false]) (by simp [results, Tryz.results128, go_sem, z0, z1, z2, z3]) rfl ⟨.slice none 0 0, by rw [ho1], ?_, ?_⟩
          · rw [ho2]; exact World.ownsRow_nil _ _ _ _
          · exact (((hw2.setCell (by simp) _).setCell (by simp) _).setCell (by simp) _).setCell (by simp) _
      · have e45 : (((s[k]).toNat : Int) != 45) = true := by simpa using h45
        go_wp2
        go_round
        case rel => exact ⟨k + 1, by omega, by go_num, fun j hj => (by
          by_cases e : j = k
          · subst e; rw [byteBang s j hlt]; exact h45
          · exact hh.out j (by omega))⟩
        case measure => simp [intOf]; omega
    · have hki : ¬ (k : Int) < (s.size : Int) := by omega
      have HD : Hid (k < s.size → ((s.data[k]!).toNat : Int) = 45) := fun h => absurd h hlt
      obtain ⟨P, hP⟩ : ∃ P : List ByteArray, P = [] := ⟨_, rfl⟩
      have HP : Hid (P = if k < s.size then splitS (s.extract (k + 1) s.size) 46 else []) := by show _ = _; rw [hP, if_neg hlt]
      have HB : Hid (bulkS P ≤ 1048576) := by show _ ≤ _; rw [hP]; simp [bulkS]
      obtain ⟨L, hL⟩ : ∃ L, L = splitS (s.extract 0 k) 46 := ⟨_, rfl⟩
      have HL : Hid (L = splitS (s.extract 0 k) 46) := hL
      have hLz : (s.extract 0 k).size = k := by rw [vsize s 0 k (Nat.zero_le _) (by omega)]; omega
      have HLB : Hid (bulkS L ≤ 1048577) := by show _ ≤ _; rw [hL, vsplitS_bulk, hLz]; omega
      have HSL : Hid (∀ w1, Calls Tryz.prog 127 #[.string (s.extract 0 k), .int .u8 46] w1 fun e w' => ∃ v, e = .returned v ∧ w'.ownsRow w1.heap.size 9 1 v L.length (strsV L) ∧ Below w1.heap.size w1 w') := fun w1 => by rw [hL]; exact specSplit_c (s.extract 0 k) 46 w1 (by rw [hLz]; omega)
      clear hL hLz
      have A1 := A0
      have B1 := B0
      have hB1 := hbW
      generalize ((w.alloc (.cells #[.int .i64 0, .int .i64 0, .int .i64 0, .slice none 0 0] 30)).alloc (.cells #[.int .i64 0, .int .i64 0, .int .i64 0, .slice none 0 0] 30)) = W1 at A1 B1 hB1 ⊢
      have RP : W1.ownsRow (w.heap.size + 1 + 1) 9 1 (.slice none 0 0) P.length (strsV P) := by rw [hP]; exact World.ownsRow_nil _ _ _ _
      have HPB : Hid (∀ bl, (Value.slice none 0 0).ownBlock = some bl → w.heap.size + 1 < bl) := fun bl h => by simp [Value.ownBlock] at h
      clear A0 B0 hbW hP
      go_wp2_with fail
      generalize (Value.slice none 0 0) = uP at B1 RP HPB
      obtain ⟨x0, x1, x2, x3⟩ := A1.cells
      have f1 := A1.frozen
      go_at_call 127
      refine (HSL.out W1).mono ?_
      rintro e w2 ⟨vl, rfl, o2, b2⟩
      have A2 := A1.keep b2
      have B2 := B1.keep b2
      have RP2 := owns_of_below RP b2
      have hw2 := hB1.trans (b2.mono hB1.size)
      obtain ⟨z0, z1, z2, z3⟩ := A2.cells
      have fz := A2.frozen
      obtain ⟨y0, y1, y2, y3⟩ := B2.cells
      have fy := B2.frozen
      clear A1 B1 RP x0 x1 x2 x3 f1 HSL b2
      by_cases h3 : L.length = 3
      · obtain ⟨t0, t1, t2, hL3⟩ := three_of h3
        have hlz : ∀ t ∈ L, t.size ≤ maxLen := fun t ht => by have := size_of_bulk ht; have := HLB.out; unfold maxLen; omega
        have hall : resAll s = if L.all (fun t => numGood t 9999) && decide (L.length = 3) && P.all partB && decide (P.length ≤ 3) then some (L.map (fun t => numOut t 9999), P) else none := res_spec s k hk HD.out hh.out L P HL.out HP.out
        subst hL3
        have hz0 := hlz t0 (by simp)
        have hz1 := hlz t1 (by simp)
        have hz2 := hlz t2 (by simp)
        obtain ⟨gl, cl, hvl⟩ : ∃ g cap, vl = .slice (some ⟨g, 0, none⟩) 3 cap := by
          rcases o2.2 with ⟨_, h⟩ | ⟨g, cap, cur, hv, _⟩
          · simp at h
          · exact ⟨g, cap, hv⟩
        subst hvl
        have l0 : w2.cell? ⟨gl, 0, none⟩ = some (.string t0) := by rw [o2.cellAt 0 (by simp)]; rfl
        have l1 : w2.cell? ⟨gl, 1, none⟩ = some (.string t1) := by rw [o2.cellAt 1 (by simp)]; rfl
        have l2 : w2.cell? ⟨gl, 2, none⟩ = some (.string t2) := by rw [o2.cellAt 2 (by simp)]; rfl
        have hall2 : resAll s = if numGood t0 9999 && (numGood t1 9999 && numGood t2 9999) && P.all partB && decide (P.length ≤ 3) then some ([numOut t0 9999, numOut t1 9999, numOut t2 9999], P) else none := by rw [hall]; simp
        have HALL : Hid (resAll s = if numGood t0 9999 && (numGood t1 9999 && numGood t2 9999) && P.all partB && decide (P.length ≤ 3) then some ([numOut t0 9999, numOut t1 9999, numOut t2 9999], P) else none) := hall2
        obtain ⟨m0, hm0⟩ : ∃ m, m = numOut t0 9999 := ⟨_, rfl⟩
        obtain ⟨m1, hm1⟩ : ∃ m, m = numOut t1 9999 := ⟨_, rfl⟩
        obtain ⟨m2, hm2⟩ : ∃ m, m = numOut t2 9999 := ⟨_, rfl⟩
        have N0 : Hid (∀ w1, Calls Tryz.prog 200 #[.string t0, .int .i64 9999] w1 fun e w' => e = .returned (.tuple #[.int .i64 m0, .bool (numGood t0 9999)]) ∧ w1 = w') := fun w1 => by rw [hm0]; exact specNum_c t0 9999 hz0 w1
        have N1 : Hid (∀ w1, Calls Tryz.prog 200 #[.string t1, .int .i64 9999] w1 fun e w' => e = .returned (.tuple #[.int .i64 m1, .bool (numGood t1 9999)]) ∧ w1 = w') := fun w1 => by rw [hm1]; exact specNum_c t1 9999 hz1 w1
        have N2 : Hid (∀ w1, Calls Tryz.prog 200 #[.string t2, .int .i64 9999] w1 fun e w' => e = .returned (.tuple #[.int .i64 m2, .bool (numGood t2 9999)]) ∧ w1 = w') := fun w1 => by rw [hm2]; exact specNum_c t2 9999 hz2 w1
        have I0 : Hid (numGood t0 9999 = true → inB m0 0 9999 = true) := fun h => by rw [hm0]; exact num_in h
        have I1 : Hid (numGood t1 9999 = true → inB m1 0 9999 = true) := fun h => by rw [hm1]; exact num_in h
        have I2 : Hid (numGood t2 9999 = true → inB m2 0 9999 = true) := fun h => by rw [hm2]; exact num_in h
        rw [← hm0, ← hm1, ← hm2] at HALL
        have B3 := (four_set ((four_set ((four_set B2 (.int .i64 m0)).1) (.int .i64 m1)).2.1) (.int .i64 m2)).2.2.1
        have A3 : Four (((w2.setCell ⟨w.heap.size + 1, 0, none⟩ (.int .i64 m0)).setCell ⟨w.heap.size + 1, 1, none⟩ (.int .i64 m1)).setCell ⟨w.heap.size + 1, 2, none⟩ (.int .i64 m2)) w.heap.size 30 (.int .i64 0) (.int .i64 0) (.int .i64 0) (.slice none 0 0) :=
          ((Only.set (R := w.heap.size + 1) (base := w.heap.size + 1) w2 0 (.int .i64 m0)).trans ((Only.set _ 1 (.int .i64 m1)).trans (Only.set _ 2 (.int .i64 m2)))).four A2 (by omega) (by omega)
        have hw3 : Below w.heap.size w (((w2.setCell ⟨w.heap.size + 1, 0, none⟩ (.int .i64 m0)).setCell ⟨w.heap.size + 1, 1, none⟩ (.int .i64 m1)).setCell ⟨w.heap.size + 1, 2, none⟩ (.int .i64 m2)) := ((hw2.setCell (by simp) _).setCell (by simp) _).setCell (by simp) _
        have RP3 := owns_set (owns_set (owns_set RP2 (p := ⟨w.heap.size + 1, 0, none⟩) (by simp) (.int .i64 m0)) (p := ⟨w.heap.size + 1, 1, none⟩) (by simp) (.int .i64 m1)) (p := ⟨w.heap.size + 1, 2, none⟩) (by simp) (.int .i64 m2)
        obtain ⟨uq, un, uc, hup⟩ : ∃ q n c, uP = .slice q n c := by obtain ⟨q, c, h, _⟩ := reads_of_owns RP2; exact ⟨_, _, _, h⟩
        subst hup
        clear hall hall2 hm0 hm1 hm2 hlz o2 HL HP RP2 HD hh
        go_wp2_with fail
        go_at_call 200
        refine (N0.out _).mono ?_
        rintro e w' ⟨rfl, rfl⟩
        go_wp2_with fail
        go_at_call 200
        refine (N1.out _).mono ?_
        rintro e w' ⟨rfl, rfl⟩
        go_wp2_with fail
        go_at_call 200
        refine (N2.out _).mono ?_
        rintro e w' ⟨rfl, rfl⟩
        clear N0 N1 N2
        obtain ⟨a0, a1, a2, a3⟩ := A3.cells
        have fa := A3.frozen
        obtain ⟨b0, b1, b2, b3⟩ := B3.cells
        clear l0 l1 l2
        cases hg0 : numGood t0 9999 with
        | false =>
          have hnone : resAll s = none := by rw [HALL.out, hg0]; rfl
          obtain ⟨ho1, ho2⟩ := out_none hnone
          go_wp2_with fail
          refine bodyPost_ret (v := .tuple #[.agg #[.int .i64 0, .int .i64 0, .int .i64 0, .slice none 0 0], .bool false]) (by simp [results, Tryz.results128, go_sem, a0, a1, a2, a3]) rfl ⟨.slice none 0 0, by rw [ho1], ?_, ?_⟩
          · rw [ho2]; exact World.ownsRow_nil _ _ _ _
          · exact (((hw3.setCell (by simp) _).setCell (by simp) _).setCell (by simp) _).setCell (by simp) _
        | true =>
        cases hg1 : numGood t1 9999 with
        | false =>
          have hnone : resAll s = none := by rw [HALL.out, hg0, hg1]; rfl
          obtain ⟨ho1, ho2⟩ := out_none hnone
          go_wp2_with fail
          refine bodyPost_ret (v := .tuple #[.agg #[.int .i64 0, .int .i64 0, .int .i64 0, .slice none 0 0], .bool false]) (by simp [results, Tryz.results128, go_sem, a0, a1, a2, a3]) rfl ⟨.slice none 0 0, by rw [ho1], ?_, ?_⟩
          · rw [ho2]; exact World.ownsRow_nil _ _ _ _
          · exact (((hw3.setCell (by simp) _).setCell (by simp) _).setCell (by simp) _).setCell (by simp) _
        | true =>
        cases hg2 : numGood t2 9999 with
        | false =>
          have hnone : resAll s = none := by rw [HALL.out, hg0, hg1, hg2]; rfl
          obtain ⟨ho1, ho2⟩ := out_none hnone
          go_wp2_with fail
          refine bodyPost_ret (v := .tuple #[.agg #[.int .i64 0, .int .i64 0, .int .i64 0, .slice none 0 0], .bool false]) (by simp [results, Tryz.results128, go_sem, a0, a1, a2, a3]) rfl ⟨.slice none 0 0, by rw [ho1], ?_, ?_⟩
          · rw [ho2]; exact World.ownsRow_nil _ _ _ _
          · exact (((hw3.setCell (by simp) _).setCell (by simp) _).setCell (by simp) _).setCell (by simp) _
        | true =>
          have HV : Hid (resAll s = if verB m0 m1 m2 P then some ([m0, m1, m2], P) else none) := by
            show _ = _
            rw [HALL.out, hg0, hg1, hg2, verB, parts_all, I0.out hg0, I1.out hg1, I2.out hg2]
            simp
          go_wp2_with fail
          go_at_call 95
          refine (specVerOk_c m0 m1 m2 _ P _ (reads_of_owns RP3) HB.out).mono ?_
          rintro e w4 ⟨rfl, b4⟩
          have A4 := A3.keep b4
          have B4 := B3.keep b4
          have RP4 := owns_of_below RP3 b4
          have hw4 := hw3.trans (b4.mono hw3.size)
          obtain ⟨p0, p1, p2, p3⟩ := A4.cells
          have fp := A4.frozen
          obtain ⟨q0, q1, q2, q3⟩ := B4.cells
          clear a0 a1 a2 a3 fa b0 b1 b2 b3 A3 B3 RP3 hw3 HALL b4 I0 I1 I2
          cases hv : verB m0 m1 m2 P with
          | false =>
            have hnone : resAll s = none := by rw [HV.out, hv]; rfl
            obtain ⟨ho1, ho2⟩ := out_none hnone
            go_wp2_with fail
            refine bodyPost_ret (v := .tuple #[.agg #[.int .i64 0, .int .i64 0, .int .i64 0, .slice none 0 0], .bool false]) (by simp [results, Tryz.results128, go_sem, p0, p1, p2, p3]) rfl ⟨.slice none 0 0, by rw [ho1], ?_, ?_⟩
            · rw [ho2]; exact World.ownsRow_nil _ _ _ _
            · exact (((hw4.setCell (by simp) _).setCell (by simp) _).setCell (by simp) _).setCell (by simp) _
          | true =>
            have hsome : resAll s = some ([m0, m1, m2], P) := by rw [HV.out, hv]; rfl
            obtain ⟨ho1, ho2⟩ := out_some hsome (.slice uq un uc)
            go_wp2_with fail
            refine bodyPost_ret (v := .tuple #[.agg #[.int .i64 m0, .int .i64 m1, .int .i64 m2, .slice uq un uc], .bool true]) (by simp [results, Tryz.results128, go_sem, p0, p1, p2, p3]) rfl ⟨.slice uq un uc, by rw [ho1]; rfl, ?_, ?_⟩
            · rw [ho2]
              exact owns_lower (owns_set (owns_set (owns_set (owns_set RP4 (p := ⟨w.heap.size, 0, none⟩) (by simp; omega) (.int .i64 m0)) (p := ⟨w.heap.size, 1, none⟩) (by simp; omega) (.int .i64 m1)) (p := ⟨w.heap.size, 2, none⟩) (by simp; omega) (.int .i64 m2)) (p := ⟨w.heap.size, 3, none⟩) (by simp; omega) (.slice uq un uc)) (by omega)
            · exact (((hw4.setCell (by simp) _).setCell (by simp) _).setCell (by simp) _).setCell (by simp) _
      · have hnone : resAll s = none := by rw [res_spec s k hk HD.out hh.out L P HL.out HP.out, if_neg (by simp [h3])]
        have h3' : ((L.length : Int) != 3) = true := by simp; omega
        obtain ⟨vq, vc, hvl⟩ : ∃ q c, vl = .slice q L.length c := by obtain ⟨q, c, h, _⟩ := reads_of_owns o2; exact ⟨q, c, by simpa using h⟩
        subst hvl
        clear o2 y0 y1 y2 y3 fy
        obtain ⟨ho1, ho2⟩ := out_none hnone
        go_wp2_with fail
        refine bodyPost_ret (v := .tuple #[.agg #[.int .i64 0, .int .i64 0, .int .i64 0, .slice none 0 0], .bool false]) (by simp [results, Tryz.results128, go_sem, z0, z1, z2, z3]) rfl ⟨.slice none 0 0, by rw [ho1], ?_, ?_⟩
        · rw [ho2]; exact World.ownsRow_nil _ _ _ _
        · exact (((hw2.setCell (by simp) _).setCell (by simp) _).setCell (by simp) _).setCell (by simp) _
end Go.Proofs.YtlfmefojcmpfeaaGreatDoor
