/-
  Contracts for the walks, several texts in one: each part says what it proves, and under which conditions.
-/
import Derived.Deep.RegionHeld
import Derived.Handy
import Derived.Test.YtkkhnldhipfneaaGreatDoorQ2
import Derived.Test.YtkkhnldhipfneaaGreatDoorQ5
import Derived.Test.YtkkhnldhipfneaaGreatDoorQ7
import Derived.Test.YtkkhnldhipfneaaGreatDoorQ6
import Derived.Test.YtkkhnldhipfneaaGreatDoorQ3

/-! Whether rules are right, as the specification asks it: contracts for the walks; conditions: they lie in memory, and hold at most 2 to the 20. -/
namespace Go.Proofs.YtkkhnldhipfneaaGreatDoor
open Go.RowKit
set_option linter.unusedSimpArgs false
set_option linter.unusedVariables false

set_option maxHeartbeats 8000000 in
set_option maxRecDepth 100000 in
theorem specRule_c (S : Nat → Prop) (d : RuleD) (cs : List Value) (w : World) (hd : shRule.lies S w cs d) (hB : ∀ b, S b → b < w.heap.size) (hw : smallR d) :
    Calls Tryz.prog 91 #[.agg cs.toArray] w fun e w' => e = .returned (.bool (ruleB d)) ∧ Below w.heap.size w w' := by
  obtain ⟨u0, u1, u2, rfl, s_task, r0, p0, r1, p1, r2, p2⟩ := hd
  have hbx : ∀ o, Below w.heap.size w (w.alloc o) := fun o => (Below.refl _ _).alloc (Nat.le_refl _) _
  have HN := hidden (fun w1 => specName_c d.task s_task w1)
  have HE : Hid (∀ w1, Below w.heap.size w w1 → Calls Tryz.prog 160 #[u2] w1 fun e w' => e = .returned (.bool (d.envs.all nameB)) ∧ Below w1.heap.size w1 w') := fun w1 h => l7Names_c u2 d.envs w1 ((r2.keep (.of h hB)).reads (fun b hb => Nat.lt_of_lt_of_le (hB b hb) h.size)) p2
  have hla := p0.1
  have hlb := p1.1
  have hlc := p2.1
  unfold maxLen at hla hlb hlc s_task
  obtain ⟨hw0, hw1, _⟩ := hw
  obtain ⟨a0, c0, e0, _, ha⟩ := reads_strs (r0.reads hB)
  subst e0
  obtain ⟨a1, c1, e1, _, hb⟩ := reads_strs (r1.reads hB)
  subst e1
  obtain ⟨a2, c2, e2, _⟩ := id r2
  rw [length_strsV] at e2
  subst e2
  obtain ⟨n, hn⟩ : ∃ p, p = nameB d.task := ⟨_, rfl⟩
  obtain ⟨q, hq⟩ : ∃ p, p = d.envs.all nameB := ⟨_, rfl⟩
  have HF : Hid (d.on.all onB = true → d.ins.all inTB = true → ruleB d = (n && (decide (d.on.length ≤ 4) && (decide (d.ins.length ≤ 4) && (decide (d.envs.length ≤ 3) && q))))) := fun h1 h2 => by
    rw [ruleB, fewB, fewB, fewB, h1, h2, ← hn, ← hq, Bool.and_true, Bool.and_true]
  have HX0 : Hid (∀ k (h : k < d.on.length), onB d.on[k] = false → ruleB d = false) := fun k h h1 => by
    have : d.on.all onB = false := List.all_eq_false.2 ⟨_, List.getElem_mem h, by simp [h1]⟩
    simp only [ruleB, fewB, this, Bool.and_false, Bool.false_and]
  have HX1 : Hid (∀ k (h : k < d.ins.length), inTB d.ins[k] = false → ruleB d = false) := fun k h h1 => by
    have : d.ins.all inTB = false := List.all_eq_false.2 ⟨_, List.getElem_mem h, by simp [h1]⟩
    simp only [ruleB, fewB, this, Bool.and_false, Bool.false_and]
  rw [← hn] at HN
  rw [← hq] at HE
  generalize ruleB d = RR at *
  clear r0 r1 r2 p0 p1 p2 hn hq hB
  go_enter Tryz.func91, Tryz.ntmps91
  go_wp2_with fail
  go_loopw [3] (fun vi wr => ∃ k : Nat, k ≤ d.on.length ∧ vi = .int .i64 (k : Int) ∧ Hid (∀ j (hj : j < d.on.length), j < k → onB d.on[j] = true) ∧ wr.heap[w.heap.size]? = some (.cells #[.string d.task, .slice a0 d.on.length c0, .slice a1 d.ins.length c1, .slice a2 d.envs.length c2, .bool d.keep] 51) ∧ Below w.heap.size w wr) (fun vi _ => d.on.length - (intOf vi).toNat)
  case atStart => exact ⟨0, Nat.zero_le _, rfl, (fun j hj h => by omega), vheap_new _ _, hbx _⟩
  case round =>
    obtain ⟨k, hk, rfl, hno, hx1, hbr⟩ := hrel
    have hlt0 := (Array.getElem?_eq_some_iff.1 hx1).1
    have x0 := vblk_cell hx1 0
    have x1 := vblk_cell hx1 1
    have x2 := vblk_cell hx1 2
    have x3 := vblk_cell hx1 3
    have x4 := vblk_cell hx1 4
    simp only [List.getElem?_toArray, List.getElem?_cons_succ, List.getElem?_cons_zero] at x0 x1 x2 x3 x4
    by_cases hlt' : k < d.on.length
    · rcases ha with h0 | ⟨b, off, rfl, hlt, ha⟩
      · rw [h0] at hlt'; simp at hlt'
      have y0 : wr.cell? ⟨b, off + k, none⟩ = some (.string d.on[k]) := (hbr.cell (by simpa using hlt)).trans (ha k hlt')
      have HC := hidden (specOn_c d.on[k] wr (hw0 _ (List.getElem_mem hlt')))
      have HB := hidden (HX0.out k hlt')
      have HG : Hid (onB d.on[k] = true → ∀ j (hj : j < d.on.length), j < k + 1 → onB d.on[j] = true) := fun h j hj hjk => by
        by_cases e : j = k
        · subst e; exact h
        · exact hno.out j hj (by omega)
      obtain ⟨t, ht⟩ : ∃ t, t = d.on[k] := ⟨_, rfl⟩
      rw [← ht] at y0 HC HB HG
      obtain ⟨r, hr⟩ : ∃ r, r = onB t := ⟨_, rfl⟩
      rw [← hr] at HC HB HG
      have hki : (k : Int) < (d.on.length : Int) := by omega
      have HBX := hidden hx1
      clear ha hb ht hr hno hx1 hw0 hw1 HX0
      cases r with
      | false =>
        have HB2 := hidden (HB.out rfl)
        clear HB HG
        go_wp2_with (go_at_call 158; refine HC.out.mono ?_; rintro e w1 ⟨rfl, b1⟩)
        go_ret
        exact ⟨by rw [HB2.out]; rfl, hbr.trans (b1.mono hbr.size)⟩
      | true =>
        have HG2 := hidden (HG.out rfl)
        clear HB HG
        go_wp2_with (go_at_call 158; refine HC.out.mono ?_; rintro e w1 ⟨rfl, b1⟩)
        go_roundw
        case rel => exact ⟨k + 1, by omega, by go_num, HG2.out, (b1.block _ hlt0).trans HBX.out, hbr.trans (b1.mono hbr.size)⟩
        case measure => simp [intOf]; omega
    · have he : k = d.on.length := by omega
      subst he
      have HALL : Hid (d.on.all onB = true) := List.all_eq_true.2 (fun x hx => by obtain ⟨j, hj, rfl⟩ := List.mem_iff_getElem.1 hx; exact hno.out j hj hj)
      have HBX := hidden hx1
      obtain ⟨wo, hwo⟩ : ∃ wo, wo = wr := ⟨_, rfl⟩
      subst hwo
      clear ha hno hw0 HX0 hx1
      go_wp2_with fail
      clear x0 x1 x2 x3 x4
      go_loopw [4] (fun vi wr => ∃ k : Nat, k ≤ d.ins.length ∧ vi = .int .i64 (k : Int) ∧ Hid (∀ j (hj : j < d.ins.length), j < k → inTB d.ins[j] = true) ∧ wr.heap[w.heap.size]? = some (.cells #[.string d.task, .slice a0 d.on.length c0, .slice a1 d.ins.length c1, .slice a2 d.envs.length c2, .bool d.keep] 51) ∧ Below w.heap.size w wr) (fun vi _ => d.ins.length - (intOf vi).toNat)
      case atStart => exact ⟨0, Nat.zero_le _, rfl, (fun j hj h => by omega), HBX.out, hbr⟩
      case round =>
        obtain ⟨k, hk, rfl, hno, hx2, hbr2⟩ := hrel
        have hlt0 := (Array.getElem?_eq_some_iff.1 hx2).1
        have x0 := vblk_cell hx2 0
        have x1 := vblk_cell hx2 1
        have x2 := vblk_cell hx2 2
        have x3 := vblk_cell hx2 3
        have x4 := vblk_cell hx2 4
        simp only [List.getElem?_toArray, List.getElem?_cons_succ, List.getElem?_cons_zero] at x0 x1 x2 x3 x4
        by_cases hlt' : k < d.ins.length
        · rcases hb with h0 | ⟨b, off, rfl, hlt, hb⟩
          · rw [h0] at hlt'; simp at hlt'
          have y0 : wr.cell? ⟨b, off + k, none⟩ = some (.string d.ins[k]) := (hbr2.cell (by simpa using hlt)).trans (hb k hlt')
          have hsz := hw1 _ (List.getElem_mem hlt')
          have HC := hidden (specGlob_c d.ins[k] wr hsz)
          have HB := hidden (HX1.out k hlt')
          have HG : Hid (inTB d.ins[k] = true → ∀ j (hj : j < d.ins.length), j < k + 1 → inTB d.ins[j] = true) := fun h j hj hjk => by
            by_cases e : j = k
            · subst e; exact h
            · exact hno.out j hj (by omega)
          obtain ⟨t, ht⟩ : ∃ t, t = d.ins[k] := ⟨_, rfl⟩
          rw [← ht] at y0 HC HB HG hsz
          unfold inTB at HB
          have HG' : Hid ((decide (t.size ≤ 60) && globB t) = true → ∀ j (hj : j < d.ins.length), j < k + 1 → inTB d.ins[j] = true) := HG
          obtain ⟨r, hr⟩ : ∃ r, r = globB t := ⟨_, rfl⟩
          rw [← hr] at HC HB HG'
          have hki : (k : Int) < (d.ins.length : Int) := by omega
          have HBY := hidden hx2
          clear hb ht hr hno hx2 hw1 HX1 HG HBX
          cases r with
          | false =>
            have HB2 := hidden (HB.out (by simp))
            clear HB HG'
            go_wp2_with (go_at_call 159; refine HC.out.mono ?_; rintro e w1 ⟨rfl, b1⟩)
            go_ret
            exact ⟨by rw [HB2.out]; rfl, hbr2.trans (b1.mono hbr2.size)⟩
          | true =>
            by_cases hz : t.size ≤ 60
            · have hz' : ¬ (60 : Int) < (t.size : Int) := by omega
              have HG2 := hidden (HG'.out (by simp [hz]))
              clear HB HG'
              go_wp2_with fail
              go_at_call 159
              refine HC.out.mono ?_
              rintro e w1 ⟨rfl, b1⟩
              have hx3 := (b1.block _ hlt0).trans HBY.out
              have z0 : w1.cell? ⟨b, off + k, none⟩ = some (.string t) := (b1.cell (World.block_lt_of_cell? wr _ y0)).trans y0
              have x0 := vblk_cell hx3 0
              have x1 := vblk_cell hx3 1
              have x2 := vblk_cell hx3 2
              have x3 := vblk_cell hx3 3
              have x4 := vblk_cell hx3 4
              simp only [List.getElem?_toArray, List.getElem?_cons_succ, List.getElem?_cons_zero] at x0 x1 x2 x3 x4
              have HBZ := hidden hx3
              clear y0 hx3
              go_wp2_with fail
              go_roundw
              case rel => exact ⟨k + 1, by omega, by go_num, HG2.out, HBZ.out, hbr2.trans (b1.mono hbr2.size)⟩
              case measure => simp [intOf]; omega
            · have hz' : (60 : Int) < (t.size : Int) := by omega
              have HB2 := hidden (HB.out (by simp [hz]))
              clear HB HG'
              go_wp2_with fail
              go_at_call 159
              refine HC.out.mono ?_
              rintro e w1 ⟨rfl, b1⟩
              have hx3 := (b1.block _ hlt0).trans HBY.out
              have z0 : w1.cell? ⟨b, off + k, none⟩ = some (.string t) := (b1.cell (World.block_lt_of_cell? wr _ y0)).trans y0
              have x0 := vblk_cell hx3 0
              have x1 := vblk_cell hx3 1
              have x2 := vblk_cell hx3 2
              have x3 := vblk_cell hx3 3
              have x4 := vblk_cell hx3 4
              simp only [List.getElem?_toArray, List.getElem?_cons_succ, List.getElem?_cons_zero] at x0 x1 x2 x3 x4
              clear y0 hx3
              go_wp2_with fail
              go_ret
              exact ⟨by rw [HB2.out]; rfl, hbr2.trans (b1.mono hbr2.size)⟩
        · have he : k = d.ins.length := by omega
          subst he
          have HA2 : d.ins.all inTB = true := List.all_eq_true.2 (fun x hx => by obtain ⟨j, hj, rfl⟩ := List.mem_iff_getElem.1 hx; exact hno.out j hj hj)
          have HR := hidden (HF.out HALL.out HA2)
          clear hb hno hw1 HX1 HF HALL HA2 hx2 HBX
          by_cases g0 : d.on.length ≤ 4
          · have g0' : (d.on.length : Int) ≤ 4 := by omega
            rw [decide_eq_true g0] at HR
            clear g0
            by_cases g1 : d.ins.length ≤ 4
            · have g1' : (d.ins.length : Int) ≤ 4 := by omega
              rw [decide_eq_true g1] at HR
              clear g1
              by_cases g2 : d.envs.length ≤ 3
              · have g2' : (d.envs.length : Int) ≤ 3 := by omega
                rw [decide_eq_true g2] at HR
                clear g2
                cases n with
                | true =>
                  go_wp2_with (first | (go_at_call 129; refine (HN.out _).mono ?_; rintro e w1 ⟨rfl, rfl⟩) | (go_at_call 160; refine (HE.out _ hbr2).mono ?_; rintro e w1 ⟨rfl, b1⟩))
                  go_ret
                  exact ⟨by rw [HR.out]; cases q <;> rfl, hbr2.trans (b1.mono hbr2.size)⟩
                | false =>
                  go_wp2_with (go_at_call 129; refine (HN.out _).mono ?_; rintro e w1 ⟨rfl, rfl⟩)
                  go_ret
                  exact ⟨by rw [HR.out]; rfl, hbr2⟩
              · have g2' : ¬ (d.envs.length : Int) ≤ 3 := by omega
                rw [decide_eq_false g2] at HR
                clear g2
                cases n <;>
                  (go_wp2_with (go_at_call 129; refine (HN.out _).mono ?_; rintro e w1 ⟨rfl, rfl⟩)
                   go_ret
                   exact ⟨by rw [HR.out]; rfl, hbr2⟩)
            · have g1' : ¬ (d.ins.length : Int) ≤ 4 := by omega
              rw [decide_eq_false g1] at HR
              clear g1
              cases n <;>
                (go_wp2_with (go_at_call 129; refine (HN.out _).mono ?_; rintro e w1 ⟨rfl, rfl⟩)
                 go_ret
                 exact ⟨by rw [HR.out]; rfl, hbr2⟩)
          · have g0' : ¬ (d.on.length : Int) ≤ 4 := by omega
            rw [decide_eq_false g0] at HR
            clear g0
            cases n <;>
              (go_wp2_with (go_at_call 129; refine (HN.out _).mono ?_; rintro e w1 ⟨rfl, rfl⟩)
               go_ret
               exact ⟨by rw [HR.out]; rfl, hbr2⟩)

set_option maxHeartbeats 8000000 in
set_option maxRecDepth 100000 in
theorem specRules_c (S : Nat → Prop) (v : Value) (xs : List RuleD) (w : World) (hv : RowIn shRule S w v xs) (hB : ∀ b, S b → b < w.heap.size) (hw : ∀ d ∈ xs, smallR d) :
    Calls Tryz.prog 59 #[v] w fun e w' => e = .returned (.bool (rulesB xs)) ∧ Below w.heap.size w w' := by
  obtain ⟨a, cap, rfl, hl, hc, ha⟩ := hv
  unfold maxLen at hl
  obtain ⟨Q, hQ⟩ : ∃ R, R = rowB (ruleB) RuleD.task xs := ⟨_, rfl⟩
  unfold rulesB
  rw [← hQ]
  have HQ := hidden hQ
  clear hQ
  go_enter Tryz.func59, Tryz.ntmps59
  go_wp2_with fail
  go_loopw [3] (fun vi wr => ∃ k : Nat, k ≤ xs.length ∧ vi = .int .i64 (k : Int) ∧ Hid (rowUpto (ruleB) RuleD.task xs k = true) ∧ Below w.heap.size w wr) (fun vi _ => xs.length - (intOf vi).toNat)
  case atStart => exact ⟨0, Nat.zero_le _, rfl, rfl, Below.refl _ _⟩
  case round =>
    obtain ⟨k, hk, rfl, hh, hbr⟩ := hrel
    by_cases hlt' : k < xs.length
    · rcases ha with rfl | ⟨b, off, rfl, hlt, ha⟩
      · simp at hlt'
      have hbb : b < wr.heap.size := Nat.lt_of_lt_of_le (hB b hlt) hbr.size
      have hBr : ∀ b, S b → b < wr.heap.size := fun b h => Nat.lt_of_lt_of_le (hB b h) hbr.size
      obtain ⟨cs, hL, hcell⟩ := ha k hlt'
      replace hL := shRule.keep (.of hbr hB) hL
      replace hcell := hcell.keep (.of hbr hB) hlt
      have HB : Hid (rowOk (ruleB) RuleD.task xs[k] (preX xs k) = false → Q = false) := fun h => HQ.out.trans (rowUpto_bad hlt' h _ hlt')
      have HG : Hid (rowOk (ruleB) RuleD.task xs[k] (preX xs k) = true → rowUpto (ruleB) RuleD.task xs (k + 1) = true) := fun h => rowUpto_step hlt' hh.out h
      have hpv : ∀ j, k = j + 1 → ∃ c, preX xs k = some c ∧ wr.cell? ⟨b, off + j * 5, none⟩ = some (.string c.task) := fun j hj => by
        subst hj
        have hj' : j < xs.length := by omega
        obtain ⟨cs', hL', hcell'⟩ := ha j hj'
        replace hcell' := hcell'.keep (.of hbr hB) hlt
        obtain ⟨u0, u1, u2, rfl, _⟩ := hL'
        exact ⟨xs[j], by rw [preX, List.getElem?_eq_getElem hj'], hcell' 0 (by simp)⟩
      obtain ⟨o, ho⟩ : ∃ o, o = preX xs k := ⟨_, rfl⟩
      rw [← ho] at HB HG hpv
      have h0o : k = 0 → o = none := fun h => by subst h; exact ho
      have HC : Hid (∀ w1, Below wr.heap.size wr w1 → Calls Tryz.prog 91 #[.agg cs.toArray] w1 fun e w' => e = .returned (.bool (ruleB xs[k])) ∧ Below w1.heap.size w1 w') := fun w1 h => specRule_c S xs[k] cs w1 (shRule.keep (.of h hBr) hL) (fun b hb => Nat.lt_of_lt_of_le (hBr b hb) h.size) (hw _ (List.getElem_mem hlt'))
      obtain ⟨d, hd⟩ : ∃ d, d = xs[k] := ⟨_, rfl⟩
      rw [← hd] at hL HC HB HG
      obtain ⟨r, hr⟩ : ∃ r, r = ruleB d := ⟨_, rfl⟩
      rw [← hr] at HC
      obtain ⟨u0, u1, u2, rfl, s_task, r0, p0, r1, p1, r2, p2⟩ := hL
      obtain ⟨a0, c0, e0, _⟩ := id r0
      rw [length_strsV] at e0
      subst e0
      obtain ⟨a1, c1, e1, _⟩ := id r1
      rw [length_strsV] at e1
      subst e1
      obtain ⟨a2, c2, e2, _⟩ := id r2
      rw [length_strsV] at e2
      subst e2
      have hki : (k : Int) < (xs.length : Int) := by omega
      have hd0 : Below wr.heap.size wr wr.drew := (Below.refl _ _).drew
      have e0 : wr.cell? ⟨b, off + k * 5, none⟩ = some (.string d.task) := hcell 0 (by simp)
      have e1 : wr.cell? ⟨b, off + k * 5 + 1, none⟩ = some (.slice a0 d.on.length c0) := hcell 1 (by simp)
      have e2 : wr.cell? ⟨b, off + k * 5 + 2, none⟩ = some (.slice a1 d.ins.length c1) := hcell 2 (by simp)
      have e3 : wr.cell? ⟨b, off + k * 5 + 3, none⟩ = some (.slice a2 d.envs.length c2) := hcell 3 (by simp)
      have e4 : wr.cell? ⟨b, off + k * 5 + 4, none⟩ = some (.bool d.keep) := hcell 4 (by simp)
      clear ha hd ho hw hh hcell HQ s_task r0 p0 r1 p1 r2 p2
      cases r with
      | false =>
        have HX : Hid (ruleB d = false) := hr.symm
        clear hr h0o hpv
        have KEEP : Hid (∀ w1, Below wr.heap.size wr w1 → w1.cell? ⟨b, off + k * 5, none⟩ = some (.string d.task) ∧ w1.cell? ⟨b, off + k * 5 + 1, none⟩ = some (.slice a0 d.on.length c0) ∧ w1.cell? ⟨b, off + k * 5 + 2, none⟩ = some (.slice a1 d.ins.length c1) ∧ w1.cell? ⟨b, off + k * 5 + 3, none⟩ = some (.slice a2 d.envs.length c2) ∧ w1.cell? ⟨b, off + k * 5 + 4, none⟩ = some (.bool d.keep)) := fun w1 h => ⟨(h.cell (by simpa using hbb)).trans e0, (h.cell (by simpa using hbb)).trans e1, (h.cell (by simpa using hbb)).trans e2, (h.cell (by simpa using hbb)).trans e3, (h.cell (by simpa using hbb)).trans e4⟩
        clear e0 e1 e2 e3 e4
        go_wp2_with fail
        refine wp_region_held_drew (S := (fun w' => w'.cell? ⟨b, off + k * 5, none⟩ = some (.string d.task) ∧ w'.cell? ⟨b, off + k * 5 + 1, none⟩ = some (.slice a0 d.on.length c0) ∧ w'.cell? ⟨b, off + k * 5 + 2, none⟩ = some (.slice a1 d.ins.length c1) ∧ w'.cell? ⟨b, off + k * 5 + 3, none⟩ = some (.slice a2 d.envs.length c2) ∧ w'.cell? ⟨b, off + k * 5 + 4, none⟩ = some (.bool d.keep))) (by kernel_rfl) ?SR10 (fun hHeld => ?_)
        case SR10 => (first | (with_reducible exact KEEP.out _ hd1) | (with_reducible exact KEEP.out _ hd0))
        refine wpAnyH_take (i := 0) (oi := _) (v := ?vR10) rfl (by kernel_rfl) (by kernel_rfl) (by kernel_rfl) (fun _ _ _ h => h) (Or.inl ⟨by rfl, ?yR10⟩) hHeld ?_
        case yR10 => (intro w hSw; (try dsimp only at hSw); go_simp <;> with_reducible rfl)
        try simp only [Act.put, List.getElem_toArray, List.getElem_cons_zero, List.getElem_cons_succ, List.setIfInBounds_toArray, List.set_cons_zero, List.set_cons_succ]
        refine wpAnyH_take (i := 1) (oi := _) (v := ?vR11) rfl (by kernel_rfl) (by kernel_rfl) (by kernel_rfl) (fun _ _ _ h => h) (Or.inl ⟨by rfl, ?yR11⟩) hHeld ?_
        case yR11 => (intro w hSw; (try dsimp only at hSw); go_simp <;> with_reducible rfl)
        try simp only [Act.put, List.getElem_toArray, List.getElem_cons_zero, List.getElem_cons_succ, List.setIfInBounds_toArray, List.set_cons_zero, List.set_cons_succ]
        refine wpAnyH_take (i := 2) (oi := _) (v := ?vR12) rfl (by kernel_rfl) (by kernel_rfl) (by kernel_rfl) (fun _ _ _ h => h) (Or.inl ⟨by rfl, ?yR12⟩) hHeld ?_
        case yR12 => (intro w hSw; (try dsimp only at hSw); go_simp <;> with_reducible rfl)
        try simp only [Act.put, List.getElem_toArray, List.getElem_cons_zero, List.getElem_cons_succ, List.setIfInBounds_toArray, List.set_cons_zero, List.set_cons_succ]
        refine wpAnyH_take (i := 3) (oi := _) (v := ?vR13) rfl (by kernel_rfl) (by kernel_rfl) (by kernel_rfl) (fun _ _ _ h => h) (Or.inl ⟨by rfl, ?yR13⟩) hHeld ?_
        case yR13 => (intro w hSw; (try dsimp only at hSw); go_simp <;> with_reducible rfl)
        try simp only [Act.put, List.getElem_toArray, List.getElem_cons_zero, List.getElem_cons_succ, List.setIfInBounds_toArray, List.set_cons_zero, List.set_cons_succ]
        refine wpAnyH_ready (rs := [4]) (by kernel_rfl) (by simp) ?_
        refine AllReadyH.cons rfl (fun K hK => ?_) AllReadyH.nil
        go_simp
        go_wp2_with (go_at_call 91; refine (HC.out _ hd0).mono ?_; rintro e w1 ⟨rfl, b1⟩; have hd1 : Below wr.heap.size wr w1 := hd0.trans (b1.mono hd0.size))
        clear hHeld
        refine hK.out _ _ ?SR15 (fun hHeld => ?_)
        case SR15 => ((try dsimp only); first | (with_reducible exact KEEP.out _ hd1) | (with_reducible exact KEEP.out _ hd0))
        clear hK K
        refine wpAnyH_take (i := 5) (oi := _) (v := ?vR15) rfl (by kernel_rfl) (by kernel_rfl) (by kernel_rfl) (fun _ _ _ h => h) (Or.inl ⟨by rfl, ?yR15⟩) hHeld ?_
        case yR15 => (intro w hSw; (try dsimp only at hSw); go_simp <;> with_reducible rfl)
        try simp only [Act.put, List.getElem_toArray, List.getElem_cons_zero, List.getElem_cons_succ, List.setIfInBounds_toArray, List.set_cons_zero, List.set_cons_succ]
        refine wpAnyH_take (i := 6) (oi := _) (v := ?vR16) rfl (by kernel_rfl) (by kernel_rfl) (by kernel_rfl) (fun _ _ _ h => h) (Or.inl ⟨by rfl, ?yR16⟩) hHeld ?_
        case yR16 => (intro w hSw; (try dsimp only at hSw); go_simp <;> with_reducible rfl)
        try simp only [Act.put, List.getElem_toArray, List.getElem_cons_zero, List.getElem_cons_succ, List.setIfInBounds_toArray, List.set_cons_zero, List.set_cons_succ]
        refine wpAnyH_take (i := 7) (oi := _) (v := undef) rfl (by kernel_rfl) (by kernel_rfl) (by kernel_rfl) (fun _ _ _ h => h) (Or.inr ⟨by rfl, rfl⟩) hHeld ?_
        try simp only [Act.put, List.getElem_toArray, List.getElem_cons_zero, List.getElem_cons_succ, List.setIfInBounds_toArray, List.set_cons_zero, List.set_cons_succ]
        refine wpAnyH_take (i := 8) (oi := _) (v := undef) rfl (by kernel_rfl) (by kernel_rfl) (by kernel_rfl) (fun _ _ _ h => h) (Or.inr ⟨by rfl, rfl⟩) hHeld ?_
        try simp only [Act.put, List.getElem_toArray, List.getElem_cons_zero, List.getElem_cons_succ, List.setIfInBounds_toArray, List.set_cons_zero, List.set_cons_succ]
        refine wpAnyH_take (i := 9) (oi := _) (v := undef) rfl (by kernel_rfl) (by kernel_rfl) (by kernel_rfl) (fun _ _ _ h => h) (Or.inr ⟨by rfl, rfl⟩) hHeld ?_
        try simp only [Act.put, List.getElem_toArray, List.getElem_cons_zero, List.getElem_cons_succ, List.setIfInBounds_toArray, List.set_cons_zero, List.set_cons_succ]
        refine wpAnyH_take (i := 10) (oi := _) (v := undef) rfl (by kernel_rfl) (by kernel_rfl) (by kernel_rfl) (fun _ _ _ h => h) (Or.inr ⟨by rfl, rfl⟩) hHeld ?_
        try simp only [Act.put, List.getElem_toArray, List.getElem_cons_zero, List.getElem_cons_succ, List.setIfInBounds_toArray, List.set_cons_zero, List.set_cons_succ]
        refine wpAnyH_take (i := 11) (oi := _) (v := undef) rfl (by kernel_rfl) (by kernel_rfl) (by kernel_rfl) (fun _ _ _ h => h) (Or.inr ⟨by rfl, rfl⟩) hHeld ?_
        try simp only [Act.put, List.getElem_toArray, List.getElem_cons_zero, List.getElem_cons_succ, List.setIfInBounds_toArray, List.set_cons_zero, List.set_cons_succ]
        refine wpAnyH_take (i := 12) (oi := _) (v := undef) rfl (by kernel_rfl) (by kernel_rfl) (by kernel_rfl) (fun _ _ _ h => h) (Or.inr ⟨by rfl, rfl⟩) hHeld ?_
        try simp only [Act.put, List.getElem_toArray, List.getElem_cons_zero, List.getElem_cons_succ, List.setIfInBounds_toArray, List.set_cons_zero, List.set_cons_succ]
        refine wpAnyH_take (i := 13) (oi := _) (v := undef) rfl (by kernel_rfl) (by kernel_rfl) (by kernel_rfl) (fun _ _ _ h => h) (Or.inr ⟨by rfl, rfl⟩) hHeld ?_
        try simp only [Act.put, List.getElem_toArray, List.getElem_cons_zero, List.getElem_cons_succ, List.setIfInBounds_toArray, List.set_cons_zero, List.set_cons_succ]
        refine wpAnyH_take (i := 14) (oi := _) (v := undef) rfl (by kernel_rfl) (by kernel_rfl) (by kernel_rfl) (fun _ _ _ h => h) (Or.inr ⟨by rfl, rfl⟩) hHeld ?_
        try simp only [Act.put, List.getElem_toArray, List.getElem_cons_zero, List.getElem_cons_succ, List.setIfInBounds_toArray, List.set_cons_zero, List.set_cons_succ]
        refine wpAnyH_take (i := 15) (oi := _) (v := undef) rfl (by kernel_rfl) (by kernel_rfl) (by kernel_rfl) (fun _ _ _ h => h) (Or.inr ⟨by rfl, rfl⟩) hHeld ?_
        try simp only [Act.put, List.getElem_toArray, List.getElem_cons_zero, List.getElem_cons_succ, List.setIfInBounds_toArray, List.set_cons_zero, List.set_cons_succ]
        refine wpAnyH_take (i := 16) (oi := _) (v := undef) rfl (by kernel_rfl) (by kernel_rfl) (by kernel_rfl) (fun _ _ _ h => h) (Or.inr ⟨by rfl, rfl⟩) hHeld ?_
        try simp only [Act.put, List.getElem_toArray, List.getElem_cons_zero, List.getElem_cons_succ, List.setIfInBounds_toArray, List.set_cons_zero, List.set_cons_succ]
        refine wpAnyH_take (i := 17) (oi := _) (v := undef) rfl (by kernel_rfl) (by kernel_rfl) (by kernel_rfl) (fun _ _ _ h => h) (Or.inr ⟨by rfl, rfl⟩) hHeld ?_
        try simp only [Act.put, List.getElem_toArray, List.getElem_cons_zero, List.getElem_cons_succ, List.setIfInBounds_toArray, List.set_cons_zero, List.set_cons_succ]
        refine wpAnyH_take (i := 18) (oi := _) (v := undef) rfl (by kernel_rfl) (by kernel_rfl) (by kernel_rfl) (fun _ _ _ h => h) (Or.inr ⟨by rfl, rfl⟩) hHeld ?_
        try simp only [Act.put, List.getElem_toArray, List.getElem_cons_zero, List.getElem_cons_succ, List.setIfInBounds_toArray, List.set_cons_zero, List.set_cons_succ]
        refine wpAnyH_take (i := 19) (oi := _) (v := undef) rfl (by kernel_rfl) (by kernel_rfl) (by kernel_rfl) (fun _ _ _ h => h) (Or.inr ⟨by rfl, rfl⟩) hHeld ?_
        try simp only [Act.put, List.getElem_toArray, List.getElem_cons_zero, List.getElem_cons_succ, List.setIfInBounds_toArray, List.set_cons_zero, List.set_cons_succ]
        refine wpAnyH_take (i := 20) (oi := _) (v := undef) rfl (by kernel_rfl) (by kernel_rfl) (by kernel_rfl) (fun _ _ _ h => h) (Or.inr ⟨by rfl, rfl⟩) hHeld ?_
        try simp only [Act.put, List.getElem_toArray, List.getElem_cons_zero, List.getElem_cons_succ, List.setIfInBounds_toArray, List.set_cons_zero, List.set_cons_succ]
        refine wpAnyH_take (i := 21) (oi := _) (v := undef) rfl (by kernel_rfl) (by kernel_rfl) (by kernel_rfl) (fun _ _ _ h => h) (Or.inr ⟨by rfl, rfl⟩) hHeld ?_
        try simp only [Act.put, List.getElem_toArray, List.getElem_cons_zero, List.getElem_cons_succ, List.setIfInBounds_toArray, List.set_cons_zero, List.set_cons_succ]
        refine wpAnyH_take (i := 22) (oi := _) (v := undef) rfl (by kernel_rfl) (by kernel_rfl) (by kernel_rfl) (fun _ _ _ h => h) (Or.inr ⟨by rfl, rfl⟩) hHeld ?_
        try simp only [Act.put, List.getElem_toArray, List.getElem_cons_zero, List.getElem_cons_succ, List.setIfInBounds_toArray, List.set_cons_zero, List.set_cons_succ]
        refine wpAnyH_take (i := 23) (oi := _) (v := ?vR123) rfl (by kernel_rfl) (by kernel_rfl) (by kernel_rfl) (fun _ _ _ h => h) (Or.inl ⟨by rfl, ?yR123⟩) hHeld ?_
        case yR123 => (intro w hSw; (try dsimp only at hSw); go_simp <;> with_reducible rfl)
        try simp only [Act.put, List.getElem_toArray, List.getElem_cons_zero, List.getElem_cons_succ, List.setIfInBounds_toArray, List.set_cons_zero, List.set_cons_succ]
        refine wpAnyH_done (by kernel_rfl) ?_ _
        go_wp2_with fail
        go_ret
        exact ⟨by rw [HB.out (rowOk_no HX.out)]; rfl, hbr.trans (hd1.mono hbr.size)⟩
      | true =>
        have HX : Hid (ruleB d = true) := hr.symm
        clear hr
        cases k with
        | zero =>
          have h1 := h0o rfl
          subst h1
          clear h0o hpv
          rw [Nat.zero_mul, Nat.add_zero] at e0 e1 e2 e3 e4
          have KEEP : Hid (∀ w1, Below wr.heap.size wr w1 → w1.cell? ⟨b, off, none⟩ = some (.string d.task) ∧ w1.cell? ⟨b, off + 1, none⟩ = some (.slice a0 d.on.length c0) ∧ w1.cell? ⟨b, off + 2, none⟩ = some (.slice a1 d.ins.length c1) ∧ w1.cell? ⟨b, off + 3, none⟩ = some (.slice a2 d.envs.length c2) ∧ w1.cell? ⟨b, off + 4, none⟩ = some (.bool d.keep)) := fun w1 h => ⟨(h.cell (by simpa using hbb)).trans e0, (h.cell (by simpa using hbb)).trans e1, (h.cell (by simpa using hbb)).trans e2, (h.cell (by simpa using hbb)).trans e3, (h.cell (by simpa using hbb)).trans e4⟩
          clear e0 e1 e2 e3 e4
          go_wp2_with fail
          refine wp_region_held_drew (S := (fun w' => w'.cell? ⟨b, off, none⟩ = some (.string d.task) ∧ w'.cell? ⟨b, off + 1, none⟩ = some (.slice a0 d.on.length c0) ∧ w'.cell? ⟨b, off + 2, none⟩ = some (.slice a1 d.ins.length c1) ∧ w'.cell? ⟨b, off + 3, none⟩ = some (.slice a2 d.envs.length c2) ∧ w'.cell? ⟨b, off + 4, none⟩ = some (.bool d.keep))) (by kernel_rfl) ?SR20 (fun hHeld => ?_)
          case SR20 => (first | (with_reducible exact KEEP.out _ hd1) | (with_reducible exact KEEP.out _ hd0))
          refine wpAnyH_take (i := 0) (oi := _) (v := ?vR20) rfl (by kernel_rfl) (by kernel_rfl) (by kernel_rfl) (fun _ _ _ h => h) (Or.inl ⟨by rfl, ?yR20⟩) hHeld ?_
          case yR20 => (intro w hSw; (try dsimp only at hSw); go_simp <;> with_reducible rfl)
          try simp only [Act.put, List.getElem_toArray, List.getElem_cons_zero, List.getElem_cons_succ, List.setIfInBounds_toArray, List.set_cons_zero, List.set_cons_succ]
          refine wpAnyH_take (i := 1) (oi := _) (v := ?vR21) rfl (by kernel_rfl) (by kernel_rfl) (by kernel_rfl) (fun _ _ _ h => h) (Or.inl ⟨by rfl, ?yR21⟩) hHeld ?_
          case yR21 => (intro w hSw; (try dsimp only at hSw); go_simp <;> with_reducible rfl)
          try simp only [Act.put, List.getElem_toArray, List.getElem_cons_zero, List.getElem_cons_succ, List.setIfInBounds_toArray, List.set_cons_zero, List.set_cons_succ]
          refine wpAnyH_take (i := 2) (oi := _) (v := ?vR22) rfl (by kernel_rfl) (by kernel_rfl) (by kernel_rfl) (fun _ _ _ h => h) (Or.inl ⟨by rfl, ?yR22⟩) hHeld ?_
          case yR22 => (intro w hSw; (try dsimp only at hSw); go_simp <;> with_reducible rfl)
          try simp only [Act.put, List.getElem_toArray, List.getElem_cons_zero, List.getElem_cons_succ, List.setIfInBounds_toArray, List.set_cons_zero, List.set_cons_succ]
          refine wpAnyH_take (i := 3) (oi := _) (v := ?vR23) rfl (by kernel_rfl) (by kernel_rfl) (by kernel_rfl) (fun _ _ _ h => h) (Or.inl ⟨by rfl, ?yR23⟩) hHeld ?_
          case yR23 => (intro w hSw; (try dsimp only at hSw); go_simp <;> with_reducible rfl)
          try simp only [Act.put, List.getElem_toArray, List.getElem_cons_zero, List.getElem_cons_succ, List.setIfInBounds_toArray, List.set_cons_zero, List.set_cons_succ]
          refine wpAnyH_ready (rs := [4]) (by kernel_rfl) (by simp) ?_
          refine AllReadyH.cons rfl (fun K hK => ?_) AllReadyH.nil
          go_simp
          go_wp2_with (go_at_call 91; refine (HC.out _ hd0).mono ?_; rintro e w1 ⟨rfl, b1⟩; have hd1 : Below wr.heap.size wr w1 := hd0.trans (b1.mono hd0.size))
          clear hHeld
          refine hK.out _ _ ?SR25 (fun hHeld => ?_)
          case SR25 => ((try dsimp only); first | (with_reducible exact KEEP.out _ hd1) | (with_reducible exact KEEP.out _ hd0))
          clear hK K
          refine wpAnyH_take (i := 5) (oi := _) (v := ?vR25) rfl (by kernel_rfl) (by kernel_rfl) (by kernel_rfl) (fun _ _ _ h => h) (Or.inl ⟨by rfl, ?yR25⟩) hHeld ?_
          case yR25 => (intro w hSw; (try dsimp only at hSw); go_simp <;> with_reducible rfl)
          try simp only [Act.put, List.getElem_toArray, List.getElem_cons_zero, List.getElem_cons_succ, List.setIfInBounds_toArray, List.set_cons_zero, List.set_cons_succ]
          refine wpAnyH_take (i := 6) (oi := _) (v := ?vR26) rfl (by kernel_rfl) (by kernel_rfl) (by kernel_rfl) (fun _ _ _ h => h) (Or.inl ⟨by rfl, ?yR26⟩) hHeld ?_
          case yR26 => (intro w hSw; (try dsimp only at hSw); go_simp <;> with_reducible rfl)
          try simp only [Act.put, List.getElem_toArray, List.getElem_cons_zero, List.getElem_cons_succ, List.setIfInBounds_toArray, List.set_cons_zero, List.set_cons_succ]
          refine wpAnyH_take (i := 7) (oi := _) (v := ?vR27) rfl (by kernel_rfl) (by kernel_rfl) (by kernel_rfl) (fun _ _ _ h => h) (Or.inl ⟨by rfl, ?yR27⟩) hHeld ?_
          case yR27 => (intro w hSw; (try dsimp only at hSw); go_simp <;> with_reducible rfl)
          try simp only [Act.put, List.getElem_toArray, List.getElem_cons_zero, List.getElem_cons_succ, List.setIfInBounds_toArray, List.set_cons_zero, List.set_cons_succ]
          refine wpAnyH_take (i := 8) (oi := _) (v := ?vR28) rfl (by kernel_rfl) (by kernel_rfl) (by kernel_rfl) (fun _ _ _ h => h) (Or.inl ⟨by rfl, ?yR28⟩) hHeld ?_
          case yR28 => (intro w hSw; (try dsimp only at hSw); go_simp <;> with_reducible rfl)
          try simp only [Act.put, List.getElem_toArray, List.getElem_cons_zero, List.getElem_cons_succ, List.setIfInBounds_toArray, List.set_cons_zero, List.set_cons_succ]
          refine wpAnyH_take (i := 9) (oi := _) (v := ?vR29) rfl (by kernel_rfl) (by kernel_rfl) (by kernel_rfl) (fun _ _ _ h => h) (Or.inl ⟨by rfl, ?yR29⟩) hHeld ?_
          case yR29 => (intro w hSw; (try dsimp only at hSw); go_simp <;> with_reducible rfl)
          try simp only [Act.put, List.getElem_toArray, List.getElem_cons_zero, List.getElem_cons_succ, List.setIfInBounds_toArray, List.set_cons_zero, List.set_cons_succ]
          refine wpAnyH_take (i := 10) (oi := _) (v := undef) rfl (by kernel_rfl) (by kernel_rfl) (by kernel_rfl) (fun _ _ _ h => h) (Or.inr ⟨by rfl, rfl⟩) hHeld ?_
          try simp only [Act.put, List.getElem_toArray, List.getElem_cons_zero, List.getElem_cons_succ, List.setIfInBounds_toArray, List.set_cons_zero, List.set_cons_succ]
          refine wpAnyH_take (i := 11) (oi := _) (v := undef) rfl (by kernel_rfl) (by kernel_rfl) (by kernel_rfl) (fun _ _ _ h => h) (Or.inr ⟨by rfl, rfl⟩) hHeld ?_
          try simp only [Act.put, List.getElem_toArray, List.getElem_cons_zero, List.getElem_cons_succ, List.setIfInBounds_toArray, List.set_cons_zero, List.set_cons_succ]
          refine wpAnyH_take (i := 12) (oi := _) (v := undef) rfl (by kernel_rfl) (by kernel_rfl) (by kernel_rfl) (fun _ _ _ h => h) (Or.inr ⟨by rfl, rfl⟩) hHeld ?_
          try simp only [Act.put, List.getElem_toArray, List.getElem_cons_zero, List.getElem_cons_succ, List.setIfInBounds_toArray, List.set_cons_zero, List.set_cons_succ]
          refine wpAnyH_take (i := 13) (oi := _) (v := undef) rfl (by kernel_rfl) (by kernel_rfl) (by kernel_rfl) (fun _ _ _ h => h) (Or.inr ⟨by rfl, rfl⟩) hHeld ?_
          try simp only [Act.put, List.getElem_toArray, List.getElem_cons_zero, List.getElem_cons_succ, List.setIfInBounds_toArray, List.set_cons_zero, List.set_cons_succ]
          refine wpAnyH_take (i := 14) (oi := _) (v := undef) rfl (by kernel_rfl) (by kernel_rfl) (by kernel_rfl) (fun _ _ _ h => h) (Or.inr ⟨by rfl, rfl⟩) hHeld ?_
          try simp only [Act.put, List.getElem_toArray, List.getElem_cons_zero, List.getElem_cons_succ, List.setIfInBounds_toArray, List.set_cons_zero, List.set_cons_succ]
          refine wpAnyH_take (i := 15) (oi := _) (v := undef) rfl (by kernel_rfl) (by kernel_rfl) (by kernel_rfl) (fun _ _ _ h => h) (Or.inr ⟨by rfl, rfl⟩) hHeld ?_
          try simp only [Act.put, List.getElem_toArray, List.getElem_cons_zero, List.getElem_cons_succ, List.setIfInBounds_toArray, List.set_cons_zero, List.set_cons_succ]
          refine wpAnyH_take (i := 16) (oi := _) (v := undef) rfl (by kernel_rfl) (by kernel_rfl) (by kernel_rfl) (fun _ _ _ h => h) (Or.inr ⟨by rfl, rfl⟩) hHeld ?_
          try simp only [Act.put, List.getElem_toArray, List.getElem_cons_zero, List.getElem_cons_succ, List.setIfInBounds_toArray, List.set_cons_zero, List.set_cons_succ]
          refine wpAnyH_take (i := 17) (oi := _) (v := undef) rfl (by kernel_rfl) (by kernel_rfl) (by kernel_rfl) (fun _ _ _ h => h) (Or.inr ⟨by rfl, rfl⟩) hHeld ?_
          try simp only [Act.put, List.getElem_toArray, List.getElem_cons_zero, List.getElem_cons_succ, List.setIfInBounds_toArray, List.set_cons_zero, List.set_cons_succ]
          refine wpAnyH_take (i := 18) (oi := _) (v := undef) rfl (by kernel_rfl) (by kernel_rfl) (by kernel_rfl) (fun _ _ _ h => h) (Or.inr ⟨by rfl, rfl⟩) hHeld ?_
          try simp only [Act.put, List.getElem_toArray, List.getElem_cons_zero, List.getElem_cons_succ, List.setIfInBounds_toArray, List.set_cons_zero, List.set_cons_succ]
          refine wpAnyH_take (i := 19) (oi := _) (v := undef) rfl (by kernel_rfl) (by kernel_rfl) (by kernel_rfl) (fun _ _ _ h => h) (Or.inr ⟨by rfl, rfl⟩) hHeld ?_
          try simp only [Act.put, List.getElem_toArray, List.getElem_cons_zero, List.getElem_cons_succ, List.setIfInBounds_toArray, List.set_cons_zero, List.set_cons_succ]
          refine wpAnyH_take (i := 20) (oi := _) (v := undef) rfl (by kernel_rfl) (by kernel_rfl) (by kernel_rfl) (fun _ _ _ h => h) (Or.inr ⟨by rfl, rfl⟩) hHeld ?_
          try simp only [Act.put, List.getElem_toArray, List.getElem_cons_zero, List.getElem_cons_succ, List.setIfInBounds_toArray, List.set_cons_zero, List.set_cons_succ]
          refine wpAnyH_take (i := 21) (oi := _) (v := undef) rfl (by kernel_rfl) (by kernel_rfl) (by kernel_rfl) (fun _ _ _ h => h) (Or.inr ⟨by rfl, rfl⟩) hHeld ?_
          try simp only [Act.put, List.getElem_toArray, List.getElem_cons_zero, List.getElem_cons_succ, List.setIfInBounds_toArray, List.set_cons_zero, List.set_cons_succ]
          refine wpAnyH_take (i := 22) (oi := _) (v := ?vR222) rfl (by kernel_rfl) (by kernel_rfl) (by kernel_rfl) (fun _ _ _ h => h) (Or.inl ⟨by rfl, ?yR222⟩) hHeld ?_
          case yR222 => (intro w hSw; (try dsimp only at hSw); go_simp <;> with_reducible rfl)
          try simp only [Act.put, List.getElem_toArray, List.getElem_cons_zero, List.getElem_cons_succ, List.setIfInBounds_toArray, List.set_cons_zero, List.set_cons_succ]
          refine wpAnyH_take (i := 23) (oi := _) (v := ?vR223) rfl (by kernel_rfl) (by kernel_rfl) (by kernel_rfl) (fun _ _ _ h => h) (Or.inl ⟨by rfl, ?yR223⟩) hHeld ?_
          case yR223 => (intro w hSw; (try dsimp only at hSw); go_simp <;> with_reducible rfl)
          try simp only [Act.put, List.getElem_toArray, List.getElem_cons_zero, List.getElem_cons_succ, List.setIfInBounds_toArray, List.set_cons_zero, List.set_cons_succ]
          refine wpAnyH_done (by kernel_rfl) ?_ _
          go_wp2_with fail
          go_roundw
          case rel => exact ⟨0 + 1, by omega, by go_num, HG.out (rowOk_first HX.out), hbr.trans (hd1.mono hbr.size)⟩
          case measure => simp [intOf]; omega
        | succ j =>
          obtain ⟨c, h1, e9⟩ := hpv j rfl
          subst h1
          clear h0o hpv
          have hj0 : (0 : Int) ≤ (j : Int) + 1 := by omega
          have hj1 : decide ((0 : Int) < (j : Int) + 1) = true := decide_eq_true (by omega)
          have hj2 : (j : Int) + 1 < (xs.length : Int) := by omega
          have hj3 : (j : Int) < (xs.length : Int) := by omega
          have hjw : IntKind.i64.wrap (j : Int) = (j : Int) := IntWalk.i64_in _ ⟨by omega, by omega⟩
          have KEEP : Hid (∀ w1, Below wr.heap.size wr w1 → w1.cell? ⟨b, off + (j + 1) * 5, none⟩ = some (.string d.task) ∧ w1.cell? ⟨b, off + (j + 1) * 5 + 1, none⟩ = some (.slice a0 d.on.length c0) ∧ w1.cell? ⟨b, off + (j + 1) * 5 + 2, none⟩ = some (.slice a1 d.ins.length c1) ∧ w1.cell? ⟨b, off + (j + 1) * 5 + 3, none⟩ = some (.slice a2 d.envs.length c2) ∧ w1.cell? ⟨b, off + (j + 1) * 5 + 4, none⟩ = some (.bool d.keep) ∧ w1.cell? ⟨b, off + j * 5, none⟩ = some (.string c.task)) := fun w1 h => ⟨(h.cell (by simpa using hbb)).trans e0, (h.cell (by simpa using hbb)).trans e1, (h.cell (by simpa using hbb)).trans e2, (h.cell (by simpa using hbb)).trans e3, (h.cell (by simpa using hbb)).trans e4, (h.cell (by simpa using hbb)).trans e9⟩
          clear e0 e1 e2 e3 e4 e9
          go_wp2_with fail
          refine wp_region_held_drew (S := (fun w' => w'.cell? ⟨b, off + (j + 1) * 5, none⟩ = some (.string d.task) ∧ w'.cell? ⟨b, off + (j + 1) * 5 + 1, none⟩ = some (.slice a0 d.on.length c0) ∧ w'.cell? ⟨b, off + (j + 1) * 5 + 2, none⟩ = some (.slice a1 d.ins.length c1) ∧ w'.cell? ⟨b, off + (j + 1) * 5 + 3, none⟩ = some (.slice a2 d.envs.length c2) ∧ w'.cell? ⟨b, off + (j + 1) * 5 + 4, none⟩ = some (.bool d.keep) ∧ w'.cell? ⟨b, off + j * 5, none⟩ = some (.string c.task))) (by kernel_rfl) ?SR30 (fun hHeld => ?_)
          case SR30 => (first | (with_reducible exact KEEP.out _ hd1) | (with_reducible exact KEEP.out _ hd0))
          refine wpAnyH_take (i := 0) (oi := _) (v := ?vR30) rfl (by kernel_rfl) (by kernel_rfl) (by kernel_rfl) (fun _ _ _ h => h) (Or.inl ⟨by rfl, ?yR30⟩) hHeld ?_
          case yR30 => (intro w hSw; (try dsimp only at hSw); go_simp <;> with_reducible rfl)
          try simp only [Act.put, List.getElem_toArray, List.getElem_cons_zero, List.getElem_cons_succ, List.setIfInBounds_toArray, List.set_cons_zero, List.set_cons_succ]
          refine wpAnyH_take (i := 1) (oi := _) (v := ?vR31) rfl (by kernel_rfl) (by kernel_rfl) (by kernel_rfl) (fun _ _ _ h => h) (Or.inl ⟨by rfl, ?yR31⟩) hHeld ?_
          case yR31 => (intro w hSw; (try dsimp only at hSw); go_simp <;> with_reducible rfl)
          try simp only [Act.put, List.getElem_toArray, List.getElem_cons_zero, List.getElem_cons_succ, List.setIfInBounds_toArray, List.set_cons_zero, List.set_cons_succ]
          refine wpAnyH_take (i := 2) (oi := _) (v := ?vR32) rfl (by kernel_rfl) (by kernel_rfl) (by kernel_rfl) (fun _ _ _ h => h) (Or.inl ⟨by rfl, ?yR32⟩) hHeld ?_
          case yR32 => (intro w hSw; (try dsimp only at hSw); go_simp <;> with_reducible rfl)
          try simp only [Act.put, List.getElem_toArray, List.getElem_cons_zero, List.getElem_cons_succ, List.setIfInBounds_toArray, List.set_cons_zero, List.set_cons_succ]
          refine wpAnyH_take (i := 3) (oi := _) (v := ?vR33) rfl (by kernel_rfl) (by kernel_rfl) (by kernel_rfl) (fun _ _ _ h => h) (Or.inl ⟨by rfl, ?yR33⟩) hHeld ?_
          case yR33 => (intro w hSw; (try dsimp only at hSw); go_simp <;> with_reducible rfl)
          try simp only [Act.put, List.getElem_toArray, List.getElem_cons_zero, List.getElem_cons_succ, List.setIfInBounds_toArray, List.set_cons_zero, List.set_cons_succ]
          refine wpAnyH_ready (rs := [4]) (by kernel_rfl) (by simp) ?_
          refine AllReadyH.cons rfl (fun K hK => ?_) AllReadyH.nil
          go_simp
          go_wp2_with (go_at_call 91; refine (HC.out _ hd0).mono ?_; rintro e w1 ⟨rfl, b1⟩; have hd1 : Below wr.heap.size wr w1 := hd0.trans (b1.mono hd0.size))
          clear hHeld
          refine hK.out _ _ ?SR35 (fun hHeld => ?_)
          case SR35 => ((try dsimp only); first | (with_reducible exact KEEP.out _ hd1) | (with_reducible exact KEEP.out _ hd0))
          clear hK K
          refine wpAnyH_take (i := 5) (oi := _) (v := ?vR35) rfl (by kernel_rfl) (by kernel_rfl) (by kernel_rfl) (fun _ _ _ h => h) (Or.inl ⟨by rfl, ?yR35⟩) hHeld ?_
          case yR35 => (intro w hSw; (try dsimp only at hSw); go_simp <;> with_reducible rfl)
          try simp only [Act.put, List.getElem_toArray, List.getElem_cons_zero, List.getElem_cons_succ, List.setIfInBounds_toArray, List.set_cons_zero, List.set_cons_succ]
          refine wpAnyH_take (i := 6) (oi := _) (v := ?vR36) rfl (by kernel_rfl) (by kernel_rfl) (by kernel_rfl) (fun _ _ _ h => h) (Or.inl ⟨by rfl, ?yR36⟩) hHeld ?_
          case yR36 => (intro w hSw; (try dsimp only at hSw); go_simp <;> with_reducible rfl)
          try simp only [Act.put, List.getElem_toArray, List.getElem_cons_zero, List.getElem_cons_succ, List.setIfInBounds_toArray, List.set_cons_zero, List.set_cons_succ]
          refine wpAnyH_take (i := 7) (oi := _) (v := ?vR37) rfl (by kernel_rfl) (by kernel_rfl) (by kernel_rfl) (fun _ _ _ h => h) (Or.inl ⟨by rfl, ?yR37⟩) hHeld ?_
          case yR37 => (intro w hSw; (try dsimp only at hSw); go_simp <;> with_reducible rfl)
          try simp only [Act.put, List.getElem_toArray, List.getElem_cons_zero, List.getElem_cons_succ, List.setIfInBounds_toArray, List.set_cons_zero, List.set_cons_succ]
          refine wpAnyH_take (i := 8) (oi := _) (v := ?vR38) rfl (by kernel_rfl) (by kernel_rfl) (by kernel_rfl) (fun _ _ _ h => h) (Or.inl ⟨by rfl, ?yR38⟩) hHeld ?_
          case yR38 => (intro w hSw; (try dsimp only at hSw); go_simp <;> with_reducible rfl)
          try simp only [Act.put, List.getElem_toArray, List.getElem_cons_zero, List.getElem_cons_succ, List.setIfInBounds_toArray, List.set_cons_zero, List.set_cons_succ]
          refine wpAnyH_take (i := 9) (oi := _) (v := ?vR39) rfl (by kernel_rfl) (by kernel_rfl) (by kernel_rfl) (fun _ _ _ h => h) (Or.inl ⟨by rfl, ?yR39⟩) hHeld ?_
          case yR39 => (intro w hSw; (try dsimp only at hSw); go_simp <;> with_reducible rfl)
          try simp only [Act.put, List.getElem_toArray, List.getElem_cons_zero, List.getElem_cons_succ, List.setIfInBounds_toArray, List.set_cons_zero, List.set_cons_succ]
          refine wpAnyH_take (i := 10) (oi := _) (v := ?vR310) rfl (by kernel_rfl) (by kernel_rfl) (by kernel_rfl) (fun _ _ _ h => h) (Or.inl ⟨by rfl, ?yR310⟩) hHeld ?_
          case yR310 => (intro w hSw; (try dsimp only at hSw); go_simp <;> with_reducible rfl)
          try simp only [Act.put, List.getElem_toArray, List.getElem_cons_zero, List.getElem_cons_succ, List.setIfInBounds_toArray, List.set_cons_zero, List.set_cons_succ]
          refine wpAnyH_take (i := 11) (oi := _) (v := ?vR311) rfl (by kernel_rfl) (by kernel_rfl) (by kernel_rfl) (fun _ _ _ h => h) (Or.inl ⟨by rfl, ?yR311⟩) hHeld ?_
          case yR311 => (intro w hSw; (try dsimp only at hSw); go_simp <;> with_reducible rfl)
          try simp only [Act.put, List.getElem_toArray, List.getElem_cons_zero, List.getElem_cons_succ, List.setIfInBounds_toArray, List.set_cons_zero, List.set_cons_succ]
          refine wpAnyH_take (i := 12) (oi := _) (v := ?vR312) rfl (by kernel_rfl) (by kernel_rfl) (by kernel_rfl) (fun _ _ _ h => h) (Or.inl ⟨by rfl, ?yR312⟩) hHeld ?_
          case yR312 => (intro w hSw; (try dsimp only at hSw); go_simp <;> with_reducible rfl)
          try simp only [Act.put, List.getElem_toArray, List.getElem_cons_zero, List.getElem_cons_succ, List.setIfInBounds_toArray, List.set_cons_zero, List.set_cons_succ]
          refine wpAnyH_take (i := 13) (oi := _) (v := ?vR313) rfl (by kernel_rfl) (by kernel_rfl) (by kernel_rfl) (fun _ _ _ h => h) (Or.inl ⟨by rfl, ?yR313⟩) hHeld ?_
          case yR313 => (intro w hSw; (try dsimp only at hSw); go_simp <;> with_reducible rfl)
          try simp only [Act.put, List.getElem_toArray, List.getElem_cons_zero, List.getElem_cons_succ, List.setIfInBounds_toArray, List.set_cons_zero, List.set_cons_succ]
          refine wpAnyH_take (i := 14) (oi := _) (v := ?vR314) rfl (by kernel_rfl) (by kernel_rfl) (by kernel_rfl) (fun _ _ _ h => h) (Or.inl ⟨by rfl, ?yR314⟩) hHeld ?_
          case yR314 => (intro w hSw; (try dsimp only at hSw); go_simp <;> with_reducible rfl)
          try simp only [Act.put, List.getElem_toArray, List.getElem_cons_zero, List.getElem_cons_succ, List.setIfInBounds_toArray, List.set_cons_zero, List.set_cons_succ]
          refine wpAnyH_take (i := 15) (oi := _) (v := ?vR315) rfl (by kernel_rfl) (by kernel_rfl) (by kernel_rfl) (fun _ _ _ h => h) (Or.inl ⟨by rfl, ?yR315⟩) hHeld ?_
          case yR315 => (intro w hSw; (try dsimp only at hSw); go_simp <;> with_reducible rfl)
          try simp only [Act.put, List.getElem_toArray, List.getElem_cons_zero, List.getElem_cons_succ, List.setIfInBounds_toArray, List.set_cons_zero, List.set_cons_succ]
          refine wpAnyH_take (i := 16) (oi := _) (v := ?vR316) rfl (by kernel_rfl) (by kernel_rfl) (by kernel_rfl) (fun _ _ _ h => h) (Or.inl ⟨by rfl, ?yR316⟩) hHeld ?_
          case yR316 => (intro w hSw; (try dsimp only at hSw); go_simp <;> with_reducible rfl)
          try simp only [Act.put, List.getElem_toArray, List.getElem_cons_zero, List.getElem_cons_succ, List.setIfInBounds_toArray, List.set_cons_zero, List.set_cons_succ]
          refine wpAnyH_take (i := 17) (oi := _) (v := ?vR317) rfl (by kernel_rfl) (by kernel_rfl) (by kernel_rfl) (fun _ _ _ h => h) (Or.inl ⟨by rfl, ?yR317⟩) hHeld ?_
          case yR317 => (intro w hSw; (try dsimp only at hSw); go_simp <;> with_reducible rfl)
          try simp only [Act.put, List.getElem_toArray, List.getElem_cons_zero, List.getElem_cons_succ, List.setIfInBounds_toArray, List.set_cons_zero, List.set_cons_succ]
          refine wpAnyH_take (i := 18) (oi := _) (v := ?vR318) rfl (by kernel_rfl) (by kernel_rfl) (by kernel_rfl) (fun _ _ _ h => h) (Or.inl ⟨by rfl, ?yR318⟩) hHeld ?_
          case yR318 => (intro w hSw; (try dsimp only at hSw); go_simp <;> with_reducible rfl)
          try simp only [Act.put, List.getElem_toArray, List.getElem_cons_zero, List.getElem_cons_succ, List.setIfInBounds_toArray, List.set_cons_zero, List.set_cons_succ]
          refine wpAnyH_take (i := 19) (oi := _) (v := ?vR319) rfl (by kernel_rfl) (by kernel_rfl) (by kernel_rfl) (fun _ _ _ h => h) (Or.inl ⟨by rfl, ?yR319⟩) hHeld ?_
          case yR319 => (intro w hSw; (try dsimp only at hSw); go_simp <;> with_reducible rfl)
          try simp only [Act.put, List.getElem_toArray, List.getElem_cons_zero, List.getElem_cons_succ, List.setIfInBounds_toArray, List.set_cons_zero, List.set_cons_succ]
          refine wpAnyH_take (i := 20) (oi := _) (v := ?vR320) rfl (by kernel_rfl) (by kernel_rfl) (by kernel_rfl) (fun _ _ _ h => h) (Or.inl ⟨by rfl, ?yR320⟩) hHeld ?_
          case yR320 => (intro w hSw; (try dsimp only at hSw); go_simp <;> with_reducible rfl)
          try simp only [Act.put, List.getElem_toArray, List.getElem_cons_zero, List.getElem_cons_succ, List.setIfInBounds_toArray, List.set_cons_zero, List.set_cons_succ]
          refine wpAnyH_take (i := 21) (oi := _) (v := ?vR321) rfl (by kernel_rfl) (by kernel_rfl) (by kernel_rfl) (fun _ _ _ h => h) (Or.inl ⟨by rfl, ?yR321⟩) hHeld ?_
          case yR321 => (intro w hSw; (try dsimp only at hSw); go_simp <;> with_reducible rfl)
          try simp only [Act.put, List.getElem_toArray, List.getElem_cons_zero, List.getElem_cons_succ, List.setIfInBounds_toArray, List.set_cons_zero, List.set_cons_succ]
          refine wpAnyH_take (i := 22) (oi := _) (v := ?vR322) rfl (by kernel_rfl) (by kernel_rfl) (by kernel_rfl) (fun _ _ _ h => h) (Or.inl ⟨by rfl, ?yR322⟩) hHeld ?_
          case yR322 => (intro w hSw; (try dsimp only at hSw); go_simp <;> with_reducible rfl)
          try simp only [Act.put, List.getElem_toArray, List.getElem_cons_zero, List.getElem_cons_succ, List.setIfInBounds_toArray, List.set_cons_zero, List.set_cons_succ]
          refine wpAnyH_take (i := 23) (oi := _) (v := ?vR323) rfl (by kernel_rfl) (by kernel_rfl) (by kernel_rfl) (fun _ _ _ h => h) (Or.inl ⟨by rfl, ?yR323⟩) hHeld ?_
          case yR323 => (intro w hSw; (try dsimp only at hSw); go_simp <;> with_reducible rfl)
          try simp only [Act.put, List.getElem_toArray, List.getElem_cons_zero, List.getElem_cons_succ, List.setIfInBounds_toArray, List.set_cons_zero, List.set_cons_succ]
          refine wpAnyH_done (by kernel_rfl) ?_ _
          go_wp2_with fail
          · have hlx : (!Op.bytesLess c.task.toList d.task.toList) = true := by assumption
            go_ret
            exact ⟨by rw [HB.out (rowOk_less (by simpa using hlx))]; rfl, hbr.trans (hd1.mono hbr.size)⟩
          · have hlx : (!Op.bytesLess c.task.toList d.task.toList) = false := by assumption
            go_roundw
            case rel => exact ⟨j + 1 + 1, by omega, by go_num, HG.out (by rw [rowOk_some HX.out]; simpa using hlx), hbr.trans (hd1.mono hbr.size)⟩
            case measure => simp [intOf]; omega
    · have he : k = xs.length := by omega
      subst he
      have HE : Hid (Q = true) := HQ.out.trans hh.out
      clear ha hh HQ
      by_cases hm : xs.length ≤ 5
      · have hm' : (xs.length : Int) ≤ 5 := by omega
        go_wp2_with fail
        go_ret
        exact ⟨by first | rfl | (rw [HE.out, decide_eq_true hm]; rfl) | (rw [HE.out, decide_eq_true hm]; simp [hm]; done) | rfl | simp [hm] | (simp; omega), hbr⟩
      · have hm' : ¬ (xs.length : Int) ≤ 5 := by omega
        go_wp2_with fail
        go_ret
        exact ⟨by first | rfl | (rw [HE.out, decide_eq_false hm]; rfl) | rfl | simp [hm] | (simp; omega), hbr⟩
end Go.Proofs.YtkkhnldhipfneaaGreatDoor

/-! The rule of a value, as the specification reads it: contract; conditions: the value lies in memory. -/
namespace Go.Proofs.YtkkhnldhipfneaaGreatDoor
open Go.RowKit
set_option linter.unusedSimpArgs false
set_option linter.unusedVariables false

theorem res_cellT {tmps : Array Value} {w : World} {p : Nat} {v0 v1 v2 v3 v4 : Value} {y : Bool} (h4 : tmps.getD 4 undef = .pointer (some ⟨p, 0, none⟩)) (h5 : tmps.getD 5 undef = .bool y) (hp : w.heap[p]? = some (.cells #[v0, v1, v2, v3, v4] 51 (0, 0))) :
    (results Tryz.f21 tmps).run Tryz.prog w = .ok (.tuple #[.agg #[v0, v1, v2, v3, v4], .bool y]) w := by
  have h4' : tmps[4]?.getD undef = .pointer (some ⟨p, 0, none⟩) := by simpa using h4
  have h5' : tmps[5]?.getD undef = .bool y := by simpa using h5
  have y0 := vblk_cell hp 0
  have y1 := vblk_cell hp 1
  have y2 := vblk_cell hp 2
  have y3 := vblk_cell hp 3
  have y4 := vblk_cell hp 4
  simp only [List.getElem?_toArray, List.getElem?_cons_succ, List.getElem?_cons_zero] at y0 y1 y2 y3 y4
  simp [results, Tryz.results21, h4', h5', asAddr, go_sem, y0, y1, y2, y3, y4, Result.andThen]
/-- A rule put into its box, and what that leaves. -/
theorem zero_end {w W : World} {p4 : Nat} {a0 a1 a2 a3 a4 : Value} {tmps : Array Value} {t : ByteArray} {T : Tree} (hbw : Below w.heap.size w W) (hp : w.heap.size ≤ p4) (hq : W.heap[p4]? = some (.cells #[a0, a1, a2, a3, a4] 51 (0, 0))) (hno : ruleOfT t T = none) (h4 : tmps.getD 4 undef = .pointer (some ⟨p4, 0, none⟩)) (h5 : tmps.getD 5 undef = .bool false) :
    bodyPost Tryz.prog Tryz.f21 (fun e w' => Below w.heap.size w w' ∧ ∃ u0 u1 u2, e = .returned (.tuple #[.agg #[.string (ruleD t T).task, u0, u1, u2, .bool (ruleD t T).keep], .bool (ruleY t T)]) ∧ Rec3 w.heap.size w'.heap.size w' u0 u1 u2 (ruleD t T)) .ret { tmps := tmps, defers := [] } (((((W.setCell ⟨p4, 0, none⟩ (.string ⟨#[]⟩)).setCell ⟨p4, 1, none⟩ (.slice none 0 0)).setCell ⟨p4, 2, none⟩ (.slice none 0 0)).setCell ⟨p4, 3, none⟩ (.slice none 0 0)).setCell ⟨p4, 4, none⟩ (.bool false)) := by
  have hq5 := five_put hq (.string ⟨#[]⟩) (.slice none 0 0) (.slice none 0 0) (.slice none 0 0) (.bool false)
  have k5 := five_chg W p4 (.string ⟨#[]⟩) (.slice none 0 0) (.slice none 0 0) (.slice none 0 0) (.bool false)
  refine bodyPost_ret (res_cellT h4 h5 hq5) rfl ?_
  have hD : ruleD t T = ⟨⟨#[]⟩, [], [], [], false⟩ := by unfold ruleD; rw [hno]; rfl
  have hY : ruleY t T = false := by unfold ruleY; rw [hno]; rfl
  rw [hD, hY]
  exact ⟨below_chgW hbw k5 (fun b hb => by omega) hbw.size, _, _, _, rfl, (rec3_nilT (Nat.zero_le _)).wide (Nat.le_refl _) (Nat.le_refl _) (Nat.le_refl _)⟩
set_option maxHeartbeats 4000000 in
set_option maxRecDepth 100000 in
theorem specRuleOf_c (T : Tree) (S : Nat → Prop) (v : Value) (t : ByteArray) (w : World) (hv : Lies S w v T) (hB : ∀ b, S b → b < w.heap.size) (ht : t.size ≤ 1048576) :
    Calls Tryz.prog 21 #[.string t, v] w fun e w' => Below w.heap.size w w' ∧ ∃ u0 u1 u2, e = .returned (.tuple #[.agg #[.string (ruleD t T).task, u0, u1, u2, .bool (ruleD t T).keep], .bool (ruleY t T)]) ∧ Rec3 w.heap.size w'.heap.size w' u0 u1 u2 (ruleD t T) := by
  have HOK : Hid (∀ w1, Below w.heap.size w w1 → Calls Tryz.prog 89 #[v] w1 fun e w' => e = .returned (.bool T.ok) ∧ Below w1.heap.size w1 w') := fun w1 h => specValOk_c T S v w1 (hv.keep (.of h hB)) (fun b hb => Nat.lt_of_lt_of_le (hB b hb) h.size)
  obtain ⟨k, n, s, l, ks⟩ := T
  obtain ⟨c, u, rfl, hs, hk, hl, hu⟩ := hv.out
  obtain ⟨a, cap, rfl, hlm, hcp, ha⟩ := hl.at
  obtain ⟨qk, capk, hqk, hkc, hkx⟩ := id hu
  rw [length_strsV] at hqk
  subst hqk
  have hb3 : Below w.heap.size w (((w.alloc (.cells #[.int .i64 k, .int .i64 n, .string s, .slice a l.length cap, .slice qk ks.length capk] 56 (0, 0))).alloc (.cells #[.string ⟨#[]⟩, .slice none 0 0, .slice none 0 0, .slice none 0 0, .bool false] 51 (0, 0))).alloc (.cells #[.string t, .slice none 0 0, .slice none 0 0, .slice none 0 0, .bool true] 51 (0, 0))) := (((Below.refl _ _).alloc (Nat.le_refl _) _).alloc (by simp) _).alloc (by simp; omega) _
  have hsz : (((w.alloc (.cells #[.int .i64 k, .int .i64 n, .string s, .slice a l.length cap, .slice qk ks.length capk] 56 (0, 0))).alloc (.cells #[.string ⟨#[]⟩, .slice none 0 0, .slice none 0 0, .slice none 0 0, .bool false] 51 (0, 0))).alloc (.cells #[.string t, .slice none 0 0, .slice none 0 0, .slice none 0 0, .bool true] 51 (0, 0))).heap.size = w.heap.size + 3 := by simp
  have hb9 : Below ((w.alloc (.cells #[.int .i64 k, .int .i64 n, .string s, .slice a l.length cap, .slice qk ks.length capk] 56 (0, 0))).alloc (.cells #[.string ⟨#[]⟩, .slice none 0 0, .slice none 0 0, .slice none 0 0, .bool false] 51 (0, 0))).heap.size ((w.alloc (.cells #[.int .i64 k, .int .i64 n, .string s, .slice a l.length cap, .slice qk ks.length capk] 56 (0, 0))).alloc (.cells #[.string ⟨#[]⟩, .slice none 0 0, .slice none 0 0, .slice none 0 0, .bool false] 51 (0, 0))) (((w.alloc (.cells #[.int .i64 k, .int .i64 n, .string s, .slice a l.length cap, .slice qk ks.length capk] 56 (0, 0))).alloc (.cells #[.string ⟨#[]⟩, .slice none 0 0, .slice none 0 0, .slice none 0 0, .bool false] 51 (0, 0))).alloc (.cells #[.string t, .slice none 0 0, .slice none 0 0, .slice none 0 0, .bool true] 51 (0, 0))) := (Below.refl _ _).alloc (Nat.le_refl _) _
  have hP : (((w.alloc (.cells #[.int .i64 k, .int .i64 n, .string s, .slice a l.length cap, .slice qk ks.length capk] 56 (0, 0))).alloc (.cells #[.string ⟨#[]⟩, .slice none 0 0, .slice none 0 0, .slice none 0 0, .bool false] 51 (0, 0))).alloc (.cells #[.string t, .slice none 0 0, .slice none 0 0, .slice none 0 0, .bool true] 51 (0, 0))).heap[w.heap.size + 2]? = some (.cells #[.string t, .slice none 0 0, .slice none 0 0, .slice none 0 0, .bool true] 51 (0, 0)) := by
    have := vheap_new ((w.alloc (.cells #[.int .i64 k, .int .i64 n, .string s, .slice a l.length cap, .slice qk ks.length capk] 56 (0, 0))).alloc (.cells #[.string ⟨#[]⟩, .slice none 0 0, .slice none 0 0, .slice none 0 0, .bool false] 51 (0, 0))) (.cells #[.string t, .slice none 0 0, .slice none 0 0, .slice none 0 0, .bool true] 51 (0, 0))
    rwa [show ((w.alloc (.cells #[.int .i64 k, .int .i64 n, .string s, .slice a l.length cap, .slice qk ks.length capk] 56 (0, 0))).alloc (.cells #[.string ⟨#[]⟩, .slice none 0 0, .slice none 0 0, .slice none 0 0, .bool false] 51 (0, 0))).heap.size = w.heap.size + 2 by simp] at this
  have hZ : (((w.alloc (.cells #[.int .i64 k, .int .i64 n, .string s, .slice a l.length cap, .slice qk ks.length capk] 56 (0, 0))).alloc (.cells #[.string ⟨#[]⟩, .slice none 0 0, .slice none 0 0, .slice none 0 0, .bool false] 51 (0, 0))).alloc (.cells #[.string t, .slice none 0 0, .slice none 0 0, .slice none 0 0, .bool true] 51 (0, 0))).heap[w.heap.size + 1]? = some (.cells #[.string ⟨#[]⟩, .slice none 0 0, .slice none 0 0, .slice none 0 0, .bool false] 51 (0, 0)) := (hb9.block _ (by simp)).trans (two_boxes (w := w) (.cells #[.int .i64 k, .int .i64 n, .string s, .slice a l.length cap, .slice qk ks.length capk] 56 (0, 0)) (.cells #[.string ⟨#[]⟩, .slice none 0 0, .slice none 0 0, .slice none 0 0, .bool false] 51 (0, 0))).2
  have hA : (((w.alloc (.cells #[.int .i64 k, .int .i64 n, .string s, .slice a l.length cap, .slice qk ks.length capk] 56 (0, 0))).alloc (.cells #[.string ⟨#[]⟩, .slice none 0 0, .slice none 0 0, .slice none 0 0, .bool false] 51 (0, 0))).alloc (.cells #[.string t, .slice none 0 0, .slice none 0 0, .slice none 0 0, .bool true] 51 (0, 0))).heap[w.heap.size]? = some (.cells #[.int .i64 k, .int .i64 n, .string s, .slice a l.length cap, .slice qk ks.length capk] 56 (0, 0)) := (hb9.block _ (by simp; omega)).trans (two_boxes (w := w) (.cells #[.int .i64 k, .int .i64 n, .string s, .slice a l.length cap, .slice qk ks.length capk] 56 (0, 0)) (.cells #[.string ⟨#[]⟩, .slice none 0 0, .slice none 0 0, .slice none 0 0, .bool false] 51 (0, 0))).1
  have HL := hidden hl
  have HLK := hidden (And.intro hlm hkx)
  have HV := hidden hv
  clear hv hl hs hk hu hb9 hlm hkx hkc hcp
  go_enter Tryz.func21, Tryz.ntmps21
  go_wp2_with fail
  obtain ⟨wa, hwa⟩ : ∃ z, z = ((w.alloc (.cells #[.int .i64 k, .int .i64 n, .string s, .slice a l.length cap, .slice qk ks.length capk] 56 (0, 0))).alloc (.cells #[.string ⟨#[]⟩, .slice none 0 0, .slice none 0 0, .slice none 0 0, .bool false] 51 (0, 0))).alloc (.cells #[.string t, .slice none 0 0, .slice none 0 0, .slice none 0 0, .bool true] 51 (0, 0)) := ⟨_, rfl⟩
  rw [← hwa] at hb3 hsz hP hZ hA
  rw [← hwa]
  obtain ⟨p6, hp6⟩ : ∃ z, z = w.heap.size + 2 := ⟨_, rfl⟩
  obtain ⟨p4, hp4⟩ : ∃ z, z = w.heap.size + 1 := ⟨_, rfl⟩
  have h12 : w.heap.size + 1 + 1 = p6 := by omega
  rw [← hp6] at hP
  rw [← hp4] at hZ
  rw [h12, ← hp4]
  have g4 : w.heap.size < p4 := by omega
  have g46 : p4 < p6 := by omega
  have l6 : p6 < wa.heap.size := by omega
  clear hwa hp6 hp4 h12 hsz
  go_at_call 89
  refine (HOK.out _ hb3).mono ?_
  rintro e w1 ⟨rfl, b1⟩
  have hA1 := (b1.block w.heap.size (by omega)).trans hA
  have hZ1 := (b1.block p4 (by omega)).trans hZ
  have hP1 := (b1.block p6 l6).trans hP
  have hw1 := hb3.trans (b1.mono hb3.size)
  have l61 : p6 < w1.heap.size := Nat.lt_of_lt_of_le l6 b1.size
  clear HOK hA hZ hP hb3 b1 l6
  have x0 := vblk_cell hA1 0
  have z0 := vblk_cell hZ1 0
  have z1 := vblk_cell hZ1 1
  have z2 := vblk_cell hZ1 2
  have z3 := vblk_cell hZ1 3
  have z4 := vblk_cell hZ1 4
  simp only [List.getElem?_toArray, List.getElem?_cons_succ, List.getElem?_cons_zero] at x0 z0 z1 z2 z3 z4
  have f0 := vblk_frozen hZ1 0
  have f1 := vblk_frozen hZ1 1
  have f2 := vblk_frozen hZ1 2
  have f3 := vblk_frozen hZ1 3
  have f4 := vblk_frozen hZ1 4
  by_cases hok : (Tree.mk k n s l ks).ok = true ∧ k = 5
  case neg =>
    have hno : ruleOfT t (Tree.mk k n s l ks) = none := by
      unfold ruleOfT
      rw [if_neg]
      intro h
      simp only [Bool.and_eq_true, beq_iff_eq] at h
      exact hok h
    have HN := hidden hno
    clear HV HL HLK ha
    cases hq : (Tree.mk k n s l ks).ok with
    | false =>
      clear hok hno
      go_wp2_with fail
      exact zero_end hw1 (by omega) hZ1 HN.out rfl rfl
    | true =>
      have h5 : ¬ k = (5 : Int) := fun h => hok ⟨hq, h⟩
      clear hok hno
      go_wp2_with fail
      exact zero_end hw1 (by omega) hZ1 HN.out rfl rfl
  obtain ⟨hok1, rfl⟩ := hok
  obtain ⟨hkl, hkids, hlen⟩ := ok_five hok1 rfl
  have hkl : ks.length = l.length := hkl
  have hlen : l.length ≤ 80 := hlen
  have hkids : ∀ U ∈ l, U.good 2 = true ∧ U.nodes ≤ 80 := hkids
  have HR : Hid (ruleOfT t (Tree.mk 5 n s l ks) = (putAll ks l ⟨t, [], [], [], true⟩).bind fun r => if ruleB r then some r else none) := by
    show _ = _
    unfold ruleOfT
    rw [if_pos (by rw [hok1]; rfl)]
    rfl
  rw [hok1]
  obtain ⟨R, hR⟩ : ∃ R, R = ruleOfT t (Tree.mk 5 n s l ks) := ⟨_, rfl⟩
  rw [← hR] at HR
  have HRR := hidden hR
  obtain ⟨P, hP⟩ : ∃ P, P = putAll ks l ⟨t, [], [], [], true⟩ := ⟨_, rfl⟩
  rw [← hP] at HR
  have hst0 : RuSt w1 p6 t w1 ⟨t, [], [], [], true⟩ (.slice none 0 0) (.slice none 0 0) (.slice none 0 0) := by
    have hsm : t.size ≤ maxLen := by unfold maxLen; omega
    have h9 := rec3_nilT (W := w1) (lo := w1.heap.size) (k := true) hsm
    exact ⟨hP1, ⟨_, h9⟩, ⟨⟨Nat.zero_le _, fun s hs => by cases hs⟩, ⟨Nat.zero_le _, fun s hs => by cases hs⟩, ⟨Nat.zero_le _, fun s hs => by cases hs⟩⟩, rfl, Chg.refl _ _, l61⟩
  clear hok1 hR
  go_wp2_with fail
  clear x0 z0 z1 z2 z3 z4 f0 f1 f2 f3 f4
  go_loopw [7] (fun vi wr => ∃ (i : Nat) (r : RuleD) (u0 u1 u2 : Value), i ≤ l.length ∧ vi = .int .i64 (i : Int) ∧ RuSt w1 p6 t wr r u0 u1 u2 ∧ putAll (ks.drop i) (l.drop i) r = P) (fun vi _ => l.length - (intOf vi).toNat)
  case atStart => exact ⟨0, _, _, _, _, Nat.zero_le _, rfl, hst0, hP.symm⟩
  case round =>
    obtain ⟨i, r, u0, u1, u2, hi, rfl, hst, hput⟩ := hrel
    clear hst0 hP
    have hA2 := (hst.c.block w.heap.size (by omega) (by omega)).trans hA1
    have x3 := vblk_cell hA2 3
    simp only [List.getElem?_toArray, List.getElem?_cons_succ, List.getElem?_cons_zero] at x3
    by_cases hlt : i < l.length
    · rw [putAll_step hlt hkl] at hput
      obtain ⟨hgU, hnU⟩ := hkids _ (List.getElem_mem hlt)
      rcases ha with rfl | ⟨b, off, rfl, hlb, ha⟩
      · simp at hlt
      obtain ⟨c0, c1, c2, c3, c4, e0, e1, e2, e3, e4, hTi⟩ := ha i hlt
      rcases HLK.out.2 with hnil | ⟨bk, ok, rfl, hlbk, hkx⟩
      · have : (strsV ks).length = 0 := by rw [hnil]; rfl
        rw [length_strsV] at this
        omega
      have eK : w.cell? ⟨bk, ok + i, none⟩ = some (.string (ks[i]'(by omega))) := by
        rw [hkx i (by rw [length_strsV]; omega)]
        simp [strsV]
      obtain ⟨U, hU⟩ : ∃ U, U = l[i] := ⟨_, rfl⟩
      rw [← hU] at hput hgU hnU hTi
      obtain ⟨K, hK⟩ : ∃ K, K = ks[i]'(by omega) := ⟨_, rfl⟩
      rw [← hK] at hput eK
      have hbB := hB b hlb
      have hbK := hB bk hlbk
      have KEEP : Hid (∀ W, Chg (fun g => g = p6) w1 W →  W.cell? ⟨w.heap.size, 3, none⟩ = some (.slice (some ⟨b, off, none⟩) l.length cap) ∧ W.cell? ⟨w.heap.size, 4, none⟩ = some (.slice (some ⟨bk, ok, none⟩) ks.length capk) ∧ W.cell? ⟨bk, ok + i, none⟩ = some (.string K) ∧ W.cell? ⟨b, off + i * 5, none⟩ = some c0 ∧ W.cell? ⟨b, off + i * 5 + 1, none⟩ = some c1 ∧ W.cell? ⟨b, off + i * 5 + 2, none⟩ = some c2 ∧ W.cell? ⟨b, off + i * 5 + 3, none⟩ = some c3 ∧ W.cell? ⟨b, off + i * 5 + 4, none⟩ = some c4) := fun W hW => by
        have a1 := (hW.block w.heap.size (by omega) (by omega)).trans hA1
        have a2 : ∀ j, W.cell? ⟨b, j, none⟩ = w.cell? ⟨b, j, none⟩ := fun j => (World.cell?_of_block (w := w1) (hW.block b (Nat.lt_of_lt_of_le hbB hw1.size) (by omega))).trans (hw1.cell (by simpa using hbB))
        have a3 : ∀ j, W.cell? ⟨bk, j, none⟩ = w.cell? ⟨bk, j, none⟩ := fun j => (World.cell?_of_block (w := w1) (hW.block bk (Nat.lt_of_lt_of_le hbK hw1.size) (by omega))).trans (hw1.cell (by simpa using hbK))
        exact ⟨vblk_cell a1 3, vblk_cell a1 4, (a3 _).trans eK, (a2 _).trans e0, (a2 _).trans e1, (a2 _).trans e2, (a2 _).trans e3, (a2 _).trans e4⟩
      have h0 : Chg (fun g => g = p6) w1 wr.drew := hst.c.trans (.of ((Below.refl _ _).drew))
      have hbwr : ∀ bb, bb < w.heap.size → wr.drew.heap[bb]? = w.heap[bb]? := fun bb hb => (h0.block bb (Nat.lt_of_lt_of_le hb hw1.size) (by omega)).trans (hw1.block bb hb)
      have HCall := hidden (l12Put_c U S (.agg #[c0, c1, c2, c3, c4]) wr.drew w1 (hTi.keep (fun g hg => hbwr g (hB g hg))) (fun g hg => Nat.lt_of_lt_of_le (hB g hg) (Nat.le_trans hw1.size h0.size)) 2 hgU hnU K p6 t r u0 u1 u2 (hst.below ((Below.refl _ _).drew)))
      have hki : (i : Int) < (l.length : Int) := by omega
      have hkk : (i : Int) < (ks.length : Int) := by omega
      clear ha hkids e0 e1 e2 e3 e4 hTi hkx eK hU hK hgU hnU hbwr HLK HL HV
      cases hpk : putK r K U with
      | none =>
        rw [hpk] at HCall
        simp only [Option.isSome_none] at HCall
        rw [hpk, Option.bind_none] at hput
        clear hpk
        go_wp2_with fail
        refine wp_region_held_drew (S := (fun W => W.cell? ⟨w.heap.size, 3, none⟩ = some (.slice (some ⟨b, off, none⟩) l.length cap) ∧ W.cell? ⟨w.heap.size, 4, none⟩ = some (.slice (some ⟨bk, ok, none⟩) ks.length capk) ∧ W.cell? ⟨bk, ok + i, none⟩ = some (.string K) ∧ W.cell? ⟨b, off + i * 5, none⟩ = some c0 ∧ W.cell? ⟨b, off + i * 5 + 1, none⟩ = some c1 ∧ W.cell? ⟨b, off + i * 5 + 2, none⟩ = some c2 ∧ W.cell? ⟨b, off + i * 5 + 3, none⟩ = some c3 ∧ W.cell? ⟨b, off + i * 5 + 4, none⟩ = some c4)) (by kernel_rfl) ?SR10 (fun hHeld => ?_)
        case SR10 => (first | (with_reducible exact KEEP.out _ h4) | (with_reducible exact KEEP.out _ h0))
        refine wpAnyH_take (i := 0) (oi := _) (v := ?vR10) rfl (by kernel_rfl) (by kernel_rfl) (by kernel_rfl) (fun _ _ _ h => h) (Or.inl ⟨by rfl, ?yR10⟩) hHeld ?_
        case yR10 => (intro w hSw; (try dsimp only at hSw); go_simp <;> with_reducible rfl)
        try simp only [Act.put, List.getElem_toArray, List.getElem_cons_zero, List.getElem_cons_succ, List.setIfInBounds_toArray, List.set_cons_zero, List.set_cons_succ]
        refine wpAnyH_take (i := 1) (oi := _) (v := ?vR11) rfl (by kernel_rfl) (by kernel_rfl) (by kernel_rfl) (fun _ _ _ h => h) (Or.inl ⟨by rfl, ?yR11⟩) hHeld ?_
        case yR11 => (intro w hSw; (try dsimp only at hSw); go_simp <;> with_reducible rfl)
        try simp only [Act.put, List.getElem_toArray, List.getElem_cons_zero, List.getElem_cons_succ, List.setIfInBounds_toArray, List.set_cons_zero, List.set_cons_succ]
        refine wpAnyH_take (i := 2) (oi := _) (v := ?vR12) rfl (by kernel_rfl) (by kernel_rfl) (by kernel_rfl) (fun _ _ _ h => h) (Or.inl ⟨by rfl, ?yR12⟩) hHeld ?_
        case yR12 => (intro w hSw; (try dsimp only at hSw); go_simp <;> with_reducible rfl)
        try simp only [Act.put, List.getElem_toArray, List.getElem_cons_zero, List.getElem_cons_succ, List.setIfInBounds_toArray, List.set_cons_zero, List.set_cons_succ]
        refine wpAnyH_take (i := 3) (oi := _) (v := ?vR13) rfl (by kernel_rfl) (by kernel_rfl) (by kernel_rfl) (fun _ _ _ h => h) (Or.inl ⟨by rfl, ?yR13⟩) hHeld ?_
        case yR13 => (intro w hSw; (try dsimp only at hSw); go_simp <;> with_reducible rfl)
        try simp only [Act.put, List.getElem_toArray, List.getElem_cons_zero, List.getElem_cons_succ, List.setIfInBounds_toArray, List.set_cons_zero, List.set_cons_succ]
        refine wpAnyH_take (i := 4) (oi := _) (v := ?vR14) rfl (by kernel_rfl) (by kernel_rfl) (by kernel_rfl) (fun _ _ _ h => h) (Or.inl ⟨by rfl, ?yR14⟩) hHeld ?_
        case yR14 => (intro w hSw; (try dsimp only at hSw); go_simp <;> with_reducible rfl)
        try simp only [Act.put, List.getElem_toArray, List.getElem_cons_zero, List.getElem_cons_succ, List.setIfInBounds_toArray, List.set_cons_zero, List.set_cons_succ]
        refine wpAnyH_take (i := 5) (oi := _) (v := ?vR15) rfl (by kernel_rfl) (by kernel_rfl) (by kernel_rfl) (fun _ _ _ h => h) (Or.inl ⟨by rfl, ?yR15⟩) hHeld ?_
        case yR15 => (intro w hSw; (try dsimp only at hSw); go_simp <;> with_reducible rfl)
        try simp only [Act.put, List.getElem_toArray, List.getElem_cons_zero, List.getElem_cons_succ, List.setIfInBounds_toArray, List.set_cons_zero, List.set_cons_succ]
        refine wpAnyH_take (i := 6) (oi := _) (v := ?vR16) rfl (by kernel_rfl) (by kernel_rfl) (by kernel_rfl) (fun _ _ _ h => h) (Or.inl ⟨by rfl, ?yR16⟩) hHeld ?_
        case yR16 => (intro w hSw; (try dsimp only at hSw); go_simp <;> with_reducible rfl)
        try simp only [Act.put, List.getElem_toArray, List.getElem_cons_zero, List.getElem_cons_succ, List.setIfInBounds_toArray, List.set_cons_zero, List.set_cons_succ]
        refine wpAnyH_take (i := 7) (oi := _) (v := ?vR17) rfl (by kernel_rfl) (by kernel_rfl) (by kernel_rfl) (fun _ _ _ h => h) (Or.inl ⟨by rfl, ?yR17⟩) hHeld ?_
        case yR17 => (intro w hSw; (try dsimp only at hSw); go_simp <;> with_reducible rfl)
        try simp only [Act.put, List.getElem_toArray, List.getElem_cons_zero, List.getElem_cons_succ, List.setIfInBounds_toArray, List.set_cons_zero, List.set_cons_succ]
        refine wpAnyH_take (i := 8) (oi := _) (v := ?vR18) rfl (by kernel_rfl) (by kernel_rfl) (by kernel_rfl) (fun _ _ _ h => h) (Or.inl ⟨by rfl, ?yR18⟩) hHeld ?_
        case yR18 => (intro w hSw; (try dsimp only at hSw); go_simp <;> with_reducible rfl)
        try simp only [Act.put, List.getElem_toArray, List.getElem_cons_zero, List.getElem_cons_succ, List.setIfInBounds_toArray, List.set_cons_zero, List.set_cons_succ]
        refine wpAnyH_take (i := 9) (oi := _) (v := ?vR19) rfl (by kernel_rfl) (by kernel_rfl) (by kernel_rfl) (fun _ _ _ h => h) (Or.inl ⟨by rfl, ?yR19⟩) hHeld ?_
        case yR19 => (intro w hSw; (try dsimp only at hSw); go_simp <;> with_reducible rfl)
        try simp only [Act.put, List.getElem_toArray, List.getElem_cons_zero, List.getElem_cons_succ, List.setIfInBounds_toArray, List.set_cons_zero, List.set_cons_succ]
        refine wpAnyH_ready (rs := [10]) (by kernel_rfl) (by simp) ?_
        refine AllReadyH.cons rfl (fun K hK => ?_) AllReadyH.nil
        go_simp
        go_wp2_with (go_at_call 90; refine HCall.out.mono ?_; rintro e w4 ⟨r', v0, v1, v2, rfl, hst4, hr4⟩; have h4 := hst4.c)
        clear hHeld
        refine hK.out _ _ ?SR111 (fun hHeld => ?_)
        case SR111 => ((try dsimp only); first | (with_reducible exact KEEP.out _ h4) | (with_reducible exact KEEP.out _ h0))
        clear hK K
        refine wpAnyH_take (i := 11) (oi := _) (v := ?vR111) rfl (by kernel_rfl) (by kernel_rfl) (by kernel_rfl) (fun _ _ _ h => h) (Or.inl ⟨by rfl, ?yR111⟩) hHeld ?_
        case yR111 => (intro w hSw; (try dsimp only at hSw); go_simp <;> with_reducible rfl)
        try simp only [Act.put, List.getElem_toArray, List.getElem_cons_zero, List.getElem_cons_succ, List.setIfInBounds_toArray, List.set_cons_zero, List.set_cons_succ]
        refine wpAnyH_done (by kernel_rfl) ?_ _
        have hZ4 := (hst4.c.block p4 (by omega) (by omega)).trans hZ1
        have z0 := vblk_cell hZ4 0
        have z1 := vblk_cell hZ4 1
        have z2 := vblk_cell hZ4 2
        have z3 := vblk_cell hZ4 3
        have z4 := vblk_cell hZ4 4
        simp only [List.getElem?_toArray, List.getElem?_cons_succ, List.getElem?_cons_zero] at z0 z1 z2 z3 z4
        have f0 := vblk_frozen hZ4 0
        have f1 := vblk_frozen hZ4 1
        have f2 := vblk_frozen hZ4 2
        have f3 := vblk_frozen hZ4 3
        have f4 := vblk_frozen hZ4 4
        clear hHeld
        go_wp2_with fail
        exact zero_end (below_chgW hw1 hst4.c (fun b hb => by omega) hw1.size) (by omega) hZ4 (by rw [← HRR.out, HR.out, ← hput]; rfl) rfl rfl
      | some r2 =>
        rw [hpk] at HCall
        simp only [Option.isSome_some] at HCall
        rw [hpk, Option.bind_some] at hput
        clear hpk
        go_wp2_with fail
        refine wp_region_held_drew (S := (fun W => W.cell? ⟨w.heap.size, 3, none⟩ = some (.slice (some ⟨b, off, none⟩) l.length cap) ∧ W.cell? ⟨w.heap.size, 4, none⟩ = some (.slice (some ⟨bk, ok, none⟩) ks.length capk) ∧ W.cell? ⟨bk, ok + i, none⟩ = some (.string K) ∧ W.cell? ⟨b, off + i * 5, none⟩ = some c0 ∧ W.cell? ⟨b, off + i * 5 + 1, none⟩ = some c1 ∧ W.cell? ⟨b, off + i * 5 + 2, none⟩ = some c2 ∧ W.cell? ⟨b, off + i * 5 + 3, none⟩ = some c3 ∧ W.cell? ⟨b, off + i * 5 + 4, none⟩ = some c4)) (by kernel_rfl) ?SR20 (fun hHeld => ?_)
        case SR20 => (first | (with_reducible exact KEEP.out _ h4) | (with_reducible exact KEEP.out _ h0))
        refine wpAnyH_take (i := 0) (oi := _) (v := ?vR20) rfl (by kernel_rfl) (by kernel_rfl) (by kernel_rfl) (fun _ _ _ h => h) (Or.inl ⟨by rfl, ?yR20⟩) hHeld ?_
        case yR20 => (intro w hSw; (try dsimp only at hSw); go_simp <;> with_reducible rfl)
        try simp only [Act.put, List.getElem_toArray, List.getElem_cons_zero, List.getElem_cons_succ, List.setIfInBounds_toArray, List.set_cons_zero, List.set_cons_succ]
        refine wpAnyH_take (i := 1) (oi := _) (v := ?vR21) rfl (by kernel_rfl) (by kernel_rfl) (by kernel_rfl) (fun _ _ _ h => h) (Or.inl ⟨by rfl, ?yR21⟩) hHeld ?_
        case yR21 => (intro w hSw; (try dsimp only at hSw); go_simp <;> with_reducible rfl)
        try simp only [Act.put, List.getElem_toArray, List.getElem_cons_zero, List.getElem_cons_succ, List.setIfInBounds_toArray, List.set_cons_zero, List.set_cons_succ]
        refine wpAnyH_take (i := 2) (oi := _) (v := ?vR22) rfl (by kernel_rfl) (by kernel_rfl) (by kernel_rfl) (fun _ _ _ h => h) (Or.inl ⟨by rfl, ?yR22⟩) hHeld ?_
        case yR22 => (intro w hSw; (try dsimp only at hSw); go_simp <;> with_reducible rfl)
        try simp only [Act.put, List.getElem_toArray, List.getElem_cons_zero, List.getElem_cons_succ, List.setIfInBounds_toArray, List.set_cons_zero, List.set_cons_succ]
        refine wpAnyH_take (i := 3) (oi := _) (v := ?vR23) rfl (by kernel_rfl) (by kernel_rfl) (by kernel_rfl) (fun _ _ _ h => h) (Or.inl ⟨by rfl, ?yR23⟩) hHeld ?_
        case yR23 => (intro w hSw; (try dsimp only at hSw); go_simp <;> with_reducible rfl)
        try simp only [Act.put, List.getElem_toArray, List.getElem_cons_zero, List.getElem_cons_succ, List.setIfInBounds_toArray, List.set_cons_zero, List.set_cons_succ]
        refine wpAnyH_take (i := 4) (oi := _) (v := ?vR24) rfl (by kernel_rfl) (by kernel_rfl) (by kernel_rfl) (fun _ _ _ h => h) (Or.inl ⟨by rfl, ?yR24⟩) hHeld ?_
        case yR24 => (intro w hSw; (try dsimp only at hSw); go_simp <;> with_reducible rfl)
        try simp only [Act.put, List.getElem_toArray, List.getElem_cons_zero, List.getElem_cons_succ, List.setIfInBounds_toArray, List.set_cons_zero, List.set_cons_succ]
        refine wpAnyH_take (i := 5) (oi := _) (v := ?vR25) rfl (by kernel_rfl) (by kernel_rfl) (by kernel_rfl) (fun _ _ _ h => h) (Or.inl ⟨by rfl, ?yR25⟩) hHeld ?_
        case yR25 => (intro w hSw; (try dsimp only at hSw); go_simp <;> with_reducible rfl)
        try simp only [Act.put, List.getElem_toArray, List.getElem_cons_zero, List.getElem_cons_succ, List.setIfInBounds_toArray, List.set_cons_zero, List.set_cons_succ]
        refine wpAnyH_take (i := 6) (oi := _) (v := ?vR26) rfl (by kernel_rfl) (by kernel_rfl) (by kernel_rfl) (fun _ _ _ h => h) (Or.inl ⟨by rfl, ?yR26⟩) hHeld ?_
        case yR26 => (intro w hSw; (try dsimp only at hSw); go_simp <;> with_reducible rfl)
        try simp only [Act.put, List.getElem_toArray, List.getElem_cons_zero, List.getElem_cons_succ, List.setIfInBounds_toArray, List.set_cons_zero, List.set_cons_succ]
        refine wpAnyH_take (i := 7) (oi := _) (v := ?vR27) rfl (by kernel_rfl) (by kernel_rfl) (by kernel_rfl) (fun _ _ _ h => h) (Or.inl ⟨by rfl, ?yR27⟩) hHeld ?_
        case yR27 => (intro w hSw; (try dsimp only at hSw); go_simp <;> with_reducible rfl)
        try simp only [Act.put, List.getElem_toArray, List.getElem_cons_zero, List.getElem_cons_succ, List.setIfInBounds_toArray, List.set_cons_zero, List.set_cons_succ]
        refine wpAnyH_take (i := 8) (oi := _) (v := ?vR28) rfl (by kernel_rfl) (by kernel_rfl) (by kernel_rfl) (fun _ _ _ h => h) (Or.inl ⟨by rfl, ?yR28⟩) hHeld ?_
        case yR28 => (intro w hSw; (try dsimp only at hSw); go_simp <;> with_reducible rfl)
        try simp only [Act.put, List.getElem_toArray, List.getElem_cons_zero, List.getElem_cons_succ, List.setIfInBounds_toArray, List.set_cons_zero, List.set_cons_succ]
        refine wpAnyH_take (i := 9) (oi := _) (v := ?vR29) rfl (by kernel_rfl) (by kernel_rfl) (by kernel_rfl) (fun _ _ _ h => h) (Or.inl ⟨by rfl, ?yR29⟩) hHeld ?_
        case yR29 => (intro w hSw; (try dsimp only at hSw); go_simp <;> with_reducible rfl)
        try simp only [Act.put, List.getElem_toArray, List.getElem_cons_zero, List.getElem_cons_succ, List.setIfInBounds_toArray, List.set_cons_zero, List.set_cons_succ]
        refine wpAnyH_ready (rs := [10]) (by kernel_rfl) (by simp) ?_
        refine AllReadyH.cons rfl (fun K hK => ?_) AllReadyH.nil
        go_simp
        go_wp2_with (go_at_call 90; refine HCall.out.mono ?_; rintro e w4 ⟨r', v0, v1, v2, rfl, hst4, hr4⟩; have h4 := hst4.c)
        clear hHeld
        refine hK.out _ _ ?SR211 (fun hHeld => ?_)
        case SR211 => ((try dsimp only); first | (with_reducible exact KEEP.out _ h4) | (with_reducible exact KEEP.out _ h0))
        clear hK K
        refine wpAnyH_take (i := 11) (oi := _) (v := ?vR211) rfl (by kernel_rfl) (by kernel_rfl) (by kernel_rfl) (fun _ _ _ h => h) (Or.inl ⟨by rfl, ?yR211⟩) hHeld ?_
        case yR211 => (intro w hSw; (try dsimp only at hSw); go_simp <;> with_reducible rfl)
        try simp only [Act.put, List.getElem_toArray, List.getElem_cons_zero, List.getElem_cons_succ, List.setIfInBounds_toArray, List.set_cons_zero, List.set_cons_succ]
        refine wpAnyH_done (by kernel_rfl) ?_ _
        have hr2 := hr4 r2 rfl
        subst hr2
        clear hHeld
        go_wp2_with fail
        go_roundw
        case rel => exact ⟨i + 1, _, _, _, _, by omega, by go_num, hst4, hput⟩
        case measure => simp [intOf]; omega
    · have he : i = l.length := by omega
      subst he
      rw [putAll_end] at hput
      have hRr : R = if ruleB r then some r else none := by rw [HR.out, ← hput, Option.bind_some]
      have hb4 := hst.b
      have y0 := vblk_cell hb4 0
      have y1 := vblk_cell hb4 1
      have y2 := vblk_cell hb4 2
      have y3 := vblk_cell hb4 3
      have y4 := vblk_cell hb4 4
      simp only [List.getElem?_toArray, List.getElem?_cons_succ, List.getElem?_cons_zero] at y0 y1 y2 y3 y4
      have h9 := hst.l.choose_spec.lies
      rw [hst.tk] at h9
      have hs9 := hst.l.choose_spec.a0.2
      have HO := hidden (specRule_c _ r [.string t, u0, u1, u2, .bool r.keep] wr h9 (fun g hg => Nat.lt_of_lt_of_le hg.2 hs9) (tinyR_small hst.ti))
      clear ha hkids HLK HL HV h9 hs9
      by_cases hrb : ruleB r = true
      · rw [hrb] at HO
        rw [if_pos hrb] at hRr
        go_wp2_with fail
        go_at_call 91
        refine HO.out.mono ?_
        rintro e w5 ⟨rfl, b5⟩
        have hst5 := hst.below b5
        obtain ⟨q0, d0, q1, d1, q2, d2, e0, e1, e2⟩ := hst5.l.choose_spec.slices
        subst e0 e1 e2
        have hb5 := hst5.b
        have v0 := vblk_cell hb5 0
        have v1 := vblk_cell hb5 1
        have v2 := vblk_cell hb5 2
        have v3 := vblk_cell hb5 3
        have v4 := vblk_cell hb5 4
        have hq := (hst5.c.block p4 (by omega) (by omega)).trans hZ1
        have z0 := vblk_cell hq 0
        have z1 := vblk_cell hq 1
        have z2 := vblk_cell hq 2
        have z3 := vblk_cell hq 3
        have z4 := vblk_cell hq 4
        simp only [List.getElem?_toArray, List.getElem?_cons_succ, List.getElem?_cons_zero] at v0 v1 v2 v3 v4 z0 z1 z2 z3 z4
        have hf := vblk_frozen hq
        have f0 := hf 0
        have f1 := hf 1
        have f2 := hf 2
        have f3 := hf 3
        have f4 := hf 4
        clear HO
        go_wp2_with fail
        have hq5 := five_put hq (.string t) (.slice q0 r.on.length d0) (.slice q1 r.ins.length d1) (.slice q2 r.envs.length d2) (.bool r.keep)
        have k5 := five_chg w5 p4 (.string t) (.slice q0 r.on.length d0) (.slice q1 r.ins.length d1) (.slice q2 r.envs.length d2) (.bool r.keep)
        refine bodyPost_ret (res_cellT rfl rfl hq5) rfl ?_
        have hrr : ruleOfT t (Tree.mk 5 n s l ks) = some r := by rw [← HRR.out]; exact hRr
        have hD : ruleD t (Tree.mk 5 n s l ks) = r := by unfold ruleD; rw [hrr]; rfl
        have hY : ruleY t (Tree.mk 5 n s l ks) = true := by unfold ruleY; rw [hrr]; rfl
        rw [hD, hY, ruleOfT_task hrr]
        have h9 := hst5.l.choose_spec.chg k5 (fun b hb e => by have := hb.1; omega)
        exact ⟨below_chgW (below_chgW hw1 hst5.c (fun b hb => by omega) hw1.size) k5 (fun b hb => by omega) (Nat.le_trans hw1.size hst5.c.size), _, _, _, rfl, h9.wide hw1.size h9.a0.2 (Nat.le_refl _)⟩
      · rw [Bool.not_eq_true] at hrb
        rw [hrb] at HO
        rw [hrb] at hRr
        have hrr : ruleOfT t (Tree.mk 5 n s l ks) = none := by rw [← HRR.out]; exact hRr
        go_wp2_with fail
        go_at_call 91
        refine HO.out.mono ?_
        rintro e w5 ⟨rfl, b5⟩
        have hst5 := hst.below b5
        have hq := (hst5.c.block p4 (by omega) (by omega)).trans hZ1
        have z0 := vblk_cell hq 0
        have z1 := vblk_cell hq 1
        have z2 := vblk_cell hq 2
        have z3 := vblk_cell hq 3
        have z4 := vblk_cell hq 4
        simp only [List.getElem?_toArray, List.getElem?_cons_succ, List.getElem?_cons_zero] at z0 z1 z2 z3 z4
        have hf := vblk_frozen hq
        have f0 := hf 0
        have f1 := hf 1
        have f2 := hf 2
        have f3 := hf 3
        have f4 := hf 4
        clear HO
        go_wp2_with fail
        exact zero_end (below_chgW hw1 hst5.c (fun b hb => by omega) hw1.size) (by omega) hq hrr rfl rfl
end Go.Proofs.YtkkhnldhipfneaaGreatDoor

/-! What a rule is worth that is read out of a value: pure; no condition. -/
namespace Go.Proofs.YtkkhnldhipfneaaGreatDoor
open Go.RowKit
set_option linter.unusedSimpArgs false
set_option linter.unusedVariables false

theorem putAll_tiny : ∀ (ks : List ByteArray) (l : List Tree) (r r' : RuleD), (∀ U ∈ l, U.good 2 = true ∧ U.nodes ≤ 80) → tinyR r → putAll ks l r = some r' → tinyR r'
  | [], _, r, r', hg, hr, h => by
    rw [putAll] at h
    · exact (Option.some.inj h) ▸ hr
    all_goals simp
  | _ :: _, [], r, r', hg, hr, h => by
    rw [putAll] at h
    · exact (Option.some.inj h) ▸ hr
    all_goals simp
  | k :: ks, T :: l, r, r', hg, hr, h => by
    rw [putAll] at h
    cases hk : putK r k T with
    | none => rw [hk] at h; cases h
    | some r1 =>
      rw [hk, Option.bind_some] at h
      obtain ⟨h1, h2⟩ := hg T (List.mem_cons_self ..)
      exact putAll_tiny ks l r1 r' (fun U hU => hg U (List.mem_cons_of_mem _ hU)) (putK_tiny h1 h2 hr hk) h
theorem tinyL_nil : tinyL [] := ⟨Nat.zero_le _, fun s hs => by cases hs⟩
theorem ruleOfT_tiny {t : ByteArray} {T : Tree} {r : RuleD} (h : ruleOfT t T = some r) : tinyR r ∧ ruleB r = true := by
  unfold ruleOfT at h
  split at h
  · rename_i hk
    simp only [Bool.and_eq_true, beq_iff_eq] at hk
    cases hp : putAll T.keys T.kids ⟨t, [], [], [], true⟩ with
    | none => rw [hp] at h; cases h
    | some r1 =>
      rw [hp, Option.bind_some] at h
      split at h
      · rename_i hb
        obtain rfl := Option.some.inj h
        exact ⟨putAll_tiny _ _ _ _ (ok_five hk.1 hk.2).2.1 ⟨tinyL_nil, tinyL_nil, tinyL_nil⟩ hp, hb⟩
      · cases h
  · cases h
theorem ruleD_tiny (t : ByteArray) (T : Tree) : tinyR (ruleD t T) := by
  unfold ruleD
  cases h : ruleOfT t T with
  | none => exact ⟨tinyL_nil, tinyL_nil, tinyL_nil⟩
  | some r => exact (ruleOfT_tiny h).1
theorem ruleD_wt (t : ByteArray) (T : Tree) : wtRule (ruleD t T) ≤ 1048576 := by
  unfold ruleD
  cases h : ruleOfT t T with
  | none => show wtRule ⟨⟨#[]⟩, [], [], [], false⟩ ≤ _; unfold wtRule bulkS; simp; exact Nat.zero_le _
  | some r =>
    obtain ⟨h1, h2⟩ := ruleOfT_tiny h
    refine tinyR_wt h1 ?_
    unfold ruleB at h2
    simp only [Bool.and_eq_true] at h2
    exact h2.1
end Go.Proofs.YtkkhnldhipfneaaGreatDoor

/-! Marks that a tree of values bears, found again as the law looks for them; marks put into a value and found again: contracts for the walks; conditions: there are at most 2 to the 32 marks. -/
namespace Go.Proofs.YtkkhnldhipfneaaGreatDoor
open Go.RowKit
set_option linter.unusedSimpArgs false
set_option linter.unusedVariables false

end Go.Proofs.YtkkhnldhipfneaaGreatDoor

/-! Marks put into a value that may be written, and found again, as the law does it: contracts for the walks; conditions: no two rows are the same, and there are at most 2 to the 32 marks. -/
namespace Go.Proofs.YtkkhnldhipfneaaGreatDoor
open Go.RowKit
set_option linter.unusedSimpArgs false
set_option linter.unusedVariables false

/-- A value's list and keys that may be written: in blocks of B, and of K, which have none in common. -/
structure OwnV (w : World) (B K : Nat → Prop) (c u : Value) (l : List Tree) (n : Nat) : Prop where
  list : OwnL w B c l
  keys : ∃ xs, w.ownsRow 0 9 1 u n xs
  inK : ∀ g, u.ownBlock = some g → K g
  apart : ∀ b, B b → ¬ K b
/-- A value's list and keys that bear the marks from k on. -/
structure MarkV (w : World) (S : Nat → Prop) (k : Nat) (c u : Value) (l : List Tree) (n : Nat) : Prop where
  list : MarkL w S k c l
  keys : RdB S w u (strsV (marksS (k + cntL l) n))
theorem MarkV.keep {w w' : World} {S : Nat → Prop} {k : Nat} {c u : Value} {l : List Tree} {n : Nat} (h : MarkV w S k c u l n) (hk : Kp S w w') : MarkV w' S k c u l n := ⟨h.list.keep hk, h.keys.keep hk⟩
theorem OwnV.keep {w w' : World} {B K : Nat → Prop} {c u : Value} {l : List Tree} {n : Nat} (h : OwnV w B K c u l n) (hk : Kp (fun b => B b ∨ K b) w w') : OwnV w' B K c u l n := by
  obtain ⟨xs, hx⟩ := h.keys
  exact ⟨h.list.keep (fun b hb => hk b (.inl hb)), ⟨xs, owns_kept (S := K) (fun b hb => hk b (.inr hb)) h.inK hx⟩, h.inK, h.apart⟩

set_option maxHeartbeats 2000000 in
set_option maxRecDepth 100000 in
theorem markVal_c (a n0 : Int) (s : ByteArray) (c u : Value) (l : List Tree) (n k : Nat) (B K : Nat → Prop) (w : World) (h : OwnV w B K c u l n) (hB : ∀ b, B b ∨ K b → b < w.heap.size) (h1 : 1 ≤ k) (h2 : k + cntL l + n ≤ 4294967296) :
    Calls Tryz.prog 26 #[.agg #[.int .i64 a, .int .i64 n0, .string s, c, u], .int .i64 (k : Int)] w fun e w' => e = .returned (.int .i64 ((k + cntL l + n : Nat) : Int)) ∧ MarkV w' (fun b => B b ∨ K b) k c u l n ∧ Chg (fun b => B b ∨ K b) w w' := by
  obtain ⟨hl, ⟨xs, hx⟩, hin, hap⟩ := h
  obtain ⟨qc, cc, rfl⟩ := hl.slice
  obtain ⟨qu, cu, rfl⟩ := owns_sl hx
  have hbx : ∀ o, Below w.heap.size w (w.alloc o) := fun o => (Below.refl _ _).alloc (Nat.le_refl _) _
  obtain ⟨p, hp⟩ : ∃ p, p = k + cntL l := ⟨_, rfl⟩
  have HP := hidden hp
  have HM : Hid (∀ o, Calls Tryz.prog 96 #[.slice qc l.length cc, .int .i64 (k : Int)] (w.alloc o) fun e w' => e = .returned (.int .i64 (p : Int)) ∧ MarkL w' B k (.slice qc l.length cc) l ∧ Chg B (w.alloc o) w') := fun o => by
    rw [hp]
    exact markValS_c l B _ (w.alloc o) k (hl.keep (.of (hbx o) (fun b hb => hB b (.inl hb)))) (fun b hb => Nat.lt_of_lt_of_le (hB b (.inl hb)) (hbx o).size) h1 (by omega)
  have HX := hidden hx
  clear hl hx hp
  have hBl : ∀ b, B b → b < w.heap.size := fun b hb => hB b (.inl hb)
  have hKl : ∀ b, K b → b < w.heap.size := fun b hb => hB b (.inr hb)
  go_enter Tryz.func26, Tryz.ntmps26
  go_wp2_with fail
  go_at_call 96
  refine (HM.out _).mono ?_
  rintro e w1 ⟨rfl, M1, ch1⟩
  have hbox := (ch1.block w.heap.size (by simp) (fun h => by have := hBl _ h; omega)).trans (vheap_new w _)
  have x4 := vblk_cell hbox 4
  simp only [List.getElem?_toArray, List.getElem?_cons_succ, List.getElem?_cons_zero] at x4
  have hs1 : w.heap.size + 1 ≤ w1.heap.size := by have := ch1.size; simpa using this
  have kK : Kp K w w1 := fun b hb => (ch1.block b (by have := hKl b hb; simp; omega) (fun h => hap b h hb)).trans (vheap_old w _ (hKl b hb))
  have X1 := owns_kept kK hin HX.out
  have hpb : p ≤ 4294967296 := by have := HP.out; omega
  have HS := hidden (markStrs_c _ 0 n xs p w1 X1 (by have := HP.out; omega) hpb (by omega) (Nat.zero_le _))
  have hnb : n ≤ 4294967296 := by omega
  go_wp2_with fail
  go_at_call 41
  refine HS.out.mono ?_
  rintro e w2 ⟨rfl, X2, g2⟩
  go_wp2_with fail
  go_ret
  have ch2 := Chg.grown (S := K) g2 hin
  refine ⟨by rw [← HP.out]; simp, ⟨(M1.keep (ch2.kp (fun b hb => ⟨by have := hBl b hb; omega, hap b hb⟩))).mono (fun b hb => .inl hb), by rw [← HP.out]; exact (rdB_in X2 hin).mono (fun b hb => .inr hb)⟩, ?_⟩
  exact (Chg.of (hbx _)).trans ((ch1.mono (fun b hb => .inl hb)).trans (ch2.mono (fun b hb => .inr hb)))

end Go.Proofs.YtkkhnldhipfneaaGreatDoor

/-! A value copied into memory of its own, as the law copies it, may be written, and no two of its rows are the same: a contract for what lies in memory and holds at most 2 to the 20. -/
namespace Go.Proofs.YtkkhnldhipfneaaGreatDoor
open Go.RowKit
set_option linter.unusedSimpArgs false
set_option linter.unusedVariables false

theorem ownL_mono {S S' : Nat → Prop} {w : World} {v : Value} {l : List Tree} (h : OwnL w S v l) (hs : ∀ b, S b → S' b) : OwnL w S' v l := by
  cases h with
  | mk S v l ys C U B K hrow hg hc hB hK hBB hBK hKK hC hU => exact .mk S' v l ys C U B K hrow (fun g h => ⟨hs _ (hg g h).1, (hg g h).2⟩) hc (fun i b h => hs b (hB i b h)) (fun i b h => hs b (hK i b h)) hBB hBK hKK hC hU
/-- The value x is T and may be written: its list lies in blocks from lo up to mid, its keys in one from mid up to hi. -/
def OwnT (lo mid hi : Nat) (w : World) (x : Value) (T : Tree) : Prop := ∃ c0 c1 c2 c u, x = .agg #[c0, c1, c2, c, u] ∧ OwnL w (Own lo mid) c T.kids ∧ ∃ xs, w.ownsRow 0 9 1 u T.keys.length xs ∧ ∀ g, u.ownBlock = some g → Own mid hi g
theorem OwnT.keep {lo mid hi : Nat} {w w' : World} {x : Value} {T : Tree} (h : OwnT lo mid hi w x T) (h1 : lo ≤ mid) (h2 : mid ≤ hi) (hk : KeptIn (Own lo hi) w w') : OwnT lo mid hi w' x T := by
  obtain ⟨c0, c1, c2, c, u, rfl, hl, xs, hu, hg⟩ := h
  exact ⟨c0, c1, c2, c, u, rfl, hl.keep (fun b hb => hk b ⟨hb.1, Nat.lt_of_lt_of_le hb.2 h2⟩), xs, owns_kept (S := Own mid hi) (fun b hb => hk b ⟨Nat.le_trans h1 hb.1, hb.2⟩) hg hu, hg⟩
def ToC2 (T : Tree) : Prop := ∀ (S : Nat → Prop) (v : Value) (w : World), Lies S w v T → (∀ b, S b → b < w.heap.size) → T.wt ≤ 1048576 →
  Calls Tryz.prog 22 #[v] w fun e w' => ∃ x mid, e = .returned x ∧ Lies (Own w.heap.size w'.heap.size) w' x T ∧ OwnT w.heap.size mid w'.heap.size w' x T ∧ w.heap.size ≤ mid ∧ mid ≤ w'.heap.size ∧ Below w.heap.size w w'
def ToLC2 (l : List Tree) : Prop := ∀ (S : Nat → Prop) (v : Value) (w : World), LiesL S w v l → (∀ b, S b → b < w.heap.size) → wtL l ≤ 1048576 →
  Calls Tryz.prog 92 #[v] w fun e w' => ∃ g, e = .returned (.slice (some ⟨g, 0, none⟩) l.length l.length) ∧ LiesL (Own w.heap.size w'.heap.size) w' (.slice (some ⟨g, 0, none⟩) l.length l.length) l ∧ OwnL w' (Own w.heap.size w'.heap.size) (.slice (some ⟨g, 0, none⟩) l.length l.length) l ∧ Below w.heap.size w w'

set_option maxHeartbeats 4000000 in
set_option maxRecDepth 100000 in
theorem toVal_step2 (k n : Int) (s : ByteArray) (l : List Tree) (ks : List ByteArray) (ih : ToLC2 l) : ToC2 (.mk k n s l ks) := by
  intro S v w hv hB hw
  rw [wt_mk] at hw
  obtain ⟨c, u, rfl, hs, hk, hl, hu⟩ := hv.out
  clear hv
  have hwl : wtL l ≤ 1048576 := by omega
  have hkn : ks.length ≤ 1099511627776 := by unfold bulkS at hw; omega
  have hb3 : ∀ A R O, Below w.heap.size w (((w.alloc A).alloc R).alloc O) := fun A R O => (((Below.refl _ _).alloc (Nat.le_refl _) _).alloc (by simp) _).alloc (by simp; omega) _
  have hlA : ∀ A R O, LiesL S (((w.alloc A).alloc R).alloc O) c l := fun A R O => hl.keep (.of (hb3 A R O) hB)
  have huA : ∀ w1, Below w.heap.size w w1 → Reads w1 u (strsV ks) := fun w1 h1 => (hu.keep (.of h1 hB)).reads (fun b h => Nat.lt_of_lt_of_le (hB b h) h1.size)
  have hBA : ∀ A R O b, S b → b < (((w.alloc A).alloc R).alloc O).heap.size := fun A R O b h => Nat.lt_of_lt_of_le (hB b h) (hb3 A R O).size
  go_enter Tryz.func22, Tryz.ntmps22
  go_wp2_with (first
    | (go_at_call 92; refine (ih S c _ (hlA _ _ _) (hBA _ _ _) hwl).mono ?_; rintro e w1 ⟨g, rfl, hL, hOL, hb1⟩; obtain ⟨hA, hR, hO⟩ := three hb1; have ca := blk_cell hA; have co := blk_cell hO; have fo := blk_frozen hO; have a4 := ca 4; have o3 := co 3; have f3 := fo 3; clear ca co fo; simp only [List.getElem?_toArray, List.getElem?_cons_succ, List.getElem?_cons_zero] at a4 o3)
    | (go_at_call 34; refine (toStrs_c u ks _ (huA _ (((hb3 _ _ _).trans (hb1.mono (by simp; omega))).setCell (by simp; omega) _)) hkn).mono ?_; rintro e w2 ⟨g2, rfl, hM, hb2⟩; obtain ⟨⟨p0, p1, p2, p3, p4⟩, ⟨q0, q1, q2, q3, q4⟩, fO, fR⟩ := toVal_facts hR hO hb2))
  have hz2 : ∀ a v, (w2.setCell a v).heap.size = w2.heap.size := fun a v => by simp [World.setCell]
  have s3 : ∀ A R O, (((w.alloc A).alloc R).alloc O).heap.size = w.heap.size + 1 + 1 + 1 := fun A R O => by simp
  rw [s3] at hb1 hL hOL
  have z1 : ∀ a v, (w1.setCell a v).heap.size = w1.heap.size := fun a v => by simp [World.setCell]
  have hN : w.heap.size + 1 + 1 + 1 ≤ w1.heap.size := by have := hb1.size; rw [s3] at this; exact this
  have hN2 : w1.heap.size ≤ w2.heap.size := by have := hb2.size; rw [z1] at this; exact this
  have k1 : KeptIn (Own (w.heap.size + 1 + 1 + 1) w1.heap.size) w1 w2 := (Own.set (by omega)).trans (.of hb2 fun b hb => by rw [z1]; exact hb.2)
  have hM' := readsB_of_owns hM
  rw [z1] at hM'
  have hu2 : ∀ g', (Value.slice (some ⟨g2, 0, none⟩) ks.length ks.length).ownBlock = some g' → Own w1.heap.size w2.heap.size g' := fun g' hg' => by
    have h9 := owns_in hM g' hg'
    exact ⟨by rw [z1] at h9; exact h9.1, h9.2⟩
  have hfin : ∀ W', KeptIn (Own (w.heap.size + 1 + 1 + 1) w2.heap.size) w2 W' → W'.heap.size = w2.heap.size → Lies (Own w.heap.size W'.heap.size) W' (.agg #[.int .i64 k, .int .i64 n, .string s, .slice (some ⟨g, 0, none⟩) l.length l.length, .slice (some ⟨g2, 0, none⟩) ks.length ks.length]) (.mk k n s l ks) ∧ OwnT w.heap.size w1.heap.size W'.heap.size W' (.agg #[.int .i64 k, .int .i64 n, .string s, .slice (some ⟨g, 0, none⟩) l.length l.length, .slice (some ⟨g2, 0, none⟩) ks.length ks.length]) (.mk k n s l ks) ∧ w1.heap.size ≤ W'.heap.size := fun W' kw sz => by
    refine ⟨?_, ?_, by omega⟩
    · refine Lies.mono (S := Own (w.heap.size + 1 + 1 + 1) w2.heap.size) (Own.mono (by omega) (by omega)) ?_
      exact Lies.keep (w := w2) kw (Lies.of hs hk ((hL.keep k1).mono (Own.mono (Nat.le_refl _) hN2)) (hM'.mono (Own.mono hN (Nat.le_refl _))))
    · refine ⟨_, _, _, _, _, rfl, ownL_mono (S := Own (w.heap.size + 1 + 1 + 1) w1.heap.size) ((hOL.keep k1).keep (fun b hb => kw b ⟨hb.1, Nat.lt_of_lt_of_le hb.2 hN2⟩)) (Own.mono (by omega) (Nat.le_refl _)), strsV ks, owns_kept (S := Own w1.heap.size w2.heap.size) (fun b hb => kw b ⟨Nat.le_trans hN hb.1, hb.2⟩) hu2 (owns_lo (Nat.zero_le _) hM), fun g' hg' => ⟨(hu2 g' hg').1, by have := (hu2 g' hg').2; omega⟩⟩
  have hfin2 := hfin
  clear hOL hL hM
  refine bodyPost_ret (v := .agg #[.int .i64 k, .int .i64 n, .string s, .slice (some ⟨g, 0, none⟩) l.length l.length, .slice (some ⟨g2, 0, none⟩) ks.length ks.length]) (by simp [results, Tryz.results22, go_sem, p0, p1, p2, p3, p4, q0, q1, q2, q3, q4]) rfl ⟨_, w1.heap.size, rfl, (hfin _ ?_ ?_).1, (hfin2 _ ?_ ?_).2.1, by omega, (hfin _ ?_ ?_).2.2, ?_⟩
  · refine KeptIn.trans (KeptIn.trans (KeptIn.trans (KeptIn.trans (KeptIn.trans (Own.set ?_) (Own.set ?_)) (Own.set ?_)) (Own.set ?_)) (Own.set ?_)) (Own.set ?_) <;> omega
  · simp [World.setCell]
  · refine KeptIn.trans (KeptIn.trans (KeptIn.trans (KeptIn.trans (KeptIn.trans (Own.set ?_) (Own.set ?_)) (Own.set ?_)) (Own.set ?_)) (Own.set ?_)) (Own.set ?_) <;> omega
  · simp [World.setCell]
  · refine KeptIn.trans (KeptIn.trans (KeptIn.trans (KeptIn.trans (KeptIn.trans (Own.set ?_) (Own.set ?_)) (Own.set ?_)) (Own.set ?_)) (Own.set ?_)) (Own.set ?_) <;> omega
  · simp [World.setCell]
  · have b1 := ((hb3 _ _ _).trans (hb1.mono (by omega)))
    have b2 := (b1.setCell (p := ⟨w.heap.size + 1 + 1, 3, none⟩) (by simp; omega) (.slice (some ⟨g, 0, none⟩) l.length l.length)).trans (hb2.mono (by rw [z1]; omega))
    refine Below.setCell (Below.setCell (Below.setCell (Below.setCell (Below.setCell (Below.setCell b2 ?_ _) ?_ _) ?_ _) ?_ _) ?_ _) ?_ _ <;> simp <;> omega

/-- Bounds of the blocks of k elements: one behind the other, from b on, below e. -/
def BndT (lo mid hi : Nat → Nat) (b e k : Nat) : Prop := (∀ i, i < k → b ≤ lo i ∧ lo i ≤ mid i ∧ mid i ≤ hi i ∧ hi i ≤ e) ∧ ∀ i j, i < j → j < k → hi i ≤ lo j
theorem BndT.step {lo mid hi : Nat → Nat} {b e e' m k : Nat} (h : BndT lo mid hi b e k) (hb : b ≤ e) (h1 : e ≤ m) (h2 : m ≤ e') : BndT (fun j => if j = k then e else lo j) (fun j => if j = k then m else mid j) (fun j => if j = k then e' else hi j) b e' (k + 1) := by
  refine ⟨fun i hi' => ?_, fun i j hij hj => ?_⟩
  · by_cases e1 : i = k
    · subst e1; simp only [if_pos]; omega
    · simp only [if_neg e1]
      obtain ⟨a1, a2, a3, a4⟩ := h.1 i (by omega)
      omega
  · have ei : i ≠ k := by omega
    simp only [if_neg ei]
    by_cases e1 : j = k
    · subst e1
      simp only [if_pos]
      exact (h.1 i (by omega)).2.2.2
    · simp only [if_neg e1]
      exact h.2 i j hij (by omega)
theorem ownL_rows {w : World} {g b : Nat} {ys : List Value} {l : List Tree} {lo mid hi : Nat → Nat} (hg : w.ownsRow b 56 5 (.slice (some ⟨g, 0, none⟩) l.length l.length) l.length ys) (hgb : g = b)
    (hb : BndT lo mid hi (b + 1) w.heap.size l.length) (ho : ∀ i (h : i < l.length), i < l.length → OwnT (lo i) (mid i) (hi i) w (cellsAt ys i) l[i]) :
    OwnL w (Own b w.heap.size) (.slice (some ⟨g, 0, none⟩) l.length l.length) l := by
  subst hgb
  have hlen := hg.1
  have hat : ∀ i, i < l.length → ∀ j, j < 5 → ys[i * 5 + j]? = some (ys.getD (i * 5 + j) undef) := fun i hi j hj => by
    rw [List.getElem?_eq_getElem (by omega)]
    simp [List.getD_eq_getElem?_getD, show i * 5 + j < ys.length by omega]
  have hsep : ∀ i j, i < l.length → j < l.length → i ≠ j → ∀ x, lo i ≤ x → x < hi i → lo j ≤ x → x < hi j → False := fun i j hi' hj' hij x h1 h2 h3 h4 => by
    rcases Nat.lt_or_gt_of_ne hij with h | h
    · have := hb.2 i j h hj'; omega
    · have := hb.2 j i h hi'; omega
  refine .mk _ _ l ys (fun i => ys.getD (i * 5 + 3) undef) (fun i => ys.getD (i * 5 + 4) undef) (fun i b => i < l.length ∧ Own (lo i) (mid i) b) (fun i b => i < l.length ∧ Own (mid i) (hi i) b) (owns_lo (Nat.zero_le _) hg) (fun g' hg' => ?_) (fun i hi' => ?_) (fun i b h => ?_) (fun i b h => ?_) (fun i j b hij h k => ?_) (fun i j b h k => ?_) (fun i j b hij h k => ?_) (fun i h => ?_) (fun i h => ?_)
  · obtain rfl : g = g' := Option.some.inj hg'
    refine ⟨⟨Nat.le_refl _, (hg.lt g rfl).2⟩, fun i => ⟨fun h => ?_, fun h => ?_⟩⟩
    · have h1 := hb.1 i h.1; have h2 := h.2.1; omega
    · have h1 := hb.1 i h.1; have h2 := h.2.1; omega
  · have h0 := hat i hi' 0 (by omega)
    rw [Nat.add_zero] at h0
    exact ⟨⟨_, _, _, h0, hat i hi' 1 (by omega), hat i hi' 2 (by omega)⟩, hat i hi' 3 (by omega), hat i hi' 4 (by omega)⟩
  · have h1 := hb.1 i h.1; exact ⟨by have := h.2.1; omega, by have := h.2.2; omega⟩
  · have h1 := hb.1 i h.1; exact ⟨by have := h.2.1; omega, by have := h.2.2; omega⟩
  · have h1 := hb.1 i h.1; have h2 := hb.1 j k.1
    exact hsep i j h.1 k.1 hij b h.2.1 (by have := h.2.2; omega) k.2.1 (by have := k.2.2; omega)
  · have h1 := hb.1 i h.1; have h2 := hb.1 j k.1
    by_cases hij : i = j
    · subst hij; have := h.2.2; have := k.2.1; omega
    · exact hsep i j h.1 k.1 hij b h.2.1 (by have := h.2.2; omega) (by have := k.2.1; omega) k.2.2
  · have h1 := hb.1 i h.1; have h2 := hb.1 j k.1
    exact hsep i j h.1 k.1 hij b (by have := h.2.1; omega) h.2.2 (by have := k.2.1; omega) k.2.2
  · obtain ⟨c0, c1, c2, c, u, he, hl, _⟩ := ho i h h
    simp only [cellsAt, Value.agg.injEq, Array.mk.injEq, List.cons.injEq, and_true] at he
    rw [he.2.2.2.1]
    exact ownL_mono hl (fun b hb => ⟨h, hb⟩)
  · obtain ⟨c0, c1, c2, c, u, he, _, xs, hu, hg9⟩ := ho i h h
    simp only [cellsAt, Value.agg.injEq, Array.mk.injEq, List.cons.injEq, and_true] at he
    rw [he.2.2.2.2]
    exact ⟨xs, hu, fun g' hg' => ⟨h, hg9 g' hg'⟩⟩

set_option maxHeartbeats 4000000 in
set_option maxRecDepth 100000 in
theorem toValS_step2 (l : List Tree) (ih : ∀ U ∈ l, ToC2 U) : ToLC2 l := by
  intro S v w hv hB hw
  obtain ⟨a, cap, rfl, hl, hc, ha⟩ := hv.at
  have hn := length_le_wtL l
  have hlm : l.length ≤ maxLen := hl
  unfold maxLen at hl
  obtain ⟨i0, hi, hz0, hz1, hz2⟩ := info_parts infoVal
  go_enter Tryz.func92, Tryz.ntmps92
  go_wp2_with (first
    | (at_make; refine wpList_make_full _ rfl _ _ 54 rfl w.heap.size 56 i0 _ 5 Tryz.underlying54 hi hz0 hz1 _ _ _ _ l.length rfl rfl rfl rfl (by rw [hz2]; omega) (by unfold maxLen; omega) (Nat.le_refl _) ?_))
  intro w1 hown hgrow
  have hb1 := below_of_grown hgrow
  have hs1 : w.heap.size + 1 ≤ w1.heap.size := by
    rcases hown.2 with ⟨h, _⟩ | ⟨g, cap, cur, h, _, hg, _⟩
    · simp at h
    · simp at h
      have := (Array.getElem?_eq_some_iff.1 hg).1
      omega
  obtain ⟨ys1, hown1⟩ : ∃ ys, w1.ownsRow w.heap.size 56 5 (.slice (some ⟨w.heap.size, 0, none⟩) l.length l.length) l.length ys := ⟨_, hown⟩
  clear hgrow hown
  go_wp2_with fail
  go_loopw [4] (fun vi wr => ∃ (k : Nat) (ys : List Value), k ≤ l.length ∧ vi = .int .i64 (k : Int) ∧ wr.ownsRow w.heap.size 56 5 (.slice (some ⟨w.heap.size, 0, none⟩) l.length l.length) l.length ys ∧ Hid (∀ i (h : i < l.length), i < k → Lies (Own (w.heap.size + 1) wr.heap.size) wr (cellsAt ys i) l[i]) ∧ (∃ lo mid hi : Nat → Nat, Hid (BndT lo mid hi (w.heap.size + 1) wr.heap.size k) ∧ Hid (∀ i (h : i < l.length), i < k → OwnT (lo i) (mid i) (hi i) wr (cellsAt ys i) l[i])) ∧ Below w.heap.size w wr ∧ w.heap.size + 1 ≤ wr.heap.size) (fun vi _ => l.length - (intOf vi).toNat)
  case atStart => exact ⟨0, ys1, Nat.zero_le _, rfl, hown1, (fun i h h0 => by omega), ⟨fun _ => 0, fun _ => 0, fun _ => 0, ⟨fun i h => by omega, fun i j h1 h2 => by omega⟩, fun i h h0 => by omega⟩, hb1, hs1⟩
  case round =>
    obtain ⟨k, ys, hk, rfl, hownr, hy, ⟨lo, mid, hi9, hbd, hot⟩, hbr, hsr⟩ := hrel
    by_cases hlt' : k < l.length
    · rcases ha with rfl | ⟨b, off, rfl, hlt, ha⟩
      · simp at hlt'
      obtain ⟨c0, c1, c2, c3, c4, e0, e1, e2, e3, e4, hT⟩ := ha k hlt'
      have hlt2 : b < w.heap.size := hB b hlt
      rw [← hbr.cell (by simpa using hlt2)] at e0 e1 e2 e3 e4
      have ihk := ih _ (List.getElem_mem hlt')
      have hwt : (l[k]).wt ≤ 1048576 := by have := wt_le_wtL (List.getElem_mem hlt'); omega
      obtain ⟨U, hU⟩ : ∃ U, U = l[k] := ⟨_, rfl⟩
      rw [← hU] at hT ihk hwt
      have HU : Hid (U = l[k]) := hU
      have hki : (k : Int) < (l.length : Int) := by omega
      have hT' := hT.keep (.of hbr hB)
      have hBr : ∀ b, S b → b < wr.heap.size := fun b h => Nat.lt_of_lt_of_le (hB b h) hbr.size
      have hown2 : ∀ w2, Below wr.heap.size wr w2 → w2.ownsRow w.heap.size 56 5 (.slice (some ⟨w.heap.size, 0, none⟩) l.length l.length) l.length ys := fun w2 h2 => hownr.kept (grown_of_below h2 none) (by simp [Value.ownBlock])
      have hlen := hownr.1
      have hcl : ∀ w2, Below wr.heap.size wr w2 → ∀ j, j < 5 → ∃ x, w2.cell? ⟨w.heap.size, k * 5 + j, none⟩ = some x := fun w2 h2 j hj => ⟨ys.getD (k * 5 + j) undef, by rw [(hown2 w2 h2).cellAt _ (by omega)]; simp [List.getD_eq_getElem?_getD, show k * 5 + j < ys.length by omega]⟩
      have hfr : ∀ w2, Below wr.heap.size wr w2 → ∀ j, w2.frozen? ⟨w.heap.size, j, none⟩ = false := fun w2 h2 j => (hown2 w2 h2).frozenAt j
      have HC : Hid (∀ w2, Below wr.heap.size wr w2 → ∀ j, j < 5 → ∃ x, w2.cell? ⟨w.heap.size, k * 5 + j, none⟩ = some x) := hcl
      have HF : Hid (∀ w2, Below wr.heap.size wr w2 → ∀ j, w2.frozen? ⟨w.heap.size, j, none⟩ = false) := hfr
      have HO : Hid (∀ w2, Below wr.heap.size wr w2 → w2.ownsRow w.heap.size 56 5 (.slice (some ⟨w.heap.size, 0, none⟩) l.length l.length) l.length ys) := hown2
      clear ha ih hU hT hv hcl hfr hown2 hi hz0 hz1 hz2 hown1 hb1
      go_wp2_with (go_at_call 22; refine (ihk S _ _ hT' hBr hwt).mono ?_; rintro e w2 ⟨x, mid9, rfl, hX, hT9, hm1, hm2, hb2⟩; obtain ⟨k9, n9, s9, a9, m9, q9, a8, m8, q8, rfl⟩ := hX.parts; have HTT := hidden hT9; clear hT9; obtain ⟨y0, d0⟩ := HC.out w2 hb2 0 (by omega); obtain ⟨y1, d1⟩ := HC.out w2 hb2 1 (by omega); obtain ⟨y2, d2⟩ := HC.out w2 hb2 2 (by omega); obtain ⟨y3, d3⟩ := HC.out w2 hb2 3 (by omega); obtain ⟨y4, d4⟩ := HC.out w2 hb2 4 (by omega); rw [Nat.add_zero] at d0; have f9 := HF.out w2 hb2)
      go_roundw
      case rel =>
        have hz : ∀ c0 c1 c2 c3 c4 : Value, (((((w2.setCell ⟨w.heap.size, k * 5, none⟩ c0).setCell ⟨w.heap.size, k * 5 + 1, none⟩ c1).setCell ⟨w.heap.size, k * 5 + 2, none⟩ c2).setCell ⟨w.heap.size, k * 5 + 3, none⟩ c3).setCell ⟨w.heap.size, k * 5 + 4, none⟩ c4).heap.size = w2.heap.size := fun _ _ _ _ _ => by simp [World.setCell]
        have hk5 : ∀ c0 c1 c2 c3 c4 : Value, KeptIn (Own (w.heap.size + 1) w2.heap.size) w2 (((((w2.setCell ⟨w.heap.size, k * 5, none⟩ c0).setCell ⟨w.heap.size, k * 5 + 1, none⟩ c1).setCell ⟨w.heap.size, k * 5 + 2, none⟩ c2).setCell ⟨w.heap.size, k * 5 + 3, none⟩ c3).setCell ⟨w.heap.size, k * 5 + 4, none⟩ c4) := fun _ _ _ _ _ => by
          refine KeptIn.trans (KeptIn.trans (KeptIn.trans (KeptIn.trans (Own.set ?_) (Own.set ?_)) (Own.set ?_)) (Own.set ?_)) (Own.set ?_) <;> omega
        refine ⟨k + 1, set5 ys k (.int .i64 k9) (.int .i64 n9) (.string s9) (.slice a9 m9 q9) (.slice a8 m8 q8), by omega, by go_num, (((((HO.out w2 hb2).stored (k * 5) _).1.stored (k * 5 + 1) _).1.stored (k * 5 + 2) _).1.stored (k * 5 + 3) _).1.stored (k * 5 + 4) _ |>.1, fun i h h1 => ?_, ⟨fun j => if j = k then wr.heap.size else lo j, fun j => if j = k then mid9 else mid j, fun j => if j = k then w2.heap.size else hi9 j, ?_, fun i h h1 => ?_⟩, ?_, ?_⟩
        · rw [hz]
          refine Lies.keep (hk5 _ _ _ _ _) ?_
          by_cases hik : i = k
          · subst hik
            rw [cellsAt_same _ _ _ _ _ _ _ (by omega), ← HU.out]
            exact hX.mono (Own.mono (by omega) (Nat.le_refl _))
          · rw [cellsAt_other _ _ _ _ _ _ _ _ (by omega)]
            exact ((hy.out i h (by omega)).keep (Own.below hb2)).mono (Own.mono (Nat.le_refl _) hb2.size)
        · rw [hz]
          exact hbd.out.step hsr hm1 hm2
        · dsimp only
          by_cases hik : i = k
          · subst hik
            rw [if_pos rfl, if_pos rfl, if_pos rfl, cellsAt_same _ _ _ _ _ _ _ (by omega), ← HU.out]
            exact HTT.out.keep hm1 hm2 (fun b hb => hk5 _ _ _ _ _ b ⟨by have := hb.1; omega, hb.2⟩)
          · rw [if_neg hik, if_neg hik, if_neg hik, cellsAt_other _ _ _ _ _ _ _ _ (by omega)]
            obtain ⟨q1, q2, q3, q4⟩ := hbd.out.1 i (by omega)
            have hot1 := (hot.out i h (by omega)).keep q2 q3 (w' := w2) (fun b hb => hb2.block b (by have := hb.2; omega))
            exact hot1.keep q2 q3 (fun b hb => hk5 _ _ _ _ _ b ⟨by have := hb.1; omega, by have := hb.2; have := hb2.size; omega⟩)
        · have b2 := hbr.trans (hb2.mono (by omega))
          refine Below.setCell (Below.setCell (Below.setCell (Below.setCell (Below.setCell b2 ?_ _) ?_ _) ?_ _) ?_ _) ?_ _ <;> simp
        · rw [hz]; have := hb2.size; omega
      case measure => simp [intOf]; omega
    · have he : k = l.length := by omega
      subst he
      clear ha
      have HOT := hidden hot.out
      go_wp2_with fail
      go_ret
      refine ⟨_, rfl, ?_, ownL_rows hownr rfl hbd.out HOT.out, hbr⟩
      exact liesL_of_owns hownr rfl hlm (Nat.le_refl _) fun i h => (hy.out i h h).mono (Own.mono (by omega) (Nat.le_refl _))

theorem toVal_own : ∀ T, ToC2 T := by
  refine Tree.ind ?_
  intro k n s l ks ih
  exact toVal_step2 k n s l ks (toValS_step2 l ih)
end Go.Proofs.YtkkhnldhipfneaaGreatDoor
