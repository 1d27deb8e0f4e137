/-
  Contracts for the walks, several texts in one: each part says what it proves, and under which conditions.
-/
import Derived.Deep.RegionHeld
import Derived.SliceStrings
import Derived.ChangeArms
import Derived.ChangeOld
import Derived.ChangeAt
import Derived.OpenShut
import Derived.ShutString
import Derived.Test.YtiadcebolcdhbaaQ2
import Derived.Test.YtiadcebolcdhbaaQ3

/-! Whether rules are right, as the specification asks it: contracts for the walks; conditions: they lie in memory, and hold at most 2 to the 20. -/
namespace Go.Proofs.Ytiadcebolcdhbaa
open Go.RowKit
set_option linter.unusedSimpArgs false
set_option linter.unusedVariables false

set_option maxHeartbeats 8000000 in
set_option maxRecDepth 100000 in
theorem specRule_c (S : Nat → Prop) (d : RuleD) (cs : List Value) (w : World) (hd : shRule.lies S w cs d) (hB : ∀ b, S b → b < w.heap.size) (hw : smallR d) :
    Calls Try.prog 56 #[.agg cs.toArray] w fun e w' => e = .returned (.bool (ruleB d)) ∧ Below w.heap.size w w' := by
  obtain ⟨u0, u1, u2, rfl, s_task, r0, p0, r1, p1, r2, p2⟩ := hd
  have hbx : ∀ o, Below w.heap.size w (w.alloc o) := fun o => (Below.refl _ _).alloc (Nat.le_refl _) _
  have HN := hidden (fun w1 => specName_c d.task s_task w1)
  have HE : Hid (∀ w1, Below w.heap.size w w1 → Calls Try.prog 98 #[u2] w1 fun e w' => e = .returned (.bool (d.envs.all nameB)) ∧ Below w1.heap.size w1 w') := fun w1 h => l7Names_c u2 d.envs w1 ((r2.keep (.of h hB)).reads (fun b hb => Nat.lt_of_lt_of_le (hB b hb) h.size)) p2
  have hla := p0.1
  have hlb := p1.1
  have hlc := p2.1
  unfold maxLen at hla hlb hlc s_task
  obtain ⟨hw0, hw1, _⟩ := hw
  obtain ⟨a0, c0, e0, _, ha⟩ := reads_strs (r0.reads hB)
  subst e0
  obtain ⟨a1, c1, e1, _, hb⟩ := reads_strs (r1.reads hB)
  subst e1
  obtain ⟨a2, c2, e2, _⟩ := id r2
  rw [length_strsV] at e2
  subst e2
  obtain ⟨n, hn⟩ : ∃ p, p = nameB d.task := ⟨_, rfl⟩
  obtain ⟨q, hq⟩ : ∃ p, p = d.envs.all nameB := ⟨_, rfl⟩
  have HF : Hid (d.on.all onB = true → d.ins.all inTB = true → ruleB d = (n && (decide (d.on.length ≤ 4) && (decide (d.ins.length ≤ 4) && (decide (d.envs.length ≤ 3) && q))))) := fun h1 h2 => by
    rw [ruleB, fewB, fewB, fewB, h1, h2, ← hn, ← hq, Bool.and_true, Bool.and_true]
  have HX0 : Hid (∀ k (h : k < d.on.length), onB d.on[k] = false → ruleB d = false) := fun k h h1 => by
    have : d.on.all onB = false := List.all_eq_false.2 ⟨_, List.getElem_mem h, by simp [h1]⟩
    simp only [ruleB, fewB, this, Bool.and_false, Bool.false_and]
  have HX1 : Hid (∀ k (h : k < d.ins.length), inTB d.ins[k] = false → ruleB d = false) := fun k h h1 => by
    have : d.ins.all inTB = false := List.all_eq_false.2 ⟨_, List.getElem_mem h, by simp [h1]⟩
    simp only [ruleB, fewB, this, Bool.and_false, Bool.false_and]
  rw [← hn] at HN
  rw [← hq] at HE
  generalize ruleB d = RR at *
  clear r0 r1 r2 p0 p1 p2 hn hq hB
  go_enter Try.func56, Try.ntmps56
  go_wp2_with fail
  go_loopw [3] (fun vi wr => ∃ k : Nat, k ≤ d.on.length ∧ vi = .int .i64 (k : Int) ∧ Hid (∀ j (hj : j < d.on.length), j < k → onB d.on[j] = true) ∧ wr.heap[w.heap.size]? = some (.cells #[.string d.task, .slice a0 d.on.length c0, .slice a1 d.ins.length c1, .slice a2 d.envs.length c2, .bool d.keep] 52) ∧ Below w.heap.size w wr) (fun vi _ => d.on.length - (intOf vi).toNat)
  case atStart => exact ⟨0, Nat.zero_le _, rfl, (fun j hj h => by omega), vheap_new _ _, hbx _⟩
  case round =>
    obtain ⟨k, hk, rfl, hno, hx1, hbr⟩ := hrel
    have hlt0 := (Array.getElem?_eq_some_iff.1 hx1).1
    have x0 := vblk_cell hx1 0
    have x1 := vblk_cell hx1 1
    have x2 := vblk_cell hx1 2
    have x3 := vblk_cell hx1 3
    have x4 := vblk_cell hx1 4
    simp only [List.getElem?_toArray, List.getElem?_cons_succ, List.getElem?_cons_zero] at x0 x1 x2 x3 x4
    by_cases hlt' : k < d.on.length
    · rcases ha with h0 | ⟨b, off, rfl, hlt, ha⟩
      · rw [h0] at hlt'; simp at hlt'
      have y0 : wr.cell? ⟨b, off + k, none⟩ = some (.string d.on[k]) := (hbr.cell (by simpa using hlt)).trans (ha k hlt')
      have HC := hidden (specOn_c d.on[k] wr (hw0 _ (List.getElem_mem hlt')))
      have HB := hidden (HX0.out k hlt')
      have HG : Hid (onB d.on[k] = true → ∀ j (hj : j < d.on.length), j < k + 1 → onB d.on[j] = true) := fun h j hj hjk => by
        by_cases e : j = k
        · subst e; exact h
        · exact hno.out j hj (by omega)
      obtain ⟨t, ht⟩ : ∃ t, t = d.on[k] := ⟨_, rfl⟩
      rw [← ht] at y0 HC HB HG
      obtain ⟨r, hr⟩ : ∃ r, r = onB t := ⟨_, rfl⟩
      rw [← hr] at HC HB HG
      have hki : (k : Int) < (d.on.length : Int) := by omega
      have HBX := hidden hx1
      clear ha hb ht hr hno hx1 hw0 hw1 HX0
      cases r with
      | false =>
        have HB2 := hidden (HB.out rfl)
        clear HB HG
        go_wp2_with (go_at_call 17; refine HC.out.mono ?_; rintro e w1 ⟨rfl, b1⟩)
        go_ret
        exact ⟨by rw [HB2.out]; rfl, hbr.trans (b1.mono hbr.size)⟩
      | true =>
        have HG2 := hidden (HG.out rfl)
        clear HB HG
        go_wp2_with (go_at_call 17; refine HC.out.mono ?_; rintro e w1 ⟨rfl, b1⟩)
        go_roundw
        case rel => exact ⟨k + 1, by omega, by go_num, HG2.out, (b1.block _ hlt0).trans HBX.out, hbr.trans (b1.mono hbr.size)⟩
        case measure => simp [intOf]; omega
    · have he : k = d.on.length := by omega
      subst he
      have HALL : Hid (d.on.all onB = true) := List.all_eq_true.2 (fun x hx => by obtain ⟨j, hj, rfl⟩ := List.mem_iff_getElem.1 hx; exact hno.out j hj hj)
      have HBX := hidden hx1
      obtain ⟨wo, hwo⟩ : ∃ wo, wo = wr := ⟨_, rfl⟩
      subst hwo
      clear ha hno hw0 HX0 hx1
      go_wp2_with fail
      clear x0 x1 x2 x3 x4
      go_loopw [4] (fun vi wr => ∃ k : Nat, k ≤ d.ins.length ∧ vi = .int .i64 (k : Int) ∧ Hid (∀ j (hj : j < d.ins.length), j < k → inTB d.ins[j] = true) ∧ wr.heap[w.heap.size]? = some (.cells #[.string d.task, .slice a0 d.on.length c0, .slice a1 d.ins.length c1, .slice a2 d.envs.length c2, .bool d.keep] 52) ∧ Below w.heap.size w wr) (fun vi _ => d.ins.length - (intOf vi).toNat)
      case atStart => exact ⟨0, Nat.zero_le _, rfl, (fun j hj h => by omega), HBX.out, hbr⟩
      case round =>
        obtain ⟨k, hk, rfl, hno, hx2, hbr2⟩ := hrel
        have hlt0 := (Array.getElem?_eq_some_iff.1 hx2).1
        have x0 := vblk_cell hx2 0
        have x1 := vblk_cell hx2 1
        have x2 := vblk_cell hx2 2
        have x3 := vblk_cell hx2 3
        have x4 := vblk_cell hx2 4
        simp only [List.getElem?_toArray, List.getElem?_cons_succ, List.getElem?_cons_zero] at x0 x1 x2 x3 x4
        by_cases hlt' : k < d.ins.length
        · rcases hb with h0 | ⟨b, off, rfl, hlt, hb⟩
          · rw [h0] at hlt'; simp at hlt'
          have y0 : wr.cell? ⟨b, off + k, none⟩ = some (.string d.ins[k]) := (hbr2.cell (by simpa using hlt)).trans (hb k hlt')
          have hsz := hw1 _ (List.getElem_mem hlt')
          have HC := hidden (specGlob_c d.ins[k] wr hsz)
          have HB := hidden (HX1.out k hlt')
          have HG : Hid (inTB d.ins[k] = true → ∀ j (hj : j < d.ins.length), j < k + 1 → inTB d.ins[j] = true) := fun h j hj hjk => by
            by_cases e : j = k
            · subst e; exact h
            · exact hno.out j hj (by omega)
          obtain ⟨t, ht⟩ : ∃ t, t = d.ins[k] := ⟨_, rfl⟩
          rw [← ht] at y0 HC HB HG hsz
          unfold inTB at HB
          have HG' : Hid ((decide (t.size ≤ 60) && globB t) = true → ∀ j (hj : j < d.ins.length), j < k + 1 → inTB d.ins[j] = true) := HG
          obtain ⟨r, hr⟩ : ∃ r, r = globB t := ⟨_, rfl⟩
          rw [← hr] at HC HB HG'
          have hki : (k : Int) < (d.ins.length : Int) := by omega
          have HBY := hidden hx2
          clear hb ht hr hno hx2 hw1 HX1 HG HBX
          cases r with
          | false =>
            have HB2 := hidden (HB.out (by simp))
            clear HB HG'
            go_wp2_with (go_at_call 97; refine HC.out.mono ?_; rintro e w1 ⟨rfl, b1⟩)
            go_ret
            exact ⟨by rw [HB2.out]; rfl, hbr2.trans (b1.mono hbr2.size)⟩
          | true =>
            by_cases hz : t.size ≤ 60
            · have hz' : ¬ (60 : Int) < (t.size : Int) := by omega
              have HG2 := hidden (HG'.out (by simp [hz]))
              clear HB HG'
              go_wp2_with fail
              go_at_call 97
              refine HC.out.mono ?_
              rintro e w1 ⟨rfl, b1⟩
              have hx3 := (b1.block _ hlt0).trans HBY.out
              have z0 : w1.cell? ⟨b, off + k, none⟩ = some (.string t) := (b1.cell (World.block_lt_of_cell? wr _ y0)).trans y0
              have x0 := vblk_cell hx3 0
              have x1 := vblk_cell hx3 1
              have x2 := vblk_cell hx3 2
              have x3 := vblk_cell hx3 3
              have x4 := vblk_cell hx3 4
              simp only [List.getElem?_toArray, List.getElem?_cons_succ, List.getElem?_cons_zero] at x0 x1 x2 x3 x4
              have HBZ := hidden hx3
              clear y0 hx3
              go_wp2_with fail
              go_roundw
              case rel => exact ⟨k + 1, by omega, by go_num, HG2.out, HBZ.out, hbr2.trans (b1.mono hbr2.size)⟩
              case measure => simp [intOf]; omega
            · have hz' : (60 : Int) < (t.size : Int) := by omega
              have HB2 := hidden (HB.out (by simp [hz]))
              clear HB HG'
              go_wp2_with fail
              go_at_call 97
              refine HC.out.mono ?_
              rintro e w1 ⟨rfl, b1⟩
              have hx3 := (b1.block _ hlt0).trans HBY.out
              have z0 : w1.cell? ⟨b, off + k, none⟩ = some (.string t) := (b1.cell (World.block_lt_of_cell? wr _ y0)).trans y0
              have x0 := vblk_cell hx3 0
              have x1 := vblk_cell hx3 1
              have x2 := vblk_cell hx3 2
              have x3 := vblk_cell hx3 3
              have x4 := vblk_cell hx3 4
              simp only [List.getElem?_toArray, List.getElem?_cons_succ, List.getElem?_cons_zero] at x0 x1 x2 x3 x4
              clear y0 hx3
              go_wp2_with fail
              go_ret
              exact ⟨by rw [HB2.out]; rfl, hbr2.trans (b1.mono hbr2.size)⟩
        · have he : k = d.ins.length := by omega
          subst he
          have HA2 : d.ins.all inTB = true := List.all_eq_true.2 (fun x hx => by obtain ⟨j, hj, rfl⟩ := List.mem_iff_getElem.1 hx; exact hno.out j hj hj)
          have HR := hidden (HF.out HALL.out HA2)
          clear hb hno hw1 HX1 HF HALL HA2 hx2 HBX
          by_cases g0 : d.on.length ≤ 4
          · have g0' : (d.on.length : Int) ≤ 4 := by omega
            rw [decide_eq_true g0] at HR
            clear g0
            by_cases g1 : d.ins.length ≤ 4
            · have g1' : (d.ins.length : Int) ≤ 4 := by omega
              rw [decide_eq_true g1] at HR
              clear g1
              by_cases g2 : d.envs.length ≤ 3
              · have g2' : (d.envs.length : Int) ≤ 3 := by omega
                rw [decide_eq_true g2] at HR
                clear g2
                cases n with
                | true =>
                  go_wp2_with (first | (go_at_call 51; refine (HN.out _).mono ?_; rintro e w1 ⟨rfl, rfl⟩) | (go_at_call 98; refine (HE.out _ hbr2).mono ?_; rintro e w1 ⟨rfl, b1⟩))
                  go_ret
                  exact ⟨by rw [HR.out]; cases q <;> rfl, hbr2.trans (b1.mono hbr2.size)⟩
                | false =>
                  go_wp2_with (go_at_call 51; refine (HN.out _).mono ?_; rintro e w1 ⟨rfl, rfl⟩)
                  go_ret
                  exact ⟨by rw [HR.out]; rfl, hbr2⟩
              · have g2' : ¬ (d.envs.length : Int) ≤ 3 := by omega
                rw [decide_eq_false g2] at HR
                clear g2
                cases n <;>
                  (go_wp2_with (go_at_call 51; refine (HN.out _).mono ?_; rintro e w1 ⟨rfl, rfl⟩)
                   go_ret
                   exact ⟨by rw [HR.out]; rfl, hbr2⟩)
            · have g1' : ¬ (d.ins.length : Int) ≤ 4 := by omega
              rw [decide_eq_false g1] at HR
              clear g1
              cases n <;>
                (go_wp2_with (go_at_call 51; refine (HN.out _).mono ?_; rintro e w1 ⟨rfl, rfl⟩)
                 go_ret
                 exact ⟨by rw [HR.out]; rfl, hbr2⟩)
          · have g0' : ¬ (d.on.length : Int) ≤ 4 := by omega
            rw [decide_eq_false g0] at HR
            clear g0
            cases n <;>
              (go_wp2_with (go_at_call 51; refine (HN.out _).mono ?_; rintro e w1 ⟨rfl, rfl⟩)
               go_ret
               exact ⟨by rw [HR.out]; rfl, hbr2⟩)

set_option maxHeartbeats 8000000 in
set_option maxRecDepth 100000 in
theorem specRules_c (S : Nat → Prop) (v : Value) (xs : List RuleD) (w : World) (hv : RowIn shRule S w v xs) (hB : ∀ b, S b → b < w.heap.size) (hw : ∀ d ∈ xs, smallR d) :
    Calls Try.prog 20 #[v] w fun e w' => e = .returned (.bool (rulesB xs)) ∧ Below w.heap.size w w' := by
  obtain ⟨a, cap, rfl, hl, hc, ha⟩ := hv
  unfold maxLen at hl
  obtain ⟨Q, hQ⟩ : ∃ R, R = rowB (ruleB) RuleD.task xs := ⟨_, rfl⟩
  unfold rulesB
  rw [← hQ]
  have HQ := hidden hQ
  clear hQ
  go_enter Try.func20, Try.ntmps20
  go_wp2_with fail
  go_loopw [3] (fun vi wr => ∃ k : Nat, k ≤ xs.length ∧ vi = .int .i64 (k : Int) ∧ Hid (rowUpto (ruleB) RuleD.task xs k = true) ∧ Below w.heap.size w wr) (fun vi _ => xs.length - (intOf vi).toNat)
  case atStart => exact ⟨0, Nat.zero_le _, rfl, rfl, Below.refl _ _⟩
  case round =>
    obtain ⟨k, hk, rfl, hh, hbr⟩ := hrel
    by_cases hlt' : k < xs.length
    · rcases ha with rfl | ⟨b, off, rfl, hlt, ha⟩
      · simp at hlt'
      have hbb : b < wr.heap.size := Nat.lt_of_lt_of_le (hB b hlt) hbr.size
      have hBr : ∀ b, S b → b < wr.heap.size := fun b h => Nat.lt_of_lt_of_le (hB b h) hbr.size
      obtain ⟨cs, hL, hcell⟩ := ha k hlt'
      replace hL := shRule.keep (.of hbr hB) hL
      replace hcell := hcell.keep (.of hbr hB) hlt
      have HB : Hid (rowOk (ruleB) RuleD.task xs[k] (preX xs k) = false → Q = false) := fun h => HQ.out.trans (rowUpto_bad hlt' h _ hlt')
      have HG : Hid (rowOk (ruleB) RuleD.task xs[k] (preX xs k) = true → rowUpto (ruleB) RuleD.task xs (k + 1) = true) := fun h => rowUpto_step hlt' hh.out h
      have hpv : ∀ j, k = j + 1 → ∃ c, preX xs k = some c ∧ wr.cell? ⟨b, off + j * 5, none⟩ = some (.string c.task) := fun j hj => by
        subst hj
        have hj' : j < xs.length := by omega
        obtain ⟨cs', hL', hcell'⟩ := ha j hj'
        replace hcell' := hcell'.keep (.of hbr hB) hlt
        obtain ⟨u0, u1, u2, rfl, _⟩ := hL'
        exact ⟨xs[j], by rw [preX, List.getElem?_eq_getElem hj'], hcell' 0 (by simp)⟩
      obtain ⟨o, ho⟩ : ∃ o, o = preX xs k := ⟨_, rfl⟩
      rw [← ho] at HB HG hpv
      have h0o : k = 0 → o = none := fun h => by subst h; exact ho
      have HC : Hid (∀ w1, Below wr.heap.size wr w1 → Calls Try.prog 56 #[.agg cs.toArray] w1 fun e w' => e = .returned (.bool (ruleB xs[k])) ∧ Below w1.heap.size w1 w') := fun w1 h => specRule_c S xs[k] cs w1 (shRule.keep (.of h hBr) hL) (fun b hb => Nat.lt_of_lt_of_le (hBr b hb) h.size) (hw _ (List.getElem_mem hlt'))
      obtain ⟨d, hd⟩ : ∃ d, d = xs[k] := ⟨_, rfl⟩
      rw [← hd] at hL HC HB HG
      obtain ⟨r, hr⟩ : ∃ r, r = ruleB d := ⟨_, rfl⟩
      rw [← hr] at HC
      obtain ⟨u0, u1, u2, rfl, s_task, r0, p0, r1, p1, r2, p2⟩ := hL
      obtain ⟨a0, c0, e0, _⟩ := id r0
      rw [length_strsV] at e0
      subst e0
      obtain ⟨a1, c1, e1, _⟩ := id r1
      rw [length_strsV] at e1
      subst e1
      obtain ⟨a2, c2, e2, _⟩ := id r2
      rw [length_strsV] at e2
      subst e2
      have hki : (k : Int) < (xs.length : Int) := by omega
      have hd0 : Below wr.heap.size wr wr.drew := (Below.refl _ _).drew
      have e0 : wr.cell? ⟨b, off + k * 5, none⟩ = some (.string d.task) := hcell 0 (by simp)
      have e1 : wr.cell? ⟨b, off + k * 5 + 1, none⟩ = some (.slice a0 d.on.length c0) := hcell 1 (by simp)
      have e2 : wr.cell? ⟨b, off + k * 5 + 2, none⟩ = some (.slice a1 d.ins.length c1) := hcell 2 (by simp)
      have e3 : wr.cell? ⟨b, off + k * 5 + 3, none⟩ = some (.slice a2 d.envs.length c2) := hcell 3 (by simp)
      have e4 : wr.cell? ⟨b, off + k * 5 + 4, none⟩ = some (.bool d.keep) := hcell 4 (by simp)
      clear ha hd ho hw hh hcell HQ s_task r0 p0 r1 p1 r2 p2
      cases r with
      | false =>
        have HX : Hid (ruleB d = false) := hr.symm
        clear hr h0o hpv
        have KEEP : Hid (∀ w1, Below wr.heap.size wr w1 → w1.cell? ⟨b, off + k * 5, none⟩ = some (.string d.task) ∧ w1.cell? ⟨b, off + k * 5 + 1, none⟩ = some (.slice a0 d.on.length c0) ∧ w1.cell? ⟨b, off + k * 5 + 2, none⟩ = some (.slice a1 d.ins.length c1) ∧ w1.cell? ⟨b, off + k * 5 + 3, none⟩ = some (.slice a2 d.envs.length c2) ∧ w1.cell? ⟨b, off + k * 5 + 4, none⟩ = some (.bool d.keep)) := fun w1 h => ⟨(h.cell (by simpa using hbb)).trans e0, (h.cell (by simpa using hbb)).trans e1, (h.cell (by simpa using hbb)).trans e2, (h.cell (by simpa using hbb)).trans e3, (h.cell (by simpa using hbb)).trans e4⟩
        clear e0 e1 e2 e3 e4
        go_wp2_with fail
        refine wp_region_held_drew (S := (fun w' => w'.cell? ⟨b, off + k * 5, none⟩ = some (.string d.task) ∧ w'.cell? ⟨b, off + k * 5 + 1, none⟩ = some (.slice a0 d.on.length c0) ∧ w'.cell? ⟨b, off + k * 5 + 2, none⟩ = some (.slice a1 d.ins.length c1) ∧ w'.cell? ⟨b, off + k * 5 + 3, none⟩ = some (.slice a2 d.envs.length c2) ∧ w'.cell? ⟨b, off + k * 5 + 4, none⟩ = some (.bool d.keep))) (by kernel_rfl) ?SR10 (fun hHeld => ?_)
        case SR10 => (first | (with_reducible exact KEEP.out _ hd1) | (with_reducible exact KEEP.out _ hd0))
        refine wpAnyH_take (i := 0) (oi := _) (v := ?vR10) rfl (by kernel_rfl) (by kernel_rfl) (by kernel_rfl) (fun _ _ _ h => h) (Or.inl ⟨by rfl, ?yR10⟩) hHeld ?_
        case yR10 => (intro w hSw; (try dsimp only at hSw); go_simp <;> with_reducible rfl)
        try simp only [Act.put, List.getElem_toArray, List.getElem_cons_zero, List.getElem_cons_succ, List.setIfInBounds_toArray, List.set_cons_zero, List.set_cons_succ]
        refine wpAnyH_take (i := 1) (oi := _) (v := ?vR11) rfl (by kernel_rfl) (by kernel_rfl) (by kernel_rfl) (fun _ _ _ h => h) (Or.inl ⟨by rfl, ?yR11⟩) hHeld ?_
        case yR11 => (intro w hSw; (try dsimp only at hSw); go_simp <;> with_reducible rfl)
        try simp only [Act.put, List.getElem_toArray, List.getElem_cons_zero, List.getElem_cons_succ, List.setIfInBounds_toArray, List.set_cons_zero, List.set_cons_succ]
        refine wpAnyH_take (i := 2) (oi := _) (v := ?vR12) rfl (by kernel_rfl) (by kernel_rfl) (by kernel_rfl) (fun _ _ _ h => h) (Or.inl ⟨by rfl, ?yR12⟩) hHeld ?_
        case yR12 => (intro w hSw; (try dsimp only at hSw); go_simp <;> with_reducible rfl)
        try simp only [Act.put, List.getElem_toArray, List.getElem_cons_zero, List.getElem_cons_succ, List.setIfInBounds_toArray, List.set_cons_zero, List.set_cons_succ]
        refine wpAnyH_take (i := 3) (oi := _) (v := ?vR13) rfl (by kernel_rfl) (by kernel_rfl) (by kernel_rfl) (fun _ _ _ h => h) (Or.inl ⟨by rfl, ?yR13⟩) hHeld ?_
        case yR13 => (intro w hSw; (try dsimp only at hSw); go_simp <;> with_reducible rfl)
        try simp only [Act.put, List.getElem_toArray, List.getElem_cons_zero, List.getElem_cons_succ, List.setIfInBounds_toArray, List.set_cons_zero, List.set_cons_succ]
        refine wpAnyH_ready (rs := [4]) (by kernel_rfl) (by simp) ?_
        refine AllReadyH.cons rfl (fun K hK => ?_) AllReadyH.nil
        go_simp
        go_wp2_with (go_at_call 56; refine (HC.out _ hd0).mono ?_; rintro e w1 ⟨rfl, b1⟩; have hd1 : Below wr.heap.size wr w1 := hd0.trans (b1.mono hd0.size))
        clear hHeld
        refine hK.out _ _ ?SR15 (fun hHeld => ?_)
        case SR15 => ((try dsimp only); first | (with_reducible exact KEEP.out _ hd1) | (with_reducible exact KEEP.out _ hd0))
        clear hK K
        refine wpAnyH_take (i := 5) (oi := _) (v := ?vR15) rfl (by kernel_rfl) (by kernel_rfl) (by kernel_rfl) (fun _ _ _ h => h) (Or.inl ⟨by rfl, ?yR15⟩) hHeld ?_
        case yR15 => (intro w hSw; (try dsimp only at hSw); go_simp <;> with_reducible rfl)
        try simp only [Act.put, List.getElem_toArray, List.getElem_cons_zero, List.getElem_cons_succ, List.setIfInBounds_toArray, List.set_cons_zero, List.set_cons_succ]
        refine wpAnyH_take (i := 6) (oi := _) (v := ?vR16) rfl (by kernel_rfl) (by kernel_rfl) (by kernel_rfl) (fun _ _ _ h => h) (Or.inl ⟨by rfl, ?yR16⟩) hHeld ?_
        case yR16 => (intro w hSw; (try dsimp only at hSw); go_simp <;> with_reducible rfl)
        try simp only [Act.put, List.getElem_toArray, List.getElem_cons_zero, List.getElem_cons_succ, List.setIfInBounds_toArray, List.set_cons_zero, List.set_cons_succ]
        refine wpAnyH_take (i := 7) (oi := _) (v := undef) rfl (by kernel_rfl) (by kernel_rfl) (by kernel_rfl) (fun _ _ _ h => h) (Or.inr ⟨by rfl, rfl⟩) hHeld ?_
        try simp only [Act.put, List.getElem_toArray, List.getElem_cons_zero, List.getElem_cons_succ, List.setIfInBounds_toArray, List.set_cons_zero, List.set_cons_succ]
        refine wpAnyH_take (i := 8) (oi := _) (v := undef) rfl (by kernel_rfl) (by kernel_rfl) (by kernel_rfl) (fun _ _ _ h => h) (Or.inr ⟨by rfl, rfl⟩) hHeld ?_
        try simp only [Act.put, List.getElem_toArray, List.getElem_cons_zero, List.getElem_cons_succ, List.setIfInBounds_toArray, List.set_cons_zero, List.set_cons_succ]
        refine wpAnyH_take (i := 9) (oi := _) (v := undef) rfl (by kernel_rfl) (by kernel_rfl) (by kernel_rfl) (fun _ _ _ h => h) (Or.inr ⟨by rfl, rfl⟩) hHeld ?_
        try simp only [Act.put, List.getElem_toArray, List.getElem_cons_zero, List.getElem_cons_succ, List.setIfInBounds_toArray, List.set_cons_zero, List.set_cons_succ]
        refine wpAnyH_take (i := 10) (oi := _) (v := undef) rfl (by kernel_rfl) (by kernel_rfl) (by kernel_rfl) (fun _ _ _ h => h) (Or.inr ⟨by rfl, rfl⟩) hHeld ?_
        try simp only [Act.put, List.getElem_toArray, List.getElem_cons_zero, List.getElem_cons_succ, List.setIfInBounds_toArray, List.set_cons_zero, List.set_cons_succ]
        refine wpAnyH_take (i := 11) (oi := _) (v := undef) rfl (by kernel_rfl) (by kernel_rfl) (by kernel_rfl) (fun _ _ _ h => h) (Or.inr ⟨by rfl, rfl⟩) hHeld ?_
        try simp only [Act.put, List.getElem_toArray, List.getElem_cons_zero, List.getElem_cons_succ, List.setIfInBounds_toArray, List.set_cons_zero, List.set_cons_succ]
        refine wpAnyH_take (i := 12) (oi := _) (v := undef) rfl (by kernel_rfl) (by kernel_rfl) (by kernel_rfl) (fun _ _ _ h => h) (Or.inr ⟨by rfl, rfl⟩) hHeld ?_
        try simp only [Act.put, List.getElem_toArray, List.getElem_cons_zero, List.getElem_cons_succ, List.setIfInBounds_toArray, List.set_cons_zero, List.set_cons_succ]
        refine wpAnyH_take (i := 13) (oi := _) (v := undef) rfl (by kernel_rfl) (by kernel_rfl) (by kernel_rfl) (fun _ _ _ h => h) (Or.inr ⟨by rfl, rfl⟩) hHeld ?_
        try simp only [Act.put, List.getElem_toArray, List.getElem_cons_zero, List.getElem_cons_succ, List.setIfInBounds_toArray, List.set_cons_zero, List.set_cons_succ]
        refine wpAnyH_take (i := 14) (oi := _) (v := undef) rfl (by kernel_rfl) (by kernel_rfl) (by kernel_rfl) (fun _ _ _ h => h) (Or.inr ⟨by rfl, rfl⟩) hHeld ?_
        try simp only [Act.put, List.getElem_toArray, List.getElem_cons_zero, List.getElem_cons_succ, List.setIfInBounds_toArray, List.set_cons_zero, List.set_cons_succ]
        refine wpAnyH_take (i := 15) (oi := _) (v := undef) rfl (by kernel_rfl) (by kernel_rfl) (by kernel_rfl) (fun _ _ _ h => h) (Or.inr ⟨by rfl, rfl⟩) hHeld ?_
        try simp only [Act.put, List.getElem_toArray, List.getElem_cons_zero, List.getElem_cons_succ, List.setIfInBounds_toArray, List.set_cons_zero, List.set_cons_succ]
        refine wpAnyH_take (i := 16) (oi := _) (v := undef) rfl (by kernel_rfl) (by kernel_rfl) (by kernel_rfl) (fun _ _ _ h => h) (Or.inr ⟨by rfl, rfl⟩) hHeld ?_
        try simp only [Act.put, List.getElem_toArray, List.getElem_cons_zero, List.getElem_cons_succ, List.setIfInBounds_toArray, List.set_cons_zero, List.set_cons_succ]
        refine wpAnyH_take (i := 17) (oi := _) (v := undef) rfl (by kernel_rfl) (by kernel_rfl) (by kernel_rfl) (fun _ _ _ h => h) (Or.inr ⟨by rfl, rfl⟩) hHeld ?_
        try simp only [Act.put, List.getElem_toArray, List.getElem_cons_zero, List.getElem_cons_succ, List.setIfInBounds_toArray, List.set_cons_zero, List.set_cons_succ]
        refine wpAnyH_take (i := 18) (oi := _) (v := undef) rfl (by kernel_rfl) (by kernel_rfl) (by kernel_rfl) (fun _ _ _ h => h) (Or.inr ⟨by rfl, rfl⟩) hHeld ?_
        try simp only [Act.put, List.getElem_toArray, List.getElem_cons_zero, List.getElem_cons_succ, List.setIfInBounds_toArray, List.set_cons_zero, List.set_cons_succ]
        refine wpAnyH_take (i := 19) (oi := _) (v := undef) rfl (by kernel_rfl) (by kernel_rfl) (by kernel_rfl) (fun _ _ _ h => h) (Or.inr ⟨by rfl, rfl⟩) hHeld ?_
        try simp only [Act.put, List.getElem_toArray, List.getElem_cons_zero, List.getElem_cons_succ, List.setIfInBounds_toArray, List.set_cons_zero, List.set_cons_succ]
        refine wpAnyH_take (i := 20) (oi := _) (v := undef) rfl (by kernel_rfl) (by kernel_rfl) (by kernel_rfl) (fun _ _ _ h => h) (Or.inr ⟨by rfl, rfl⟩) hHeld ?_
        try simp only [Act.put, List.getElem_toArray, List.getElem_cons_zero, List.getElem_cons_succ, List.setIfInBounds_toArray, List.set_cons_zero, List.set_cons_succ]
        refine wpAnyH_take (i := 21) (oi := _) (v := undef) rfl (by kernel_rfl) (by kernel_rfl) (by kernel_rfl) (fun _ _ _ h => h) (Or.inr ⟨by rfl, rfl⟩) hHeld ?_
        try simp only [Act.put, List.getElem_toArray, List.getElem_cons_zero, List.getElem_cons_succ, List.setIfInBounds_toArray, List.set_cons_zero, List.set_cons_succ]
        refine wpAnyH_take (i := 22) (oi := _) (v := undef) rfl (by kernel_rfl) (by kernel_rfl) (by kernel_rfl) (fun _ _ _ h => h) (Or.inr ⟨by rfl, rfl⟩) hHeld ?_
        try simp only [Act.put, List.getElem_toArray, List.getElem_cons_zero, List.getElem_cons_succ, List.setIfInBounds_toArray, List.set_cons_zero, List.set_cons_succ]
        refine wpAnyH_take (i := 23) (oi := _) (v := ?vR123) rfl (by kernel_rfl) (by kernel_rfl) (by kernel_rfl) (fun _ _ _ h => h) (Or.inl ⟨by rfl, ?yR123⟩) hHeld ?_
        case yR123 => (intro w hSw; (try dsimp only at hSw); go_simp <;> with_reducible rfl)
        try simp only [Act.put, List.getElem_toArray, List.getElem_cons_zero, List.getElem_cons_succ, List.setIfInBounds_toArray, List.set_cons_zero, List.set_cons_succ]
        refine wpAnyH_done (by kernel_rfl) ?_ _
        go_wp2_with fail
        go_ret
        exact ⟨by rw [HB.out (rowOk_no HX.out)]; rfl, hbr.trans (hd1.mono hbr.size)⟩
      | true =>
        have HX : Hid (ruleB d = true) := hr.symm
        clear hr
        cases k with
        | zero =>
          have h1 := h0o rfl
          subst h1
          clear h0o hpv
          rw [Nat.zero_mul, Nat.add_zero] at e0 e1 e2 e3 e4
          have KEEP : Hid (∀ w1, Below wr.heap.size wr w1 → w1.cell? ⟨b, off, none⟩ = some (.string d.task) ∧ w1.cell? ⟨b, off + 1, none⟩ = some (.slice a0 d.on.length c0) ∧ w1.cell? ⟨b, off + 2, none⟩ = some (.slice a1 d.ins.length c1) ∧ w1.cell? ⟨b, off + 3, none⟩ = some (.slice a2 d.envs.length c2) ∧ w1.cell? ⟨b, off + 4, none⟩ = some (.bool d.keep)) := fun w1 h => ⟨(h.cell (by simpa using hbb)).trans e0, (h.cell (by simpa using hbb)).trans e1, (h.cell (by simpa using hbb)).trans e2, (h.cell (by simpa using hbb)).trans e3, (h.cell (by simpa using hbb)).trans e4⟩
          clear e0 e1 e2 e3 e4
          go_wp2_with fail
          refine wp_region_held_drew (S := (fun w' => w'.cell? ⟨b, off, none⟩ = some (.string d.task) ∧ w'.cell? ⟨b, off + 1, none⟩ = some (.slice a0 d.on.length c0) ∧ w'.cell? ⟨b, off + 2, none⟩ = some (.slice a1 d.ins.length c1) ∧ w'.cell? ⟨b, off + 3, none⟩ = some (.slice a2 d.envs.length c2) ∧ w'.cell? ⟨b, off + 4, none⟩ = some (.bool d.keep))) (by kernel_rfl) ?SR20 (fun hHeld => ?_)
          case SR20 => (first | (with_reducible exact KEEP.out _ hd1) | (with_reducible exact KEEP.out _ hd0))
          refine wpAnyH_take (i := 0) (oi := _) (v := ?vR20) rfl (by kernel_rfl) (by kernel_rfl) (by kernel_rfl) (fun _ _ _ h => h) (Or.inl ⟨by rfl, ?yR20⟩) hHeld ?_
          case yR20 => (intro w hSw; (try dsimp only at hSw); go_simp <;> with_reducible rfl)
          try simp only [Act.put, List.getElem_toArray, List.getElem_cons_zero, List.getElem_cons_succ, List.setIfInBounds_toArray, List.set_cons_zero, List.set_cons_succ]
          refine wpAnyH_take (i := 1) (oi := _) (v := ?vR21) rfl (by kernel_rfl) (by kernel_rfl) (by kernel_rfl) (fun _ _ _ h => h) (Or.inl ⟨by rfl, ?yR21⟩) hHeld ?_
          case yR21 => (intro w hSw; (try dsimp only at hSw); go_simp <;> with_reducible rfl)
          try simp only [Act.put, List.getElem_toArray, List.getElem_cons_zero, List.getElem_cons_succ, List.setIfInBounds_toArray, List.set_cons_zero, List.set_cons_succ]
          refine wpAnyH_take (i := 2) (oi := _) (v := ?vR22) rfl (by kernel_rfl) (by kernel_rfl) (by kernel_rfl) (fun _ _ _ h => h) (Or.inl ⟨by rfl, ?yR22⟩) hHeld ?_
          case yR22 => (intro w hSw; (try dsimp only at hSw); go_simp <;> with_reducible rfl)
          try simp only [Act.put, List.getElem_toArray, List.getElem_cons_zero, List.getElem_cons_succ, List.setIfInBounds_toArray, List.set_cons_zero, List.set_cons_succ]
          refine wpAnyH_take (i := 3) (oi := _) (v := ?vR23) rfl (by kernel_rfl) (by kernel_rfl) (by kernel_rfl) (fun _ _ _ h => h) (Or.inl ⟨by rfl, ?yR23⟩) hHeld ?_
          case yR23 => (intro w hSw; (try dsimp only at hSw); go_simp <;> with_reducible rfl)
          try simp only [Act.put, List.getElem_toArray, List.getElem_cons_zero, List.getElem_cons_succ, List.setIfInBounds_toArray, List.set_cons_zero, List.set_cons_succ]
          refine wpAnyH_ready (rs := [4]) (by kernel_rfl) (by simp) ?_
          refine AllReadyH.cons rfl (fun K hK => ?_) AllReadyH.nil
          go_simp
          go_wp2_with (go_at_call 56; refine (HC.out _ hd0).mono ?_; rintro e w1 ⟨rfl, b1⟩; have hd1 : Below wr.heap.size wr w1 := hd0.trans (b1.mono hd0.size))
          clear hHeld
          refine hK.out _ _ ?SR25 (fun hHeld => ?_)
          case SR25 => ((try dsimp only); first | (with_reducible exact KEEP.out _ hd1) | (with_reducible exact KEEP.out _ hd0))
          clear hK K
          refine wpAnyH_take (i := 5) (oi := _) (v := ?vR25) rfl (by kernel_rfl) (by kernel_rfl) (by kernel_rfl) (fun _ _ _ h => h) (Or.inl ⟨by rfl, ?yR25⟩) hHeld ?_
          case yR25 => (intro w hSw; (try dsimp only at hSw); go_simp <;> with_reducible rfl)
          try simp only [Act.put, List.getElem_toArray, List.getElem_cons_zero, List.getElem_cons_succ, List.setIfInBounds_toArray, List.set_cons_zero, List.set_cons_succ]
          refine wpAnyH_take (i := 6) (oi := _) (v := ?vR26) rfl (by kernel_rfl) (by kernel_rfl) (by kernel_rfl) (fun _ _ _ h => h) (Or.inl ⟨by rfl, ?yR26⟩) hHeld ?_
          case yR26 => (intro w hSw; (try dsimp only at hSw); go_simp <;> with_reducible rfl)
          try simp only [Act.put, List.getElem_toArray, List.getElem_cons_zero, List.getElem_cons_succ, List.setIfInBounds_toArray, List.set_cons_zero, List.set_cons_succ]
          refine wpAnyH_take (i := 7) (oi := _) (v := ?vR27) rfl (by kernel_rfl) (by kernel_rfl) (by kernel_rfl) (fun _ _ _ h => h) (Or.inl ⟨by rfl, ?yR27⟩) hHeld ?_
          case yR27 => (intro w hSw; (try dsimp only at hSw); go_simp <;> with_reducible rfl)
          try simp only [Act.put, List.getElem_toArray, List.getElem_cons_zero, List.getElem_cons_succ, List.setIfInBounds_toArray, List.set_cons_zero, List.set_cons_succ]
          refine wpAnyH_take (i := 8) (oi := _) (v := ?vR28) rfl (by kernel_rfl) (by kernel_rfl) (by kernel_rfl) (fun _ _ _ h => h) (Or.inl ⟨by rfl, ?yR28⟩) hHeld ?_
          case yR28 => (intro w hSw; (try dsimp only at hSw); go_simp <;> with_reducible rfl)
          try simp only [Act.put, List.getElem_toArray, List.getElem_cons_zero, List.getElem_cons_succ, List.setIfInBounds_toArray, List.set_cons_zero, List.set_cons_succ]
          refine wpAnyH_take (i := 9) (oi := _) (v := ?vR29) rfl (by kernel_rfl) (by kernel_rfl) (by kernel_rfl) (fun _ _ _ h => h) (Or.inl ⟨by rfl, ?yR29⟩) hHeld ?_
          case yR29 => (intro w hSw; (try dsimp only at hSw); go_simp <;> with_reducible rfl)
          try simp only [Act.put, List.getElem_toArray, List.getElem_cons_zero, List.getElem_cons_succ, List.setIfInBounds_toArray, List.set_cons_zero, List.set_cons_succ]
          refine wpAnyH_take (i := 10) (oi := _) (v := undef) rfl (by kernel_rfl) (by kernel_rfl) (by kernel_rfl) (fun _ _ _ h => h) (Or.inr ⟨by rfl, rfl⟩) hHeld ?_
          try simp only [Act.put, List.getElem_toArray, List.getElem_cons_zero, List.getElem_cons_succ, List.setIfInBounds_toArray, List.set_cons_zero, List.set_cons_succ]
          refine wpAnyH_take (i := 11) (oi := _) (v := undef) rfl (by kernel_rfl) (by kernel_rfl) (by kernel_rfl) (fun _ _ _ h => h) (Or.inr ⟨by rfl, rfl⟩) hHeld ?_
          try simp only [Act.put, List.getElem_toArray, List.getElem_cons_zero, List.getElem_cons_succ, List.setIfInBounds_toArray, List.set_cons_zero, List.set_cons_succ]
          refine wpAnyH_take (i := 12) (oi := _) (v := undef) rfl (by kernel_rfl) (by kernel_rfl) (by kernel_rfl) (fun _ _ _ h => h) (Or.inr ⟨by rfl, rfl⟩) hHeld ?_
          try simp only [Act.put, List.getElem_toArray, List.getElem_cons_zero, List.getElem_cons_succ, List.setIfInBounds_toArray, List.set_cons_zero, List.set_cons_succ]
          refine wpAnyH_take (i := 13) (oi := _) (v := undef) rfl (by kernel_rfl) (by kernel_rfl) (by kernel_rfl) (fun _ _ _ h => h) (Or.inr ⟨by rfl, rfl⟩) hHeld ?_
          try simp only [Act.put, List.getElem_toArray, List.getElem_cons_zero, List.getElem_cons_succ, List.setIfInBounds_toArray, List.set_cons_zero, List.set_cons_succ]
          refine wpAnyH_take (i := 14) (oi := _) (v := undef) rfl (by kernel_rfl) (by kernel_rfl) (by kernel_rfl) (fun _ _ _ h => h) (Or.inr ⟨by rfl, rfl⟩) hHeld ?_
          try simp only [Act.put, List.getElem_toArray, List.getElem_cons_zero, List.getElem_cons_succ, List.setIfInBounds_toArray, List.set_cons_zero, List.set_cons_succ]
          refine wpAnyH_take (i := 15) (oi := _) (v := undef) rfl (by kernel_rfl) (by kernel_rfl) (by kernel_rfl) (fun _ _ _ h => h) (Or.inr ⟨by rfl, rfl⟩) hHeld ?_
          try simp only [Act.put, List.getElem_toArray, List.getElem_cons_zero, List.getElem_cons_succ, List.setIfInBounds_toArray, List.set_cons_zero, List.set_cons_succ]
          refine wpAnyH_take (i := 16) (oi := _) (v := undef) rfl (by kernel_rfl) (by kernel_rfl) (by kernel_rfl) (fun _ _ _ h => h) (Or.inr ⟨by rfl, rfl⟩) hHeld ?_
          try simp only [Act.put, List.getElem_toArray, List.getElem_cons_zero, List.getElem_cons_succ, List.setIfInBounds_toArray, List.set_cons_zero, List.set_cons_succ]
          refine wpAnyH_take (i := 17) (oi := _) (v := undef) rfl (by kernel_rfl) (by kernel_rfl) (by kernel_rfl) (fun _ _ _ h => h) (Or.inr ⟨by rfl, rfl⟩) hHeld ?_
          try simp only [Act.put, List.getElem_toArray, List.getElem_cons_zero, List.getElem_cons_succ, List.setIfInBounds_toArray, List.set_cons_zero, List.set_cons_succ]
          refine wpAnyH_take (i := 18) (oi := _) (v := undef) rfl (by kernel_rfl) (by kernel_rfl) (by kernel_rfl) (fun _ _ _ h => h) (Or.inr ⟨by rfl, rfl⟩) hHeld ?_
          try simp only [Act.put, List.getElem_toArray, List.getElem_cons_zero, List.getElem_cons_succ, List.setIfInBounds_toArray, List.set_cons_zero, List.set_cons_succ]
          refine wpAnyH_take (i := 19) (oi := _) (v := undef) rfl (by kernel_rfl) (by kernel_rfl) (by kernel_rfl) (fun _ _ _ h => h) (Or.inr ⟨by rfl, rfl⟩) hHeld ?_
          try simp only [Act.put, List.getElem_toArray, List.getElem_cons_zero, List.getElem_cons_succ, List.setIfInBounds_toArray, List.set_cons_zero, List.set_cons_succ]
          refine wpAnyH_take (i := 20) (oi := _) (v := undef) rfl (by kernel_rfl) (by kernel_rfl) (by kernel_rfl) (fun _ _ _ h => h) (Or.inr ⟨by rfl, rfl⟩) hHeld ?_
          try simp only [Act.put, List.getElem_toArray, List.getElem_cons_zero, List.getElem_cons_succ, List.setIfInBounds_toArray, List.set_cons_zero, List.set_cons_succ]
          refine wpAnyH_take (i := 21) (oi := _) (v := undef) rfl (by kernel_rfl) (by kernel_rfl) (by kernel_rfl) (fun _ _ _ h => h) (Or.inr ⟨by rfl, rfl⟩) hHeld ?_
          try simp only [Act.put, List.getElem_toArray, List.getElem_cons_zero, List.getElem_cons_succ, List.setIfInBounds_toArray, List.set_cons_zero, List.set_cons_succ]
          refine wpAnyH_take (i := 22) (oi := _) (v := ?vR222) rfl (by kernel_rfl) (by kernel_rfl) (by kernel_rfl) (fun _ _ _ h => h) (Or.inl ⟨by rfl, ?yR222⟩) hHeld ?_
          case yR222 => (intro w hSw; (try dsimp only at hSw); go_simp <;> with_reducible rfl)
          try simp only [Act.put, List.getElem_toArray, List.getElem_cons_zero, List.getElem_cons_succ, List.setIfInBounds_toArray, List.set_cons_zero, List.set_cons_succ]
          refine wpAnyH_take (i := 23) (oi := _) (v := ?vR223) rfl (by kernel_rfl) (by kernel_rfl) (by kernel_rfl) (fun _ _ _ h => h) (Or.inl ⟨by rfl, ?yR223⟩) hHeld ?_
          case yR223 => (intro w hSw; (try dsimp only at hSw); go_simp <;> with_reducible rfl)
          try simp only [Act.put, List.getElem_toArray, List.getElem_cons_zero, List.getElem_cons_succ, List.setIfInBounds_toArray, List.set_cons_zero, List.set_cons_succ]
          refine wpAnyH_done (by kernel_rfl) ?_ _
          go_wp2_with fail
          go_roundw
          case rel => exact ⟨0 + 1, by omega, by go_num, HG.out (rowOk_first HX.out), hbr.trans (hd1.mono hbr.size)⟩
          case measure => simp [intOf]; omega
        | succ j =>
          obtain ⟨c, h1, e9⟩ := hpv j rfl
          subst h1
          clear h0o hpv
          have hj0 : (0 : Int) ≤ (j : Int) + 1 := by omega
          have hj1 : decide ((0 : Int) < (j : Int) + 1) = true := decide_eq_true (by omega)
          have hj2 : (j : Int) + 1 < (xs.length : Int) := by omega
          have hj3 : (j : Int) < (xs.length : Int) := by omega
          have hjw : IntKind.i64.wrap (j : Int) = (j : Int) := IntWalk.i64_in _ ⟨by omega, by omega⟩
          have KEEP : Hid (∀ w1, Below wr.heap.size wr w1 → w1.cell? ⟨b, off + (j + 1) * 5, none⟩ = some (.string d.task) ∧ w1.cell? ⟨b, off + (j + 1) * 5 + 1, none⟩ = some (.slice a0 d.on.length c0) ∧ w1.cell? ⟨b, off + (j + 1) * 5 + 2, none⟩ = some (.slice a1 d.ins.length c1) ∧ w1.cell? ⟨b, off + (j + 1) * 5 + 3, none⟩ = some (.slice a2 d.envs.length c2) ∧ w1.cell? ⟨b, off + (j + 1) * 5 + 4, none⟩ = some (.bool d.keep) ∧ w1.cell? ⟨b, off + j * 5, none⟩ = some (.string c.task)) := fun w1 h => ⟨(h.cell (by simpa using hbb)).trans e0, (h.cell (by simpa using hbb)).trans e1, (h.cell (by simpa using hbb)).trans e2, (h.cell (by simpa using hbb)).trans e3, (h.cell (by simpa using hbb)).trans e4, (h.cell (by simpa using hbb)).trans e9⟩
          clear e0 e1 e2 e3 e4 e9
          go_wp2_with fail
          refine wp_region_held_drew (S := (fun w' => w'.cell? ⟨b, off + (j + 1) * 5, none⟩ = some (.string d.task) ∧ w'.cell? ⟨b, off + (j + 1) * 5 + 1, none⟩ = some (.slice a0 d.on.length c0) ∧ w'.cell? ⟨b, off + (j + 1) * 5 + 2, none⟩ = some (.slice a1 d.ins.length c1) ∧ w'.cell? ⟨b, off + (j + 1) * 5 + 3, none⟩ = some (.slice a2 d.envs.length c2) ∧ w'.cell? ⟨b, off + (j + 1) * 5 + 4, none⟩ = some (.bool d.keep) ∧ w'.cell? ⟨b, off + j * 5, none⟩ = some (.string c.task))) (by kernel_rfl) ?SR30 (fun hHeld => ?_)
          case SR30 => (first | (with_reducible exact KEEP.out _ hd1) | (with_reducible exact KEEP.out _ hd0))
          refine wpAnyH_take (i := 0) (oi := _) (v := ?vR30) rfl (by kernel_rfl) (by kernel_rfl) (by kernel_rfl) (fun _ _ _ h => h) (Or.inl ⟨by rfl, ?yR30⟩) hHeld ?_
          case yR30 => (intro w hSw; (try dsimp only at hSw); go_simp <;> with_reducible rfl)
          try simp only [Act.put, List.getElem_toArray, List.getElem_cons_zero, List.getElem_cons_succ, List.setIfInBounds_toArray, List.set_cons_zero, List.set_cons_succ]
          refine wpAnyH_take (i := 1) (oi := _) (v := ?vR31) rfl (by kernel_rfl) (by kernel_rfl) (by kernel_rfl) (fun _ _ _ h => h) (Or.inl ⟨by rfl, ?yR31⟩) hHeld ?_
          case yR31 => (intro w hSw; (try dsimp only at hSw); go_simp <;> with_reducible rfl)
          try simp only [Act.put, List.getElem_toArray, List.getElem_cons_zero, List.getElem_cons_succ, List.setIfInBounds_toArray, List.set_cons_zero, List.set_cons_succ]
          refine wpAnyH_take (i := 2) (oi := _) (v := ?vR32) rfl (by kernel_rfl) (by kernel_rfl) (by kernel_rfl) (fun _ _ _ h => h) (Or.inl ⟨by rfl, ?yR32⟩) hHeld ?_
          case yR32 => (intro w hSw; (try dsimp only at hSw); go_simp <;> with_reducible rfl)
          try simp only [Act.put, List.getElem_toArray, List.getElem_cons_zero, List.getElem_cons_succ, List.setIfInBounds_toArray, List.set_cons_zero, List.set_cons_succ]
          refine wpAnyH_take (i := 3) (oi := _) (v := ?vR33) rfl (by kernel_rfl) (by kernel_rfl) (by kernel_rfl) (fun _ _ _ h => h) (Or.inl ⟨by rfl, ?yR33⟩) hHeld ?_
          case yR33 => (intro w hSw; (try dsimp only at hSw); go_simp <;> with_reducible rfl)
          try simp only [Act.put, List.getElem_toArray, List.getElem_cons_zero, List.getElem_cons_succ, List.setIfInBounds_toArray, List.set_cons_zero, List.set_cons_succ]
          refine wpAnyH_ready (rs := [4]) (by kernel_rfl) (by simp) ?_
          refine AllReadyH.cons rfl (fun K hK => ?_) AllReadyH.nil
          go_simp
          go_wp2_with (go_at_call 56; refine (HC.out _ hd0).mono ?_; rintro e w1 ⟨rfl, b1⟩; have hd1 : Below wr.heap.size wr w1 := hd0.trans (b1.mono hd0.size))
          clear hHeld
          refine hK.out _ _ ?SR35 (fun hHeld => ?_)
          case SR35 => ((try dsimp only); first | (with_reducible exact KEEP.out _ hd1) | (with_reducible exact KEEP.out _ hd0))
          clear hK K
          refine wpAnyH_take (i := 5) (oi := _) (v := ?vR35) rfl (by kernel_rfl) (by kernel_rfl) (by kernel_rfl) (fun _ _ _ h => h) (Or.inl ⟨by rfl, ?yR35⟩) hHeld ?_
          case yR35 => (intro w hSw; (try dsimp only at hSw); go_simp <;> with_reducible rfl)
          try simp only [Act.put, List.getElem_toArray, List.getElem_cons_zero, List.getElem_cons_succ, List.setIfInBounds_toArray, List.set_cons_zero, List.set_cons_succ]
          refine wpAnyH_take (i := 6) (oi := _) (v := ?vR36) rfl (by kernel_rfl) (by kernel_rfl) (by kernel_rfl) (fun _ _ _ h => h) (Or.inl ⟨by rfl, ?yR36⟩) hHeld ?_
          case yR36 => (intro w hSw; (try dsimp only at hSw); go_simp <;> with_reducible rfl)
          try simp only [Act.put, List.getElem_toArray, List.getElem_cons_zero, List.getElem_cons_succ, List.setIfInBounds_toArray, List.set_cons_zero, List.set_cons_succ]
          refine wpAnyH_take (i := 7) (oi := _) (v := ?vR37) rfl (by kernel_rfl) (by kernel_rfl) (by kernel_rfl) (fun _ _ _ h => h) (Or.inl ⟨by rfl, ?yR37⟩) hHeld ?_
          case yR37 => (intro w hSw; (try dsimp only at hSw); go_simp <;> with_reducible rfl)
          try simp only [Act.put, List.getElem_toArray, List.getElem_cons_zero, List.getElem_cons_succ, List.setIfInBounds_toArray, List.set_cons_zero, List.set_cons_succ]
          refine wpAnyH_take (i := 8) (oi := _) (v := ?vR38) rfl (by kernel_rfl) (by kernel_rfl) (by kernel_rfl) (fun _ _ _ h => h) (Or.inl ⟨by rfl, ?yR38⟩) hHeld ?_
          case yR38 => (intro w hSw; (try dsimp only at hSw); go_simp <;> with_reducible rfl)
          try simp only [Act.put, List.getElem_toArray, List.getElem_cons_zero, List.getElem_cons_succ, List.setIfInBounds_toArray, List.set_cons_zero, List.set_cons_succ]
          refine wpAnyH_take (i := 9) (oi := _) (v := ?vR39) rfl (by kernel_rfl) (by kernel_rfl) (by kernel_rfl) (fun _ _ _ h => h) (Or.inl ⟨by rfl, ?yR39⟩) hHeld ?_
          case yR39 => (intro w hSw; (try dsimp only at hSw); go_simp <;> with_reducible rfl)
          try simp only [Act.put, List.getElem_toArray, List.getElem_cons_zero, List.getElem_cons_succ, List.setIfInBounds_toArray, List.set_cons_zero, List.set_cons_succ]
          refine wpAnyH_take (i := 10) (oi := _) (v := ?vR310) rfl (by kernel_rfl) (by kernel_rfl) (by kernel_rfl) (fun _ _ _ h => h) (Or.inl ⟨by rfl, ?yR310⟩) hHeld ?_
          case yR310 => (intro w hSw; (try dsimp only at hSw); go_simp <;> with_reducible rfl)
          try simp only [Act.put, List.getElem_toArray, List.getElem_cons_zero, List.getElem_cons_succ, List.setIfInBounds_toArray, List.set_cons_zero, List.set_cons_succ]
          refine wpAnyH_take (i := 11) (oi := _) (v := ?vR311) rfl (by kernel_rfl) (by kernel_rfl) (by kernel_rfl) (fun _ _ _ h => h) (Or.inl ⟨by rfl, ?yR311⟩) hHeld ?_
          case yR311 => (intro w hSw; (try dsimp only at hSw); go_simp <;> with_reducible rfl)
          try simp only [Act.put, List.getElem_toArray, List.getElem_cons_zero, List.getElem_cons_succ, List.setIfInBounds_toArray, List.set_cons_zero, List.set_cons_succ]
          refine wpAnyH_take (i := 12) (oi := _) (v := ?vR312) rfl (by kernel_rfl) (by kernel_rfl) (by kernel_rfl) (fun _ _ _ h => h) (Or.inl ⟨by rfl, ?yR312⟩) hHeld ?_
          case yR312 => (intro w hSw; (try dsimp only at hSw); go_simp <;> with_reducible rfl)
          try simp only [Act.put, List.getElem_toArray, List.getElem_cons_zero, List.getElem_cons_succ, List.setIfInBounds_toArray, List.set_cons_zero, List.set_cons_succ]
          refine wpAnyH_take (i := 13) (oi := _) (v := ?vR313) rfl (by kernel_rfl) (by kernel_rfl) (by kernel_rfl) (fun _ _ _ h => h) (Or.inl ⟨by rfl, ?yR313⟩) hHeld ?_
          case yR313 => (intro w hSw; (try dsimp only at hSw); go_simp <;> with_reducible rfl)
          try simp only [Act.put, List.getElem_toArray, List.getElem_cons_zero, List.getElem_cons_succ, List.setIfInBounds_toArray, List.set_cons_zero, List.set_cons_succ]
          refine wpAnyH_take (i := 14) (oi := _) (v := ?vR314) rfl (by kernel_rfl) (by kernel_rfl) (by kernel_rfl) (fun _ _ _ h => h) (Or.inl ⟨by rfl, ?yR314⟩) hHeld ?_
          case yR314 => (intro w hSw; (try dsimp only at hSw); go_simp <;> with_reducible rfl)
          try simp only [Act.put, List.getElem_toArray, List.getElem_cons_zero, List.getElem_cons_succ, List.setIfInBounds_toArray, List.set_cons_zero, List.set_cons_succ]
          refine wpAnyH_take (i := 15) (oi := _) (v := ?vR315) rfl (by kernel_rfl) (by kernel_rfl) (by kernel_rfl) (fun _ _ _ h => h) (Or.inl ⟨by rfl, ?yR315⟩) hHeld ?_
          case yR315 => (intro w hSw; (try dsimp only at hSw); go_simp <;> with_reducible rfl)
          try simp only [Act.put, List.getElem_toArray, List.getElem_cons_zero, List.getElem_cons_succ, List.setIfInBounds_toArray, List.set_cons_zero, List.set_cons_succ]
          refine wpAnyH_take (i := 16) (oi := _) (v := ?vR316) rfl (by kernel_rfl) (by kernel_rfl) (by kernel_rfl) (fun _ _ _ h => h) (Or.inl ⟨by rfl, ?yR316⟩) hHeld ?_
          case yR316 => (intro w hSw; (try dsimp only at hSw); go_simp <;> with_reducible rfl)
          try simp only [Act.put, List.getElem_toArray, List.getElem_cons_zero, List.getElem_cons_succ, List.setIfInBounds_toArray, List.set_cons_zero, List.set_cons_succ]
          refine wpAnyH_take (i := 17) (oi := _) (v := ?vR317) rfl (by kernel_rfl) (by kernel_rfl) (by kernel_rfl) (fun _ _ _ h => h) (Or.inl ⟨by rfl, ?yR317⟩) hHeld ?_
          case yR317 => (intro w hSw; (try dsimp only at hSw); go_simp <;> with_reducible rfl)
          try simp only [Act.put, List.getElem_toArray, List.getElem_cons_zero, List.getElem_cons_succ, List.setIfInBounds_toArray, List.set_cons_zero, List.set_cons_succ]
          refine wpAnyH_take (i := 18) (oi := _) (v := ?vR318) rfl (by kernel_rfl) (by kernel_rfl) (by kernel_rfl) (fun _ _ _ h => h) (Or.inl ⟨by rfl, ?yR318⟩) hHeld ?_
          case yR318 => (intro w hSw; (try dsimp only at hSw); go_simp <;> with_reducible rfl)
          try simp only [Act.put, List.getElem_toArray, List.getElem_cons_zero, List.getElem_cons_succ, List.setIfInBounds_toArray, List.set_cons_zero, List.set_cons_succ]
          refine wpAnyH_take (i := 19) (oi := _) (v := ?vR319) rfl (by kernel_rfl) (by kernel_rfl) (by kernel_rfl) (fun _ _ _ h => h) (Or.inl ⟨by rfl, ?yR319⟩) hHeld ?_
          case yR319 => (intro w hSw; (try dsimp only at hSw); go_simp <;> with_reducible rfl)
          try simp only [Act.put, List.getElem_toArray, List.getElem_cons_zero, List.getElem_cons_succ, List.setIfInBounds_toArray, List.set_cons_zero, List.set_cons_succ]
          refine wpAnyH_take (i := 20) (oi := _) (v := ?vR320) rfl (by kernel_rfl) (by kernel_rfl) (by kernel_rfl) (fun _ _ _ h => h) (Or.inl ⟨by rfl, ?yR320⟩) hHeld ?_
          case yR320 => (intro w hSw; (try dsimp only at hSw); go_simp <;> with_reducible rfl)
          try simp only [Act.put, List.getElem_toArray, List.getElem_cons_zero, List.getElem_cons_succ, List.setIfInBounds_toArray, List.set_cons_zero, List.set_cons_succ]
          refine wpAnyH_take (i := 21) (oi := _) (v := ?vR321) rfl (by kernel_rfl) (by kernel_rfl) (by kernel_rfl) (fun _ _ _ h => h) (Or.inl ⟨by rfl, ?yR321⟩) hHeld ?_
          case yR321 => (intro w hSw; (try dsimp only at hSw); go_simp <;> with_reducible rfl)
          try simp only [Act.put, List.getElem_toArray, List.getElem_cons_zero, List.getElem_cons_succ, List.setIfInBounds_toArray, List.set_cons_zero, List.set_cons_succ]
          refine wpAnyH_take (i := 22) (oi := _) (v := ?vR322) rfl (by kernel_rfl) (by kernel_rfl) (by kernel_rfl) (fun _ _ _ h => h) (Or.inl ⟨by rfl, ?yR322⟩) hHeld ?_
          case yR322 => (intro w hSw; (try dsimp only at hSw); go_simp <;> with_reducible rfl)
          try simp only [Act.put, List.getElem_toArray, List.getElem_cons_zero, List.getElem_cons_succ, List.setIfInBounds_toArray, List.set_cons_zero, List.set_cons_succ]
          refine wpAnyH_take (i := 23) (oi := _) (v := ?vR323) rfl (by kernel_rfl) (by kernel_rfl) (by kernel_rfl) (fun _ _ _ h => h) (Or.inl ⟨by rfl, ?yR323⟩) hHeld ?_
          case yR323 => (intro w hSw; (try dsimp only at hSw); go_simp <;> with_reducible rfl)
          try simp only [Act.put, List.getElem_toArray, List.getElem_cons_zero, List.getElem_cons_succ, List.setIfInBounds_toArray, List.set_cons_zero, List.set_cons_succ]
          refine wpAnyH_done (by kernel_rfl) ?_ _
          go_wp2_with fail
          · have hlx : (!Op.bytesLess c.task.toList d.task.toList) = true := by assumption
            go_ret
            exact ⟨by rw [HB.out (rowOk_less (by simpa using hlx))]; rfl, hbr.trans (hd1.mono hbr.size)⟩
          · have hlx : (!Op.bytesLess c.task.toList d.task.toList) = false := by assumption
            go_roundw
            case rel => exact ⟨j + 1 + 1, by omega, by go_num, HG.out (by rw [rowOk_some HX.out]; simpa using hlx), hbr.trans (hd1.mono hbr.size)⟩
            case measure => simp [intOf]; omega
    · have he : k = xs.length := by omega
      subst he
      have HE : Hid (Q = true) := HQ.out.trans hh.out
      clear ha hh HQ
      by_cases hm : xs.length ≤ 5
      · have hm' : (xs.length : Int) ≤ 5 := by omega
        go_wp2_with fail
        go_ret
        exact ⟨by first | rfl | (rw [HE.out, decide_eq_true hm]; rfl) | (rw [HE.out, decide_eq_true hm]; simp [hm]; done) | rfl | simp [hm] | (simp; omega), hbr⟩
      · have hm' : ¬ (xs.length : Int) ≤ 5 := by omega
        go_wp2_with fail
        go_ret
        exact ⟨by first | rfl | (rw [HE.out, decide_eq_false hm]; rfl) | rfl | simp [hm] | (simp; omega), hbr⟩
end Go.Proofs.Ytiadcebolcdhbaa

/-! How much needs hold, as the law counts it: contracts for the walks; conditions: at most 2 to the 20 is left to count. -/
namespace Go.Proofs.Ytiadcebolcdhbaa
open Go.RowKit
set_option linter.unusedSimpArgs false
set_option linter.unusedVariables false

end Go.Proofs.Ytiadcebolcdhbaa

/-! How much they hold, as the law counts it: contracts for the walks; conditions: at most 2 to the 20 is left to count. -/
namespace Go.Proofs.Ytiadcebolcdhbaa
open Go.RowKit
set_option linter.unusedSimpArgs false
set_option linter.unusedVariables false

set_option maxHeartbeats 2000000 in
set_option maxRecDepth 100000 in
theorem szRule_c (S : Nat → Prop) (d : RuleD) (cs : List Value) (left : Int) (h0 : 0 ≤ left) (h1 : left ≤ 1048576) (w : World) (hd : shRule.lies S w cs d) (hB : ∀ b, S b → b < w.heap.size) :
    Calls Try.prog 24 #[.agg cs.toArray, .int .i64 left] w fun e w' => e = .returned (.int .i64 (leftW (wtRule d) left)) ∧ Below w.heap.size w w' := by
  obtain ⟨u0, u1, u2, rfl, s_task, r0, p0, r1, p1, r2, p2⟩ := hd
  unfold maxLen at s_task
  have hbx : ∀ o, Below w.heap.size w (w.alloc o) := fun o => (Below.refl _ _).alloc (Nat.le_refl _) _
  obtain ⟨R, hR⟩ : ∃ R, R = leftW (wtRule d) left := ⟨_, rfl⟩
  rw [← hR]
  obtain ⟨q0, hq0⟩ : ∃ q, q = leftW (bulkS d.on) (left - (d.task.size : Int)) := ⟨_, rfl⟩
  obtain ⟨q1, hq1⟩ : ∃ q, q = leftW (bulkS d.ins) q0 := ⟨_, rfl⟩
  obtain ⟨q2, hq2⟩ : ∃ q, q = leftW (bulkS d.envs) q1 := ⟨_, rfl⟩
  have HS0 : Hid (0 ≤ (left - (d.task.size : Int)) → (left - (d.task.size : Int)) ≤ 1048576 → ∀ w1, Below w.heap.size w w1 → Calls Try.prog 60 #[u0, .int .i64 (left - (d.task.size : Int))] w1 fun e w' => e = .returned (.int .i64 q0) ∧ w1 = w') := fun a b w1 hb => by
    rw [hq0]; exact sizeStrsM_c u0 d.on w1 _ a b ((r0.keep (.of hb hB)).reads (fun b h => Nat.lt_of_lt_of_le (hB b h) hb.size)) p0.1 p0.2
  have HS1 : Hid (0 ≤ q0 → q0 ≤ 1048576 → ∀ w1, Below w.heap.size w w1 → Calls Try.prog 60 #[u1, .int .i64 q0] w1 fun e w' => e = .returned (.int .i64 q1) ∧ w1 = w') := fun a b w1 hb => by
    rw [hq1]; exact sizeStrsM_c u1 d.ins w1 _ a b ((r1.keep (.of hb hB)).reads (fun b h => Nat.lt_of_lt_of_le (hB b h) hb.size)) p1.1 p1.2
  have HS2 : Hid (0 ≤ q1 → q1 ≤ 1048576 → ∀ w1, Below w.heap.size w w1 → Calls Try.prog 60 #[u2, .int .i64 q1] w1 fun e w' => e = .returned (.int .i64 q2) ∧ w1 = w') := fun a b w1 hb => by
    rw [hq2]; exact sizeStrsM_c u2 d.envs w1 _ a b ((r2.keep (.of hb hB)).reads (fun b h => Nat.lt_of_lt_of_le (hB b h) hb.size)) p2.1 p2.2
  obtain ⟨a0, cap0, eu0, _⟩ := id r0
  rw [length_strsV] at eu0
  subst eu0
  clear r0
  obtain ⟨a1, cap1, eu1, _⟩ := id r1
  rw [length_strsV] at eu1
  subst eu1
  clear r1
  obtain ⟨a2, cap2, eu2, _⟩ := id r2
  rw [length_strsV] at eu2
  subst eu2
  clear r2
  have lt := lw (wtRule d) left
  have l0 := lw (bulkS d.on) (left - (d.task.size : Int))
  rw [← hq0] at l0
  have l1 := lw (bulkS d.ins) q0
  rw [← hq1] at l1
  have l2 := lw (bulkS d.envs) q1
  rw [← hq2] at l2
  rw [← hR] at lt
  unfold wtRule at lt
  clear hq0 hq1 hq2 hR
  by_cases n0 : (left - (d.task.size : Int)) < 0
  · have HR : Hid (R = -1) := by show _ = _; omega
    clear lt l0 l1 l2
    clear HS0
    clear HS1
    clear HS2
    go_enter Try.func24, Try.ntmps24
    go_wp2_with fail
    go_ret
    exact ⟨by rw [HR.out]; rfl, (hbx _)⟩
  by_cases n1 : q0 < 0
  · have HR : Hid (R = -1) := by show _ = _; omega
    have g0a : 0 ≤ (left - (d.task.size : Int)) := by omega
    have g0b : (left - (d.task.size : Int)) ≤ 1048576 := by omega
    have HC0 := HS0.out g0a g0b
    have HD0 := hidden HC0
    clear HC0
    clear lt l0 l1 l2
    clear HS0
    clear HS1
    clear HS2
    go_enter Try.func24, Try.ntmps24
    go_wp2_with fail
    go_at_call 60
    refine (HD0.out _ (hbx _)).mono ?_
    rintro e w' ⟨rfl, rfl⟩
    go_wp2_with fail
    go_ret
    exact ⟨by rw [HR.out]; rfl, (hbx _)⟩
  by_cases n2 : q1 < 0
  · have HR : Hid (R = -1) := by show _ = _; omega
    have g0a : 0 ≤ (left - (d.task.size : Int)) := by omega
    have g0b : (left - (d.task.size : Int)) ≤ 1048576 := by omega
    have g1a : 0 ≤ q0 := by omega
    have g1b : q0 ≤ 1048576 := by omega
    have HC0 := HS0.out g0a g0b
    have HD0 := hidden HC0
    clear HC0
    have HC1 := HS1.out g1a g1b
    have HD1 := hidden HC1
    clear HC1
    clear lt l0 l1 l2
    clear HS0
    clear HS1
    clear HS2
    go_enter Try.func24, Try.ntmps24
    go_wp2_with fail
    go_at_call 60
    refine (HD0.out _ (hbx _)).mono ?_
    rintro e w' ⟨rfl, rfl⟩
    go_wp2_with fail
    go_at_call 60
    refine (HD1.out _ (hbx _)).mono ?_
    rintro e w' ⟨rfl, rfl⟩
    go_wp2_with fail
    go_ret
    exact ⟨by rw [HR.out]; rfl, (hbx _)⟩
  by_cases n3 : q2 < 0
  · have HR : Hid (R = -1) := by show _ = _; omega
    have g0a : 0 ≤ (left - (d.task.size : Int)) := by omega
    have g0b : (left - (d.task.size : Int)) ≤ 1048576 := by omega
    have g1a : 0 ≤ q0 := by omega
    have g1b : q0 ≤ 1048576 := by omega
    have g2a : 0 ≤ q1 := by omega
    have g2b : q1 ≤ 1048576 := by omega
    have HC0 := HS0.out g0a g0b
    have HD0 := hidden HC0
    clear HC0
    have HC1 := HS1.out g1a g1b
    have HD1 := hidden HC1
    clear HC1
    have HC2 := HS2.out g2a g2b
    have HD2 := hidden HC2
    clear HC2
    clear lt l0 l1 l2
    clear HS0
    clear HS1
    clear HS2
    go_enter Try.func24, Try.ntmps24
    go_wp2_with fail
    go_at_call 60
    refine (HD0.out _ (hbx _)).mono ?_
    rintro e w' ⟨rfl, rfl⟩
    go_wp2_with fail
    go_at_call 60
    refine (HD1.out _ (hbx _)).mono ?_
    rintro e w' ⟨rfl, rfl⟩
    go_wp2_with fail
    go_at_call 60
    refine (HD2.out _ (hbx _)).mono ?_
    rintro e w' ⟨rfl, rfl⟩
    go_wp2_with fail
    go_ret
    exact ⟨by rw [HR.out]; rfl, (hbx _)⟩
  have HR : Hid (R = q2) := by show _ = _; omega
  have g0a : 0 ≤ (left - (d.task.size : Int)) := by omega
  have g0b : (left - (d.task.size : Int)) ≤ 1048576 := by omega
  have g1a : 0 ≤ q0 := by omega
  have g1b : q0 ≤ 1048576 := by omega
  have g2a : 0 ≤ q1 := by omega
  have g2b : q1 ≤ 1048576 := by omega
  have HC0 := HS0.out g0a g0b
  have HD0 := hidden HC0
  clear HC0
  have HC1 := HS1.out g1a g1b
  have HD1 := hidden HC1
  clear HC1
  have HC2 := HS2.out g2a g2b
  have HD2 := hidden HC2
  clear HC2
  clear lt l0 l1 l2
  clear HS0
  clear HS1
  clear HS2
  go_enter Try.func24, Try.ntmps24
  go_wp2_with fail
  go_at_call 60
  refine (HD0.out _ (hbx _)).mono ?_
  rintro e w' ⟨rfl, rfl⟩
  go_wp2_with fail
  go_at_call 60
  refine (HD1.out _ (hbx _)).mono ?_
  rintro e w' ⟨rfl, rfl⟩
  go_wp2_with fail
  go_at_call 60
  refine (HD2.out _ (hbx _)).mono ?_
  rintro e w' ⟨rfl, rfl⟩
  go_wp2_with fail
  go_ret
  exact ⟨by rw [HR.out]; rfl, (hbx _)⟩

set_option maxHeartbeats 2000000 in
set_option maxRecDepth 100000 in
theorem szRuleS_c (S : Nat → Prop) (v : Value) (xs : List RuleD) (left : Int) (h0 : 0 ≤ left) (h1 : left ≤ 1048576) (w : World) (hv : RowIn shRule S w v xs) (hB : ∀ b, S b → b < w.heap.size) :
    Calls Try.prog 19 #[v, .int .i64 left] w fun e w' => e = .returned (.int .i64 (leftW (wtRow wtRule xs) left)) ∧ Below w.heap.size w w' := by
  obtain ⟨a, cap, rfl, hl, hc, ha⟩ := hv
  unfold maxLen at hl
  by_cases hneg : left - (xs.length : Int) < 0
  · have e : leftW (wtRow wtRule xs) left = -1 := leftW_bad (by have := len_wtRow wtRule xs; omega)
    rw [e]
    clear ha
    go_enter Try.func19, Try.ntmps19
    go_wp2_with fail
    go_ret
    exact ⟨rfl, Below.refl _ _⟩
  · go_enter Try.func19, Try.ntmps19
    go_wp2_with fail
    go_loopw [1, 5] (fun vl vi wr => ∃ (k : Nat) (q : Int), k ≤ xs.length ∧ vi = .int .i64 (k : Int) ∧ vl = .int .i64 q ∧ 0 ≤ q ∧ q ≤ 1048576 ∧ Hid (q = left - (xs.length : Int) - (wtRow wtRule (xs.take k) : Int) + (k : Int)) ∧ Below w.heap.size w wr) (fun _ vi _ => xs.length - (intOf vi).toNat)
    case atStart => exact ⟨0, _, Nat.zero_le _, rfl, rfl, by omega, by omega, by show _ = _; simp [wtRow], Below.refl _ _⟩
    case round =>
      obtain ⟨k, q, hk, rfl, rfl, hq0, hq1, hq, hbr⟩ := hrel
      by_cases hlt' : k < xs.length
      · rcases ha with rfl | ⟨b, off, rfl, hlt, ha⟩
        · simp at hlt'
        obtain ⟨cs, hL, hcell⟩ := ha k hlt'
        have hL2 := shRule.keep (.of hbr hB) hL
        have hcell2 := hcell.keep (.of hbr hB) hlt
        have hBr : ∀ b, S b → b < wr.heap.size := fun b h => Nat.lt_of_lt_of_le (hB b h) hbr.size
        have hwt := wtRow_take wtRule xs k hlt'
        have hsp := wtRow_split wtRule xs (k + 1)
        have hln := len_wtRow wtRule (xs.drop (k + 1))
        have hdl : (xs.drop (k + 1)).length = xs.length - (k + 1) := by simp
        obtain ⟨d, hd⟩ : ∃ d, d = xs[k] := ⟨_, rfl⟩
        rw [← hd] at hL2 hwt
        have HW : Hid (wtRow wtRule (xs.take (k + 1)) = wtRow wtRule (xs.take k) + (1 + wtRule d)) := hwt
        have HSP : Hid (wtRow wtRule xs = wtRow wtRule (xs.take (k + 1)) + wtRow wtRule (xs.drop (k + 1)) ∧ xs.length - (k + 1) ≤ wtRow wtRule (xs.drop (k + 1))) := ⟨hsp, by omega⟩
        have hki : (k : Int) < (xs.length : Int) := by omega
        obtain ⟨p, hp⟩ : ∃ p, p = leftW (wtRule d) q := ⟨_, rfl⟩
        have HP : Hid (p = leftW (wtRule d) q) := hp
        have HC := szRule_c S d cs q hq0 hq1 wr hL2 hBr
        rw [← hp] at HC
        clear hL hcell ha hwt hd hp hsp hln hdl
        obtain ⟨u0, u1, u2, rfl, s_task, r0, p0, r1, p1, r2, p2⟩ := hL2
        clear s_task p0 p1 p2
        obtain ⟨a0, cap0, eu0, _⟩ := id r0
        rw [length_strsV] at eu0
        subst eu0
        clear r0
        obtain ⟨a1, cap1, eu1, _⟩ := id r1
        rw [length_strsV] at eu1
        subst eu1
        clear r1
        obtain ⟨a2, cap2, eu2, _⟩ := id r2
        rw [length_strsV] at eu2
        subst eu2
        clear r2
        have e0 : wr.cell? ⟨b, off + k * 5, none⟩ = some (.string d.task) := hcell2 0 (by simp)
        have e1 : wr.cell? ⟨b, off + k * 5 + 1, none⟩ = some (.slice a0 d.on.length cap0) := hcell2 1 (by simp)
        have e2 : wr.cell? ⟨b, off + k * 5 + 2, none⟩ = some (.slice a1 d.ins.length cap1) := hcell2 2 (by simp)
        have e3 : wr.cell? ⟨b, off + k * 5 + 3, none⟩ = some (.slice a2 d.envs.length cap2) := hcell2 3 (by simp)
        have e4 : wr.cell? ⟨b, off + k * 5 + 4, none⟩ = some (.bool d.keep) := hcell2 4 (by simp)
        have HC2 := hidden HC
        clear hcell2 HC
        by_cases hpn : p < 0
        · go_wp2_with (go_at_call 24; refine HC2.out.mono ?_; rintro e w1 ⟨rfl, hb1⟩)
          go_ret
          have e : leftW (wtRow wtRule xs) left = -1 := by
            have h2 := HP.out; have h3 := hq.out; have h4 := HW.out; have h5 := HSP.out
            refine leftW_bad ?_
            by_cases h6 : ((wtRule d : Nat) : Int) ≤ q
            · rw [leftW_good h6] at h2; omega
            · omega
          exact ⟨by rw [e]; rfl, hbr.trans (hb1.mono hbr.size)⟩
        · go_wp2_with (go_at_call 24; refine HC2.out.mono ?_; rintro e w1 ⟨rfl, hb1⟩)
          go_roundw
          case rel =>
            have h2 := HP.out; have h3 := hq.out; have h4 := HW.out
            have h6 : ((wtRule d : Nat) : Int) ≤ q := by
              by_cases h6 : ((wtRule d : Nat) : Int) ≤ q
              · exact h6
              · rw [leftW_bad (by omega)] at h2; omega
            rw [leftW_good h6] at h2
            exact ⟨k + 1, p, by omega, by go_num, rfl, by omega, by omega, (by show _ = _; omega), hbr.trans (hb1.mono hbr.size)⟩
          case measure => simp [intOf]; omega
      · have he : k = xs.length := by omega
        subst he
        clear ha
        go_wp2_with fail
        go_ret
        have e : leftW (wtRow wtRule xs) left = q := by
          have h3 := hq.out
          rw [List.take_length] at h3
          rw [leftW_good (by omega)]; omega
        exact ⟨by rw [e]; rfl, hbr⟩

end Go.Proofs.Ytiadcebolcdhbaa

/-! Copies of needs and commands, and of rows of them, in memory of their own, as the law makes them: contracts for the walks; condition: what is copied holds at most 2 to the 20. -/
namespace Go.Proofs.Ytiadcebolcdhbaa
open Go.RowKit
set_option linter.unusedSimpArgs false
set_option linter.unusedVariables false

theorem owns_sliceP {w : World} {lo : Nat} {e : TypeId} {sz n : Nat} {v : Value} {xs : List Value} (hg : w.ownsRow lo e sz v n xs) : ∃ q cap, v = .slice q n cap := by
  rcases hg.2 with ⟨h1, h2⟩ | ⟨g, cap, cur, h1, _⟩
  · exact ⟨none, 0, by rw [h1, h2]⟩
  · exact ⟨_, _, h1⟩
theorem StrsOwn.slice {S : Nat → Prop} {w : World} {u : Value} {ss : List ByteArray} (h : StrsOwn S w u ss) : ∃ q cap, u = .slice q ss.length cap := owns_sliceP h.1
theorem RowOwn.slice {α : Type} {sh : Sh α} {t : TypeId} {S : Nat → Prop} {w : World} {v : Value} {xs : List α} (h : RowOwn sh t S w v xs) : ∃ q cap, v = .slice q xs.length cap := by
  obtain ⟨_, ys, h1, _⟩ := h; exact owns_sliceP h1

set_option maxHeartbeats 2000000 in
set_option maxRecDepth 100000 in
theorem infoNeed : (Try.prog.info? 154).map (fun i => (i.zero, i.size, i.bytes)) = some (some (.agg #[.string ⟨#[]⟩, .string ⟨#[]⟩]), 2, 32) := by kernel_rfl
set_option maxHeartbeats 2000000 in
set_option maxRecDepth 100000 in
theorem infoCmd : (Try.prog.info? 141).map (fun i => (i.zero, i.size, i.bytes)) = some (some (.agg #[.string ⟨#[]⟩, .slice none 0 0]), 2, 40) := by kernel_rfl
end Go.Proofs.Ytiadcebolcdhbaa

/-! Copies in memory of their own, as the law makes them: contracts for the walks; condition: what is copied holds at most 2 to the 20. -/
namespace Go.Proofs.Ytiadcebolcdhbaa
open Go.RowKit
set_option linter.unusedSimpArgs false
set_option linter.unusedVariables false

set_option maxHeartbeats 2000000 in
set_option maxRecDepth 100000 in
theorem toRule_c (S : Nat → Prop) (d : RuleD) (cs : List Value) (w : World) (hd : shRule.lies S w cs d) (hB : ∀ b, S b → b < w.heap.size) (hw : wtRule d ≤ 1048576) :
    Calls Try.prog 26 #[.agg cs.toArray] w fun e w' => ∃ cs', e = .returned (.agg cs'.toArray) ∧ shRuleO.lies (Ow w.heap.size w'.heap.size) w' cs' d ∧ Below w.heap.size w w' := by
  obtain ⟨u0, u1, u2, rfl, s_task, r0, p0, r1, p1, r2, p2⟩ := hd
  have hb3 : ∀ A R O, Below w.heap.size w (((w.alloc A).alloc R).alloc O) := fun A R O => (((Below.refl _ _).alloc (Nat.le_refl _) _).alloc (by simp) _).alloc (by simp; omega) _
  unfold wtRule at hw
  have HS0 : Hid (∀ w1, Below w.heap.size w w1 → Calls Try.prog 62 #[u0] w1 fun e w' => ∃ g, e = .returned (.slice (some ⟨g, 0, none⟩) d.on.length d.on.length) ∧ StrsOwn (Ow w1.heap.size w'.heap.size) w' (.slice (some ⟨g, 0, none⟩) d.on.length d.on.length) d.on ∧ Below w1.heap.size w1 w') := fun w1 hb =>
    (toStrs_c u0 d.on w1 ((r0.keep (.of hb hB)).reads (fun b h => Nat.lt_of_lt_of_le (hB b h) hb.size)) (by unfold bulkS at hw; omega)).mono fun e w' ⟨g, h1, h2, h3⟩ => ⟨g, h1, ⟨owns_lo (Nat.zero_le _) h2, owns_in h2⟩, h3⟩
  have HS1 : Hid (∀ w1, Below w.heap.size w w1 → Calls Try.prog 62 #[u1] w1 fun e w' => ∃ g, e = .returned (.slice (some ⟨g, 0, none⟩) d.ins.length d.ins.length) ∧ StrsOwn (Ow w1.heap.size w'.heap.size) w' (.slice (some ⟨g, 0, none⟩) d.ins.length d.ins.length) d.ins ∧ Below w1.heap.size w1 w') := fun w1 hb =>
    (toStrs_c u1 d.ins w1 ((r1.keep (.of hb hB)).reads (fun b h => Nat.lt_of_lt_of_le (hB b h) hb.size)) (by unfold bulkS at hw; omega)).mono fun e w' ⟨g, h1, h2, h3⟩ => ⟨g, h1, ⟨owns_lo (Nat.zero_le _) h2, owns_in h2⟩, h3⟩
  have HS2 : Hid (∀ w1, Below w.heap.size w w1 → Calls Try.prog 62 #[u2] w1 fun e w' => ∃ g, e = .returned (.slice (some ⟨g, 0, none⟩) d.envs.length d.envs.length) ∧ StrsOwn (Ow w1.heap.size w'.heap.size) w' (.slice (some ⟨g, 0, none⟩) d.envs.length d.envs.length) d.envs ∧ Below w1.heap.size w1 w') := fun w1 hb =>
    (toStrs_c u2 d.envs w1 ((r2.keep (.of hb hB)).reads (fun b h => Nat.lt_of_lt_of_le (hB b h) hb.size)) (by unfold bulkS at hw; omega)).mono fun e w' ⟨g, h1, h2, h3⟩ => ⟨g, h1, ⟨owns_lo (Nat.zero_le _) h2, owns_in h2⟩, h3⟩
  obtain ⟨a0, cap0, eu0, _⟩ := id r0
  rw [length_strsV] at eu0
  subst eu0
  clear r0
  obtain ⟨a1, cap1, eu1, _⟩ := id r1
  rw [length_strsV] at eu1
  subst eu1
  clear r1
  obtain ⟨a2, cap2, eu2, _⟩ := id r2
  rw [length_strsV] at eu2
  subst eu2
  clear r2
  go_enter Try.func26, Try.ntmps26
  go_wp2_with fail
  go_at_call 62
  refine (HS0.out _ (hb3 _ _ _)).mono ?_
  rintro e w1 ⟨g1, rfl, R0, b1⟩
  obtain ⟨hA1, hR1, hO1⟩ := vthree b1
  have s3 : ∀ A R O, (((w.alloc A).alloc R).alloc O).heap.size = w.heap.size + 1 + 1 + 1 := fun A R O => by simp
  rw [s3] at b1 R0
  have m1 : w.heap.size + 3 ≤ w1.heap.size := by have := b1.size; rw [s3] at this; omega
  have kw1 : Below w.heap.size w w1 := (hb3 _ _ _).trans (b1.mono (by omega))
  replace R0 := R0.mono (S' := Ow (w.heap.size + 3) w1.heap.size) (Ow.mono (by omega) (Nat.le_refl _))
  have m1' : w.heap.size + 3 ≤ w1.heap.size := by omega
  have o0 := vblk_cell hO1 0
  have q0 := vblk_cell hR1 0
  have y0 := vblk_cell hA1 0
  have o1 := vblk_cell hO1 1
  have q1 := vblk_cell hR1 1
  have y1 := vblk_cell hA1 1
  have o2 := vblk_cell hO1 2
  have q2 := vblk_cell hR1 2
  have y2 := vblk_cell hA1 2
  have o3 := vblk_cell hO1 3
  have q3 := vblk_cell hR1 3
  have y3 := vblk_cell hA1 3
  have o4 := vblk_cell hO1 4
  have q4 := vblk_cell hR1 4
  have y4 := vblk_cell hA1 4
  have fo := vblk_frozen hO1
  have fr := vblk_frozen hR1
  simp only [List.getElem?_toArray, List.getElem?_cons_succ, List.getElem?_cons_zero, List.setIfInBounds_toArray, List.set_cons_succ, List.set_cons_zero] at o0 q0 y0 o1 q1 y1 o2 q2 y2 o3 q3 y3 o4 q4 y4
  have k1 : Below w.heap.size w (w1.setCell ⟨w.heap.size + 1 + 1, 1, none⟩ (.slice (some ⟨g1, 0, none⟩) d.on.length d.on.length)) := (Below.setCell kw1 (by simp; omega) _)
  go_wp2_with fail
  go_at_call 62
  refine (HS1.out _ k1).mono ?_
  rintro e w2 ⟨g2, rfl, R1, b2⟩
  have hA2 := (b2.block w.heap.size (by simp [World.setCell]; omega)).trans ((Below.heap_setCell _ _ _ _ (by simp <;> omega)).trans (hA1))
  have hR2 := (b2.block (w.heap.size + 1) (by simp [World.setCell]; omega)).trans ((Below.heap_setCell _ _ _ _ (by simp <;> omega)).trans (hR1))
  have hO2 := (b2.block (w.heap.size + 1 + 1) (by simp [World.setCell]; omega)).trans (heap_setCell_same _ _ _ _ _ _ hO1)
  have m2 : w1.heap.size ≤ w2.heap.size := by have := b2.size; simpa [World.setCell] using this
  have kw2 : Below w.heap.size w w2 := k1.trans (b2.mono k1.size)
  replace R1 := R1.mono (S' := Ow (w.heap.size + 3) w2.heap.size) (Ow.mono (by simp [World.setCell]; omega) (Nat.le_refl _))
  replace R0 := (R0.keep ((Kp.set (Ow.not (by omega))).trans (Kp.of b2 (fun b h => by have := h.2; simp [World.setCell]; omega)))).mono (S' := Ow (w.heap.size + 3) w2.heap.size) (Ow.mono (Nat.le_refl _) (by omega))
  have m2' : w.heap.size + 3 ≤ w2.heap.size := by omega
  have o0 := vblk_cell hO2 0
  have q0 := vblk_cell hR2 0
  have y0 := vblk_cell hA2 0
  have o1 := vblk_cell hO2 1
  have q1 := vblk_cell hR2 1
  have y1 := vblk_cell hA2 1
  have o2 := vblk_cell hO2 2
  have q2 := vblk_cell hR2 2
  have y2 := vblk_cell hA2 2
  have o3 := vblk_cell hO2 3
  have q3 := vblk_cell hR2 3
  have y3 := vblk_cell hA2 3
  have o4 := vblk_cell hO2 4
  have q4 := vblk_cell hR2 4
  have y4 := vblk_cell hA2 4
  have fo := vblk_frozen hO2
  have fr := vblk_frozen hR2
  simp only [List.getElem?_toArray, List.getElem?_cons_succ, List.getElem?_cons_zero, List.setIfInBounds_toArray, List.set_cons_succ, List.set_cons_zero] at o0 q0 y0 o1 q1 y1 o2 q2 y2 o3 q3 y3 o4 q4 y4
  have k2 : Below w.heap.size w (w2.setCell ⟨w.heap.size + 1 + 1, 2, none⟩ (.slice (some ⟨g2, 0, none⟩) d.ins.length d.ins.length)) := (Below.setCell kw2 (by simp; omega) _)
  go_wp2_with fail
  go_at_call 62
  refine (HS2.out _ k2).mono ?_
  rintro e w3 ⟨g3, rfl, R2, b3⟩
  have hA3 := (b3.block w.heap.size (by simp [World.setCell]; omega)).trans ((Below.heap_setCell _ _ _ _ (by simp <;> omega)).trans (hA2))
  have hR3 := (b3.block (w.heap.size + 1) (by simp [World.setCell]; omega)).trans ((Below.heap_setCell _ _ _ _ (by simp <;> omega)).trans (hR2))
  have hO3 := (b3.block (w.heap.size + 1 + 1) (by simp [World.setCell]; omega)).trans (heap_setCell_same _ _ _ _ _ _ hO2)
  have m3 : w2.heap.size ≤ w3.heap.size := by have := b3.size; simpa [World.setCell] using this
  have kw3 : Below w.heap.size w w3 := k2.trans (b3.mono k2.size)
  replace R2 := R2.mono (S' := Ow (w.heap.size + 3) w3.heap.size) (Ow.mono (by simp [World.setCell]; omega) (Nat.le_refl _))
  replace R0 := (R0.keep ((Kp.set (Ow.not (by omega))).trans (Kp.of b3 (fun b h => by have := h.2; simp [World.setCell]; omega)))).mono (S' := Ow (w.heap.size + 3) w3.heap.size) (Ow.mono (Nat.le_refl _) (by omega))
  replace R1 := (R1.keep ((Kp.set (Ow.not (by omega))).trans (Kp.of b3 (fun b h => by have := h.2; simp [World.setCell]; omega)))).mono (S' := Ow (w.heap.size + 3) w3.heap.size) (Ow.mono (Nat.le_refl _) (by omega))
  have m3' : w.heap.size + 3 ≤ w3.heap.size := by omega
  have o0 := vblk_cell hO3 0
  have q0 := vblk_cell hR3 0
  have y0 := vblk_cell hA3 0
  have o1 := vblk_cell hO3 1
  have q1 := vblk_cell hR3 1
  have y1 := vblk_cell hA3 1
  have o2 := vblk_cell hO3 2
  have q2 := vblk_cell hR3 2
  have y2 := vblk_cell hA3 2
  have o3 := vblk_cell hO3 3
  have q3 := vblk_cell hR3 3
  have y3 := vblk_cell hA3 3
  have o4 := vblk_cell hO3 4
  have q4 := vblk_cell hR3 4
  have y4 := vblk_cell hA3 4
  have fo := vblk_frozen hO3
  have fr := vblk_frozen hR3
  simp only [List.getElem?_toArray, List.getElem?_cons_succ, List.getElem?_cons_zero, List.setIfInBounds_toArray, List.set_cons_succ, List.set_cons_zero] at o0 q0 y0 o1 q1 y1 o2 q2 y2 o3 q3 y3 o4 q4 y4
  go_wp2_with fail
  refine bodyPost_ret (v := .agg #[.string d.task, .slice (some ⟨g1, 0, none⟩) d.on.length d.on.length, .slice (some ⟨g2, 0, none⟩) d.ins.length d.ins.length, .slice (some ⟨g3, 0, none⟩) d.envs.length d.envs.length, .bool d.keep]) (by simp [results, Try.results26, go_sem, o0, q0, o1, q1, o2, q2, o3, q3, o4, q4]) rfl ⟨[.string d.task, .slice (some ⟨g1, 0, none⟩) d.on.length d.on.length, .slice (some ⟨g2, 0, none⟩) d.ins.length d.ins.length, .slice (some ⟨g3, 0, none⟩) d.envs.length d.envs.length, .bool d.keep], rfl, ?_, ?_⟩
  · have hS : ∀ {W : World}, w3.heap.size ≤ W.heap.size → ∀ b, Ow (w.heap.size + 3) w3.heap.size b → Ow w.heap.size W.heap.size b := fun h => Ow.mono (by omega) h
    refine ⟨_, _, _, rfl, s_task, (R0.keep ?_).mono (hS ?_), p0, (R1.keep ?_).mono (hS ?_), p1, (R2.keep ?_).mono (hS ?_), p2⟩
    all_goals first
      | (simp [World.setCell]; done)
      | ((repeat (refine Kp.trans ?_ (Kp.set (Ow.not (by omega))))); exact fun b hb => rfl)
  · refine ?_
    (repeat (refine Below.setCell ?_ (by simp <;> omega) _))
    exact kw3

set_option maxHeartbeats 2000000 in
set_option maxRecDepth 100000 in
theorem infoRule : (Try.prog.info? 52).map (fun i => (i.zero, i.size, i.bytes)) = some (some (.agg #[.string ⟨#[]⟩, .slice none 0 0, .slice none 0 0, .slice none 0 0, .bool false]), 5, 96) := by kernel_rfl
set_option maxHeartbeats 2000000 in
set_option maxRecDepth 100000 in
theorem toRuleS_c (S : Nat → Prop) (v : Value) (xs : List RuleD) (w : World) (hv : RowIn shRule S w v xs) (hB : ∀ b, S b → b < w.heap.size) (hw : wtRow wtRule xs ≤ 1048576) :
    Calls Try.prog 21 #[v] w fun e w' => ∃ g, e = .returned (.slice (some ⟨g, 0, none⟩) xs.length xs.length) ∧ RowOwn shRuleO 52 (Ow w.heap.size w'.heap.size) w' (.slice (some ⟨g, 0, none⟩) xs.length xs.length) xs ∧ Below w.heap.size w w' := by
  obtain ⟨a, cap, rfl, hl, hc, ha⟩ := hv
  have hn := len_wtRow wtRule xs
  have hlm : xs.length ≤ maxLen := hl
  unfold maxLen at hl
  obtain ⟨i0, hi, hz0, hz1, hz2⟩ := info_parts infoRule
  go_enter Try.func21, Try.ntmps21
  go_wp2_with (first
    | (at_make; refine wpList_make_full _ rfl _ _ 41 rfl w.heap.size 52 i0 _ 5 Try.underlying41 hi hz0 hz1 _ _ _ _ xs.length rfl rfl rfl rfl (by rw [hz2]; omega) (by unfold maxLen; omega) (Nat.le_refl _) ?_))
  intro w1 hown hgrow
  have hb1 := below_of_grown hgrow
  have hs1 : w.heap.size + 1 ≤ w1.heap.size := by
    rcases hown.2 with ⟨h, _⟩ | ⟨g, cap, cur, h, _, hg, _⟩
    · simp at h
    · simp at h
      have := (Array.getElem?_eq_some_iff.1 hg).1
      omega
  obtain ⟨ys1, hown1⟩ : ∃ ys, w1.ownsRow w.heap.size 52 5 (.slice (some ⟨w.heap.size, 0, none⟩) xs.length xs.length) xs.length ys := ⟨_, hown⟩
  clear hgrow hown
  go_wp2_with fail
  go_loopw [4] (fun vi wr => ∃ (k : Nat) (ys : List Value), k ≤ xs.length ∧ vi = .int .i64 (k : Int) ∧ wr.ownsRow w.heap.size 52 5 (.slice (some ⟨w.heap.size, 0, none⟩) xs.length xs.length) xs.length ys ∧ Hid (Laid shRuleO (Ow (w.heap.size + 1) wr.heap.size) wr ys xs k) ∧ Below w.heap.size w wr ∧ w.heap.size + 1 ≤ wr.heap.size) (fun vi _ => xs.length - (intOf vi).toNat)
  case atStart => exact ⟨0, ys1, Nat.zero_le _, rfl, hown1, (fun i h h0 => by omega), hb1, hs1⟩
  case round =>
    obtain ⟨k, ys, hk, rfl, hownr, hy, hbr, hsr⟩ := hrel
    by_cases hlt' : k < xs.length
    · rcases ha with rfl | ⟨b, off, rfl, hlt, ha⟩
      · simp at hlt'
      obtain ⟨cs, hL, hcell⟩ := ha k hlt'
      have hL2 := shRule.keep (.of hbr hB) hL
      have hcell2 := hcell.keep (.of hbr hB) hlt
      have hBr : ∀ b, S b → b < wr.heap.size := fun b h => Nat.lt_of_lt_of_le (hB b h) hbr.size
      have hwt : wtRule xs[k] ≤ 1048576 := by have := wt_wtRow wtRule (List.getElem_mem hlt'); omega
      have hown2 : ∀ w2, Below wr.heap.size wr w2 → w2.ownsRow w.heap.size 52 5 (.slice (some ⟨w.heap.size, 0, none⟩) xs.length xs.length) xs.length ys := fun w2 h2 => hownr.kept (grown_of_below h2 none) (by simp [Value.ownBlock])
      have hlen := hownr.1
      have HC : Hid (∀ w2, Below wr.heap.size wr w2 → ∀ j, j < 5 → ∃ x, w2.cell? ⟨w.heap.size, k * 5 + j, none⟩ = some x) := fun w2 h2 j hj => ⟨ys.getD (k * 5 + j) undef, by rw [(hown2 w2 h2).cellAt _ (by omega)]; simp [List.getD_eq_getElem?_getD, show k * 5 + j < ys.length by omega]⟩
      have HF : Hid (∀ w2, Below wr.heap.size wr w2 → ∀ j, w2.frozen? ⟨w.heap.size, j, none⟩ = false) := fun w2 h2 j => (hown2 w2 h2).frozenAt j
      have HO : Hid (∀ w2, Below wr.heap.size wr w2 → w2.ownsRow w.heap.size 52 5 (.slice (some ⟨w.heap.size, 0, none⟩) xs.length xs.length) xs.length ys) := hown2
      have HST : Hid (∀ w2 cs, Below wr.heap.size wr w2 → cs.length = 5 → shRuleO.lies (Ow (w.heap.size + 1) w2.heap.size) w2 cs xs[k] → Laid shRuleO (Ow (w.heap.size + 1) (setW w2 w.heap.size (k * 5) cs).heap.size) (setW w2 w.heap.size (k * 5) cs) (putL ys (k * 5) cs) xs (k + 1)) := fun w2 cs h2 hc hr => hy.out.step (sh := shRuleO) hlt' hlen h2 (by omega) hc hr
      obtain ⟨d, hd⟩ : ∃ d, d = xs[k] := ⟨_, rfl⟩
      rw [← hd] at hL2 hwt HST
      have HC1 := toRule_c S d cs wr hL2 hBr hwt
      clear ha hL hcell hd hown2 hi hz0 hz1 hz2 hown1 hb1 hlen hwt
      obtain ⟨u0, u1, u2, rfl, s_task, r0, p0, r1, p1, r2, p2⟩ := hL2
      clear s_task p0 p1 p2
      obtain ⟨a0, cap0, eu0, _⟩ := id r0
      rw [length_strsV] at eu0
      subst eu0
      clear r0
      obtain ⟨a1, cap1, eu1, _⟩ := id r1
      rw [length_strsV] at eu1
      subst eu1
      clear r1
      obtain ⟨a2, cap2, eu2, _⟩ := id r2
      rw [length_strsV] at eu2
      subst eu2
      clear r2
      have e0 : wr.cell? ⟨b, off + k * 5, none⟩ = some (.string d.task) := hcell2 0 (by simp)
      have e1 : wr.cell? ⟨b, off + k * 5 + 1, none⟩ = some (.slice a0 d.on.length cap0) := hcell2 1 (by simp)
      have e2 : wr.cell? ⟨b, off + k * 5 + 2, none⟩ = some (.slice a1 d.ins.length cap1) := hcell2 2 (by simp)
      have e3 : wr.cell? ⟨b, off + k * 5 + 3, none⟩ = some (.slice a2 d.envs.length cap2) := hcell2 3 (by simp)
      have e4 : wr.cell? ⟨b, off + k * 5 + 4, none⟩ = some (.bool d.keep) := hcell2 4 (by simp)
      have HC2 := hidden HC1
      have hki : (k : Int) < (xs.length : Int) := by omega
      clear hcell2 HC1
      go_wp2_with (go_at_call 26; refine HC2.out.mono ?_; rintro e w2 ⟨cs, rfl, hX, hb2⟩; have HX := hidden (HST.out w2 cs hb2 (by have h := hX; obtain ⟨u0, u1, u2, h9, s_task, r0, p0, r1, p1, r2, p2⟩ := h; rw [h9]; rfl) (shRuleO.mono (Ow.mono hsr (Nat.le_refl _)) hX)); obtain ⟨u0, u1, u2, rfl, s_task, z0, p0, z1, p1, z2, p2⟩ := hX; obtain ⟨b0, bap0, ev0⟩ := z0.slice; subst ev0; obtain ⟨b1, bap1, ev1⟩ := z1.slice; subst ev1; obtain ⟨b2, bap2, ev2⟩ := z2.slice; subst ev2; obtain ⟨y0, d0⟩ := HC.out w2 hb2 0 (by omega); obtain ⟨y1, d1⟩ := HC.out w2 hb2 1 (by omega); obtain ⟨y2, d2⟩ := HC.out w2 hb2 2 (by omega); obtain ⟨y3, d3⟩ := HC.out w2 hb2 3 (by omega); obtain ⟨y4, d4⟩ := HC.out w2 hb2 4 (by omega); rw [Nat.add_zero] at d0; have f9 := HF.out w2 hb2)
      go_roundw
      case rel =>
        refine ⟨k + 1, _, by omega, by go_num, setW_owns [.string d.task, .slice b0 d.on.length bap0, .slice b1 d.ins.length bap1, .slice b2 d.envs.length bap2, .bool d.keep] w2 ys (k * 5) (HO.out w2 hb2), HX.out, setW_below (Nat.le_refl _) [.string d.task, .slice b0 d.on.length bap0, .slice b1 d.ins.length bap1, .slice b2 d.envs.length bap2, .bool d.keep] w2 w (k * 5) (hbr.trans (hb2.mono hbr.size)), ?_⟩
        have h9 := setW_size [.string d.task, .slice b0 d.on.length bap0, .slice b1 d.ins.length bap1, .slice b2 d.envs.length bap2, .bool d.keep] w2 w.heap.size (k * 5)
        have := hb2.size
        exact Nat.le_trans (show w.heap.size + 1 ≤ w2.heap.size by omega) (Nat.le_of_eq h9.symm)
      case measure => simp [intOf]; omega
    · have he : k = xs.length := by omega
      subst he
      clear ha
      go_wp2_with fail
      go_ret
      exact ⟨_, rfl, rowOwn_of hownr hlm hy.out, hbr⟩

end Go.Proofs.Ytiadcebolcdhbaa

/-! Needs and commands, and rows of them, that are the same are told so by the law's own comparison: contracts for what lies in memory and holds at most 2 to the 20. -/
namespace Go.Proofs.Ytiadcebolcdhbaa
open Go.RowKit
set_option linter.unusedSimpArgs false
set_option linter.unusedVariables false

theorem boxTwo {w w1 : World} {A R : Obj} (hb : Below ((w.alloc A).alloc R).heap.size ((w.alloc A).alloc R) w1) : w1.heap[w.heap.size]? = some A ∧ w1.heap[w.heap.size + 1]? = some R := by
  have s1 : (w.alloc A).heap.size = w.heap.size + 1 := by simp
  refine ⟨?_, ?_⟩
  · rw [hb.block _ (by simp; omega), vheap_old _ _ (by simp), vheap_new]
  · rw [hb.block _ (by simp), ← s1, vheap_new]

end Go.Proofs.Ytiadcebolcdhbaa

/-! What is the same is told so by the law's own comparison: contracts for what lies in memory and holds at most 2 to the 20. -/
namespace Go.Proofs.Ytiadcebolcdhbaa
open Go.RowKit
set_option linter.unusedSimpArgs false
set_option linter.unusedVariables false

set_option maxHeartbeats 2000000 in
set_option maxRecDepth 100000 in
theorem eqRule_c (S S' : Nat → Prop) (d : RuleD) (cs cs' : List Value) (w : World) (hd : shRule.lies S w cs d) (hd' : shRule.lies S' w cs' d) (hB : ∀ b, S b → b < w.heap.size) (hB' : ∀ b, S' b → b < w.heap.size) (hw : wtRule d ≤ 1048576) :
    Calls Try.prog 29 #[.agg cs.toArray, .agg cs'.toArray] w fun e w' => e = .returned (.bool true) ∧ Below w.heap.size w w' := by
  obtain ⟨xu0, xu1, xu2, rfl, xs_task, xr0, xp0, xr1, xp1, xr2, xp2⟩ := hd
  obtain ⟨yu0, yu1, yu2, rfl, ys_task, yr0, yp0, yr1, yp1, yr2, yp2⟩ := hd'
  have hb2 : ∀ A R, Below w.heap.size w ((w.alloc A).alloc R) := fun A R => ((Below.refl _ _).alloc (Nat.le_refl _) _).alloc (by simp) _
  unfold wtRule at hw
  have HS0 : Hid (∀ w1, Below w.heap.size w w1 → Calls Try.prog 67 #[xu0, yu0] w1 fun e w' => e = .returned (.bool true) ∧ Below w1.heap.size w1 w') := fun w1 hb => by
    have := eqStrs_c xu0 yu0 d.on d.on w1 ((xr0.keep (.of hb hB)).reads (fun b h => Nat.lt_of_lt_of_le (hB b h) hb.size)) ((yr0.keep (.of hb hB')).reads (fun b h => Nat.lt_of_lt_of_le (hB' b h) hb.size)) (by unfold bulkS at hw; omega)
    rwa [decide_eq_true rfl] at this
  have HS1 : Hid (∀ w1, Below w.heap.size w w1 → Calls Try.prog 67 #[xu1, yu1] w1 fun e w' => e = .returned (.bool true) ∧ Below w1.heap.size w1 w') := fun w1 hb => by
    have := eqStrs_c xu1 yu1 d.ins d.ins w1 ((xr1.keep (.of hb hB)).reads (fun b h => Nat.lt_of_lt_of_le (hB b h) hb.size)) ((yr1.keep (.of hb hB')).reads (fun b h => Nat.lt_of_lt_of_le (hB' b h) hb.size)) (by unfold bulkS at hw; omega)
    rwa [decide_eq_true rfl] at this
  have HS2 : Hid (∀ w1, Below w.heap.size w w1 → Calls Try.prog 67 #[xu2, yu2] w1 fun e w' => e = .returned (.bool true) ∧ Below w1.heap.size w1 w') := fun w1 hb => by
    have := eqStrs_c xu2 yu2 d.envs d.envs w1 ((xr2.keep (.of hb hB)).reads (fun b h => Nat.lt_of_lt_of_le (hB b h) hb.size)) ((yr2.keep (.of hb hB')).reads (fun b h => Nat.lt_of_lt_of_le (hB' b h) hb.size)) (by unfold bulkS at hw; omega)
    rwa [decide_eq_true rfl] at this
  obtain ⟨xa0, xc0, xe0, _⟩ := id xr0
  rw [length_strsV] at xe0
  subst xe0
  clear xr0
  obtain ⟨xa1, xc1, xe1, _⟩ := id xr1
  rw [length_strsV] at xe1
  subst xe1
  clear xr1
  obtain ⟨xa2, xc2, xe2, _⟩ := id xr2
  rw [length_strsV] at xe2
  subst xe2
  clear xr2
  obtain ⟨ya0, yc0, ye0, _⟩ := id yr0
  rw [length_strsV] at ye0
  subst ye0
  clear yr0
  obtain ⟨ya1, yc1, ye1, _⟩ := id yr1
  rw [length_strsV] at ye1
  subst ye1
  clear yr1
  obtain ⟨ya2, yc2, ye2, _⟩ := id yr2
  rw [length_strsV] at ye2
  subst ye2
  clear yr2
  go_enter Try.func29, Try.ntmps29
  go_wp2_with fail
  go_at_call 67
  refine (HS0.out _ (hb2 _ _)).mono ?_
  rintro e w1 ⟨rfl, b1⟩
  obtain ⟨hA1, hR1⟩ := boxTwo b1
  have k1 : Below w.heap.size w w1 := (hb2 _ _).trans (b1.mono (hb2 _ _).size)
  have o0 := vblk_cell hA1 0
  have q0 := vblk_cell hR1 0
  have o1 := vblk_cell hA1 1
  have q1 := vblk_cell hR1 1
  have o2 := vblk_cell hA1 2
  have q2 := vblk_cell hR1 2
  have o3 := vblk_cell hA1 3
  have q3 := vblk_cell hR1 3
  have o4 := vblk_cell hA1 4
  have q4 := vblk_cell hR1 4
  simp only [List.getElem?_toArray, List.getElem?_cons_succ, List.getElem?_cons_zero] at o0 q0 o1 q1 o2 q2 o3 q3 o4 q4
  go_wp2_with fail
  go_at_call 67
  refine (HS1.out _ k1).mono ?_
  rintro e w2 ⟨rfl, b2⟩
  have hA2 := (b2.block _ (Array.getElem?_eq_some_iff.1 hA1).1).trans hA1
  have hR2 := (b2.block _ (Array.getElem?_eq_some_iff.1 hR1).1).trans hR1
  have k2 := k1.trans (b2.mono k1.size)
  have o0 := vblk_cell hA2 0
  have q0 := vblk_cell hR2 0
  have o1 := vblk_cell hA2 1
  have q1 := vblk_cell hR2 1
  have o2 := vblk_cell hA2 2
  have q2 := vblk_cell hR2 2
  have o3 := vblk_cell hA2 3
  have q3 := vblk_cell hR2 3
  have o4 := vblk_cell hA2 4
  have q4 := vblk_cell hR2 4
  simp only [List.getElem?_toArray, List.getElem?_cons_succ, List.getElem?_cons_zero] at o0 q0 o1 q1 o2 q2 o3 q3 o4 q4
  go_wp2_with fail
  go_at_call 67
  refine (HS2.out _ k2).mono ?_
  rintro e w3 ⟨rfl, b3⟩
  have hA3 := (b3.block _ (Array.getElem?_eq_some_iff.1 hA2).1).trans hA2
  have hR3 := (b3.block _ (Array.getElem?_eq_some_iff.1 hR2).1).trans hR2
  have k3 := k2.trans (b3.mono k2.size)
  have o0 := vblk_cell hA3 0
  have q0 := vblk_cell hR3 0
  have o1 := vblk_cell hA3 1
  have q1 := vblk_cell hR3 1
  have o2 := vblk_cell hA3 2
  have q2 := vblk_cell hR3 2
  have o3 := vblk_cell hA3 3
  have q3 := vblk_cell hR3 3
  have o4 := vblk_cell hA3 4
  have q4 := vblk_cell hR3 4
  simp only [List.getElem?_toArray, List.getElem?_cons_succ, List.getElem?_cons_zero] at o0 q0 o1 q1 o2 q2 o3 q3 o4 q4
  generalize d.keep = kp at *
  cases kp
  all_goals
    go_wp2_with fail
    go_ret
    exact ⟨rfl, k3⟩

set_option maxHeartbeats 2000000 in
set_option maxRecDepth 100000 in
theorem eqRuleS_c (S S' : Nat → Prop) (v u : Value) (xs : List RuleD) (w : World) (hv : RowIn shRule S w v xs) (hv' : RowIn shRule S' w u xs) (hB : ∀ b, S b → b < w.heap.size) (hB' : ∀ b, S' b → b < w.heap.size) (hw : wtRow wtRule xs ≤ 1048576) :
    Calls Try.prog 23 #[v, u] w fun e w' => e = .returned (.bool true) ∧ Below w.heap.size w w' := by
  obtain ⟨a, cap, rfl, hl, hc, ha⟩ := hv
  obtain ⟨a', cap', rfl, _, hc', ha'⟩ := hv'
  unfold maxLen at hl
  go_enter Try.func23, Try.ntmps23
  go_wp2_with fail
  go_loopw [5] (fun vi wr => ∃ k : Nat, k ≤ xs.length ∧ vi = .int .i64 (k : Int) ∧ Below w.heap.size w wr) (fun vi _ => xs.length - (intOf vi).toNat)
  case atStart => exact ⟨0, Nat.zero_le _, rfl, Below.refl _ _⟩
  case round =>
    obtain ⟨k, hk, rfl, hbr⟩ := hrel
    by_cases hlt' : k < xs.length
    · rcases ha with rfl | ⟨b, off, rfl, hlt, ha⟩
      · simp at hlt'
      rcases ha' with rfl | ⟨b', off', rfl, hlt3, ha'⟩
      · simp at hlt'
      obtain ⟨cs, hL, hcell⟩ := ha k hlt'
      obtain ⟨cs', hL', hcell'⟩ := ha' k hlt'
      have hwt : wtRule xs[k] ≤ 1048576 := by have := wt_wtRow wtRule (List.getElem_mem hlt'); omega
      have HC := eqRule_c S S' xs[k] cs cs' wr.drew (shRule.keep (.of hbr.drew hB) hL) (shRule.keep (.of hbr.drew hB') hL') (fun b h => Nat.lt_of_lt_of_le (hB b h) hbr.size) (fun b h => Nat.lt_of_lt_of_le (hB' b h) hbr.size) hwt
      replace hL := shRule.keep (.of hbr hB) hL
      replace hL' := shRule.keep (.of hbr hB') hL'
      replace hcell := hcell.keep (.of hbr hB) hlt
      replace hcell' := hcell'.keep (.of hbr hB') hlt3
      obtain ⟨d, hd⟩ : ∃ d, d = xs[k] := ⟨_, rfl⟩
      rw [← hd] at hL hL' hwt
      clear ha ha' hd
      obtain ⟨xu0, xu1, xu2, rfl, xs_task, xr0, xp0, xr1, xp1, xr2, xp2⟩ := hL
      obtain ⟨yu0, yu1, yu2, rfl, ys_task, yr0, yp0, yr1, yp1, yr2, yp2⟩ := hL'
      clear xs_task xp0 xp1 xp2 ys_task yp0 yp1 yp2
      obtain ⟨xa0, xc0, xe0, _⟩ := id xr0
      rw [length_strsV] at xe0
      subst xe0
      clear xr0
      obtain ⟨xa1, xc1, xe1, _⟩ := id xr1
      rw [length_strsV] at xe1
      subst xe1
      clear xr1
      obtain ⟨xa2, xc2, xe2, _⟩ := id xr2
      rw [length_strsV] at xe2
      subst xe2
      clear xr2
      have xv0 : wr.cell? ⟨b, off + k * 5, none⟩ = some (.string d.task) := hcell 0 (by simp)
      have xv1 : wr.cell? ⟨b, off + k * 5 + 1, none⟩ = some (.slice xa0 d.on.length xc0) := hcell 1 (by simp)
      have xv2 : wr.cell? ⟨b, off + k * 5 + 2, none⟩ = some (.slice xa1 d.ins.length xc1) := hcell 2 (by simp)
      have xv3 : wr.cell? ⟨b, off + k * 5 + 3, none⟩ = some (.slice xa2 d.envs.length xc2) := hcell 3 (by simp)
      have xv4 : wr.cell? ⟨b, off + k * 5 + 4, none⟩ = some (.bool d.keep) := hcell 4 (by simp)
      obtain ⟨ya0, yc0, ye0, _⟩ := id yr0
      rw [length_strsV] at ye0
      subst ye0
      clear yr0
      obtain ⟨ya1, yc1, ye1, _⟩ := id yr1
      rw [length_strsV] at ye1
      subst ye1
      clear yr1
      obtain ⟨ya2, yc2, ye2, _⟩ := id yr2
      rw [length_strsV] at ye2
      subst ye2
      clear yr2
      have yv0 : wr.cell? ⟨b', off' + k * 5, none⟩ = some (.string d.task) := hcell' 0 (by simp)
      have yv1 : wr.cell? ⟨b', off' + k * 5 + 1, none⟩ = some (.slice ya0 d.on.length yc0) := hcell' 1 (by simp)
      have yv2 : wr.cell? ⟨b', off' + k * 5 + 2, none⟩ = some (.slice ya1 d.ins.length yc1) := hcell' 2 (by simp)
      have yv3 : wr.cell? ⟨b', off' + k * 5 + 3, none⟩ = some (.slice ya2 d.envs.length yc2) := hcell' 3 (by simp)
      have yv4 : wr.cell? ⟨b', off' + k * 5 + 4, none⟩ = some (.bool d.keep) := hcell' 4 (by simp)
      have HC2 := hidden HC
      have hki : (k : Int) < (xs.length : Int) := by omega
      clear hcell hcell' HC hwt
      go_wp2_with fail
      go_region_with (go_at_call 29; refine HC2.out.mono ?_; rintro e w2 ⟨rfl, hb2⟩)
      all_goals go_wp2_with fail
      all_goals go_roundw
      all_goals first
        | exact ⟨k + 1, by omega, by go_num, hbr.drew.trans (hb2.mono hbr.size)⟩
        | (simp [intOf]; omega)
    · have he : k = xs.length := by omega
      subst he
      clear ha ha'
      go_wp2_with fail
      go_ret
      exact ⟨rfl, hbr⟩

end Go.Proofs.Ytiadcebolcdhbaa

/-! The law on RulesOk, walked: whatever comes in, the program and the specification answer alike, and nothing is written into an argument; condition: what comes in lies in memory. -/
namespace Go.Proofs.Ytiadcebolcdhbaa
open Go.RowKit
set_option linter.unusedSimpArgs false
set_option linter.unusedVariables false

set_option maxHeartbeats 8000000 in
set_option maxRecDepth 100000 in
theorem rulesOk_walk (a0 : Value) (z0 : List RuleD) (w : World) (r0 : RowIn shRule (· < w.heap.size) w a0 z0) :
    Calls Try.prog 5 #[a0] w fun e w' => e = .returned (.bool true) ∧ Below w.heap.size w w' := by
  obtain ⟨q0, cap0, hq0⟩ := r0.slice
  have hin : ∀ w1, Below w.heap.size w w1 → RowIn shRule (· < w1.heap.size) w1 a0 z0 := fun w1 h => r0.below h
  have HZ : Hid (∀ w1, Below w.heap.size w w1 → Calls Try.prog 19 #[a0, .int .i64 1048576] w1 fun e w' => e = .returned (.int .i64 (leftW (wtRow wtRule z0) 1048576)) ∧ Below w1.heap.size w1 w') := fun w1 h => szRuleS_c _ _ z0 _ (by omega) (by omega) w1 (hin w1 h) (fun b h => h)
  subst hq0
  by_cases hbig : 1048576 < wtRow wtRule z0
  · have e1 : leftW (wtRow wtRule z0) 1048576 = -1 := leftW_bad (by omega)
    rw [e1] at HZ
    clear e1 hin r0
    go_enter Try.func5, Try.ntmps5
    go_wp2_with (go_at_call 19; refine (HZ.out _ (Below.refl _ _)).mono ?_; rintro e w1 ⟨rfl, hb1⟩)
    go_ret
    exact ⟨rfl, hb1⟩
  have hwt : wtRow wtRule z0 ≤ 1048576 := by omega
  obtain ⟨p, hp⟩ : ∃ p, p = leftW (wtRow wtRule z0) 1048576 := ⟨_, rfl⟩
  rw [← hp] at HZ
  have hp0 : 0 ≤ p := by rw [hp, leftW_good (by omega)]; omega
  clear hp
  have hsm := smallRs_of hwt
  have HT : Hid (∀ w1, Below w.heap.size w w1 → Calls Try.prog 21 #[.slice q0 z0.length cap0] w1 fun e w' => ∃ g, e = .returned (.slice (some ⟨g, 0, none⟩) z0.length z0.length) ∧ RowOwn shRuleO 52 (Ow w1.heap.size w'.heap.size) w' (.slice (some ⟨g, 0, none⟩) z0.length z0.length) z0 ∧ Below w1.heap.size w1 w') := fun w1 h => toRuleS_c _ _ z0 w1 (hin w1 h) (fun b h => h) hwt
  have HSP : Hid (∀ w1 g lo, RowOwn shRuleO 52 (Ow lo w1.heap.size) w1 (.slice (some ⟨g, 0, none⟩) z0.length z0.length) z0 → Calls Try.prog 20 #[.slice (some ⟨g, 0, none⟩) z0.length z0.length] w1 fun e w' => e = .returned (.bool (rulesB z0)) ∧ Below w1.heap.size w1 w') := fun w1 g lo h =>
    specRules_c (Ow lo w1.heap.size) _ z0 w1 (RowIn.as (sh := shRuleO) (sh' := shRule) rfl (fun S w cs x h => liesRule_plain h) h.plain) (fun b hb => hb.2) hsm
  have HIM : Hid (∀ w1 g lo, RowOwn shRuleO 52 (Ow lo w1.heap.size) w1 (.slice (some ⟨g, 0, none⟩) z0.length z0.length) z0 → Calls Try.prog 22 #[.slice (some ⟨g, 0, none⟩) z0.length z0.length] w1 fun e w' => e = .returned (.bool (rulesB z0)) ∧ Below w1.heap.size w1 w') := fun w1 g lo h =>
    implRules_c (Ow lo w1.heap.size) _ z0 w1 (RowIn.as (sh := shRuleO) (sh' := shRule) rfl (fun S w cs x h => liesRule_plain h) h.plain) (fun b hb => hb.2) hsm
  have HES : Hid (∀ W g g' l1 h1 l2 h2, RowOwn shRuleO 52 (Ow l1 h1) W (.slice (some ⟨g, 0, none⟩) z0.length z0.length) z0 → h1 ≤ W.heap.size → RowOwn shRuleO 52 (Ow l2 h2) W (.slice (some ⟨g', 0, none⟩) z0.length z0.length) z0 → h2 ≤ W.heap.size → Calls Try.prog 23 #[.slice (some ⟨g, 0, none⟩) z0.length z0.length, .slice (some ⟨g', 0, none⟩) z0.length z0.length] W fun e w' => e = .returned (.bool true) ∧ Below W.heap.size W w') := fun W g g' l1 h1 l2 h2 a c b d => eqRuleS_c (Ow l1 h1) (Ow l2 h2) _ _ z0 W (RowIn.as (sh := shRuleO) (sh' := shRule) rfl (fun S w cs x h => liesRule_plain h) a.plain) (RowIn.as (sh := shRuleO) (sh' := shRule) rfl (fun S w cs x h => liesRule_plain h) b.plain) (fun b hb => Nat.lt_of_lt_of_le hb.2 c) (fun b hb => Nat.lt_of_lt_of_le hb.2 d) hwt
  generalize rulesB z0 = R at *
  clear hin r0 hbig hwt hsm
  go_enter Try.func5, Try.ntmps5
  go_wp2_with fail
  go_at_call 19
  refine (HZ.out _ (Below.refl _ _)).mono ?_
  rintro e w1 ⟨rfl, k1⟩
  go_wp2_with fail
  go_at_call 21
  refine (HT.out _ k1).mono ?_
  rintro e w2 ⟨g2, rfl, F2, b2⟩
  have k2 := k1.trans (b2.mono k1.size)
  go_wp2_with fail
  go_at_call 20
  refine (HSP.out _ g2 _ F2).mono ?_
  rintro e w3 ⟨rfl, b3⟩
  have k3 := k2.trans (b3.mono k2.size)
  clear F2 b2 b3 HSP HZ
  go_wp2_with fail
  go_at_call 21
  refine (HT.out _ k3).mono ?_
  rintro e w4 ⟨g4, rfl, F4, b4⟩
  have k4 := k3.trans (b4.mono k3.size)
  clear b4
  go_wp2_with fail
  go_at_call 22
  refine (HIM.out _ g4 _ F4).mono ?_
  rintro e w5 ⟨rfl, b5⟩
  have k5 := k4.trans (b5.mono k4.size)
  have F5 := F4.keep (Kp.of b5 (fun b hb => hb.2))
  have m5 := b5.size
  clear F4 b5 HIM
  have hRR : (R != R) = false := by cases R <;> rfl
  cases R <;>
    (go_wp2_with fail
     go_at_call 21
     refine (HT.out _ k5).mono ?_
     rintro e w7 ⟨g7, rfl, F7, b7⟩
     have k7 := k5.trans (b7.mono k5.size)
     have F67 := F5.keep (Kp.of b7 (fun b hb => by have := hb.2; omega))
     have m7 := b7.size
     clear F5 b7
     go_wp2_with fail
     go_at_call 23
     refine (HES.out _ _ _ _ _ _ _ F67 (by omega) F7 (Nat.le_refl _)).mono ?_
     rintro e w8 ⟨rfl, b8⟩
     have k8 := k7.trans (b8.mono k7.size)
     go_wp2_with fail
     go_ret
     exact ⟨rfl, k8⟩)
end Go.Proofs.Ytiadcebolcdhbaa

/-! What comes in as a version of the laws' own type: three numbers, and a list of texts that lies in memory: no condition. -/
namespace Go.Proofs.Ytiadcebolcdhbaa
open Go.ChangeShapes Go.WideShapes Go.ChangeAt Go.RowKit
set_option linter.unusedSimpArgs false
set_option linter.unusedVariables false

theorem vaddr_add (b off i : Nat) : ((⟨b, off, none⟩ : Addr).add i) = ⟨b, off + i, none⟩ := by unfold Addr.add; split <;> simp_all
theorem list4 {cs : List Value} (h : cs.length = 4) : ∃ c0 c1 c2 c3, cs = [c0, c1, c2, c3] := by
  match cs, h with
  | [c0, c1, c2, c3], _ => exact ⟨c0, c1, c2, c3, rfl⟩

theorem vreads_open {H : Type} {enc : TypeId × Value → H} {w : World} {spare : Nat → Bool} {held : Bool} {fuel : Nat} {c : Value} {x : DataW H × List MemPlace}
    (hf : DataW.trod enc Try.prog w 0 spare held fuel 26 [c] = some x) : ∃ ks, Reads w c (strsV ks) ∧ saneP ks := by
  rcases open_strings Try.underlying26 Try.underlying9 (by kernel_rfl) hf with ⟨hcs, _⟩ | ⟨x, l, cap, zs, hcs, _, hl, hm, hz, _, hcell, hwz⟩
  · simp at hcs
    subst hcs
    exact ⟨[], ⟨none, 0, rfl, Nat.le_refl _, .inl rfl⟩, by simp [saneP]⟩
  · simp at hcs
    subst hcs
    have hz' : l ≤ zs.length := by rw [hz]; split <;> omega
    have hlen : (zs.take l).length = l := by simp; omega
    refine ⟨zs.take l, ?_, by rw [hlen]; omega, fun s hs => hwz s (List.mem_of_mem_take hs)⟩
    by_cases h0 : l = 0
    · subst h0
      exact ⟨some x, cap, by simp [strsV], by simp [strsV], .inl (by simp [strsV])⟩
    · obtain ⟨b, off, spot⟩ := x
      have hc0 := hcell 0 (by omega)
      have hspot : spot = none := by simpa [Addr.add] using World.cell?_spot hc0
      subst hspot
      refine ⟨some ⟨b, off, none⟩, cap, by simp [strsV]; omega, by simp [strsV]; omega, .inr ⟨b, off, rfl, ?_, fun i hi => ?_⟩⟩
      · rw [vaddr_add] at hc0; exact World.block_lt_of_cell? w _ hc0
      · have hi' : i < l := by simp [strsV] at hi; omega
        have := hcell i (by omega)
        rw [vaddr_add] at this
        rw [this]
        simp [strsV, List.getD_eq_getElem?_getD, show i < zs.length by omega]

end Go.Proofs.Ytiadcebolcdhbaa

/-! What comes in as packs of the laws' own type: packs that lie in memory: no condition. -/
namespace Go.Proofs.Ytiadcebolcdhbaa
open Go.ChangeShapes Go.WideShapes Go.ChangeAt Go.RowKit
set_option linter.unusedSimpArgs false
set_option linter.unusedVariables false

theorem olist2 {cs : List Value} (h : cs.length = 2) : ∃ c0 c1, cs = [c0, c1] := by
  match cs, h with
  | [c0, c1], _ => exact ⟨c0, c1, rfl⟩
theorem olist4 {cs : List Value} (h : cs.length = 4) : ∃ c0 c1 c2 c3, cs = [c0, c1, c2, c3] := by
  match cs, h with
  | [c0, c1, c2, c3], _ => exact ⟨c0, c1, c2, c3, rfl⟩
theorem olist_of {α : Type} {P : Nat → α → Prop} : ∀ n, (∀ i, i < n → ∃ a, P i a) → ∃ l : List α, l.length = n ∧ ∀ i (h : i < l.length), P i l[i]
  | 0, _ => ⟨[], rfl, fun i h => by simp at h⟩
  | n + 1, h => by
    obtain ⟨l, hl, hp⟩ := olist_of n (fun i hi => h i (by omega))
    obtain ⟨a, ha⟩ := h n (by omega)
    refine ⟨l ++ [a], by simp [hl], fun i hi => ?_⟩
    by_cases h1 : i < l.length
    · rw [List.getElem_append_left h1]; exact hp i h1
    · have : i = n := by simp at hi; omega
      subst this
      rw [List.getElem_append_right (by omega)]
      simpa using ha

/-- A row that comes in, out of what its elements are. -/
theorem rows_of_trod {α H : Type} {P : Program} {enc : TypeId × Value → H} {w : World} {spare : Nat → Bool} {held : Bool} (sh : Sh α) {ts te : TypeId} (hu : P.underlying ts = some (.slice te)) (hn : P.cellsOf te = sh.n) (hpos : 0 < sh.n)
    (helem : ∀ n cs y, DataW.trod enc P w 0 spare held n te cs = some y → ∃ a, sh.lies (· < w.heap.size) w cs a) (fuel : Nat) (c : Value) (x : DataW H × List MemPlace)
    (h : DataW.trod enc P w 0 spare held fuel ts [c] = some x) : ∃ xs, RowIn sh (· < w.heap.size) w c xs := by
  rcases DataW.trod_slice hu h with ⟨hcs, _⟩ | ⟨a, len, cap, elems, rest, n', hn', hcs, _, _, hl, hcm, hel, hat, _, _⟩
  · simp at hcs
    subst hcs
    exact ⟨[], none, 0, rfl, by simp, Nat.le_refl _, .inl rfl⟩
  · simp at hcs
    subst hcs
    rw [hn] at hat
    have heach : ∀ i, i < len → ∃ q : α, ∃ cs, cs.length = sh.n ∧ sh.lies (· < w.heap.size) w cs q ∧ ∀ j (hj : j < cs.length), w.cell? ((a.add (i * sh.n)).add j) = some cs[j] := fun i hi => by
      have hb := hat i hi
      rw [List.getElem?_eq_getElem (by omega)] at hb
      obtain ⟨cs', hc1, hc2⟩ := Option.bind_eq_some_iff.1 hb
      obtain ⟨q, hq⟩ := helem _ cs' _ hc2
      obtain ⟨hb1, hl5, hcell⟩ := World.cells?_some hc1
      exact ⟨q, cs', hl5, hq, fun j hj => (hcell j (by omega)).trans (List.getElem?_eq_getElem hj)⟩
    obtain ⟨q, hq, hqp⟩ := olist_of len heach
    refine ⟨q, some a, cap, by rw [hq], by rw [hq]; omega, by rw [hq]; omega, ?_⟩
    by_cases h0 : len = 0
    · left; exact List.eq_nil_of_length_eq_zero (by omega)
    · right
      obtain ⟨b, off, spot⟩ := a
      obtain ⟨cs0, hl0, _, hc0⟩ := hqp 0 (by omega)
      have hc0 := hc0 0 (by omega)
      have hspot : spot = none := by
        have := World.cell?_spot hc0
        simpa [Addr.add] using this
      subst hspot
      refine ⟨b, off, rfl, ?_, fun i hi => ?_⟩
      · rw [vaddr_add, vaddr_add] at hc0; exact World.block_lt_of_cell? w _ hc0
      · obtain ⟨cs, h1, h2, h3⟩ := hqp i hi
        refine ⟨cs, h2, fun j hj => ?_⟩
        have := h3 j hj
        rw [vaddr_add, vaddr_add] at this
        exact this

end Go.Proofs.Ytiadcebolcdhbaa

/-! What comes in of the laws' own type lies in memory: no condition. -/
namespace Go.Proofs.Ytiadcebolcdhbaa
open Go.ChangeShapes Go.WideShapes Go.ChangeAt Go.RowKit
set_option linter.unusedSimpArgs false
set_option linter.unusedVariables false

theorem olist5 {cs : List Value} (h : cs.length = 5) : ∃ c0 c1 c2 c3 c4, cs = [c0, c1, c2, c3, c4] := by
  match cs, h with
  | [c0, c1, c2, c3, c4], _ => exact ⟨c0, c1, c2, c3, c4, rfl⟩
set_option maxRecDepth 100000 in
theorem rule_of_trod {H : Type} {enc : TypeId × Value → H} {w : World} {spare : Nat → Bool} {held : Bool} (fuel : Nat) (cs : List Value) (x : DataW H × List MemPlace)
    (h : DataW.trod enc Try.prog w 0 spare held fuel 46 cs = some x) : ∃ d : RuleD, shRule.lies (· < w.heap.size) w cs d := by
  obtain ⟨xs, n, rfl, _, hlen, hxl, hf⟩ := DataW.trod_struct Try.underlying46 h
  have hN : Try.prog.cellsOf 46 = 5 := by kernel_rfl
  obtain ⟨c0, c1, c2, c3, c4, rfl⟩ := olist5 (hlen.trans hN)
  have hx : ∀ i, i < 5 → ∃ y, xs[i]? = some y := fun i hi => ⟨xs[i]'(by rw [hxl]; exact hi), by rw [List.getElem?_eq_getElem]⟩
  obtain ⟨y0, e0⟩ := hx 0 (by omega)
  have k0 : Try.prog.cellsOf 9 = 1 := by kernel_rfl
  have f0 : DataW.trod enc Try.prog w 0 spare held n 9 [c0] = some y0 := by
    have h : DataW.trod enc Try.prog w 0 spare held n 9 ((([c0, c1, c2, c3, c4] : List Value).drop 0).take (Try.prog.cellsOf 9)) = some y0 := (hf 0 _ rfl).trans e0
    rw [k0] at h; exact h
  obtain ⟨y1, e1⟩ := hx 1 (by omega)
  have k1 : Try.prog.cellsOf 26 = 1 := by kernel_rfl
  have f1 : DataW.trod enc Try.prog w 0 spare held n 26 [c1] = some y1 := by
    have h : DataW.trod enc Try.prog w 0 spare held n 26 ((([c0, c1, c2, c3, c4] : List Value).drop 1).take (Try.prog.cellsOf 26)) = some y1 := (hf 1 _ rfl).trans e1
    rw [k1] at h; exact h
  obtain ⟨y2, e2⟩ := hx 2 (by omega)
  have k2 : Try.prog.cellsOf 26 = 1 := by kernel_rfl
  have f2 : DataW.trod enc Try.prog w 0 spare held n 26 [c2] = some y2 := by
    have h : DataW.trod enc Try.prog w 0 spare held n 26 ((([c0, c1, c2, c3, c4] : List Value).drop 2).take (Try.prog.cellsOf 26)) = some y2 := (hf 2 _ rfl).trans e2
    rw [k2] at h; exact h
  obtain ⟨y3, e3⟩ := hx 3 (by omega)
  have k3 : Try.prog.cellsOf 26 = 1 := by kernel_rfl
  have f3 : DataW.trod enc Try.prog w 0 spare held n 26 [c3] = some y3 := by
    have h : DataW.trod enc Try.prog w 0 spare held n 26 ((([c0, c1, c2, c3, c4] : List Value).drop 3).take (Try.prog.cellsOf 26)) = some y3 := (hf 3 _ rfl).trans e3
    rw [k3] at h; exact h
  obtain ⟨y4, e4⟩ := hx 4 (by omega)
  have k4 : Try.prog.cellsOf 4 = 1 := by kernel_rfl
  have f4 : DataW.trod enc Try.prog w 0 spare held n 4 [c4] = some y4 := by
    have h : DataW.trod enc Try.prog w 0 spare held n 4 ((([c0, c1, c2, c3, c4] : List Value).drop 4).take (Try.prog.cellsOf 4)) = some y4 := (hf 4 _ rfl).trans e4
    rw [k4] at h; exact h
  obtain ⟨t0, ht0, _, hl0⟩ := DataW.trod_string Try.underlying9 f0
  simp at ht0
  subst ht0
  obtain ⟨t1, hr1, hs1⟩ := vreads_open f1
  obtain ⟨t2, hr2, hs2⟩ := vreads_open f2
  obtain ⟨t3, hr3, hs3⟩ := vreads_open f3
  obtain ⟨t4, ht4, _⟩ := DataW.trod_bool Try.underlying4 f4
  simp at ht4
  subst ht4
  exact ⟨⟨t0, t1, t2, t3, t4⟩, _, _, _, rfl, hl0, RdB.of hr1, hs1, RdB.of hr2, hs2, RdB.of hr3, hs3⟩
set_option maxRecDepth 100000 in
theorem rules_of_trod {H : Type} {enc : TypeId × Value → H} {w : World} {spare : Nat → Bool} {held : Bool} (fuel : Nat) (c : Value) (x : DataW H × List MemPlace)
    (h : DataW.trod enc Try.prog w 0 spare held fuel 38 [c] = some x) : ∃ xs, RowIn shRule (· < w.heap.size) w c xs :=
  rows_of_trod shRule Try.underlying38 (by kernel_rfl) (by decide) (fun n cs y hh => rule_of_trod n cs y hh) fuel c x h

end Go.Proofs.Ytiadcebolcdhbaa
