/-
  Contracts for the walks, several texts in one: each part says what it proves, and under which conditions.
-/
import Derived.Deep.RegionHeld
import Derived.Deep.DeepCutAuto
import Derived.Laws.AppendOwnNone
import Derived.Test.YtlfmefojcmpfeaaGreatDoorQ15
import Derived.Test.YtlfmefojcmpfeaaGreatDoorQ5
import Derived.Test.YtlfmefojcmpfeaaGreatDoorQ2
import Derived.Test.YtlfmefojcmpfeaaGreatDoorQ13
import Derived.Test.YtlfmefojcmpfeaaGreatDoorQ12

/-! Solves, as the specification answers it: a contract for the walk; conditions: what comes in lies in memory, and nothing holds more than 2 to the 20. -/
namespace Go.Proofs.YtlfmefojcmpfeaaGreatDoor
open Go.RowKit
set_option linter.unusedSimpArgs false
set_option linter.unusedVariables false

set_option maxHeartbeats 16000000 in
set_option maxRecDepth 100000 in
theorem specSolves_c (Sr Sn Sp : Nat → Prop) (rv nv pv : Value) (r : List EntryD) (ns : List NeedD) (l : List PickD) (w : World) (hr : RowIn shEntryO Sr w rv r) (hn : RowIn shNeed Sn w nv ns) (hp : RowIn shPickO Sp w pv l)
    (hBr : ∀ b, Sr b → b < w.heap.size) (hBn : ∀ b, Sn b → b < w.heap.size) (hBp : ∀ b, Sp b → b < w.heap.size) (hwr : wtRow wtEntry r ≤ 1048576) (hwn : wtRow wtNeed ns ≤ 1048576) (hwl : wtRow wtPick l ≤ 1048576) :
    Calls Tryz.prog 42 #[rv, nv, pv] w fun e w' => e = .returned (.bool (solB r ns l)) ∧ Below w.heap.size w w' := by
  have hwD : ∀ o, wtRow wtNeed (atD r o).needs ≤ 1048576 := fun o => by
    unfold atD
    cases o with
    | none => show wtRow wtNeed [] ≤ _; decide
    | some i =>
      cases hi : r[i]? with
      | none => rw [Option.bind_some, hi]; show wtRow wtNeed [] ≤ _; decide
      | some d =>
        simp only [Option.bind_some, hi, Option.getD_some]
        have h1 : d.name.size + bulkS d.vP + wtRow wtNeed d.needs ≤ wtRow wtEntry r := wt_wtRow wtEntry (List.mem_of_getElem? hi)
        omega
  have HMT : Hid (∀ w1 (S : Nat → Prop) v (ns : List NeedD), Below w.heap.size w w1 → RowIn shNeed S w1 v ns → (∀ b, S b → b < w1.heap.size) → wtRow wtNeed ns ≤ 1048576 → Calls Tryz.prog 118 #[v, pv] w1 fun e w' => e = .returned (.bool (metB ns l)) ∧ Below w1.heap.size w1 w') := fun w1 S v ns h hv hB hw => specMet_c S Sp v pv ns l w1 hv (hp.keep (.of h hBp)) hB (fun b hb => Nat.lt_of_lt_of_le (hBp b hb) h.size) hw hwl
  have HEN0 : Hid (∀ w1 n a b c u ps, Below w.heap.size w w1 → Reads w1 u (strsV ps) → bulkS ps ≤ 1048576 → Calls Tryz.prog 17 #[rv, .string n, .agg #[.int .i64 a, .int .i64 b, .int .i64 c, u]] w1 fun e w' => ∃ cs, e = .returned (.tuple #[.agg cs.toArray, .bool (firstK r ⟨n, a, b, c, ⟨(preL ps).toArray⟩⟩).isSome]) ∧ shEntryO.lies (Ow w1.heap.size w'.heap.size) w' cs (atD r (firstK r ⟨n, a, b, c, ⟨(preL ps).toArray⟩⟩)) ∧ Below w1.heap.size w1 w') := fun w1 n a b c u ps h hu hb => specEntry_c Sr rv r n a b c u ps w1 (hr.keep (.of h hBr)) (fun b hb => Nat.lt_of_lt_of_le (hBr b hb) h.size) hwr hu hb
  have HM0 := hidden (HMT.out w Sn nv ns (Below.refl _ _) hn hBn hwn)
  obtain ⟨qn, cn, hqn⟩ := hn.slice
  subst hqn
  obtain ⟨qr, cr, hqr⟩ := hr.slice
  subst hqr
  obtain ⟨qp, cp, rfl, hl, hc, ha⟩ := hp
  unfold maxLen at hl
  have HWL : Hid (∀ d ∈ l, bulkS d.vP ≤ 1048576) := fun d hd => by
    have h1 : d.name.size + bulkS d.vP ≤ wtRow wtPick l := wt_wtRow wtPick hd
    omega
  obtain ⟨R, hR⟩ : ∃ R, R = solB r ns l := ⟨_, rfl⟩
  rw [← hR]
  have HR := hidden hR
  have HWD := hidden hwD
  have HA := hidden ha
  obtain ⟨MB, hMB⟩ : ∃ M, M = metB ns l := ⟨_, rfl⟩
  rw [← hMB] at HM0
  have HMB := hidden hMB
  clear hR hr hn hwD hMB ha hwr hwn hBr hBn
  go_enter Tryz.func42, Tryz.ntmps42
  go_wp2_with fail
  go_at_call 118
  refine HM0.out.mono ?_
  rintro e w1 ⟨rfl, k1⟩
  cases MB with
  | false =>
    have HE : Hid (R = false) := HR.out.trans (solB_met HMB.out.symm)
    clear HMT HEN0 HA HWL HWD HM0
    go_wp2_with fail
    go_ret
    exact ⟨by rw [HE.out]; rfl, k1⟩
  | true =>
    clear HM0
    go_wp2_with fail
    go_loopw [7] (fun vi wr => ∃ k : Nat, k ≤ l.length ∧ vi = .int .i64 (k : Int) ∧ Hid (∀ i (hi : i < l.length), i < k → pickOkB r l l[i] = true ∧ ∀ j (hj : j < i), ¬ l[j].name = l[i].name) ∧ Below w.heap.size w wr) (fun vi _ => l.length - (intOf vi).toNat)
    case atStart => exact ⟨0, Nat.zero_le _, rfl, (fun j hj h => by omega), k1⟩
    case round =>
      obtain ⟨wo, hwo⟩ : ∃ wo, wo = wr := ⟨_, rfl⟩
      subst hwo
      obtain ⟨k, hk, rfl, hno, hbr⟩ := hrel
      by_cases hlt' : k < l.length
      · rcases HA.out with rfl | ⟨b, off, rfl, hlt, ha⟩
        · simp at hlt'
        obtain ⟨cs, hL, hcell⟩ := ha k hlt'
        have hcell2 := hcell.keep (.of hbr hBp) hlt
        replace hL := shPickO.keep (.of hbr hBp) hL
        have hbk := HWL.out l[k] (List.getElem_mem hlt')
        have HF : Hid (pickOkB r l l[k] = false → R = false) := fun h => HR.out.trans (solB_pick hlt' h)
        have HFN : Hid (∀ j (hj : j < k), l[j].name = l[k].name → R = false) := fun j hj h => HR.out.trans (solB_name (namesB_false hlt' hj h))
        have HN : Hid (pickOkB r l l[k] = true → (∀ j (hj : j < k), ¬ l[j].name = l[k].name) → ∀ i (hi : i < l.length), i < k + 1 → pickOkB r l l[i] = true ∧ ∀ j (hj : j < i), ¬ l[j].name = l[i].name) := fun h h2 j hj hjk => by
          by_cases e : j = k
          · subst e; exact ⟨h, h2⟩
          · exact hno.out j hj (by omega)
        have HNM : Hid (∀ j (hj : j < l.length), ∀ W, Below w.heap.size w W → W.cell? ⟨b, off + j * 5, none⟩ = some (.string l[j].name)) := fun j hj W h => by
          obtain ⟨cs', ⟨u0', rfl, _⟩, hc'⟩ := ha j hj
          exact (hc'.keep (.of h hBp) hlt) 0 (by simp)
        obtain ⟨d, hd⟩ : ∃ d, d = l[k] := ⟨_, rfl⟩
        rw [← hd] at hL hbk HF
        obtain ⟨u0, rfl, s_n, r0, p0⟩ := hL
        have hrd : ∀ w1, Below wo.heap.size wo w1 → Reads w1 u0 (strsV d.vP) := fun w1 h => (reads_of_owns r0.1).below h
        obtain ⟨KD, hKD⟩ : ∃ K, K = keyP d := ⟨_, rfl⟩
        have HPO : Hid (pickOkB r l d = ((firstK r KD).isSome && metB (atD r (firstK r KD)).needs l)) := by show _ = _; rw [hKD]; rfl
        obtain ⟨FF, hFF⟩ : ∃ F, F = firstK r KD := ⟨_, rfl⟩
        obtain ⟨DD, hDD⟩ : ∃ D, D = atD r FF := ⟨_, rfl⟩
        have hwDD : wtRow wtNeed DD.needs ≤ 1048576 := by rw [hDD]; exact HWD.out FF
        have HEN' : ∀ w1, Below wo.heap.size wo w1 → Calls Tryz.prog 17 #[.slice qr r.length cr, .string d.name, .agg #[.int .i64 d.vA, .int .i64 d.vB, .int .i64 d.vC, u0]] w1 fun e w' => ∃ q8 c8 q9 c9, e = .returned (.tuple #[.agg #[.string DD.name, .int .i64 DD.vA, .int .i64 DD.vB, .int .i64 DD.vC, .slice q8 DD.vP.length c8, .slice q9 DD.needs.length c9], .bool FF.isSome]) ∧ RowIn shNeed (Ow w1.heap.size w'.heap.size) w' (.slice q9 DD.needs.length c9) DD.needs ∧ Below w1.heap.size w1 w' := fun w1 h => (HEN0.out w1 d.name d.vA d.vB d.vC u0 d.vP (hbr.trans (h.mono hbr.size)) (hrd w1 h) hbk).mono (by
          rintro e w' ⟨cs, he, hl, hb⟩
          have e1 : firstK r ⟨d.name, d.vA, d.vB, d.vC, ⟨(preL d.vP).toArray⟩⟩ = FF := by rw [hFF, hKD]; rfl
          rw [e1] at he hl
          rw [← hDD] at hl
          obtain ⟨v0, v1, rfl, _, t0, _, t1⟩ := hl
          obtain ⟨q8, c8, e8⟩ := t0.slice
          subst e8
          obtain ⟨q9, c9, e9⟩ := t1.slice
          subst e9
          exact ⟨q8, c8, q9, c9, he, t1.plain, hb⟩)
        rw [← hFF, ← hDD] at HPO
        obtain ⟨a0, cap0, eu0⟩ := r0.slice
        subst eu0
        have HEN := hidden HEN'
        have e0 : wo.cell? ⟨b, off + k * 5, none⟩ = some (.string d.name) := hcell2 0 (by simp)
        have e1 : wo.cell? ⟨b, off + k * 5 + 1, none⟩ = some (.int .i64 d.vA) := hcell2 1 (by simp)
        have e2 : wo.cell? ⟨b, off + k * 5 + 2, none⟩ = some (.int .i64 d.vB) := hcell2 2 (by simp)
        have e3 : wo.cell? ⟨b, off + k * 5 + 3, none⟩ = some (.int .i64 d.vC) := hcell2 3 (by simp)
        have e4 : wo.cell? ⟨b, off + k * 5 + 4, none⟩ = some (.slice a0 d.vP.length cap0) := hcell2 4 (by simp)
        have hbb : b < wo.heap.size := Nat.lt_of_lt_of_le (hBp b hlt) hbr.size
        have hki : (k : Int) < (l.length : Int) := by omega
        have KEEP : Hid (∀ W, Below wo.heap.size wo W → W.cell? ⟨b, off + k * 5, none⟩ = some (.string d.name) ∧ W.cell? ⟨b, off + k * 5 + 1, none⟩ = some (.int .i64 d.vA) ∧ W.cell? ⟨b, off + k * 5 + 2, none⟩ = some (.int .i64 d.vB) ∧ W.cell? ⟨b, off + k * 5 + 3, none⟩ = some (.int .i64 d.vC) ∧ W.cell? ⟨b, off + k * 5 + 4, none⟩ = some (.slice a0 d.vP.length cap0)) := fun W h => ⟨(h.cell (by simpa using hbb)).trans e0, (h.cell (by simpa using hbb)).trans e1, (h.cell (by simpa using hbb)).trans e2, (h.cell (by simpa using hbb)).trans e3, (h.cell (by simpa using hbb)).trans e4⟩
        have h0 : Below wo.heap.size wo wo.drew := (Below.refl _ _).drew
        obtain ⟨IS, hIS⟩ : ∃ I, I = FF.isSome := ⟨_, rfl⟩
        obtain ⟨MB2, hMB2⟩ : ∃ M, M = metB DD.needs l := ⟨_, rfl⟩
        simp only [← hIS] at HEN
        rw [← hIS, ← hMB2] at HPO
        rw [HPO.out] at HF
        have HN' : Hid ((IS && MB2) = true → (∀ j (hj : j < k), ¬ l[j].name = l[k].name) → ∀ i (hi : i < l.length), i < k + 1 → pickOkB r l l[i] = true ∧ ∀ j (hj : j < i), ¬ l[j].name = l[i].name) := fun h h2 => HN.out (by rw [← hd, HPO.out]; exact h) h2
        have HDN : Hid (d.name = l[k].name) := by show _ = _; rw [hd]
        clear hcell hcell2 hno HN hd r0 hrd hKD HEN' e0 e1 e2 e3 e4 hIS hFF hDD hbk HPO HA ha
        go_wp2_with fail
        go_cut [8, 9] (fun v8 v9 wc => ∃ (g8 : Nat) (q8 : Option Addr) (c8 : Nat) (q9 : Option Addr) (c9 lo hi : Nat), v8 = .pointer (some ⟨g8, 0, none⟩) ∧ v9 = .bool IS ∧ wc.heap[g8]? = some (.cells #[.string DD.name, .int .i64 DD.vA, .int .i64 DD.vB, .int .i64 DD.vC, .slice q8 DD.vP.length c8, .slice q9 DD.needs.length c9] 35 (0, 0)) ∧ RowIn shNeed (Ow lo hi) wc (.slice q9 DD.needs.length c9) DD.needs ∧ hi ≤ wc.heap.size ∧ Below wo.heap.size wo wc)
        case first =>
          refine wp_region_held_drew (S := (fun W => W.cell? ⟨b, off + k * 5, none⟩ = some (.string d.name) ∧ W.cell? ⟨b, off + k * 5 + 1, none⟩ = some (.int .i64 d.vA) ∧ W.cell? ⟨b, off + k * 5 + 2, none⟩ = some (.int .i64 d.vB) ∧ W.cell? ⟨b, off + k * 5 + 3, none⟩ = some (.int .i64 d.vC) ∧ W.cell? ⟨b, off + k * 5 + 4, none⟩ = some (.slice a0 d.vP.length cap0))) (by kernel_rfl) ?S0E (fun hHeld => ?_)
          case S0E => (exact KEEP.out _ h0)
          refine wpAnyH_take (i := 0) (oi := _) (v := ?vE1) rfl (by kernel_rfl) (by kernel_rfl) (by kernel_rfl) (fun _ _ _ h => h) (Or.inl ⟨by rfl, ?yE1⟩) hHeld ?_
          case yE1 => (intro w hSw; (try dsimp only at hSw); go_simp <;> with_reducible rfl)
          try simp only [Act.put, List.getElem_toArray, List.getElem_cons_zero, List.getElem_cons_succ, List.setIfInBounds_toArray, List.set_cons_zero, List.set_cons_succ]
          refine wpAnyH_take (i := 1) (oi := _) (v := ?vE2) rfl (by kernel_rfl) (by kernel_rfl) (by kernel_rfl) (fun _ _ _ h => h) (Or.inl ⟨by rfl, ?yE2⟩) hHeld ?_
          case yE2 => (intro w hSw; (try dsimp only at hSw); go_simp <;> with_reducible rfl)
          try simp only [Act.put, List.getElem_toArray, List.getElem_cons_zero, List.getElem_cons_succ, List.setIfInBounds_toArray, List.set_cons_zero, List.set_cons_succ]
          refine wpAnyH_take (i := 2) (oi := _) (v := ?vE3) rfl (by kernel_rfl) (by kernel_rfl) (by kernel_rfl) (fun _ _ _ h => h) (Or.inl ⟨by rfl, ?yE3⟩) hHeld ?_
          case yE3 => (intro w hSw; (try dsimp only at hSw); go_simp <;> with_reducible rfl)
          try simp only [Act.put, List.getElem_toArray, List.getElem_cons_zero, List.getElem_cons_succ, List.setIfInBounds_toArray, List.set_cons_zero, List.set_cons_succ]
          refine wpAnyH_take (i := 3) (oi := _) (v := ?vE4) rfl (by kernel_rfl) (by kernel_rfl) (by kernel_rfl) (fun _ _ _ h => h) (Or.inl ⟨by rfl, ?yE4⟩) hHeld ?_
          case yE4 => (intro w hSw; (try dsimp only at hSw); go_simp <;> with_reducible rfl)
          try simp only [Act.put, List.getElem_toArray, List.getElem_cons_zero, List.getElem_cons_succ, List.setIfInBounds_toArray, List.set_cons_zero, List.set_cons_succ]
          refine wpAnyH_take (i := 4) (oi := _) (v := ?vE5) rfl (by kernel_rfl) (by kernel_rfl) (by kernel_rfl) (fun _ _ _ h => h) (Or.inl ⟨by rfl, ?yE5⟩) hHeld ?_
          case yE5 => (intro w hSw; (try dsimp only at hSw); go_simp <;> with_reducible rfl)
          try simp only [Act.put, List.getElem_toArray, List.getElem_cons_zero, List.getElem_cons_succ, List.setIfInBounds_toArray, List.set_cons_zero, List.set_cons_succ]
          refine wpAnyH_take (i := 5) (oi := _) (v := ?vE6) rfl (by kernel_rfl) (by kernel_rfl) (by kernel_rfl) (fun _ _ _ h => h) (Or.inl ⟨by rfl, ?yE6⟩) hHeld ?_
          case yE6 => (intro w hSw; (try dsimp only at hSw); go_simp <;> with_reducible rfl)
          try simp only [Act.put, List.getElem_toArray, List.getElem_cons_zero, List.getElem_cons_succ, List.setIfInBounds_toArray, List.set_cons_zero, List.set_cons_succ]
          refine wpAnyH_take (i := 6) (oi := _) (v := ?vE7) rfl (by kernel_rfl) (by kernel_rfl) (by kernel_rfl) (fun _ _ _ h => h) (Or.inl ⟨by rfl, ?yE7⟩) hHeld ?_
          case yE7 => (intro w hSw; (try dsimp only at hSw); go_simp <;> with_reducible rfl)
          try simp only [Act.put, List.getElem_toArray, List.getElem_cons_zero, List.getElem_cons_succ, List.setIfInBounds_toArray, List.set_cons_zero, List.set_cons_succ]
          refine wpAnyH_take (i := 7) (oi := _) (v := ?vE8) rfl (by kernel_rfl) (by kernel_rfl) (by kernel_rfl) (fun _ _ _ h => h) (Or.inl ⟨by rfl, ?yE8⟩) hHeld ?_
          case yE8 => (intro w hSw; (try dsimp only at hSw); go_simp <;> with_reducible rfl)
          try simp only [Act.put, List.getElem_toArray, List.getElem_cons_zero, List.getElem_cons_succ, List.setIfInBounds_toArray, List.set_cons_zero, List.set_cons_succ]
          refine wpAnyH_take (i := 8) (oi := _) (v := ?vE9) rfl (by kernel_rfl) (by kernel_rfl) (by kernel_rfl) (fun _ _ _ h => h) (Or.inl ⟨by rfl, ?yE9⟩) hHeld ?_
          case yE9 => (intro w hSw; (try dsimp only at hSw); go_simp <;> with_reducible rfl)
          try simp only [Act.put, List.getElem_toArray, List.getElem_cons_zero, List.getElem_cons_succ, List.setIfInBounds_toArray, List.set_cons_zero, List.set_cons_succ]
          refine wpAnyH_take (i := 9) (oi := _) (v := ?vE10) rfl (by kernel_rfl) (by kernel_rfl) (by kernel_rfl) (fun _ _ _ h => h) (Or.inl ⟨by rfl, ?yE10⟩) hHeld ?_
          case yE10 => (intro w hSw; (try dsimp only at hSw); go_simp <;> with_reducible rfl)
          try simp only [Act.put, List.getElem_toArray, List.getElem_cons_zero, List.getElem_cons_succ, List.setIfInBounds_toArray, List.set_cons_zero, List.set_cons_succ]
          refine wpAnyH_take (i := 10) (oi := _) (v := ?vE11) rfl (by kernel_rfl) (by kernel_rfl) (by kernel_rfl) (fun _ _ _ h => h) (Or.inl ⟨by rfl, ?yE11⟩) hHeld ?_
          case yE11 => (intro w hSw; (try dsimp only at hSw); go_simp <;> with_reducible rfl)
          try simp only [Act.put, List.getElem_toArray, List.getElem_cons_zero, List.getElem_cons_succ, List.setIfInBounds_toArray, List.set_cons_zero, List.set_cons_succ]
          obtain ⟨wd, hwd⟩ : ∃ wd, wd = wo.drew := ⟨_, rfl⟩
          rw [← hwd] at h0
          rw [← hwd]
          clear hwd
          refine wpAnyH_ready (rs := [11, 15]) (by kernel_rfl) (by simp) ?_
          refine AllReadyH.cons rfl (fun K hK => ?_) (AllReadyH.cons rfl (fun K hK => ?_) AllReadyH.nil)
          · go_simp
            go_wp2_with (go_at_call 17; refine (HEN.out _ (h0)).mono ?_; rintro e we1 ⟨q8, c8, q9, c9, rfl, rN, be1⟩)
            have h1 : Below wo.heap.size wo we1 := (h0).trans (be1.mono (h0).size)
            clear hHeld
            refine hK.out _ _ ?GE12 (fun hHeld => ?_)
            case GE12 => ((try dsimp only); exact KEEP.out _ h1)
            clear hK K
            try simp only [Act.put, List.getElem_toArray, List.getElem_cons_zero, List.getElem_cons_succ, List.setIfInBounds_toArray, List.set_cons_zero, List.set_cons_succ]
            refine wpAnyH_take (i := 12) (oi := _) (v := ?vE13) rfl (by kernel_rfl) (by kernel_rfl) (by kernel_rfl) (fun _ _ _ h => h) (Or.inl ⟨by rfl, ?yE13⟩) hHeld ?_
            case yE13 => (intro w hSw; (try dsimp only at hSw); go_simp <;> with_reducible rfl)
            try simp only [Act.put, List.getElem_toArray, List.getElem_cons_zero, List.getElem_cons_succ, List.setIfInBounds_toArray, List.set_cons_zero, List.set_cons_succ]
            refine wpAnyH_take (i := 13) (oi := _) (v := ?vE14) rfl (by kernel_rfl) (by kernel_rfl) (by kernel_rfl) (fun _ _ _ h => h) (Or.inl ⟨by rfl, ?yE14⟩) hHeld ?_
            case yE14 => (intro w hSw; (try dsimp only at hSw); go_simp <;> with_reducible rfl)
            try simp only [Act.put, List.getElem_toArray, List.getElem_cons_zero, List.getElem_cons_succ, List.setIfInBounds_toArray, List.set_cons_zero, List.set_cons_succ]
            refine wpAnyH_take (i := 14) (oi := _) (v := ?vE15) rfl (by kernel_rfl) (by kernel_rfl) (by kernel_rfl) (fun _ _ _ h => h) (Or.inl ⟨by rfl, ?yE15⟩) hHeld ?_
            case yE15 => (intro w hSw; (try dsimp only at hSw); go_simp <;> with_reducible rfl)
            try simp only [Act.put, List.getElem_toArray, List.getElem_cons_zero, List.getElem_cons_succ, List.setIfInBounds_toArray, List.set_cons_zero, List.set_cons_succ]
            obtain ⟨lo, hlo⟩ : ∃ lo, lo = (wd).heap.size := ⟨_, rfl⟩
            obtain ⟨hi, hhi⟩ : ∃ hi, hi = we1.heap.size := ⟨_, rfl⟩
            rw [← hlo, ← hhi] at rN
            have hhz : hi ≤ we1.heap.size := Nat.le_of_eq hhi
            clear hlo hhi
            refine wpAnyH_ready (rs := [15]) (by kernel_rfl) (by simp) ?_
            refine AllReadyH.cons rfl (fun K hK => ?_) AllReadyH.nil
            go_simp
            have kz2 : Below (we1).heap.size (we1) ((we1).alloc (.cells #[.string ⟨#[]⟩, .int .i64 0, .int .i64 0, .int .i64 0, .slice none 0 0, .slice none 0 0] 35 (0, 0))) := (Below.refl _ _).alloc (Nat.le_refl _) _
            have h2 : Below wo.heap.size wo ((we1).alloc (.cells #[.string ⟨#[]⟩, .int .i64 0, .int .i64 0, .int .i64 0, .slice none 0 0, .slice none 0 0] 35 (0, 0))) := (h1).trans (kz2.mono (h1).size)
            have hg8 : ((we1).alloc (.cells #[.string ⟨#[]⟩, .int .i64 0, .int .i64 0, .int .i64 0, .slice none 0 0, .slice none 0 0] 35 (0, 0))).heap[(we1).heap.size]? = some (.cells #[.string ⟨#[]⟩, .int .i64 0, .int .i64 0, .int .i64 0, .slice none 0 0, .slice none 0 0] 35 (0, 0)) := vheap_new _ _
            have hge8 : wo.heap.size ≤ (we1).heap.size := (h1).size
            have hgn : ¬ Ow lo hi (we1).heap.size := fun hh => by have := hh.2; omega
            have rN := rN.keep (fun b hb => kz2.block b (by have := hb.2; omega))
            have hhz := Nat.le_trans hhz kz2.size
            clear hHeld
            refine hK.out _ ((we1).alloc (.cells #[.string ⟨#[]⟩, .int .i64 0, .int .i64 0, .int .i64 0, .slice none 0 0, .slice none 0 0] 35 (0, 0))) ?G92 (fun hHeld => ?_)
            case G92 => (exact KEEP.out _ h2)
            clear hK K
            try simp only [Act.put, List.getElem_toArray, List.getElem_cons_zero, List.getElem_cons_succ, List.setIfInBounds_toArray, List.set_cons_zero, List.set_cons_succ]
            obtain ⟨g8, hge⟩ : ∃ g, g = (we1).heap.size := ⟨_, rfl⟩
            rw [← hge] at hg8 hge8 hgn
            try rw [← hge]
            obtain ⟨wa2, hwa⟩ : ∃ wa, wa = (we1).alloc (.cells #[.string ⟨#[]⟩, .int .i64 0, .int .i64 0, .int .i64 0, .slice none 0 0, .slice none 0 0] 35 (0, 0)) := ⟨_, rfl⟩
            rw [← hwa] at hg8 h2 rN hhz
            try rw [← hwa]
            clear hge hwa kz2
            have fy := vblk_frozen hg8
            have y0 := vblk_cell hg8 0
            have y1 := vblk_cell hg8 1
            have y2 := vblk_cell hg8 2
            have y3 := vblk_cell hg8 3
            have y4 := vblk_cell hg8 4
            have y5 := vblk_cell hg8 5
            simp only [List.getElem?_toArray, List.getElem?_cons_succ, List.getElem?_cons_zero] at y0 y1 y2 y3 y4 y5
            have hst : Below wo.heap.size wo ((((((wa2.setCell ⟨g8, 0, none⟩ (.string DD.name)).setCell ⟨g8, 1, none⟩ (.int .i64 DD.vA)).setCell ⟨g8, 2, none⟩ (.int .i64 DD.vB)).setCell ⟨g8, 3, none⟩ (.int .i64 DD.vC)).setCell ⟨g8, 4, none⟩ (.slice q8 DD.vP.length c8)).setCell ⟨g8, 5, none⟩ (.slice q9 DD.needs.length c9)) := Below.setCell (Below.setCell (Below.setCell (Below.setCell (Below.setCell (Below.setCell (h2) hge8 _) hge8 _) hge8 _) hge8 _) hge8 _) hge8 _
            have hbs := heap_setCell_same _ _ 5 _ _ (.slice q9 DD.needs.length c9) (heap_setCell_same _ _ 4 _ _ (.slice q8 DD.vP.length c8) (heap_setCell_same _ _ 3 _ _ (.int .i64 DD.vC) (heap_setCell_same _ _ 2 _ _ (.int .i64 DD.vB) (heap_setCell_same _ _ 1 _ _ (.int .i64 DD.vA) (heap_setCell_same _ _ 0 _ _ (.string DD.name) hg8)))))
            have rS := rN.keep (w' := ((((((wa2.setCell ⟨g8, 0, none⟩ (.string DD.name)).setCell ⟨g8, 1, none⟩ (.int .i64 DD.vA)).setCell ⟨g8, 2, none⟩ (.int .i64 DD.vB)).setCell ⟨g8, 3, none⟩ (.int .i64 DD.vC)).setCell ⟨g8, 4, none⟩ (.slice q8 DD.vP.length c8)).setCell ⟨g8, 5, none⟩ (.slice q9 DD.needs.length c9))) (fun b hb => by (repeat (rw [Below.heap_setCell _ _ _ _ (by simp; rintro rfl; exact hgn hb)])))
            refine wpAnyH_ready (rs := [16]) (by kernel_rfl) (by simp) ?_
            refine AllReadyH.cons rfl (fun K hK => ?_) AllReadyH.nil
            go_simp
            clear hHeld
            refine hK.out _ ((((((wa2.setCell ⟨g8, 0, none⟩ (.string DD.name)).setCell ⟨g8, 1, none⟩ (.int .i64 DD.vA)).setCell ⟨g8, 2, none⟩ (.int .i64 DD.vB)).setCell ⟨g8, 3, none⟩ (.int .i64 DD.vC)).setCell ⟨g8, 4, none⟩ (.slice q8 DD.vP.length c8)).setCell ⟨g8, 5, none⟩ (.slice q9 DD.needs.length c9)) ?GS16 (fun hHeld => ?_)
            case GS16 => (exact KEEP.out _ hst)
            clear hK K
            try simp only [Act.put, List.getElem_toArray, List.getElem_cons_zero, List.getElem_cons_succ, List.setIfInBounds_toArray, List.set_cons_zero, List.set_cons_succ]
            refine wpAnyH_take (i := 17) (oi := _) (v := ?vE17) rfl (by kernel_rfl) (by kernel_rfl) (by kernel_rfl) (fun _ _ _ h => h) (Or.inl ⟨by rfl, ?yE17⟩) hHeld ?_
            case yE17 => (intro w hSw; (try dsimp only at hSw); go_simp <;> with_reducible rfl)
            try simp only [Act.put, List.getElem_toArray, List.getElem_cons_zero, List.getElem_cons_succ, List.setIfInBounds_toArray, List.set_cons_zero, List.set_cons_succ]
            have hb8 : ((((((wa2.setCell ⟨g8, 0, none⟩ (.string DD.name)).setCell ⟨g8, 1, none⟩ (.int .i64 DD.vA)).setCell ⟨g8, 2, none⟩ (.int .i64 DD.vB)).setCell ⟨g8, 3, none⟩ (.int .i64 DD.vC)).setCell ⟨g8, 4, none⟩ (.slice q8 DD.vP.length c8)).setCell ⟨g8, 5, none⟩ (.slice q9 DD.needs.length c9)).heap[g8]? = some (.cells #[.string DD.name, .int .i64 DD.vA, .int .i64 DD.vB, .int .i64 DD.vC, .slice q8 DD.vP.length c8, .slice q9 DD.needs.length c9] 35 (0, 0)) := by simpa only [List.setIfInBounds_toArray, List.set_cons_succ, List.set_cons_zero] using hbs
            have hhs : hi ≤ ((((((wa2.setCell ⟨g8, 0, none⟩ (.string DD.name)).setCell ⟨g8, 1, none⟩ (.int .i64 DD.vA)).setCell ⟨g8, 2, none⟩ (.int .i64 DD.vB)).setCell ⟨g8, 3, none⟩ (.int .i64 DD.vC)).setCell ⟨g8, 4, none⟩ (.slice q8 DD.vP.length c8)).setCell ⟨g8, 5, none⟩ (.slice q9 DD.needs.length c9)).heap.size := by simp only [World.setCell, Array.size_modify]; exact hhz
            obtain ⟨wY, hWY⟩ : ∃ wY, wY = ((((((wa2.setCell ⟨g8, 0, none⟩ (.string DD.name)).setCell ⟨g8, 1, none⟩ (.int .i64 DD.vA)).setCell ⟨g8, 2, none⟩ (.int .i64 DD.vB)).setCell ⟨g8, 3, none⟩ (.int .i64 DD.vC)).setCell ⟨g8, 4, none⟩ (.slice q8 DD.vP.length c8)).setCell ⟨g8, 5, none⟩ (.slice q9 DD.needs.length c9)) := ⟨_, rfl⟩
            rw [← hWY] at hst rS hb8 hhs
            rw [← hWY]
            clear hWY y0 y1 y2 y3 y4 y5 fy hg8 hbs rN hHeld hgn hhz
            refine wpAnyH_done (by kernel_rfl) ?_ _
            go_wp2_with fail
            go_meet
            case rel => exact ⟨g8, q8, c8, q9, c9, lo, hi, rfl, rfl, hb8, rS, hhs, hst⟩
          · go_simp
            have kz3 : Below (wd).heap.size (wd) ((wd).alloc (.cells #[.string ⟨#[]⟩, .int .i64 0, .int .i64 0, .int .i64 0, .slice none 0 0, .slice none 0 0] 35 (0, 0))) := (Below.refl _ _).alloc (Nat.le_refl _) _
            have h3 : Below wo.heap.size wo ((wd).alloc (.cells #[.string ⟨#[]⟩, .int .i64 0, .int .i64 0, .int .i64 0, .slice none 0 0, .slice none 0 0] 35 (0, 0))) := (h0).trans (kz3.mono (h0).size)
            have hg8 : ((wd).alloc (.cells #[.string ⟨#[]⟩, .int .i64 0, .int .i64 0, .int .i64 0, .slice none 0 0, .slice none 0 0] 35 (0, 0))).heap[(wd).heap.size]? = some (.cells #[.string ⟨#[]⟩, .int .i64 0, .int .i64 0, .int .i64 0, .slice none 0 0, .slice none 0 0] 35 (0, 0)) := vheap_new _ _
            have hge8 : wo.heap.size ≤ (wd).heap.size := (h0).size
            clear hHeld
            refine hK.out _ ((wd).alloc (.cells #[.string ⟨#[]⟩, .int .i64 0, .int .i64 0, .int .i64 0, .slice none 0 0, .slice none 0 0] 35 (0, 0))) ?G93 (fun hHeld => ?_)
            case G93 => (exact KEEP.out _ h3)
            clear hK K
            try simp only [Act.put, List.getElem_toArray, List.getElem_cons_zero, List.getElem_cons_succ, List.setIfInBounds_toArray, List.set_cons_zero, List.set_cons_succ]
            obtain ⟨g8, hge⟩ : ∃ g, g = (wd).heap.size := ⟨_, rfl⟩
            rw [← hge] at hg8 hge8
            try rw [← hge]
            obtain ⟨wa3, hwa⟩ : ∃ wa, wa = (wd).alloc (.cells #[.string ⟨#[]⟩, .int .i64 0, .int .i64 0, .int .i64 0, .slice none 0 0, .slice none 0 0] 35 (0, 0)) := ⟨_, rfl⟩
            rw [← hwa] at hg8 h3
            try rw [← hwa]
            clear hge hwa kz3
            refine wpAnyH_ready (rs := [11]) (by kernel_rfl) (by simp) ?_
            refine AllReadyH.cons rfl (fun K hK => ?_) AllReadyH.nil
            go_simp
            go_wp2_with (go_at_call 17; refine (HEN.out _ (h3)).mono ?_; rintro e we4 ⟨q8, c8, q9, c9, rfl, rN, be4⟩)
            have h4 : Below wo.heap.size wo we4 := (h3).trans (be4.mono (h3).size)
            have hgl := (Array.getElem?_eq_some_iff.1 hg8).1
            have hg8 := box_below hg8 be4
            have hgn : ¬ Ow (wa3).heap.size we4.heap.size g8 := fun hh => by have := hh.1; omega
            clear hHeld
            refine hK.out _ _ ?GE18 (fun hHeld => ?_)
            case GE18 => ((try dsimp only); exact KEEP.out _ h4)
            clear hK K
            try simp only [Act.put, List.getElem_toArray, List.getElem_cons_zero, List.getElem_cons_succ, List.setIfInBounds_toArray, List.set_cons_zero, List.set_cons_succ]
            refine wpAnyH_take (i := 12) (oi := _) (v := ?vE19) rfl (by kernel_rfl) (by kernel_rfl) (by kernel_rfl) (fun _ _ _ h => h) (Or.inl ⟨by rfl, ?yE19⟩) hHeld ?_
            case yE19 => (intro w hSw; (try dsimp only at hSw); go_simp <;> with_reducible rfl)
            try simp only [Act.put, List.getElem_toArray, List.getElem_cons_zero, List.getElem_cons_succ, List.setIfInBounds_toArray, List.set_cons_zero, List.set_cons_succ]
            refine wpAnyH_take (i := 13) (oi := _) (v := ?vE20) rfl (by kernel_rfl) (by kernel_rfl) (by kernel_rfl) (fun _ _ _ h => h) (Or.inl ⟨by rfl, ?yE20⟩) hHeld ?_
            case yE20 => (intro w hSw; (try dsimp only at hSw); go_simp <;> with_reducible rfl)
            try simp only [Act.put, List.getElem_toArray, List.getElem_cons_zero, List.getElem_cons_succ, List.setIfInBounds_toArray, List.set_cons_zero, List.set_cons_succ]
            refine wpAnyH_take (i := 14) (oi := _) (v := ?vE21) rfl (by kernel_rfl) (by kernel_rfl) (by kernel_rfl) (fun _ _ _ h => h) (Or.inl ⟨by rfl, ?yE21⟩) hHeld ?_
            case yE21 => (intro w hSw; (try dsimp only at hSw); go_simp <;> with_reducible rfl)
            try simp only [Act.put, List.getElem_toArray, List.getElem_cons_zero, List.getElem_cons_succ, List.setIfInBounds_toArray, List.set_cons_zero, List.set_cons_succ]
            obtain ⟨lo, hlo⟩ : ∃ lo, lo = (wa3).heap.size := ⟨_, rfl⟩
            obtain ⟨hi, hhi⟩ : ∃ hi, hi = we4.heap.size := ⟨_, rfl⟩
            rw [← hlo, ← hhi] at rN hgn
            have hhz : hi ≤ we4.heap.size := Nat.le_of_eq hhi
            clear hlo hhi
            have fy := vblk_frozen hg8
            have y0 := vblk_cell hg8 0
            have y1 := vblk_cell hg8 1
            have y2 := vblk_cell hg8 2
            have y3 := vblk_cell hg8 3
            have y4 := vblk_cell hg8 4
            have y5 := vblk_cell hg8 5
            simp only [List.getElem?_toArray, List.getElem?_cons_succ, List.getElem?_cons_zero] at y0 y1 y2 y3 y4 y5
            have hst : Below wo.heap.size wo ((((((we4.setCell ⟨g8, 0, none⟩ (.string DD.name)).setCell ⟨g8, 1, none⟩ (.int .i64 DD.vA)).setCell ⟨g8, 2, none⟩ (.int .i64 DD.vB)).setCell ⟨g8, 3, none⟩ (.int .i64 DD.vC)).setCell ⟨g8, 4, none⟩ (.slice q8 DD.vP.length c8)).setCell ⟨g8, 5, none⟩ (.slice q9 DD.needs.length c9)) := Below.setCell (Below.setCell (Below.setCell (Below.setCell (Below.setCell (Below.setCell (h4) hge8 _) hge8 _) hge8 _) hge8 _) hge8 _) hge8 _
            have hbs := heap_setCell_same _ _ 5 _ _ (.slice q9 DD.needs.length c9) (heap_setCell_same _ _ 4 _ _ (.slice q8 DD.vP.length c8) (heap_setCell_same _ _ 3 _ _ (.int .i64 DD.vC) (heap_setCell_same _ _ 2 _ _ (.int .i64 DD.vB) (heap_setCell_same _ _ 1 _ _ (.int .i64 DD.vA) (heap_setCell_same _ _ 0 _ _ (.string DD.name) hg8)))))
            have rS := rN.keep (w' := ((((((we4.setCell ⟨g8, 0, none⟩ (.string DD.name)).setCell ⟨g8, 1, none⟩ (.int .i64 DD.vA)).setCell ⟨g8, 2, none⟩ (.int .i64 DD.vB)).setCell ⟨g8, 3, none⟩ (.int .i64 DD.vC)).setCell ⟨g8, 4, none⟩ (.slice q8 DD.vP.length c8)).setCell ⟨g8, 5, none⟩ (.slice q9 DD.needs.length c9))) (fun b hb => by (repeat (rw [Below.heap_setCell _ _ _ _ (by simp; rintro rfl; exact hgn hb)])))
            refine wpAnyH_ready (rs := [16]) (by kernel_rfl) (by simp) ?_
            refine AllReadyH.cons rfl (fun K hK => ?_) AllReadyH.nil
            go_simp
            clear hHeld
            refine hK.out _ ((((((we4.setCell ⟨g8, 0, none⟩ (.string DD.name)).setCell ⟨g8, 1, none⟩ (.int .i64 DD.vA)).setCell ⟨g8, 2, none⟩ (.int .i64 DD.vB)).setCell ⟨g8, 3, none⟩ (.int .i64 DD.vC)).setCell ⟨g8, 4, none⟩ (.slice q8 DD.vP.length c8)).setCell ⟨g8, 5, none⟩ (.slice q9 DD.needs.length c9)) ?GS22 (fun hHeld => ?_)
            case GS22 => (exact KEEP.out _ hst)
            clear hK K
            try simp only [Act.put, List.getElem_toArray, List.getElem_cons_zero, List.getElem_cons_succ, List.setIfInBounds_toArray, List.set_cons_zero, List.set_cons_succ]
            refine wpAnyH_take (i := 17) (oi := _) (v := ?vE23) rfl (by kernel_rfl) (by kernel_rfl) (by kernel_rfl) (fun _ _ _ h => h) (Or.inl ⟨by rfl, ?yE23⟩) hHeld ?_
            case yE23 => (intro w hSw; (try dsimp only at hSw); go_simp <;> with_reducible rfl)
            try simp only [Act.put, List.getElem_toArray, List.getElem_cons_zero, List.getElem_cons_succ, List.setIfInBounds_toArray, List.set_cons_zero, List.set_cons_succ]
            have hb8 : ((((((we4.setCell ⟨g8, 0, none⟩ (.string DD.name)).setCell ⟨g8, 1, none⟩ (.int .i64 DD.vA)).setCell ⟨g8, 2, none⟩ (.int .i64 DD.vB)).setCell ⟨g8, 3, none⟩ (.int .i64 DD.vC)).setCell ⟨g8, 4, none⟩ (.slice q8 DD.vP.length c8)).setCell ⟨g8, 5, none⟩ (.slice q9 DD.needs.length c9)).heap[g8]? = some (.cells #[.string DD.name, .int .i64 DD.vA, .int .i64 DD.vB, .int .i64 DD.vC, .slice q8 DD.vP.length c8, .slice q9 DD.needs.length c9] 35 (0, 0)) := by simpa only [List.setIfInBounds_toArray, List.set_cons_succ, List.set_cons_zero] using hbs
            have hhs : hi ≤ ((((((we4.setCell ⟨g8, 0, none⟩ (.string DD.name)).setCell ⟨g8, 1, none⟩ (.int .i64 DD.vA)).setCell ⟨g8, 2, none⟩ (.int .i64 DD.vB)).setCell ⟨g8, 3, none⟩ (.int .i64 DD.vC)).setCell ⟨g8, 4, none⟩ (.slice q8 DD.vP.length c8)).setCell ⟨g8, 5, none⟩ (.slice q9 DD.needs.length c9)).heap.size := by simp only [World.setCell, Array.size_modify]; exact hhz
            obtain ⟨wY, hWY⟩ : ∃ wY, wY = ((((((we4.setCell ⟨g8, 0, none⟩ (.string DD.name)).setCell ⟨g8, 1, none⟩ (.int .i64 DD.vA)).setCell ⟨g8, 2, none⟩ (.int .i64 DD.vB)).setCell ⟨g8, 3, none⟩ (.int .i64 DD.vC)).setCell ⟨g8, 4, none⟩ (.slice q8 DD.vP.length c8)).setCell ⟨g8, 5, none⟩ (.slice q9 DD.needs.length c9)) := ⟨_, rfl⟩
            rw [← hWY] at hst rS hb8 hhs
            rw [← hWY]
            clear hWY y0 y1 y2 y3 y4 y5 fy hg8 hbs rN hHeld hgn hhz
            refine wpAnyH_done (by kernel_rfl) ?_ _
            go_wp2_with fail
            go_meet
            case rel => exact ⟨g8, q8, c8, q9, c9, lo, hi, rfl, rfl, hb8, rS, hhs, hst⟩
        case rest =>
          obtain ⟨g8, q8, c8, q9, c9, lo, hi, rfl, rfl, hg8, rN, hhz, hst⟩ := hcut
          have kc := hbr.trans (hst.mono hbr.size)
          have y5 : wc.cell? ⟨g8, 5, none⟩ = some (.slice q9 DD.needs.length c9) := vblk_cell hg8 5
          have HMC := hidden (HMT.out wc (Ow lo hi) _ DD.needs kc rN (fun b hb => Nat.lt_of_lt_of_le hb.2 hhz) hwDD)
          rw [← hMB2] at HMC
          clear HEN KEEP h0 hg8 rN hMB2 hhz
          cases IS with
          | false =>
            have HE := hidden (HF.out rfl)
            clear HF HN'
            go_wp2_with fail
            go_ret
            exact ⟨by rw [HE.out]; rfl, kc⟩
          | true =>
            rw [Bool.true_and] at HF HN'
            go_wp2_with fail
            go_at_call 118
            refine HMC.out.mono ?_
            rintro e w7 ⟨rfl, b7⟩
            have k7 := kc.trans (b7.mono kc.size)
            clear HMC y5
            cases MB2 with
            | false =>
              have HE := hidden (HF.out rfl)
              clear HF HN'
              go_wp2_with fail
              go_ret
              exact ⟨by rw [HE.out]; rfl, k7⟩
            | true =>
              have HN2 := hidden (HN'.out rfl)
              clear HF HN' kc hst b7
              go_wp2_with fail
              go_loopw [10] (fun vj wr => ∃ j : Nat, j ≤ k ∧ vj = .int .i64 (j : Int) ∧ Hid (∀ i (hi : i < k), i < j → ¬ l[i].name = l[k].name) ∧ Below w.heap.size w wr) (fun vj _ => k - (intOf vj).toNat)
              case atStart => exact ⟨0, Nat.zero_le _, rfl, (fun j hj h => by omega), k7⟩
              case round =>
                obtain ⟨j, hj, rfl, hnj, hbj⟩ := hrel
                by_cases hjk : j < k
                · have z0 := HNM.out j (by omega) wr hbj
                  have z1 := HNM.out k hlt' wr hbj
                  have hji : (j : Int) < (k : Int) := by omega
                  have hjl : (j : Int) < (l.length : Int) := by omega
                  have HF1 : Hid (l[j].name = l[k].name → R = false) := HFN.out j hjk
                  have HF2 : Hid (¬ l[j].name = l[k].name → ∀ i (hi : i < k), i < j + 1 → ¬ l[i].name = l[k].name) := fun h i hi hij => by
                    by_cases e : i = j
                    · subst e; exact h
                    · exact hnj.out i hi (by omega)
                  obtain ⟨t0, ht0⟩ : ∃ t, t = l[j].name := ⟨_, rfl⟩
                  obtain ⟨t1, ht1⟩ : ∃ t, t = l[k].name := ⟨_, rfl⟩
                  rw [← ht0] at z0 HF1 HF2
                  rw [← ht1] at z1 HF1
                  have HF3 : Hid (¬ t0 = t1 → ∀ i (hi : i < k), i < j + 1 → ¬ l[i].name = l[k].name) := fun h => HF2.out (by rw [← ht1]; exact h)
                  have hal := name_alike t0 t1
                  clear hnj HF2 ht0 ht1 HFN
                  by_cases hts : t0 = t1
                  · have hq : (t0.toList == t1.toList) = true := by rw [hal]; simpa using hts
                    have HE := hidden (HF1.out hts)
                    clear HF1 HF3 hts hal
                    go_wp2_with fail
                    go_quiet (fail)
                    go_wp2_with fail
                    go_ret
                    exact ⟨by rw [HE.out]; rfl, by first | exact hbj | exact hbj.drew | exact below_drewN' hbj _⟩
                  · have hq : (t0.toList == t1.toList) = false := by rw [hal]; simpa using hts
                    have HN3 := hidden (HF3.out hts)
                    clear HF1 HF3 hts hal
                    go_wp2_with fail
                    go_quiet (fail)
                    go_wp2_with fail
                    go_roundw
                    case rel => exact ⟨j + 1, by omega, by go_num, HN3.out, by first | exact hbj | exact hbj.drew | exact below_drewN' hbj _⟩
                    case measure => simp [intOf]; omega
                · have he : j = k := by omega
                  subst he
                  have HN3 := hidden (HN2.out (fun i hi => hnj.out i hi hi))
                  clear hnj HFN HN2
                  go_wp2_with fail
                  go_roundw
                  case rel => exact ⟨j + 1, by omega, by go_num, HN3.out, hbj⟩
                  case measure => simp [intOf]; omega
      · have he : k = l.length := by omega
        subst he
        have HE : Hid (R = true) := HR.out.trans (solB_true HMB.out.symm (fun i hi => hno.out i hi hi))
        clear hno HR HA HMT HEN0
        go_wp2_with fail
        go_ret
        exact ⟨by rw [HE.out]; rfl, hbr⟩
end Go.Proofs.YtlfmefojcmpfeaaGreatDoor

/-! Wanted, as the program and the specification answer it: contracts for the walks; conditions: what comes in lies in memory, and holds at most 2 to the 20. -/
namespace Go.Proofs.YtlfmefojcmpfeaaGreatDoor
open Go.RowKit
set_option linter.unusedSimpArgs false
set_option linter.unusedVariables false

def allN (xs : List PackD) : List NeedD := xs.flatMap (·.needs)
theorem allN_take (xs : List PackD) (k : Nat) (h : k < xs.length) : allN (xs.take (k + 1)) = allN (xs.take k) ++ xs[k].needs := by
  unfold allN
  rw [List.take_succ_eq_append_getElem h, List.flatMap_append]; simp
theorem allN_wt : ∀ xs : List PackD, wtRow wtNeed (allN xs) ≤ wtRow wtPack xs
  | [] => by simp [allN, wtRow]
  | d :: xs => by
    have h1 := allN_wt xs
    have e1 : wtRow wtNeed (allN (d :: xs)) = wtRow wtNeed d.needs + wtRow wtNeed (allN xs) := by simp [allN, wtRow]
    have e2 : wtRow wtPack (d :: xs) = (1 + wtPack d) + wtRow wtPack xs := by simp [wtRow]
    have h2 : wtRow wtNeed d.needs ≤ wtPack d := by unfold wtPack; omega
    omega
theorem allN_len (xs : List PackD) (k : Nat) : (allN (xs.take k)).length ≤ wtRow wtPack xs := by
  have h1 := len_wtRow wtNeed (allN (xs.take k))
  have h2 := allN_wt (xs.take k)
  have h3 := wtRow_split wtPack xs k
  omega
theorem add_zero (g j : Nat) : (⟨g, 0, none⟩ : Addr).add j = ⟨g, j, none⟩ := by unfold Addr.add; split <;> simp_all
theorem owns_src {w : World} {lo n cap g : Nat} {e : TypeId} {sz : Nat} {xs : List Value} (h : w.ownsRow lo e sz (.slice (some ⟨g, 0, none⟩) n cap) n xs) : ∀ j u, xs[j]? = some u → w.cell? ((⟨g, 0, none⟩ : Addr).add j) = some u := fun j u hu => by
  have hj : j < n * sz := by
    have := (List.getElem?_eq_some_iff.1 hu).1
    have := h.1
    omega
  rw [add_zero, h.cellAt j hj]
  exact hu

set_option maxHeartbeats 4000000 in
set_option maxRecDepth 100000 in
theorem implWanted_c (S : Nat → Prop) (v : Value) (xs : List PackD) (w : World) (hv : RowIn shPack S w v xs) (hB : ∀ b, S b → b < w.heap.size) (hw : wtRow wtPack xs ≤ 1048576) :
    Calls Tryz.prog 131 #[v] w fun e w' => ∃ u', e = .returned u' ∧ w'.ownsRow w.heap.size 39 2 u' (allN xs).length (needsV (allN xs)) ∧ Below w.heap.size w w' := by
  obtain ⟨i0, hi, hz0, hz1, hz2⟩ := info_parts infoNeed
  have hwe : ∀ d ∈ xs, wtPack d ≤ 1048576 := fun d hd => Nat.le_trans (wt_wtRow wtPack hd) hw
  obtain ⟨av, cv, rfl, hl, hc, ha⟩ := hv
  unfold maxLen at hl
  go_enter Tryz.func131, Tryz.ntmps131
  go_wp2_with fail
  go_loopw [3, 8] (fun vx vi wr => ∃ (k m : Nat) (ys : List Value), k ≤ xs.length ∧ vi = .int .i64 (k : Int) ∧ Hid (m = (allN (xs.take k)).length ∧ ys = needsV (allN (xs.take k))) ∧ wr.ownsRow w.heap.size 39 2 vx m ys ∧ Below w.heap.size w wr) (fun _ vi _ => xs.length - (intOf vi).toNat)
  case atStart => exact ⟨0, 0, [], Nat.zero_le _, rfl, ⟨by simp [allN], by simp [allN, needsV]⟩, World.ownsRow_nil _ _ _ _, Below.refl _ _⟩
  case round =>
    obtain ⟨k, m, ys, hk, rfl, hmy, hown, hbr⟩ := hrel
    obtain ⟨qo, co, hvo⟩ := owns_sliceP hown
    subst hvo
    by_cases hlt' : k < xs.length
    · rcases ha with rfl | ⟨b, off, rfl, hlt, ha⟩
      · simp at hlt'
      obtain ⟨cs, hL, hcell⟩ := ha k hlt'
      have hcell2 := hcell.keep (.of hbr hB) hlt
      replace hL := shPack.keep (.of hbr hB) hL
      have hBr : ∀ b, S b → b < wr.heap.size := fun b h => Nat.lt_of_lt_of_le (hB b h) hbr.size
      have hwk := hwe xs[k] (List.getElem_mem hlt')
      have hn1 := allN_len xs (k + 1)
      have HT : Hid ((allN (xs.take (k + 1))).length = m + xs[k].needs.length ∧ needsV (allN (xs.take (k + 1))) = ys ++ needsV xs[k].needs) := ⟨by rw [allN_take xs k hlt', hmy.out.1, List.length_append], by rw [allN_take xs k hlt', hmy.out.2, needsV_append]⟩
      have hsum : m + xs[k].needs.length ≤ 1048576 := by have := HT.out.1; omega
      obtain ⟨d, hd⟩ : ∃ d, d = xs[k] := ⟨_, rfl⟩
      rw [← hd] at hL HT hwk hsum
      obtain ⟨u0, u1, u2, rfl, s_n, r0, p0, r1, r2⟩ := hL
      have hwn : wtRow wtNeed d.needs ≤ 1048576 := by unfold wtPack at hwk; omega
      have HV' : ∀ w1, Below wr.heap.size wr w1 → Calls Tryz.prog 147 #[u1] w1 fun e w' => ∃ u', e = .returned u' ∧ w'.ownsRow w1.heap.size 39 2 u' d.needs.length (needsV d.needs) ∧ Below w1.heap.size w1 w' := fun w1 h => copyNeeds_c S u1 d.needs w1 (r1.keep (.of h hBr)) (fun b hb => Nat.lt_of_lt_of_le (hBr b hb) h.size) hwn
      have HV := hidden HV'
      clear HV'
      obtain ⟨a0, c0, eu0, _⟩ := id r0
      rw [length_strsV] at eu0
      obtain ⟨a1, c1, eu1, _⟩ := id r1
      obtain ⟨a2, c2, eu2, _⟩ := id r2
      subst eu0 eu1 eu2
      have e0 : wr.cell? ⟨b, off + k * 4, none⟩ = some (.string d.name) := hcell2 0 (by simp)
      have e1 : wr.cell? ⟨b, off + k * 4 + 1, none⟩ = some (.slice a0 d.uses.length c0) := hcell2 1 (by simp)
      have e2 : wr.cell? ⟨b, off + k * 4 + 2, none⟩ = some (.slice a1 d.needs.length c1) := hcell2 2 (by simp)
      have e3 : wr.cell? ⟨b, off + k * 4 + 3, none⟩ = some (.slice a2 d.cmds.length c2) := hcell2 3 (by simp)
      have hki : (k : Int) < (xs.length : Int) := by omega
      have hb0 : Below wr.heap.size wr (wr.alloc (.cells #[.string d.name, .slice a0 d.uses.length c0, .slice a1 d.needs.length c1, .slice a2 d.cmds.length c2] 189 (0, 0))) := (Below.refl _ _).alloc (Nat.le_refl _) _
      have o0 := owns_of_belowN hown hb0
      have k0 := hbr.trans (hb0.mono hbr.size)
      clear ha hd hcell hcell2 r0 r1 r2 hown hmy hwk hn1
      go_wp2_with fail
      go_at_call 147
      refine (HV.out _ hb0).mono ?_
      rintro e w1 ⟨u', rfl, ho, b1⟩
      have k1 := k0.trans (b1.mono k0.size)
      have o1 := owns_of_belowN o0 b1
      clear HV o0 hb0 e0 e1 e2 e3
      rcases id ho.2 with ⟨rfl, hn0⟩ | ⟨g, cap, cur, rfl, _, _⟩
      · have HY : Hid (ys ++ needsV d.needs = ys ∧ m + d.needs.length = m) := by
          have hnil : d.needs = [] := List.eq_nil_of_length_eq_zero hn0
          exact ⟨by rw [hnil]; simp [needsV], by omega⟩
        clear ho
        go_wp2_with (at_builtin; refine wpList_append_own_none rfl _ _ 33 rfl w.heap.size 39 i0 2 Tryz.underlying33 hi _ m ys rfl o1 rfl ?_)
        go_wp2_with fail
        go_roundw
        case rel => exact ⟨k + 1, m, ys, by omega, by go_num, ⟨by rw [HT.out.1, HY.out.2], by rw [HT.out.2, HY.out.1]⟩, o1, k1⟩
        case measure => simp [intOf]; omega
      · have hsrc := owns_src ho
        have HSRC := hidden hsrc
        have hll : (needsV d.needs).length = d.needs.length * 2 := needsV_length _
        clear hsrc ho
        go_wp2_with (at_builtin; refine wpList_append_own _ rfl _ _ 33 rfl w.heap.size 39 i0 (.agg #[.string ⟨#[]⟩, .string ⟨#[]⟩]) 2 32 Tryz.underlying33 hi hz0 hz1 hz2 rfl (by decide) _ m ys rfl o1 ⟨g, 0, none⟩ d.needs.length cap (needsV d.needs) rfl hll HSRC.out (needsV_one d.needs) (by unfold maxLen; omega) (by omega) k1.size ?_)
        intro v3 w3 o3 gr3 _
        have hb3 : Below w.heap.size w w3 := Below.grown k1 gr3 k1.size (fun j hj => (o1.lt _ hj).1)
        go_wp2_with fail
        go_roundw
        case rel => exact ⟨k + 1, _, _, by omega, by go_num, ⟨HT.out.1.symm, HT.out.2.symm⟩, o3, hb3⟩
        case measure => simp [intOf]; omega
    · have he : k = xs.length := by omega
      subst he
      have HE : Hid (m = (allN xs).length ∧ ys = needsV (allN xs)) := by have := hmy.out; rw [List.take_length] at this; exact this
      have HO := hidden hown
      clear ha hmy hown
      go_wp2_with fail
      go_ret
      refine ⟨_, rfl, ?_, hbr⟩
      have := HO.out
      rw [HE.out.1, HE.out.2] at this
      rw [HE.out.1]
      exact this

set_option maxHeartbeats 4000000 in
set_option maxRecDepth 100000 in
theorem specWanted_c (S : Nat → Prop) (v : Value) (xs : List PackD) (w : World) (hv : RowIn shPackO S w v xs) (hB : ∀ b, S b → b < w.heap.size) (hw : wtRow wtPack xs ≤ 1048576) :
    Calls Tryz.prog 132 #[v] w fun e w' => ∃ u', e = .returned u' ∧ w'.ownsRow w.heap.size 39 2 u' (allN xs).length (needsV (allN xs)) ∧ Below w.heap.size w w' := by
  obtain ⟨i0, hi, hz0, hz1, hz2⟩ := info_parts infoNeed
  have hwe : ∀ d ∈ xs, wtPack d ≤ 1048576 := fun d hd => Nat.le_trans (wt_wtRow wtPack hd) hw
  obtain ⟨av, cv, rfl, hl, hc, ha⟩ := hv
  unfold maxLen at hl
  have hbx : Below w.heap.size w (w.alloc (.cells #[] 39)) := (Below.refl _ _).alloc (Nat.le_refl _) _
  have hg0 : (w.alloc (.cells #[] 39)).ownsRow w.heap.size 39 2 (.slice (some ⟨w.heap.size, 0, none⟩) 0 0) 0 [] := World.ownsRow_lit w #[] 0 (Nat.le_refl _) (by unfold maxLen; omega) rfl
  go_enter Tryz.func132, Tryz.ntmps132
  go_wp2_with fail
  go_loopw [3, 4] (fun vx vi wr => ∃ (k m : Nat) (ys : List Value), k ≤ xs.length ∧ vi = .int .i64 (k : Int) ∧ Hid (m = (allN (xs.take k)).length ∧ ys = needsV (allN (xs.take k))) ∧ wr.ownsRow w.heap.size 39 2 vx m ys ∧ Below w.heap.size w wr) (fun _ vi _ => xs.length - (intOf vi).toNat)
  case atStart => exact ⟨0, 0, [], Nat.zero_le _, rfl, ⟨by simp [allN], by simp [allN, needsV]⟩, hg0, hbx⟩
  case round =>
    clear hbx hg0
    obtain ⟨k, m, ys, hk, rfl, hmy, hown, hbr⟩ := hrel
    obtain ⟨qo, co, hvo⟩ := owns_sliceP hown
    subst hvo
    by_cases hlt' : k < xs.length
    · rcases ha with rfl | ⟨b, off, rfl, hlt, ha⟩
      · simp at hlt'
      obtain ⟨cs, hL, hcell⟩ := ha k hlt'
      have hcell2 := hcell.keep (.of hbr hB) hlt
      replace hL := shPackO.keep (.of hbr hB) hL
      have hn1 := allN_len xs (k + 1)
      have HT : Hid ((allN (xs.take (k + 1))).length = m + xs[k].needs.length ∧ needsV (allN (xs.take (k + 1))) = ys ++ needsV xs[k].needs) := ⟨by rw [allN_take xs k hlt', hmy.out.1, List.length_append], by rw [allN_take xs k hlt', hmy.out.2, needsV_append]⟩
      have hsum : m + xs[k].needs.length ≤ 1048576 := by have := HT.out.1; omega
      obtain ⟨d, hd⟩ : ∃ d, d = xs[k] := ⟨_, rfl⟩
      rw [← hd] at hL HT hsum
      obtain ⟨u0, u1, u2, rfl, s_n, r0, p0, r1, r2⟩ := hL
      obtain ⟨_, yn, hyn, _, hLd⟩ := r1
      have hyN := laid_needs hLd hyn.1
      subst hyN
      have e2 : wr.cell? ⟨b, off + k * 4 + 2, none⟩ = some u1 := hcell2 2 (by simp)
      have hki : (k : Int) < (xs.length : Int) := by omega
      clear ha hd hcell hcell2 r0 r2 hmy hn1 hLd
      have ho : wr.ownsRow 0 39 2 u1 d.needs.length (needsV d.needs) := hyn
      clear hyn
      rcases id ho.2 with ⟨rfl, hn0⟩ | ⟨g, cap, cur, rfl, _, _⟩
      · have HY : Hid (ys ++ needsV d.needs = ys ∧ m + d.needs.length = m) := by
          have hnil : d.needs = [] := List.eq_nil_of_length_eq_zero hn0
          exact ⟨by rw [hnil]; simp [needsV], by omega⟩
        clear ho
        go_wp2_with (at_builtin; refine wpList_append_own_none rfl _ _ 33 rfl w.heap.size 39 i0 2 Tryz.underlying33 hi _ m ys rfl hown rfl ?_)
        go_wp2_with fail
        go_roundw
        case rel => exact ⟨k + 1, m, ys, by omega, by go_num, ⟨by rw [HT.out.1, HY.out.2], by rw [HT.out.2, HY.out.1]⟩, hown, hbr⟩
        case measure => simp [intOf]; omega
      · have hsrc := owns_src ho
        have HSRC := hidden hsrc
        have hll : (needsV d.needs).length = d.needs.length * 2 := needsV_length _
        clear hsrc ho
        go_wp2_with (at_builtin; refine wpList_append_own _ rfl _ _ 33 rfl w.heap.size 39 i0 (.agg #[.string ⟨#[]⟩, .string ⟨#[]⟩]) 2 32 Tryz.underlying33 hi hz0 hz1 hz2 rfl (by decide) _ m ys rfl hown ⟨g, 0, none⟩ d.needs.length cap (needsV d.needs) rfl hll HSRC.out (needsV_one d.needs) (by unfold maxLen; omega) (by omega) hbr.size ?_)
        intro v3 w3 o3 gr3 _
        have hb3 : Below w.heap.size w w3 := Below.grown hbr gr3 hbr.size (fun j hj => (hown.lt _ hj).1)
        go_wp2_with fail
        go_roundw
        case rel => exact ⟨k + 1, _, _, by omega, by go_num, ⟨HT.out.1.symm, HT.out.2.symm⟩, o3, hb3⟩
        case measure => simp [intOf]; omega
    · have he : k = xs.length := by omega
      subst he
      have HE : Hid (m = (allN xs).length ∧ ys = needsV (allN xs)) := by have := hmy.out; rw [List.take_length] at this; exact this
      have HO := hidden hown
      clear ha hmy hown
      go_wp2_with fail
      go_ret
      refine ⟨_, rfl, ?_, hbr⟩
      have := HO.out
      rw [HE.out.1, HE.out.2] at this
      rw [HE.out.1]
      exact this
end Go.Proofs.YtlfmefojcmpfeaaGreatDoor

/-! Marks put into rows of needs, and found again, as the law does it: contracts for the walks; conditions: the rows lie in memory, may be written, and there are at most 2 to the 32 marks. -/
namespace Go.Proofs.YtlfmefojcmpfeaaGreatDoor
open Go.RowKit
set_option linter.unusedSimpArgs false
set_option linter.unusedVariables false

set_option maxHeartbeats 2000000 in
set_option maxRecDepth 100000 in
theorem markNeedV_c (v : Value) (base n k : Nat) (xs : List Value) (w : World) (hv : w.ownsRow base 39 2 v n xs) (h1 : 1 ≤ k) (h2 : k + n * 2 ≤ 4294967296) :
    Calls Tryz.prog 63 #[v, .int .i64 (k : Int)] w fun e w' => e = .returned (.int .i64 ((k + n * 2 : Nat) : Int)) ∧ w'.ownsRow base 39 2 v n (strsV (marksS k (n * 2))) ∧ w.grownBy w' v.ownBlock := by
  rcases id hv.2 with ⟨rfl, rfl⟩ | ⟨g, cap, cur, rfl, _, hgb, hcap, hmax, _⟩
  · have hx : xs = [] := List.eq_nil_of_length_eq_zero (by simpa using hv.1)
    subst hx
    have HV := hidden hv
    clear hv
    go_enter Tryz.func63, Tryz.ntmps63
    go_wp2_with fail
    go_loopw [1, 5] (fun vk vi wr => vk = .int .i64 (k : Int) ∧ vi = .int .i64 0 ∧ wr = w) (fun _ _ _ => 0)
    case atStart => exact ⟨rfl, rfl, rfl⟩
    case round =>
      obtain ⟨rfl, rfl, rfl⟩ := hrel
      go_wp2_with fail
      go_ret
      exact ⟨by simp, HV.out, World.grownBy.refl _ _⟩
  · unfold maxLen at hmax
    have hl := hv.1
    clear hgb
    go_enter Tryz.func63, Tryz.ntmps63
    go_wp2_with fail
    go_loopw [1, 5] (fun vk vi wr => ∃ (i m : Nat) (ys : List Value), i ≤ n ∧ vi = .int .i64 (i : Int) ∧ vk = .int .i64 (m : Int) ∧ Hid (m = k + i * 2) ∧ wr.ownsRow base 39 2 (.slice (some ⟨g, 0, none⟩) n cap) n ys ∧ Hid (ys.length = n * 2 ∧ ∀ j, j < i * 2 → ys[j]? = (strsV (marksS k (n * 2)))[j]?) ∧ Hid (w.grownBy wr (some g))) (fun _ vi _ => n - (intOf vi).toNat)
    case atStart => exact ⟨0, k, xs, Nat.zero_le _, rfl, rfl, by show _ = _; omega, hv, ⟨hl, fun j hj => by omega⟩, World.grownBy.refl _ _⟩
    case round =>
      obtain ⟨i, m, ys, hi, rfl, rfl, hm, hown, hy, hgr⟩ := hrel
      by_cases hlt : i < n
      · have hlen := hown.1
        have hm2 : m + 2 ≤ 4294967296 := by have := hm.out; omega
        have hm1 : 1 ≤ m := by have := hm.out; omega
        have hki : (i : Int) < (n : Int) := by omega
        have HO := hidden hown
        have HM1 := hidden (fun w1 => markText_c m w1 (by omega) (by omega))
        have HM2 : Hid (∀ w1, Calls Tryz.prog 141 #[.int .i64 ((m : Int) + 1)] w1 fun e w' => e = .returned (.string (markStr (m + 1))) ∧ Below w1.heap.size w1 w') := fun w1 => by
          have := markText_c (m + 1) w1 (by omega) (by omega)
          rw [show ((m + 1 : Nat) : Int) = (m : Int) + 1 by omega] at this
          exact this
        have HY1 : Hid ((ys.set (i * 2) (.string (markStr m))).length = n * 2 ∧ ∀ j, j < i * 2 + 1 → (ys.set (i * 2) (.string (markStr m)))[j]? = (strsV (marksS k (n * 2)))[j]?) := set_step (by omega) hy.out (by rw [marksS_at _ _ _ (by omega), hm.out])
        have HY2 : Hid (((ys.set (i * 2) (.string (markStr m))).set (i * 2 + 1) (.string (markStr (m + 1)))).length = n * 2 ∧ ∀ j, j < i * 2 + 1 + 1 → ((ys.set (i * 2) (.string (markStr m))).set (i * 2 + 1) (.string (markStr (m + 1))))[j]? = (strsV (marksS k (n * 2)))[j]?) := set_step (by omega) HY1.out (by rw [marksS_at _ _ _ (by omega), hm.out]; congr 3)
        clear hown hv hy HY1
        go_wp2_with fail
        go_at_call 141
        refine (HM1.out _).mono ?_
        rintro e w1 ⟨rfl, b1⟩
        have r1 := HO.out.kept (grown_of_below b1 none) (by simp [Value.ownBlock])
        have d0 : ∃ x, w1.cell? ⟨g, i * 2, none⟩ = some x := ⟨ys.getD (i * 2) undef, by rw [r1.cellAt _ (by omega)]; simp [List.getD_eq_getElem?_getD, show i * 2 < ys.length by omega]⟩
        obtain ⟨x0, d0⟩ := d0
        have f1 := r1.frozenAt
        have r2 := r1.stored (i * 2) (.string (markStr m))
        have HR2 := hidden r2
        clear r1 r2
        go_wp2_with fail
        go_at_call 141
        refine (HM2.out _).mono ?_
        rintro e w2 ⟨rfl, b2⟩
        have r3 := HR2.out.1.kept (grown_of_below b2 none) (by simp [Value.ownBlock])
        have hl3 := r3.1
        have d1 : ∃ x, w2.cell? ⟨g, i * 2 + 1, none⟩ = some x := ⟨(ys.set (i * 2) (.string (markStr m))).getD (i * 2 + 1) undef, by rw [r3.cellAt _ (by omega)]; simp [List.getD_eq_getElem?_getD, show i * 2 + 1 < ys.length by omega]⟩
        obtain ⟨x1, d1⟩ := d1
        have f2 := r3.frozenAt
        have r4 := r3.stored (i * 2 + 1) (.string (markStr (m + 1)))
        have HR4 := hidden r4
        have HG := hidden (grown_trans (grown_trans (grown_trans (grown_trans hgr.out (grown_of_below b1 _)) HR2.out.2) (grown_of_below b2 _)) r4.2)
        clear r3 r4
        go_wp2_with fail
        go_roundw
        case rel => exact ⟨i + 1, m + 2, _, by omega, by go_num, by simp; omega, (by show _ = _; have := hm.out; omega), HR4.out.1, ⟨HY2.out.1, fun j hj => HY2.out.2 j (by omega)⟩, HG⟩
        case measure => simp [intOf]; omega
      · have he : i = n := by omega
        subst he
        have HMM := hidden hm.out
        have e : ys = strsV (marksS k (i * 2)) := list_done hy.out.1 (by simp) hy.out.2
        have HE := hidden e
        have HO := hidden hown
        clear hown hv e
        go_wp2_with fail
        go_ret
        refine ⟨by rw [← HMM.out]; rfl, ?_, hgr.out⟩
        rw [← HE.out]
        exact HO.out

end Go.Proofs.YtlfmefojcmpfeaaGreatDoor

/-! Marks put into rows of packs, as the law puts them: a contract for the walks; conditions: the rows lie in memory, may be written, and there are at most 2 to the 32 marks. -/
namespace Go.Proofs.YtlfmefojcmpfeaaGreatDoor
open Go.RowKit
set_option linter.unusedSimpArgs false
set_option linter.unusedVariables false

/-- What stays where marks are put into texts, and into rows of commands. -/
structure InvC (I : World → Prop) : Prop where
  below : ∀ w w', I w → Below w.heap.size w w' → I w'
  cmd : ∀ w g i n cap zs x, I w → w.ownsRow 0 305 2 (.slice (some ⟨g, 0, none⟩) n cap) n zs → I (w.setCell ⟨g, i * 2, none⟩ (.string x))
  strs : ∀ w w' u n z z', I w → w.ownsRow 0 9 1 u n z → w'.ownsRow 0 9 1 u n z' → w.grownBy w' u.ownBlock → I w'

theorem own_putP {w : World} {lo lo' sz sz' n n' g j cap : Nat} {e e' : TypeId} {u x : Value} {zs ys : List Value} (h : w.ownsRow lo e sz u n zs) (hg : w.ownsRow lo' e' sz' (.slice (some ⟨g, 0, none⟩) n' cap) n' ys) (hne : e ≠ e') : (w.setCell ⟨g, j, none⟩ x).ownsRow lo e sz u n zs := by
  refine owns_kept (S := fun b => b ≠ g) (Kp.set (fun k => k rfl)) (fun g' hg' => ?_) h
  rintro rfl
  rcases owns_apart h hg hne with k | k
  · rw [k] at hg'; cases hg'
  · exact k (by rw [hg']; rfl)
theorem owns_setAny {w : World} {lo sz n : Nat} {e : TypeId} {u : Value} {zs : List Value} (h : w.ownsRow lo e sz u n zs) (g j : Nat) (x : Value) : ∃ zs', (w.setCell ⟨g, j, none⟩ x).ownsRow lo e sz u n zs' ∧ (zs' = zs ∨ zs' = zs.set j x) := by
  by_cases hg : u.ownBlock = some g
  · rcases id h.2 with ⟨rfl, _⟩ | ⟨g2, c2, cur2, rfl, _⟩
    · simp [Value.ownBlock] at hg
    · simp [Value.ownBlock] at hg
      subst hg
      exact ⟨_, (h.stored j x).1, .inr rfl⟩
  · exact ⟨zs, owns_kept (S := fun b => b ≠ g) (Kp.set (fun k => k rfl)) (fun g' hg' => by rintro rfl; exact hg hg') h, .inl rfl⟩
theorem CmdRows.put {w : World} {S : Nat → Prop} {ys : List Value} {ns : List Nat} {lo' sz' n' g j cap : Nat} {e' : TypeId} {zs : List Value} {x : Value} (h : CmdRows w S ys ns) (hg : w.ownsRow lo' e' sz' (.slice (some ⟨g, 0, none⟩) n' cap) n' zs) (hne : 9 ≠ e') : CmdRows (w.setCell ⟨g, j, none⟩ x) S ys ns := fun i hi => by
  obtain ⟨u, xs, h1, h2, h3⟩ := h i hi
  exact ⟨u, xs, h1, own_putP h2 hg hne, h3⟩
theorem CmdRows.overS {w w' : World} {S : Nat → Prop} {ys : List Value} {ns : List Nat} {u : Value} {n : Nat} {z z' : List Value} (h : CmdRows w S ys ns) (h0 : w.ownsRow 0 9 1 u n z) (h1 : w'.ownsRow 0 9 1 u n z') (hg : w.grownBy w' u.ownBlock) : CmdRows w' S ys ns := fun i hi => by
  obtain ⟨u', xs', a1, a2, a3⟩ := h i hi
  obtain ⟨zs', a4⟩ := owns_over a2 h0 h1 hg (by omega)
  exact ⟨u', zs', a1, a4, a3⟩
theorem CmdRows.overN {w w' : World} {S : Nat → Prop} {ys : List Value} {ns : List Nat} {u : Value} {n : Nat} {z : List Value} (h : CmdRows w S ys ns) (h0 : w.ownsRow 0 39 2 u n z) (hg : w.grownBy w' u.ownBlock) : CmdRows w' S ys ns := fun i hi => by
  obtain ⟨u', xs', a1, a2, a3⟩ := h i hi
  exact ⟨u', xs', a1, a2.kept hg (owns_apart a2 h0 (by decide)), a3⟩
/-- The rows of a row of packs: each may be written. -/
def PackRows (w : World) (S : Nat → Prop) (ys : List Value) (xs : List PackD) : Prop := ∀ i (h : i < xs.length), ∃ u0 u1 u2 z0 z1 z2, ys[i * 4 + 1]? = some u0 ∧ ys[i * 4 + 2]? = some u1 ∧ ys[i * 4 + 3]? = some u2 ∧ w.ownsRow 0 9 1 u0 xs[i].uses.length z0 ∧ (∀ g, u0.ownBlock = some g → S g) ∧ w.ownsRow 0 39 2 u1 xs[i].needs.length z1 ∧ (∀ g, u1.ownBlock = some g → S g) ∧ w.ownsRow 0 305 2 u2 xs[i].cmds.length z2 ∧ (∀ g, u2.ownBlock = some g → S g) ∧ CmdRows w S z2 (xs[i].cmds.map fun c => c.acts.length)
theorem PackRows.set {w : World} {S : Nat → Prop} {ys : List Value} {xs : List PackD} (h : PackRows w S ys xs) (i : Nat) (v : Value) : PackRows w S (ys.set (i * 4) v) xs := fun j hj => by
  obtain ⟨u0, u1, u2, z0, z1, z2, h1, h2, h3, h4⟩ := h j hj
  exact ⟨u0, u1, u2, z0, z1, z2, by rw [List.getElem?_set_ne (by omega)]; exact h1, by rw [List.getElem?_set_ne (by omega)]; exact h2, by rw [List.getElem?_set_ne (by omega)]; exact h3, h4⟩
theorem owns_belowP {w w' : World} {lo sz n : Nat} {e : TypeId} {u : Value} {zs : List Value} (h : w.ownsRow lo e sz u n zs) (hb : Below w.heap.size w w') : w'.ownsRow lo e sz u n zs := owns_kept (S := fun b => b < w.heap.size) (.of hb (fun b h => h)) (fun g hg => (owns_in h g hg).2) h
theorem PackRows.below {w w' : World} {S : Nat → Prop} {ys : List Value} {xs : List PackD} (h : PackRows w S ys xs) (hb : Below w.heap.size w w') : PackRows w' S ys xs := fun j hj => by
  obtain ⟨u0, u1, u2, z0, z1, z2, h1, h2, h3, a0, i0, a1, i1, a2, i2, c⟩ := h j hj
  exact ⟨u0, u1, u2, z0, z1, z2, h1, h2, h3, owns_belowP a0 hb, i0, owns_belowP a1 hb, i1, owns_belowP a2 hb, i2, c.below hb⟩
theorem PackRows.store {w : World} {S : Nat → Prop} {ys : List Value} {xs : List PackD} {g j n cap : Nat} {zs : List Value} {x : Value} (h : PackRows w S ys xs) (hg : w.ownsRow 0 189 4 (.slice (some ⟨g, 0, none⟩) n cap) n zs) : PackRows (w.setCell ⟨g, j, none⟩ x) S ys xs := fun i hi => by
  obtain ⟨u0, u1, u2, z0, z1, z2, h1, h2, h3, a0, i0, a1, i1, a2, i2, c⟩ := h i hi
  exact ⟨u0, u1, u2, z0, z1, z2, h1, h2, h3, own_putP a0 hg (by decide), i0, own_putP a1 hg (by decide), i1, own_putP a2 hg (by decide), i2, c.put hg (by decide)⟩
theorem PackRows.cmd {w : World} {S : Nat → Prop} {ys : List Value} {xs : List PackD} {g i n cap : Nat} {zs : List Value} {x : ByteArray} (h : PackRows w S ys xs) (hg : w.ownsRow 0 305 2 (.slice (some ⟨g, 0, none⟩) n cap) n zs) : PackRows (w.setCell ⟨g, i * 2, none⟩ (.string x)) S ys xs := fun j hj => by
  obtain ⟨u0, u1, u2, z0, z1, z2, h1, h2, h3, a0, i0, a1, i1, a2, i2, c⟩ := h j hj
  obtain ⟨z3, a3, hz⟩ := owns_setAny a2 g (i * 2) (.string x)
  refine ⟨u0, u1, u2, z0, z1, z3, h1, h2, h3, own_putP a0 hg (by decide), i0, own_putP a1 hg (by decide), i1, a3, i2, ?_⟩
  rcases hz with rfl | rfl
  · exact c.store hg
  · exact (c.store hg).set0 i _
theorem PackRows.overS {w w' : World} {S : Nat → Prop} {ys : List Value} {xs : List PackD} {u : Value} {n : Nat} {z z' : List Value} (h : PackRows w S ys xs) (h0 : w.ownsRow 0 9 1 u n z) (h1 : w'.ownsRow 0 9 1 u n z') (hg : w.grownBy w' u.ownBlock) : PackRows w' S ys xs := fun i hi => by
  obtain ⟨u0, u1, u2, z0, z1, z2, e1, e2, e3, a0, i0, a1, i1, a2, i2, c⟩ := h i hi
  obtain ⟨z9, a9⟩ := owns_over a0 h0 h1 hg (by omega)
  exact ⟨u0, u1, u2, z9, z1, z2, e1, e2, e3, a9, i0, a1.kept hg (owns_apart a1 h0 (by decide)), i1, a2.kept hg (owns_apart a2 h0 (by decide)), i2, c.overS h0 h1 hg⟩
theorem PackRows.overN {w w' : World} {S : Nat → Prop} {ys : List Value} {xs : List PackD} {u : Value} {n : Nat} {z z' : List Value} (h : PackRows w S ys xs) (h0 : w.ownsRow 0 39 2 u n z) (h1 : w'.ownsRow 0 39 2 u n z') (hg : w.grownBy w' u.ownBlock) : PackRows w' S ys xs := fun i hi => by
  obtain ⟨u0, u1, u2, z0, z1, z2, e1, e2, e3, a0, i0, a1, i1, a2, i2, c⟩ := h i hi
  obtain ⟨z9, a9⟩ := owns_over a1 h0 h1 hg (by omega)
  exact ⟨u0, u1, u2, z0, z9, z2, e1, e2, e3, a0.kept hg (owns_apart a0 h0 (by decide)), i0, a9, i1, a2.kept hg (owns_apart a2 h0 (by decide)), i2, c.overN h0 hg⟩
theorem packRows_of {S : Nat → Prop} {w : World} {ys : List Value} {xs : List PackD} (h : Laid shPackO S w ys xs xs.length) : PackRows w S ys xs := fun i hi => by
  obtain ⟨cs, h1, ⟨u0, u1, u2, rfl, _, r0, _, r1, r2⟩, h4⟩ := h i hi hi
  obtain ⟨_, y1, o1, in1, _⟩ := r1
  obtain ⟨_, y2, o2, in2, la2⟩ := r2
  exact ⟨u0, u1, u2, _, _, _, h4 1 (by simp), h4 2 (by simp), h4 3 (by simp), r0.1, r0.2, o1, in1, o2, in2, cmdRows_of la2⟩
/-- A row of packs, and the rows in it. -/
def InPack (S : Nat → Prop) (v : Value) (ys : List Value) (xs : List PackD) (w : World) : Prop := w.ownsRow 0 189 4 v xs.length ys ∧ PackRows w S ys xs
theorem inPack_inv (S : Nat → Prop) (v : Value) (ys : List Value) (xs : List PackD) : InvC (InPack S v ys xs) where
  below w w' h hb := ⟨owns_belowP h.1 hb, h.2.below hb⟩
  cmd w g i n cap zs x h hg := ⟨own_putP h.1 hg (by decide), h.2.cmd hg⟩
  strs w w' u n z z' h h0 h1 hg := ⟨h.1.kept hg (owns_apart h.1 h0 (by decide)), h.2.overS h0 h1 hg⟩
def cntK (d : PackD) : Nat := 1 + d.uses.length + d.needs.length * 2 + ((d.cmds.map fun c => c.acts.length).length + (d.cmds.map fun c => c.acts.length).sum)
def cntKs (xs : List PackD) : Nat := (xs.map cntK).sum
theorem cntKs_take (xs : List PackD) (i : Nat) (h : i < xs.length) : cntKs (xs.take (i + 1)) = cntKs (xs.take i) + cntK xs[i] := by
  unfold cntKs
  rw [List.take_succ_eq_append_getElem h, List.map_append, List.sum_append]; simp
theorem cntKs_le (xs : List PackD) (i : Nat) : cntKs (xs.take i) ≤ cntKs xs := by
  unfold cntKs
  conv => rhs; rw [← List.take_append_drop i xs, List.map_append, List.sum_append]
  omega
theorem cntK_wt (d : PackD) : cntK d ≤ 4 * (1 + wtPack d) := by
  have h1 := len_wtRow wtNeed d.needs
  have h2 := cmds_sum d.cmds
  unfold cntK wtPack bulkS
  omega
theorem cntKs_wt : ∀ xs : List PackD, cntKs xs ≤ 4 * wtRow wtPack xs
  | [] => by simp [cntKs]
  | d :: xs => by
    have h1 := cntKs_wt xs
    have h2 := cntK_wt d
    have e1 : cntKs (d :: xs) = cntK d + cntKs xs := by simp [cntKs]
    have e2 : wtRow wtPack (d :: xs) = (1 + wtPack d) + wtRow wtPack xs := by simp [wtRow]
    omega

end Go.Proofs.YtlfmefojcmpfeaaGreatDoor

/-! How much needs hold, as the law counts it: contracts for the walks; conditions: at most 2 to the 20 is left to count. -/
namespace Go.Proofs.YtlfmefojcmpfeaaGreatDoor
open Go.RowKit
set_option linter.unusedSimpArgs false
set_option linter.unusedVariables false

set_option maxHeartbeats 2000000 in
set_option maxRecDepth 100000 in
theorem szNeed_c (S : Nat → Prop) (d : NeedD) (cs : List Value) (left : Int) (h0 : 0 ≤ left) (h1 : left ≤ 1048576) (w : World) (hd : shNeed.lies S w cs d) (hB : ∀ b, S b → b < w.heap.size) :
    Calls Tryz.prog 135 #[.agg cs.toArray, .int .i64 left] w fun e w' => e = .returned (.int .i64 (leftW (wtNeed d) left)) ∧ Below w.heap.size w w' := by
  obtain ⟨rfl, s_n, s_r⟩ := hd
  unfold maxLen at s_n
  unfold maxLen at s_r
  have hbx : ∀ o, Below w.heap.size w (w.alloc o) := fun o => (Below.refl _ _).alloc (Nat.le_refl _) _
  obtain ⟨R, hR⟩ : ∃ R, R = leftW (wtNeed d) left := ⟨_, rfl⟩
  rw [← hR]
  have lt := lw (wtNeed d) left
  rw [← hR] at lt
  unfold wtNeed at lt
  clear hR
  by_cases n0 : (left - (d.n.size : Int)) < 0
  · have HR : Hid (R = -1) := by show _ = _; omega
    clear lt 
    go_enter Tryz.func135, Tryz.ntmps135
    go_wp2_with fail
    go_ret
    exact ⟨by rw [HR.out]; rfl, (hbx _)⟩
  by_cases n1 : ((left - (d.n.size : Int)) - (d.r.size : Int)) < 0
  · have HR : Hid (R = -1) := by show _ = _; omega
    clear lt 
    go_enter Tryz.func135, Tryz.ntmps135
    go_wp2_with fail
    go_ret
    exact ⟨by rw [HR.out]; rfl, (hbx _)⟩
  have HR : Hid (R = ((left - (d.n.size : Int)) - (d.r.size : Int))) := by show _ = _; omega
  clear lt 
  go_enter Tryz.func135, Tryz.ntmps135
  go_wp2_with fail
  go_ret
  exact ⟨by rw [HR.out]; rfl, (hbx _)⟩

set_option maxHeartbeats 2000000 in
set_option maxRecDepth 100000 in
theorem szNeedS_c (S : Nat → Prop) (v : Value) (xs : List NeedD) (left : Int) (h0 : 0 ≤ left) (h1 : left ≤ 1048576) (w : World) (hv : RowIn shNeed S w v xs) (hB : ∀ b, S b → b < w.heap.size) :
    Calls Tryz.prog 56 #[v, .int .i64 left] w fun e w' => e = .returned (.int .i64 (leftW (wtRow wtNeed xs) left)) ∧ Below w.heap.size w w' := by
  obtain ⟨a, cap, rfl, hl, hc, ha⟩ := hv
  unfold maxLen at hl
  by_cases hneg : left - (xs.length : Int) < 0
  · have e : leftW (wtRow wtNeed xs) left = -1 := leftW_bad (by have := len_wtRow wtNeed xs; omega)
    rw [e]
    clear ha
    go_enter Tryz.func56, Tryz.ntmps56
    go_wp2_with fail
    go_ret
    exact ⟨rfl, Below.refl _ _⟩
  · go_enter Tryz.func56, Tryz.ntmps56
    go_wp2_with fail
    go_loopw [1, 5] (fun vl vi wr => ∃ (k : Nat) (q : Int), k ≤ xs.length ∧ vi = .int .i64 (k : Int) ∧ vl = .int .i64 q ∧ 0 ≤ q ∧ q ≤ 1048576 ∧ Hid (q = left - (xs.length : Int) - (wtRow wtNeed (xs.take k) : Int) + (k : Int)) ∧ Below w.heap.size w wr) (fun _ vi _ => xs.length - (intOf vi).toNat)
    case atStart => exact ⟨0, _, Nat.zero_le _, rfl, rfl, by omega, by omega, by show _ = _; simp [wtRow], Below.refl _ _⟩
    case round =>
      obtain ⟨k, q, hk, rfl, rfl, hq0, hq1, hq, hbr⟩ := hrel
      by_cases hlt' : k < xs.length
      · rcases ha with rfl | ⟨b, off, rfl, hlt, ha⟩
        · simp at hlt'
        obtain ⟨cs, hL, hcell⟩ := ha k hlt'
        have hL2 := shNeed.keep (.of hbr hB) hL
        have hcell2 := hcell.keep (.of hbr hB) hlt
        have hBr : ∀ b, S b → b < wr.heap.size := fun b h => Nat.lt_of_lt_of_le (hB b h) hbr.size
        have hwt := wtRow_take wtNeed xs k hlt'
        have hsp := wtRow_split wtNeed xs (k + 1)
        have hln := len_wtRow wtNeed (xs.drop (k + 1))
        have hdl : (xs.drop (k + 1)).length = xs.length - (k + 1) := by simp
        obtain ⟨d, hd⟩ : ∃ d, d = xs[k] := ⟨_, rfl⟩
        rw [← hd] at hL2 hwt
        have HW : Hid (wtRow wtNeed (xs.take (k + 1)) = wtRow wtNeed (xs.take k) + (1 + wtNeed d)) := hwt
        have HSP : Hid (wtRow wtNeed xs = wtRow wtNeed (xs.take (k + 1)) + wtRow wtNeed (xs.drop (k + 1)) ∧ xs.length - (k + 1) ≤ wtRow wtNeed (xs.drop (k + 1))) := ⟨hsp, by omega⟩
        have hki : (k : Int) < (xs.length : Int) := by omega
        obtain ⟨p, hp⟩ : ∃ p, p = leftW (wtNeed d) q := ⟨_, rfl⟩
        have HP : Hid (p = leftW (wtNeed d) q) := hp
        have HC := szNeed_c S d cs q hq0 hq1 wr hL2 hBr
        rw [← hp] at HC
        clear hL hcell ha hwt hd hp hsp hln hdl
        obtain ⟨rfl, s_n, s_r⟩ := hL2
        clear s_n s_r
        have e0 : wr.cell? ⟨b, off + k * 2, none⟩ = some (.string d.n) := hcell2 0 (by simp)
        have e1 : wr.cell? ⟨b, off + k * 2 + 1, none⟩ = some (.string d.r) := hcell2 1 (by simp)
        have HC2 := hidden HC
        clear hcell2 HC
        by_cases hpn : p < 0
        · go_wp2_with (go_at_call 135; refine HC2.out.mono ?_; rintro e w1 ⟨rfl, hb1⟩)
          go_ret
          have e : leftW (wtRow wtNeed xs) left = -1 := by
            have h2 := HP.out; have h3 := hq.out; have h4 := HW.out; have h5 := HSP.out
            refine leftW_bad ?_
            by_cases h6 : ((wtNeed d : Nat) : Int) ≤ q
            · rw [leftW_good h6] at h2; omega
            · omega
          exact ⟨by rw [e]; rfl, hbr.trans (hb1.mono hbr.size)⟩
        · go_wp2_with (go_at_call 135; refine HC2.out.mono ?_; rintro e w1 ⟨rfl, hb1⟩)
          go_roundw
          case rel =>
            have h2 := HP.out; have h3 := hq.out; have h4 := HW.out
            have h6 : ((wtNeed d : Nat) : Int) ≤ q := by
              by_cases h6 : ((wtNeed d : Nat) : Int) ≤ q
              · exact h6
              · rw [leftW_bad (by omega)] at h2; omega
            rw [leftW_good h6] at h2
            exact ⟨k + 1, p, by omega, by go_num, rfl, by omega, by omega, (by show _ = _; omega), hbr.trans (hb1.mono hbr.size)⟩
          case measure => simp [intOf]; omega
      · have he : k = xs.length := by omega
        subst he
        clear ha
        go_wp2_with fail
        go_ret
        have e : leftW (wtRow wtNeed xs) left = q := by
          have h3 := hq.out
          rw [List.take_length] at h3
          rw [leftW_good (by omega)]; omega
        exact ⟨by rw [e]; rfl, hbr⟩

end Go.Proofs.YtlfmefojcmpfeaaGreatDoor

/-! How much cmds hold, as the law counts it: contracts for the walks; conditions: at most 2 to the 20 is left to count. -/
namespace Go.Proofs.YtlfmefojcmpfeaaGreatDoor
open Go.RowKit
set_option linter.unusedSimpArgs false
set_option linter.unusedVariables false

set_option maxHeartbeats 2000000 in
set_option maxRecDepth 100000 in
theorem szCmd_c (S : Nat → Prop) (d : CmdD) (cs : List Value) (left : Int) (h0 : 0 ≤ left) (h1 : left ≤ 1048576) (w : World) (hd : shCmd.lies S w cs d) (hB : ∀ b, S b → b < w.heap.size) :
    Calls Tryz.prog 263 #[.agg cs.toArray, .int .i64 left] w fun e w' => e = .returned (.int .i64 (leftW (wtCmd d) left)) ∧ Below w.heap.size w w' := by
  obtain ⟨u0, rfl, s_t, r0, p0⟩ := hd
  unfold maxLen at s_t
  have hbx : ∀ o, Below w.heap.size w (w.alloc o) := fun o => (Below.refl _ _).alloc (Nat.le_refl _) _
  obtain ⟨R, hR⟩ : ∃ R, R = leftW (wtCmd d) left := ⟨_, rfl⟩
  rw [← hR]
  obtain ⟨q0, hq0⟩ : ∃ q, q = leftW (bulkS d.acts) (left - (d.t.size : Int)) := ⟨_, rfl⟩
  have HS0 : Hid (0 ≤ (left - (d.t.size : Int)) → (left - (d.t.size : Int)) ≤ 1048576 → ∀ w1, Below w.heap.size w w1 → Calls Tryz.prog 206 #[u0, .int .i64 (left - (d.t.size : Int))] w1 fun e w' => e = .returned (.int .i64 q0) ∧ w1 = w') := fun a b w1 hb => by
    rw [hq0]; exact sizeStrsM_c u0 d.acts w1 _ a b ((r0.keep (.of hb hB)).reads (fun b h => Nat.lt_of_lt_of_le (hB b h) hb.size)) p0.1 p0.2
  obtain ⟨a0, cap0, eu0, _⟩ := id r0
  rw [length_strsV] at eu0
  subst eu0
  clear r0
  have lt := lw (wtCmd d) left
  have l0 := lw (bulkS d.acts) (left - (d.t.size : Int))
  rw [← hq0] at l0
  rw [← hR] at lt
  unfold wtCmd at lt
  clear hq0 hR
  by_cases n0 : (left - (d.t.size : Int)) < 0
  · have HR : Hid (R = -1) := by show _ = _; omega
    clear lt l0
    clear HS0
    go_enter Tryz.func263, Tryz.ntmps263
    go_wp2_with fail
    go_ret
    exact ⟨by rw [HR.out]; rfl, (hbx _)⟩
  by_cases n1 : q0 < 0
  · have HR : Hid (R = -1) := by show _ = _; omega
    have g0a : 0 ≤ (left - (d.t.size : Int)) := by omega
    have g0b : (left - (d.t.size : Int)) ≤ 1048576 := by omega
    have HC0 := HS0.out g0a g0b
    have HD0 := hidden HC0
    clear HC0
    clear lt l0
    clear HS0
    go_enter Tryz.func263, Tryz.ntmps263
    go_wp2_with fail
    go_at_call 206
    refine (HD0.out _ (hbx _)).mono ?_
    rintro e w' ⟨rfl, rfl⟩
    go_wp2_with fail
    go_ret
    exact ⟨by rw [HR.out]; rfl, (hbx _)⟩
  have HR : Hid (R = q0) := by show _ = _; omega
  have g0a : 0 ≤ (left - (d.t.size : Int)) := by omega
  have g0b : (left - (d.t.size : Int)) ≤ 1048576 := by omega
  have HC0 := HS0.out g0a g0b
  have HD0 := hidden HC0
  clear HC0
  clear lt l0
  clear HS0
  go_enter Tryz.func263, Tryz.ntmps263
  go_wp2_with fail
  go_at_call 206
  refine (HD0.out _ (hbx _)).mono ?_
  rintro e w' ⟨rfl, rfl⟩
  go_wp2_with fail
  go_ret
  exact ⟨by rw [HR.out]; rfl, (hbx _)⟩

set_option maxHeartbeats 2000000 in
set_option maxRecDepth 100000 in
theorem szCmdS_c (S : Nat → Prop) (v : Value) (xs : List CmdD) (left : Int) (h0 : 0 ≤ left) (h1 : left ≤ 1048576) (w : World) (hv : RowIn shCmd S w v xs) (hB : ∀ b, S b → b < w.heap.size) :
    Calls Tryz.prog 207 #[v, .int .i64 left] w fun e w' => e = .returned (.int .i64 (leftW (wtRow wtCmd xs) left)) ∧ Below w.heap.size w w' := by
  obtain ⟨a, cap, rfl, hl, hc, ha⟩ := hv
  unfold maxLen at hl
  by_cases hneg : left - (xs.length : Int) < 0
  · have e : leftW (wtRow wtCmd xs) left = -1 := leftW_bad (by have := len_wtRow wtCmd xs; omega)
    rw [e]
    clear ha
    go_enter Tryz.func207, Tryz.ntmps207
    go_wp2_with fail
    go_ret
    exact ⟨rfl, Below.refl _ _⟩
  · go_enter Tryz.func207, Tryz.ntmps207
    go_wp2_with fail
    go_loopw [1, 5] (fun vl vi wr => ∃ (k : Nat) (q : Int), k ≤ xs.length ∧ vi = .int .i64 (k : Int) ∧ vl = .int .i64 q ∧ 0 ≤ q ∧ q ≤ 1048576 ∧ Hid (q = left - (xs.length : Int) - (wtRow wtCmd (xs.take k) : Int) + (k : Int)) ∧ Below w.heap.size w wr) (fun _ vi _ => xs.length - (intOf vi).toNat)
    case atStart => exact ⟨0, _, Nat.zero_le _, rfl, rfl, by omega, by omega, by show _ = _; simp [wtRow], Below.refl _ _⟩
    case round =>
      obtain ⟨k, q, hk, rfl, rfl, hq0, hq1, hq, hbr⟩ := hrel
      by_cases hlt' : k < xs.length
      · rcases ha with rfl | ⟨b, off, rfl, hlt, ha⟩
        · simp at hlt'
        obtain ⟨cs, hL, hcell⟩ := ha k hlt'
        have hL2 := shCmd.keep (.of hbr hB) hL
        have hcell2 := hcell.keep (.of hbr hB) hlt
        have hBr : ∀ b, S b → b < wr.heap.size := fun b h => Nat.lt_of_lt_of_le (hB b h) hbr.size
        have hwt := wtRow_take wtCmd xs k hlt'
        have hsp := wtRow_split wtCmd xs (k + 1)
        have hln := len_wtRow wtCmd (xs.drop (k + 1))
        have hdl : (xs.drop (k + 1)).length = xs.length - (k + 1) := by simp
        obtain ⟨d, hd⟩ : ∃ d, d = xs[k] := ⟨_, rfl⟩
        rw [← hd] at hL2 hwt
        have HW : Hid (wtRow wtCmd (xs.take (k + 1)) = wtRow wtCmd (xs.take k) + (1 + wtCmd d)) := hwt
        have HSP : Hid (wtRow wtCmd xs = wtRow wtCmd (xs.take (k + 1)) + wtRow wtCmd (xs.drop (k + 1)) ∧ xs.length - (k + 1) ≤ wtRow wtCmd (xs.drop (k + 1))) := ⟨hsp, by omega⟩
        have hki : (k : Int) < (xs.length : Int) := by omega
        obtain ⟨p, hp⟩ : ∃ p, p = leftW (wtCmd d) q := ⟨_, rfl⟩
        have HP : Hid (p = leftW (wtCmd d) q) := hp
        have HC := szCmd_c S d cs q hq0 hq1 wr hL2 hBr
        rw [← hp] at HC
        clear hL hcell ha hwt hd hp hsp hln hdl
        obtain ⟨u0, rfl, s_t, r0, p0⟩ := hL2
        clear s_t p0
        obtain ⟨a0, cap0, eu0, _⟩ := id r0
        rw [length_strsV] at eu0
        subst eu0
        clear r0
        have e0 : wr.cell? ⟨b, off + k * 2, none⟩ = some (.string d.t) := hcell2 0 (by simp)
        have e1 : wr.cell? ⟨b, off + k * 2 + 1, none⟩ = some (.slice a0 d.acts.length cap0) := hcell2 1 (by simp)
        have HC2 := hidden HC
        clear hcell2 HC
        by_cases hpn : p < 0
        · go_wp2_with (go_at_call 263; refine HC2.out.mono ?_; rintro e w1 ⟨rfl, hb1⟩)
          go_ret
          have e : leftW (wtRow wtCmd xs) left = -1 := by
            have h2 := HP.out; have h3 := hq.out; have h4 := HW.out; have h5 := HSP.out
            refine leftW_bad ?_
            by_cases h6 : ((wtCmd d : Nat) : Int) ≤ q
            · rw [leftW_good h6] at h2; omega
            · omega
          exact ⟨by rw [e]; rfl, hbr.trans (hb1.mono hbr.size)⟩
        · go_wp2_with (go_at_call 263; refine HC2.out.mono ?_; rintro e w1 ⟨rfl, hb1⟩)
          go_roundw
          case rel =>
            have h2 := HP.out; have h3 := hq.out; have h4 := HW.out
            have h6 : ((wtCmd d : Nat) : Int) ≤ q := by
              by_cases h6 : ((wtCmd d : Nat) : Int) ≤ q
              · exact h6
              · rw [leftW_bad (by omega)] at h2; omega
            rw [leftW_good h6] at h2
            exact ⟨k + 1, p, by omega, by go_num, rfl, by omega, by omega, (by show _ = _; omega), hbr.trans (hb1.mono hbr.size)⟩
          case measure => simp [intOf]; omega
      · have he : k = xs.length := by omega
        subst he
        clear ha
        go_wp2_with fail
        go_ret
        have e : leftW (wtRow wtCmd xs) left = q := by
          have h3 := hq.out
          rw [List.take_length] at h3
          rw [leftW_good (by omega)]; omega
        exact ⟨by rw [e]; rfl, hbr⟩

end Go.Proofs.YtlfmefojcmpfeaaGreatDoor

/-! How much packs hold, as the law counts it: contracts for the walks; conditions: at most 2 to the 20 is left to count. -/
namespace Go.Proofs.YtlfmefojcmpfeaaGreatDoor
open Go.RowKit
set_option linter.unusedSimpArgs false
set_option linter.unusedVariables false

set_option maxHeartbeats 2000000 in
set_option maxRecDepth 100000 in
theorem szPack_c (S : Nat → Prop) (d : PackD) (cs : List Value) (left : Int) (h0 : 0 ≤ left) (h1 : left ≤ 1048576) (w : World) (hd : shPack.lies S w cs d) (hB : ∀ b, S b → b < w.heap.size) :
    Calls Tryz.prog 144 #[.agg cs.toArray, .int .i64 left] w fun e w' => e = .returned (.int .i64 (leftW (wtPack d) left)) ∧ Below w.heap.size w w' := by
  obtain ⟨u0, u1, u2, rfl, s_name, r0, p0, r1, r2⟩ := hd
  unfold maxLen at s_name
  have hbx : ∀ o, Below w.heap.size w (w.alloc o) := fun o => (Below.refl _ _).alloc (Nat.le_refl _) _
  obtain ⟨R, hR⟩ : ∃ R, R = leftW (wtPack d) left := ⟨_, rfl⟩
  rw [← hR]
  obtain ⟨q0, hq0⟩ : ∃ q, q = leftW (bulkS d.uses) (left - (d.name.size : Int)) := ⟨_, rfl⟩
  obtain ⟨q1, hq1⟩ : ∃ q, q = leftW (wtRow wtNeed d.needs) q0 := ⟨_, rfl⟩
  obtain ⟨q2, hq2⟩ : ∃ q, q = leftW (wtRow wtCmd d.cmds) q1 := ⟨_, rfl⟩
  have HS0 : Hid (0 ≤ (left - (d.name.size : Int)) → (left - (d.name.size : Int)) ≤ 1048576 → ∀ w1, Below w.heap.size w w1 → Calls Tryz.prog 206 #[u0, .int .i64 (left - (d.name.size : Int))] w1 fun e w' => e = .returned (.int .i64 q0) ∧ w1 = w') := fun a b w1 hb => by
    rw [hq0]; exact sizeStrsM_c u0 d.uses w1 _ a b ((r0.keep (.of hb hB)).reads (fun b h => Nat.lt_of_lt_of_le (hB b h) hb.size)) p0.1 p0.2
  obtain ⟨a0, cap0, eu0, _⟩ := id r0
  rw [length_strsV] at eu0
  have HS1 : Hid (0 ≤ q0 → q0 ≤ 1048576 → ∀ w1, Below w.heap.size w w1 → Calls Tryz.prog 56 #[u1, .int .i64 q0] w1 fun e w' => e = .returned (.int .i64 q1) ∧ Below w1.heap.size w1 w') := fun a b w1 hb => by
    rw [hq1]; exact szNeedS_c S u1 d.needs _ a b w1 (r1.keep (.of hb hB)) (fun b h => Nat.lt_of_lt_of_le (hB b h) hb.size)
  obtain ⟨a1, cap1, eu1, _⟩ := id r1
  have HS2 : Hid (0 ≤ q1 → q1 ≤ 1048576 → ∀ w1, Below w.heap.size w w1 → Calls Tryz.prog 207 #[u2, .int .i64 q1] w1 fun e w' => e = .returned (.int .i64 q2) ∧ Below w1.heap.size w1 w') := fun a b w1 hb => by
    rw [hq2]; exact szCmdS_c S u2 d.cmds _ a b w1 (r2.keep (.of hb hB)) (fun b h => Nat.lt_of_lt_of_le (hB b h) hb.size)
  obtain ⟨a2, cap2, eu2, _⟩ := id r2
  subst eu0
  clear r0
  subst eu1
  clear r1
  subst eu2
  clear r2
  have lt := lw (wtPack d) left
  have l0 := lw (bulkS d.uses) (left - (d.name.size : Int))
  rw [← hq0] at l0
  have l1 := lw (wtRow wtNeed d.needs) q0
  rw [← hq1] at l1
  have l2 := lw (wtRow wtCmd d.cmds) q1
  rw [← hq2] at l2
  rw [← hR] at lt
  unfold wtPack at lt
  clear hq0 hq1 hq2 hR
  by_cases n0 : (left - (d.name.size : Int)) < 0
  · have HR : Hid (R = -1) := by show _ = _; omega
    clear lt l0 l1 l2
    clear HS0
    clear HS1
    clear HS2
    go_enter Tryz.func144, Tryz.ntmps144
    go_wp2_with fail
    go_ret
    exact ⟨by rw [HR.out]; rfl, (hbx _)⟩
  by_cases n1 : q0 < 0
  · have HR : Hid (R = -1) := by show _ = _; omega
    have g0a : 0 ≤ (left - (d.name.size : Int)) := by omega
    have g0b : (left - (d.name.size : Int)) ≤ 1048576 := by omega
    have HC0 := HS0.out g0a g0b
    have HD0 := hidden HC0
    clear HC0
    clear lt l0 l1 l2
    clear HS0
    clear HS1
    clear HS2
    go_enter Tryz.func144, Tryz.ntmps144
    go_wp2_with fail
    go_at_call 206
    refine (HD0.out _ (hbx _)).mono ?_
    rintro e w' ⟨rfl, rfl⟩
    go_wp2_with fail
    go_ret
    exact ⟨by rw [HR.out]; rfl, (hbx _)⟩
  by_cases n2 : q1 < 0
  · have HR : Hid (R = -1) := by show _ = _; omega
    have g0a : 0 ≤ (left - (d.name.size : Int)) := by omega
    have g0b : (left - (d.name.size : Int)) ≤ 1048576 := by omega
    have g1a : 0 ≤ q0 := by omega
    have g1b : q0 ≤ 1048576 := by omega
    have HC0 := HS0.out g0a g0b
    have HD0 := hidden HC0
    clear HC0
    have HC1 := HS1.out g1a g1b
    have HD1 := hidden HC1
    clear HC1
    clear lt l0 l1 l2
    clear HS0
    clear HS1
    clear HS2
    go_enter Tryz.func144, Tryz.ntmps144
    go_wp2_with fail
    go_at_call 206
    refine (HD0.out _ (hbx _)).mono ?_
    rintro e w' ⟨rfl, rfl⟩
    go_wp2_with fail
    go_at_call 56
    refine (HD1.out _ (hbx _)).mono ?_
    rintro e w2 ⟨rfl, b2⟩
    have k2 : Below w.heap.size w w2 := ((hbx _)).trans (b2.mono (by first | exact ((hbx _)).size | (simp; omega)))
    have hx2 := boxAt b2
    have x0 := vblk_cell hx2 0
    have x1 := vblk_cell hx2 1
    have x2 := vblk_cell hx2 2
    have x3 := vblk_cell hx2 3
    simp only [List.getElem?_toArray, List.getElem?_cons_succ, List.getElem?_cons_zero] at x0 x1 x2 x3
    go_wp2_with fail
    go_ret
    exact ⟨by rw [HR.out]; rfl, k2⟩
  by_cases n3 : q2 < 0
  · have HR : Hid (R = -1) := by show _ = _; omega
    have g0a : 0 ≤ (left - (d.name.size : Int)) := by omega
    have g0b : (left - (d.name.size : Int)) ≤ 1048576 := by omega
    have g1a : 0 ≤ q0 := by omega
    have g1b : q0 ≤ 1048576 := by omega
    have g2a : 0 ≤ q1 := by omega
    have g2b : q1 ≤ 1048576 := by omega
    have HC0 := HS0.out g0a g0b
    have HD0 := hidden HC0
    clear HC0
    have HC1 := HS1.out g1a g1b
    have HD1 := hidden HC1
    clear HC1
    have HC2 := HS2.out g2a g2b
    have HD2 := hidden HC2
    clear HC2
    clear lt l0 l1 l2
    clear HS0
    clear HS1
    clear HS2
    go_enter Tryz.func144, Tryz.ntmps144
    go_wp2_with fail
    go_at_call 206
    refine (HD0.out _ (hbx _)).mono ?_
    rintro e w' ⟨rfl, rfl⟩
    go_wp2_with fail
    go_at_call 56
    refine (HD1.out _ (hbx _)).mono ?_
    rintro e w2 ⟨rfl, b2⟩
    have k2 : Below w.heap.size w w2 := ((hbx _)).trans (b2.mono (by first | exact ((hbx _)).size | (simp; omega)))
    have hx2 := boxAt b2
    have x0 := vblk_cell hx2 0
    have x1 := vblk_cell hx2 1
    have x2 := vblk_cell hx2 2
    have x3 := vblk_cell hx2 3
    simp only [List.getElem?_toArray, List.getElem?_cons_succ, List.getElem?_cons_zero] at x0 x1 x2 x3
    go_wp2_with fail
    go_at_call 207
    refine (HD2.out _ k2).mono ?_
    rintro e w3 ⟨rfl, b3⟩
    have k3 : Below w.heap.size w w3 := (k2).trans (b3.mono (by first | exact (k2).size | (simp; omega)))
    have hx3 := (b3.block _ (Array.getElem?_eq_some_iff.1 hx2).1).trans hx2
    have x0 := vblk_cell hx3 0
    have x1 := vblk_cell hx3 1
    have x2 := vblk_cell hx3 2
    have x3 := vblk_cell hx3 3
    simp only [List.getElem?_toArray, List.getElem?_cons_succ, List.getElem?_cons_zero] at x0 x1 x2 x3
    go_wp2_with fail
    go_ret
    exact ⟨by rw [HR.out]; rfl, k3⟩
  have HR : Hid (R = q2) := by show _ = _; omega
  have g0a : 0 ≤ (left - (d.name.size : Int)) := by omega
  have g0b : (left - (d.name.size : Int)) ≤ 1048576 := by omega
  have g1a : 0 ≤ q0 := by omega
  have g1b : q0 ≤ 1048576 := by omega
  have g2a : 0 ≤ q1 := by omega
  have g2b : q1 ≤ 1048576 := by omega
  have HC0 := HS0.out g0a g0b
  have HD0 := hidden HC0
  clear HC0
  have HC1 := HS1.out g1a g1b
  have HD1 := hidden HC1
  clear HC1
  have HC2 := HS2.out g2a g2b
  have HD2 := hidden HC2
  clear HC2
  clear lt l0 l1 l2
  clear HS0
  clear HS1
  clear HS2
  go_enter Tryz.func144, Tryz.ntmps144
  go_wp2_with fail
  go_at_call 206
  refine (HD0.out _ (hbx _)).mono ?_
  rintro e w' ⟨rfl, rfl⟩
  go_wp2_with fail
  go_at_call 56
  refine (HD1.out _ (hbx _)).mono ?_
  rintro e w2 ⟨rfl, b2⟩
  have k2 : Below w.heap.size w w2 := ((hbx _)).trans (b2.mono (by first | exact ((hbx _)).size | (simp; omega)))
  have hx2 := boxAt b2
  have x0 := vblk_cell hx2 0
  have x1 := vblk_cell hx2 1
  have x2 := vblk_cell hx2 2
  have x3 := vblk_cell hx2 3
  simp only [List.getElem?_toArray, List.getElem?_cons_succ, List.getElem?_cons_zero] at x0 x1 x2 x3
  go_wp2_with fail
  go_at_call 207
  refine (HD2.out _ k2).mono ?_
  rintro e w3 ⟨rfl, b3⟩
  have k3 : Below w.heap.size w w3 := (k2).trans (b3.mono (by first | exact (k2).size | (simp; omega)))
  have hx3 := (b3.block _ (Array.getElem?_eq_some_iff.1 hx2).1).trans hx2
  have x0 := vblk_cell hx3 0
  have x1 := vblk_cell hx3 1
  have x2 := vblk_cell hx3 2
  have x3 := vblk_cell hx3 3
  simp only [List.getElem?_toArray, List.getElem?_cons_succ, List.getElem?_cons_zero] at x0 x1 x2 x3
  go_wp2_with fail
  go_ret
  exact ⟨by rw [HR.out]; rfl, k3⟩

set_option maxHeartbeats 2000000 in
set_option maxRecDepth 100000 in
theorem szPackS_c (S : Nat → Prop) (v : Value) (xs : List PackD) (left : Int) (h0 : 0 ≤ left) (h1 : left ≤ 1048576) (w : World) (hv : RowIn shPack S w v xs) (hB : ∀ b, S b → b < w.heap.size) :
    Calls Tryz.prog 66 #[v, .int .i64 left] w fun e w' => e = .returned (.int .i64 (leftW (wtRow wtPack xs) left)) ∧ Below w.heap.size w w' := by
  obtain ⟨a, cap, rfl, hl, hc, ha⟩ := hv
  unfold maxLen at hl
  by_cases hneg : left - (xs.length : Int) < 0
  · have e : leftW (wtRow wtPack xs) left = -1 := leftW_bad (by have := len_wtRow wtPack xs; omega)
    rw [e]
    clear ha
    go_enter Tryz.func66, Tryz.ntmps66
    go_wp2_with fail
    go_ret
    exact ⟨rfl, Below.refl _ _⟩
  · go_enter Tryz.func66, Tryz.ntmps66
    go_wp2_with fail
    go_loopw [1, 5] (fun vl vi wr => ∃ (k : Nat) (q : Int), k ≤ xs.length ∧ vi = .int .i64 (k : Int) ∧ vl = .int .i64 q ∧ 0 ≤ q ∧ q ≤ 1048576 ∧ Hid (q = left - (xs.length : Int) - (wtRow wtPack (xs.take k) : Int) + (k : Int)) ∧ Below w.heap.size w wr) (fun _ vi _ => xs.length - (intOf vi).toNat)
    case atStart => exact ⟨0, _, Nat.zero_le _, rfl, rfl, by omega, by omega, by show _ = _; simp [wtRow], Below.refl _ _⟩
    case round =>
      obtain ⟨k, q, hk, rfl, rfl, hq0, hq1, hq, hbr⟩ := hrel
      by_cases hlt' : k < xs.length
      · rcases ha with rfl | ⟨b, off, rfl, hlt, ha⟩
        · simp at hlt'
        obtain ⟨cs, hL, hcell⟩ := ha k hlt'
        have hL2 := shPack.keep (.of hbr hB) hL
        have hcell2 := hcell.keep (.of hbr hB) hlt
        have hBr : ∀ b, S b → b < wr.heap.size := fun b h => Nat.lt_of_lt_of_le (hB b h) hbr.size
        have hwt := wtRow_take wtPack xs k hlt'
        have hsp := wtRow_split wtPack xs (k + 1)
        have hln := len_wtRow wtPack (xs.drop (k + 1))
        have hdl : (xs.drop (k + 1)).length = xs.length - (k + 1) := by simp
        obtain ⟨d, hd⟩ : ∃ d, d = xs[k] := ⟨_, rfl⟩
        rw [← hd] at hL2 hwt
        have HW : Hid (wtRow wtPack (xs.take (k + 1)) = wtRow wtPack (xs.take k) + (1 + wtPack d)) := hwt
        have HSP : Hid (wtRow wtPack xs = wtRow wtPack (xs.take (k + 1)) + wtRow wtPack (xs.drop (k + 1)) ∧ xs.length - (k + 1) ≤ wtRow wtPack (xs.drop (k + 1))) := ⟨hsp, by omega⟩
        have hki : (k : Int) < (xs.length : Int) := by omega
        obtain ⟨p, hp⟩ : ∃ p, p = leftW (wtPack d) q := ⟨_, rfl⟩
        have HP : Hid (p = leftW (wtPack d) q) := hp
        have HC := szPack_c S d cs q hq0 hq1 wr hL2 hBr
        rw [← hp] at HC
        clear hL hcell ha hwt hd hp hsp hln hdl
        obtain ⟨u0, u1, u2, rfl, s_name, r0, p0, r1, r2⟩ := hL2
        clear s_name p0
        obtain ⟨a0, cap0, eu0, _⟩ := id r0
        rw [length_strsV] at eu0
        subst eu0
        clear r0
        obtain ⟨a1, cap1, eu1, _⟩ := id r1
        subst eu1
        clear r1
        obtain ⟨a2, cap2, eu2, _⟩ := id r2
        subst eu2
        clear r2
        have e0 : wr.cell? ⟨b, off + k * 4, none⟩ = some (.string d.name) := hcell2 0 (by simp)
        have e1 : wr.cell? ⟨b, off + k * 4 + 1, none⟩ = some (.slice a0 d.uses.length cap0) := hcell2 1 (by simp)
        have e2 : wr.cell? ⟨b, off + k * 4 + 2, none⟩ = some (.slice a1 d.needs.length cap1) := hcell2 2 (by simp)
        have e3 : wr.cell? ⟨b, off + k * 4 + 3, none⟩ = some (.slice a2 d.cmds.length cap2) := hcell2 3 (by simp)
        have HC2 := hidden HC
        clear hcell2 HC
        by_cases hpn : p < 0
        · go_wp2_with (go_at_call 144; refine HC2.out.mono ?_; rintro e w1 ⟨rfl, hb1⟩)
          go_ret
          have e : leftW (wtRow wtPack xs) left = -1 := by
            have h2 := HP.out; have h3 := hq.out; have h4 := HW.out; have h5 := HSP.out
            refine leftW_bad ?_
            by_cases h6 : ((wtPack d : Nat) : Int) ≤ q
            · rw [leftW_good h6] at h2; omega
            · omega
          exact ⟨by rw [e]; rfl, hbr.trans (hb1.mono hbr.size)⟩
        · go_wp2_with (go_at_call 144; refine HC2.out.mono ?_; rintro e w1 ⟨rfl, hb1⟩)
          go_roundw
          case rel =>
            have h2 := HP.out; have h3 := hq.out; have h4 := HW.out
            have h6 : ((wtPack d : Nat) : Int) ≤ q := by
              by_cases h6 : ((wtPack d : Nat) : Int) ≤ q
              · exact h6
              · rw [leftW_bad (by omega)] at h2; omega
            rw [leftW_good h6] at h2
            exact ⟨k + 1, p, by omega, by go_num, rfl, by omega, by omega, (by show _ = _; omega), hbr.trans (hb1.mono hbr.size)⟩
          case measure => simp [intOf]; omega
      · have he : k = xs.length := by omega
        subst he
        clear ha
        go_wp2_with fail
        go_ret
        have e : leftW (wtRow wtPack xs) left = q := by
          have h3 := hq.out
          rw [List.take_length] at h3
          rw [leftW_good (by omega)]; omega
        exact ⟨by rw [e]; rfl, hbr⟩

end Go.Proofs.YtlfmefojcmpfeaaGreatDoor

/-! Packs, and rows of them, that are the same are told so by the law's own comparison: contracts for what lies in memory and holds at most 2 to the 20. -/
namespace Go.Proofs.YtlfmefojcmpfeaaGreatDoor
open Go.RowKit
set_option linter.unusedSimpArgs false
set_option linter.unusedVariables false

set_option maxHeartbeats 2000000 in
set_option maxRecDepth 100000 in
theorem eqPack_c (S S' : Nat → Prop) (d : PackD) (cs cs' : List Value) (w : World) (hd : shPack.lies S w cs d) (hd' : shPack.lies S' w cs' d) (hB : ∀ b, S b → b < w.heap.size) (hB' : ∀ b, S' b → b < w.heap.size) (hw : wtPack d ≤ 1048576) :
    Calls Tryz.prog 146 #[.agg cs.toArray, .agg cs'.toArray] w fun e w' => e = .returned (.bool true) ∧ Below w.heap.size w w' := by
  obtain ⟨xu0, xu1, xu2, rfl, xs_name, xr0, xp0, xr1, xr2⟩ := hd
  obtain ⟨yu0, yu1, yu2, rfl, ys_name, yr0, yp0, yr1, yr2⟩ := hd'
  have hb2 : ∀ A R, Below w.heap.size w ((w.alloc A).alloc R) := fun A R => ((Below.refl _ _).alloc (Nat.le_refl _) _).alloc (by simp) _
  unfold wtPack at hw
  have HS0 : Hid (∀ w1, Below w.heap.size w w1 → Calls Tryz.prog 210 #[xu0, yu0] w1 fun e w' => e = .returned (.bool true) ∧ Below w1.heap.size w1 w') := fun w1 hb => by
    have := eqStrs_c xu0 yu0 d.uses d.uses w1 ((xr0.keep (.of hb hB)).reads (fun b h => Nat.lt_of_lt_of_le (hB b h) hb.size)) ((yr0.keep (.of hb hB')).reads (fun b h => Nat.lt_of_lt_of_le (hB' b h) hb.size)) (by unfold bulkS at hw; omega)
    rwa [decide_eq_true rfl] at this
  have HS1 : Hid (∀ w1, Below w.heap.size w w1 → Calls Tryz.prog 61 #[xu1, yu1] w1 fun e w' => e = .returned (.bool true) ∧ Below w1.heap.size w1 w') := fun w1 hb =>
    eqNeedS_c S S' xu1 yu1 d.needs w1 (xr1.keep (.of hb hB)) (yr1.keep (.of hb hB')) (fun b h => Nat.lt_of_lt_of_le (hB b h) hb.size) (fun b h => Nat.lt_of_lt_of_le (hB' b h) hb.size) (by omega)
  have HS2 : Hid (∀ w1, Below w.heap.size w w1 → Calls Tryz.prog 211 #[xu2, yu2] w1 fun e w' => e = .returned (.bool true) ∧ Below w1.heap.size w1 w') := fun w1 hb =>
    eqCmdS_c S S' xu2 yu2 d.cmds w1 (xr2.keep (.of hb hB)) (yr2.keep (.of hb hB')) (fun b h => Nat.lt_of_lt_of_le (hB b h) hb.size) (fun b h => Nat.lt_of_lt_of_le (hB' b h) hb.size) (by omega)
  obtain ⟨xa0, xc0, xe0, _⟩ := id xr0
  rw [length_strsV] at xe0
  subst xe0
  clear xr0
  obtain ⟨ya0, yc0, ye0, _⟩ := id yr0
  rw [length_strsV] at ye0
  subst ye0
  clear yr0
  obtain ⟨xa1, xc1, xe1, _⟩ := id xr1
  subst xe1
  clear xr1
  obtain ⟨ya1, yc1, ye1, _⟩ := id yr1
  subst ye1
  clear yr1
  obtain ⟨xa2, xc2, xe2, _⟩ := id xr2
  subst xe2
  clear xr2
  obtain ⟨ya2, yc2, ye2, _⟩ := id yr2
  subst ye2
  clear yr2
  go_enter Tryz.func146, Tryz.ntmps146
  go_wp2_with fail
  go_at_call 210
  refine (HS0.out _ (hb2 _ _)).mono ?_
  rintro e w1 ⟨rfl, b1⟩
  obtain ⟨hA1, hR1⟩ := boxTwo b1
  have k1 : Below w.heap.size w w1 := (hb2 _ _).trans (b1.mono (hb2 _ _).size)
  have o0 := vblk_cell hA1 0
  have q0 := vblk_cell hR1 0
  have o1 := vblk_cell hA1 1
  have q1 := vblk_cell hR1 1
  have o2 := vblk_cell hA1 2
  have q2 := vblk_cell hR1 2
  have o3 := vblk_cell hA1 3
  have q3 := vblk_cell hR1 3
  simp only [List.getElem?_toArray, List.getElem?_cons_succ, List.getElem?_cons_zero] at o0 q0 o1 q1 o2 q2 o3 q3
  go_wp2_with fail
  go_at_call 61
  refine (HS1.out _ k1).mono ?_
  rintro e w2 ⟨rfl, b2⟩
  have hA2 := (b2.block _ (Array.getElem?_eq_some_iff.1 hA1).1).trans hA1
  have hR2 := (b2.block _ (Array.getElem?_eq_some_iff.1 hR1).1).trans hR1
  have k2 := k1.trans (b2.mono k1.size)
  have o0 := vblk_cell hA2 0
  have q0 := vblk_cell hR2 0
  have o1 := vblk_cell hA2 1
  have q1 := vblk_cell hR2 1
  have o2 := vblk_cell hA2 2
  have q2 := vblk_cell hR2 2
  have o3 := vblk_cell hA2 3
  have q3 := vblk_cell hR2 3
  simp only [List.getElem?_toArray, List.getElem?_cons_succ, List.getElem?_cons_zero] at o0 q0 o1 q1 o2 q2 o3 q3
  go_wp2_with fail
  go_at_call 211
  refine (HS2.out _ k2).mono ?_
  rintro e w3 ⟨rfl, b3⟩
  have hA3 := (b3.block _ (Array.getElem?_eq_some_iff.1 hA2).1).trans hA2
  have hR3 := (b3.block _ (Array.getElem?_eq_some_iff.1 hR2).1).trans hR2
  have k3 := k2.trans (b3.mono k2.size)
  go_wp2_with fail
  go_ret
  exact ⟨rfl, k3⟩

set_option maxHeartbeats 2000000 in
set_option maxRecDepth 100000 in
theorem eqPackS_c (S S' : Nat → Prop) (v u : Value) (xs : List PackD) (w : World) (hv : RowIn shPack S w v xs) (hv' : RowIn shPack S' w u xs) (hB : ∀ b, S b → b < w.heap.size) (hB' : ∀ b, S' b → b < w.heap.size) (hw : wtRow wtPack xs ≤ 1048576) :
    Calls Tryz.prog 68 #[v, u] w fun e w' => e = .returned (.bool true) ∧ Below w.heap.size w w' := by
  obtain ⟨a, cap, rfl, hl, hc, ha⟩ := hv
  obtain ⟨a', cap', rfl, _, hc', ha'⟩ := hv'
  unfold maxLen at hl
  go_enter Tryz.func68, Tryz.ntmps68
  go_wp2_with fail
  go_loopw [5] (fun vi wr => ∃ k : Nat, k ≤ xs.length ∧ vi = .int .i64 (k : Int) ∧ Below w.heap.size w wr) (fun vi _ => xs.length - (intOf vi).toNat)
  case atStart => exact ⟨0, Nat.zero_le _, rfl, Below.refl _ _⟩
  case round =>
    obtain ⟨k, hk, rfl, hbr⟩ := hrel
    by_cases hlt' : k < xs.length
    · rcases ha with rfl | ⟨b, off, rfl, hlt, ha⟩
      · simp at hlt'
      rcases ha' with rfl | ⟨b', off', rfl, hlt3, ha'⟩
      · simp at hlt'
      obtain ⟨cs, hL, hcell⟩ := ha k hlt'
      obtain ⟨cs', hL', hcell'⟩ := ha' k hlt'
      have hwt : wtPack xs[k] ≤ 1048576 := by have := wt_wtRow wtPack (List.getElem_mem hlt'); omega
      have HC := eqPack_c S S' xs[k] cs cs' wr.drew (shPack.keep (.of hbr.drew hB) hL) (shPack.keep (.of hbr.drew hB') hL') (fun b h => Nat.lt_of_lt_of_le (hB b h) hbr.size) (fun b h => Nat.lt_of_lt_of_le (hB' b h) hbr.size) hwt
      replace hL := shPack.keep (.of hbr hB) hL
      replace hL' := shPack.keep (.of hbr hB') hL'
      replace hcell := hcell.keep (.of hbr hB) hlt
      replace hcell' := hcell'.keep (.of hbr hB') hlt3
      obtain ⟨d, hd⟩ : ∃ d, d = xs[k] := ⟨_, rfl⟩
      rw [← hd] at hL hL' hwt
      clear ha ha' hd
      obtain ⟨xu0, xu1, xu2, rfl, xs_name, xr0, xp0, xr1, xr2⟩ := hL
      obtain ⟨yu0, yu1, yu2, rfl, ys_name, yr0, yp0, yr1, yr2⟩ := hL'
      clear xs_name xp0 ys_name yp0
      obtain ⟨xa0, xc0, xe0, _⟩ := id xr0
      rw [length_strsV] at xe0
      subst xe0
      clear xr0
      obtain ⟨xa1, xc1, xe1, _⟩ := id xr1
      subst xe1
      clear xr1
      obtain ⟨xa2, xc2, xe2, _⟩ := id xr2
      subst xe2
      clear xr2
      have xv0 : wr.cell? ⟨b, off + k * 4, none⟩ = some (.string d.name) := hcell 0 (by simp)
      have xv1 : wr.cell? ⟨b, off + k * 4 + 1, none⟩ = some (.slice xa0 d.uses.length xc0) := hcell 1 (by simp)
      have xv2 : wr.cell? ⟨b, off + k * 4 + 2, none⟩ = some (.slice xa1 d.needs.length xc1) := hcell 2 (by simp)
      have xv3 : wr.cell? ⟨b, off + k * 4 + 3, none⟩ = some (.slice xa2 d.cmds.length xc2) := hcell 3 (by simp)
      obtain ⟨ya0, yc0, ye0, _⟩ := id yr0
      rw [length_strsV] at ye0
      subst ye0
      clear yr0
      obtain ⟨ya1, yc1, ye1, _⟩ := id yr1
      subst ye1
      clear yr1
      obtain ⟨ya2, yc2, ye2, _⟩ := id yr2
      subst ye2
      clear yr2
      have yv0 : wr.cell? ⟨b', off' + k * 4, none⟩ = some (.string d.name) := hcell' 0 (by simp)
      have yv1 : wr.cell? ⟨b', off' + k * 4 + 1, none⟩ = some (.slice ya0 d.uses.length yc0) := hcell' 1 (by simp)
      have yv2 : wr.cell? ⟨b', off' + k * 4 + 2, none⟩ = some (.slice ya1 d.needs.length yc1) := hcell' 2 (by simp)
      have yv3 : wr.cell? ⟨b', off' + k * 4 + 3, none⟩ = some (.slice ya2 d.cmds.length yc2) := hcell' 3 (by simp)
      have HC2 := hidden HC
      have hki : (k : Int) < (xs.length : Int) := by omega
      clear hcell hcell' HC hwt
      go_wp2_with fail
      go_region_with (go_at_call 146; refine HC2.out.mono ?_; rintro e w2 ⟨rfl, hb2⟩)
      all_goals go_wp2_with fail
      all_goals go_roundw
      all_goals first
        | exact ⟨k + 1, by omega, by go_num, hbr.drew.trans (hb2.mono hbr.size)⟩
        | (simp [intOf]; omega)
    · have he : k = xs.length := by omega
      subst he
      clear ha ha'
      go_wp2_with fail
      go_ret
      exact ⟨rfl, hbr⟩

end Go.Proofs.YtlfmefojcmpfeaaGreatDoor

/-! The law on Wanted, walked: whatever comes in, the program and the specification answer alike, nothing is written into an argument, and the answer owns its memory; condition: what comes in lies in memory. -/
namespace Go.Proofs.YtlfmefojcmpfeaaGreatDoor
open Go.RowKit
set_option linter.unusedSimpArgs false
set_option linter.unusedVariables false

/-- A row of needs in blocks from lo up to hi. -/
def NeedR (lo hi : Nat) (W : World) (u : Value) (ns : List NeedD) : Prop := RowOwn shNeed 39 (Ow lo hi) W u ns ∧ hi ≤ W.heap.size
theorem NeedR.chg {lo hi : Nat} {W W' : World} {u : Value} {ns : List NeedD} {S : Nat → Prop} (h : NeedR lo hi W u ns) (k : Chg S W W') (n : ∀ b, Ow lo hi b → ¬ S b) : NeedR lo hi W' u ns :=
  ⟨h.1.keep (fun b hb => k.block b (Nat.lt_of_lt_of_le hb.2 h.2) (n b hb)), Nat.le_trans h.2 k.size⟩
theorem NeedR.below {lo hi : Nat} {W W' : World} {u : Value} {ns : List NeedD} (h : NeedR lo hi W u ns) (k : Below W.heap.size W W') : NeedR lo hi W' u ns := h.chg (Chg.of (S := fun _ => False) k) (fun _ _ => id)
theorem need_sizes {xs : List PackD} (hw : wtRow wtPack xs ≤ 1048576) : (allN xs).length ≤ maxLen ∧ (∀ d ∈ allN xs, d.n.size ≤ maxLen ∧ d.r.size ≤ maxLen) ∧ wtRow wtNeed (allN xs) ≤ 1048576 := by
  have h1 := allN_wt xs
  have h2 := len_wtRow wtNeed (allN xs)
  refine ⟨by unfold maxLen; omega, fun d hd => ?_, by omega⟩
  have h3 : d.n.size + d.r.size ≤ wtRow wtNeed (allN xs) := wt_wtRow wtNeed hd
  unfold maxLen
  omega
theorem below_chgW {B : Nat} {S : Nat → Prop} {w W W' : World} (h : Below B w W) (k : Chg S W W') (hs : ∀ b, S b → B ≤ b) (hB : B ≤ W.heap.size) : Below B w W' :=
  ⟨k.os.trans h.os, k.tape.trans h.tape, k.output.trans h.output, Nat.le_trans h.size k.size, fun b hb => (k.block b (Nat.lt_of_lt_of_le hb hB) (fun hS => by have := hs b hS; omega)).trans (h.block b hb)⟩

end Go.Proofs.YtlfmefojcmpfeaaGreatDoor
