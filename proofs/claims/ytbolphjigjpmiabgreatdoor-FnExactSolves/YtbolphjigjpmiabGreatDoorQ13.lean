/-
  Contracts for the walks, several texts in one: each part says what it proves, and under which conditions.
-/
import Derived.Deep.RegionHeld
import Derived.Deep.DeepCutAuto
import Derived.SliceStrings
import Derived.ChangeArms
import Derived.ChangeOld
import Derived.ChangeAt
import Derived.OpenShut
import Derived.ShutString
import Derived.Test.YtbolphjigjpmiabGreatDoorQ12
import Derived.Test.YtbolphjigjpmiabGreatDoorQ10
import Derived.Test.YtbolphjigjpmiabGreatDoorQ1

/-! Solves, as the specification answers it: a contract for the walk; conditions: what comes in lies in memory, and nothing holds more than 2 to the 20. -/
namespace Go.Proofs.YtbolphjigjpmiabGreatDoor
open Go.RowKit
set_option linter.unusedSimpArgs false
set_option linter.unusedVariables false

set_option maxHeartbeats 16000000 in
set_option maxRecDepth 100000 in
theorem specSolves_c (Sr Sn Sp : Nat → Prop) (rv nv pv : Value) (r : List EntryD) (ns : List NeedD) (l : List PickD) (w : World) (hr : RowIn shEntryO Sr w rv r) (hn : RowIn shNeed Sn w nv ns) (hp : RowIn shPickO Sp w pv l)
    (hBr : ∀ b, Sr b → b < w.heap.size) (hBn : ∀ b, Sn b → b < w.heap.size) (hBp : ∀ b, Sp b → b < w.heap.size) (hwr : wtRow wtEntry r ≤ 1048576) (hwn : wtRow wtNeed ns ≤ 1048576) (hwl : wtRow wtPick l ≤ 1048576) :
    Calls Tryz.prog 8 #[rv, nv, pv] w fun e w' => e = .returned (.bool (solB r ns l)) ∧ Below w.heap.size w w' := by
  have hwD : ∀ o, wtRow wtNeed (atD r o).needs ≤ 1048576 := fun o => by
    unfold atD
    cases o with
    | none => show wtRow wtNeed [] ≤ _; decide
    | some i =>
      cases hi : r[i]? with
      | none => rw [Option.bind_some, hi]; show wtRow wtNeed [] ≤ _; decide
      | some d =>
        simp only [Option.bind_some, hi, Option.getD_some]
        have h1 : d.name.size + bulkS d.vP + wtRow wtNeed d.needs ≤ wtRow wtEntry r := wt_wtRow wtEntry (List.mem_of_getElem? hi)
        omega
  have HMT : Hid (∀ w1 (S : Nat → Prop) v (ns : List NeedD), Below w.heap.size w w1 → RowIn shNeed S w1 v ns → (∀ b, S b → b < w1.heap.size) → wtRow wtNeed ns ≤ 1048576 → Calls Tryz.prog 25 #[v, pv] w1 fun e w' => e = .returned (.bool (metB ns l)) ∧ Below w1.heap.size w1 w') := fun w1 S v ns h hv hB hw => specMet_c S Sp v pv ns l w1 hv (hp.keep (.of h hBp)) hB (fun b hb => Nat.lt_of_lt_of_le (hBp b hb) h.size) hw hwl
  have HEN0 : Hid (∀ w1 n a b c u ps, Below w.heap.size w w1 → Reads w1 u (strsV ps) → bulkS ps ≤ 1048576 → Calls Tryz.prog 26 #[rv, .string n, .agg #[.int .i64 a, .int .i64 b, .int .i64 c, u]] w1 fun e w' => ∃ cs, e = .returned (.tuple #[.agg cs.toArray, .bool (firstK r ⟨n, a, b, c, ⟨(preL ps).toArray⟩⟩).isSome]) ∧ shEntryO.lies (Ow w1.heap.size w'.heap.size) w' cs (atD r (firstK r ⟨n, a, b, c, ⟨(preL ps).toArray⟩⟩)) ∧ Below w1.heap.size w1 w') := fun w1 n a b c u ps h hu hb => specEntry_c Sr rv r n a b c u ps w1 (hr.keep (.of h hBr)) (fun b hb => Nat.lt_of_lt_of_le (hBr b hb) h.size) hwr hu hb
  have HM0 := hidden (HMT.out w Sn nv ns (Below.refl _ _) hn hBn hwn)
  obtain ⟨qn, cn, hqn⟩ := hn.slice
  subst hqn
  obtain ⟨qr, cr, hqr⟩ := hr.slice
  subst hqr
  obtain ⟨qp, cp, rfl, hl, hc, ha⟩ := hp
  unfold maxLen at hl
  have HWL : Hid (∀ d ∈ l, bulkS d.vP ≤ 1048576) := fun d hd => by
    have h1 : d.name.size + bulkS d.vP ≤ wtRow wtPick l := wt_wtRow wtPick hd
    omega
  obtain ⟨R, hR⟩ : ∃ R, R = solB r ns l := ⟨_, rfl⟩
  rw [← hR]
  have HR := hidden hR
  have HWD := hidden hwD
  have HA := hidden ha
  obtain ⟨MB, hMB⟩ : ∃ M, M = metB ns l := ⟨_, rfl⟩
  rw [← hMB] at HM0
  have HMB := hidden hMB
  clear hR hr hn hwD hMB ha hwr hwn hBr hBn
  go_enter Tryz.func8, Tryz.ntmps8
  go_wp2_with fail
  go_at_call 25
  refine HM0.out.mono ?_
  rintro e w1 ⟨rfl, k1⟩
  cases MB with
  | false =>
    have HE : Hid (R = false) := HR.out.trans (solB_met HMB.out.symm)
    clear HMT HEN0 HA HWL HWD HM0
    go_wp2_with fail
    go_ret
    exact ⟨by rw [HE.out]; rfl, k1⟩
  | true =>
    clear HM0
    go_wp2_with fail
    go_loopw [7] (fun vi wr => ∃ k : Nat, k ≤ l.length ∧ vi = .int .i64 (k : Int) ∧ Hid (∀ i (hi : i < l.length), i < k → pickOkB r l l[i] = true ∧ ∀ j (hj : j < i), ¬ l[j].name = l[i].name) ∧ Below w.heap.size w wr) (fun vi _ => l.length - (intOf vi).toNat)
    case atStart => exact ⟨0, Nat.zero_le _, rfl, (fun j hj h => by omega), k1⟩
    case round =>
      obtain ⟨wo, hwo⟩ : ∃ wo, wo = wr := ⟨_, rfl⟩
      subst hwo
      obtain ⟨k, hk, rfl, hno, hbr⟩ := hrel
      by_cases hlt' : k < l.length
      · rcases HA.out with rfl | ⟨b, off, rfl, hlt, ha⟩
        · simp at hlt'
        obtain ⟨cs, hL, hcell⟩ := ha k hlt'
        have hcell2 := hcell.keep (.of hbr hBp) hlt
        replace hL := shPickO.keep (.of hbr hBp) hL
        have hbk := HWL.out l[k] (List.getElem_mem hlt')
        have HF : Hid (pickOkB r l l[k] = false → R = false) := fun h => HR.out.trans (solB_pick hlt' h)
        have HFN : Hid (∀ j (hj : j < k), l[j].name = l[k].name → R = false) := fun j hj h => HR.out.trans (solB_name (namesB_false hlt' hj h))
        have HN : Hid (pickOkB r l l[k] = true → (∀ j (hj : j < k), ¬ l[j].name = l[k].name) → ∀ i (hi : i < l.length), i < k + 1 → pickOkB r l l[i] = true ∧ ∀ j (hj : j < i), ¬ l[j].name = l[i].name) := fun h h2 j hj hjk => by
          by_cases e : j = k
          · subst e; exact ⟨h, h2⟩
          · exact hno.out j hj (by omega)
        have HNM : Hid (∀ j (hj : j < l.length), ∀ W, Below w.heap.size w W → W.cell? ⟨b, off + j * 5, none⟩ = some (.string l[j].name)) := fun j hj W h => by
          obtain ⟨cs', ⟨u0', rfl, _⟩, hc'⟩ := ha j hj
          exact (hc'.keep (.of h hBp) hlt) 0 (by simp)
        obtain ⟨d, hd⟩ : ∃ d, d = l[k] := ⟨_, rfl⟩
        rw [← hd] at hL hbk HF
        obtain ⟨u0, rfl, s_n, r0, p0⟩ := hL
        have hrd : ∀ w1, Below wo.heap.size wo w1 → Reads w1 u0 (strsV d.vP) := fun w1 h => (reads_of_owns r0.1).below h
        obtain ⟨KD, hKD⟩ : ∃ K, K = keyP d := ⟨_, rfl⟩
        have HPO : Hid (pickOkB r l d = ((firstK r KD).isSome && metB (atD r (firstK r KD)).needs l)) := by show _ = _; rw [hKD]; rfl
        obtain ⟨FF, hFF⟩ : ∃ F, F = firstK r KD := ⟨_, rfl⟩
        obtain ⟨DD, hDD⟩ : ∃ D, D = atD r FF := ⟨_, rfl⟩
        have hwDD : wtRow wtNeed DD.needs ≤ 1048576 := by rw [hDD]; exact HWD.out FF
        have HEN' : ∀ w1, Below wo.heap.size wo w1 → Calls Tryz.prog 26 #[.slice qr r.length cr, .string d.name, .agg #[.int .i64 d.vA, .int .i64 d.vB, .int .i64 d.vC, u0]] w1 fun e w' => ∃ q8 c8 q9 c9, e = .returned (.tuple #[.agg #[.string DD.name, .int .i64 DD.vA, .int .i64 DD.vB, .int .i64 DD.vC, .slice q8 DD.vP.length c8, .slice q9 DD.needs.length c9], .bool FF.isSome]) ∧ RowIn shNeed (Ow w1.heap.size w'.heap.size) w' (.slice q9 DD.needs.length c9) DD.needs ∧ Below w1.heap.size w1 w' := fun w1 h => (HEN0.out w1 d.name d.vA d.vB d.vC u0 d.vP (hbr.trans (h.mono hbr.size)) (hrd w1 h) hbk).mono (by
          rintro e w' ⟨cs, he, hl, hb⟩
          have e1 : firstK r ⟨d.name, d.vA, d.vB, d.vC, ⟨(preL d.vP).toArray⟩⟩ = FF := by rw [hFF, hKD]; rfl
          rw [e1] at he hl
          rw [← hDD] at hl
          obtain ⟨v0, v1, rfl, _, t0, _, t1⟩ := hl
          obtain ⟨q8, c8, e8⟩ := t0.slice
          subst e8
          obtain ⟨q9, c9, e9⟩ := t1.slice
          subst e9
          exact ⟨q8, c8, q9, c9, he, t1.plain, hb⟩)
        rw [← hFF, ← hDD] at HPO
        obtain ⟨a0, cap0, eu0⟩ := r0.slice
        subst eu0
        have HEN := hidden HEN'
        have e0 : wo.cell? ⟨b, off + k * 5, none⟩ = some (.string d.name) := hcell2 0 (by simp)
        have e1 : wo.cell? ⟨b, off + k * 5 + 1, none⟩ = some (.int .i64 d.vA) := hcell2 1 (by simp)
        have e2 : wo.cell? ⟨b, off + k * 5 + 2, none⟩ = some (.int .i64 d.vB) := hcell2 2 (by simp)
        have e3 : wo.cell? ⟨b, off + k * 5 + 3, none⟩ = some (.int .i64 d.vC) := hcell2 3 (by simp)
        have e4 : wo.cell? ⟨b, off + k * 5 + 4, none⟩ = some (.slice a0 d.vP.length cap0) := hcell2 4 (by simp)
        have hbb : b < wo.heap.size := Nat.lt_of_lt_of_le (hBp b hlt) hbr.size
        have hki : (k : Int) < (l.length : Int) := by omega
        have KEEP : Hid (∀ W, Below wo.heap.size wo W → W.cell? ⟨b, off + k * 5, none⟩ = some (.string d.name) ∧ W.cell? ⟨b, off + k * 5 + 1, none⟩ = some (.int .i64 d.vA) ∧ W.cell? ⟨b, off + k * 5 + 2, none⟩ = some (.int .i64 d.vB) ∧ W.cell? ⟨b, off + k * 5 + 3, none⟩ = some (.int .i64 d.vC) ∧ W.cell? ⟨b, off + k * 5 + 4, none⟩ = some (.slice a0 d.vP.length cap0)) := fun W h => ⟨(h.cell (by simpa using hbb)).trans e0, (h.cell (by simpa using hbb)).trans e1, (h.cell (by simpa using hbb)).trans e2, (h.cell (by simpa using hbb)).trans e3, (h.cell (by simpa using hbb)).trans e4⟩
        have h0 : Below wo.heap.size wo wo.drew := (Below.refl _ _).drew
        obtain ⟨IS, hIS⟩ : ∃ I, I = FF.isSome := ⟨_, rfl⟩
        obtain ⟨MB2, hMB2⟩ : ∃ M, M = metB DD.needs l := ⟨_, rfl⟩
        simp only [← hIS] at HEN
        rw [← hIS, ← hMB2] at HPO
        rw [HPO.out] at HF
        have HN' : Hid ((IS && MB2) = true → (∀ j (hj : j < k), ¬ l[j].name = l[k].name) → ∀ i (hi : i < l.length), i < k + 1 → pickOkB r l l[i] = true ∧ ∀ j (hj : j < i), ¬ l[j].name = l[i].name) := fun h h2 => HN.out (by rw [← hd, HPO.out]; exact h) h2
        have HDN : Hid (d.name = l[k].name) := by show _ = _; rw [hd]
        clear hcell hcell2 hno HN hd r0 hrd hKD HEN' e0 e1 e2 e3 e4 hIS hFF hDD hbk HPO HA ha
        go_wp2_with fail
        go_cut [8, 9] (fun v8 v9 wc => ∃ (g8 : Nat) (q8 : Option Addr) (c8 : Nat) (q9 : Option Addr) (c9 lo hi : Nat), v8 = .pointer (some ⟨g8, 0, none⟩) ∧ v9 = .bool IS ∧ wc.heap[g8]? = some (.cells #[.string DD.name, .int .i64 DD.vA, .int .i64 DD.vB, .int .i64 DD.vC, .slice q8 DD.vP.length c8, .slice q9 DD.needs.length c9] 60 (0, 0)) ∧ RowIn shNeed (Ow lo hi) wc (.slice q9 DD.needs.length c9) DD.needs ∧ hi ≤ wc.heap.size ∧ Below wo.heap.size wo wc)
        case first =>
          refine wp_region_held_drew (S := (fun W => W.cell? ⟨b, off + k * 5, none⟩ = some (.string d.name) ∧ W.cell? ⟨b, off + k * 5 + 1, none⟩ = some (.int .i64 d.vA) ∧ W.cell? ⟨b, off + k * 5 + 2, none⟩ = some (.int .i64 d.vB) ∧ W.cell? ⟨b, off + k * 5 + 3, none⟩ = some (.int .i64 d.vC) ∧ W.cell? ⟨b, off + k * 5 + 4, none⟩ = some (.slice a0 d.vP.length cap0))) (by kernel_rfl) ?S0E (fun hHeld => ?_)
          case S0E => (exact KEEP.out _ h0)
          refine wpAnyH_take (i := 0) (oi := _) (v := ?vE1) rfl (by kernel_rfl) (by kernel_rfl) (by kernel_rfl) (fun _ _ _ h => h) (Or.inl ⟨by rfl, ?yE1⟩) hHeld ?_
          case yE1 => (intro w hSw; (try dsimp only at hSw); go_simp <;> with_reducible rfl)
          try simp only [Act.put, List.getElem_toArray, List.getElem_cons_zero, List.getElem_cons_succ, List.setIfInBounds_toArray, List.set_cons_zero, List.set_cons_succ]
          refine wpAnyH_take (i := 1) (oi := _) (v := ?vE2) rfl (by kernel_rfl) (by kernel_rfl) (by kernel_rfl) (fun _ _ _ h => h) (Or.inl ⟨by rfl, ?yE2⟩) hHeld ?_
          case yE2 => (intro w hSw; (try dsimp only at hSw); go_simp <;> with_reducible rfl)
          try simp only [Act.put, List.getElem_toArray, List.getElem_cons_zero, List.getElem_cons_succ, List.setIfInBounds_toArray, List.set_cons_zero, List.set_cons_succ]
          refine wpAnyH_take (i := 2) (oi := _) (v := ?vE3) rfl (by kernel_rfl) (by kernel_rfl) (by kernel_rfl) (fun _ _ _ h => h) (Or.inl ⟨by rfl, ?yE3⟩) hHeld ?_
          case yE3 => (intro w hSw; (try dsimp only at hSw); go_simp <;> with_reducible rfl)
          try simp only [Act.put, List.getElem_toArray, List.getElem_cons_zero, List.getElem_cons_succ, List.setIfInBounds_toArray, List.set_cons_zero, List.set_cons_succ]
          refine wpAnyH_take (i := 3) (oi := _) (v := ?vE4) rfl (by kernel_rfl) (by kernel_rfl) (by kernel_rfl) (fun _ _ _ h => h) (Or.inl ⟨by rfl, ?yE4⟩) hHeld ?_
          case yE4 => (intro w hSw; (try dsimp only at hSw); go_simp <;> with_reducible rfl)
          try simp only [Act.put, List.getElem_toArray, List.getElem_cons_zero, List.getElem_cons_succ, List.setIfInBounds_toArray, List.set_cons_zero, List.set_cons_succ]
          refine wpAnyH_take (i := 4) (oi := _) (v := ?vE5) rfl (by kernel_rfl) (by kernel_rfl) (by kernel_rfl) (fun _ _ _ h => h) (Or.inl ⟨by rfl, ?yE5⟩) hHeld ?_
          case yE5 => (intro w hSw; (try dsimp only at hSw); go_simp <;> with_reducible rfl)
          try simp only [Act.put, List.getElem_toArray, List.getElem_cons_zero, List.getElem_cons_succ, List.setIfInBounds_toArray, List.set_cons_zero, List.set_cons_succ]
          refine wpAnyH_take (i := 5) (oi := _) (v := ?vE6) rfl (by kernel_rfl) (by kernel_rfl) (by kernel_rfl) (fun _ _ _ h => h) (Or.inl ⟨by rfl, ?yE6⟩) hHeld ?_
          case yE6 => (intro w hSw; (try dsimp only at hSw); go_simp <;> with_reducible rfl)
          try simp only [Act.put, List.getElem_toArray, List.getElem_cons_zero, List.getElem_cons_succ, List.setIfInBounds_toArray, List.set_cons_zero, List.set_cons_succ]
          refine wpAnyH_take (i := 6) (oi := _) (v := ?vE7) rfl (by kernel_rfl) (by kernel_rfl) (by kernel_rfl) (fun _ _ _ h => h) (Or.inl ⟨by rfl, ?yE7⟩) hHeld ?_
          case yE7 => (intro w hSw; (try dsimp only at hSw); go_simp <;> with_reducible rfl)
          try simp only [Act.put, List.getElem_toArray, List.getElem_cons_zero, List.getElem_cons_succ, List.setIfInBounds_toArray, List.set_cons_zero, List.set_cons_succ]
          refine wpAnyH_take (i := 7) (oi := _) (v := ?vE8) rfl (by kernel_rfl) (by kernel_rfl) (by kernel_rfl) (fun _ _ _ h => h) (Or.inl ⟨by rfl, ?yE8⟩) hHeld ?_
          case yE8 => (intro w hSw; (try dsimp only at hSw); go_simp <;> with_reducible rfl)
          try simp only [Act.put, List.getElem_toArray, List.getElem_cons_zero, List.getElem_cons_succ, List.setIfInBounds_toArray, List.set_cons_zero, List.set_cons_succ]
          refine wpAnyH_take (i := 8) (oi := _) (v := ?vE9) rfl (by kernel_rfl) (by kernel_rfl) (by kernel_rfl) (fun _ _ _ h => h) (Or.inl ⟨by rfl, ?yE9⟩) hHeld ?_
          case yE9 => (intro w hSw; (try dsimp only at hSw); go_simp <;> with_reducible rfl)
          try simp only [Act.put, List.getElem_toArray, List.getElem_cons_zero, List.getElem_cons_succ, List.setIfInBounds_toArray, List.set_cons_zero, List.set_cons_succ]
          refine wpAnyH_take (i := 9) (oi := _) (v := ?vE10) rfl (by kernel_rfl) (by kernel_rfl) (by kernel_rfl) (fun _ _ _ h => h) (Or.inl ⟨by rfl, ?yE10⟩) hHeld ?_
          case yE10 => (intro w hSw; (try dsimp only at hSw); go_simp <;> with_reducible rfl)
          try simp only [Act.put, List.getElem_toArray, List.getElem_cons_zero, List.getElem_cons_succ, List.setIfInBounds_toArray, List.set_cons_zero, List.set_cons_succ]
          refine wpAnyH_take (i := 10) (oi := _) (v := ?vE11) rfl (by kernel_rfl) (by kernel_rfl) (by kernel_rfl) (fun _ _ _ h => h) (Or.inl ⟨by rfl, ?yE11⟩) hHeld ?_
          case yE11 => (intro w hSw; (try dsimp only at hSw); go_simp <;> with_reducible rfl)
          try simp only [Act.put, List.getElem_toArray, List.getElem_cons_zero, List.getElem_cons_succ, List.setIfInBounds_toArray, List.set_cons_zero, List.set_cons_succ]
          obtain ⟨wd, hwd⟩ : ∃ wd, wd = wo.drew := ⟨_, rfl⟩
          rw [← hwd] at h0
          rw [← hwd]
          clear hwd
          refine wpAnyH_ready (rs := [11, 15]) (by kernel_rfl) (by simp) ?_
          refine AllReadyH.cons rfl (fun K hK => ?_) (AllReadyH.cons rfl (fun K hK => ?_) AllReadyH.nil)
          · go_simp
            go_wp2_with (go_at_call 26; refine (HEN.out _ (h0)).mono ?_; rintro e we1 ⟨q8, c8, q9, c9, rfl, rN, be1⟩)
            have h1 : Below wo.heap.size wo we1 := (h0).trans (be1.mono (h0).size)
            clear hHeld
            refine hK.out _ _ ?GE12 (fun hHeld => ?_)
            case GE12 => ((try dsimp only); exact KEEP.out _ h1)
            clear hK K
            try simp only [Act.put, List.getElem_toArray, List.getElem_cons_zero, List.getElem_cons_succ, List.setIfInBounds_toArray, List.set_cons_zero, List.set_cons_succ]
            refine wpAnyH_take (i := 12) (oi := _) (v := ?vE13) rfl (by kernel_rfl) (by kernel_rfl) (by kernel_rfl) (fun _ _ _ h => h) (Or.inl ⟨by rfl, ?yE13⟩) hHeld ?_
            case yE13 => (intro w hSw; (try dsimp only at hSw); go_simp <;> with_reducible rfl)
            try simp only [Act.put, List.getElem_toArray, List.getElem_cons_zero, List.getElem_cons_succ, List.setIfInBounds_toArray, List.set_cons_zero, List.set_cons_succ]
            refine wpAnyH_take (i := 13) (oi := _) (v := ?vE14) rfl (by kernel_rfl) (by kernel_rfl) (by kernel_rfl) (fun _ _ _ h => h) (Or.inl ⟨by rfl, ?yE14⟩) hHeld ?_
            case yE14 => (intro w hSw; (try dsimp only at hSw); go_simp <;> with_reducible rfl)
            try simp only [Act.put, List.getElem_toArray, List.getElem_cons_zero, List.getElem_cons_succ, List.setIfInBounds_toArray, List.set_cons_zero, List.set_cons_succ]
            refine wpAnyH_take (i := 14) (oi := _) (v := ?vE15) rfl (by kernel_rfl) (by kernel_rfl) (by kernel_rfl) (fun _ _ _ h => h) (Or.inl ⟨by rfl, ?yE15⟩) hHeld ?_
            case yE15 => (intro w hSw; (try dsimp only at hSw); go_simp <;> with_reducible rfl)
            try simp only [Act.put, List.getElem_toArray, List.getElem_cons_zero, List.getElem_cons_succ, List.setIfInBounds_toArray, List.set_cons_zero, List.set_cons_succ]
            obtain ⟨lo, hlo⟩ : ∃ lo, lo = (wd).heap.size := ⟨_, rfl⟩
            obtain ⟨hi, hhi⟩ : ∃ hi, hi = we1.heap.size := ⟨_, rfl⟩
            rw [← hlo, ← hhi] at rN
            have hhz : hi ≤ we1.heap.size := Nat.le_of_eq hhi
            clear hlo hhi
            refine wpAnyH_ready (rs := [15]) (by kernel_rfl) (by simp) ?_
            refine AllReadyH.cons rfl (fun K hK => ?_) AllReadyH.nil
            go_simp
            have kz2 : Below (we1).heap.size (we1) ((we1).alloc (.cells #[.string ⟨#[]⟩, .int .i64 0, .int .i64 0, .int .i64 0, .slice none 0 0, .slice none 0 0] 60 (0, 0))) := (Below.refl _ _).alloc (Nat.le_refl _) _
            have h2 : Below wo.heap.size wo ((we1).alloc (.cells #[.string ⟨#[]⟩, .int .i64 0, .int .i64 0, .int .i64 0, .slice none 0 0, .slice none 0 0] 60 (0, 0))) := (h1).trans (kz2.mono (h1).size)
            have hg8 : ((we1).alloc (.cells #[.string ⟨#[]⟩, .int .i64 0, .int .i64 0, .int .i64 0, .slice none 0 0, .slice none 0 0] 60 (0, 0))).heap[(we1).heap.size]? = some (.cells #[.string ⟨#[]⟩, .int .i64 0, .int .i64 0, .int .i64 0, .slice none 0 0, .slice none 0 0] 60 (0, 0)) := vheap_new _ _
            have hge8 : wo.heap.size ≤ (we1).heap.size := (h1).size
            have hgn : ¬ Ow lo hi (we1).heap.size := fun hh => by have := hh.2; omega
            have rN := rN.keep (fun b hb => kz2.block b (by have := hb.2; omega))
            have hhz := Nat.le_trans hhz kz2.size
            clear hHeld
            refine hK.out _ ((we1).alloc (.cells #[.string ⟨#[]⟩, .int .i64 0, .int .i64 0, .int .i64 0, .slice none 0 0, .slice none 0 0] 60 (0, 0))) ?G92 (fun hHeld => ?_)
            case G92 => (exact KEEP.out _ h2)
            clear hK K
            try simp only [Act.put, List.getElem_toArray, List.getElem_cons_zero, List.getElem_cons_succ, List.setIfInBounds_toArray, List.set_cons_zero, List.set_cons_succ]
            obtain ⟨g8, hge⟩ : ∃ g, g = (we1).heap.size := ⟨_, rfl⟩
            rw [← hge] at hg8 hge8 hgn
            try rw [← hge]
            obtain ⟨wa2, hwa⟩ : ∃ wa, wa = (we1).alloc (.cells #[.string ⟨#[]⟩, .int .i64 0, .int .i64 0, .int .i64 0, .slice none 0 0, .slice none 0 0] 60 (0, 0)) := ⟨_, rfl⟩
            rw [← hwa] at hg8 h2 rN hhz
            try rw [← hwa]
            clear hge hwa kz2
            have fy := vblk_frozen hg8
            have y0 := vblk_cell hg8 0
            have y1 := vblk_cell hg8 1
            have y2 := vblk_cell hg8 2
            have y3 := vblk_cell hg8 3
            have y4 := vblk_cell hg8 4
            have y5 := vblk_cell hg8 5
            simp only [List.getElem?_toArray, List.getElem?_cons_succ, List.getElem?_cons_zero] at y0 y1 y2 y3 y4 y5
            have hst : Below wo.heap.size wo ((((((wa2.setCell ⟨g8, 0, none⟩ (.string DD.name)).setCell ⟨g8, 1, none⟩ (.int .i64 DD.vA)).setCell ⟨g8, 2, none⟩ (.int .i64 DD.vB)).setCell ⟨g8, 3, none⟩ (.int .i64 DD.vC)).setCell ⟨g8, 4, none⟩ (.slice q8 DD.vP.length c8)).setCell ⟨g8, 5, none⟩ (.slice q9 DD.needs.length c9)) := Below.setCell (Below.setCell (Below.setCell (Below.setCell (Below.setCell (Below.setCell (h2) hge8 _) hge8 _) hge8 _) hge8 _) hge8 _) hge8 _
            have hbs := heap_setCell_same _ _ 5 _ _ (.slice q9 DD.needs.length c9) (heap_setCell_same _ _ 4 _ _ (.slice q8 DD.vP.length c8) (heap_setCell_same _ _ 3 _ _ (.int .i64 DD.vC) (heap_setCell_same _ _ 2 _ _ (.int .i64 DD.vB) (heap_setCell_same _ _ 1 _ _ (.int .i64 DD.vA) (heap_setCell_same _ _ 0 _ _ (.string DD.name) hg8)))))
            have rS := rN.keep (w' := ((((((wa2.setCell ⟨g8, 0, none⟩ (.string DD.name)).setCell ⟨g8, 1, none⟩ (.int .i64 DD.vA)).setCell ⟨g8, 2, none⟩ (.int .i64 DD.vB)).setCell ⟨g8, 3, none⟩ (.int .i64 DD.vC)).setCell ⟨g8, 4, none⟩ (.slice q8 DD.vP.length c8)).setCell ⟨g8, 5, none⟩ (.slice q9 DD.needs.length c9))) (fun b hb => by (repeat (rw [Below.heap_setCell _ _ _ _ (by simp; rintro rfl; exact hgn hb)])))
            refine wpAnyH_ready (rs := [16]) (by kernel_rfl) (by simp) ?_
            refine AllReadyH.cons rfl (fun K hK => ?_) AllReadyH.nil
            go_simp
            clear hHeld
            refine hK.out _ ((((((wa2.setCell ⟨g8, 0, none⟩ (.string DD.name)).setCell ⟨g8, 1, none⟩ (.int .i64 DD.vA)).setCell ⟨g8, 2, none⟩ (.int .i64 DD.vB)).setCell ⟨g8, 3, none⟩ (.int .i64 DD.vC)).setCell ⟨g8, 4, none⟩ (.slice q8 DD.vP.length c8)).setCell ⟨g8, 5, none⟩ (.slice q9 DD.needs.length c9)) ?GS16 (fun hHeld => ?_)
            case GS16 => (exact KEEP.out _ hst)
            clear hK K
            try simp only [Act.put, List.getElem_toArray, List.getElem_cons_zero, List.getElem_cons_succ, List.setIfInBounds_toArray, List.set_cons_zero, List.set_cons_succ]
            refine wpAnyH_take (i := 17) (oi := _) (v := ?vE17) rfl (by kernel_rfl) (by kernel_rfl) (by kernel_rfl) (fun _ _ _ h => h) (Or.inl ⟨by rfl, ?yE17⟩) hHeld ?_
            case yE17 => (intro w hSw; (try dsimp only at hSw); go_simp <;> with_reducible rfl)
            try simp only [Act.put, List.getElem_toArray, List.getElem_cons_zero, List.getElem_cons_succ, List.setIfInBounds_toArray, List.set_cons_zero, List.set_cons_succ]
            have hb8 : ((((((wa2.setCell ⟨g8, 0, none⟩ (.string DD.name)).setCell ⟨g8, 1, none⟩ (.int .i64 DD.vA)).setCell ⟨g8, 2, none⟩ (.int .i64 DD.vB)).setCell ⟨g8, 3, none⟩ (.int .i64 DD.vC)).setCell ⟨g8, 4, none⟩ (.slice q8 DD.vP.length c8)).setCell ⟨g8, 5, none⟩ (.slice q9 DD.needs.length c9)).heap[g8]? = some (.cells #[.string DD.name, .int .i64 DD.vA, .int .i64 DD.vB, .int .i64 DD.vC, .slice q8 DD.vP.length c8, .slice q9 DD.needs.length c9] 60 (0, 0)) := by simpa only [List.setIfInBounds_toArray, List.set_cons_succ, List.set_cons_zero] using hbs
            have hhs : hi ≤ ((((((wa2.setCell ⟨g8, 0, none⟩ (.string DD.name)).setCell ⟨g8, 1, none⟩ (.int .i64 DD.vA)).setCell ⟨g8, 2, none⟩ (.int .i64 DD.vB)).setCell ⟨g8, 3, none⟩ (.int .i64 DD.vC)).setCell ⟨g8, 4, none⟩ (.slice q8 DD.vP.length c8)).setCell ⟨g8, 5, none⟩ (.slice q9 DD.needs.length c9)).heap.size := by simp only [World.setCell, Array.size_modify]; exact hhz
            obtain ⟨wY, hWY⟩ : ∃ wY, wY = ((((((wa2.setCell ⟨g8, 0, none⟩ (.string DD.name)).setCell ⟨g8, 1, none⟩ (.int .i64 DD.vA)).setCell ⟨g8, 2, none⟩ (.int .i64 DD.vB)).setCell ⟨g8, 3, none⟩ (.int .i64 DD.vC)).setCell ⟨g8, 4, none⟩ (.slice q8 DD.vP.length c8)).setCell ⟨g8, 5, none⟩ (.slice q9 DD.needs.length c9)) := ⟨_, rfl⟩
            rw [← hWY] at hst rS hb8 hhs
            rw [← hWY]
            clear hWY y0 y1 y2 y3 y4 y5 fy hg8 hbs rN hHeld hgn hhz
            refine wpAnyH_done (by kernel_rfl) ?_ _
            go_wp2_with fail
            go_meet
            case rel => exact ⟨g8, q8, c8, q9, c9, lo, hi, rfl, rfl, hb8, rS, hhs, hst⟩
          · go_simp
            have kz3 : Below (wd).heap.size (wd) ((wd).alloc (.cells #[.string ⟨#[]⟩, .int .i64 0, .int .i64 0, .int .i64 0, .slice none 0 0, .slice none 0 0] 60 (0, 0))) := (Below.refl _ _).alloc (Nat.le_refl _) _
            have h3 : Below wo.heap.size wo ((wd).alloc (.cells #[.string ⟨#[]⟩, .int .i64 0, .int .i64 0, .int .i64 0, .slice none 0 0, .slice none 0 0] 60 (0, 0))) := (h0).trans (kz3.mono (h0).size)
            have hg8 : ((wd).alloc (.cells #[.string ⟨#[]⟩, .int .i64 0, .int .i64 0, .int .i64 0, .slice none 0 0, .slice none 0 0] 60 (0, 0))).heap[(wd).heap.size]? = some (.cells #[.string ⟨#[]⟩, .int .i64 0, .int .i64 0, .int .i64 0, .slice none 0 0, .slice none 0 0] 60 (0, 0)) := vheap_new _ _
            have hge8 : wo.heap.size ≤ (wd).heap.size := (h0).size
            clear hHeld
            refine hK.out _ ((wd).alloc (.cells #[.string ⟨#[]⟩, .int .i64 0, .int .i64 0, .int .i64 0, .slice none 0 0, .slice none 0 0] 60 (0, 0))) ?G93 (fun hHeld => ?_)
            case G93 => (exact KEEP.out _ h3)
            clear hK K
            try simp only [Act.put, List.getElem_toArray, List.getElem_cons_zero, List.getElem_cons_succ, List.setIfInBounds_toArray, List.set_cons_zero, List.set_cons_succ]
            obtain ⟨g8, hge⟩ : ∃ g, g = (wd).heap.size := ⟨_, rfl⟩
            rw [← hge] at hg8 hge8
            try rw [← hge]
            obtain ⟨wa3, hwa⟩ : ∃ wa, wa = (wd).alloc (.cells #[.string ⟨#[]⟩, .int .i64 0, .int .i64 0, .int .i64 0, .slice none 0 0, .slice none 0 0] 60 (0, 0)) := ⟨_, rfl⟩
            rw [← hwa] at hg8 h3
            try rw [← hwa]
            clear hge hwa kz3
            refine wpAnyH_ready (rs := [11]) (by kernel_rfl) (by simp) ?_
            refine AllReadyH.cons rfl (fun K hK => ?_) AllReadyH.nil
            go_simp
            go_wp2_with (go_at_call 26; refine (HEN.out _ (h3)).mono ?_; rintro e we4 ⟨q8, c8, q9, c9, rfl, rN, be4⟩)
            have h4 : Below wo.heap.size wo we4 := (h3).trans (be4.mono (h3).size)
            have hgl := (Array.getElem?_eq_some_iff.1 hg8).1
            have hg8 := box_below hg8 be4
            have hgn : ¬ Ow (wa3).heap.size we4.heap.size g8 := fun hh => by have := hh.1; omega
            clear hHeld
            refine hK.out _ _ ?GE18 (fun hHeld => ?_)
            case GE18 => ((try dsimp only); exact KEEP.out _ h4)
            clear hK K
            try simp only [Act.put, List.getElem_toArray, List.getElem_cons_zero, List.getElem_cons_succ, List.setIfInBounds_toArray, List.set_cons_zero, List.set_cons_succ]
            refine wpAnyH_take (i := 12) (oi := _) (v := ?vE19) rfl (by kernel_rfl) (by kernel_rfl) (by kernel_rfl) (fun _ _ _ h => h) (Or.inl ⟨by rfl, ?yE19⟩) hHeld ?_
            case yE19 => (intro w hSw; (try dsimp only at hSw); go_simp <;> with_reducible rfl)
            try simp only [Act.put, List.getElem_toArray, List.getElem_cons_zero, List.getElem_cons_succ, List.setIfInBounds_toArray, List.set_cons_zero, List.set_cons_succ]
            refine wpAnyH_take (i := 13) (oi := _) (v := ?vE20) rfl (by kernel_rfl) (by kernel_rfl) (by kernel_rfl) (fun _ _ _ h => h) (Or.inl ⟨by rfl, ?yE20⟩) hHeld ?_
            case yE20 => (intro w hSw; (try dsimp only at hSw); go_simp <;> with_reducible rfl)
            try simp only [Act.put, List.getElem_toArray, List.getElem_cons_zero, List.getElem_cons_succ, List.setIfInBounds_toArray, List.set_cons_zero, List.set_cons_succ]
            refine wpAnyH_take (i := 14) (oi := _) (v := ?vE21) rfl (by kernel_rfl) (by kernel_rfl) (by kernel_rfl) (fun _ _ _ h => h) (Or.inl ⟨by rfl, ?yE21⟩) hHeld ?_
            case yE21 => (intro w hSw; (try dsimp only at hSw); go_simp <;> with_reducible rfl)
            try simp only [Act.put, List.getElem_toArray, List.getElem_cons_zero, List.getElem_cons_succ, List.setIfInBounds_toArray, List.set_cons_zero, List.set_cons_succ]
            obtain ⟨lo, hlo⟩ : ∃ lo, lo = (wa3).heap.size := ⟨_, rfl⟩
            obtain ⟨hi, hhi⟩ : ∃ hi, hi = we4.heap.size := ⟨_, rfl⟩
            rw [← hlo, ← hhi] at rN hgn
            have hhz : hi ≤ we4.heap.size := Nat.le_of_eq hhi
            clear hlo hhi
            have fy := vblk_frozen hg8
            have y0 := vblk_cell hg8 0
            have y1 := vblk_cell hg8 1
            have y2 := vblk_cell hg8 2
            have y3 := vblk_cell hg8 3
            have y4 := vblk_cell hg8 4
            have y5 := vblk_cell hg8 5
            simp only [List.getElem?_toArray, List.getElem?_cons_succ, List.getElem?_cons_zero] at y0 y1 y2 y3 y4 y5
            have hst : Below wo.heap.size wo ((((((we4.setCell ⟨g8, 0, none⟩ (.string DD.name)).setCell ⟨g8, 1, none⟩ (.int .i64 DD.vA)).setCell ⟨g8, 2, none⟩ (.int .i64 DD.vB)).setCell ⟨g8, 3, none⟩ (.int .i64 DD.vC)).setCell ⟨g8, 4, none⟩ (.slice q8 DD.vP.length c8)).setCell ⟨g8, 5, none⟩ (.slice q9 DD.needs.length c9)) := Below.setCell (Below.setCell (Below.setCell (Below.setCell (Below.setCell (Below.setCell (h4) hge8 _) hge8 _) hge8 _) hge8 _) hge8 _) hge8 _
            have hbs := heap_setCell_same _ _ 5 _ _ (.slice q9 DD.needs.length c9) (heap_setCell_same _ _ 4 _ _ (.slice q8 DD.vP.length c8) (heap_setCell_same _ _ 3 _ _ (.int .i64 DD.vC) (heap_setCell_same _ _ 2 _ _ (.int .i64 DD.vB) (heap_setCell_same _ _ 1 _ _ (.int .i64 DD.vA) (heap_setCell_same _ _ 0 _ _ (.string DD.name) hg8)))))
            have rS := rN.keep (w' := ((((((we4.setCell ⟨g8, 0, none⟩ (.string DD.name)).setCell ⟨g8, 1, none⟩ (.int .i64 DD.vA)).setCell ⟨g8, 2, none⟩ (.int .i64 DD.vB)).setCell ⟨g8, 3, none⟩ (.int .i64 DD.vC)).setCell ⟨g8, 4, none⟩ (.slice q8 DD.vP.length c8)).setCell ⟨g8, 5, none⟩ (.slice q9 DD.needs.length c9))) (fun b hb => by (repeat (rw [Below.heap_setCell _ _ _ _ (by simp; rintro rfl; exact hgn hb)])))
            refine wpAnyH_ready (rs := [16]) (by kernel_rfl) (by simp) ?_
            refine AllReadyH.cons rfl (fun K hK => ?_) AllReadyH.nil
            go_simp
            clear hHeld
            refine hK.out _ ((((((we4.setCell ⟨g8, 0, none⟩ (.string DD.name)).setCell ⟨g8, 1, none⟩ (.int .i64 DD.vA)).setCell ⟨g8, 2, none⟩ (.int .i64 DD.vB)).setCell ⟨g8, 3, none⟩ (.int .i64 DD.vC)).setCell ⟨g8, 4, none⟩ (.slice q8 DD.vP.length c8)).setCell ⟨g8, 5, none⟩ (.slice q9 DD.needs.length c9)) ?GS22 (fun hHeld => ?_)
            case GS22 => (exact KEEP.out _ hst)
            clear hK K
            try simp only [Act.put, List.getElem_toArray, List.getElem_cons_zero, List.getElem_cons_succ, List.setIfInBounds_toArray, List.set_cons_zero, List.set_cons_succ]
            refine wpAnyH_take (i := 17) (oi := _) (v := ?vE23) rfl (by kernel_rfl) (by kernel_rfl) (by kernel_rfl) (fun _ _ _ h => h) (Or.inl ⟨by rfl, ?yE23⟩) hHeld ?_
            case yE23 => (intro w hSw; (try dsimp only at hSw); go_simp <;> with_reducible rfl)
            try simp only [Act.put, List.getElem_toArray, List.getElem_cons_zero, List.getElem_cons_succ, List.setIfInBounds_toArray, List.set_cons_zero, List.set_cons_succ]
            have hb8 : ((((((we4.setCell ⟨g8, 0, none⟩ (.string DD.name)).setCell ⟨g8, 1, none⟩ (.int .i64 DD.vA)).setCell ⟨g8, 2, none⟩ (.int .i64 DD.vB)).setCell ⟨g8, 3, none⟩ (.int .i64 DD.vC)).setCell ⟨g8, 4, none⟩ (.slice q8 DD.vP.length c8)).setCell ⟨g8, 5, none⟩ (.slice q9 DD.needs.length c9)).heap[g8]? = some (.cells #[.string DD.name, .int .i64 DD.vA, .int .i64 DD.vB, .int .i64 DD.vC, .slice q8 DD.vP.length c8, .slice q9 DD.needs.length c9] 60 (0, 0)) := by simpa only [List.setIfInBounds_toArray, List.set_cons_succ, List.set_cons_zero] using hbs
            have hhs : hi ≤ ((((((we4.setCell ⟨g8, 0, none⟩ (.string DD.name)).setCell ⟨g8, 1, none⟩ (.int .i64 DD.vA)).setCell ⟨g8, 2, none⟩ (.int .i64 DD.vB)).setCell ⟨g8, 3, none⟩ (.int .i64 DD.vC)).setCell ⟨g8, 4, none⟩ (.slice q8 DD.vP.length c8)).setCell ⟨g8, 5, none⟩ (.slice q9 DD.needs.length c9)).heap.size := by simp only [World.setCell, Array.size_modify]; exact hhz
            obtain ⟨wY, hWY⟩ : ∃ wY, wY = ((((((we4.setCell ⟨g8, 0, none⟩ (.string DD.name)).setCell ⟨g8, 1, none⟩ (.int .i64 DD.vA)).setCell ⟨g8, 2, none⟩ (.int .i64 DD.vB)).setCell ⟨g8, 3, none⟩ (.int .i64 DD.vC)).setCell ⟨g8, 4, none⟩ (.slice q8 DD.vP.length c8)).setCell ⟨g8, 5, none⟩ (.slice q9 DD.needs.length c9)) := ⟨_, rfl⟩
            rw [← hWY] at hst rS hb8 hhs
            rw [← hWY]
            clear hWY y0 y1 y2 y3 y4 y5 fy hg8 hbs rN hHeld hgn hhz
            refine wpAnyH_done (by kernel_rfl) ?_ _
            go_wp2_with fail
            go_meet
            case rel => exact ⟨g8, q8, c8, q9, c9, lo, hi, rfl, rfl, hb8, rS, hhs, hst⟩
        case rest =>
          obtain ⟨g8, q8, c8, q9, c9, lo, hi, rfl, rfl, hg8, rN, hhz, hst⟩ := hcut
          have kc := hbr.trans (hst.mono hbr.size)
          have y5 : wc.cell? ⟨g8, 5, none⟩ = some (.slice q9 DD.needs.length c9) := vblk_cell hg8 5
          have HMC := hidden (HMT.out wc (Ow lo hi) _ DD.needs kc rN (fun b hb => Nat.lt_of_lt_of_le hb.2 hhz) hwDD)
          rw [← hMB2] at HMC
          clear HEN KEEP h0 hg8 rN hMB2 hhz
          cases IS with
          | false =>
            have HE := hidden (HF.out rfl)
            clear HF HN'
            go_wp2_with fail
            go_ret
            exact ⟨by rw [HE.out]; rfl, kc⟩
          | true =>
            rw [Bool.true_and] at HF HN'
            go_wp2_with fail
            go_at_call 25
            refine HMC.out.mono ?_
            rintro e w7 ⟨rfl, b7⟩
            have k7 := kc.trans (b7.mono kc.size)
            clear HMC y5
            cases MB2 with
            | false =>
              have HE := hidden (HF.out rfl)
              clear HF HN'
              go_wp2_with fail
              go_ret
              exact ⟨by rw [HE.out]; rfl, k7⟩
            | true =>
              have HN2 := hidden (HN'.out rfl)
              clear HF HN' kc hst b7
              go_wp2_with fail
              go_loopw [10] (fun vj wr => ∃ j : Nat, j ≤ k ∧ vj = .int .i64 (j : Int) ∧ Hid (∀ i (hi : i < k), i < j → ¬ l[i].name = l[k].name) ∧ Below w.heap.size w wr) (fun vj _ => k - (intOf vj).toNat)
              case atStart => exact ⟨0, Nat.zero_le _, rfl, (fun j hj h => by omega), k7⟩
              case round =>
                obtain ⟨j, hj, rfl, hnj, hbj⟩ := hrel
                by_cases hjk : j < k
                · have z0 := HNM.out j (by omega) wr hbj
                  have z1 := HNM.out k hlt' wr hbj
                  have hji : (j : Int) < (k : Int) := by omega
                  have hjl : (j : Int) < (l.length : Int) := by omega
                  have HF1 : Hid (l[j].name = l[k].name → R = false) := HFN.out j hjk
                  have HF2 : Hid (¬ l[j].name = l[k].name → ∀ i (hi : i < k), i < j + 1 → ¬ l[i].name = l[k].name) := fun h i hi hij => by
                    by_cases e : i = j
                    · subst e; exact h
                    · exact hnj.out i hi (by omega)
                  obtain ⟨t0, ht0⟩ : ∃ t, t = l[j].name := ⟨_, rfl⟩
                  obtain ⟨t1, ht1⟩ : ∃ t, t = l[k].name := ⟨_, rfl⟩
                  rw [← ht0] at z0 HF1 HF2
                  rw [← ht1] at z1 HF1
                  have HF3 : Hid (¬ t0 = t1 → ∀ i (hi : i < k), i < j + 1 → ¬ l[i].name = l[k].name) := fun h => HF2.out (by rw [← ht1]; exact h)
                  have hal := name_alike t0 t1
                  clear hnj HF2 ht0 ht1 HFN
                  by_cases hts : t0 = t1
                  · have hq : (t0.toList == t1.toList) = true := by rw [hal]; simpa using hts
                    have HE := hidden (HF1.out hts)
                    clear HF1 HF3 hts hal
                    go_wp2_with fail
                    go_quiet (fail)
                    go_wp2_with fail
                    go_ret
                    exact ⟨by rw [HE.out]; rfl, by first | exact hbj | exact hbj.drew | exact below_drewN' hbj _⟩
                  · have hq : (t0.toList == t1.toList) = false := by rw [hal]; simpa using hts
                    have HN3 := hidden (HF3.out hts)
                    clear HF1 HF3 hts hal
                    go_wp2_with fail
                    go_quiet (fail)
                    go_wp2_with fail
                    go_roundw
                    case rel => exact ⟨j + 1, by omega, by go_num, HN3.out, by first | exact hbj | exact hbj.drew | exact below_drewN' hbj _⟩
                    case measure => simp [intOf]; omega
                · have he : j = k := by omega
                  subst he
                  have HN3 := hidden (HN2.out (fun i hi => hnj.out i hi hi))
                  clear hnj HFN HN2
                  go_wp2_with fail
                  go_roundw
                  case rel => exact ⟨j + 1, by omega, by go_num, HN3.out, hbj⟩
                  case measure => simp [intOf]; omega
      · have he : k = l.length := by omega
        subst he
        have HE : Hid (R = true) := HR.out.trans (solB_true HMB.out.symm (fun i hi => hno.out i hi hi))
        clear hno HR HA HMT HEN0
        go_wp2_with fail
        go_ret
        exact ⟨by rw [HE.out]; rfl, hbr⟩
end Go.Proofs.YtbolphjigjpmiabGreatDoor

/-! How much needs hold, as the law counts it: contracts for the walks; conditions: at most 2 to the 20 is left to count. -/
namespace Go.Proofs.YtbolphjigjpmiabGreatDoor
open Go.RowKit
set_option linter.unusedSimpArgs false
set_option linter.unusedVariables false

set_option maxHeartbeats 2000000 in
set_option maxRecDepth 100000 in
theorem szNeed_c (S : Nat → Prop) (d : NeedD) (cs : List Value) (left : Int) (h0 : 0 ≤ left) (h1 : left ≤ 1048576) (w : World) (hd : shNeed.lies S w cs d) (hB : ∀ b, S b → b < w.heap.size) :
    Calls Tryz.prog 23 #[.agg cs.toArray, .int .i64 left] w fun e w' => e = .returned (.int .i64 (leftW (wtNeed d) left)) ∧ Below w.heap.size w w' := by
  obtain ⟨rfl, s_n, s_r⟩ := hd
  unfold maxLen at s_n
  unfold maxLen at s_r
  have hbx : ∀ o, Below w.heap.size w (w.alloc o) := fun o => (Below.refl _ _).alloc (Nat.le_refl _) _
  obtain ⟨R, hR⟩ : ∃ R, R = leftW (wtNeed d) left := ⟨_, rfl⟩
  rw [← hR]
  have lt := lw (wtNeed d) left
  rw [← hR] at lt
  unfold wtNeed at lt
  clear hR
  by_cases n0 : (left - (d.n.size : Int)) < 0
  · have HR : Hid (R = -1) := by show _ = _; omega
    clear lt 
    go_enter Tryz.func23, Tryz.ntmps23
    go_wp2_with fail
    go_ret
    exact ⟨by rw [HR.out]; rfl, (hbx _)⟩
  by_cases n1 : ((left - (d.n.size : Int)) - (d.r.size : Int)) < 0
  · have HR : Hid (R = -1) := by show _ = _; omega
    clear lt 
    go_enter Tryz.func23, Tryz.ntmps23
    go_wp2_with fail
    go_ret
    exact ⟨by rw [HR.out]; rfl, (hbx _)⟩
  have HR : Hid (R = ((left - (d.n.size : Int)) - (d.r.size : Int))) := by show _ = _; omega
  clear lt 
  go_enter Tryz.func23, Tryz.ntmps23
  go_wp2_with fail
  go_ret
  exact ⟨by rw [HR.out]; rfl, (hbx _)⟩

set_option maxHeartbeats 2000000 in
set_option maxRecDepth 100000 in
theorem szNeedS_c (S : Nat → Prop) (v : Value) (xs : List NeedD) (left : Int) (h0 : 0 ≤ left) (h1 : left ≤ 1048576) (w : World) (hv : RowIn shNeed S w v xs) (hB : ∀ b, S b → b < w.heap.size) :
    Calls Tryz.prog 6 #[v, .int .i64 left] w fun e w' => e = .returned (.int .i64 (leftW (wtRow wtNeed xs) left)) ∧ Below w.heap.size w w' := by
  obtain ⟨a, cap, rfl, hl, hc, ha⟩ := hv
  unfold maxLen at hl
  by_cases hneg : left - (xs.length : Int) < 0
  · have e : leftW (wtRow wtNeed xs) left = -1 := leftW_bad (by have := len_wtRow wtNeed xs; omega)
    rw [e]
    clear ha
    go_enter Tryz.func6, Tryz.ntmps6
    go_wp2_with fail
    go_ret
    exact ⟨rfl, Below.refl _ _⟩
  · go_enter Tryz.func6, Tryz.ntmps6
    go_wp2_with fail
    go_loopw [1, 5] (fun vl vi wr => ∃ (k : Nat) (q : Int), k ≤ xs.length ∧ vi = .int .i64 (k : Int) ∧ vl = .int .i64 q ∧ 0 ≤ q ∧ q ≤ 1048576 ∧ Hid (q = left - (xs.length : Int) - (wtRow wtNeed (xs.take k) : Int) + (k : Int)) ∧ Below w.heap.size w wr) (fun _ vi _ => xs.length - (intOf vi).toNat)
    case atStart => exact ⟨0, _, Nat.zero_le _, rfl, rfl, by omega, by omega, by show _ = _; simp [wtRow], Below.refl _ _⟩
    case round =>
      obtain ⟨k, q, hk, rfl, rfl, hq0, hq1, hq, hbr⟩ := hrel
      by_cases hlt' : k < xs.length
      · rcases ha with rfl | ⟨b, off, rfl, hlt, ha⟩
        · simp at hlt'
        obtain ⟨cs, hL, hcell⟩ := ha k hlt'
        have hL2 := shNeed.keep (.of hbr hB) hL
        have hcell2 := hcell.keep (.of hbr hB) hlt
        have hBr : ∀ b, S b → b < wr.heap.size := fun b h => Nat.lt_of_lt_of_le (hB b h) hbr.size
        have hwt := wtRow_take wtNeed xs k hlt'
        have hsp := wtRow_split wtNeed xs (k + 1)
        have hln := len_wtRow wtNeed (xs.drop (k + 1))
        have hdl : (xs.drop (k + 1)).length = xs.length - (k + 1) := by simp
        obtain ⟨d, hd⟩ : ∃ d, d = xs[k] := ⟨_, rfl⟩
        rw [← hd] at hL2 hwt
        have HW : Hid (wtRow wtNeed (xs.take (k + 1)) = wtRow wtNeed (xs.take k) + (1 + wtNeed d)) := hwt
        have HSP : Hid (wtRow wtNeed xs = wtRow wtNeed (xs.take (k + 1)) + wtRow wtNeed (xs.drop (k + 1)) ∧ xs.length - (k + 1) ≤ wtRow wtNeed (xs.drop (k + 1))) := ⟨hsp, by omega⟩
        have hki : (k : Int) < (xs.length : Int) := by omega
        obtain ⟨p, hp⟩ : ∃ p, p = leftW (wtNeed d) q := ⟨_, rfl⟩
        have HP : Hid (p = leftW (wtNeed d) q) := hp
        have HC := szNeed_c S d cs q hq0 hq1 wr hL2 hBr
        rw [← hp] at HC
        clear hL hcell ha hwt hd hp hsp hln hdl
        obtain ⟨rfl, s_n, s_r⟩ := hL2
        clear s_n s_r
        have e0 : wr.cell? ⟨b, off + k * 2, none⟩ = some (.string d.n) := hcell2 0 (by simp)
        have e1 : wr.cell? ⟨b, off + k * 2 + 1, none⟩ = some (.string d.r) := hcell2 1 (by simp)
        have HC2 := hidden HC
        clear hcell2 HC
        by_cases hpn : p < 0
        · go_wp2_with (go_at_call 23; refine HC2.out.mono ?_; rintro e w1 ⟨rfl, hb1⟩)
          go_ret
          have e : leftW (wtRow wtNeed xs) left = -1 := by
            have h2 := HP.out; have h3 := hq.out; have h4 := HW.out; have h5 := HSP.out
            refine leftW_bad ?_
            by_cases h6 : ((wtNeed d : Nat) : Int) ≤ q
            · rw [leftW_good h6] at h2; omega
            · omega
          exact ⟨by rw [e]; rfl, hbr.trans (hb1.mono hbr.size)⟩
        · go_wp2_with (go_at_call 23; refine HC2.out.mono ?_; rintro e w1 ⟨rfl, hb1⟩)
          go_roundw
          case rel =>
            have h2 := HP.out; have h3 := hq.out; have h4 := HW.out
            have h6 : ((wtNeed d : Nat) : Int) ≤ q := by
              by_cases h6 : ((wtNeed d : Nat) : Int) ≤ q
              · exact h6
              · rw [leftW_bad (by omega)] at h2; omega
            rw [leftW_good h6] at h2
            exact ⟨k + 1, p, by omega, by go_num, rfl, by omega, by omega, (by show _ = _; omega), hbr.trans (hb1.mono hbr.size)⟩
          case measure => simp [intOf]; omega
      · have he : k = xs.length := by omega
        subst he
        clear ha
        go_wp2_with fail
        go_ret
        have e : leftW (wtRow wtNeed xs) left = q := by
          have h3 := hq.out
          rw [List.take_length] at h3
          rw [leftW_good (by omega)]; omega
        exact ⟨by rw [e]; rfl, hbr⟩

end Go.Proofs.YtbolphjigjpmiabGreatDoor

/-! How much they hold, as the law counts it: contracts for the walks; conditions: at most 2 to the 20 is left to count. -/
namespace Go.Proofs.YtbolphjigjpmiabGreatDoor
open Go.RowKit
set_option linter.unusedSimpArgs false
set_option linter.unusedVariables false

set_option maxHeartbeats 2000000 in
set_option maxRecDepth 100000 in
theorem szEntry_c (S : Nat → Prop) (d : EntryD) (cs : List Value) (left : Int) (h0 : 0 ≤ left) (h1 : left ≤ 1048576) (w : World) (hd : shEntry.lies S w cs d) (hB : ∀ b, S b → b < w.heap.size) :
    Calls Tryz.prog 22 #[.agg cs.toArray, .int .i64 left] w fun e w' => e = .returned (.int .i64 (leftW (wtEntry d) left)) ∧ Below w.heap.size w w' := by
  obtain ⟨u0, u1, rfl, s_name, r0, p0, r1⟩ := hd
  unfold maxLen at s_name
  have hbx : ∀ o, Below w.heap.size w (w.alloc o) := fun o => (Below.refl _ _).alloc (Nat.le_refl _) _
  obtain ⟨R, hR⟩ : ∃ R, R = leftW (wtEntry d) left := ⟨_, rfl⟩
  rw [← hR]
  obtain ⟨q0, hq0⟩ : ∃ q, q = leftW (bulkS d.vP) (left - (d.name.size : Int)) := ⟨_, rfl⟩
  obtain ⟨q1, hq1⟩ : ∃ q, q = leftW (wtRow wtNeed d.needs) q0 := ⟨_, rfl⟩
  have HS0 : Hid (0 ≤ (left - (d.name.size : Int)) → (left - (d.name.size : Int)) ≤ 1048576 → ∀ w1, Below w.heap.size w w1 → Calls Tryz.prog 52 #[.agg #[.int .i64 d.vA, .int .i64 d.vB, .int .i64 d.vC, u0], .int .i64 (left - (d.name.size : Int))] w1 fun e w' => e = .returned (.int .i64 q0) ∧ Below w1.heap.size w1 w') := fun a b w1 hb => by
    rw [hq0]; exact szVer_c _ _ _ u0 d.vP _ a b w1 ((r0.keep (.of hb hB)).reads (fun b h => Nat.lt_of_lt_of_le (hB b h) hb.size)) p0
  have HS1 : Hid (0 ≤ q0 → q0 ≤ 1048576 → ∀ w1, Below w.heap.size w w1 → Calls Tryz.prog 6 #[u1, .int .i64 q0] w1 fun e w' => e = .returned (.int .i64 q1) ∧ Below w1.heap.size w1 w') := fun a b w1 hb => by
    rw [hq1]; exact szNeedS_c S u1 d.needs _ a b w1 (r1.keep (.of hb hB)) (fun b h => Nat.lt_of_lt_of_le (hB b h) hb.size)
  obtain ⟨a0, cap0, eu0, _⟩ := id r0
  rw [length_strsV] at eu0
  subst eu0
  clear r0
  obtain ⟨a1, cap1, eu1, _⟩ := id r1
  subst eu1
  clear r1
  have lt := lw (wtEntry d) left
  have l0 := lw (bulkS d.vP) (left - (d.name.size : Int))
  rw [← hq0] at l0
  have l1 := lw (wtRow wtNeed d.needs) q0
  rw [← hq1] at l1
  rw [← hR] at lt
  unfold wtEntry at lt
  clear hq0 hq1 hR
  by_cases n0 : (left - (d.name.size : Int)) < 0
  · have HR : Hid (R = -1) := by show _ = _; omega
    clear lt l0 l1
    clear HS0
    clear HS1
    go_enter Tryz.func22, Tryz.ntmps22
    go_wp2_with fail
    go_ret
    exact ⟨by rw [HR.out]; rfl, (hbx _)⟩
  by_cases n1 : q0 < 0
  · have HR : Hid (R = -1) := by show _ = _; omega
    have g0a : 0 ≤ (left - (d.name.size : Int)) := by omega
    have g0b : (left - (d.name.size : Int)) ≤ 1048576 := by omega
    have HC0 := HS0.out g0a g0b
    have HD0 := hidden HC0
    clear HC0
    clear lt l0 l1
    clear HS0
    clear HS1
    go_enter Tryz.func22, Tryz.ntmps22
    go_wp2_with fail
    go_at_call 52
    refine (HD0.out _ (hbx _)).mono ?_
    rintro e w1 ⟨rfl, b1⟩
    have k1 : Below w.heap.size w w1 := ((hbx _)).trans (b1.mono (by first | exact ((hbx _)).size | (simp; omega)))
    have hx1 := boxAt b1
    have x0 := vblk_cell hx1 0
    have x1 := vblk_cell hx1 1
    have x2 := vblk_cell hx1 2
    have x3 := vblk_cell hx1 3
    have x4 := vblk_cell hx1 4
    have x5 := vblk_cell hx1 5
    simp only [List.getElem?_toArray, List.getElem?_cons_succ, List.getElem?_cons_zero] at x0 x1 x2 x3 x4 x5
    go_wp2_with fail
    go_ret
    exact ⟨by rw [HR.out]; rfl, k1⟩
  by_cases n2 : q1 < 0
  · have HR : Hid (R = -1) := by show _ = _; omega
    have g0a : 0 ≤ (left - (d.name.size : Int)) := by omega
    have g0b : (left - (d.name.size : Int)) ≤ 1048576 := by omega
    have g1a : 0 ≤ q0 := by omega
    have g1b : q0 ≤ 1048576 := by omega
    have HC0 := HS0.out g0a g0b
    have HD0 := hidden HC0
    clear HC0
    have HC1 := HS1.out g1a g1b
    have HD1 := hidden HC1
    clear HC1
    clear lt l0 l1
    clear HS0
    clear HS1
    go_enter Tryz.func22, Tryz.ntmps22
    go_wp2_with fail
    go_at_call 52
    refine (HD0.out _ (hbx _)).mono ?_
    rintro e w1 ⟨rfl, b1⟩
    have k1 : Below w.heap.size w w1 := ((hbx _)).trans (b1.mono (by first | exact ((hbx _)).size | (simp; omega)))
    have hx1 := boxAt b1
    have x0 := vblk_cell hx1 0
    have x1 := vblk_cell hx1 1
    have x2 := vblk_cell hx1 2
    have x3 := vblk_cell hx1 3
    have x4 := vblk_cell hx1 4
    have x5 := vblk_cell hx1 5
    simp only [List.getElem?_toArray, List.getElem?_cons_succ, List.getElem?_cons_zero] at x0 x1 x2 x3 x4 x5
    go_wp2_with fail
    go_at_call 6
    refine (HD1.out _ k1).mono ?_
    rintro e w2 ⟨rfl, b2⟩
    have k2 : Below w.heap.size w w2 := (k1).trans (b2.mono (by first | exact (k1).size | (simp; omega)))
    have hx2 := (b2.block _ (Array.getElem?_eq_some_iff.1 hx1).1).trans hx1
    have x0 := vblk_cell hx2 0
    have x1 := vblk_cell hx2 1
    have x2 := vblk_cell hx2 2
    have x3 := vblk_cell hx2 3
    have x4 := vblk_cell hx2 4
    have x5 := vblk_cell hx2 5
    simp only [List.getElem?_toArray, List.getElem?_cons_succ, List.getElem?_cons_zero] at x0 x1 x2 x3 x4 x5
    go_wp2_with fail
    go_ret
    exact ⟨by rw [HR.out]; rfl, k2⟩
  have HR : Hid (R = q1) := by show _ = _; omega
  have g0a : 0 ≤ (left - (d.name.size : Int)) := by omega
  have g0b : (left - (d.name.size : Int)) ≤ 1048576 := by omega
  have g1a : 0 ≤ q0 := by omega
  have g1b : q0 ≤ 1048576 := by omega
  have HC0 := HS0.out g0a g0b
  have HD0 := hidden HC0
  clear HC0
  have HC1 := HS1.out g1a g1b
  have HD1 := hidden HC1
  clear HC1
  clear lt l0 l1
  clear HS0
  clear HS1
  go_enter Tryz.func22, Tryz.ntmps22
  go_wp2_with fail
  go_at_call 52
  refine (HD0.out _ (hbx _)).mono ?_
  rintro e w1 ⟨rfl, b1⟩
  have k1 : Below w.heap.size w w1 := ((hbx _)).trans (b1.mono (by first | exact ((hbx _)).size | (simp; omega)))
  have hx1 := boxAt b1
  have x0 := vblk_cell hx1 0
  have x1 := vblk_cell hx1 1
  have x2 := vblk_cell hx1 2
  have x3 := vblk_cell hx1 3
  have x4 := vblk_cell hx1 4
  have x5 := vblk_cell hx1 5
  simp only [List.getElem?_toArray, List.getElem?_cons_succ, List.getElem?_cons_zero] at x0 x1 x2 x3 x4 x5
  go_wp2_with fail
  go_at_call 6
  refine (HD1.out _ k1).mono ?_
  rintro e w2 ⟨rfl, b2⟩
  have k2 : Below w.heap.size w w2 := (k1).trans (b2.mono (by first | exact (k1).size | (simp; omega)))
  have hx2 := (b2.block _ (Array.getElem?_eq_some_iff.1 hx1).1).trans hx1
  have x0 := vblk_cell hx2 0
  have x1 := vblk_cell hx2 1
  have x2 := vblk_cell hx2 2
  have x3 := vblk_cell hx2 3
  have x4 := vblk_cell hx2 4
  have x5 := vblk_cell hx2 5
  simp only [List.getElem?_toArray, List.getElem?_cons_succ, List.getElem?_cons_zero] at x0 x1 x2 x3 x4 x5
  go_wp2_with fail
  go_ret
  exact ⟨by rw [HR.out]; rfl, k2⟩

set_option maxHeartbeats 2000000 in
set_option maxRecDepth 100000 in
theorem szEntryS_c (S : Nat → Prop) (v : Value) (xs : List EntryD) (left : Int) (h0 : 0 ≤ left) (h1 : left ≤ 1048576) (w : World) (hv : RowIn shEntry S w v xs) (hB : ∀ b, S b → b < w.heap.size) :
    Calls Tryz.prog 5 #[v, .int .i64 left] w fun e w' => e = .returned (.int .i64 (leftW (wtRow wtEntry xs) left)) ∧ Below w.heap.size w w' := by
  obtain ⟨a, cap, rfl, hl, hc, ha⟩ := hv
  unfold maxLen at hl
  by_cases hneg : left - (xs.length : Int) < 0
  · have e : leftW (wtRow wtEntry xs) left = -1 := leftW_bad (by have := len_wtRow wtEntry xs; omega)
    rw [e]
    clear ha
    go_enter Tryz.func5, Tryz.ntmps5
    go_wp2_with fail
    go_ret
    exact ⟨rfl, Below.refl _ _⟩
  · go_enter Tryz.func5, Tryz.ntmps5
    go_wp2_with fail
    go_loopw [1, 5] (fun vl vi wr => ∃ (k : Nat) (q : Int), k ≤ xs.length ∧ vi = .int .i64 (k : Int) ∧ vl = .int .i64 q ∧ 0 ≤ q ∧ q ≤ 1048576 ∧ Hid (q = left - (xs.length : Int) - (wtRow wtEntry (xs.take k) : Int) + (k : Int)) ∧ Below w.heap.size w wr) (fun _ vi _ => xs.length - (intOf vi).toNat)
    case atStart => exact ⟨0, _, Nat.zero_le _, rfl, rfl, by omega, by omega, by show _ = _; simp [wtRow], Below.refl _ _⟩
    case round =>
      obtain ⟨k, q, hk, rfl, rfl, hq0, hq1, hq, hbr⟩ := hrel
      by_cases hlt' : k < xs.length
      · rcases ha with rfl | ⟨b, off, rfl, hlt, ha⟩
        · simp at hlt'
        obtain ⟨cs, hL, hcell⟩ := ha k hlt'
        have hL2 := shEntry.keep (.of hbr hB) hL
        have hcell2 := hcell.keep (.of hbr hB) hlt
        have hBr : ∀ b, S b → b < wr.heap.size := fun b h => Nat.lt_of_lt_of_le (hB b h) hbr.size
        have hwt := wtRow_take wtEntry xs k hlt'
        have hsp := wtRow_split wtEntry xs (k + 1)
        have hln := len_wtRow wtEntry (xs.drop (k + 1))
        have hdl : (xs.drop (k + 1)).length = xs.length - (k + 1) := by simp
        obtain ⟨d, hd⟩ : ∃ d, d = xs[k] := ⟨_, rfl⟩
        rw [← hd] at hL2 hwt
        have HW : Hid (wtRow wtEntry (xs.take (k + 1)) = wtRow wtEntry (xs.take k) + (1 + wtEntry d)) := hwt
        have HSP : Hid (wtRow wtEntry xs = wtRow wtEntry (xs.take (k + 1)) + wtRow wtEntry (xs.drop (k + 1)) ∧ xs.length - (k + 1) ≤ wtRow wtEntry (xs.drop (k + 1))) := ⟨hsp, by omega⟩
        have hki : (k : Int) < (xs.length : Int) := by omega
        obtain ⟨p, hp⟩ : ∃ p, p = leftW (wtEntry d) q := ⟨_, rfl⟩
        have HP : Hid (p = leftW (wtEntry d) q) := hp
        have HC := szEntry_c S d cs q hq0 hq1 wr hL2 hBr
        rw [← hp] at HC
        clear hL hcell ha hwt hd hp hsp hln hdl
        obtain ⟨u0, u1, rfl, s_name, r0, p0, r1⟩ := hL2
        clear s_name p0
        obtain ⟨a0, cap0, eu0, _⟩ := id r0
        rw [length_strsV] at eu0
        subst eu0
        clear r0
        obtain ⟨a1, cap1, eu1, _⟩ := id r1
        subst eu1
        clear r1
        have e0 : wr.cell? ⟨b, off + k * 6, none⟩ = some (.string d.name) := hcell2 0 (by simp)
        have e1 : wr.cell? ⟨b, off + k * 6 + 1, none⟩ = some (.int .i64 d.vA) := hcell2 1 (by simp)
        have e2 : wr.cell? ⟨b, off + k * 6 + 2, none⟩ = some (.int .i64 d.vB) := hcell2 2 (by simp)
        have e3 : wr.cell? ⟨b, off + k * 6 + 3, none⟩ = some (.int .i64 d.vC) := hcell2 3 (by simp)
        have e4 : wr.cell? ⟨b, off + k * 6 + 4, none⟩ = some (.slice a0 d.vP.length cap0) := hcell2 4 (by simp)
        have e5 : wr.cell? ⟨b, off + k * 6 + 5, none⟩ = some (.slice a1 d.needs.length cap1) := hcell2 5 (by simp)
        have HC2 := hidden HC
        clear hcell2 HC
        by_cases hpn : p < 0
        · go_wp2_with (go_at_call 22; refine HC2.out.mono ?_; rintro e w1 ⟨rfl, hb1⟩)
          go_ret
          have e : leftW (wtRow wtEntry xs) left = -1 := by
            have h2 := HP.out; have h3 := hq.out; have h4 := HW.out; have h5 := HSP.out
            refine leftW_bad ?_
            by_cases h6 : ((wtEntry d : Nat) : Int) ≤ q
            · rw [leftW_good h6] at h2; omega
            · omega
          exact ⟨by rw [e]; rfl, hbr.trans (hb1.mono hbr.size)⟩
        · go_wp2_with (go_at_call 22; refine HC2.out.mono ?_; rintro e w1 ⟨rfl, hb1⟩)
          go_roundw
          case rel =>
            have h2 := HP.out; have h3 := hq.out; have h4 := HW.out
            have h6 : ((wtEntry d : Nat) : Int) ≤ q := by
              by_cases h6 : ((wtEntry d : Nat) : Int) ≤ q
              · exact h6
              · rw [leftW_bad (by omega)] at h2; omega
            rw [leftW_good h6] at h2
            exact ⟨k + 1, p, by omega, by go_num, rfl, by omega, by omega, (by show _ = _; omega), hbr.trans (hb1.mono hbr.size)⟩
          case measure => simp [intOf]; omega
      · have he : k = xs.length := by omega
        subst he
        clear ha
        go_wp2_with fail
        go_ret
        have e : leftW (wtRow wtEntry xs) left = q := by
          have h3 := hq.out
          rw [List.take_length] at h3
          rw [leftW_good (by omega)]; omega
        exact ⟨by rw [e]; rfl, hbr⟩

end Go.Proofs.YtbolphjigjpmiabGreatDoor

/-! What is the same is told so by the law's own comparison: contracts for what lies in memory and holds at most 2 to the 20. -/
namespace Go.Proofs.YtbolphjigjpmiabGreatDoor
open Go.RowKit
set_option linter.unusedSimpArgs false
set_option linter.unusedVariables false

set_option maxHeartbeats 2000000 in
set_option maxRecDepth 100000 in
theorem eqEntry_c (S S' : Nat → Prop) (d : EntryD) (cs cs' : List Value) (w : World) (hd : shEntry.lies S w cs d) (hd' : shEntry.lies S' w cs' d) (hB : ∀ b, S b → b < w.heap.size) (hB' : ∀ b, S' b → b < w.heap.size) (hw : wtEntry d ≤ 1048576) :
    Calls Tryz.prog 33 #[.agg cs.toArray, .agg cs'.toArray] w fun e w' => e = .returned (.bool true) ∧ Below w.heap.size w w' := by
  obtain ⟨xu0, xu1, rfl, xs_name, xr0, xp0, xr1⟩ := hd
  obtain ⟨yu0, yu1, rfl, ys_name, yr0, yp0, yr1⟩ := hd'
  have hb2 : ∀ A R, Below w.heap.size w ((w.alloc A).alloc R) := fun A R => ((Below.refl _ _).alloc (Nat.le_refl _) _).alloc (by simp) _
  unfold wtEntry at hw
  have HS0 : Hid (∀ w1, Below w.heap.size w w1 → Calls Tryz.prog 60 #[.agg #[.int .i64 d.vA, .int .i64 d.vB, .int .i64 d.vC, xu0], .agg #[.int .i64 d.vA, .int .i64 d.vB, .int .i64 d.vC, yu0]] w1 fun e w' => e = .returned (.bool true) ∧ Below w1.heap.size w1 w') := fun w1 hb =>
    eqVer_c _ _ _ xu0 yu0 d.vP w1 ((xr0.keep (.of hb hB)).reads (fun b h => Nat.lt_of_lt_of_le (hB b h) hb.size)) ((yr0.keep (.of hb hB')).reads (fun b h => Nat.lt_of_lt_of_le (hB' b h) hb.size)) (by unfold bulkS at hw; omega)
  have HS1 : Hid (∀ w1, Below w.heap.size w w1 → Calls Tryz.prog 14 #[xu1, yu1] w1 fun e w' => e = .returned (.bool true) ∧ Below w1.heap.size w1 w') := fun w1 hb =>
    eqNeedS_c S S' xu1 yu1 d.needs w1 (xr1.keep (.of hb hB)) (yr1.keep (.of hb hB')) (fun b h => Nat.lt_of_lt_of_le (hB b h) hb.size) (fun b h => Nat.lt_of_lt_of_le (hB' b h) hb.size) (by omega)
  obtain ⟨xa0, xc0, xe0, _⟩ := id xr0
  rw [length_strsV] at xe0
  subst xe0
  clear xr0
  obtain ⟨xa1, xc1, xe1, _⟩ := id xr1
  subst xe1
  clear xr1
  obtain ⟨ya0, yc0, ye0, _⟩ := id yr0
  rw [length_strsV] at ye0
  subst ye0
  clear yr0
  obtain ⟨ya1, yc1, ye1, _⟩ := id yr1
  subst ye1
  clear yr1
  go_enter Tryz.func33, Tryz.ntmps33
  go_wp2_with fail
  go_at_call 60
  refine (HS0.out _ (hb2 _ _)).mono ?_
  rintro e w1 ⟨rfl, b1⟩
  obtain ⟨hA1, hR1⟩ := boxTwo b1
  have k1 : Below w.heap.size w w1 := (hb2 _ _).trans (b1.mono (hb2 _ _).size)
  have o0 := vblk_cell hA1 0
  have q0 := vblk_cell hR1 0
  have o1 := vblk_cell hA1 1
  have q1 := vblk_cell hR1 1
  have o2 := vblk_cell hA1 2
  have q2 := vblk_cell hR1 2
  have o3 := vblk_cell hA1 3
  have q3 := vblk_cell hR1 3
  have o4 := vblk_cell hA1 4
  have q4 := vblk_cell hR1 4
  have o5 := vblk_cell hA1 5
  have q5 := vblk_cell hR1 5
  simp only [List.getElem?_toArray, List.getElem?_cons_succ, List.getElem?_cons_zero] at o0 q0 o1 q1 o2 q2 o3 q3 o4 q4 o5 q5
  go_wp2_with fail
  go_at_call 14
  refine (HS1.out _ k1).mono ?_
  rintro e w2 ⟨rfl, b2⟩
  have hA2 := (b2.block _ (Array.getElem?_eq_some_iff.1 hA1).1).trans hA1
  have hR2 := (b2.block _ (Array.getElem?_eq_some_iff.1 hR1).1).trans hR1
  have k2 := k1.trans (b2.mono k1.size)
  go_wp2_with fail
  go_ret
  exact ⟨rfl, k2⟩

set_option maxHeartbeats 2000000 in
set_option maxRecDepth 100000 in
theorem eqEntryS_c (S S' : Nat → Prop) (v u : Value) (xs : List EntryD) (w : World) (hv : RowIn shEntry S w v xs) (hv' : RowIn shEntry S' w u xs) (hB : ∀ b, S b → b < w.heap.size) (hB' : ∀ b, S' b → b < w.heap.size) (hw : wtRow wtEntry xs ≤ 1048576) :
    Calls Tryz.prog 13 #[v, u] w fun e w' => e = .returned (.bool true) ∧ Below w.heap.size w w' := by
  obtain ⟨a, cap, rfl, hl, hc, ha⟩ := hv
  obtain ⟨a', cap', rfl, _, hc', ha'⟩ := hv'
  unfold maxLen at hl
  go_enter Tryz.func13, Tryz.ntmps13
  go_wp2_with fail
  go_loopw [5] (fun vi wr => ∃ k : Nat, k ≤ xs.length ∧ vi = .int .i64 (k : Int) ∧ Below w.heap.size w wr) (fun vi _ => xs.length - (intOf vi).toNat)
  case atStart => exact ⟨0, Nat.zero_le _, rfl, Below.refl _ _⟩
  case round =>
    obtain ⟨k, hk, rfl, hbr⟩ := hrel
    by_cases hlt' : k < xs.length
    · rcases ha with rfl | ⟨b, off, rfl, hlt, ha⟩
      · simp at hlt'
      rcases ha' with rfl | ⟨b', off', rfl, hlt3, ha'⟩
      · simp at hlt'
      obtain ⟨cs, hL, hcell⟩ := ha k hlt'
      obtain ⟨cs', hL', hcell'⟩ := ha' k hlt'
      have hwt : wtEntry xs[k] ≤ 1048576 := by have := wt_wtRow wtEntry (List.getElem_mem hlt'); omega
      have HC := eqEntry_c S S' xs[k] cs cs' wr.drew (shEntry.keep (.of hbr.drew hB) hL) (shEntry.keep (.of hbr.drew hB') hL') (fun b h => Nat.lt_of_lt_of_le (hB b h) hbr.size) (fun b h => Nat.lt_of_lt_of_le (hB' b h) hbr.size) hwt
      replace hL := shEntry.keep (.of hbr hB) hL
      replace hL' := shEntry.keep (.of hbr hB') hL'
      replace hcell := hcell.keep (.of hbr hB) hlt
      replace hcell' := hcell'.keep (.of hbr hB') hlt3
      obtain ⟨d, hd⟩ : ∃ d, d = xs[k] := ⟨_, rfl⟩
      rw [← hd] at hL hL' hwt
      clear ha ha' hd
      obtain ⟨xu0, xu1, rfl, xs_name, xr0, xp0, xr1⟩ := hL
      obtain ⟨yu0, yu1, rfl, ys_name, yr0, yp0, yr1⟩ := hL'
      clear xs_name xp0 ys_name yp0
      obtain ⟨xa0, xc0, xe0, _⟩ := id xr0
      rw [length_strsV] at xe0
      subst xe0
      clear xr0
      obtain ⟨xa1, xc1, xe1, _⟩ := id xr1
      subst xe1
      clear xr1
      have xv0 : wr.cell? ⟨b, off + k * 6, none⟩ = some (.string d.name) := hcell 0 (by simp)
      have xv1 : wr.cell? ⟨b, off + k * 6 + 1, none⟩ = some (.int .i64 d.vA) := hcell 1 (by simp)
      have xv2 : wr.cell? ⟨b, off + k * 6 + 2, none⟩ = some (.int .i64 d.vB) := hcell 2 (by simp)
      have xv3 : wr.cell? ⟨b, off + k * 6 + 3, none⟩ = some (.int .i64 d.vC) := hcell 3 (by simp)
      have xv4 : wr.cell? ⟨b, off + k * 6 + 4, none⟩ = some (.slice xa0 d.vP.length xc0) := hcell 4 (by simp)
      have xv5 : wr.cell? ⟨b, off + k * 6 + 5, none⟩ = some (.slice xa1 d.needs.length xc1) := hcell 5 (by simp)
      obtain ⟨ya0, yc0, ye0, _⟩ := id yr0
      rw [length_strsV] at ye0
      subst ye0
      clear yr0
      obtain ⟨ya1, yc1, ye1, _⟩ := id yr1
      subst ye1
      clear yr1
      have yv0 : wr.cell? ⟨b', off' + k * 6, none⟩ = some (.string d.name) := hcell' 0 (by simp)
      have yv1 : wr.cell? ⟨b', off' + k * 6 + 1, none⟩ = some (.int .i64 d.vA) := hcell' 1 (by simp)
      have yv2 : wr.cell? ⟨b', off' + k * 6 + 2, none⟩ = some (.int .i64 d.vB) := hcell' 2 (by simp)
      have yv3 : wr.cell? ⟨b', off' + k * 6 + 3, none⟩ = some (.int .i64 d.vC) := hcell' 3 (by simp)
      have yv4 : wr.cell? ⟨b', off' + k * 6 + 4, none⟩ = some (.slice ya0 d.vP.length yc0) := hcell' 4 (by simp)
      have yv5 : wr.cell? ⟨b', off' + k * 6 + 5, none⟩ = some (.slice ya1 d.needs.length yc1) := hcell' 5 (by simp)
      have HC2 := hidden HC
      have hki : (k : Int) < (xs.length : Int) := by omega
      clear hcell hcell' HC hwt
      go_wp2_with fail
      go_region_with (go_at_call 33; refine HC2.out.mono ?_; rintro e w2 ⟨rfl, hb2⟩)
      all_goals go_wp2_with fail
      all_goals go_roundw
      all_goals first
        | exact ⟨k + 1, by omega, by go_num, hbr.drew.trans (hb2.mono hbr.size)⟩
        | (simp [intOf]; omega)
    · have he : k = xs.length := by omega
      subst he
      clear ha ha'
      go_wp2_with fail
      go_ret
      exact ⟨rfl, hbr⟩

end Go.Proofs.YtbolphjigjpmiabGreatDoor

/-! How much they hold, as the law counts it: contracts for the walks; conditions: at most 2 to the 20 is left to count. -/
namespace Go.Proofs.YtbolphjigjpmiabGreatDoor
open Go.RowKit
set_option linter.unusedSimpArgs false
set_option linter.unusedVariables false

set_option maxHeartbeats 2000000 in
set_option maxRecDepth 100000 in
theorem szPick_c (S : Nat → Prop) (d : PickD) (cs : List Value) (left : Int) (h0 : 0 ≤ left) (h1 : left ≤ 1048576) (w : World) (hd : shPick.lies S w cs d) (hB : ∀ b, S b → b < w.heap.size) :
    Calls Tryz.prog 24 #[.agg cs.toArray, .int .i64 left] w fun e w' => e = .returned (.int .i64 (leftW (wtPick d) left)) ∧ Below w.heap.size w w' := by
  obtain ⟨u0, rfl, s_name, r0, p0⟩ := hd
  unfold maxLen at s_name
  have hbx : ∀ o, Below w.heap.size w (w.alloc o) := fun o => (Below.refl _ _).alloc (Nat.le_refl _) _
  obtain ⟨R, hR⟩ : ∃ R, R = leftW (wtPick d) left := ⟨_, rfl⟩
  rw [← hR]
  obtain ⟨q0, hq0⟩ : ∃ q, q = leftW (bulkS d.vP) (left - (d.name.size : Int)) := ⟨_, rfl⟩
  have HS0 : Hid (0 ≤ (left - (d.name.size : Int)) → (left - (d.name.size : Int)) ≤ 1048576 → ∀ w1, Below w.heap.size w w1 → Calls Tryz.prog 52 #[.agg #[.int .i64 d.vA, .int .i64 d.vB, .int .i64 d.vC, u0], .int .i64 (left - (d.name.size : Int))] w1 fun e w' => e = .returned (.int .i64 q0) ∧ Below w1.heap.size w1 w') := fun a b w1 hb => by
    rw [hq0]; exact szVer_c _ _ _ u0 d.vP _ a b w1 ((r0.keep (.of hb hB)).reads (fun b h => Nat.lt_of_lt_of_le (hB b h) hb.size)) p0
  obtain ⟨a0, cap0, eu0, _⟩ := id r0
  rw [length_strsV] at eu0
  subst eu0
  clear r0
  have lt := lw (wtPick d) left
  have l0 := lw (bulkS d.vP) (left - (d.name.size : Int))
  rw [← hq0] at l0
  rw [← hR] at lt
  unfold wtPick at lt
  clear hq0 hR
  by_cases n0 : (left - (d.name.size : Int)) < 0
  · have HR : Hid (R = -1) := by show _ = _; omega
    clear lt l0
    clear HS0
    go_enter Tryz.func24, Tryz.ntmps24
    go_wp2_with fail
    go_ret
    exact ⟨by rw [HR.out]; rfl, (hbx _)⟩
  by_cases n1 : q0 < 0
  · have HR : Hid (R = -1) := by show _ = _; omega
    have g0a : 0 ≤ (left - (d.name.size : Int)) := by omega
    have g0b : (left - (d.name.size : Int)) ≤ 1048576 := by omega
    have HC0 := HS0.out g0a g0b
    have HD0 := hidden HC0
    clear HC0
    clear lt l0
    clear HS0
    go_enter Tryz.func24, Tryz.ntmps24
    go_wp2_with fail
    go_at_call 52
    refine (HD0.out _ (hbx _)).mono ?_
    rintro e w1 ⟨rfl, b1⟩
    have k1 : Below w.heap.size w w1 := ((hbx _)).trans (b1.mono (by first | exact ((hbx _)).size | (simp; omega)))
    have hx1 := boxAt b1
    have x0 := vblk_cell hx1 0
    have x1 := vblk_cell hx1 1
    have x2 := vblk_cell hx1 2
    have x3 := vblk_cell hx1 3
    have x4 := vblk_cell hx1 4
    simp only [List.getElem?_toArray, List.getElem?_cons_succ, List.getElem?_cons_zero] at x0 x1 x2 x3 x4
    go_wp2_with fail
    go_ret
    exact ⟨by rw [HR.out]; rfl, k1⟩
  have HR : Hid (R = q0) := by show _ = _; omega
  have g0a : 0 ≤ (left - (d.name.size : Int)) := by omega
  have g0b : (left - (d.name.size : Int)) ≤ 1048576 := by omega
  have HC0 := HS0.out g0a g0b
  have HD0 := hidden HC0
  clear HC0
  clear lt l0
  clear HS0
  go_enter Tryz.func24, Tryz.ntmps24
  go_wp2_with fail
  go_at_call 52
  refine (HD0.out _ (hbx _)).mono ?_
  rintro e w1 ⟨rfl, b1⟩
  have k1 : Below w.heap.size w w1 := ((hbx _)).trans (b1.mono (by first | exact ((hbx _)).size | (simp; omega)))
  have hx1 := boxAt b1
  have x0 := vblk_cell hx1 0
  have x1 := vblk_cell hx1 1
  have x2 := vblk_cell hx1 2
  have x3 := vblk_cell hx1 3
  have x4 := vblk_cell hx1 4
  simp only [List.getElem?_toArray, List.getElem?_cons_succ, List.getElem?_cons_zero] at x0 x1 x2 x3 x4
  go_wp2_with fail
  go_ret
  exact ⟨by rw [HR.out]; rfl, k1⟩

set_option maxHeartbeats 2000000 in
set_option maxRecDepth 100000 in
theorem szPickS_c (S : Nat → Prop) (v : Value) (xs : List PickD) (left : Int) (h0 : 0 ≤ left) (h1 : left ≤ 1048576) (w : World) (hv : RowIn shPick S w v xs) (hB : ∀ b, S b → b < w.heap.size) :
    Calls Tryz.prog 7 #[v, .int .i64 left] w fun e w' => e = .returned (.int .i64 (leftW (wtRow wtPick xs) left)) ∧ Below w.heap.size w w' := by
  obtain ⟨a, cap, rfl, hl, hc, ha⟩ := hv
  unfold maxLen at hl
  by_cases hneg : left - (xs.length : Int) < 0
  · have e : leftW (wtRow wtPick xs) left = -1 := leftW_bad (by have := len_wtRow wtPick xs; omega)
    rw [e]
    clear ha
    go_enter Tryz.func7, Tryz.ntmps7
    go_wp2_with fail
    go_ret
    exact ⟨rfl, Below.refl _ _⟩
  · go_enter Tryz.func7, Tryz.ntmps7
    go_wp2_with fail
    go_loopw [1, 5] (fun vl vi wr => ∃ (k : Nat) (q : Int), k ≤ xs.length ∧ vi = .int .i64 (k : Int) ∧ vl = .int .i64 q ∧ 0 ≤ q ∧ q ≤ 1048576 ∧ Hid (q = left - (xs.length : Int) - (wtRow wtPick (xs.take k) : Int) + (k : Int)) ∧ Below w.heap.size w wr) (fun _ vi _ => xs.length - (intOf vi).toNat)
    case atStart => exact ⟨0, _, Nat.zero_le _, rfl, rfl, by omega, by omega, by show _ = _; simp [wtRow], Below.refl _ _⟩
    case round =>
      obtain ⟨k, q, hk, rfl, rfl, hq0, hq1, hq, hbr⟩ := hrel
      by_cases hlt' : k < xs.length
      · rcases ha with rfl | ⟨b, off, rfl, hlt, ha⟩
        · simp at hlt'
        obtain ⟨cs, hL, hcell⟩ := ha k hlt'
        have hL2 := shPick.keep (.of hbr hB) hL
        have hcell2 := hcell.keep (.of hbr hB) hlt
        have hBr : ∀ b, S b → b < wr.heap.size := fun b h => Nat.lt_of_lt_of_le (hB b h) hbr.size
        have hwt := wtRow_take wtPick xs k hlt'
        have hsp := wtRow_split wtPick xs (k + 1)
        have hln := len_wtRow wtPick (xs.drop (k + 1))
        have hdl : (xs.drop (k + 1)).length = xs.length - (k + 1) := by simp
        obtain ⟨d, hd⟩ : ∃ d, d = xs[k] := ⟨_, rfl⟩
        rw [← hd] at hL2 hwt
        have HW : Hid (wtRow wtPick (xs.take (k + 1)) = wtRow wtPick (xs.take k) + (1 + wtPick d)) := hwt
        have HSP : Hid (wtRow wtPick xs = wtRow wtPick (xs.take (k + 1)) + wtRow wtPick (xs.drop (k + 1)) ∧ xs.length - (k + 1) ≤ wtRow wtPick (xs.drop (k + 1))) := ⟨hsp, by omega⟩
        have hki : (k : Int) < (xs.length : Int) := by omega
        obtain ⟨p, hp⟩ : ∃ p, p = leftW (wtPick d) q := ⟨_, rfl⟩
        have HP : Hid (p = leftW (wtPick d) q) := hp
        have HC := szPick_c S d cs q hq0 hq1 wr hL2 hBr
        rw [← hp] at HC
        clear hL hcell ha hwt hd hp hsp hln hdl
        obtain ⟨u0, rfl, s_name, r0, p0⟩ := hL2
        clear s_name p0
        obtain ⟨a0, cap0, eu0, _⟩ := id r0
        rw [length_strsV] at eu0
        subst eu0
        clear r0
        have e0 : wr.cell? ⟨b, off + k * 5, none⟩ = some (.string d.name) := hcell2 0 (by simp)
        have e1 : wr.cell? ⟨b, off + k * 5 + 1, none⟩ = some (.int .i64 d.vA) := hcell2 1 (by simp)
        have e2 : wr.cell? ⟨b, off + k * 5 + 2, none⟩ = some (.int .i64 d.vB) := hcell2 2 (by simp)
        have e3 : wr.cell? ⟨b, off + k * 5 + 3, none⟩ = some (.int .i64 d.vC) := hcell2 3 (by simp)
        have e4 : wr.cell? ⟨b, off + k * 5 + 4, none⟩ = some (.slice a0 d.vP.length cap0) := hcell2 4 (by simp)
        have HC2 := hidden HC
        clear hcell2 HC
        by_cases hpn : p < 0
        · go_wp2_with (go_at_call 24; refine HC2.out.mono ?_; rintro e w1 ⟨rfl, hb1⟩)
          go_ret
          have e : leftW (wtRow wtPick xs) left = -1 := by
            have h2 := HP.out; have h3 := hq.out; have h4 := HW.out; have h5 := HSP.out
            refine leftW_bad ?_
            by_cases h6 : ((wtPick d : Nat) : Int) ≤ q
            · rw [leftW_good h6] at h2; omega
            · omega
          exact ⟨by rw [e]; rfl, hbr.trans (hb1.mono hbr.size)⟩
        · go_wp2_with (go_at_call 24; refine HC2.out.mono ?_; rintro e w1 ⟨rfl, hb1⟩)
          go_roundw
          case rel =>
            have h2 := HP.out; have h3 := hq.out; have h4 := HW.out
            have h6 : ((wtPick d : Nat) : Int) ≤ q := by
              by_cases h6 : ((wtPick d : Nat) : Int) ≤ q
              · exact h6
              · rw [leftW_bad (by omega)] at h2; omega
            rw [leftW_good h6] at h2
            exact ⟨k + 1, p, by omega, by go_num, rfl, by omega, by omega, (by show _ = _; omega), hbr.trans (hb1.mono hbr.size)⟩
          case measure => simp [intOf]; omega
      · have he : k = xs.length := by omega
        subst he
        clear ha
        go_wp2_with fail
        go_ret
        have e : leftW (wtRow wtPick xs) left = q := by
          have h3 := hq.out
          rw [List.take_length] at h3
          rw [leftW_good (by omega)]; omega
        exact ⟨by rw [e]; rfl, hbr⟩

end Go.Proofs.YtbolphjigjpmiabGreatDoor

/-! Copies in memory of their own, as the law makes them: contracts for the walks; condition: what is copied holds at most 2 to the 20. -/
namespace Go.Proofs.YtbolphjigjpmiabGreatDoor
open Go.RowKit
set_option linter.unusedSimpArgs false
set_option linter.unusedVariables false

set_option maxHeartbeats 2000000 in
set_option maxRecDepth 100000 in
theorem toPick_c (S : Nat → Prop) (d : PickD) (cs : List Value) (w : World) (hd : shPick.lies S w cs d) (hB : ∀ b, S b → b < w.heap.size) (hw : wtPick d ≤ 1048576) :
    Calls Tryz.prog 29 #[.agg cs.toArray] w fun e w' => ∃ cs', e = .returned (.agg cs'.toArray) ∧ shPickO.lies (Ow w.heap.size w'.heap.size) w' cs' d ∧ Below w.heap.size w w' := by
  obtain ⟨u0, rfl, s_name, r0, p0⟩ := hd
  have hb3 : ∀ A R O, Below w.heap.size w (((w.alloc A).alloc R).alloc O) := fun A R O => (((Below.refl _ _).alloc (Nat.le_refl _) _).alloc (by simp) _).alloc (by simp; omega) _
  unfold wtPick at hw
  have HS0 : Hid (∀ w1, Below w.heap.size w w1 → Calls Tryz.prog 57 #[.agg #[.int .i64 d.vA, .int .i64 d.vB, .int .i64 d.vC, u0]] w1 fun e w' => ∃ g, e = .returned (.agg #[.int .i64 d.vA, .int .i64 d.vB, .int .i64 d.vC, .slice (some ⟨g, 0, none⟩) d.vP.length d.vP.length]) ∧ StrsOwn (Ow w1.heap.size w'.heap.size) w' (.slice (some ⟨g, 0, none⟩) d.vP.length d.vP.length) d.vP ∧ Below w1.heap.size w1 w') := fun w1 hb =>
    toVerO_c _ _ _ u0 d.vP w1 ((r0.keep (.of hb hB)).reads (fun b h => Nat.lt_of_lt_of_le (hB b h) hb.size)) (by unfold bulkS at hw; omega)
  obtain ⟨a0, cap0, eu0, _⟩ := id r0
  rw [length_strsV] at eu0
  subst eu0
  clear r0
  go_enter Tryz.func29, Tryz.ntmps29
  go_wp2_with fail
  go_at_call 57
  refine (HS0.out _ (hb3 _ _ _)).mono ?_
  rintro e w1 ⟨g1, rfl, R0, b1⟩
  obtain ⟨hA1, hR1, hO1⟩ := vthree b1
  have s3 : ∀ A R O, (((w.alloc A).alloc R).alloc O).heap.size = w.heap.size + 1 + 1 + 1 := fun A R O => by simp
  rw [s3] at b1 R0
  have m1 : w.heap.size + 3 ≤ w1.heap.size := by have := b1.size; rw [s3] at this; omega
  have kw1 : Below w.heap.size w w1 := (hb3 _ _ _).trans (b1.mono (by omega))
  replace R0 := R0.mono (S' := Ow (w.heap.size + 3) w1.heap.size) (Ow.mono (by omega) (Nat.le_refl _))
  have m1' : w.heap.size + 3 ≤ w1.heap.size := by omega
  have o0 := vblk_cell hO1 0
  have q0 := vblk_cell hR1 0
  have y0 := vblk_cell hA1 0
  have o1 := vblk_cell hO1 1
  have q1 := vblk_cell hR1 1
  have y1 := vblk_cell hA1 1
  have o2 := vblk_cell hO1 2
  have q2 := vblk_cell hR1 2
  have y2 := vblk_cell hA1 2
  have o3 := vblk_cell hO1 3
  have q3 := vblk_cell hR1 3
  have y3 := vblk_cell hA1 3
  have o4 := vblk_cell hO1 4
  have q4 := vblk_cell hR1 4
  have y4 := vblk_cell hA1 4
  have fo := vblk_frozen hO1
  have fr := vblk_frozen hR1
  simp only [List.getElem?_toArray, List.getElem?_cons_succ, List.getElem?_cons_zero, List.setIfInBounds_toArray, List.set_cons_succ, List.set_cons_zero] at o0 q0 y0 o1 q1 y1 o2 q2 y2 o3 q3 y3 o4 q4 y4
  go_wp2_with fail
  refine bodyPost_ret (v := .agg #[.string d.name, .int .i64 d.vA, .int .i64 d.vB, .int .i64 d.vC, .slice (some ⟨g1, 0, none⟩) d.vP.length d.vP.length]) (by simp [results, Tryz.results29, go_sem, o0, q0, o1, q1, o2, q2, o3, q3, o4, q4]) rfl ⟨[.string d.name, .int .i64 d.vA, .int .i64 d.vB, .int .i64 d.vC, .slice (some ⟨g1, 0, none⟩) d.vP.length d.vP.length], rfl, ?_, ?_⟩
  · have hS : ∀ {W : World}, w1.heap.size ≤ W.heap.size → ∀ b, Ow (w.heap.size + 3) w1.heap.size b → Ow w.heap.size W.heap.size b := fun h => Ow.mono (by omega) h
    refine ⟨_, rfl, s_name, (R0.keep ?_).mono (hS ?_), p0⟩
    all_goals first
      | (simp [World.setCell]; done)
      | ((repeat (refine Kp.trans ?_ (Kp.set (Ow.not (by omega))))); exact fun b hb => rfl)
  · refine ?_
    (repeat (refine Below.setCell ?_ (by simp <;> omega) _))
    exact kw1

set_option maxHeartbeats 2000000 in
set_option maxRecDepth 100000 in
theorem infoPick : (Tryz.prog.info? 64).map (fun i => (i.zero, i.size, i.bytes)) = some (some (.agg #[.string ⟨#[]⟩, .int .i64 0, .int .i64 0, .int .i64 0, .slice none 0 0]), 5, 64) := by kernel_rfl
set_option maxHeartbeats 2000000 in
set_option maxRecDepth 100000 in
theorem toPickS_c (S : Nat → Prop) (v : Value) (xs : List PickD) (w : World) (hv : RowIn shPick S w v xs) (hB : ∀ b, S b → b < w.heap.size) (hw : wtRow wtPick xs ≤ 1048576) :
    Calls Tryz.prog 11 #[v] w fun e w' => ∃ g, e = .returned (.slice (some ⟨g, 0, none⟩) xs.length xs.length) ∧ RowOwn shPickO 64 (Ow w.heap.size w'.heap.size) w' (.slice (some ⟨g, 0, none⟩) xs.length xs.length) xs ∧ Below w.heap.size w w' := by
  obtain ⟨a, cap, rfl, hl, hc, ha⟩ := hv
  have hn := len_wtRow wtPick xs
  have hlm : xs.length ≤ maxLen := hl
  unfold maxLen at hl
  obtain ⟨i0, hi, hz0, hz1, hz2⟩ := info_parts infoPick
  go_enter Tryz.func11, Tryz.ntmps11
  go_wp2_with (first
    | (at_make; refine wpList_make_full _ rfl _ _ 33 rfl w.heap.size 64 i0 _ 5 Tryz.underlying33 hi hz0 hz1 _ _ _ _ xs.length rfl rfl rfl rfl (by rw [hz2]; omega) (by unfold maxLen; omega) (Nat.le_refl _) ?_))
  intro w1 hown hgrow
  have hb1 := below_of_grown hgrow
  have hs1 : w.heap.size + 1 ≤ w1.heap.size := by
    rcases hown.2 with ⟨h, _⟩ | ⟨g, cap, cur, h, _, hg, _⟩
    · simp at h
    · simp at h
      have := (Array.getElem?_eq_some_iff.1 hg).1
      omega
  obtain ⟨ys1, hown1⟩ : ∃ ys, w1.ownsRow w.heap.size 64 5 (.slice (some ⟨w.heap.size, 0, none⟩) xs.length xs.length) xs.length ys := ⟨_, hown⟩
  clear hgrow hown
  go_wp2_with fail
  go_loopw [4] (fun vi wr => ∃ (k : Nat) (ys : List Value), k ≤ xs.length ∧ vi = .int .i64 (k : Int) ∧ wr.ownsRow w.heap.size 64 5 (.slice (some ⟨w.heap.size, 0, none⟩) xs.length xs.length) xs.length ys ∧ Hid (Laid shPickO (Ow (w.heap.size + 1) wr.heap.size) wr ys xs k) ∧ Below w.heap.size w wr ∧ w.heap.size + 1 ≤ wr.heap.size) (fun vi _ => xs.length - (intOf vi).toNat)
  case atStart => exact ⟨0, ys1, Nat.zero_le _, rfl, hown1, (fun i h h0 => by omega), hb1, hs1⟩
  case round =>
    obtain ⟨k, ys, hk, rfl, hownr, hy, hbr, hsr⟩ := hrel
    by_cases hlt' : k < xs.length
    · rcases ha with rfl | ⟨b, off, rfl, hlt, ha⟩
      · simp at hlt'
      obtain ⟨cs, hL, hcell⟩ := ha k hlt'
      have hL2 := shPick.keep (.of hbr hB) hL
      have hcell2 := hcell.keep (.of hbr hB) hlt
      have hBr : ∀ b, S b → b < wr.heap.size := fun b h => Nat.lt_of_lt_of_le (hB b h) hbr.size
      have hwt : wtPick xs[k] ≤ 1048576 := by have := wt_wtRow wtPick (List.getElem_mem hlt'); omega
      have hown2 : ∀ w2, Below wr.heap.size wr w2 → w2.ownsRow w.heap.size 64 5 (.slice (some ⟨w.heap.size, 0, none⟩) xs.length xs.length) xs.length ys := fun w2 h2 => hownr.kept (grown_of_below h2 none) (by simp [Value.ownBlock])
      have hlen := hownr.1
      have HC : Hid (∀ w2, Below wr.heap.size wr w2 → ∀ j, j < 5 → ∃ x, w2.cell? ⟨w.heap.size, k * 5 + j, none⟩ = some x) := fun w2 h2 j hj => ⟨ys.getD (k * 5 + j) undef, by rw [(hown2 w2 h2).cellAt _ (by omega)]; simp [List.getD_eq_getElem?_getD, show k * 5 + j < ys.length by omega]⟩
      have HF : Hid (∀ w2, Below wr.heap.size wr w2 → ∀ j, w2.frozen? ⟨w.heap.size, j, none⟩ = false) := fun w2 h2 j => (hown2 w2 h2).frozenAt j
      have HO : Hid (∀ w2, Below wr.heap.size wr w2 → w2.ownsRow w.heap.size 64 5 (.slice (some ⟨w.heap.size, 0, none⟩) xs.length xs.length) xs.length ys) := hown2
      have HST : Hid (∀ w2 cs, Below wr.heap.size wr w2 → cs.length = 5 → shPickO.lies (Ow (w.heap.size + 1) w2.heap.size) w2 cs xs[k] → Laid shPickO (Ow (w.heap.size + 1) (setW w2 w.heap.size (k * 5) cs).heap.size) (setW w2 w.heap.size (k * 5) cs) (putL ys (k * 5) cs) xs (k + 1)) := fun w2 cs h2 hc hr => hy.out.step (sh := shPickO) hlt' hlen h2 (by omega) hc hr
      obtain ⟨d, hd⟩ : ∃ d, d = xs[k] := ⟨_, rfl⟩
      rw [← hd] at hL2 hwt HST
      have HC1 := toPick_c S d cs wr hL2 hBr hwt
      clear ha hL hcell hd hown2 hi hz0 hz1 hz2 hown1 hb1 hlen hwt
      obtain ⟨u0, rfl, s_name, r0, p0⟩ := hL2
      clear s_name p0
      obtain ⟨a0, cap0, eu0, _⟩ := id r0
      rw [length_strsV] at eu0
      subst eu0
      clear r0
      have e0 : wr.cell? ⟨b, off + k * 5, none⟩ = some (.string d.name) := hcell2 0 (by simp)
      have e1 : wr.cell? ⟨b, off + k * 5 + 1, none⟩ = some (.int .i64 d.vA) := hcell2 1 (by simp)
      have e2 : wr.cell? ⟨b, off + k * 5 + 2, none⟩ = some (.int .i64 d.vB) := hcell2 2 (by simp)
      have e3 : wr.cell? ⟨b, off + k * 5 + 3, none⟩ = some (.int .i64 d.vC) := hcell2 3 (by simp)
      have e4 : wr.cell? ⟨b, off + k * 5 + 4, none⟩ = some (.slice a0 d.vP.length cap0) := hcell2 4 (by simp)
      have HC2 := hidden HC1
      have hki : (k : Int) < (xs.length : Int) := by omega
      clear hcell2 HC1
      go_wp2_with (go_at_call 29; refine HC2.out.mono ?_; rintro e w2 ⟨cs, rfl, hX, hb2⟩; have HX := hidden (HST.out w2 cs hb2 (by have h := hX; obtain ⟨u0, h9, s_name, r0, p0⟩ := h; rw [h9]; rfl) (shPickO.mono (Ow.mono hsr (Nat.le_refl _)) hX)); obtain ⟨u0, rfl, s_name, z0, p0⟩ := hX; obtain ⟨b0, bap0, ev0⟩ := z0.slice; subst ev0; obtain ⟨y0, d0⟩ := HC.out w2 hb2 0 (by omega); obtain ⟨y1, d1⟩ := HC.out w2 hb2 1 (by omega); obtain ⟨y2, d2⟩ := HC.out w2 hb2 2 (by omega); obtain ⟨y3, d3⟩ := HC.out w2 hb2 3 (by omega); obtain ⟨y4, d4⟩ := HC.out w2 hb2 4 (by omega); rw [Nat.add_zero] at d0; have f9 := HF.out w2 hb2)
      go_roundw
      case rel =>
        refine ⟨k + 1, _, by omega, by go_num, setW_owns [.string d.name, .int .i64 d.vA, .int .i64 d.vB, .int .i64 d.vC, .slice b0 d.vP.length bap0] w2 ys (k * 5) (HO.out w2 hb2), HX.out, setW_below (Nat.le_refl _) [.string d.name, .int .i64 d.vA, .int .i64 d.vB, .int .i64 d.vC, .slice b0 d.vP.length bap0] w2 w (k * 5) (hbr.trans (hb2.mono hbr.size)), ?_⟩
        have h9 := setW_size [.string d.name, .int .i64 d.vA, .int .i64 d.vB, .int .i64 d.vC, .slice b0 d.vP.length bap0] w2 w.heap.size (k * 5)
        have := hb2.size
        exact Nat.le_trans (show w.heap.size + 1 ≤ w2.heap.size by omega) (Nat.le_of_eq h9.symm)
      case measure => simp [intOf]; omega
    · have he : k = xs.length := by omega
      subst he
      clear ha
      go_wp2_with fail
      go_ret
      exact ⟨_, rfl, rowOwn_of hownr hlm hy.out, hbr⟩

end Go.Proofs.YtbolphjigjpmiabGreatDoor

/-! What is the same is told so by the law's own comparison: contracts for what lies in memory and holds at most 2 to the 20. -/
namespace Go.Proofs.YtbolphjigjpmiabGreatDoor
open Go.RowKit
set_option linter.unusedSimpArgs false
set_option linter.unusedVariables false

set_option maxHeartbeats 2000000 in
set_option maxRecDepth 100000 in
theorem eqPick_c (S S' : Nat → Prop) (d : PickD) (cs cs' : List Value) (w : World) (hd : shPick.lies S w cs d) (hd' : shPick.lies S' w cs' d) (hB : ∀ b, S b → b < w.heap.size) (hB' : ∀ b, S' b → b < w.heap.size) (hw : wtPick d ≤ 1048576) :
    Calls Tryz.prog 35 #[.agg cs.toArray, .agg cs'.toArray] w fun e w' => e = .returned (.bool true) ∧ Below w.heap.size w w' := by
  obtain ⟨xu0, rfl, xs_name, xr0, xp0⟩ := hd
  obtain ⟨yu0, rfl, ys_name, yr0, yp0⟩ := hd'
  have hb2 : ∀ A R, Below w.heap.size w ((w.alloc A).alloc R) := fun A R => ((Below.refl _ _).alloc (Nat.le_refl _) _).alloc (by simp) _
  unfold wtPick at hw
  have HS0 : Hid (∀ w1, Below w.heap.size w w1 → Calls Tryz.prog 60 #[.agg #[.int .i64 d.vA, .int .i64 d.vB, .int .i64 d.vC, xu0], .agg #[.int .i64 d.vA, .int .i64 d.vB, .int .i64 d.vC, yu0]] w1 fun e w' => e = .returned (.bool true) ∧ Below w1.heap.size w1 w') := fun w1 hb =>
    eqVer_c _ _ _ xu0 yu0 d.vP w1 ((xr0.keep (.of hb hB)).reads (fun b h => Nat.lt_of_lt_of_le (hB b h) hb.size)) ((yr0.keep (.of hb hB')).reads (fun b h => Nat.lt_of_lt_of_le (hB' b h) hb.size)) (by unfold bulkS at hw; omega)
  obtain ⟨xa0, xc0, xe0, _⟩ := id xr0
  rw [length_strsV] at xe0
  subst xe0
  clear xr0
  obtain ⟨ya0, yc0, ye0, _⟩ := id yr0
  rw [length_strsV] at ye0
  subst ye0
  clear yr0
  go_enter Tryz.func35, Tryz.ntmps35
  go_wp2_with fail
  go_at_call 60
  refine (HS0.out _ (hb2 _ _)).mono ?_
  rintro e w1 ⟨rfl, b1⟩
  obtain ⟨hA1, hR1⟩ := boxTwo b1
  have k1 : Below w.heap.size w w1 := (hb2 _ _).trans (b1.mono (hb2 _ _).size)
  go_wp2_with fail
  go_ret
  exact ⟨rfl, k1⟩

set_option maxHeartbeats 2000000 in
set_option maxRecDepth 100000 in
theorem eqPickS_c (S S' : Nat → Prop) (v u : Value) (xs : List PickD) (w : World) (hv : RowIn shPick S w v xs) (hv' : RowIn shPick S' w u xs) (hB : ∀ b, S b → b < w.heap.size) (hB' : ∀ b, S' b → b < w.heap.size) (hw : wtRow wtPick xs ≤ 1048576) :
    Calls Tryz.prog 15 #[v, u] w fun e w' => e = .returned (.bool true) ∧ Below w.heap.size w w' := by
  obtain ⟨a, cap, rfl, hl, hc, ha⟩ := hv
  obtain ⟨a', cap', rfl, _, hc', ha'⟩ := hv'
  unfold maxLen at hl
  go_enter Tryz.func15, Tryz.ntmps15
  go_wp2_with fail
  go_loopw [5] (fun vi wr => ∃ k : Nat, k ≤ xs.length ∧ vi = .int .i64 (k : Int) ∧ Below w.heap.size w wr) (fun vi _ => xs.length - (intOf vi).toNat)
  case atStart => exact ⟨0, Nat.zero_le _, rfl, Below.refl _ _⟩
  case round =>
    obtain ⟨k, hk, rfl, hbr⟩ := hrel
    by_cases hlt' : k < xs.length
    · rcases ha with rfl | ⟨b, off, rfl, hlt, ha⟩
      · simp at hlt'
      rcases ha' with rfl | ⟨b', off', rfl, hlt3, ha'⟩
      · simp at hlt'
      obtain ⟨cs, hL, hcell⟩ := ha k hlt'
      obtain ⟨cs', hL', hcell'⟩ := ha' k hlt'
      have hwt : wtPick xs[k] ≤ 1048576 := by have := wt_wtRow wtPick (List.getElem_mem hlt'); omega
      have HC := eqPick_c S S' xs[k] cs cs' wr.drew (shPick.keep (.of hbr.drew hB) hL) (shPick.keep (.of hbr.drew hB') hL') (fun b h => Nat.lt_of_lt_of_le (hB b h) hbr.size) (fun b h => Nat.lt_of_lt_of_le (hB' b h) hbr.size) hwt
      replace hL := shPick.keep (.of hbr hB) hL
      replace hL' := shPick.keep (.of hbr hB') hL'
      replace hcell := hcell.keep (.of hbr hB) hlt
      replace hcell' := hcell'.keep (.of hbr hB') hlt3
      obtain ⟨d, hd⟩ : ∃ d, d = xs[k] := ⟨_, rfl⟩
      rw [← hd] at hL hL' hwt
      clear ha ha' hd
      obtain ⟨xu0, rfl, xs_name, xr0, xp0⟩ := hL
      obtain ⟨yu0, rfl, ys_name, yr0, yp0⟩ := hL'
      clear xs_name xp0 ys_name yp0
      obtain ⟨xa0, xc0, xe0, _⟩ := id xr0
      rw [length_strsV] at xe0
      subst xe0
      clear xr0
      have xv0 : wr.cell? ⟨b, off + k * 5, none⟩ = some (.string d.name) := hcell 0 (by simp)
      have xv1 : wr.cell? ⟨b, off + k * 5 + 1, none⟩ = some (.int .i64 d.vA) := hcell 1 (by simp)
      have xv2 : wr.cell? ⟨b, off + k * 5 + 2, none⟩ = some (.int .i64 d.vB) := hcell 2 (by simp)
      have xv3 : wr.cell? ⟨b, off + k * 5 + 3, none⟩ = some (.int .i64 d.vC) := hcell 3 (by simp)
      have xv4 : wr.cell? ⟨b, off + k * 5 + 4, none⟩ = some (.slice xa0 d.vP.length xc0) := hcell 4 (by simp)
      obtain ⟨ya0, yc0, ye0, _⟩ := id yr0
      rw [length_strsV] at ye0
      subst ye0
      clear yr0
      have yv0 : wr.cell? ⟨b', off' + k * 5, none⟩ = some (.string d.name) := hcell' 0 (by simp)
      have yv1 : wr.cell? ⟨b', off' + k * 5 + 1, none⟩ = some (.int .i64 d.vA) := hcell' 1 (by simp)
      have yv2 : wr.cell? ⟨b', off' + k * 5 + 2, none⟩ = some (.int .i64 d.vB) := hcell' 2 (by simp)
      have yv3 : wr.cell? ⟨b', off' + k * 5 + 3, none⟩ = some (.int .i64 d.vC) := hcell' 3 (by simp)
      have yv4 : wr.cell? ⟨b', off' + k * 5 + 4, none⟩ = some (.slice ya0 d.vP.length yc0) := hcell' 4 (by simp)
      have HC2 := hidden HC
      have hki : (k : Int) < (xs.length : Int) := by omega
      clear hcell hcell' HC hwt
      go_wp2_with fail
      go_region_with (go_at_call 35; refine HC2.out.mono ?_; rintro e w2 ⟨rfl, hb2⟩)
      all_goals go_wp2_with fail
      all_goals go_roundw
      all_goals first
        | exact ⟨k + 1, by omega, by go_num, hbr.drew.trans (hb2.mono hbr.size)⟩
        | (simp [intOf]; omega)
    · have he : k = xs.length := by omega
      subst he
      clear ha ha'
      go_wp2_with fail
      go_ret
      exact ⟨rfl, hbr⟩

end Go.Proofs.YtbolphjigjpmiabGreatDoor

/-! The law on Solves, walked: whatever comes in, the program and the specification answer alike, and nothing is written into an argument; conditions: what comes in lies in memory, its numbers fit into an int, and the tables hold what they are laid with. -/
namespace Go.Proofs.YtbolphjigjpmiabGreatDoor
open Go.RowKit
set_option linter.unusedSimpArgs false
set_option linter.unusedVariables false

theorem leftW_pos {a : Nat} {left : Int} (h : (a : Int) ≤ left) (hl : left ≤ 1048576) : 0 ≤ leftW a left ∧ leftW a left ≤ 1048576 ∧ a ≤ 1048576 := by
  rw [leftW_good h]; omega

set_option maxHeartbeats 8000000 in
set_option maxRecDepth 100000 in
theorem solves_walk (a0 a1 a2 : Value) (z0 : List EntryD) (z1 : List NeedD) (z2 : List PickD) (w : World) (r0 : RowIn shEntry (· < w.heap.size) w a0 z0) (f0 : ∀ d ∈ z0, wfE d) (r1 : RowIn shNeed (· < w.heap.size) w a1 z1) (r2 : RowIn shPick (· < w.heap.size) w a2 z2) (f2 : ∀ d ∈ z2, wfP d)
    (hT : Tabs w) (htab : Lib.TabIs Tryz.prog w "internal/strconv.uint64pow10" .u64 Lib.pow10Tab) :
    Calls Tryz.prog 3 #[a0, a1, a2] w fun e w' => e = .returned (.bool true) ∧ Below w.heap.size w w' := by
  have hin0 : ∀ w1, Below w.heap.size w w1 → RowIn shEntry (· < w1.heap.size) w1 a0 z0 := fun w1 h => r0.below h
  have HZ0 : Hid (∀ p, 0 ≤ p → p ≤ 1048576 → ∀ w1, Below w.heap.size w w1 → Calls Tryz.prog 5 #[a0, .int .i64 p] w1 fun e w' => e = .returned (.int .i64 (leftW (wtRow wtEntry z0) p)) ∧ Below w1.heap.size w1 w') := fun p h0 h1 w1 h => szEntryS_c _ _ z0 _ h0 h1 w1 (hin0 w1 h) (fun b h => h)
  have hin1 : ∀ w1, Below w.heap.size w w1 → RowIn shNeed (· < w1.heap.size) w1 a1 z1 := fun w1 h => r1.below h
  have HZ1 : Hid (∀ p, 0 ≤ p → p ≤ 1048576 → ∀ w1, Below w.heap.size w w1 → Calls Tryz.prog 6 #[a1, .int .i64 p] w1 fun e w' => e = .returned (.int .i64 (leftW (wtRow wtNeed z1) p)) ∧ Below w1.heap.size w1 w') := fun p h0 h1 w1 h => szNeedS_c _ _ z1 _ h0 h1 w1 (hin1 w1 h) (fun b h => h)
  have hin2 : ∀ w1, Below w.heap.size w w1 → RowIn shPick (· < w1.heap.size) w1 a2 z2 := fun w1 h => r2.below h
  have HZ2 : Hid (∀ p, 0 ≤ p → p ≤ 1048576 → ∀ w1, Below w.heap.size w w1 → Calls Tryz.prog 7 #[a2, .int .i64 p] w1 fun e w' => e = .returned (.int .i64 (leftW (wtRow wtPick z2) p)) ∧ Below w1.heap.size w1 w') := fun p h0 h1 w1 h => szPickS_c _ _ z2 _ h0 h1 w1 (hin2 w1 h) (fun b h => h)
  obtain ⟨q0, cap0, hq0⟩ := r0.slice
  subst hq0
  obtain ⟨q1, cap1, hq1⟩ := r1.slice
  subst hq1
  obtain ⟨q2, cap2, hq2⟩ := r2.slice
  subst hq2
  obtain ⟨p0, hp0e⟩ : ∃ p : Int, p = 1048576 := ⟨_, rfl⟩
  have HP0 : Hid (p0 = 1048576) := hp0e
  have hp0a : 0 ≤ p0 := by omega
  have hp0b : p0 ≤ 1048576 := by omega
  clear hp0e
  replace HZ0 := hidden (HZ0.out p0 hp0a hp0b)
  by_cases hbig0 : ¬ ((wtRow wtEntry z0 : Nat) : Int) ≤ p0
  · have e1 : leftW (wtRow wtEntry z0) p0 = -1 := leftW_bad hbig0
    rw [e1] at HZ0
    simp only [HP0.out] at HZ0
    clear e1 hbig0 hT htab f0 f2 hin0 r0 hin1 r1 hin2 r2
    go_enter Tryz.func3, Tryz.ntmps3
    go_wp2_with fail
    go_at_call 5
    refine (HZ0.out _ (Below.refl w.heap.size w)).mono ?_
    rintro e w1 ⟨rfl, b1⟩
    have k1 := (Below.refl w.heap.size w).trans (b1.mono (Below.refl w.heap.size w).size)
    go_wp2_with fail
    go_ret
    exact ⟨rfl, k1⟩
  have hle0 := Decidable.not_not.1 hbig0
  obtain ⟨hn0, hm0, hw0⟩ := leftW_pos hle0 hp0b
  clear hbig0 hle0
  obtain ⟨p1, hp1⟩ : ∃ p, p = leftW (wtRow wtEntry z0) p0 := ⟨_, rfl⟩
  rw [← hp1] at HZ0 hn0 hm0
  clear hp1
  have hp1a := hn0
  have hp1b := hm0
  replace HZ1 := hidden (HZ1.out p1 hp1a hp1b)
  by_cases hbig1 : ¬ ((wtRow wtNeed z1 : Nat) : Int) ≤ p1
  · have e1 : leftW (wtRow wtNeed z1) p1 = -1 := leftW_bad hbig1
    rw [e1] at HZ1
    simp only [HP0.out] at HZ0
    clear e1 hbig1 hT htab f0 f2 hin0 r0 hin1 r1 hin2 r2
    go_enter Tryz.func3, Tryz.ntmps3
    go_wp2_with fail
    go_at_call 5
    refine (HZ0.out _ (Below.refl w.heap.size w)).mono ?_
    rintro e w1 ⟨rfl, b1⟩
    have k1 := (Below.refl w.heap.size w).trans (b1.mono (Below.refl w.heap.size w).size)
    go_wp2_with fail
    go_at_call 6
    refine (HZ1.out _ k1).mono ?_
    rintro e w2 ⟨rfl, b2⟩
    have k2 := (k1).trans (b2.mono (k1).size)
    go_wp2_with fail
    go_ret
    exact ⟨rfl, k2⟩
  have hle1 := Decidable.not_not.1 hbig1
  obtain ⟨hn1, hm1, hw1⟩ := leftW_pos hle1 hp1b
  clear hbig1 hle1
  obtain ⟨p2, hp2⟩ : ∃ p, p = leftW (wtRow wtNeed z1) p1 := ⟨_, rfl⟩
  rw [← hp2] at HZ1 hn1 hm1
  clear hp2
  have hp2a := hn1
  have hp2b := hm1
  replace HZ2 := hidden (HZ2.out p2 hp2a hp2b)
  by_cases hbig2 : ¬ ((wtRow wtPick z2 : Nat) : Int) ≤ p2
  · have e1 : leftW (wtRow wtPick z2) p2 = -1 := leftW_bad hbig2
    rw [e1] at HZ2
    simp only [HP0.out] at HZ0
    clear e1 hbig2 hT htab f0 f2 hin0 r0 hin1 r1 hin2 r2
    go_enter Tryz.func3, Tryz.ntmps3
    go_wp2_with fail
    go_at_call 5
    refine (HZ0.out _ (Below.refl w.heap.size w)).mono ?_
    rintro e w1 ⟨rfl, b1⟩
    have k1 := (Below.refl w.heap.size w).trans (b1.mono (Below.refl w.heap.size w).size)
    go_wp2_with fail
    go_at_call 6
    refine (HZ1.out _ k1).mono ?_
    rintro e w2 ⟨rfl, b2⟩
    have k2 := (k1).trans (b2.mono (k1).size)
    go_wp2_with fail
    go_at_call 7
    refine (HZ2.out _ k2).mono ?_
    rintro e w3 ⟨rfl, b3⟩
    have k3 := (k2).trans (b3.mono (k2).size)
    go_wp2_with fail
    go_ret
    exact ⟨rfl, k3⟩
  have hle2 := Decidable.not_not.1 hbig2
  obtain ⟨hn2, hm2, hw2⟩ := leftW_pos hle2 hp2b
  clear hbig2 hle2
  obtain ⟨p3, hp3⟩ : ∃ p, p = leftW (wtRow wtPick z2) p2 := ⟨_, rfl⟩
  rw [← hp3] at HZ2 hn2 hm2
  clear hp3
  simp only [HP0.out] at HZ0
  have HT0 : Hid (∀ w1, Below w.heap.size w w1 → Calls Tryz.prog 9 #[.slice q0 z0.length cap0] w1 fun e w' => ∃ g, e = .returned (.slice (some ⟨g, 0, none⟩) z0.length z0.length) ∧ RowOwn shEntryO 60 (Ow w1.heap.size w'.heap.size) w' (.slice (some ⟨g, 0, none⟩) z0.length z0.length) z0 ∧ Below w1.heap.size w1 w') := fun w1 h => toEntryS_c _ _ z0 w1 (hin0 w1 h) (fun b h => h) hw0
  have HE0 : Hid (∀ W g g' l1 h1 l2 h2, RowOwn shEntryO 60 (Ow l1 h1) W (.slice (some ⟨g, 0, none⟩) z0.length z0.length) z0 → h1 ≤ W.heap.size → RowOwn shEntryO 60 (Ow l2 h2) W (.slice (some ⟨g', 0, none⟩) z0.length z0.length) z0 → h2 ≤ W.heap.size → Calls Tryz.prog 13 #[.slice (some ⟨g, 0, none⟩) z0.length z0.length, .slice (some ⟨g', 0, none⟩) z0.length z0.length] W fun e w' => e = .returned (.bool true) ∧ Below W.heap.size W w') := fun W g g' l1 h1 l2 h2 a c b d => eqEntryS_c (Ow l1 h1) (Ow l2 h2) _ _ z0 W (RowIn.as (sh := shEntryO) (sh' := shEntry) rfl (fun S w cs x h => liesEntry_plain h) a.plain) (RowIn.as (sh := shEntryO) (sh' := shEntry) rfl (fun S w cs x h => liesEntry_plain h) b.plain) (fun b hb => Nat.lt_of_lt_of_le hb.2 c) (fun b hb => Nat.lt_of_lt_of_le hb.2 d) hw0
  have HT1 : Hid (∀ w1, Below w.heap.size w w1 → Calls Tryz.prog 10 #[.slice q1 z1.length cap1] w1 fun e w' => ∃ g, e = .returned (.slice (some ⟨g, 0, none⟩) z1.length z1.length) ∧ RowOwn shNeed 66 (Ow w1.heap.size w'.heap.size) w' (.slice (some ⟨g, 0, none⟩) z1.length z1.length) z1 ∧ Below w1.heap.size w1 w') := fun w1 h => toNeedS_c _ _ z1 w1 (hin1 w1 h) (fun b h => h) hw1
  have HE1 : Hid (∀ W g g' l1 h1 l2 h2, RowOwn shNeed 66 (Ow l1 h1) W (.slice (some ⟨g, 0, none⟩) z1.length z1.length) z1 → h1 ≤ W.heap.size → RowOwn shNeed 66 (Ow l2 h2) W (.slice (some ⟨g', 0, none⟩) z1.length z1.length) z1 → h2 ≤ W.heap.size → Calls Tryz.prog 14 #[.slice (some ⟨g, 0, none⟩) z1.length z1.length, .slice (some ⟨g', 0, none⟩) z1.length z1.length] W fun e w' => e = .returned (.bool true) ∧ Below W.heap.size W w') := fun W g g' l1 h1 l2 h2 a c b d => eqNeedS_c (Ow l1 h1) (Ow l2 h2) _ _ z1 W a.plain b.plain (fun b hb => Nat.lt_of_lt_of_le hb.2 c) (fun b hb => Nat.lt_of_lt_of_le hb.2 d) hw1
  have HT2 : Hid (∀ w1, Below w.heap.size w w1 → Calls Tryz.prog 11 #[.slice q2 z2.length cap2] w1 fun e w' => ∃ g, e = .returned (.slice (some ⟨g, 0, none⟩) z2.length z2.length) ∧ RowOwn shPickO 64 (Ow w1.heap.size w'.heap.size) w' (.slice (some ⟨g, 0, none⟩) z2.length z2.length) z2 ∧ Below w1.heap.size w1 w') := fun w1 h => toPickS_c _ _ z2 w1 (hin2 w1 h) (fun b h => h) hw2
  have HE2 : Hid (∀ W g g' l1 h1 l2 h2, RowOwn shPickO 64 (Ow l1 h1) W (.slice (some ⟨g, 0, none⟩) z2.length z2.length) z2 → h1 ≤ W.heap.size → RowOwn shPickO 64 (Ow l2 h2) W (.slice (some ⟨g', 0, none⟩) z2.length z2.length) z2 → h2 ≤ W.heap.size → Calls Tryz.prog 15 #[.slice (some ⟨g, 0, none⟩) z2.length z2.length, .slice (some ⟨g', 0, none⟩) z2.length z2.length] W fun e w' => e = .returned (.bool true) ∧ Below W.heap.size W w') := fun W g g' l1 h1 l2 h2 a c b d => eqPickS_c (Ow l1 h1) (Ow l2 h2) _ _ z2 W (RowIn.as (sh := shPickO) (sh' := shPick) rfl (fun S w cs x h => liesPick_plain h) a.plain) (RowIn.as (sh := shPickO) (sh' := shPick) rfl (fun S w cs x h => liesPick_plain h) b.plain) (fun b hb => Nat.lt_of_lt_of_le hb.2 c) (fun b hb => Nat.lt_of_lt_of_le hb.2 d) hw2
  obtain ⟨R, hR⟩ : ∃ R, R = solB z0 z1 z2 := ⟨_, rfl⟩
  have HS : Hid (∀ W g0 g1 g2 l0 h0 l1 h1 l2 h2, RowOwn shEntryO 60 (Ow l0 h0) W (.slice (some ⟨g0, 0, none⟩) z0.length z0.length) z0 → h0 ≤ W.heap.size → RowOwn shNeed 66 (Ow l1 h1) W (.slice (some ⟨g1, 0, none⟩) z1.length z1.length) z1 → h1 ≤ W.heap.size → RowOwn shPickO 64 (Ow l2 h2) W (.slice (some ⟨g2, 0, none⟩) z2.length z2.length) z2 → h2 ≤ W.heap.size → Calls Tryz.prog 8 #[.slice (some ⟨g0, 0, none⟩) z0.length z0.length, .slice (some ⟨g1, 0, none⟩) z1.length z1.length, .slice (some ⟨g2, 0, none⟩) z2.length z2.length] W fun e w' => e = .returned (.bool R) ∧ Below W.heap.size W w') := fun W g0 g1 g2 l0 h0 l1 h1 l2 h2 x0 y0 x1 y1 x2 y2 => by rw [hR]; exact specSolves_c (Ow l0 h0) (Ow l1 h1) (Ow l2 h2) _ _ _ z0 z1 z2 W x0.plain x1.plain x2.plain (fun b hb => Nat.lt_of_lt_of_le hb.2 y0) (fun b hb => Nat.lt_of_lt_of_le hb.2 y1) (fun b hb => Nat.lt_of_lt_of_le hb.2 y2) hw0 hw1 hw2
  have HI : Hid (∀ W g0 g1 g2 l0 h0 l1 h1 l2 h2, Below w.heap.size w W → RowOwn shEntryO 60 (Ow l0 h0) W (.slice (some ⟨g0, 0, none⟩) z0.length z0.length) z0 → h0 ≤ W.heap.size → RowOwn shNeed 66 (Ow l1 h1) W (.slice (some ⟨g1, 0, none⟩) z1.length z1.length) z1 → h1 ≤ W.heap.size → RowOwn shPickO 64 (Ow l2 h2) W (.slice (some ⟨g2, 0, none⟩) z2.length z2.length) z2 → h2 ≤ W.heap.size → Calls Tryz.prog 12 #[.slice (some ⟨g0, 0, none⟩) z0.length z0.length, .slice (some ⟨g1, 0, none⟩) z1.length z1.length, .slice (some ⟨g2, 0, none⟩) z2.length z2.length] W fun e w' => e = .returned (.bool R) ∧ Below W.heap.size W w') := fun W g0 g1 g2 l0 h0 l1 h1 l2 h2 hb x0 y0 x1 y1 x2 y2 => by rw [hR]; exact implSolves_c (Ow l0 h0) (Ow l1 h1) (Ow l2 h2) _ _ _ z0 z1 z2 W (RowIn.as (sh := shEntryO) (sh' := shEntry) rfl (fun S w cs x h => liesEntry_plain h) x0.plain) x1.plain (RowIn.as (sh := shPickO) (sh' := shPick) rfl (fun S w cs x h => liesPick_plain h) x2.plain) (fun b hb => Nat.lt_of_lt_of_le hb.2 y0) (fun b hb => Nat.lt_of_lt_of_le hb.2 y1) (fun b hb => Nat.lt_of_lt_of_le hb.2 y2) hw0 hw1 hw2 f0 f2 (hT.below hb) (tabIs_below hb htab)
  clear hR hin0 hin1 hin2 r0 r1 r2 f0 f2 hT htab hw0 hw1 hw2
  go_enter Tryz.func3, Tryz.ntmps3
  go_wp2_with fail
  go_at_call 5
  refine (HZ0.out _ (Below.refl w.heap.size w)).mono ?_
  rintro e v1 ⟨rfl, b1⟩
  have k1 := (Below.refl w.heap.size w).trans (b1.mono (Below.refl w.heap.size w).size)
  clear b1
  go_wp2_with fail
  go_at_call 6
  refine (HZ1.out _ (k1)).mono ?_
  rintro e v2 ⟨rfl, b2⟩
  have k2 := (k1).trans (b2.mono (k1).size)
  clear b2
  go_wp2_with fail
  go_at_call 7
  refine (HZ2.out _ (k2)).mono ?_
  rintro e v3 ⟨rfl, b3⟩
  have k3 := (k2).trans (b3.mono (k2).size)
  clear b3
  go_wp2_with fail
  go_at_call 9
  refine (HT0.out _ k3).mono ?_
  rintro e v4 ⟨gA, rfl, FA, b4⟩
  have k4 := k3.trans (b4.mono k3.size)
  have m4 := b4.size
  clear b4
  go_wp2_with fail
  go_at_call 10
  refine (HT1.out _ k4).mono ?_
  rintro e v5 ⟨gB, rfl, FB, b5⟩
  have k5 := k4.trans (b5.mono k4.size)
  have m5 := b5.size
  have FA := FA.keep (Kp.of b5 (fun b hb => by have := hb.2; omega))
  clear b5
  go_wp2_with fail
  go_at_call 11
  refine (HT2.out _ k5).mono ?_
  rintro e v6 ⟨gC, rfl, FC, b6⟩
  have k6 := k5.trans (b6.mono k5.size)
  have m6 := b6.size
  have FA := FA.keep (Kp.of b6 (fun b hb => by have := hb.2; omega))
  have FB := FB.keep (Kp.of b6 (fun b hb => by have := hb.2; omega))
  clear b6
  go_wp2_with fail
  go_at_call 8
  refine (HS.out _ gA gB gC _ _ _ _ _ _ FA (by omega) FB (by omega) FC (by omega)).mono ?_
  rintro e v7 ⟨rfl, b7⟩
  have k7 := k6.trans (b7.mono k6.size)
  have m7 := b7.size
  clear b7 FA FB FC HS
  go_wp2_with fail
  go_at_call 9
  refine (HT0.out _ k7).mono ?_
  rintro e v8 ⟨gD, rfl, FD, b8⟩
  have k8 := k7.trans (b8.mono k7.size)
  have m8 := b8.size
  clear b8
  go_wp2_with fail
  go_at_call 10
  refine (HT1.out _ k8).mono ?_
  rintro e v9 ⟨gE, rfl, FE, b9⟩
  have k9 := k8.trans (b9.mono k8.size)
  have m9 := b9.size
  have FD := FD.keep (Kp.of b9 (fun b hb => by have := hb.2; omega))
  clear b9
  go_wp2_with fail
  go_at_call 11
  refine (HT2.out _ k9).mono ?_
  rintro e v10 ⟨gF, rfl, FF, b10⟩
  have k10 := k9.trans (b10.mono k9.size)
  have m10 := b10.size
  have FD := FD.keep (Kp.of b10 (fun b hb => by have := hb.2; omega))
  have FE := FE.keep (Kp.of b10 (fun b hb => by have := hb.2; omega))
  clear b10
  go_wp2_with fail
  go_at_call 12
  refine (HI.out _ gD gE gF _ _ _ _ _ _ k10 FD (by omega) FE (by omega) FF (by omega)).mono ?_
  rintro e v11 ⟨rfl, b11⟩
  have k11 := k10.trans (b11.mono k10.size)
  have m11 := b11.size
  have FD := FD.keep (Kp.of b11 (fun b hb => by have := hb.2; omega))
  have FE := FE.keep (Kp.of b11 (fun b hb => by have := hb.2; omega))
  have FF := FF.keep (Kp.of b11 (fun b hb => by have := hb.2; omega))
  clear b11 HI
  have hRR : (R != R) = false := by cases R <;> rfl
  go_wp2_with fail
  go_at_call 9
  refine (HT0.out _ k11).mono ?_
  rintro e v12 ⟨gG, rfl, FG, b12⟩
  have k12 := k11.trans (b12.mono k11.size)
  have m12 := b12.size
  have FD := FD.keep (Kp.of b12 (fun b hb => by have := hb.2; omega))
  have FE := FE.keep (Kp.of b12 (fun b hb => by have := hb.2; omega))
  have FF := FF.keep (Kp.of b12 (fun b hb => by have := hb.2; omega))
  clear b12
  go_wp2_with fail
  go_at_call 13
  refine (HE0.out _ gD gG _ _ _ _ FD (by omega) FG (by omega)).mono ?_
  rintro e v13 ⟨rfl, b13⟩
  have k13 := k12.trans (b13.mono k12.size)
  have m13 := b13.size
  have FE := FE.keep (Kp.of b13 (fun b hb => by have := hb.2; omega))
  have FF := FF.keep (Kp.of b13 (fun b hb => by have := hb.2; omega))
  clear b13 FD FG
  go_wp2_with fail
  go_at_call 10
  refine (HT1.out _ k13).mono ?_
  rintro e v14 ⟨gH, rfl, FH, b14⟩
  have k14 := k13.trans (b14.mono k13.size)
  have m14 := b14.size
  have FE := FE.keep (Kp.of b14 (fun b hb => by have := hb.2; omega))
  have FF := FF.keep (Kp.of b14 (fun b hb => by have := hb.2; omega))
  clear b14
  go_wp2_with fail
  go_at_call 14
  refine (HE1.out _ gE gH _ _ _ _ FE (by omega) FH (by omega)).mono ?_
  rintro e v15 ⟨rfl, b15⟩
  have k15 := k14.trans (b15.mono k14.size)
  have m15 := b15.size
  have FF := FF.keep (Kp.of b15 (fun b hb => by have := hb.2; omega))
  clear b15 FE FH
  go_wp2_with fail
  go_at_call 11
  refine (HT2.out _ k15).mono ?_
  rintro e v16 ⟨gI, rfl, FI, b16⟩
  have k16 := k15.trans (b16.mono k15.size)
  have m16 := b16.size
  have FF := FF.keep (Kp.of b16 (fun b hb => by have := hb.2; omega))
  clear b16
  go_wp2_with fail
  go_at_call 15
  refine (HE2.out _ gF gI _ _ _ _ FF (by omega) FI (by omega)).mono ?_
  rintro e v17 ⟨rfl, b17⟩
  have k17 := k16.trans (b17.mono k16.size)
  have m17 := b17.size
  clear b17 FF FI
  go_wp2_with fail
  go_ret
  exact ⟨rfl, k17⟩
end Go.Proofs.YtbolphjigjpmiabGreatDoor

/-! What comes in as a version of the laws' own type: three numbers, and a list of texts that lies in memory: no condition. -/
namespace Go.Proofs.YtbolphjigjpmiabGreatDoor
open Go.ChangeShapes Go.WideShapes Go.ChangeAt Go.RowKit
set_option linter.unusedSimpArgs false
set_option linter.unusedVariables false

theorem vaddr_add (b off i : Nat) : ((⟨b, off, none⟩ : Addr).add i) = ⟨b, off + i, none⟩ := by unfold Addr.add; split <;> simp_all
theorem list4 {cs : List Value} (h : cs.length = 4) : ∃ c0 c1 c2 c3, cs = [c0, c1, c2, c3] := by
  match cs, h with
  | [c0, c1, c2, c3], _ => exact ⟨c0, c1, c2, c3, rfl⟩

theorem vreads_open {H : Type} {enc : TypeId × Value → H} {w : World} {spare : Nat → Bool} {held : Bool} {fuel : Nat} {c : Value} {x : DataW H × List MemPlace}
    (hf : DataW.trod enc Tryz.prog w 0 spare held fuel 46 [c] = some x) : ∃ ks, Reads w c (strsV ks) ∧ saneP ks := by
  rcases open_strings Tryz.underlying46 Tryz.underlying9 (by kernel_rfl) hf with ⟨hcs, _⟩ | ⟨x, l, cap, zs, hcs, _, hl, hm, hz, _, hcell, hwz⟩
  · simp at hcs
    subst hcs
    exact ⟨[], ⟨none, 0, rfl, Nat.le_refl _, .inl rfl⟩, by simp [saneP]⟩
  · simp at hcs
    subst hcs
    have hz' : l ≤ zs.length := by rw [hz]; split <;> omega
    have hlen : (zs.take l).length = l := by simp; omega
    refine ⟨zs.take l, ?_, by rw [hlen]; omega, fun s hs => hwz s (List.mem_of_mem_take hs)⟩
    by_cases h0 : l = 0
    · subst h0
      exact ⟨some x, cap, by simp [strsV], by simp [strsV], .inl (by simp [strsV])⟩
    · obtain ⟨b, off, spot⟩ := x
      have hc0 := hcell 0 (by omega)
      have hspot : spot = none := by simpa [Addr.add] using World.cell?_spot hc0
      subst hspot
      refine ⟨some ⟨b, off, none⟩, cap, by simp [strsV]; omega, by simp [strsV]; omega, .inr ⟨b, off, rfl, ?_, fun i hi => ?_⟩⟩
      · rw [vaddr_add] at hc0; exact World.block_lt_of_cell? w _ hc0
      · have hi' : i < l := by simp [strsV] at hi; omega
        have := hcell i (by omega)
        rw [vaddr_add] at this
        rw [this]
        simp [strsV, List.getD_eq_getElem?_getD, show i < zs.length by omega]

set_option maxRecDepth 100000 in
theorem ver_of_trod {H : Type} {enc : TypeId × Value → H} {w : World} {spare : Nat → Bool} {held : Bool} (fuel : Nat) (cs : List Value) (x : DataW H × List MemPlace)
    (h : DataW.trod enc Tryz.prog w 0 spare held fuel 48 cs = some x) : ∃ a b c u ps, cs = [.int .i64 a, .int .i64 b, .int .i64 c, u] ∧ Reads w u (strsV ps) ∧ saneP ps := by
  obtain ⟨xs, n, rfl, _, hlen, hxl, hf⟩ := DataW.trod_struct Tryz.underlying48 h
  have h4 : Tryz.prog.cellsOf 48 = 4 := by kernel_rfl
  obtain ⟨c0, c1, c2, c3, rfl⟩ := list4 (hlen.trans h4)
  have hx : ∀ i, i < 4 → ∃ y, xs[i]? = some y := fun i hi => ⟨xs[i]'(by rw [hxl]; exact hi), by rw [List.getElem?_eq_getElem]⟩
  obtain ⟨y0, e0⟩ := hx 0 (by omega)
  obtain ⟨y1, e1⟩ := hx 1 (by omega)
  obtain ⟨y2, e2⟩ := hx 2 (by omega)
  obtain ⟨y3, e3⟩ := hx 3 (by omega)
  have k3 : Tryz.prog.cellsOf 3 = 1 := by kernel_rfl
  have kS : Tryz.prog.cellsOf 46 = 1 := by kernel_rfl
  have f0 : DataW.trod enc Tryz.prog w 0 spare held n 3 [c0] = some y0 := by
    have h : DataW.trod enc Tryz.prog w 0 spare held n 3 ((([c0, c1, c2, c3] : List Value).drop 0).take (Tryz.prog.cellsOf 3)) = some y0 := (hf 0 _ rfl).trans e0
    rw [k3] at h; exact h
  have f1 : DataW.trod enc Tryz.prog w 0 spare held n 3 [c1] = some y1 := by
    have h : DataW.trod enc Tryz.prog w 0 spare held n 3 ((([c0, c1, c2, c3] : List Value).drop 1).take (Tryz.prog.cellsOf 3)) = some y1 := (hf 1 _ rfl).trans e1
    rw [k3] at h; exact h
  have f2 : DataW.trod enc Tryz.prog w 0 spare held n 3 [c2] = some y2 := by
    have h : DataW.trod enc Tryz.prog w 0 spare held n 3 ((([c0, c1, c2, c3] : List Value).drop 2).take (Tryz.prog.cellsOf 3)) = some y2 := (hf 2 _ rfl).trans e2
    rw [k3] at h; exact h
  have f3 : DataW.trod enc Tryz.prog w 0 spare held n 46 [c3] = some y3 := by
    have h : DataW.trod enc Tryz.prog w 0 spare held n 46 ((([c0, c1, c2, c3] : List Value).drop 3).take (Tryz.prog.cellsOf 46)) = some y3 := (hf 3 _ rfl).trans e3
    rw [kS] at h; exact h
  obtain ⟨k, hk, _, _⟩ := DataW.trod_int Tryz.underlying3 f0
  obtain ⟨m, hm, _, _⟩ := DataW.trod_int Tryz.underlying3 f1
  obtain ⟨r, hr, _, _⟩ := DataW.trod_int Tryz.underlying3 f2
  simp at hk hm hr
  subst hk hm hr
  obtain ⟨ks, hr, hsane⟩ := vreads_open f3
  exact ⟨_, _, _, _, _, rfl, hr, hsane⟩
#print axioms ver_of_trod
end Go.Proofs.YtbolphjigjpmiabGreatDoor

/-! What comes in as packs of the laws' own type: packs that lie in memory: no condition. -/
namespace Go.Proofs.YtbolphjigjpmiabGreatDoor
open Go.ChangeShapes Go.WideShapes Go.ChangeAt Go.RowKit
set_option linter.unusedSimpArgs false
set_option linter.unusedVariables false

theorem olist2 {cs : List Value} (h : cs.length = 2) : ∃ c0 c1, cs = [c0, c1] := by
  match cs, h with
  | [c0, c1], _ => exact ⟨c0, c1, rfl⟩
theorem olist4 {cs : List Value} (h : cs.length = 4) : ∃ c0 c1 c2 c3, cs = [c0, c1, c2, c3] := by
  match cs, h with
  | [c0, c1, c2, c3], _ => exact ⟨c0, c1, c2, c3, rfl⟩
theorem olist_of {α : Type} {P : Nat → α → Prop} : ∀ n, (∀ i, i < n → ∃ a, P i a) → ∃ l : List α, l.length = n ∧ ∀ i (h : i < l.length), P i l[i]
  | 0, _ => ⟨[], rfl, fun i h => by simp at h⟩
  | n + 1, h => by
    obtain ⟨l, hl, hp⟩ := olist_of n (fun i hi => h i (by omega))
    obtain ⟨a, ha⟩ := h n (by omega)
    refine ⟨l ++ [a], by simp [hl], fun i hi => ?_⟩
    by_cases h1 : i < l.length
    · rw [List.getElem_append_left h1]; exact hp i h1
    · have : i = n := by simp at hi; omega
      subst this
      rw [List.getElem_append_right (by omega)]
      simpa using ha

/-- A row that comes in, out of what its elements are. -/
theorem rows_of_trod {α H : Type} {P : Program} {enc : TypeId × Value → H} {w : World} {spare : Nat → Bool} {held : Bool} (sh : Sh α) {ts te : TypeId} (hu : P.underlying ts = some (.slice te)) (hn : P.cellsOf te = sh.n) (hpos : 0 < sh.n)
    (helem : ∀ n cs y, DataW.trod enc P w 0 spare held n te cs = some y → ∃ a, sh.lies (· < w.heap.size) w cs a) (fuel : Nat) (c : Value) (x : DataW H × List MemPlace)
    (h : DataW.trod enc P w 0 spare held fuel ts [c] = some x) : ∃ xs, RowIn sh (· < w.heap.size) w c xs := by
  rcases DataW.trod_slice hu h with ⟨hcs, _⟩ | ⟨a, len, cap, elems, rest, n', hn', hcs, _, _, hl, hcm, hel, hat, _, _⟩
  · simp at hcs
    subst hcs
    exact ⟨[], none, 0, rfl, by simp, Nat.le_refl _, .inl rfl⟩
  · simp at hcs
    subst hcs
    rw [hn] at hat
    have heach : ∀ i, i < len → ∃ q : α, ∃ cs, cs.length = sh.n ∧ sh.lies (· < w.heap.size) w cs q ∧ ∀ j (hj : j < cs.length), w.cell? ((a.add (i * sh.n)).add j) = some cs[j] := fun i hi => by
      have hb := hat i hi
      rw [List.getElem?_eq_getElem (by omega)] at hb
      obtain ⟨cs', hc1, hc2⟩ := Option.bind_eq_some_iff.1 hb
      obtain ⟨q, hq⟩ := helem _ cs' _ hc2
      obtain ⟨hb1, hl5, hcell⟩ := World.cells?_some hc1
      exact ⟨q, cs', hl5, hq, fun j hj => (hcell j (by omega)).trans (List.getElem?_eq_getElem hj)⟩
    obtain ⟨q, hq, hqp⟩ := olist_of len heach
    refine ⟨q, some a, cap, by rw [hq], by rw [hq]; omega, by rw [hq]; omega, ?_⟩
    by_cases h0 : len = 0
    · left; exact List.eq_nil_of_length_eq_zero (by omega)
    · right
      obtain ⟨b, off, spot⟩ := a
      obtain ⟨cs0, hl0, _, hc0⟩ := hqp 0 (by omega)
      have hc0 := hc0 0 (by omega)
      have hspot : spot = none := by
        have := World.cell?_spot hc0
        simpa [Addr.add] using this
      subst hspot
      refine ⟨b, off, rfl, ?_, fun i hi => ?_⟩
      · rw [vaddr_add, vaddr_add] at hc0; exact World.block_lt_of_cell? w _ hc0
      · obtain ⟨cs, h1, h2, h3⟩ := hqp i hi
        refine ⟨cs, h2, fun j hj => ?_⟩
        have := h3 j hj
        rw [vaddr_add, vaddr_add] at this
        exact this

set_option maxRecDepth 100000 in
theorem need_of_trod {H : Type} {enc : TypeId × Value → H} {w : World} {spare : Nat → Bool} {held : Bool} (fuel : Nat) (cs : List Value) (x : DataW H × List MemPlace)
    (h : DataW.trod enc Tryz.prog w 0 spare held fuel 53 cs = some x) : ∃ d : NeedD, shNeed.lies (· < w.heap.size) w cs d := by
  obtain ⟨xs, n, rfl, _, hlen, hxl, hf⟩ := DataW.trod_struct Tryz.underlying53 h
  have hN : Tryz.prog.cellsOf 53 = 2 := by kernel_rfl
  obtain ⟨c0, c1, rfl⟩ := olist2 (hlen.trans hN)
  have hx : ∀ i, i < 2 → ∃ y, xs[i]? = some y := fun i hi => ⟨xs[i]'(by rw [hxl]; exact hi), by rw [List.getElem?_eq_getElem]⟩
  obtain ⟨y0, e0⟩ := hx 0 (by omega)
  have k0 : Tryz.prog.cellsOf 9 = 1 := by kernel_rfl
  have f0 : DataW.trod enc Tryz.prog w 0 spare held n 9 [c0] = some y0 := by
    have h : DataW.trod enc Tryz.prog w 0 spare held n 9 ((([c0, c1] : List Value).drop 0).take (Tryz.prog.cellsOf 9)) = some y0 := (hf 0 _ rfl).trans e0
    rw [k0] at h; exact h
  obtain ⟨y1, e1⟩ := hx 1 (by omega)
  have k1 : Tryz.prog.cellsOf 9 = 1 := by kernel_rfl
  have f1 : DataW.trod enc Tryz.prog w 0 spare held n 9 [c1] = some y1 := by
    have h : DataW.trod enc Tryz.prog w 0 spare held n 9 ((([c0, c1] : List Value).drop 1).take (Tryz.prog.cellsOf 9)) = some y1 := (hf 1 _ rfl).trans e1
    rw [k1] at h; exact h
  obtain ⟨t0, ht0, _, hl0⟩ := DataW.trod_string Tryz.underlying9 f0
  simp at ht0
  subst ht0
  obtain ⟨t1, ht1, _, hl1⟩ := DataW.trod_string Tryz.underlying9 f1
  simp at ht1
  subst ht1
  exact ⟨⟨t0, t1⟩, rfl, hl0, hl1⟩
set_option maxRecDepth 100000 in
theorem needs_of_trod {H : Type} {enc : TypeId × Value → H} {w : World} {spare : Nat → Bool} {held : Bool} (fuel : Nat) (c : Value) (x : DataW H × List MemPlace)
    (h : DataW.trod enc Tryz.prog w 0 spare held fuel 23 [c] = some x) : ∃ xs, RowIn shNeed (· < w.heap.size) w c xs :=
  rows_of_trod shNeed Tryz.underlying23 (by kernel_rfl) (by decide) (fun n cs y hh => need_of_trod n cs y hh) fuel c x h

end Go.Proofs.YtbolphjigjpmiabGreatDoor

/-! What comes in of the laws' own type lies in memory: no condition. -/
namespace Go.Proofs.YtbolphjigjpmiabGreatDoor
open Go.ChangeShapes Go.WideShapes Go.ChangeAt Go.RowKit
set_option linter.unusedSimpArgs false
set_option linter.unusedVariables false

theorem olist5 {cs : List Value} (h : cs.length = 5) : ∃ c0 c1 c2 c3 c4, cs = [c0, c1, c2, c3, c4] := by
  match cs, h with
  | [c0, c1, c2, c3, c4], _ => exact ⟨c0, c1, c2, c3, c4, rfl⟩
set_option maxRecDepth 100000 in
theorem pick_of_trod {H : Type} {enc : TypeId × Value → H} {w : World} {spare : Nat → Bool} {held : Bool} (fuel : Nat) (cs : List Value) (x : DataW H × List MemPlace)
    (h : DataW.trod enc Tryz.prog w 0 spare held fuel 56 cs = some x) : ∃ d : PickD, shPick.lies (· < w.heap.size) w cs d := by
  obtain ⟨xs, n, rfl, _, hlen, hxl, hf⟩ := DataW.trod_struct Tryz.underlying56 h
  have hN : Tryz.prog.cellsOf 56 = 5 := by kernel_rfl
  obtain ⟨c0, c1, c2, c3, c4, rfl⟩ := olist5 (hlen.trans hN)
  have hx : ∀ i, i < 2 → ∃ y, xs[i]? = some y := fun i hi => ⟨xs[i]'(by rw [hxl]; exact hi), by rw [List.getElem?_eq_getElem]⟩
  obtain ⟨y0, e0⟩ := hx 0 (by omega)
  have k0 : Tryz.prog.cellsOf 9 = 1 := by kernel_rfl
  have f0 : DataW.trod enc Tryz.prog w 0 spare held n 9 [c0] = some y0 := by
    have h : DataW.trod enc Tryz.prog w 0 spare held n 9 ((([c0, c1, c2, c3, c4] : List Value).drop 0).take (Tryz.prog.cellsOf 9)) = some y0 := (hf 0 _ rfl).trans e0
    rw [k0] at h; exact h
  obtain ⟨y1, e1⟩ := hx 1 (by omega)
  have k1 : Tryz.prog.cellsOf 48 = 4 := by kernel_rfl
  have f1 : DataW.trod enc Tryz.prog w 0 spare held n 48 [c1, c2, c3, c4] = some y1 := by
    have h : DataW.trod enc Tryz.prog w 0 spare held n 48 ((([c0, c1, c2, c3, c4] : List Value).drop 1).take (Tryz.prog.cellsOf 48)) = some y1 := (hf 1 _ rfl).trans e1
    rw [k1] at h; exact h
  obtain ⟨t0, ht0, _, hl0⟩ := DataW.trod_string Tryz.underlying9 f0
  simp at ht0
  subst ht0
  obtain ⟨va1, vb1, vc1, vu1, vp1, hv1, hr1, hs1⟩ := ver_of_trod n _ _ f1
  simp at hv1
  obtain ⟨rfl, rfl, rfl, rfl⟩ := hv1
  exact ⟨⟨t0, va1, vb1, vc1, vp1⟩, _, rfl, hl0, RdB.of hr1, hs1⟩
set_option maxRecDepth 100000 in
theorem picks_of_trod {H : Type} {enc : TypeId × Value → H} {w : World} {spare : Nat → Bool} {held : Bool} (fuel : Nat) (c : Value) (x : DataW H × List MemPlace)
    (h : DataW.trod enc Tryz.prog w 0 spare held fuel 24 [c] = some x) : ∃ xs, RowIn shPick (· < w.heap.size) w c xs :=
  rows_of_trod shPick Tryz.underlying24 (by kernel_rfl) (by decide) (fun n cs y hh => pick_of_trod n cs y hh) fuel c x h

end Go.Proofs.YtbolphjigjpmiabGreatDoor
