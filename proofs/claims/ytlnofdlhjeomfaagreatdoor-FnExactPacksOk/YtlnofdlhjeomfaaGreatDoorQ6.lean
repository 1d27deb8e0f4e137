/-
  Contracts for the walks, several texts in one: each part says what it proves, and under which conditions.
-/
import Derived.Deep.RegionWith
import Derived.Test.YtlnofdlhjeomfaaGreatDoorQ5
import Derived.Test.YtlnofdlhjeomfaaGreatDoorQ2
import Derived.Test.YtlnofdlhjeomfaaGreatDoorQ4

/-! Whether needs, commands and packs are right, as the program asks it: contracts for the walks; conditions: they lie in memory, hold at most 2 to the 20, and the table of signs holds what it is laid with. -/
namespace Go.Proofs.YtlnofdlhjeomfaaGreatDoor
open Go.RowKit
set_option linter.unusedSimpArgs false
set_option linter.unusedVariables false

/-- The tables that reading a range leans on. -/
def Tabs (w : World) : Prop := ∃ m : Int, w.cell? ⟨1, 0, none⟩ = some (.int .i64 m) ∧ ∀ k (h : k < signsT.length), w.cell? ⟨4, k, none⟩ = some (.string signsT[k])
theorem Tabs.below {w w' : World} (h : Tabs w) (hb : Below w.heap.size w w') : Tabs w' := by
  obtain ⟨m, h1, h2⟩ := h
  exact ⟨m, (hb.cell (by simpa using World.block_lt_of_cell? w _ h1)).trans h1, fun k hk => (hb.cell (by simpa using World.block_lt_of_cell? w _ (h2 k hk))).trans (h2 k hk)⟩
theorem below_next {w w1 w2 : World} (h : Below w.heap.size w w1) (h2 : Below w1.heap.size w1 w2) : Below w.heap.size w w2 := h.trans (h2.mono h.size)

set_option maxHeartbeats 2000000 in
set_option maxRecDepth 100000 in
theorem wrongNeed_c (S : Nat → Prop) (d : NeedD) (cs : List Value) (w : World) (hd : shNeed.lies S w cs d) (hr : d.r.size ≤ 1048576) (hT : Tabs w) :
    Calls Tryz.prog 125 #[.agg cs.toArray] w fun e w' => e = .returned (.bool (!needB d)) ∧ Below w.heap.size w w' := by
  obtain ⟨rfl, s_n, s_r⟩ := hd
  have hbx : ∀ o, Below w.heap.size w (w.alloc o) := fun o => (Below.refl _ _).alloc (Nat.le_refl _) _
  have HN := fun w1 => implName_c d.n s_n w1
  have HR : ∀ w1, Below w.heap.size w w1 → Calls Tryz.prog 149 #[.string d.r] w1 fun e w' => ∃ v, e = .returned (.tuple #[v, .bool (rangeI d.r).isSome]) ∧ Below w1.heap.size w1 w' := fun w1 h => by
    obtain ⟨m, h1, h2⟩ := hT.below h
    exact (implRange_c d.r hr m w1 h1 h2).mono fun e w' ⟨v, a, _, b⟩ => ⟨v, a, b⟩
  unfold needB
  obtain ⟨p, hp⟩ : ∃ p, p = nameB d.n := ⟨_, rfl⟩
  obtain ⟨q, hq⟩ : ∃ q, q = (rangeI d.r).isSome := ⟨_, rfl⟩
  simp only [← hp] at HN ⊢
  simp only [← hq] at HR ⊢
  replace HN := hidden HN
  replace HR := hidden HR
  unfold maxLen at s_n s_r
  clear hp hq hT
  cases p with
  | false =>
    go_enter Tryz.func125, Tryz.ntmps125
    go_wp2_with (go_at_call 87; refine (HN.out _).mono ?_; rintro e w' ⟨rfl, rfl⟩)
    go_ret
    exact ⟨rfl, hbx _⟩
  | true =>
    by_cases hz : 20 < d.r.size
    · have hz' : (20 : Int) < (d.r.size : Int) := by omega
      have hz2 : decide (d.r.size ≤ 20) = false := decide_eq_false (by omega)
      rw [hz2]
      clear hz2
      go_enter Tryz.func125, Tryz.ntmps125
      go_wp2_with (go_at_call 87; refine (HN.out _).mono ?_; rintro e w' ⟨rfl, rfl⟩)
      go_ret
      exact ⟨rfl, hbx _⟩
    · have hz' : ¬ (20 : Int) < (d.r.size : Int) := by omega
      have hz2 : decide (d.r.size ≤ 20) = true := decide_eq_true (by omega)
      rw [hz2]
      clear hz2
      go_enter Tryz.func125, Tryz.ntmps125
      go_wp2_with fail
      go_at_call 87
      refine (HN.out _).mono ?_
      rintro e w' ⟨rfl, rfl⟩
      go_wp2_with fail
      go_at_call 149
      refine (HR.out _ (hbx _)).mono ?_
      rintro e w1 ⟨v, rfl, b1⟩
      go_wp2_with fail
      go_ret
      exact ⟨by cases q <;> rfl, (hbx _).trans (b1.mono (hbx _).size)⟩

set_option maxHeartbeats 2000000 in
set_option maxRecDepth 100000 in
theorem wrongCmd_c (S : Nat → Prop) (d : CmdD) (cs : List Value) (w : World) (hd : shCmd.lies S w cs d) (hB : ∀ b, S b → b < w.heap.size) :
    Calls Tryz.prog 129 #[.agg cs.toArray] w fun e w' => e = .returned (.bool (!cmdB d)) ∧ Below w.heap.size w w' := by
  obtain ⟨u0, rfl, s_t, r0, p0⟩ := hd
  have hbx : ∀ o, Below w.heap.size w (w.alloc o) := fun o => (Below.refl _ _).alloc (Nat.le_refl _) _
  have HN := fun w1 => implName_c d.t s_t w1
  have HA : ∀ w1, Below w.heap.size w w1 → Calls Tryz.prog 120 #[u0, .func (.func 151) #[] #[]] w1 fun e w' => e = .returned (.bool (d.acts.any (fun s => !plainAll s 40))) ∧ Below w1.heap.size w1 w' := fun w1 h =>
    anyNotPlain_c u0 d.acts w1 ((r0.keep (.of h hB)).reads (fun b hb => Nat.lt_of_lt_of_le (hB b hb) h.size)) p0
  have hc : cmdB d = (nameB d.t && (decide (1 ≤ d.acts.length ∧ d.acts.length ≤ 5) && !(d.acts.any (fun s => !plainAll s 40)))) := by
    unfold cmdB; rw [not_any_not]
  rw [hc]
  have hlen := p0.1
  obtain ⟨a0, c0, e0, _⟩ := id r0
  rw [length_strsV] at e0
  subst e0
  obtain ⟨p, hp⟩ : ∃ p, p = nameB d.t := ⟨_, rfl⟩
  obtain ⟨q, hq⟩ : ∃ q, q = d.acts.any (fun s => !plainAll s 40) := ⟨_, rfl⟩
  simp only [← hp] at HN ⊢
  simp only [← hq] at HA ⊢
  replace HN := hidden HN
  replace HA := hidden HA
  unfold maxLen at s_t hlen
  clear hp hq r0 p0 hc
  cases p with
  | false =>
    go_enter Tryz.func129, Tryz.ntmps129
    go_wp2_with (go_at_call 87; refine (HN.out _).mono ?_; rintro e w' ⟨rfl, rfl⟩)
    go_ret
    exact ⟨rfl, hbx _⟩
  | true =>
    by_cases hz : d.acts.length = 0
    · have hz2 : decide (1 ≤ d.acts.length ∧ d.acts.length ≤ 5) = false := decide_eq_false (by omega)
      rw [hz2]
      have hz3 : ((d.acts.length : Int) == 0) = true := by simp [hz]
      clear hz2
      go_enter Tryz.func129, Tryz.ntmps129
      go_wp2_with (go_at_call 87; refine (HN.out _).mono ?_; rintro e w' ⟨rfl, rfl⟩)
      go_ret
      exact ⟨rfl, hbx _⟩
    · have hz3 : ((d.acts.length : Int) == 0) = false := by simp; intro h; exact hz (by simp [h])
      by_cases hy : 5 < d.acts.length
      · have hy2 : decide (1 ≤ d.acts.length ∧ d.acts.length ≤ 5) = false := decide_eq_false (by omega)
        rw [hy2]
        have hy3 : (5 : Int) < (d.acts.length : Int) := by omega
        clear hy2
        go_enter Tryz.func129, Tryz.ntmps129
        go_wp2_with (go_at_call 87; refine (HN.out _).mono ?_; rintro e w' ⟨rfl, rfl⟩)
        go_ret
        exact ⟨rfl, hbx _⟩
      · have hy2 : decide (1 ≤ d.acts.length ∧ d.acts.length ≤ 5) = true := decide_eq_true (by omega)
        rw [hy2]
        have hy3 : ¬ (5 : Int) < (d.acts.length : Int) := by omega
        clear hy2
        go_enter Tryz.func129, Tryz.ntmps129
        go_wp2_with fail
        go_at_call 87
        refine (HN.out _).mono ?_
        rintro e w' ⟨rfl, rfl⟩
        go_wp2_with fail
        go_at_call 120
        refine (HA.out _ (hbx _)).mono ?_
        rintro e w1 ⟨rfl, b1⟩
        go_wp2_with fail
        go_ret
        exact ⟨by cases q <;> rfl, (hbx _).trans (b1.mono (hbx _).size)⟩

set_option maxHeartbeats 2000000 in
set_option maxRecDepth 100000 in
theorem idxNeed_c (S : Nat → Prop) (v : Value) (xs : List NeedD) (w : World) (hv : RowIn shNeed S w v xs) (hB : ∀ b, S b → b < w.heap.size) (hw : ∀ d ∈ xs, d.r.size ≤ 1048576) (hT : Tabs w) :
    Calls Tryz.prog 148 #[v, .func (.func 125) #[] #[]] w fun e w' => e = .returned (.int .i64 (firstI (fun d => !needB d) xs)) ∧ Below w.heap.size w w' := by
  obtain ⟨a, cap, rfl, hl, hc, ha⟩ := hv
  unfold maxLen at hl
  obtain ⟨R, hR⟩ : ∃ R, R = firstI (fun d => !needB d) xs := ⟨_, rfl⟩
  rw [← hR]
  have HR := hidden hR
  clear hR
  go_enter Tryz.func148, Tryz.ntmps148
  go_wp2_with fail
  go_loopw [8] (fun vi wr => ∃ k : Nat, k ≤ xs.length ∧ vi = .int .i64 (k : Int) ∧ Hid (∀ j (hj : j < xs.length), j < k → (fun d => !needB d) xs[j] = false) ∧ Below w.heap.size w wr) (fun vi _ => xs.length - (intOf vi).toNat)
  case atStart => exact ⟨0, Nat.zero_le _, rfl, (fun j hj h => by omega), Below.refl _ _⟩
  case round =>
    obtain ⟨k, hk, rfl, hno, hbr⟩ := hrel
    by_cases hlt' : k < xs.length
    · rcases ha with rfl | ⟨b, off, rfl, hlt, ha⟩
      · simp at hlt'
      obtain ⟨cs, hL, hcell⟩ := ha k hlt'
      have hL2 := shNeed.keep (.of hbr hB) hL
      have hcell2 := hcell.keep (.of hbr hB) hlt
      have hBr : ∀ b, S b → b < wr.heap.size := fun b h => Nat.lt_of_lt_of_le (hB b h) hbr.size
      have HT : Hid ((fun d => !needB d) xs[k] = true → R = (k : Int)) := fun h => HR.out.trans (firstI_here hlt' h hno.out)
      have HN : Hid ((fun d => !needB d) xs[k] = false → ∀ j (hj : j < xs.length), j < k + 1 → (fun d => !needB d) xs[j] = false) := fun h j hj hjk => by
        by_cases e : j = k
        · subst e; exact h
        · exact hno.out j hj (by omega)
      have HC : Calls Tryz.prog 125 #[.agg cs.toArray] wr fun e w' => e = .returned (.bool ((fun d => !needB d) xs[k])) ∧ Below wr.heap.size wr w' := wrongNeed_c S xs[k] cs wr hL2 (hw _ (List.getElem_mem hlt')) (hT.below hbr)
      obtain ⟨d, hd⟩ : ∃ d, d = xs[k] := ⟨_, rfl⟩
      rw [← hd] at hL2 HT HN HC
      obtain ⟨r, hr⟩ : ∃ r, r = (fun d => !needB d) d := ⟨_, rfl⟩
      rw [← hr] at HT HN HC
      clear ha hL hcell hd hr hno
      obtain ⟨rfl, s_n, s_r⟩ := hL2
      have e0 : wr.cell? ⟨b, off + k * 2, none⟩ = some (.string d.n) := hcell2 0 (by simp)
      have e1 : wr.cell? ⟨b, off + k * 2 + 1, none⟩ = some (.string d.r) := hcell2 1 (by simp)
      have HC2 := hidden HC
      have hki : (k : Int) < (xs.length : Int) := by omega
      clear hcell2 HC 
      cases r with
      | true =>
        have HT2 := hidden (HT.out rfl)
        clear HT HN
        go_wp2_with (go_at_call 125; refine HC2.out.mono ?_; rintro e w1 ⟨rfl, b1⟩)
        go_ret
        exact ⟨by rw [HT2.out]; rfl, hbr.trans (b1.mono hbr.size)⟩
      | false =>
        have HN2 := hidden (HN.out rfl)
        clear HT HN
        go_wp2_with (go_at_call 125; refine HC2.out.mono ?_; rintro e w1 ⟨rfl, b1⟩)
        go_roundw
        case rel => exact ⟨k + 1, by omega, by go_num, HN2.out, hbr.trans (b1.mono hbr.size)⟩
        case measure => simp [intOf]; omega
    · have he : k = xs.length := by omega
      subst he
      have HE : Hid (R = -1) := HR.out.trans (firstI_none (fun j hj => hno.out j hj hj))
      clear ha hno HR
      go_wp2_with fail
      go_ret
      exact ⟨by rw [HE.out]; rfl, hbr⟩
set_option maxHeartbeats 1000000 in
theorem anyNeed_c (S : Nat → Prop) (v : Value) (xs : List NeedD) (w : World) (hv : RowIn shNeed S w v xs) (hB : ∀ b, S b → b < w.heap.size) (hw : ∀ d ∈ xs, d.r.size ≤ 1048576) (hT : Tabs w) :
    Calls Tryz.prog 124 #[v, .func (.func 125) #[] #[]] w fun e w' => e = .returned (.bool (xs.any (fun d => !needB d))) ∧ Below w.heap.size w w' := by
  have HF := idxNeed_c S v xs w hv hB hw hT
  have hA := firstI_any (fun d => !needB d) xs
  obtain ⟨R, hR⟩ : ∃ R, R = firstI (fun d => !needB d) xs := ⟨_, rfl⟩
  rw [← hR] at HF hA
  rw [← hA]
  have HF2 := hidden HF
  obtain ⟨a, cap, rfl⟩ := hv.slice
  clear hv hR hA HF
  by_cases h0 : 0 ≤ R
  · rw [decide_eq_true h0]
    go_enter Tryz.func124, Tryz.ntmps124
    go_wp2_with (go_at_call 148; refine HF2.out.mono ?_; rintro e w1 ⟨rfl, b1⟩)
    go_ret
    exact ⟨by first | rfl | simp [h0] | (simp; omega), b1⟩
  · rw [decide_eq_false h0]
    go_enter Tryz.func124, Tryz.ntmps124
    go_wp2_with (go_at_call 148; refine HF2.out.mono ?_; rintro e w1 ⟨rfl, b1⟩)
    go_ret
    exact ⟨by first | rfl | simp [h0] | (simp; omega), b1⟩

set_option maxHeartbeats 2000000 in
set_option maxRecDepth 100000 in
theorem idxCmd_c (S : Nat → Prop) (v : Value) (xs : List CmdD) (w : World) (hv : RowIn shCmd S w v xs) (hB : ∀ b, S b → b < w.heap.size) :
    Calls Tryz.prog 150 #[v, .func (.func 129) #[] #[]] w fun e w' => e = .returned (.int .i64 (firstI (fun d => !cmdB d) xs)) ∧ Below w.heap.size w w' := by
  obtain ⟨a, cap, rfl, hl, hc, ha⟩ := hv
  unfold maxLen at hl
  obtain ⟨R, hR⟩ : ∃ R, R = firstI (fun d => !cmdB d) xs := ⟨_, rfl⟩
  rw [← hR]
  have HR := hidden hR
  clear hR
  go_enter Tryz.func150, Tryz.ntmps150
  go_wp2_with fail
  go_loopw [8] (fun vi wr => ∃ k : Nat, k ≤ xs.length ∧ vi = .int .i64 (k : Int) ∧ Hid (∀ j (hj : j < xs.length), j < k → (fun d => !cmdB d) xs[j] = false) ∧ Below w.heap.size w wr) (fun vi _ => xs.length - (intOf vi).toNat)
  case atStart => exact ⟨0, Nat.zero_le _, rfl, (fun j hj h => by omega), Below.refl _ _⟩
  case round =>
    obtain ⟨k, hk, rfl, hno, hbr⟩ := hrel
    by_cases hlt' : k < xs.length
    · rcases ha with rfl | ⟨b, off, rfl, hlt, ha⟩
      · simp at hlt'
      obtain ⟨cs, hL, hcell⟩ := ha k hlt'
      have hL2 := shCmd.keep (.of hbr hB) hL
      have hcell2 := hcell.keep (.of hbr hB) hlt
      have hBr : ∀ b, S b → b < wr.heap.size := fun b h => Nat.lt_of_lt_of_le (hB b h) hbr.size
      have HT : Hid ((fun d => !cmdB d) xs[k] = true → R = (k : Int)) := fun h => HR.out.trans (firstI_here hlt' h hno.out)
      have HN : Hid ((fun d => !cmdB d) xs[k] = false → ∀ j (hj : j < xs.length), j < k + 1 → (fun d => !cmdB d) xs[j] = false) := fun h j hj hjk => by
        by_cases e : j = k
        · subst e; exact h
        · exact hno.out j hj (by omega)
      have HC : Calls Tryz.prog 129 #[.agg cs.toArray] wr fun e w' => e = .returned (.bool ((fun d => !cmdB d) xs[k])) ∧ Below wr.heap.size wr w' := wrongCmd_c S xs[k] cs wr hL2 hBr
      obtain ⟨d, hd⟩ : ∃ d, d = xs[k] := ⟨_, rfl⟩
      rw [← hd] at hL2 HT HN HC
      obtain ⟨r, hr⟩ : ∃ r, r = (fun d => !cmdB d) d := ⟨_, rfl⟩
      rw [← hr] at HT HN HC
      clear ha hL hcell hd hr hno
      obtain ⟨u0, rfl, s_t, r0, p0⟩ := hL2
      obtain ⟨a0, c0, e0, _⟩ := id r0
      rw [length_strsV] at e0
      subst e0
      have e0 : wr.cell? ⟨b, off + k * 2, none⟩ = some (.string d.t) := hcell2 0 (by simp)
      have e1 : wr.cell? ⟨b, off + k * 2 + 1, none⟩ = some (.slice a0 d.acts.length c0) := hcell2 1 (by simp)
      have HC2 := hidden HC
      have hki : (k : Int) < (xs.length : Int) := by omega
      clear hcell2 HC r0
      cases r with
      | true =>
        have HT2 := hidden (HT.out rfl)
        clear HT HN
        go_wp2_with (go_at_call 129; refine HC2.out.mono ?_; rintro e w1 ⟨rfl, b1⟩)
        go_ret
        exact ⟨by rw [HT2.out]; rfl, hbr.trans (b1.mono hbr.size)⟩
      | false =>
        have HN2 := hidden (HN.out rfl)
        clear HT HN
        go_wp2_with (go_at_call 129; refine HC2.out.mono ?_; rintro e w1 ⟨rfl, b1⟩)
        go_roundw
        case rel => exact ⟨k + 1, by omega, by go_num, HN2.out, hbr.trans (b1.mono hbr.size)⟩
        case measure => simp [intOf]; omega
    · have he : k = xs.length := by omega
      subst he
      have HE : Hid (R = -1) := HR.out.trans (firstI_none (fun j hj => hno.out j hj hj))
      clear ha hno HR
      go_wp2_with fail
      go_ret
      exact ⟨by rw [HE.out]; rfl, hbr⟩
set_option maxHeartbeats 1000000 in
theorem anyCmd_c (S : Nat → Prop) (v : Value) (xs : List CmdD) (w : World) (hv : RowIn shCmd S w v xs) (hB : ∀ b, S b → b < w.heap.size) :
    Calls Tryz.prog 128 #[v, .func (.func 129) #[] #[]] w fun e w' => e = .returned (.bool (xs.any (fun d => !cmdB d))) ∧ Below w.heap.size w w' := by
  have HF := idxCmd_c S v xs w hv hB 
  have hA := firstI_any (fun d => !cmdB d) xs
  obtain ⟨R, hR⟩ : ∃ R, R = firstI (fun d => !cmdB d) xs := ⟨_, rfl⟩
  rw [← hR] at HF hA
  rw [← hA]
  have HF2 := hidden HF
  obtain ⟨a, cap, rfl⟩ := hv.slice
  clear hv hR hA HF
  by_cases h0 : 0 ≤ R
  · rw [decide_eq_true h0]
    go_enter Tryz.func128, Tryz.ntmps128
    go_wp2_with (go_at_call 150; refine HF2.out.mono ?_; rintro e w1 ⟨rfl, b1⟩)
    go_ret
    exact ⟨by first | rfl | simp [h0] | (simp; omega), b1⟩
  · rw [decide_eq_false h0]
    go_enter Tryz.func128, Tryz.ntmps128
    go_wp2_with (go_at_call 150; refine HF2.out.mono ?_; rintro e w1 ⟨rfl, b1⟩)
    go_ret
    exact ⟨by first | rfl | simp [h0] | (simp; omega), b1⟩

set_option maxHeartbeats 2000000 in
set_option maxRecDepth 100000 in
theorem needOk_c (S : Nat → Prop) (v : Value) (xs : List NeedD) (w : World) (hv : RowIn shNeed S w v xs) (hB : ∀ b, S b → b < w.heap.size) (hw : ∀ d ∈ xs, d.r.size ≤ 1048576) (hT : Tabs w) :
    Calls Tryz.prog 89 #[v] w fun e w' => e = .returned (.bool (needsI xs)) ∧ Below w.heap.size w w' := by
  have HA : ∀ w1, Below w.heap.size w w1 → Calls Tryz.prog 124 #[v, .func (.func 125) #[] #[]] w1 fun e w' => e = .returned (.bool (xs.any (fun d => !needB d))) ∧ Below w1.heap.size w1 w' := fun w1 h => anyNeed_c S v xs w1 (hv.keep (.of h hB)) (fun b hb => Nat.lt_of_lt_of_le (hB b hb) h.size) hw (hT.below h)
  have HC : ∀ w1, Below w.heap.size w w1 → Calls Tryz.prog 126 #[v, .func (.func 127) #[] #[]] w1 fun e w' => e = .returned (.bool (ascB (xs.map NeedD.n))) ∧ Below w1.heap.size w1 w' := fun w1 h => ascNeed_c S v xs w1 (hv.keep (.of h hB)) (fun b hb => Nat.lt_of_lt_of_le (hB b hb) h.size)
  unfold needsI
  obtain ⟨p, hp⟩ : ∃ p, p = xs.any (fun d => !needB d) := ⟨_, rfl⟩
  obtain ⟨q, hq⟩ : ∃ q, q = ascB (xs.map NeedD.n) := ⟨_, rfl⟩
  simp only [← hp] at HA ⊢
  simp only [← hq] at HC ⊢
  replace HA := hidden HA
  replace HC := hidden HC
  have hl := hv.len
  obtain ⟨a, cap, rfl⟩ := hv.slice
  unfold maxLen at hl
  clear hv hp hq
  by_cases h4 : 4 < xs.length
  · have h4' : (4 : Int) < (xs.length : Int) := by omega
    rw [decide_eq_true h4]
    go_enter Tryz.func89, Tryz.ntmps89
    go_wp2_with fail
    go_ret
    exact ⟨rfl, Below.refl _ _⟩
  · have h4' : ¬ (4 : Int) < (xs.length : Int) := by omega
    rw [decide_eq_false h4]
    cases p with
    | true =>
      go_enter Tryz.func89, Tryz.ntmps89
      go_wp2_with fail
      go_at_call 124
      refine (HA.out _ (Below.refl _ _)).mono ?_
      rintro e w1 ⟨rfl, b1⟩
      go_wp2_with fail
      go_ret
      exact ⟨rfl, b1⟩
    | false =>
      go_enter Tryz.func89, Tryz.ntmps89
      go_wp2_with fail
      go_at_call 124
      refine (HA.out _ (Below.refl _ _)).mono ?_
      rintro e w1 ⟨rfl, b1⟩
      go_wp2_with fail
      go_at_call 126
      refine (HC.out _ b1).mono ?_
      rintro e w2 ⟨rfl, b2⟩
      go_wp2_with fail
      go_ret
      exact ⟨by cases q <;> rfl, below_next b1 b2⟩

set_option maxHeartbeats 2000000 in
set_option maxRecDepth 100000 in
theorem cmdOk_c (S : Nat → Prop) (v : Value) (xs : List CmdD) (w : World) (hv : RowIn shCmd S w v xs) (hB : ∀ b, S b → b < w.heap.size) :
    Calls Tryz.prog 90 #[v] w fun e w' => e = .returned (.bool (cmdsI xs)) ∧ Below w.heap.size w w' := by
  have HA : ∀ w1, Below w.heap.size w w1 → Calls Tryz.prog 128 #[v, .func (.func 129) #[] #[]] w1 fun e w' => e = .returned (.bool (xs.any (fun d => !cmdB d))) ∧ Below w1.heap.size w1 w' := fun w1 h => anyCmd_c S v xs w1 (hv.keep (.of h hB)) (fun b hb => Nat.lt_of_lt_of_le (hB b hb) h.size)
  have HC : ∀ w1, Below w.heap.size w w1 → Calls Tryz.prog 130 #[v, .func (.func 131) #[] #[]] w1 fun e w' => e = .returned (.bool (ascB (xs.map CmdD.t))) ∧ Below w1.heap.size w1 w' := fun w1 h => ascCmd_c S v xs w1 (hv.keep (.of h hB)) (fun b hb => Nat.lt_of_lt_of_le (hB b hb) h.size)
  unfold cmdsI
  obtain ⟨p, hp⟩ : ∃ p, p = xs.any (fun d => !cmdB d) := ⟨_, rfl⟩
  obtain ⟨q, hq⟩ : ∃ q, q = ascB (xs.map CmdD.t) := ⟨_, rfl⟩
  simp only [← hp] at HA ⊢
  simp only [← hq] at HC ⊢
  replace HA := hidden HA
  replace HC := hidden HC
  have hl := hv.len
  obtain ⟨a, cap, rfl⟩ := hv.slice
  unfold maxLen at hl
  clear hv hp hq
  by_cases h4 : 4 < xs.length
  · have h4' : (4 : Int) < (xs.length : Int) := by omega
    rw [decide_eq_true h4]
    go_enter Tryz.func90, Tryz.ntmps90
    go_wp2_with fail
    go_ret
    exact ⟨rfl, Below.refl _ _⟩
  · have h4' : ¬ (4 : Int) < (xs.length : Int) := by omega
    rw [decide_eq_false h4]
    cases p with
    | true =>
      go_enter Tryz.func90, Tryz.ntmps90
      go_wp2_with fail
      go_at_call 128
      refine (HA.out _ (Below.refl _ _)).mono ?_
      rintro e w1 ⟨rfl, b1⟩
      go_wp2_with fail
      go_ret
      exact ⟨rfl, b1⟩
    | false =>
      go_enter Tryz.func90, Tryz.ntmps90
      go_wp2_with fail
      go_at_call 128
      refine (HA.out _ (Below.refl _ _)).mono ?_
      rintro e w1 ⟨rfl, b1⟩
      go_wp2_with fail
      go_at_call 130
      refine (HC.out _ b1).mono ?_
      rintro e w2 ⟨rfl, b2⟩
      go_wp2_with fail
      go_ret
      exact ⟨by cases q <;> rfl, below_next b1 b2⟩

end Go.Proofs.YtlnofdlhjeomfaaGreatDoor

/-! Whether packs are right, and what they use is there, as the program asks it: contracts for the walks; conditions: they lie in memory, hold at most 2 to the 20, and the table of signs holds what it is laid with. -/
namespace Go.Proofs.YtlnofdlhjeomfaaGreatDoor
open Go.RowKit
set_option linter.unusedSimpArgs false
set_option linter.unusedVariables false

set_option maxHeartbeats 2000000 in
set_option maxRecDepth 100000 in
theorem usesOk_c (S : Nat → Prop) (d : PackD) (cs : List Value) (w : World) (hd : shPack.lies S w cs d) (hB : ∀ b, S b → b < w.heap.size) :
    Calls Tryz.prog 88 #[.agg cs.toArray] w fun e w' => e = .returned (.bool (usesI d)) ∧ Below w.heap.size w w' := by
  obtain ⟨u0, u1, u2, rfl, s_n, r0, p0, r1, r2⟩ := hd
  have hbx : ∀ o, Below w.heap.size w (w.alloc o) := fun o => (Below.refl _ _).alloc (Nat.le_refl _) _
  have hrd : ∀ w1, Below w.heap.size w w1 → Reads w1 u0 (strsV d.uses) := fun w1 h => (r0.keep (.of h hB)).reads (fun b hb => Nat.lt_of_lt_of_le (hB b hb) h.size)
  have hBn : ∀ w1, Below w.heap.size w w1 → ∀ b, S b → b < w1.heap.size := fun w1 h b hb => Nat.lt_of_lt_of_le (hB b hb) h.size
  have H1 : ∀ w1, Below w.heap.size w w1 → Calls Tryz.prog 119 #[u0, .string d.name] w1 fun e w' => e = .returned (.bool (ownUse d)) ∧ Below w1.heap.size w1 w' := fun w1 h => hasStr_c u0 d.uses d.name w1 (hrd w1 h) p0
  have H2 : ∀ w1, Below w.heap.size w w1 → Calls Tryz.prog 120 #[u0, .func (.func 121) #[] #[]] w1 fun e w' => e = .returned (.bool (d.uses.any fun u => !nameB u)) ∧ Below w1.heap.size w1 w' := fun w1 h => anyNotName_c u0 d.uses w1 (hrd w1 h) p0
  have H3 : ∀ w1, Below w.heap.size w w1 → Calls Tryz.prog 122 #[u0, .func (.func 123) #[] #[]] w1 fun e w' => e = .returned (.bool (ascB d.uses)) ∧ Below w1.heap.size w1 w' := fun w1 h => ascStr_c u0 d.uses w1 (hrd w1 h) p0
  unfold usesI
  obtain ⟨p, hp⟩ : ∃ p, p = ownUse d := ⟨_, rfl⟩
  obtain ⟨q, hq⟩ : ∃ q, q = d.uses.any fun u => !nameB u := ⟨_, rfl⟩
  obtain ⟨r, hr⟩ : ∃ r, r = ascB d.uses := ⟨_, rfl⟩
  simp only [← hp] at H1 ⊢
  simp only [← hq] at H2 ⊢
  simp only [← hr] at H3 ⊢
  replace H1 := hidden H1
  replace H2 := hidden H2
  replace H3 := hidden H3
  have hl := p0.1
  unfold maxLen at hl
  obtain ⟨a0, c0, e0, _⟩ := id r0
  rw [length_strsV] at e0
  subst e0
  obtain ⟨a1, c1, e1, _⟩ := id r1
  subst e1
  obtain ⟨a2, c2, e2, _⟩ := id r2
  subst e2
  clear r0 r1 r2 hp hq hr hrd hBn
  by_cases h4 : 4 < d.uses.length
  · have h4' : (4 : Int) < (d.uses.length : Int) := by omega
    rw [decide_eq_true h4]
    go_enter Tryz.func88, Tryz.ntmps88
    go_wp2_with fail
    go_ret
    exact ⟨rfl, hbx _⟩
  · have h4' : ¬ (4 : Int) < (d.uses.length : Int) := by omega
    rw [decide_eq_false h4]
    cases p with
    | true =>
      go_enter Tryz.func88, Tryz.ntmps88
      go_wp2_with fail
      go_at_call 119
      refine (H1.out _ (hbx _)).mono ?_
      rintro e w1 ⟨rfl, b1⟩
      go_wp2_with fail
      go_ret
      exact ⟨rfl, (hbx _).trans (b1.mono (hbx _).size)⟩
    | false =>
      cases q with
      | true =>
        go_enter Tryz.func88, Tryz.ntmps88
        go_wp2_with fail
        go_at_call 119
        refine (H1.out _ (hbx _)).mono ?_
        rintro e w1 ⟨rfl, b1⟩
        have k1 : Below w.heap.size w w1 := (hbx _).trans (b1.mono (hbx _).size)
        have hx1 := boxAt b1
        have x0 := vblk_cell hx1 0
        have x1 := vblk_cell hx1 1
        have x2 := vblk_cell hx1 2
        have x3 := vblk_cell hx1 3
        simp only [List.getElem?_toArray, List.getElem?_cons_succ, List.getElem?_cons_zero] at x0 x1 x2 x3
        go_wp2_with fail
        go_at_call 120
        refine (H2.out _ k1).mono ?_
        rintro e w2 ⟨rfl, b2⟩
        go_wp2_with fail
        go_ret
        exact ⟨rfl, below_next k1 b2⟩
      | false =>
        go_enter Tryz.func88, Tryz.ntmps88
        go_wp2_with fail
        go_at_call 119
        refine (H1.out _ (hbx _)).mono ?_
        rintro e w1 ⟨rfl, b1⟩
        have k1 : Below w.heap.size w w1 := (hbx _).trans (b1.mono (hbx _).size)
        have hx1 := boxAt b1
        have x0 := vblk_cell hx1 0
        have x1 := vblk_cell hx1 1
        have x2 := vblk_cell hx1 2
        have x3 := vblk_cell hx1 3
        simp only [List.getElem?_toArray, List.getElem?_cons_succ, List.getElem?_cons_zero] at x0 x1 x2 x3
        go_wp2_with fail
        go_at_call 120
        refine (H2.out _ k1).mono ?_
        rintro e w2 ⟨rfl, b2⟩
        have k2 := below_next k1 b2
        have hx2 := (b2.block _ (Array.getElem?_eq_some_iff.1 hx1).1).trans hx1
        have x0 := vblk_cell hx2 0
        have x1 := vblk_cell hx2 1
        have x2 := vblk_cell hx2 2
        have x3 := vblk_cell hx2 3
        simp only [List.getElem?_toArray, List.getElem?_cons_succ, List.getElem?_cons_zero] at x0 x1 x2 x3
        go_wp2_with fail
        go_at_call 122
        refine (H3.out _ k2).mono ?_
        rintro e w3 ⟨rfl, b3⟩
        go_wp2_with fail
        go_ret
        exact ⟨by cases r <;> rfl, below_next k2 b3⟩

set_option maxHeartbeats 2000000 in
set_option maxRecDepth 100000 in
theorem implPack_c (S : Nat → Prop) (d : PackD) (cs : List Value) (w : World) (hd : shPack.lies S w cs d) (hB : ∀ b, S b → b < w.heap.size) (hw : wtPack d ≤ 1048576) (hT : Tabs w) :
    Calls Tryz.prog 54 #[.agg cs.toArray] w fun e w' => e = .returned (.bool (packI d)) ∧ Below w.heap.size w w' := by
  have HU : ∀ w1, Below w.heap.size w w1 → Calls Tryz.prog 88 #[.agg cs.toArray] w1 fun e w' => e = .returned (.bool (usesI d)) ∧ Below w1.heap.size w1 w' := fun w1 h => usesOk_c S d cs w1 (shPack.keep (.of h hB) hd) (fun b hb => Nat.lt_of_lt_of_le (hB b hb) h.size)
  obtain ⟨u0, u1, u2, rfl, s_n, r0, p0, r1, r2⟩ := hd
  have hbx : ∀ o, Below w.heap.size w (w.alloc o) := fun o => (Below.refl _ _).alloc (Nat.le_refl _) _
  have hrd : ∀ w1, Below w.heap.size w w1 → Reads w1 u0 (strsV d.uses) := fun w1 h => (r0.keep (.of h hB)).reads (fun b hb => Nat.lt_of_lt_of_le (hB b hb) h.size)
  have hBn : ∀ w1, Below w.heap.size w w1 → ∀ b, S b → b < w1.heap.size := fun w1 h b hb => Nat.lt_of_lt_of_le (hB b hb) h.size
  have HN := fun w1 => implName_c d.name s_n w1
  have hnw : ∀ x ∈ d.needs, x.r.size ≤ 1048576 := fun x hx => by
    have h1 : x.n.size + x.r.size ≤ wtL wtNeed d.needs := wt_wtL wtNeed hx
    unfold wtPack at hw
    omega
  have H2 : ∀ w1, Below w.heap.size w w1 → Calls Tryz.prog 89 #[u1] w1 fun e w' => e = .returned (.bool (needsI d.needs)) ∧ Below w1.heap.size w1 w' := fun w1 h => needOk_c S u1 d.needs w1 (r1.keep (.of h hB)) (hBn w1 h) hnw (hT.below h)
  have H3 : ∀ w1, Below w.heap.size w w1 → Calls Tryz.prog 90 #[u2] w1 fun e w' => e = .returned (.bool (cmdsI d.cmds)) ∧ Below w1.heap.size w1 w' := fun w1 h => cmdOk_c S u2 d.cmds w1 (r2.keep (.of h hB)) (hBn w1 h)
  unfold packI
  obtain ⟨n, hn⟩ : ∃ p, p = nameB d.name := ⟨_, rfl⟩
  obtain ⟨p, hp⟩ : ∃ p, p = usesI d := ⟨_, rfl⟩
  obtain ⟨q, hq⟩ : ∃ q, q = needsI d.needs := ⟨_, rfl⟩
  obtain ⟨r, hr⟩ : ∃ r, r = cmdsI d.cmds := ⟨_, rfl⟩
  simp only [← hn] at HN ⊢
  simp only [← hp] at HU ⊢
  simp only [← hq] at H2 ⊢
  simp only [← hr] at H3 ⊢
  replace HN := hidden HN
  replace H2 := hidden H2
  replace H3 := hidden H3
  obtain ⟨a0, c0, e0, _⟩ := id r0
  rw [length_strsV] at e0
  subst e0
  obtain ⟨a1, c1, e1, _⟩ := id r1
  subst e1
  obtain ⟨a2, c2, e2, _⟩ := id r2
  subst e2
  replace HU := hidden HU
  clear r0 r1 r2 hn hp hq hr hrd hBn hT hnw
  cases n with
  | false =>
    go_enter Tryz.func54, Tryz.ntmps54
    go_wp2_with (go_at_call 87; refine (HN.out _).mono ?_; rintro e w' ⟨rfl, rfl⟩)
    go_ret
    exact ⟨rfl, hbx _⟩
  | true =>
    cases p with
    | false =>
      go_enter Tryz.func54, Tryz.ntmps54
      go_wp2_with fail
      go_at_call 87
      refine (HN.out _).mono ?_
      rintro e w' ⟨rfl, rfl⟩
      go_wp2_with fail
      go_at_call 88
      refine (HU.out _ (hbx _)).mono ?_
      rintro e w1 ⟨rfl, b1⟩
      go_wp2_with fail
      go_ret
      exact ⟨rfl, (hbx _).trans (b1.mono (hbx _).size)⟩
    | true =>
      cases q with
      | false =>
        go_enter Tryz.func54, Tryz.ntmps54
        go_wp2_with fail
        go_at_call 87
        refine (HN.out _).mono ?_
        rintro e w' ⟨rfl, rfl⟩
        go_wp2_with fail
        go_at_call 88
        refine (HU.out _ (hbx _)).mono ?_
        rintro e w1 ⟨rfl, b1⟩
        have k1 : Below w.heap.size w w1 := (hbx _).trans (b1.mono (hbx _).size)
        have hx1 := boxAt b1
        have x0 := vblk_cell hx1 0
        have x1 := vblk_cell hx1 1
        have x2 := vblk_cell hx1 2
        have x3 := vblk_cell hx1 3
        simp only [List.getElem?_toArray, List.getElem?_cons_succ, List.getElem?_cons_zero] at x0 x1 x2 x3
        go_wp2_with fail
        go_at_call 89
        refine (H2.out _ k1).mono ?_
        rintro e w2 ⟨rfl, b2⟩
        go_wp2_with fail
        go_ret
        exact ⟨rfl, below_next k1 b2⟩
      | true =>
        go_enter Tryz.func54, Tryz.ntmps54
        go_wp2_with fail
        go_at_call 87
        refine (HN.out _).mono ?_
        rintro e w' ⟨rfl, rfl⟩
        go_wp2_with fail
        go_at_call 88
        refine (HU.out _ (hbx _)).mono ?_
        rintro e w1 ⟨rfl, b1⟩
        have k1 : Below w.heap.size w w1 := (hbx _).trans (b1.mono (hbx _).size)
        have hx1 := boxAt b1
        have x0 := vblk_cell hx1 0
        have x1 := vblk_cell hx1 1
        have x2 := vblk_cell hx1 2
        have x3 := vblk_cell hx1 3
        simp only [List.getElem?_toArray, List.getElem?_cons_succ, List.getElem?_cons_zero] at x0 x1 x2 x3
        go_wp2_with fail
        go_at_call 89
        refine (H2.out _ k1).mono ?_
        rintro e w2 ⟨rfl, b2⟩
        have k2 := below_next k1 b2
        have hx2 := (b2.block _ (Array.getElem?_eq_some_iff.1 hx1).1).trans hx1
        have x0 := vblk_cell hx2 0
        have x1 := vblk_cell hx2 1
        have x2 := vblk_cell hx2 2
        have x3 := vblk_cell hx2 3
        simp only [List.getElem?_toArray, List.getElem?_cons_succ, List.getElem?_cons_zero] at x0 x1 x2 x3
        go_wp2_with fail
        go_at_call 90
        refine (H3.out _ k2).mono ?_
        rintro e w3 ⟨rfl, b3⟩
        go_wp2_with fail
        go_ret
        exact ⟨by cases r <;> rfl, below_next k2 b3⟩

set_option maxHeartbeats 2000000 in
set_option maxRecDepth 100000 in
theorem usesThere_c (S S' : Nat → Prop) (v : Value) (xs : List PackD) (d : PackD) (cs : List Value) (w : World) (hv : RowIn shPack S w v xs) (hB : ∀ b, S b → b < w.heap.size) (hd : shPack.lies S' w cs d) (hB' : ∀ b, S' b → b < w.heap.size) :
    Calls Tryz.prog 55 #[v, .agg cs.toArray] w fun e w' => e = .returned (.bool (thereB xs d)) ∧ Below w.heap.size w w' := by
  obtain ⟨u0, u1, u2, rfl, s_n, r0, p0, r1, r2⟩ := hd
  have hbx : ∀ o, Below w.heap.size w (w.alloc o) := fun o => (Below.refl _ _).alloc (Nat.le_refl _) _
  have hrd : ∀ w1, Below w.heap.size w w1 → Reads w1 u0 (strsV d.uses) := fun w1 h => (r0.keep (.of h hB')).reads (fun b hb => Nat.lt_of_lt_of_le (hB' b hb) h.size)
  have HF : Hid (∀ w1 s, Below w.heap.size w w1 → Calls Tryz.prog 91 #[v, .string s] w1 fun e w' => e = .returned (.int .i64 (findP xs s)) ∧ Below w1.heap.size w1 w') := fun w1 s h => implFind_c S v xs s w1 (hv.keep (.of h hB)) (fun b hb => Nat.lt_of_lt_of_le (hB b hb) h.size)
  obtain ⟨R, hR⟩ : ∃ R, R = thereB xs d := ⟨_, rfl⟩
  rw [← hR]
  have HR := hidden hR
  obtain ⟨av, capv, rfl⟩ := hv.slice
  obtain ⟨a0, c0, e0, _, ha⟩ := reads_strs (hrd w (Below.refl _ _))
  subst e0
  obtain ⟨a1, c1, e1, _⟩ := id r1
  subst e1
  obtain ⟨a2, c2, e2, _⟩ := id r2
  subst e2
  have hl := p0.1
  unfold maxLen at hl
  clear r0 r1 r2 hR hrd hv hB hB'
  go_enter Tryz.func55, Tryz.ntmps55
  go_wp2_with fail
  go_loopw [10] (fun vi wr => ∃ k : Nat, k ≤ d.uses.length ∧ vi = .int .i64 (k : Int) ∧ Hid (∀ j (hj : j < d.uses.length), j < k → decide (0 ≤ findP xs d.uses[j]) = true) ∧ Below w.heap.size w wr) (fun vi _ => d.uses.length - (intOf vi).toNat)
  case atStart => exact ⟨0, Nat.zero_le _, rfl, (fun j hj h => by omega), hbx _⟩
  case round =>
    obtain ⟨k, hk, rfl, hno, hbr⟩ := hrel
    by_cases hlt' : k < d.uses.length
    · rcases ha with hnil | ⟨b, off, rfl, hlt, ha⟩
      · rw [hnil] at hlt'; simp at hlt'
      have y0 : wr.cell? ⟨b, off + k, none⟩ = some (.string d.uses[k]) := (hbr.cell (by simpa using hlt)).trans (ha k hlt')
      have HT : Hid (¬ 0 ≤ findP xs d.uses[k] → R = false) := fun h => HR.out.trans (by unfold thereB; rw [List.all_eq_false]; exact ⟨_, List.getElem_mem hlt', by simpa using h⟩)
      have HN : Hid (0 ≤ findP xs d.uses[k] → ∀ j (hj : j < d.uses.length), j < k + 1 → decide (0 ≤ findP xs d.uses[j]) = true) := fun h j hj hjk => by
        by_cases e : j = k
        · subst e; exact decide_eq_true h
        · exact hno.out j hj (by omega)
      obtain ⟨t, ht⟩ : ∃ t, t = d.uses[k] := ⟨_, rfl⟩
      rw [← ht] at y0 HT HN
      have HC := HF.out wr t hbr
      obtain ⟨q, hq⟩ : ∃ q, q = findP xs t := ⟨_, rfl⟩
      rw [← hq] at HC HT HN
      have HC2 := hidden HC
      have hki : (k : Int) < (d.uses.length : Int) := by omega
      clear ha ht hno HC hq
      by_cases hq0 : q < 0
      · have HT2 := hidden (HT.out (by omega))
        clear HT HN
        go_wp2_with (go_at_call 91; refine HC2.out.mono ?_; rintro e w1 ⟨rfl, b1⟩)
        go_ret
        exact ⟨by rw [HT2.out]; rfl, hbr.trans (b1.mono hbr.size)⟩
      · have HN2 := hidden (HN.out (by omega))
        clear HT HN
        go_wp2_with (go_at_call 91; refine HC2.out.mono ?_; rintro e w1 ⟨rfl, b1⟩)
        go_roundw
        case rel => exact ⟨k + 1, by omega, by go_num, HN2.out, hbr.trans (b1.mono hbr.size)⟩
        case measure => simp [intOf]; omega
    · have he : k = d.uses.length := by omega
      subst he
      have HE : Hid (R = true) := HR.out.trans (List.all_eq_true.2 (fun x hx => by obtain ⟨j, hj, rfl⟩ := List.mem_iff_getElem.1 hx; exact hno.out j hj hj))
      clear ha hno HR
      go_wp2_with fail
      go_ret
      exact ⟨by rw [HE.out]; rfl, hbr⟩

end Go.Proofs.YtlnofdlhjeomfaaGreatDoor

/-! Whether a list of packs is right, as the program asks it: a contract for the walks; conditions: it lies in memory, holds at most 2 to the 20, and the table of signs holds what it is laid with. -/
namespace Go.Proofs.YtlnofdlhjeomfaaGreatDoor
open Go.RowKit
set_option linter.unusedSimpArgs false
set_option linter.unusedVariables false

set_option maxHeartbeats 4000000 in
set_option maxRecDepth 100000 in
theorem implPacks_c (S : Nat → Prop) (v : Value) (xs : List PackD) (w : World) (hv : RowIn shPack S w v xs) (hB : ∀ b, S b → b < w.heap.size) (hw : wtL wtPack xs ≤ 1048576) (hT : Tabs w) :
    Calls Tryz.prog 21 #[v] w fun e w' => e = .returned (.bool (packsI xs)) ∧ Below w.heap.size w w' := by
  have HA : Hid (∀ w1, Below w.heap.size w w1 → Calls Tryz.prog 52 #[v, .func (.func 53) #[] #[]] w1 fun e w' => e = .returned (.bool (ascB (xs.map PackD.name))) ∧ Below w1.heap.size w1 w') := fun w1 h => ascPack_c S v xs w1 (hv.keep (.of h hB)) (fun b hb => Nat.lt_of_lt_of_le (hB b hb) h.size)
  have HU : Hid (∀ w1 d cs, Below w.heap.size w w1 → shPack.lies S w1 cs d → Calls Tryz.prog 55 #[v, .agg cs.toArray] w1 fun e w' => e = .returned (.bool (thereB xs d)) ∧ Below w1.heap.size w1 w') := fun w1 d cs h hd => usesThere_c S S v xs d cs w1 (hv.keep (.of h hB)) (fun b hb => Nat.lt_of_lt_of_le (hB b hb) h.size) hd (fun b hb => Nat.lt_of_lt_of_le (hB b hb) h.size)
  have HP : Hid (∀ w1 d cs, d ∈ xs → Below w.heap.size w w1 → shPack.lies S w1 cs d → Calls Tryz.prog 54 #[.agg cs.toArray] w1 fun e w' => e = .returned (.bool (packI d)) ∧ Below w1.heap.size w1 w') := fun w1 d cs hm h hd => implPack_c S d cs w1 hd (fun b hb => Nat.lt_of_lt_of_le (hB b hb) h.size) (Nat.le_trans (wt_wtL wtPack hm) hw) (hT.below h)
  obtain ⟨R, hR⟩ : ∃ R, R = packsI xs := ⟨_, rfl⟩
  rw [← hR]
  obtain ⟨q, hq⟩ : ∃ q, q = ascB (xs.map PackD.name) := ⟨_, rfl⟩
  have HR := hidden hR
  have HQ := hidden hq
  have HA2 := HA.out
  simp only [← hq] at HA2
  replace HA2 := hidden HA2
  obtain ⟨a, cap, rfl, hl, hc, ha⟩ := hv
  unfold maxLen at hl
  clear HA hR hq hT hw
  by_cases h6 : 6 < xs.length
  · have h6' : (6 : Int) < (xs.length : Int) := by omega
    have HE : Hid (R = false) := by show _ = _; rw [HR.out]; unfold packsI; rw [decide_eq_true h6]; rfl
    clear ha
    go_enter Tryz.func21, Tryz.ntmps21
    go_wp2_with fail
    go_ret
    exact ⟨by rw [HE.out]; rfl, Below.refl _ _⟩
  have h6' : ¬ (6 : Int) < (xs.length : Int) := by omega
  cases q with
  | false =>
    have HE : Hid (R = false) := by show _ = _; rw [HR.out]; unfold packsI; rw [← HQ.out]; cases decide (6 < xs.length) <;> rfl
    clear ha
    go_enter Tryz.func21, Tryz.ntmps21
    go_wp2_with fail
    go_at_call 52
    refine (HA2.out _ (Below.refl _ _)).mono ?_
    rintro e w1 ⟨rfl, b1⟩
    go_wp2_with fail
    go_ret
    exact ⟨by rw [HE.out]; rfl, b1⟩
  | true =>
    have HR2 : Hid (R = xs.all fun p => packI p && thereB xs p) := by show _ = _; rw [HR.out]; unfold packsI; rw [← HQ.out, decide_eq_false h6]; rfl
    clear HR HQ
    go_enter Tryz.func21, Tryz.ntmps21
    go_wp2_with fail
    go_at_call 52
    refine (HA2.out _ (Below.refl _ _)).mono ?_
    rintro e w1 ⟨rfl, b1⟩
    clear HA2
    go_wp2_with fail
    go_loopw [15] (fun vi wr => ∃ k : Nat, k ≤ xs.length ∧ vi = .int .i64 (k : Int) ∧ Hid (∀ j (hj : j < xs.length), j < k → (packI xs[j] && thereB xs xs[j]) = true) ∧ Below w.heap.size w wr) (fun vi _ => xs.length - (intOf vi).toNat)
    case atStart => exact ⟨0, Nat.zero_le _, rfl, (fun j hj h => by omega), b1⟩
    case round =>
      obtain ⟨k, hk, rfl, hno, hbr⟩ := hrel
      by_cases hlt' : k < xs.length
      · rcases ha with rfl | ⟨b, off, rfl, hlt, ha⟩
        · simp at hlt'
        obtain ⟨cs, hL, hcell⟩ := ha k hlt'
        have hcell2 := hcell.keep (.of hbr hB) hlt
        have HT : Hid ((packI xs[k] && thereB xs xs[k]) = false → R = false) := fun h => HR2.out.trans (by rw [List.all_eq_false]; exact ⟨_, List.getElem_mem hlt', by simp [h]⟩)
        have HN : Hid ((packI xs[k] && thereB xs xs[k]) = true → ∀ j (hj : j < xs.length), j < k + 1 → (packI xs[j] && thereB xs xs[j]) = true) := fun h j hj hjk => by
          by_cases e : j = k
          · subst e; exact h
          · exact hno.out j hj (by omega)
        have hkA : ∀ o, Below wr.heap.size wr (wr.alloc o) := fun o => (Below.refl _ _).alloc (Nat.le_refl _) _
        have H1 : Hid (∀ w2, Below wr.heap.size wr w2 → Calls Tryz.prog 54 #[.agg cs.toArray] w2 fun e w' => e = .returned (.bool (packI xs[k])) ∧ Below w2.heap.size w2 w') := fun w2 h => HP.out w2 xs[k] cs (List.getElem_mem hlt') (below_next hbr h) (shPack.keep (.of (below_next hbr h) hB) hL)
        have H2 : Hid (∀ w2, Below wr.heap.size wr w2 → Calls Tryz.prog 55 #[.slice (some ⟨b, off, none⟩) xs.length cap, .agg cs.toArray] w2 fun e w' => e = .returned (.bool (thereB xs xs[k])) ∧ Below w2.heap.size w2 w') := fun w2 h => HU.out w2 xs[k] cs (below_next hbr h) (shPack.keep (.of (below_next hbr h) hB) hL)
        obtain ⟨d, hd⟩ : ∃ d, d = xs[k] := ⟨_, rfl⟩
        rw [← hd] at hL H1 H2 HT HN
        obtain ⟨m, hm⟩ : ∃ m, m = packI d := ⟨_, rfl⟩
        obtain ⟨n, hn⟩ : ∃ m, m = thereB xs d := ⟨_, rfl⟩
        rw [← hm] at H1 HT HN
        rw [← hn] at H2 HT HN
        clear ha hd hm hn hno HR2
        obtain ⟨u0, u1, u2, rfl, s_n, r0, p0, r1, r2⟩ := hL
        obtain ⟨a0, c0, e0, _⟩ := id r0
        rw [length_strsV] at e0
        subst e0
        obtain ⟨a1, c1, e1, _⟩ := id r1
        subst e1
        obtain ⟨a2, c2, e2, _⟩ := id r2
        subst e2
        clear r0 r1 r2
        have e0 : wr.cell? ⟨b, off + k * 4, none⟩ = some (.string d.name) := hcell2 0 (by simp)
        have e1 : wr.cell? ⟨b, off + k * 4 + 1, none⟩ = some (.slice a0 d.uses.length c0) := hcell2 1 (by simp)
        have e2 : wr.cell? ⟨b, off + k * 4 + 2, none⟩ = some (.slice a1 d.needs.length c1) := hcell2 2 (by simp)
        have e3 : wr.cell? ⟨b, off + k * 4 + 3, none⟩ = some (.slice a2 d.cmds.length c2) := hcell2 3 (by simp)
        have hki : (k : Int) < (xs.length : Int) := by omega
        clear hcell hcell2
        cases m with
        | false =>
          have HT2 := hidden (HT.out rfl)
          clear HT HN
          go_wp2_with (go_at_call 54; refine (H1.out _ (hkA _)).mono ?_; rintro e w2 ⟨rfl, b2⟩)
          go_ret
          exact ⟨by rw [HT2.out]; rfl, hbr.trans (((hkA _).trans (b2.mono (hkA _).size)).mono hbr.size)⟩
        | true =>
          cases n with
          | false =>
            have HT2 := hidden (HT.out rfl)
            clear HT HN
            go_wp2_with fail
            go_at_call 54
            refine (H1.out _ (hkA _)).mono ?_
            rintro e w2 ⟨rfl, b2⟩
            have k2 : Below wr.heap.size wr w2 := (hkA _).trans (b2.mono (hkA _).size)
            have hx2 := boxAt b2
            have x0 := vblk_cell hx2 0
            have x1 := vblk_cell hx2 1
            have x2 := vblk_cell hx2 2
            have x3 := vblk_cell hx2 3
            simp only [List.getElem?_toArray, List.getElem?_cons_succ, List.getElem?_cons_zero] at x0 x1 x2 x3
            go_wp2_with fail
            go_at_call 55
            refine (H2.out _ k2).mono ?_
            rintro e w3 ⟨rfl, b3⟩
            have k3 := below_next k2 b3
            go_wp2_with fail
            go_ret
            exact ⟨by rw [HT2.out]; rfl, hbr.trans (k3.mono hbr.size)⟩
          | true =>
            have HN2 := hidden (HN.out rfl)
            clear HT HN
            go_wp2_with fail
            go_at_call 54
            refine (H1.out _ (hkA _)).mono ?_
            rintro e w2 ⟨rfl, b2⟩
            have k2 : Below wr.heap.size wr w2 := (hkA _).trans (b2.mono (hkA _).size)
            have hx2 := boxAt b2
            have x0 := vblk_cell hx2 0
            have x1 := vblk_cell hx2 1
            have x2 := vblk_cell hx2 2
            have x3 := vblk_cell hx2 3
            simp only [List.getElem?_toArray, List.getElem?_cons_succ, List.getElem?_cons_zero] at x0 x1 x2 x3
            go_wp2_with fail
            go_at_call 55
            refine (H2.out _ k2).mono ?_
            rintro e w3 ⟨rfl, b3⟩
            have k3 := below_next k2 b3
            go_wp2_with fail
            go_roundw
            case rel => exact ⟨k + 1, by omega, by go_num, HN2.out, hbr.trans (k3.mono hbr.size)⟩
            case measure => simp [intOf]; omega
      · have he : k = xs.length := by omega
        subst he
        have HE : Hid (R = true) := HR2.out.trans (List.all_eq_true.2 (fun x hx => by obtain ⟨j, hj, rfl⟩ := List.mem_iff_getElem.1 hx; exact hno.out j hj hj))
        clear ha hno HR2
        go_wp2_with fail
        go_ret
        exact ⟨by rw [HE.out]; rfl, hbr⟩
end Go.Proofs.YtlnofdlhjeomfaaGreatDoor

/-! What the specification makes of a version of which a part is told: contracts for the walks; conditions: its numbers lie between 0 and 9999. -/
namespace Go.Proofs.YtlnofdlhjeomfaaGreatDoor
open Go.RowKit
set_option linter.unusedSimpArgs false
set_option linter.unusedVariables false

set_option maxHeartbeats 1000000 in
set_option maxRecDepth 100000 in
theorem l4Next_c (a b c : Int) (u : Value) (t : Int) (ok : Bool) (hn : numsOk a b c) (ht : t = 1 ∨ t = 2 ∨ t = 3) (w : World) (hu : ∃ q n cap, u = .slice q n cap) :
    Calls Tryz.prog 235 #[.agg #[.int .i64 a, .int .i64 b, .int .i64 c, u, .int .i64 t, .bool ok]] w fun e w' => e = .returned (.agg #[.int .i64 (nextA (min t 2) a), .int .i64 (nextB (min t 2) b), .int .i64 (nextC (min t 2) c), .slice none 0 0]) ∧ Below w.heap.size w w' := by
  obtain ⟨q, n, cap, rfl⟩ := hu
  obtain ⟨⟨ha0, ha1⟩, ⟨hb0, hb1⟩, hc0, hc1⟩ := hn
  by_cases h1 : t = 1
  · have e : min t 2 = 1 := by omega
    rw [e]
    subst h1
    go_enter Tryz.func235, Tryz.ntmps235
    go_wp2
    exact bodyPost_ret (v := .agg #[.int .i64 (a + 1), .int .i64 0, .int .i64 0, .slice none 0 0]) (by simp [results, Tryz.results235, go_sem]) rfl ⟨by simp [nextA, nextB, nextC], box_two _ _⟩
  have e : min t 2 = 2 := by omega
  rw [e]
  have k1 : (t == 1) = false := by simpa using h1
  go_enter Tryz.func235, Tryz.ntmps235
  go_wp2
  exact bodyPost_ret (v := .agg #[.int .i64 a, .int .i64 (b + 1), .int .i64 0, .slice none 0 0]) (by simp [results, Tryz.results235, go_sem]) rfl ⟨by simp [nextA, nextB, nextC], box_two _ _⟩

set_option maxHeartbeats 1000000 in
set_option maxRecDepth 100000 in
theorem l4Tilde_c (a b c : Int) (u : Value) (t : Int) (ok : Bool) (hn : numsOk a b c) (ht : t = 1 ∨ t = 2 ∨ t = 3) (w : World) (hu : ∃ q n cap, u = .slice q n cap) :
    Calls Tryz.prog 234 #[.agg #[.int .i64 a, .int .i64 b, .int .i64 c, u, .int .i64 t, .bool ok]] w fun e w' => e = .returned (.agg #[.int .i64 (nextA (min t 2) a), .int .i64 (nextB (min t 2) b), .int .i64 (nextC (min t 2) c), .slice none 0 0]) ∧ Below w.heap.size w w' := by
  obtain ⟨q, n, cap, rfl⟩ := hu
  obtain ⟨⟨ha0, ha1⟩, ⟨hb0, hb1⟩, hc0, hc1⟩ := hn
  by_cases h1 : t = 1
  · have e : min t 2 = 1 := by omega
    rw [e]
    subst h1
    go_enter Tryz.func234, Tryz.ntmps234
    go_wp2
    exact bodyPost_ret (v := .agg #[.int .i64 (a + 1), .int .i64 0, .int .i64 0, .slice none 0 0]) (by simp [results, Tryz.results234, go_sem]) rfl ⟨by simp [nextA, nextB, nextC], box_two _ _⟩
  have e : min t 2 = 2 := by omega
  rw [e]
  have k1 : (t == 1) = false := by simpa using h1
  go_enter Tryz.func234, Tryz.ntmps234
  go_wp2
  exact bodyPost_ret (v := .agg #[.int .i64 a, .int .i64 (b + 1), .int .i64 0, .slice none 0 0]) (by simp [results, Tryz.results234, go_sem]) rfl ⟨by simp [nextA, nextB, nextC], box_two _ _⟩

set_option maxHeartbeats 1000000 in
set_option maxRecDepth 100000 in
theorem l4Caret_c (a b c : Int) (u : Value) (t : Int) (ok : Bool) (hn : numsOk a b c) (ht : t = 1 ∨ t = 2 ∨ t = 3) (w : World) (hu : ∃ q n cap, u = .slice q n cap) :
    Calls Tryz.prog 233 #[.agg #[.int .i64 a, .int .i64 b, .int .i64 c, u, .int .i64 t, .bool ok]] w fun e w' => e = .returned (.agg #[.int .i64 (nextA (caretK a b t) a), .int .i64 (nextB (caretK a b t) b), .int .i64 (nextC (caretK a b t) c), .slice none 0 0]) ∧ Below w.heap.size w w' := by
  obtain ⟨q, n, cap, rfl⟩ := hu
  obtain ⟨⟨ha0, ha1⟩, ⟨hb0, hb1⟩, hc0, hc1⟩ := hn
  by_cases ha : a = 0
  · have ka : (a != 0) = false := by simp [ha]
    by_cases h1 : t = 1
    · have e : caretK a b t = 1 := by simp [caretK, h1]
      rw [e]
      have k1 : (t == 1) = true := by simp [h1]
      clear e h1 ha
      go_enter Tryz.func233, Tryz.ntmps233
      go_wp2
      exact bodyPost_ret (v := .agg #[.int .i64 (a + 1), .int .i64 0, .int .i64 0, .slice none 0 0]) (by simp [results, Tryz.results233, go_sem]) rfl ⟨by simp [nextA, nextB, nextC], box_two _ _⟩
    have k1 : (t == 1) = false := by simpa using h1
    by_cases hb : b = 0
    · have kb : (b != 0) = false := by simp [hb]
      by_cases h2 : t = 2
      · have e : caretK a b t = 2 := by simp [caretK, ha, h1, h2]
        rw [e]
        have k2 : (t == 2) = true := by simp [h2]
        have HA : Hid (a = 0) := ha
        clear e h1 h2 ha hb
        go_enter Tryz.func233, Tryz.ntmps233
        go_wp2
        exact bodyPost_ret (v := .agg #[.int .i64 0, .int .i64 (b + 1), .int .i64 0, .slice none 0 0]) (by simp [results, Tryz.results233, go_sem]) rfl ⟨by simp [nextA, nextB, nextC, HA.out], box_two _ _⟩
      have e : caretK a b t = 3 := by simp [caretK, ha, h1, hb, h2]
      rw [e]
      have k2 : (t == 2) = false := by simpa using h2
      have HA : Hid (a = 0) := ha
      have HB : Hid (b = 0) := hb
      clear e h1 h2 ha hb
      go_enter Tryz.func233, Tryz.ntmps233
      go_wp2
      exact bodyPost_ret (v := .agg #[.int .i64 0, .int .i64 0, .int .i64 (c + 1), .slice none 0 0]) (by simp [results, Tryz.results233, go_sem]) rfl ⟨by simp [nextA, nextB, nextC, HA.out, HB.out], box_two _ _⟩
    have e : caretK a b t = 2 := by simp [caretK, ha, h1, hb]
    rw [e]
    have kb : (b != 0) = true := by simpa using hb
    have HA : Hid (a = 0) := ha
    clear e h1 ha hb
    go_enter Tryz.func233, Tryz.ntmps233
    go_wp2
    exact bodyPost_ret (v := .agg #[.int .i64 0, .int .i64 (b + 1), .int .i64 0, .slice none 0 0]) (by simp [results, Tryz.results233, go_sem]) rfl ⟨by simp [nextA, nextB, nextC, HA.out], box_two _ _⟩
  have e : caretK a b t = 1 := by simp [caretK, ha]
  rw [e]
  have ka : (a != 0) = true := by simpa using ha
  go_enter Tryz.func233, Tryz.ntmps233
  go_wp2
  exact bodyPost_ret (v := .agg #[.int .i64 (a + 1), .int .i64 0, .int .i64 0, .slice none 0 0]) (by simp [results, Tryz.results233, go_sem]) rfl ⟨by simp [nextA, nextB, nextC], box_two _ _⟩

set_option maxHeartbeats 1000000 in
set_option maxRecDepth 100000 in
theorem l4From_c (a b c : Int) (u : Value) (t : Int) (ok : Bool) (w : World) (hu : ∃ q n cap, u = .slice q n cap) :
    Calls Tryz.prog 231 #[.agg #[.int .i64 a, .int .i64 b, .int .i64 c, u, .int .i64 t, .bool ok]] w fun e w' => e = .returned (.agg #[.int .i64 4, .int .i64 a, .int .i64 b, .int .i64 c, u]) ∧ Below w.heap.size w w' := by
  obtain ⟨q, n, cap, rfl⟩ := hu
  go_enter Tryz.func231, Tryz.ntmps231
  go_wp2
  exact bodyPost_ret (v := .agg #[.int .i64 4, .int .i64 a, .int .i64 b, .int .i64 c, .slice q n cap]) (by simp [results, Tryz.results231, go_sem]) rfl ⟨rfl, box_two _ _⟩

set_option maxHeartbeats 1000000 in
set_option maxRecDepth 100000 in
theorem l4Below_c (a b c : Int) (u : Value) (w : World) (hu : ∃ q n cap, u = .slice q n cap) :
    Calls Tryz.prog 232 #[.agg #[.int .i64 a, .int .i64 b, .int .i64 c, u]] w fun e w' => ∃ g, e = .returned (.agg #[.int .i64 1, .int .i64 a, .int .i64 b, .int .i64 c, .slice (some ⟨g, 0, none⟩) 1 1]) ∧ w'.ownsRow w.heap.size 9 1 (.slice (some ⟨g, 0, none⟩) 1 1) 1 (strsV [zeroT]) ∧ Below w.heap.size w w' := by
  obtain ⟨q, n, cap, rfl⟩ := hu
  go_enter Tryz.func232, Tryz.ntmps232
  go_wp2
  refine bodyPost_ret (v := .agg #[.int .i64 1, .int .i64 a, .int .i64 b, .int .i64 c, .slice (some ⟨w.heap.size + 1 + 1, 0, none⟩) 1 1]) (by simp [results, Tryz.results232, go_sem]) rfl ⟨_, rfl, ?_, ?_⟩
  · have s1 : ∀ o o', ((w.alloc o).alloc o').heap.size = w.heap.size + 1 + 1 := fun o o' => by simp
    have h := fun o o' => owns_lit1 ((w.alloc o).alloc o') ⟨#[48]⟩ w.heap.size (by simp; omega)
    simp only [s1] at h
    exact h _ _
  · exact (box_two _ _).alloc (by simp; omega) _
end Go.Proofs.YtlnofdlhjeomfaaGreatDoor

/-! What a sign and a version make, the specification's: contracts for the walks; conditions: its numbers lie between 0 and 9999, its texts are a row of the call's own. -/
namespace Go.Proofs.YtlnofdlhjeomfaaGreatDoor
open Go.RowKit
set_option linter.unusedSimpArgs false
set_option linter.unusedVariables false

set_option maxHeartbeats 8000000 in
set_option maxRecDepth 100000 in
theorem mk_caret (lo : Nat) (a b c : Int) (u : Value) (ps : List ByteArray) (t : Int) (ok : Bool) (w : World) (hlo : lo ≤ w.heap.size) (hnum : numsOk a b c) (ht : t = 1 ∨ t = 2 ∨ t = 3) (hu : w.ownsRow lo 9 1 u ps.length (strsV ps)) :
    Calls Tryz.prog 212 #[.string ⟨#[94]⟩, .agg #[.int .i64 a, .int .i64 b, .int .i64 c, u, .int .i64 t, .bool ok]] w fun e w' => ∃ v, e = .returned v ∧ CmpsOwn lo w' v (makeC 6 a b c ps t) ∧ Below w.heap.size w w' := by
  obtain ⟨q, n, cap, hq⟩ : ∃ q n cap, u = .slice q n cap := by rcases hu.2 with ⟨rfl, _⟩ | ⟨g, cap, cur, rfl, _⟩ <;> exact ⟨_, _, _, rfl⟩
  subst hq
  have hWF : Below w.heap.size w (w.alloc (.cells #[.int .i64 a, .int .i64 b, .int .i64 c, .slice q n cap, .int .i64 t, .bool ok] 246)) := (Below.refl _ _).alloc (Nat.le_refl _) _
  have C0 : (w.alloc (.cells #[.int .i64 a, .int .i64 b, .int .i64 c, .slice q n cap, .int .i64 t, .bool ok] 246)).cell? ⟨w.heap.size, 0, none⟩ = some (.int .i64 a) ∧ (w.alloc (.cells #[.int .i64 a, .int .i64 b, .int .i64 c, .slice q n cap, .int .i64 t, .bool ok] 246)).cell? ⟨w.heap.size, 1, none⟩ = some (.int .i64 b) ∧ (w.alloc (.cells #[.int .i64 a, .int .i64 b, .int .i64 c, .slice q n cap, .int .i64 t, .bool ok] 246)).cell? ⟨w.heap.size, 2, none⟩ = some (.int .i64 c) ∧ (w.alloc (.cells #[.int .i64 a, .int .i64 b, .int .i64 c, .slice q n cap, .int .i64 t, .bool ok] 246)).cell? ⟨w.heap.size, 3, none⟩ = some (.slice q n cap) ∧ (w.alloc (.cells #[.int .i64 a, .int .i64 b, .int .i64 c, .slice q n cap, .int .i64 t, .bool ok] 246)).cell? ⟨w.heap.size, 4, none⟩ = some (.int .i64 t) ∧ (w.alloc (.cells #[.int .i64 a, .int .i64 b, .int .i64 c, .slice q n cap, .int .i64 t, .bool ok] 246)).cell? ⟨w.heap.size, 5, none⟩ = some (.bool ok) := by
    have h := vheap_new w (.cells #[.int .i64 a, .int .i64 b, .int .i64 c, .slice q n cap, .int .i64 t, .bool ok] 246)
    exact ⟨vblk_cell h 0, vblk_cell h 1, vblk_cell h 2, vblk_cell h 3, vblk_cell h 4, vblk_cell h 5⟩
  have hs1 : (w.alloc (.cells #[.int .i64 a, .int .i64 b, .int .i64 c, .slice q n cap, .int .i64 t, .bool ok] 246)).heap.size = w.heap.size + 1 := by simp
  have hap : ∀ g (w1 : World) base, w.heap.size ≤ base → w1.ownsRow base 9 1 (.slice (some ⟨g, 0, none⟩) 1 1) 1 (strsV [zeroT]) → Value.ownBlock (.slice q n cap) = Value.ownBlock (.slice (some ⟨g, 0, none⟩) 1 1) → Value.ownBlock (.slice q n cap) = none := fun g w1 base hb og he => by
    cases hk : Value.ownBlock (.slice q n cap) with
    | none => rfl
    | some k =>
      have h1 := (hu.lt k hk).2
      rw [he] at hk
      have h2 := (og.lt k hk).1
      omega
  obtain ⟨WF, hWFd⟩ : ∃ x, x = w.alloc (.cells #[.int .i64 a, .int .i64 b, .int .i64 c, .slice q n cap, .int .i64 t, .bool ok] 246) := ⟨_, rfl⟩
  rw [← hWFd] at hWF C0 hs1
  have KEEP : Hid (∀ w1, Below WF.heap.size WF w1 → w1.cell? ⟨w.heap.size, 0, none⟩ = some (.int .i64 a) ∧ w1.cell? ⟨w.heap.size, 1, none⟩ = some (.int .i64 b) ∧ w1.cell? ⟨w.heap.size, 2, none⟩ = some (.int .i64 c) ∧ w1.cell? ⟨w.heap.size, 3, none⟩ = some (.slice q n cap) ∧ w1.cell? ⟨w.heap.size, 4, none⟩ = some (.int .i64 t) ∧ w1.cell? ⟨w.heap.size, 5, none⟩ = some (.bool ok)) := fun w1 hb => by
    have k : ∀ j, w1.cell? ⟨w.heap.size, j, none⟩ = WF.cell? ⟨w.heap.size, j, none⟩ := fun j => World.cell?_of_block (w := WF) (hb.block w.heap.size (by omega))
    simp only [k]; exact C0
  have em : makeC 6 a b c ps t = [⟨4, a, b, c, ps⟩, ⟨1, nextA (caretK a b t) a, nextB (caretK a b t) b, nextC (caretK a b t) c, [zeroT]⟩] := by rfl
  obtain ⟨x, hx⟩ : ∃ x, x = nextA (caretK a b t) a := ⟨_, rfl⟩
  obtain ⟨y, hy⟩ : ∃ x, x = nextB (caretK a b t) b := ⟨_, rfl⟩
  obtain ⟨z, hz⟩ : ∃ x, x = nextC (caretK a b t) c := ⟨_, rfl⟩
  rw [em, ← hx, ← hy, ← hz]
  have HF : Hid (∀ w1, Below WF.heap.size WF w1 → Calls Tryz.prog 231 #[.agg #[.int .i64 a, .int .i64 b, .int .i64 c, .slice q n cap, .int .i64 t, .bool ok]] w1 fun e w' => e = .returned (.agg #[.int .i64 4, .int .i64 a, .int .i64 b, .int .i64 c, .slice q n cap]) ∧ Below w1.heap.size w1 w' ∧ Below WF.heap.size WF w' ∧ w'.cell? ⟨w.heap.size, 0, none⟩ = some (.int .i64 a) ∧ w'.cell? ⟨w.heap.size, 1, none⟩ = some (.int .i64 b) ∧ w'.cell? ⟨w.heap.size, 2, none⟩ = some (.int .i64 c) ∧ w'.cell? ⟨w.heap.size, 3, none⟩ = some (.slice q n cap) ∧ w'.cell? ⟨w.heap.size, 4, none⟩ = some (.int .i64 t) ∧ w'.cell? ⟨w.heap.size, 5, none⟩ = some (.bool ok)) := fun w1 hb => (l4From_c a b c _ t ok w1 ⟨_, _, _, rfl⟩).mono (fun e w' ⟨h1, h2⟩ => ⟨h1, h2, hb.trans (h2.mono hb.size), KEEP.out w' (hb.trans (h2.mono hb.size))⟩)
  have HN : Hid (∀ w1, Below WF.heap.size WF w1 → Calls Tryz.prog 233 #[.agg #[.int .i64 a, .int .i64 b, .int .i64 c, .slice q n cap, .int .i64 t, .bool ok]] w1 fun e w' => e = .returned (.agg #[.int .i64 x, .int .i64 y, .int .i64 z, .slice none 0 0]) ∧ Below w1.heap.size w1 w' ∧ Below WF.heap.size WF w' ∧ w'.cell? ⟨w.heap.size, 0, none⟩ = some (.int .i64 a) ∧ w'.cell? ⟨w.heap.size, 1, none⟩ = some (.int .i64 b) ∧ w'.cell? ⟨w.heap.size, 2, none⟩ = some (.int .i64 c) ∧ w'.cell? ⟨w.heap.size, 3, none⟩ = some (.slice q n cap) ∧ w'.cell? ⟨w.heap.size, 4, none⟩ = some (.int .i64 t) ∧ w'.cell? ⟨w.heap.size, 5, none⟩ = some (.bool ok)) := fun w1 hb => (l4Caret_c a b c _ t ok hnum ht w1 ⟨_, _, _, rfl⟩).mono (fun e w' ⟨h1, h2⟩ => ⟨by rw [h1, ← hx, ← hy, ← hz], h2, hb.trans (h2.mono hb.size), KEEP.out w' (hb.trans (h2.mono hb.size))⟩)
  have HB : Hid (∀ w1, Below WF.heap.size WF w1 → Calls Tryz.prog 232 #[.agg #[.int .i64 x, .int .i64 y, .int .i64 z, .slice none 0 0]] w1 fun e w' => ∃ g, e = .returned (.agg #[.int .i64 1, .int .i64 x, .int .i64 y, .int .i64 z, .slice (some ⟨g, 0, none⟩) 1 1]) ∧ w'.ownsRow WF.heap.size 9 1 (.slice (some ⟨g, 0, none⟩) 1 1) 1 (strsV [zeroT]) ∧ Below WF.heap.size WF w' ∧ w'.cell? ⟨w.heap.size, 0, none⟩ = some (.int .i64 a) ∧ w'.cell? ⟨w.heap.size, 1, none⟩ = some (.int .i64 b) ∧ w'.cell? ⟨w.heap.size, 2, none⟩ = some (.int .i64 c) ∧ w'.cell? ⟨w.heap.size, 3, none⟩ = some (.slice q n cap) ∧ w'.cell? ⟨w.heap.size, 4, none⟩ = some (.int .i64 t) ∧ w'.cell? ⟨w.heap.size, 5, none⟩ = some (.bool ok)) := fun w1 hb => (l4Below_c x y z _ w1 ⟨_, _, _, rfl⟩).mono (fun e w' ⟨g, h1, h2, h3⟩ => ⟨g, h1, owns_base h2 hb.size, hb.trans (h3.mono hb.size), KEEP.out w' (hb.trans (h3.mono hb.size))⟩)
  have hd0 : Below WF.heap.size WF WF.drew := (Below.refl _ _).drew
  have D0 := KEEP.out _ hd0
  obtain ⟨d0, d1, d2, d3, d4, d5⟩ := D0
  obtain ⟨c0, c1, c2, c3, c4, c5⟩ := C0
  clear hx hy hz em hnum ht KEEP
  go_enter Tryz.func212, Tryz.ntmps212
  go_wp2_with fail
  rw [← hWFd]
  clear hWFd
  go_region_with (first
    | (go_at_call 231; refine (HF.out _ ?_).mono ?_; · assumption
       rintro e wF ⟨rfl, bF, BF, ⟨c0, c1, c2, c3, c4, c5⟩⟩)
    | (go_at_call 233; refine (HN.out _ ?_).mono ?_; · assumption
       rintro e wN ⟨rfl, bN, BN, ⟨c0, c1, c2, c3, c4, c5⟩⟩)
    | (go_at_call 232; refine (HB.out _ ?_).mono ?_; · assumption
       rintro e wB ⟨g, rfl, og, BB, ⟨c0, c1, c2, c3, c4, c5⟩⟩))
  all_goals go_wp2_with fail
  all_goals go_ret
  all_goals
    have hx := hWF.trans (BB.mono hWF.size)
    exact ⟨_, rfl, two_own ⟨4, a, b, c, ps⟩ ⟨1, x, y, z, [zeroT]⟩ (by simp) (Nat.le_trans hlo hx.size) (owns_of_below hu hx) (owns_base og (Nat.le_trans hlo hWF.size)) (hap g _ _ hWF.size og), hx.alloc hx.size _⟩

end Go.Proofs.YtlnofdlhjeomfaaGreatDoor

/-! What a sign and a version make, the specification's: contracts for the walks; conditions: its numbers lie between 0 and 9999, its texts are a row of the call's own. -/
namespace Go.Proofs.YtlnofdlhjeomfaaGreatDoor
open Go.RowKit
set_option linter.unusedSimpArgs false
set_option linter.unusedVariables false

set_option maxHeartbeats 8000000 in
set_option maxRecDepth 100000 in
theorem mk_ge (lo : Nat) (a b c : Int) (u : Value) (ps : List ByteArray) (t : Int) (ok : Bool) (w : World) (hlo : lo ≤ w.heap.size) (hnum : numsOk a b c) (ht : t = 1 ∨ t = 2 ∨ t = 3) (hu : w.ownsRow lo 9 1 u ps.length (strsV ps)) :
    Calls Tryz.prog 212 #[.string ⟨#[62, 61]⟩, .agg #[.int .i64 a, .int .i64 b, .int .i64 c, u, .int .i64 t, .bool ok]] w fun e w' => ∃ v, e = .returned v ∧ CmpsOwn lo w' v (makeC 4 a b c ps t) ∧ Below w.heap.size w w' := by
  obtain ⟨q, n, cap, hq⟩ : ∃ q n cap, u = .slice q n cap := by rcases hu.2 with ⟨rfl, _⟩ | ⟨g, cap, cur, rfl, _⟩ <;> exact ⟨_, _, _, rfl⟩
  subst hq
  have hWF : Below w.heap.size w (w.alloc (.cells #[.int .i64 a, .int .i64 b, .int .i64 c, .slice q n cap, .int .i64 t, .bool ok] 246)) := (Below.refl _ _).alloc (Nat.le_refl _) _
  have C0 : (w.alloc (.cells #[.int .i64 a, .int .i64 b, .int .i64 c, .slice q n cap, .int .i64 t, .bool ok] 246)).cell? ⟨w.heap.size, 0, none⟩ = some (.int .i64 a) ∧ (w.alloc (.cells #[.int .i64 a, .int .i64 b, .int .i64 c, .slice q n cap, .int .i64 t, .bool ok] 246)).cell? ⟨w.heap.size, 1, none⟩ = some (.int .i64 b) ∧ (w.alloc (.cells #[.int .i64 a, .int .i64 b, .int .i64 c, .slice q n cap, .int .i64 t, .bool ok] 246)).cell? ⟨w.heap.size, 2, none⟩ = some (.int .i64 c) ∧ (w.alloc (.cells #[.int .i64 a, .int .i64 b, .int .i64 c, .slice q n cap, .int .i64 t, .bool ok] 246)).cell? ⟨w.heap.size, 3, none⟩ = some (.slice q n cap) ∧ (w.alloc (.cells #[.int .i64 a, .int .i64 b, .int .i64 c, .slice q n cap, .int .i64 t, .bool ok] 246)).cell? ⟨w.heap.size, 4, none⟩ = some (.int .i64 t) ∧ (w.alloc (.cells #[.int .i64 a, .int .i64 b, .int .i64 c, .slice q n cap, .int .i64 t, .bool ok] 246)).cell? ⟨w.heap.size, 5, none⟩ = some (.bool ok) := by
    have h := vheap_new w (.cells #[.int .i64 a, .int .i64 b, .int .i64 c, .slice q n cap, .int .i64 t, .bool ok] 246)
    exact ⟨vblk_cell h 0, vblk_cell h 1, vblk_cell h 2, vblk_cell h 3, vblk_cell h 4, vblk_cell h 5⟩
  have hs1 : (w.alloc (.cells #[.int .i64 a, .int .i64 b, .int .i64 c, .slice q n cap, .int .i64 t, .bool ok] 246)).heap.size = w.heap.size + 1 := by simp
  have hap : ∀ g (w1 : World) base, w.heap.size ≤ base → w1.ownsRow base 9 1 (.slice (some ⟨g, 0, none⟩) 1 1) 1 (strsV [zeroT]) → Value.ownBlock (.slice q n cap) = Value.ownBlock (.slice (some ⟨g, 0, none⟩) 1 1) → Value.ownBlock (.slice q n cap) = none := fun g w1 base hb og he => by
    cases hk : Value.ownBlock (.slice q n cap) with
    | none => rfl
    | some k =>
      have h1 := (hu.lt k hk).2
      rw [he] at hk
      have h2 := (og.lt k hk).1
      omega
  obtain ⟨WF, hWFd⟩ : ∃ x, x = w.alloc (.cells #[.int .i64 a, .int .i64 b, .int .i64 c, .slice q n cap, .int .i64 t, .bool ok] 246) := ⟨_, rfl⟩
  rw [← hWFd] at hWF C0 hs1
  have KEEP : Hid (∀ w1, Below WF.heap.size WF w1 → w1.cell? ⟨w.heap.size, 0, none⟩ = some (.int .i64 a) ∧ w1.cell? ⟨w.heap.size, 1, none⟩ = some (.int .i64 b) ∧ w1.cell? ⟨w.heap.size, 2, none⟩ = some (.int .i64 c) ∧ w1.cell? ⟨w.heap.size, 3, none⟩ = some (.slice q n cap) ∧ w1.cell? ⟨w.heap.size, 4, none⟩ = some (.int .i64 t) ∧ w1.cell? ⟨w.heap.size, 5, none⟩ = some (.bool ok)) := fun w1 hb => by
    have k : ∀ j, w1.cell? ⟨w.heap.size, j, none⟩ = WF.cell? ⟨w.heap.size, j, none⟩ := fun j => World.cell?_of_block (w := WF) (hb.block w.heap.size (by omega))
    simp only [k]; exact C0
  have em : makeC 4 a b c ps t = [⟨4, a, b, c, ps⟩] := by simp [makeC]
  rw [em]
  have x := a
  have y := b
  have z := c
  have HF : Hid (∀ w1, Below WF.heap.size WF w1 → Calls Tryz.prog 231 #[.agg #[.int .i64 a, .int .i64 b, .int .i64 c, .slice q n cap, .int .i64 t, .bool ok]] w1 fun e w' => e = .returned (.agg #[.int .i64 4, .int .i64 a, .int .i64 b, .int .i64 c, .slice q n cap]) ∧ Below w1.heap.size w1 w' ∧ Below WF.heap.size WF w' ∧ w'.cell? ⟨w.heap.size, 0, none⟩ = some (.int .i64 a) ∧ w'.cell? ⟨w.heap.size, 1, none⟩ = some (.int .i64 b) ∧ w'.cell? ⟨w.heap.size, 2, none⟩ = some (.int .i64 c) ∧ w'.cell? ⟨w.heap.size, 3, none⟩ = some (.slice q n cap) ∧ w'.cell? ⟨w.heap.size, 4, none⟩ = some (.int .i64 t) ∧ w'.cell? ⟨w.heap.size, 5, none⟩ = some (.bool ok)) := fun w1 hb => (l4From_c a b c _ t ok w1 ⟨_, _, _, rfl⟩).mono (fun e w' ⟨h1, h2⟩ => ⟨h1, h2, hb.trans (h2.mono hb.size), KEEP.out w' (hb.trans (h2.mono hb.size))⟩)
  have hd0 : Below WF.heap.size WF WF := Below.refl _ _
  obtain ⟨c0, c1, c2, c3, c4, c5⟩ := C0
  clear em hnum ht KEEP
  go_enter Tryz.func212, Tryz.ntmps212
  go_wp2_with (first
    | (go_at_call 231; rw [← hWFd]; refine (HF.out _ ?_).mono ?_; · assumption
       rintro e wF ⟨rfl, bF, BF, ⟨c0, c1, c2, c3, c4, c5⟩⟩))
  go_ret
  have hx := hWF.trans (BF.mono hWF.size)
  exact ⟨_, rfl, one_own ⟨4, a, b, c, ps⟩ (by simp) (Nat.le_trans hlo hx.size) (owns_of_below hu hx), hx.alloc hx.size _⟩

set_option maxHeartbeats 8000000 in
set_option maxRecDepth 100000 in
theorem mk_lt (lo : Nat) (a b c : Int) (u : Value) (ps : List ByteArray) (t : Int) (ok : Bool) (w : World) (hlo : lo ≤ w.heap.size) (hnum : numsOk a b c) (ht : t = 1 ∨ t = 2 ∨ t = 3) (hu : w.ownsRow lo 9 1 u ps.length (strsV ps)) :
    Calls Tryz.prog 212 #[.string ⟨#[60]⟩, .agg #[.int .i64 a, .int .i64 b, .int .i64 c, u, .int .i64 t, .bool ok]] w fun e w' => ∃ v, e = .returned v ∧ CmpsOwn lo w' v (makeC 1 a b c ps t) ∧ Below w.heap.size w w' := by
  obtain ⟨q, n, cap, hq⟩ : ∃ q n cap, u = .slice q n cap := by rcases hu.2 with ⟨rfl, _⟩ | ⟨g, cap, cur, rfl, _⟩ <;> exact ⟨_, _, _, rfl⟩
  subst hq
  have hWF : Below w.heap.size w (w.alloc (.cells #[.int .i64 a, .int .i64 b, .int .i64 c, .slice q n cap, .int .i64 t, .bool ok] 246)) := (Below.refl _ _).alloc (Nat.le_refl _) _
  have C0 : (w.alloc (.cells #[.int .i64 a, .int .i64 b, .int .i64 c, .slice q n cap, .int .i64 t, .bool ok] 246)).cell? ⟨w.heap.size, 0, none⟩ = some (.int .i64 a) ∧ (w.alloc (.cells #[.int .i64 a, .int .i64 b, .int .i64 c, .slice q n cap, .int .i64 t, .bool ok] 246)).cell? ⟨w.heap.size, 1, none⟩ = some (.int .i64 b) ∧ (w.alloc (.cells #[.int .i64 a, .int .i64 b, .int .i64 c, .slice q n cap, .int .i64 t, .bool ok] 246)).cell? ⟨w.heap.size, 2, none⟩ = some (.int .i64 c) ∧ (w.alloc (.cells #[.int .i64 a, .int .i64 b, .int .i64 c, .slice q n cap, .int .i64 t, .bool ok] 246)).cell? ⟨w.heap.size, 3, none⟩ = some (.slice q n cap) ∧ (w.alloc (.cells #[.int .i64 a, .int .i64 b, .int .i64 c, .slice q n cap, .int .i64 t, .bool ok] 246)).cell? ⟨w.heap.size, 4, none⟩ = some (.int .i64 t) ∧ (w.alloc (.cells #[.int .i64 a, .int .i64 b, .int .i64 c, .slice q n cap, .int .i64 t, .bool ok] 246)).cell? ⟨w.heap.size, 5, none⟩ = some (.bool ok) := by
    have h := vheap_new w (.cells #[.int .i64 a, .int .i64 b, .int .i64 c, .slice q n cap, .int .i64 t, .bool ok] 246)
    exact ⟨vblk_cell h 0, vblk_cell h 1, vblk_cell h 2, vblk_cell h 3, vblk_cell h 4, vblk_cell h 5⟩
  have hs1 : (w.alloc (.cells #[.int .i64 a, .int .i64 b, .int .i64 c, .slice q n cap, .int .i64 t, .bool ok] 246)).heap.size = w.heap.size + 1 := by simp
  have hap : ∀ g (w1 : World) base, w.heap.size ≤ base → w1.ownsRow base 9 1 (.slice (some ⟨g, 0, none⟩) 1 1) 1 (strsV [zeroT]) → Value.ownBlock (.slice q n cap) = Value.ownBlock (.slice (some ⟨g, 0, none⟩) 1 1) → Value.ownBlock (.slice q n cap) = none := fun g w1 base hb og he => by
    cases hk : Value.ownBlock (.slice q n cap) with
    | none => rfl
    | some k =>
      have h1 := (hu.lt k hk).2
      rw [he] at hk
      have h2 := (og.lt k hk).1
      omega
  obtain ⟨WF, hWFd⟩ : ∃ x, x = w.alloc (.cells #[.int .i64 a, .int .i64 b, .int .i64 c, .slice q n cap, .int .i64 t, .bool ok] 246) := ⟨_, rfl⟩
  rw [← hWFd] at hWF C0 hs1
  have KEEP : Hid (∀ w1, Below WF.heap.size WF w1 → w1.cell? ⟨w.heap.size, 0, none⟩ = some (.int .i64 a) ∧ w1.cell? ⟨w.heap.size, 1, none⟩ = some (.int .i64 b) ∧ w1.cell? ⟨w.heap.size, 2, none⟩ = some (.int .i64 c) ∧ w1.cell? ⟨w.heap.size, 3, none⟩ = some (.slice q n cap) ∧ w1.cell? ⟨w.heap.size, 4, none⟩ = some (.int .i64 t) ∧ w1.cell? ⟨w.heap.size, 5, none⟩ = some (.bool ok)) := fun w1 hb => by
    have k : ∀ j, w1.cell? ⟨w.heap.size, j, none⟩ = WF.cell? ⟨w.heap.size, j, none⟩ := fun j => World.cell?_of_block (w := WF) (hb.block w.heap.size (by omega))
    simp only [k]; exact C0
  have em : makeC 1 a b c ps t = [⟨1, a, b, c, ps⟩] := by simp [makeC]
  rw [em]
  have hd0 : Below WF.heap.size WF WF := Below.refl _ _
  subst hWFd
  clear em hnum ht KEEP C0
  go_enter Tryz.func212, Tryz.ntmps212
  go_wp2_with fail
  go_ret
  exact ⟨_, rfl, one_own ⟨1, a, b, c, ps⟩ (by simp) (Nat.le_trans hlo hWF.size) (owns_of_below hu hWF), hWF.alloc hWF.size _⟩

set_option maxHeartbeats 8000000 in
set_option maxRecDepth 100000 in
theorem mk_gt3 (lo : Nat) (a b c : Int) (u : Value) (ps : List ByteArray) (t : Int) (ok : Bool) (w : World) (hlo : lo ≤ w.heap.size) (hnum : numsOk a b c) (ht : t = 1 ∨ t = 2 ∨ t = 3) (h3 : t = 3) (hu : w.ownsRow lo 9 1 u ps.length (strsV ps)) :
    Calls Tryz.prog 212 #[.string ⟨#[62]⟩, .agg #[.int .i64 a, .int .i64 b, .int .i64 c, u, .int .i64 t, .bool ok]] w fun e w' => ∃ v, e = .returned v ∧ CmpsOwn lo w' v (makeC 3 a b c ps t) ∧ Below w.heap.size w w' := by
  obtain ⟨q, n, cap, hq⟩ : ∃ q n cap, u = .slice q n cap := by rcases hu.2 with ⟨rfl, _⟩ | ⟨g, cap, cur, rfl, _⟩ <;> exact ⟨_, _, _, rfl⟩
  subst hq
  have hWF : Below w.heap.size w (w.alloc (.cells #[.int .i64 a, .int .i64 b, .int .i64 c, .slice q n cap, .int .i64 t, .bool ok] 246)) := (Below.refl _ _).alloc (Nat.le_refl _) _
  have C0 : (w.alloc (.cells #[.int .i64 a, .int .i64 b, .int .i64 c, .slice q n cap, .int .i64 t, .bool ok] 246)).cell? ⟨w.heap.size, 0, none⟩ = some (.int .i64 a) ∧ (w.alloc (.cells #[.int .i64 a, .int .i64 b, .int .i64 c, .slice q n cap, .int .i64 t, .bool ok] 246)).cell? ⟨w.heap.size, 1, none⟩ = some (.int .i64 b) ∧ (w.alloc (.cells #[.int .i64 a, .int .i64 b, .int .i64 c, .slice q n cap, .int .i64 t, .bool ok] 246)).cell? ⟨w.heap.size, 2, none⟩ = some (.int .i64 c) ∧ (w.alloc (.cells #[.int .i64 a, .int .i64 b, .int .i64 c, .slice q n cap, .int .i64 t, .bool ok] 246)).cell? ⟨w.heap.size, 3, none⟩ = some (.slice q n cap) ∧ (w.alloc (.cells #[.int .i64 a, .int .i64 b, .int .i64 c, .slice q n cap, .int .i64 t, .bool ok] 246)).cell? ⟨w.heap.size, 4, none⟩ = some (.int .i64 t) ∧ (w.alloc (.cells #[.int .i64 a, .int .i64 b, .int .i64 c, .slice q n cap, .int .i64 t, .bool ok] 246)).cell? ⟨w.heap.size, 5, none⟩ = some (.bool ok) := by
    have h := vheap_new w (.cells #[.int .i64 a, .int .i64 b, .int .i64 c, .slice q n cap, .int .i64 t, .bool ok] 246)
    exact ⟨vblk_cell h 0, vblk_cell h 1, vblk_cell h 2, vblk_cell h 3, vblk_cell h 4, vblk_cell h 5⟩
  have hs1 : (w.alloc (.cells #[.int .i64 a, .int .i64 b, .int .i64 c, .slice q n cap, .int .i64 t, .bool ok] 246)).heap.size = w.heap.size + 1 := by simp
  have hap : ∀ g (w1 : World) base, w.heap.size ≤ base → w1.ownsRow base 9 1 (.slice (some ⟨g, 0, none⟩) 1 1) 1 (strsV [zeroT]) → Value.ownBlock (.slice q n cap) = Value.ownBlock (.slice (some ⟨g, 0, none⟩) 1 1) → Value.ownBlock (.slice q n cap) = none := fun g w1 base hb og he => by
    cases hk : Value.ownBlock (.slice q n cap) with
    | none => rfl
    | some k =>
      have h1 := (hu.lt k hk).2
      rw [he] at hk
      have h2 := (og.lt k hk).1
      omega
  obtain ⟨WF, hWFd⟩ : ∃ x, x = w.alloc (.cells #[.int .i64 a, .int .i64 b, .int .i64 c, .slice q n cap, .int .i64 t, .bool ok] 246) := ⟨_, rfl⟩
  rw [← hWFd] at hWF C0 hs1
  have KEEP : Hid (∀ w1, Below WF.heap.size WF w1 → w1.cell? ⟨w.heap.size, 0, none⟩ = some (.int .i64 a) ∧ w1.cell? ⟨w.heap.size, 1, none⟩ = some (.int .i64 b) ∧ w1.cell? ⟨w.heap.size, 2, none⟩ = some (.int .i64 c) ∧ w1.cell? ⟨w.heap.size, 3, none⟩ = some (.slice q n cap) ∧ w1.cell? ⟨w.heap.size, 4, none⟩ = some (.int .i64 t) ∧ w1.cell? ⟨w.heap.size, 5, none⟩ = some (.bool ok)) := fun w1 hb => by
    have k : ∀ j, w1.cell? ⟨w.heap.size, j, none⟩ = WF.cell? ⟨w.heap.size, j, none⟩ := fun j => World.cell?_of_block (w := WF) (hb.block w.heap.size (by omega))
    simp only [k]; exact C0
  have k3 : (t == 3) = true := by simpa using h3
  have em : makeC 3 a b c ps t = [⟨3, a, b, c, ps⟩] := by simp [makeC, h3]
  rw [em]
  have hd0 : Below WF.heap.size WF WF := Below.refl _ _
  subst hWFd
  clear em hnum ht KEEP h3 C0
  go_enter Tryz.func212, Tryz.ntmps212
  go_wp2_with fail
  go_ret
  exact ⟨_, rfl, one_own ⟨3, a, b, c, ps⟩ (by simp) (Nat.le_trans hlo hWF.size) (owns_of_below hu hWF), hWF.alloc hWF.size _⟩

set_option maxHeartbeats 8000000 in
set_option maxRecDepth 100000 in
theorem mk_gt (lo : Nat) (a b c : Int) (u : Value) (ps : List ByteArray) (t : Int) (ok : Bool) (w : World) (hlo : lo ≤ w.heap.size) (hnum : numsOk a b c) (ht : t = 1 ∨ t = 2 ∨ t = 3) (h3 : ¬ t = 3) (hu : w.ownsRow lo 9 1 u ps.length (strsV ps)) :
    Calls Tryz.prog 212 #[.string ⟨#[62]⟩, .agg #[.int .i64 a, .int .i64 b, .int .i64 c, u, .int .i64 t, .bool ok]] w fun e w' => ∃ v, e = .returned v ∧ CmpsOwn lo w' v (makeC 3 a b c ps t) ∧ Below w.heap.size w w' := by
  obtain ⟨q, n, cap, hq⟩ : ∃ q n cap, u = .slice q n cap := by rcases hu.2 with ⟨rfl, _⟩ | ⟨g, cap, cur, rfl, _⟩ <;> exact ⟨_, _, _, rfl⟩
  subst hq
  have hWF : Below w.heap.size w (w.alloc (.cells #[.int .i64 a, .int .i64 b, .int .i64 c, .slice q n cap, .int .i64 t, .bool ok] 246)) := (Below.refl _ _).alloc (Nat.le_refl _) _
  have C0 : (w.alloc (.cells #[.int .i64 a, .int .i64 b, .int .i64 c, .slice q n cap, .int .i64 t, .bool ok] 246)).cell? ⟨w.heap.size, 0, none⟩ = some (.int .i64 a) ∧ (w.alloc (.cells #[.int .i64 a, .int .i64 b, .int .i64 c, .slice q n cap, .int .i64 t, .bool ok] 246)).cell? ⟨w.heap.size, 1, none⟩ = some (.int .i64 b) ∧ (w.alloc (.cells #[.int .i64 a, .int .i64 b, .int .i64 c, .slice q n cap, .int .i64 t, .bool ok] 246)).cell? ⟨w.heap.size, 2, none⟩ = some (.int .i64 c) ∧ (w.alloc (.cells #[.int .i64 a, .int .i64 b, .int .i64 c, .slice q n cap, .int .i64 t, .bool ok] 246)).cell? ⟨w.heap.size, 3, none⟩ = some (.slice q n cap) ∧ (w.alloc (.cells #[.int .i64 a, .int .i64 b, .int .i64 c, .slice q n cap, .int .i64 t, .bool ok] 246)).cell? ⟨w.heap.size, 4, none⟩ = some (.int .i64 t) ∧ (w.alloc (.cells #[.int .i64 a, .int .i64 b, .int .i64 c, .slice q n cap, .int .i64 t, .bool ok] 246)).cell? ⟨w.heap.size, 5, none⟩ = some (.bool ok) := by
    have h := vheap_new w (.cells #[.int .i64 a, .int .i64 b, .int .i64 c, .slice q n cap, .int .i64 t, .bool ok] 246)
    exact ⟨vblk_cell h 0, vblk_cell h 1, vblk_cell h 2, vblk_cell h 3, vblk_cell h 4, vblk_cell h 5⟩
  have hs1 : (w.alloc (.cells #[.int .i64 a, .int .i64 b, .int .i64 c, .slice q n cap, .int .i64 t, .bool ok] 246)).heap.size = w.heap.size + 1 := by simp
  have hap : ∀ g (w1 : World) base, w.heap.size ≤ base → w1.ownsRow base 9 1 (.slice (some ⟨g, 0, none⟩) 1 1) 1 (strsV [zeroT]) → Value.ownBlock (.slice q n cap) = Value.ownBlock (.slice (some ⟨g, 0, none⟩) 1 1) → Value.ownBlock (.slice q n cap) = none := fun g w1 base hb og he => by
    cases hk : Value.ownBlock (.slice q n cap) with
    | none => rfl
    | some k =>
      have h1 := (hu.lt k hk).2
      rw [he] at hk
      have h2 := (og.lt k hk).1
      omega
  obtain ⟨WF, hWFd⟩ : ∃ x, x = w.alloc (.cells #[.int .i64 a, .int .i64 b, .int .i64 c, .slice q n cap, .int .i64 t, .bool ok] 246) := ⟨_, rfl⟩
  rw [← hWFd] at hWF C0 hs1
  have KEEP : Hid (∀ w1, Below WF.heap.size WF w1 → w1.cell? ⟨w.heap.size, 0, none⟩ = some (.int .i64 a) ∧ w1.cell? ⟨w.heap.size, 1, none⟩ = some (.int .i64 b) ∧ w1.cell? ⟨w.heap.size, 2, none⟩ = some (.int .i64 c) ∧ w1.cell? ⟨w.heap.size, 3, none⟩ = some (.slice q n cap) ∧ w1.cell? ⟨w.heap.size, 4, none⟩ = some (.int .i64 t) ∧ w1.cell? ⟨w.heap.size, 5, none⟩ = some (.bool ok)) := fun w1 hb => by
    have k : ∀ j, w1.cell? ⟨w.heap.size, j, none⟩ = WF.cell? ⟨w.heap.size, j, none⟩ := fun j => World.cell?_of_block (w := WF) (hb.block w.heap.size (by omega))
    simp only [k]; exact C0
  have k3 : (t == 3) = false := by simpa using h3
  have hm : min t 2 = t := by omega
  have em : makeC 3 a b c ps t = [⟨4, nextA (min t 2) a, nextB (min t 2) b, nextC (min t 2) c, []⟩] := by simp [makeC, h3, hm]
  obtain ⟨x, hx⟩ : ∃ x, x = nextA (min t 2) a := ⟨_, rfl⟩
  obtain ⟨y, hy⟩ : ∃ x, x = nextB (min t 2) b := ⟨_, rfl⟩
  obtain ⟨z, hz⟩ : ∃ x, x = nextC (min t 2) c := ⟨_, rfl⟩
  rw [em, ← hx, ← hy, ← hz]
  have HF : Hid (∀ w1, Below WF.heap.size WF w1 → Calls Tryz.prog 231 #[.agg #[.int .i64 a, .int .i64 b, .int .i64 c, .slice q n cap, .int .i64 t, .bool ok]] w1 fun e w' => e = .returned (.agg #[.int .i64 4, .int .i64 a, .int .i64 b, .int .i64 c, .slice q n cap]) ∧ Below w1.heap.size w1 w' ∧ Below WF.heap.size WF w' ∧ w'.cell? ⟨w.heap.size, 0, none⟩ = some (.int .i64 a) ∧ w'.cell? ⟨w.heap.size, 1, none⟩ = some (.int .i64 b) ∧ w'.cell? ⟨w.heap.size, 2, none⟩ = some (.int .i64 c) ∧ w'.cell? ⟨w.heap.size, 3, none⟩ = some (.slice q n cap) ∧ w'.cell? ⟨w.heap.size, 4, none⟩ = some (.int .i64 t) ∧ w'.cell? ⟨w.heap.size, 5, none⟩ = some (.bool ok)) := fun w1 hb => (l4From_c a b c _ t ok w1 ⟨_, _, _, rfl⟩).mono (fun e w' ⟨h1, h2⟩ => ⟨h1, h2, hb.trans (h2.mono hb.size), KEEP.out w' (hb.trans (h2.mono hb.size))⟩)
  have HN : Hid (∀ w1, Below WF.heap.size WF w1 → Calls Tryz.prog 235 #[.agg #[.int .i64 a, .int .i64 b, .int .i64 c, .slice q n cap, .int .i64 t, .bool ok]] w1 fun e w' => e = .returned (.agg #[.int .i64 x, .int .i64 y, .int .i64 z, .slice none 0 0]) ∧ Below w1.heap.size w1 w' ∧ Below WF.heap.size WF w' ∧ w'.cell? ⟨w.heap.size, 0, none⟩ = some (.int .i64 a) ∧ w'.cell? ⟨w.heap.size, 1, none⟩ = some (.int .i64 b) ∧ w'.cell? ⟨w.heap.size, 2, none⟩ = some (.int .i64 c) ∧ w'.cell? ⟨w.heap.size, 3, none⟩ = some (.slice q n cap) ∧ w'.cell? ⟨w.heap.size, 4, none⟩ = some (.int .i64 t) ∧ w'.cell? ⟨w.heap.size, 5, none⟩ = some (.bool ok)) := fun w1 hb => (l4Next_c a b c _ t ok hnum ht w1 ⟨_, _, _, rfl⟩).mono (fun e w' ⟨h1, h2⟩ => ⟨by rw [h1, ← hx, ← hy, ← hz], h2, hb.trans (h2.mono hb.size), KEEP.out w' (hb.trans (h2.mono hb.size))⟩)
  have HB : Hid (∀ w1, Below WF.heap.size WF w1 → Calls Tryz.prog 232 #[.agg #[.int .i64 x, .int .i64 y, .int .i64 z, .slice none 0 0]] w1 fun e w' => ∃ g, e = .returned (.agg #[.int .i64 1, .int .i64 x, .int .i64 y, .int .i64 z, .slice (some ⟨g, 0, none⟩) 1 1]) ∧ w'.ownsRow WF.heap.size 9 1 (.slice (some ⟨g, 0, none⟩) 1 1) 1 (strsV [zeroT]) ∧ Below WF.heap.size WF w' ∧ w'.cell? ⟨w.heap.size, 0, none⟩ = some (.int .i64 a) ∧ w'.cell? ⟨w.heap.size, 1, none⟩ = some (.int .i64 b) ∧ w'.cell? ⟨w.heap.size, 2, none⟩ = some (.int .i64 c) ∧ w'.cell? ⟨w.heap.size, 3, none⟩ = some (.slice q n cap) ∧ w'.cell? ⟨w.heap.size, 4, none⟩ = some (.int .i64 t) ∧ w'.cell? ⟨w.heap.size, 5, none⟩ = some (.bool ok)) := fun w1 hb => (l4Below_c x y z _ w1 ⟨_, _, _, rfl⟩).mono (fun e w' ⟨g, h1, h2, h3⟩ => ⟨g, h1, owns_base h2 hb.size, hb.trans (h3.mono hb.size), KEEP.out w' (hb.trans (h3.mono hb.size))⟩)
  have hd0 : Below WF.heap.size WF WF := Below.refl _ _
  obtain ⟨c0, c1, c2, c3, c4, c5⟩ := C0
  clear em hnum ht KEEP hx hy hz hm h3
  go_enter Tryz.func212, Tryz.ntmps212
  go_wp2_with (first
    | (go_at_call 235; rw [← hWFd]; refine (HN.out _ ?_).mono ?_; · assumption
       rintro e wN ⟨rfl, bN, BN, ⟨c0, c1, c2, c3, c4, c5⟩⟩))
  go_ret
  have hx := hWF.trans (BN.mono hWF.size)
  exact ⟨_, rfl, one_own ⟨4, x, y, z, []⟩ (by simp) (Nat.le_trans hlo hx.size) (owns_nil _ _), hx.alloc hx.size _⟩

set_option maxHeartbeats 8000000 in
set_option maxRecDepth 100000 in
theorem mk_le3 (lo : Nat) (a b c : Int) (u : Value) (ps : List ByteArray) (t : Int) (ok : Bool) (w : World) (hlo : lo ≤ w.heap.size) (hnum : numsOk a b c) (ht : t = 1 ∨ t = 2 ∨ t = 3) (h3 : t = 3) (hu : w.ownsRow lo 9 1 u ps.length (strsV ps)) :
    Calls Tryz.prog 212 #[.string ⟨#[60, 61]⟩, .agg #[.int .i64 a, .int .i64 b, .int .i64 c, u, .int .i64 t, .bool ok]] w fun e w' => ∃ v, e = .returned v ∧ CmpsOwn lo w' v (makeC 2 a b c ps t) ∧ Below w.heap.size w w' := by
  obtain ⟨q, n, cap, hq⟩ : ∃ q n cap, u = .slice q n cap := by rcases hu.2 with ⟨rfl, _⟩ | ⟨g, cap, cur, rfl, _⟩ <;> exact ⟨_, _, _, rfl⟩
  subst hq
  have hWF : Below w.heap.size w (w.alloc (.cells #[.int .i64 a, .int .i64 b, .int .i64 c, .slice q n cap, .int .i64 t, .bool ok] 246)) := (Below.refl _ _).alloc (Nat.le_refl _) _
  have C0 : (w.alloc (.cells #[.int .i64 a, .int .i64 b, .int .i64 c, .slice q n cap, .int .i64 t, .bool ok] 246)).cell? ⟨w.heap.size, 0, none⟩ = some (.int .i64 a) ∧ (w.alloc (.cells #[.int .i64 a, .int .i64 b, .int .i64 c, .slice q n cap, .int .i64 t, .bool ok] 246)).cell? ⟨w.heap.size, 1, none⟩ = some (.int .i64 b) ∧ (w.alloc (.cells #[.int .i64 a, .int .i64 b, .int .i64 c, .slice q n cap, .int .i64 t, .bool ok] 246)).cell? ⟨w.heap.size, 2, none⟩ = some (.int .i64 c) ∧ (w.alloc (.cells #[.int .i64 a, .int .i64 b, .int .i64 c, .slice q n cap, .int .i64 t, .bool ok] 246)).cell? ⟨w.heap.size, 3, none⟩ = some (.slice q n cap) ∧ (w.alloc (.cells #[.int .i64 a, .int .i64 b, .int .i64 c, .slice q n cap, .int .i64 t, .bool ok] 246)).cell? ⟨w.heap.size, 4, none⟩ = some (.int .i64 t) ∧ (w.alloc (.cells #[.int .i64 a, .int .i64 b, .int .i64 c, .slice q n cap, .int .i64 t, .bool ok] 246)).cell? ⟨w.heap.size, 5, none⟩ = some (.bool ok) := by
    have h := vheap_new w (.cells #[.int .i64 a, .int .i64 b, .int .i64 c, .slice q n cap, .int .i64 t, .bool ok] 246)
    exact ⟨vblk_cell h 0, vblk_cell h 1, vblk_cell h 2, vblk_cell h 3, vblk_cell h 4, vblk_cell h 5⟩
  have hs1 : (w.alloc (.cells #[.int .i64 a, .int .i64 b, .int .i64 c, .slice q n cap, .int .i64 t, .bool ok] 246)).heap.size = w.heap.size + 1 := by simp
  have hap : ∀ g (w1 : World) base, w.heap.size ≤ base → w1.ownsRow base 9 1 (.slice (some ⟨g, 0, none⟩) 1 1) 1 (strsV [zeroT]) → Value.ownBlock (.slice q n cap) = Value.ownBlock (.slice (some ⟨g, 0, none⟩) 1 1) → Value.ownBlock (.slice q n cap) = none := fun g w1 base hb og he => by
    cases hk : Value.ownBlock (.slice q n cap) with
    | none => rfl
    | some k =>
      have h1 := (hu.lt k hk).2
      rw [he] at hk
      have h2 := (og.lt k hk).1
      omega
  obtain ⟨WF, hWFd⟩ : ∃ x, x = w.alloc (.cells #[.int .i64 a, .int .i64 b, .int .i64 c, .slice q n cap, .int .i64 t, .bool ok] 246) := ⟨_, rfl⟩
  rw [← hWFd] at hWF C0 hs1
  have KEEP : Hid (∀ w1, Below WF.heap.size WF w1 → w1.cell? ⟨w.heap.size, 0, none⟩ = some (.int .i64 a) ∧ w1.cell? ⟨w.heap.size, 1, none⟩ = some (.int .i64 b) ∧ w1.cell? ⟨w.heap.size, 2, none⟩ = some (.int .i64 c) ∧ w1.cell? ⟨w.heap.size, 3, none⟩ = some (.slice q n cap) ∧ w1.cell? ⟨w.heap.size, 4, none⟩ = some (.int .i64 t) ∧ w1.cell? ⟨w.heap.size, 5, none⟩ = some (.bool ok)) := fun w1 hb => by
    have k : ∀ j, w1.cell? ⟨w.heap.size, j, none⟩ = WF.cell? ⟨w.heap.size, j, none⟩ := fun j => World.cell?_of_block (w := WF) (hb.block w.heap.size (by omega))
    simp only [k]; exact C0
  have k3 : (t == 3) = true := by simpa using h3
  have em : makeC 2 a b c ps t = [⟨2, a, b, c, ps⟩] := by simp [makeC, h3]
  rw [em]
  have hd0 : Below WF.heap.size WF WF := Below.refl _ _
  subst hWFd
  clear em hnum ht KEEP h3 C0
  go_enter Tryz.func212, Tryz.ntmps212
  go_wp2_with fail
  go_ret
  exact ⟨_, rfl, one_own ⟨2, a, b, c, ps⟩ (by simp) (Nat.le_trans hlo hWF.size) (owns_of_below hu hWF), hWF.alloc hWF.size _⟩

set_option maxHeartbeats 8000000 in
set_option maxRecDepth 100000 in
theorem mk_le (lo : Nat) (a b c : Int) (u : Value) (ps : List ByteArray) (t : Int) (ok : Bool) (w : World) (hlo : lo ≤ w.heap.size) (hnum : numsOk a b c) (ht : t = 1 ∨ t = 2 ∨ t = 3) (h3 : ¬ t = 3) (hu : w.ownsRow lo 9 1 u ps.length (strsV ps)) :
    Calls Tryz.prog 212 #[.string ⟨#[60, 61]⟩, .agg #[.int .i64 a, .int .i64 b, .int .i64 c, u, .int .i64 t, .bool ok]] w fun e w' => ∃ v, e = .returned v ∧ CmpsOwn lo w' v (makeC 2 a b c ps t) ∧ Below w.heap.size w w' := by
  obtain ⟨q, n, cap, hq⟩ : ∃ q n cap, u = .slice q n cap := by rcases hu.2 with ⟨rfl, _⟩ | ⟨g, cap, cur, rfl, _⟩ <;> exact ⟨_, _, _, rfl⟩
  subst hq
  have hWF : Below w.heap.size w (w.alloc (.cells #[.int .i64 a, .int .i64 b, .int .i64 c, .slice q n cap, .int .i64 t, .bool ok] 246)) := (Below.refl _ _).alloc (Nat.le_refl _) _
  have C0 : (w.alloc (.cells #[.int .i64 a, .int .i64 b, .int .i64 c, .slice q n cap, .int .i64 t, .bool ok] 246)).cell? ⟨w.heap.size, 0, none⟩ = some (.int .i64 a) ∧ (w.alloc (.cells #[.int .i64 a, .int .i64 b, .int .i64 c, .slice q n cap, .int .i64 t, .bool ok] 246)).cell? ⟨w.heap.size, 1, none⟩ = some (.int .i64 b) ∧ (w.alloc (.cells #[.int .i64 a, .int .i64 b, .int .i64 c, .slice q n cap, .int .i64 t, .bool ok] 246)).cell? ⟨w.heap.size, 2, none⟩ = some (.int .i64 c) ∧ (w.alloc (.cells #[.int .i64 a, .int .i64 b, .int .i64 c, .slice q n cap, .int .i64 t, .bool ok] 246)).cell? ⟨w.heap.size, 3, none⟩ = some (.slice q n cap) ∧ (w.alloc (.cells #[.int .i64 a, .int .i64 b, .int .i64 c, .slice q n cap, .int .i64 t, .bool ok] 246)).cell? ⟨w.heap.size, 4, none⟩ = some (.int .i64 t) ∧ (w.alloc (.cells #[.int .i64 a, .int .i64 b, .int .i64 c, .slice q n cap, .int .i64 t, .bool ok] 246)).cell? ⟨w.heap.size, 5, none⟩ = some (.bool ok) := by
    have h := vheap_new w (.cells #[.int .i64 a, .int .i64 b, .int .i64 c, .slice q n cap, .int .i64 t, .bool ok] 246)
    exact ⟨vblk_cell h 0, vblk_cell h 1, vblk_cell h 2, vblk_cell h 3, vblk_cell h 4, vblk_cell h 5⟩
  have hs1 : (w.alloc (.cells #[.int .i64 a, .int .i64 b, .int .i64 c, .slice q n cap, .int .i64 t, .bool ok] 246)).heap.size = w.heap.size + 1 := by simp
  have hap : ∀ g (w1 : World) base, w.heap.size ≤ base → w1.ownsRow base 9 1 (.slice (some ⟨g, 0, none⟩) 1 1) 1 (strsV [zeroT]) → Value.ownBlock (.slice q n cap) = Value.ownBlock (.slice (some ⟨g, 0, none⟩) 1 1) → Value.ownBlock (.slice q n cap) = none := fun g w1 base hb og he => by
    cases hk : Value.ownBlock (.slice q n cap) with
    | none => rfl
    | some k =>
      have h1 := (hu.lt k hk).2
      rw [he] at hk
      have h2 := (og.lt k hk).1
      omega
  obtain ⟨WF, hWFd⟩ : ∃ x, x = w.alloc (.cells #[.int .i64 a, .int .i64 b, .int .i64 c, .slice q n cap, .int .i64 t, .bool ok] 246) := ⟨_, rfl⟩
  rw [← hWFd] at hWF C0 hs1
  have KEEP : Hid (∀ w1, Below WF.heap.size WF w1 → w1.cell? ⟨w.heap.size, 0, none⟩ = some (.int .i64 a) ∧ w1.cell? ⟨w.heap.size, 1, none⟩ = some (.int .i64 b) ∧ w1.cell? ⟨w.heap.size, 2, none⟩ = some (.int .i64 c) ∧ w1.cell? ⟨w.heap.size, 3, none⟩ = some (.slice q n cap) ∧ w1.cell? ⟨w.heap.size, 4, none⟩ = some (.int .i64 t) ∧ w1.cell? ⟨w.heap.size, 5, none⟩ = some (.bool ok)) := fun w1 hb => by
    have k : ∀ j, w1.cell? ⟨w.heap.size, j, none⟩ = WF.cell? ⟨w.heap.size, j, none⟩ := fun j => World.cell?_of_block (w := WF) (hb.block w.heap.size (by omega))
    simp only [k]; exact C0
  have k3 : (t == 3) = false := by simpa using h3
  have hm : min t 2 = t := by omega
  have em : makeC 2 a b c ps t = [⟨1, nextA (min t 2) a, nextB (min t 2) b, nextC (min t 2) c, [zeroT]⟩] := by simp [makeC, h3, hm]
  obtain ⟨x, hx⟩ : ∃ x, x = nextA (min t 2) a := ⟨_, rfl⟩
  obtain ⟨y, hy⟩ : ∃ x, x = nextB (min t 2) b := ⟨_, rfl⟩
  obtain ⟨z, hz⟩ : ∃ x, x = nextC (min t 2) c := ⟨_, rfl⟩
  rw [em, ← hx, ← hy, ← hz]
  have HF : Hid (∀ w1, Below WF.heap.size WF w1 → Calls Tryz.prog 231 #[.agg #[.int .i64 a, .int .i64 b, .int .i64 c, .slice q n cap, .int .i64 t, .bool ok]] w1 fun e w' => e = .returned (.agg #[.int .i64 4, .int .i64 a, .int .i64 b, .int .i64 c, .slice q n cap]) ∧ Below w1.heap.size w1 w' ∧ Below WF.heap.size WF w' ∧ w'.cell? ⟨w.heap.size, 0, none⟩ = some (.int .i64 a) ∧ w'.cell? ⟨w.heap.size, 1, none⟩ = some (.int .i64 b) ∧ w'.cell? ⟨w.heap.size, 2, none⟩ = some (.int .i64 c) ∧ w'.cell? ⟨w.heap.size, 3, none⟩ = some (.slice q n cap) ∧ w'.cell? ⟨w.heap.size, 4, none⟩ = some (.int .i64 t) ∧ w'.cell? ⟨w.heap.size, 5, none⟩ = some (.bool ok)) := fun w1 hb => (l4From_c a b c _ t ok w1 ⟨_, _, _, rfl⟩).mono (fun e w' ⟨h1, h2⟩ => ⟨h1, h2, hb.trans (h2.mono hb.size), KEEP.out w' (hb.trans (h2.mono hb.size))⟩)
  have HN : Hid (∀ w1, Below WF.heap.size WF w1 → Calls Tryz.prog 235 #[.agg #[.int .i64 a, .int .i64 b, .int .i64 c, .slice q n cap, .int .i64 t, .bool ok]] w1 fun e w' => e = .returned (.agg #[.int .i64 x, .int .i64 y, .int .i64 z, .slice none 0 0]) ∧ Below w1.heap.size w1 w' ∧ Below WF.heap.size WF w' ∧ w'.cell? ⟨w.heap.size, 0, none⟩ = some (.int .i64 a) ∧ w'.cell? ⟨w.heap.size, 1, none⟩ = some (.int .i64 b) ∧ w'.cell? ⟨w.heap.size, 2, none⟩ = some (.int .i64 c) ∧ w'.cell? ⟨w.heap.size, 3, none⟩ = some (.slice q n cap) ∧ w'.cell? ⟨w.heap.size, 4, none⟩ = some (.int .i64 t) ∧ w'.cell? ⟨w.heap.size, 5, none⟩ = some (.bool ok)) := fun w1 hb => (l4Next_c a b c _ t ok hnum ht w1 ⟨_, _, _, rfl⟩).mono (fun e w' ⟨h1, h2⟩ => ⟨by rw [h1, ← hx, ← hy, ← hz], h2, hb.trans (h2.mono hb.size), KEEP.out w' (hb.trans (h2.mono hb.size))⟩)
  have HB : Hid (∀ w1, Below WF.heap.size WF w1 → Calls Tryz.prog 232 #[.agg #[.int .i64 x, .int .i64 y, .int .i64 z, .slice none 0 0]] w1 fun e w' => ∃ g, e = .returned (.agg #[.int .i64 1, .int .i64 x, .int .i64 y, .int .i64 z, .slice (some ⟨g, 0, none⟩) 1 1]) ∧ w'.ownsRow WF.heap.size 9 1 (.slice (some ⟨g, 0, none⟩) 1 1) 1 (strsV [zeroT]) ∧ Below WF.heap.size WF w' ∧ w'.cell? ⟨w.heap.size, 0, none⟩ = some (.int .i64 a) ∧ w'.cell? ⟨w.heap.size, 1, none⟩ = some (.int .i64 b) ∧ w'.cell? ⟨w.heap.size, 2, none⟩ = some (.int .i64 c) ∧ w'.cell? ⟨w.heap.size, 3, none⟩ = some (.slice q n cap) ∧ w'.cell? ⟨w.heap.size, 4, none⟩ = some (.int .i64 t) ∧ w'.cell? ⟨w.heap.size, 5, none⟩ = some (.bool ok)) := fun w1 hb => (l4Below_c x y z _ w1 ⟨_, _, _, rfl⟩).mono (fun e w' ⟨g, h1, h2, h3⟩ => ⟨g, h1, owns_base h2 hb.size, hb.trans (h3.mono hb.size), KEEP.out w' (hb.trans (h3.mono hb.size))⟩)
  have hd0 : Below WF.heap.size WF WF := Below.refl _ _
  obtain ⟨c0, c1, c2, c3, c4, c5⟩ := C0
  clear em hnum ht KEEP hx hy hz hm h3
  go_enter Tryz.func212, Tryz.ntmps212
  go_wp2_with (first
    | (go_at_call 235; rw [← hWFd]; refine (HN.out _ ?_).mono ?_; · assumption
       rintro e wN ⟨rfl, bN, BN, ⟨c0, c1, c2, c3, c4, c5⟩⟩)
    | (go_at_call 232; refine (HB.out _ ?_).mono ?_; · assumption
       rintro e wB ⟨g, rfl, og, BB, ⟨c0, c1, c2, c3, c4, c5⟩⟩))
  go_ret
  have hx := hWF.trans (BB.mono hWF.size)
  exact ⟨_, rfl, one_own ⟨1, x, y, z, [zeroT]⟩ (by simp) (Nat.le_trans hlo hx.size) (owns_base og (Nat.le_trans hlo hWF.size)), hx.alloc hx.size _⟩

set_option maxHeartbeats 8000000 in
set_option maxRecDepth 100000 in
theorem mk_eq3 (lo : Nat) (a b c : Int) (u : Value) (ps : List ByteArray) (t : Int) (ok : Bool) (w : World) (hlo : lo ≤ w.heap.size) (hnum : numsOk a b c) (ht : t = 1 ∨ t = 2 ∨ t = 3) (h3 : t = 3) (hu : w.ownsRow lo 9 1 u ps.length (strsV ps)) :
    Calls Tryz.prog 212 #[.string ⟨#[61]⟩, .agg #[.int .i64 a, .int .i64 b, .int .i64 c, u, .int .i64 t, .bool ok]] w fun e w' => ∃ v, e = .returned v ∧ CmpsOwn lo w' v (makeC 0 a b c ps t) ∧ Below w.heap.size w w' := by
  obtain ⟨q, n, cap, hq⟩ : ∃ q n cap, u = .slice q n cap := by rcases hu.2 with ⟨rfl, _⟩ | ⟨g, cap, cur, rfl, _⟩ <;> exact ⟨_, _, _, rfl⟩
  subst hq
  have hWF : Below w.heap.size w (w.alloc (.cells #[.int .i64 a, .int .i64 b, .int .i64 c, .slice q n cap, .int .i64 t, .bool ok] 246)) := (Below.refl _ _).alloc (Nat.le_refl _) _
  have C0 : (w.alloc (.cells #[.int .i64 a, .int .i64 b, .int .i64 c, .slice q n cap, .int .i64 t, .bool ok] 246)).cell? ⟨w.heap.size, 0, none⟩ = some (.int .i64 a) ∧ (w.alloc (.cells #[.int .i64 a, .int .i64 b, .int .i64 c, .slice q n cap, .int .i64 t, .bool ok] 246)).cell? ⟨w.heap.size, 1, none⟩ = some (.int .i64 b) ∧ (w.alloc (.cells #[.int .i64 a, .int .i64 b, .int .i64 c, .slice q n cap, .int .i64 t, .bool ok] 246)).cell? ⟨w.heap.size, 2, none⟩ = some (.int .i64 c) ∧ (w.alloc (.cells #[.int .i64 a, .int .i64 b, .int .i64 c, .slice q n cap, .int .i64 t, .bool ok] 246)).cell? ⟨w.heap.size, 3, none⟩ = some (.slice q n cap) ∧ (w.alloc (.cells #[.int .i64 a, .int .i64 b, .int .i64 c, .slice q n cap, .int .i64 t, .bool ok] 246)).cell? ⟨w.heap.size, 4, none⟩ = some (.int .i64 t) ∧ (w.alloc (.cells #[.int .i64 a, .int .i64 b, .int .i64 c, .slice q n cap, .int .i64 t, .bool ok] 246)).cell? ⟨w.heap.size, 5, none⟩ = some (.bool ok) := by
    have h := vheap_new w (.cells #[.int .i64 a, .int .i64 b, .int .i64 c, .slice q n cap, .int .i64 t, .bool ok] 246)
    exact ⟨vblk_cell h 0, vblk_cell h 1, vblk_cell h 2, vblk_cell h 3, vblk_cell h 4, vblk_cell h 5⟩
  have hs1 : (w.alloc (.cells #[.int .i64 a, .int .i64 b, .int .i64 c, .slice q n cap, .int .i64 t, .bool ok] 246)).heap.size = w.heap.size + 1 := by simp
  have hap : ∀ g (w1 : World) base, w.heap.size ≤ base → w1.ownsRow base 9 1 (.slice (some ⟨g, 0, none⟩) 1 1) 1 (strsV [zeroT]) → Value.ownBlock (.slice q n cap) = Value.ownBlock (.slice (some ⟨g, 0, none⟩) 1 1) → Value.ownBlock (.slice q n cap) = none := fun g w1 base hb og he => by
    cases hk : Value.ownBlock (.slice q n cap) with
    | none => rfl
    | some k =>
      have h1 := (hu.lt k hk).2
      rw [he] at hk
      have h2 := (og.lt k hk).1
      omega
  obtain ⟨WF, hWFd⟩ : ∃ x, x = w.alloc (.cells #[.int .i64 a, .int .i64 b, .int .i64 c, .slice q n cap, .int .i64 t, .bool ok] 246) := ⟨_, rfl⟩
  rw [← hWFd] at hWF C0 hs1
  have KEEP : Hid (∀ w1, Below WF.heap.size WF w1 → w1.cell? ⟨w.heap.size, 0, none⟩ = some (.int .i64 a) ∧ w1.cell? ⟨w.heap.size, 1, none⟩ = some (.int .i64 b) ∧ w1.cell? ⟨w.heap.size, 2, none⟩ = some (.int .i64 c) ∧ w1.cell? ⟨w.heap.size, 3, none⟩ = some (.slice q n cap) ∧ w1.cell? ⟨w.heap.size, 4, none⟩ = some (.int .i64 t) ∧ w1.cell? ⟨w.heap.size, 5, none⟩ = some (.bool ok)) := fun w1 hb => by
    have k : ∀ j, w1.cell? ⟨w.heap.size, j, none⟩ = WF.cell? ⟨w.heap.size, j, none⟩ := fun j => World.cell?_of_block (w := WF) (hb.block w.heap.size (by omega))
    simp only [k]; exact C0
  have k3 : (t == 3) = true := by simpa using h3
  have em : makeC 0 a b c ps t = [⟨0, a, b, c, ps⟩] := by simp [makeC, h3]
  rw [em]
  have hd0 : Below WF.heap.size WF WF := Below.refl _ _
  subst hWFd
  clear em hnum ht KEEP h3 C0
  go_enter Tryz.func212, Tryz.ntmps212
  go_wp2_with fail
  go_ret
  exact ⟨_, rfl, one_own ⟨0, a, b, c, ps⟩ (by simp) (Nat.le_trans hlo hWF.size) (owns_of_below hu hWF), hWF.alloc hWF.size _⟩

set_option maxHeartbeats 8000000 in
set_option maxRecDepth 100000 in
theorem mk_no3 (lo : Nat) (a b c : Int) (u : Value) (ps : List ByteArray) (t : Int) (ok : Bool) (w : World) (hlo : lo ≤ w.heap.size) (hnum : numsOk a b c) (ht : t = 1 ∨ t = 2 ∨ t = 3) (h3 : t = 3) (hu : w.ownsRow lo 9 1 u ps.length (strsV ps)) :
    Calls Tryz.prog 212 #[.string ⟨#[]⟩, .agg #[.int .i64 a, .int .i64 b, .int .i64 c, u, .int .i64 t, .bool ok]] w fun e w' => ∃ v, e = .returned v ∧ CmpsOwn lo w' v (makeC 0 a b c ps t) ∧ Below w.heap.size w w' := by
  obtain ⟨q, n, cap, hq⟩ : ∃ q n cap, u = .slice q n cap := by rcases hu.2 with ⟨rfl, _⟩ | ⟨g, cap, cur, rfl, _⟩ <;> exact ⟨_, _, _, rfl⟩
  subst hq
  have hWF : Below w.heap.size w (w.alloc (.cells #[.int .i64 a, .int .i64 b, .int .i64 c, .slice q n cap, .int .i64 t, .bool ok] 246)) := (Below.refl _ _).alloc (Nat.le_refl _) _
  have C0 : (w.alloc (.cells #[.int .i64 a, .int .i64 b, .int .i64 c, .slice q n cap, .int .i64 t, .bool ok] 246)).cell? ⟨w.heap.size, 0, none⟩ = some (.int .i64 a) ∧ (w.alloc (.cells #[.int .i64 a, .int .i64 b, .int .i64 c, .slice q n cap, .int .i64 t, .bool ok] 246)).cell? ⟨w.heap.size, 1, none⟩ = some (.int .i64 b) ∧ (w.alloc (.cells #[.int .i64 a, .int .i64 b, .int .i64 c, .slice q n cap, .int .i64 t, .bool ok] 246)).cell? ⟨w.heap.size, 2, none⟩ = some (.int .i64 c) ∧ (w.alloc (.cells #[.int .i64 a, .int .i64 b, .int .i64 c, .slice q n cap, .int .i64 t, .bool ok] 246)).cell? ⟨w.heap.size, 3, none⟩ = some (.slice q n cap) ∧ (w.alloc (.cells #[.int .i64 a, .int .i64 b, .int .i64 c, .slice q n cap, .int .i64 t, .bool ok] 246)).cell? ⟨w.heap.size, 4, none⟩ = some (.int .i64 t) ∧ (w.alloc (.cells #[.int .i64 a, .int .i64 b, .int .i64 c, .slice q n cap, .int .i64 t, .bool ok] 246)).cell? ⟨w.heap.size, 5, none⟩ = some (.bool ok) := by
    have h := vheap_new w (.cells #[.int .i64 a, .int .i64 b, .int .i64 c, .slice q n cap, .int .i64 t, .bool ok] 246)
    exact ⟨vblk_cell h 0, vblk_cell h 1, vblk_cell h 2, vblk_cell h 3, vblk_cell h 4, vblk_cell h 5⟩
  have hs1 : (w.alloc (.cells #[.int .i64 a, .int .i64 b, .int .i64 c, .slice q n cap, .int .i64 t, .bool ok] 246)).heap.size = w.heap.size + 1 := by simp
  have hap : ∀ g (w1 : World) base, w.heap.size ≤ base → w1.ownsRow base 9 1 (.slice (some ⟨g, 0, none⟩) 1 1) 1 (strsV [zeroT]) → Value.ownBlock (.slice q n cap) = Value.ownBlock (.slice (some ⟨g, 0, none⟩) 1 1) → Value.ownBlock (.slice q n cap) = none := fun g w1 base hb og he => by
    cases hk : Value.ownBlock (.slice q n cap) with
    | none => rfl
    | some k =>
      have h1 := (hu.lt k hk).2
      rw [he] at hk
      have h2 := (og.lt k hk).1
      omega
  obtain ⟨WF, hWFd⟩ : ∃ x, x = w.alloc (.cells #[.int .i64 a, .int .i64 b, .int .i64 c, .slice q n cap, .int .i64 t, .bool ok] 246) := ⟨_, rfl⟩
  rw [← hWFd] at hWF C0 hs1
  have KEEP : Hid (∀ w1, Below WF.heap.size WF w1 → w1.cell? ⟨w.heap.size, 0, none⟩ = some (.int .i64 a) ∧ w1.cell? ⟨w.heap.size, 1, none⟩ = some (.int .i64 b) ∧ w1.cell? ⟨w.heap.size, 2, none⟩ = some (.int .i64 c) ∧ w1.cell? ⟨w.heap.size, 3, none⟩ = some (.slice q n cap) ∧ w1.cell? ⟨w.heap.size, 4, none⟩ = some (.int .i64 t) ∧ w1.cell? ⟨w.heap.size, 5, none⟩ = some (.bool ok)) := fun w1 hb => by
    have k : ∀ j, w1.cell? ⟨w.heap.size, j, none⟩ = WF.cell? ⟨w.heap.size, j, none⟩ := fun j => World.cell?_of_block (w := WF) (hb.block w.heap.size (by omega))
    simp only [k]; exact C0
  have k3 : (t == 3) = true := by simpa using h3
  have em : makeC 0 a b c ps t = [⟨0, a, b, c, ps⟩] := by simp [makeC, h3]
  rw [em]
  have hd0 : Below WF.heap.size WF WF := Below.refl _ _
  subst hWFd
  clear em hnum ht KEEP h3 C0
  go_enter Tryz.func212, Tryz.ntmps212
  go_wp2_with fail
  go_ret
  exact ⟨_, rfl, one_own ⟨0, a, b, c, ps⟩ (by simp) (Nat.le_trans hlo hWF.size) (owns_of_below hu hWF), hWF.alloc hWF.size _⟩

end Go.Proofs.YtlnofdlhjeomfaaGreatDoor

/-! What a sign and a version make, the specification's: contracts for the walks; conditions: its numbers lie between 0 and 9999, its texts are a row of the call's own. -/
namespace Go.Proofs.YtlnofdlhjeomfaaGreatDoor
open Go.RowKit
set_option linter.unusedSimpArgs false
set_option linter.unusedVariables false

set_option maxHeartbeats 8000000 in
set_option maxRecDepth 100000 in
theorem mk_eq (lo : Nat) (a b c : Int) (u : Value) (ps : List ByteArray) (t : Int) (ok : Bool) (w : World) (hlo : lo ≤ w.heap.size) (hnum : numsOk a b c) (ht : t = 1 ∨ t = 2 ∨ t = 3) (h3 : ¬ t = 3) (hu : w.ownsRow lo 9 1 u ps.length (strsV ps)) :
    Calls Tryz.prog 212 #[.string ⟨#[61]⟩, .agg #[.int .i64 a, .int .i64 b, .int .i64 c, u, .int .i64 t, .bool ok]] w fun e w' => ∃ v, e = .returned v ∧ CmpsOwn lo w' v (makeC 0 a b c ps t) ∧ Below w.heap.size w w' := by
  obtain ⟨q, n, cap, hq⟩ : ∃ q n cap, u = .slice q n cap := by rcases hu.2 with ⟨rfl, _⟩ | ⟨g, cap, cur, rfl, _⟩ <;> exact ⟨_, _, _, rfl⟩
  subst hq
  have hWF : Below w.heap.size w (w.alloc (.cells #[.int .i64 a, .int .i64 b, .int .i64 c, .slice q n cap, .int .i64 t, .bool ok] 246)) := (Below.refl _ _).alloc (Nat.le_refl _) _
  have C0 : (w.alloc (.cells #[.int .i64 a, .int .i64 b, .int .i64 c, .slice q n cap, .int .i64 t, .bool ok] 246)).cell? ⟨w.heap.size, 0, none⟩ = some (.int .i64 a) ∧ (w.alloc (.cells #[.int .i64 a, .int .i64 b, .int .i64 c, .slice q n cap, .int .i64 t, .bool ok] 246)).cell? ⟨w.heap.size, 1, none⟩ = some (.int .i64 b) ∧ (w.alloc (.cells #[.int .i64 a, .int .i64 b, .int .i64 c, .slice q n cap, .int .i64 t, .bool ok] 246)).cell? ⟨w.heap.size, 2, none⟩ = some (.int .i64 c) ∧ (w.alloc (.cells #[.int .i64 a, .int .i64 b, .int .i64 c, .slice q n cap, .int .i64 t, .bool ok] 246)).cell? ⟨w.heap.size, 3, none⟩ = some (.slice q n cap) ∧ (w.alloc (.cells #[.int .i64 a, .int .i64 b, .int .i64 c, .slice q n cap, .int .i64 t, .bool ok] 246)).cell? ⟨w.heap.size, 4, none⟩ = some (.int .i64 t) ∧ (w.alloc (.cells #[.int .i64 a, .int .i64 b, .int .i64 c, .slice q n cap, .int .i64 t, .bool ok] 246)).cell? ⟨w.heap.size, 5, none⟩ = some (.bool ok) := by
    have h := vheap_new w (.cells #[.int .i64 a, .int .i64 b, .int .i64 c, .slice q n cap, .int .i64 t, .bool ok] 246)
    exact ⟨vblk_cell h 0, vblk_cell h 1, vblk_cell h 2, vblk_cell h 3, vblk_cell h 4, vblk_cell h 5⟩
  have hs1 : (w.alloc (.cells #[.int .i64 a, .int .i64 b, .int .i64 c, .slice q n cap, .int .i64 t, .bool ok] 246)).heap.size = w.heap.size + 1 := by simp
  have hap : ∀ g (w1 : World) base, w.heap.size ≤ base → w1.ownsRow base 9 1 (.slice (some ⟨g, 0, none⟩) 1 1) 1 (strsV [zeroT]) → Value.ownBlock (.slice q n cap) = Value.ownBlock (.slice (some ⟨g, 0, none⟩) 1 1) → Value.ownBlock (.slice q n cap) = none := fun g w1 base hb og he => by
    cases hk : Value.ownBlock (.slice q n cap) with
    | none => rfl
    | some k =>
      have h1 := (hu.lt k hk).2
      rw [he] at hk
      have h2 := (og.lt k hk).1
      omega
  obtain ⟨WF, hWFd⟩ : ∃ x, x = w.alloc (.cells #[.int .i64 a, .int .i64 b, .int .i64 c, .slice q n cap, .int .i64 t, .bool ok] 246) := ⟨_, rfl⟩
  rw [← hWFd] at hWF C0 hs1
  have KEEP : Hid (∀ w1, Below WF.heap.size WF w1 → w1.cell? ⟨w.heap.size, 0, none⟩ = some (.int .i64 a) ∧ w1.cell? ⟨w.heap.size, 1, none⟩ = some (.int .i64 b) ∧ w1.cell? ⟨w.heap.size, 2, none⟩ = some (.int .i64 c) ∧ w1.cell? ⟨w.heap.size, 3, none⟩ = some (.slice q n cap) ∧ w1.cell? ⟨w.heap.size, 4, none⟩ = some (.int .i64 t) ∧ w1.cell? ⟨w.heap.size, 5, none⟩ = some (.bool ok)) := fun w1 hb => by
    have k : ∀ j, w1.cell? ⟨w.heap.size, j, none⟩ = WF.cell? ⟨w.heap.size, j, none⟩ := fun j => World.cell?_of_block (w := WF) (hb.block w.heap.size (by omega))
    simp only [k]; exact C0
  have hm : min t 2 = t := by omega
  have k3 : (t == 3) = false := by simpa using h3
  have em : makeC 0 a b c ps t = [⟨4, a, b, c, ps⟩, ⟨1, nextA (min t 2) a, nextB (min t 2) b, nextC (min t 2) c, [zeroT]⟩] := by simp [makeC, h3, hm]
  obtain ⟨x, hx⟩ : ∃ x, x = nextA (min t 2) a := ⟨_, rfl⟩
  obtain ⟨y, hy⟩ : ∃ x, x = nextB (min t 2) b := ⟨_, rfl⟩
  obtain ⟨z, hz⟩ : ∃ x, x = nextC (min t 2) c := ⟨_, rfl⟩
  rw [em, ← hx, ← hy, ← hz]
  have HF : Hid (∀ w1, Below WF.heap.size WF w1 → Calls Tryz.prog 231 #[.agg #[.int .i64 a, .int .i64 b, .int .i64 c, .slice q n cap, .int .i64 t, .bool ok]] w1 fun e w' => e = .returned (.agg #[.int .i64 4, .int .i64 a, .int .i64 b, .int .i64 c, .slice q n cap]) ∧ Below w1.heap.size w1 w' ∧ Below WF.heap.size WF w' ∧ w'.cell? ⟨w.heap.size, 0, none⟩ = some (.int .i64 a) ∧ w'.cell? ⟨w.heap.size, 1, none⟩ = some (.int .i64 b) ∧ w'.cell? ⟨w.heap.size, 2, none⟩ = some (.int .i64 c) ∧ w'.cell? ⟨w.heap.size, 3, none⟩ = some (.slice q n cap) ∧ w'.cell? ⟨w.heap.size, 4, none⟩ = some (.int .i64 t) ∧ w'.cell? ⟨w.heap.size, 5, none⟩ = some (.bool ok)) := fun w1 hb => (l4From_c a b c _ t ok w1 ⟨_, _, _, rfl⟩).mono (fun e w' ⟨h1, h2⟩ => ⟨h1, h2, hb.trans (h2.mono hb.size), KEEP.out w' (hb.trans (h2.mono hb.size))⟩)
  have HN : Hid (∀ w1, Below WF.heap.size WF w1 → Calls Tryz.prog 235 #[.agg #[.int .i64 a, .int .i64 b, .int .i64 c, .slice q n cap, .int .i64 t, .bool ok]] w1 fun e w' => e = .returned (.agg #[.int .i64 x, .int .i64 y, .int .i64 z, .slice none 0 0]) ∧ Below w1.heap.size w1 w' ∧ Below WF.heap.size WF w' ∧ w'.cell? ⟨w.heap.size, 0, none⟩ = some (.int .i64 a) ∧ w'.cell? ⟨w.heap.size, 1, none⟩ = some (.int .i64 b) ∧ w'.cell? ⟨w.heap.size, 2, none⟩ = some (.int .i64 c) ∧ w'.cell? ⟨w.heap.size, 3, none⟩ = some (.slice q n cap) ∧ w'.cell? ⟨w.heap.size, 4, none⟩ = some (.int .i64 t) ∧ w'.cell? ⟨w.heap.size, 5, none⟩ = some (.bool ok)) := fun w1 hb => (l4Next_c a b c _ t ok hnum ht w1 ⟨_, _, _, rfl⟩).mono (fun e w' ⟨h1, h2⟩ => ⟨by rw [h1, ← hx, ← hy, ← hz], h2, hb.trans (h2.mono hb.size), KEEP.out w' (hb.trans (h2.mono hb.size))⟩)
  have HB : Hid (∀ w1, Below WF.heap.size WF w1 → Calls Tryz.prog 232 #[.agg #[.int .i64 x, .int .i64 y, .int .i64 z, .slice none 0 0]] w1 fun e w' => ∃ g, e = .returned (.agg #[.int .i64 1, .int .i64 x, .int .i64 y, .int .i64 z, .slice (some ⟨g, 0, none⟩) 1 1]) ∧ w'.ownsRow WF.heap.size 9 1 (.slice (some ⟨g, 0, none⟩) 1 1) 1 (strsV [zeroT]) ∧ Below WF.heap.size WF w' ∧ w'.cell? ⟨w.heap.size, 0, none⟩ = some (.int .i64 a) ∧ w'.cell? ⟨w.heap.size, 1, none⟩ = some (.int .i64 b) ∧ w'.cell? ⟨w.heap.size, 2, none⟩ = some (.int .i64 c) ∧ w'.cell? ⟨w.heap.size, 3, none⟩ = some (.slice q n cap) ∧ w'.cell? ⟨w.heap.size, 4, none⟩ = some (.int .i64 t) ∧ w'.cell? ⟨w.heap.size, 5, none⟩ = some (.bool ok)) := fun w1 hb => (l4Below_c x y z _ w1 ⟨_, _, _, rfl⟩).mono (fun e w' ⟨g, h1, h2, h3⟩ => ⟨g, h1, owns_base h2 hb.size, hb.trans (h3.mono hb.size), KEEP.out w' (hb.trans (h3.mono hb.size))⟩)
  have hd0 : Below WF.heap.size WF WF.drew := (Below.refl _ _).drew
  have D0 := KEEP.out _ hd0
  obtain ⟨d0, d1, d2, d3, d4, d5⟩ := D0
  obtain ⟨c0, c1, c2, c3, c4, c5⟩ := C0
  clear hx hy hz em hnum ht KEEP hm h3
  go_enter Tryz.func212, Tryz.ntmps212
  go_wp2_with fail
  rw [← hWFd]
  clear hWFd
  go_region_with (first
    | (go_at_call 231; refine (HF.out _ ?_).mono ?_; · assumption
       rintro e wF ⟨rfl, bF, BF, ⟨c0, c1, c2, c3, c4, c5⟩⟩)
    | (go_at_call 235; refine (HN.out _ ?_).mono ?_; · assumption
       rintro e wN ⟨rfl, bN, BN, ⟨c0, c1, c2, c3, c4, c5⟩⟩)
    | (go_at_call 232; refine (HB.out _ ?_).mono ?_; · assumption
       rintro e wB ⟨g, rfl, og, BB, ⟨c0, c1, c2, c3, c4, c5⟩⟩))
  all_goals go_wp2_with fail
  all_goals go_ret
  all_goals
    have hx := hWF.trans (BB.mono hWF.size)
    exact ⟨_, rfl, two_own ⟨4, a, b, c, ps⟩ ⟨1, x, y, z, [zeroT]⟩ (by simp) (Nat.le_trans hlo hx.size) (owns_of_below hu hx) (owns_base og (Nat.le_trans hlo hWF.size)) (hap g _ _ hWF.size og), hx.alloc hx.size _⟩

end Go.Proofs.YtlnofdlhjeomfaaGreatDoor

/-! What a sign and a version make, the specification's: contracts for the walks; conditions: its numbers lie between 0 and 9999, its texts are a row of the call's own. -/
namespace Go.Proofs.YtlnofdlhjeomfaaGreatDoor
open Go.RowKit
set_option linter.unusedSimpArgs false
set_option linter.unusedVariables false

set_option maxHeartbeats 8000000 in
set_option maxRecDepth 100000 in
theorem mk_no (lo : Nat) (a b c : Int) (u : Value) (ps : List ByteArray) (t : Int) (ok : Bool) (w : World) (hlo : lo ≤ w.heap.size) (hnum : numsOk a b c) (ht : t = 1 ∨ t = 2 ∨ t = 3) (h3 : ¬ t = 3) (hu : w.ownsRow lo 9 1 u ps.length (strsV ps)) :
    Calls Tryz.prog 212 #[.string ⟨#[]⟩, .agg #[.int .i64 a, .int .i64 b, .int .i64 c, u, .int .i64 t, .bool ok]] w fun e w' => ∃ v, e = .returned v ∧ CmpsOwn lo w' v (makeC 0 a b c ps t) ∧ Below w.heap.size w w' := by
  obtain ⟨q, n, cap, hq⟩ : ∃ q n cap, u = .slice q n cap := by rcases hu.2 with ⟨rfl, _⟩ | ⟨g, cap, cur, rfl, _⟩ <;> exact ⟨_, _, _, rfl⟩
  subst hq
  have hWF : Below w.heap.size w (w.alloc (.cells #[.int .i64 a, .int .i64 b, .int .i64 c, .slice q n cap, .int .i64 t, .bool ok] 246)) := (Below.refl _ _).alloc (Nat.le_refl _) _
  have C0 : (w.alloc (.cells #[.int .i64 a, .int .i64 b, .int .i64 c, .slice q n cap, .int .i64 t, .bool ok] 246)).cell? ⟨w.heap.size, 0, none⟩ = some (.int .i64 a) ∧ (w.alloc (.cells #[.int .i64 a, .int .i64 b, .int .i64 c, .slice q n cap, .int .i64 t, .bool ok] 246)).cell? ⟨w.heap.size, 1, none⟩ = some (.int .i64 b) ∧ (w.alloc (.cells #[.int .i64 a, .int .i64 b, .int .i64 c, .slice q n cap, .int .i64 t, .bool ok] 246)).cell? ⟨w.heap.size, 2, none⟩ = some (.int .i64 c) ∧ (w.alloc (.cells #[.int .i64 a, .int .i64 b, .int .i64 c, .slice q n cap, .int .i64 t, .bool ok] 246)).cell? ⟨w.heap.size, 3, none⟩ = some (.slice q n cap) ∧ (w.alloc (.cells #[.int .i64 a, .int .i64 b, .int .i64 c, .slice q n cap, .int .i64 t, .bool ok] 246)).cell? ⟨w.heap.size, 4, none⟩ = some (.int .i64 t) ∧ (w.alloc (.cells #[.int .i64 a, .int .i64 b, .int .i64 c, .slice q n cap, .int .i64 t, .bool ok] 246)).cell? ⟨w.heap.size, 5, none⟩ = some (.bool ok) := by
    have h := vheap_new w (.cells #[.int .i64 a, .int .i64 b, .int .i64 c, .slice q n cap, .int .i64 t, .bool ok] 246)
    exact ⟨vblk_cell h 0, vblk_cell h 1, vblk_cell h 2, vblk_cell h 3, vblk_cell h 4, vblk_cell h 5⟩
  have hs1 : (w.alloc (.cells #[.int .i64 a, .int .i64 b, .int .i64 c, .slice q n cap, .int .i64 t, .bool ok] 246)).heap.size = w.heap.size + 1 := by simp
  have hap : ∀ g (w1 : World) base, w.heap.size ≤ base → w1.ownsRow base 9 1 (.slice (some ⟨g, 0, none⟩) 1 1) 1 (strsV [zeroT]) → Value.ownBlock (.slice q n cap) = Value.ownBlock (.slice (some ⟨g, 0, none⟩) 1 1) → Value.ownBlock (.slice q n cap) = none := fun g w1 base hb og he => by
    cases hk : Value.ownBlock (.slice q n cap) with
    | none => rfl
    | some k =>
      have h1 := (hu.lt k hk).2
      rw [he] at hk
      have h2 := (og.lt k hk).1
      omega
  obtain ⟨WF, hWFd⟩ : ∃ x, x = w.alloc (.cells #[.int .i64 a, .int .i64 b, .int .i64 c, .slice q n cap, .int .i64 t, .bool ok] 246) := ⟨_, rfl⟩
  rw [← hWFd] at hWF C0 hs1
  have KEEP : Hid (∀ w1, Below WF.heap.size WF w1 → w1.cell? ⟨w.heap.size, 0, none⟩ = some (.int .i64 a) ∧ w1.cell? ⟨w.heap.size, 1, none⟩ = some (.int .i64 b) ∧ w1.cell? ⟨w.heap.size, 2, none⟩ = some (.int .i64 c) ∧ w1.cell? ⟨w.heap.size, 3, none⟩ = some (.slice q n cap) ∧ w1.cell? ⟨w.heap.size, 4, none⟩ = some (.int .i64 t) ∧ w1.cell? ⟨w.heap.size, 5, none⟩ = some (.bool ok)) := fun w1 hb => by
    have k : ∀ j, w1.cell? ⟨w.heap.size, j, none⟩ = WF.cell? ⟨w.heap.size, j, none⟩ := fun j => World.cell?_of_block (w := WF) (hb.block w.heap.size (by omega))
    simp only [k]; exact C0
  have hm : min t 2 = t := by omega
  have k3 : (t == 3) = false := by simpa using h3
  have em : makeC 0 a b c ps t = [⟨4, a, b, c, ps⟩, ⟨1, nextA (min t 2) a, nextB (min t 2) b, nextC (min t 2) c, [zeroT]⟩] := by simp [makeC, h3, hm]
  obtain ⟨x, hx⟩ : ∃ x, x = nextA (min t 2) a := ⟨_, rfl⟩
  obtain ⟨y, hy⟩ : ∃ x, x = nextB (min t 2) b := ⟨_, rfl⟩
  obtain ⟨z, hz⟩ : ∃ x, x = nextC (min t 2) c := ⟨_, rfl⟩
  rw [em, ← hx, ← hy, ← hz]
  have HF : Hid (∀ w1, Below WF.heap.size WF w1 → Calls Tryz.prog 231 #[.agg #[.int .i64 a, .int .i64 b, .int .i64 c, .slice q n cap, .int .i64 t, .bool ok]] w1 fun e w' => e = .returned (.agg #[.int .i64 4, .int .i64 a, .int .i64 b, .int .i64 c, .slice q n cap]) ∧ Below w1.heap.size w1 w' ∧ Below WF.heap.size WF w' ∧ w'.cell? ⟨w.heap.size, 0, none⟩ = some (.int .i64 a) ∧ w'.cell? ⟨w.heap.size, 1, none⟩ = some (.int .i64 b) ∧ w'.cell? ⟨w.heap.size, 2, none⟩ = some (.int .i64 c) ∧ w'.cell? ⟨w.heap.size, 3, none⟩ = some (.slice q n cap) ∧ w'.cell? ⟨w.heap.size, 4, none⟩ = some (.int .i64 t) ∧ w'.cell? ⟨w.heap.size, 5, none⟩ = some (.bool ok)) := fun w1 hb => (l4From_c a b c _ t ok w1 ⟨_, _, _, rfl⟩).mono (fun e w' ⟨h1, h2⟩ => ⟨h1, h2, hb.trans (h2.mono hb.size), KEEP.out w' (hb.trans (h2.mono hb.size))⟩)
  have HN : Hid (∀ w1, Below WF.heap.size WF w1 → Calls Tryz.prog 235 #[.agg #[.int .i64 a, .int .i64 b, .int .i64 c, .slice q n cap, .int .i64 t, .bool ok]] w1 fun e w' => e = .returned (.agg #[.int .i64 x, .int .i64 y, .int .i64 z, .slice none 0 0]) ∧ Below w1.heap.size w1 w' ∧ Below WF.heap.size WF w' ∧ w'.cell? ⟨w.heap.size, 0, none⟩ = some (.int .i64 a) ∧ w'.cell? ⟨w.heap.size, 1, none⟩ = some (.int .i64 b) ∧ w'.cell? ⟨w.heap.size, 2, none⟩ = some (.int .i64 c) ∧ w'.cell? ⟨w.heap.size, 3, none⟩ = some (.slice q n cap) ∧ w'.cell? ⟨w.heap.size, 4, none⟩ = some (.int .i64 t) ∧ w'.cell? ⟨w.heap.size, 5, none⟩ = some (.bool ok)) := fun w1 hb => (l4Next_c a b c _ t ok hnum ht w1 ⟨_, _, _, rfl⟩).mono (fun e w' ⟨h1, h2⟩ => ⟨by rw [h1, ← hx, ← hy, ← hz], h2, hb.trans (h2.mono hb.size), KEEP.out w' (hb.trans (h2.mono hb.size))⟩)
  have HB : Hid (∀ w1, Below WF.heap.size WF w1 → Calls Tryz.prog 232 #[.agg #[.int .i64 x, .int .i64 y, .int .i64 z, .slice none 0 0]] w1 fun e w' => ∃ g, e = .returned (.agg #[.int .i64 1, .int .i64 x, .int .i64 y, .int .i64 z, .slice (some ⟨g, 0, none⟩) 1 1]) ∧ w'.ownsRow WF.heap.size 9 1 (.slice (some ⟨g, 0, none⟩) 1 1) 1 (strsV [zeroT]) ∧ Below WF.heap.size WF w' ∧ w'.cell? ⟨w.heap.size, 0, none⟩ = some (.int .i64 a) ∧ w'.cell? ⟨w.heap.size, 1, none⟩ = some (.int .i64 b) ∧ w'.cell? ⟨w.heap.size, 2, none⟩ = some (.int .i64 c) ∧ w'.cell? ⟨w.heap.size, 3, none⟩ = some (.slice q n cap) ∧ w'.cell? ⟨w.heap.size, 4, none⟩ = some (.int .i64 t) ∧ w'.cell? ⟨w.heap.size, 5, none⟩ = some (.bool ok)) := fun w1 hb => (l4Below_c x y z _ w1 ⟨_, _, _, rfl⟩).mono (fun e w' ⟨g, h1, h2, h3⟩ => ⟨g, h1, owns_base h2 hb.size, hb.trans (h3.mono hb.size), KEEP.out w' (hb.trans (h3.mono hb.size))⟩)
  have hd0 : Below WF.heap.size WF WF.drew := (Below.refl _ _).drew
  have D0 := KEEP.out _ hd0
  obtain ⟨d0, d1, d2, d3, d4, d5⟩ := D0
  obtain ⟨c0, c1, c2, c3, c4, c5⟩ := C0
  clear hx hy hz em hnum ht KEEP hm h3
  go_enter Tryz.func212, Tryz.ntmps212
  go_wp2_with fail
  rw [← hWFd]
  clear hWFd
  go_region_with (first
    | (go_at_call 231; refine (HF.out _ ?_).mono ?_; · assumption
       rintro e wF ⟨rfl, bF, BF, ⟨c0, c1, c2, c3, c4, c5⟩⟩)
    | (go_at_call 235; refine (HN.out _ ?_).mono ?_; · assumption
       rintro e wN ⟨rfl, bN, BN, ⟨c0, c1, c2, c3, c4, c5⟩⟩)
    | (go_at_call 232; refine (HB.out _ ?_).mono ?_; · assumption
       rintro e wB ⟨g, rfl, og, BB, ⟨c0, c1, c2, c3, c4, c5⟩⟩))
  all_goals go_wp2_with fail
  all_goals go_ret
  all_goals
    have hx := hWF.trans (BB.mono hWF.size)
    exact ⟨_, rfl, two_own ⟨4, a, b, c, ps⟩ ⟨1, x, y, z, [zeroT]⟩ (by simp) (Nat.le_trans hlo hx.size) (owns_of_below hu hx) (owns_base og (Nat.le_trans hlo hWF.size)) (hap g _ _ hWF.size og), hx.alloc hx.size _⟩

set_option maxHeartbeats 8000000 in
set_option maxRecDepth 100000 in
theorem mk_tilde (lo : Nat) (a b c : Int) (u : Value) (ps : List ByteArray) (t : Int) (ok : Bool) (w : World) (hlo : lo ≤ w.heap.size) (hnum : numsOk a b c) (ht : t = 1 ∨ t = 2 ∨ t = 3) (hu : w.ownsRow lo 9 1 u ps.length (strsV ps)) :
    Calls Tryz.prog 212 #[.string ⟨#[126]⟩, .agg #[.int .i64 a, .int .i64 b, .int .i64 c, u, .int .i64 t, .bool ok]] w fun e w' => ∃ v, e = .returned v ∧ CmpsOwn lo w' v (makeC 5 a b c ps t) ∧ Below w.heap.size w w' := by
  obtain ⟨q, n, cap, hq⟩ : ∃ q n cap, u = .slice q n cap := by rcases hu.2 with ⟨rfl, _⟩ | ⟨g, cap, cur, rfl, _⟩ <;> exact ⟨_, _, _, rfl⟩
  subst hq
  have hWF : Below w.heap.size w (w.alloc (.cells #[.int .i64 a, .int .i64 b, .int .i64 c, .slice q n cap, .int .i64 t, .bool ok] 246)) := (Below.refl _ _).alloc (Nat.le_refl _) _
  have C0 : (w.alloc (.cells #[.int .i64 a, .int .i64 b, .int .i64 c, .slice q n cap, .int .i64 t, .bool ok] 246)).cell? ⟨w.heap.size, 0, none⟩ = some (.int .i64 a) ∧ (w.alloc (.cells #[.int .i64 a, .int .i64 b, .int .i64 c, .slice q n cap, .int .i64 t, .bool ok] 246)).cell? ⟨w.heap.size, 1, none⟩ = some (.int .i64 b) ∧ (w.alloc (.cells #[.int .i64 a, .int .i64 b, .int .i64 c, .slice q n cap, .int .i64 t, .bool ok] 246)).cell? ⟨w.heap.size, 2, none⟩ = some (.int .i64 c) ∧ (w.alloc (.cells #[.int .i64 a, .int .i64 b, .int .i64 c, .slice q n cap, .int .i64 t, .bool ok] 246)).cell? ⟨w.heap.size, 3, none⟩ = some (.slice q n cap) ∧ (w.alloc (.cells #[.int .i64 a, .int .i64 b, .int .i64 c, .slice q n cap, .int .i64 t, .bool ok] 246)).cell? ⟨w.heap.size, 4, none⟩ = some (.int .i64 t) ∧ (w.alloc (.cells #[.int .i64 a, .int .i64 b, .int .i64 c, .slice q n cap, .int .i64 t, .bool ok] 246)).cell? ⟨w.heap.size, 5, none⟩ = some (.bool ok) := by
    have h := vheap_new w (.cells #[.int .i64 a, .int .i64 b, .int .i64 c, .slice q n cap, .int .i64 t, .bool ok] 246)
    exact ⟨vblk_cell h 0, vblk_cell h 1, vblk_cell h 2, vblk_cell h 3, vblk_cell h 4, vblk_cell h 5⟩
  have hs1 : (w.alloc (.cells #[.int .i64 a, .int .i64 b, .int .i64 c, .slice q n cap, .int .i64 t, .bool ok] 246)).heap.size = w.heap.size + 1 := by simp
  have hap : ∀ g (w1 : World) base, w.heap.size ≤ base → w1.ownsRow base 9 1 (.slice (some ⟨g, 0, none⟩) 1 1) 1 (strsV [zeroT]) → Value.ownBlock (.slice q n cap) = Value.ownBlock (.slice (some ⟨g, 0, none⟩) 1 1) → Value.ownBlock (.slice q n cap) = none := fun g w1 base hb og he => by
    cases hk : Value.ownBlock (.slice q n cap) with
    | none => rfl
    | some k =>
      have h1 := (hu.lt k hk).2
      rw [he] at hk
      have h2 := (og.lt k hk).1
      omega
  obtain ⟨WF, hWFd⟩ : ∃ x, x = w.alloc (.cells #[.int .i64 a, .int .i64 b, .int .i64 c, .slice q n cap, .int .i64 t, .bool ok] 246) := ⟨_, rfl⟩
  rw [← hWFd] at hWF C0 hs1
  have KEEP : Hid (∀ w1, Below WF.heap.size WF w1 → w1.cell? ⟨w.heap.size, 0, none⟩ = some (.int .i64 a) ∧ w1.cell? ⟨w.heap.size, 1, none⟩ = some (.int .i64 b) ∧ w1.cell? ⟨w.heap.size, 2, none⟩ = some (.int .i64 c) ∧ w1.cell? ⟨w.heap.size, 3, none⟩ = some (.slice q n cap) ∧ w1.cell? ⟨w.heap.size, 4, none⟩ = some (.int .i64 t) ∧ w1.cell? ⟨w.heap.size, 5, none⟩ = some (.bool ok)) := fun w1 hb => by
    have k : ∀ j, w1.cell? ⟨w.heap.size, j, none⟩ = WF.cell? ⟨w.heap.size, j, none⟩ := fun j => World.cell?_of_block (w := WF) (hb.block w.heap.size (by omega))
    simp only [k]; exact C0
  have em : makeC 5 a b c ps t = [⟨4, a, b, c, ps⟩, ⟨1, nextA (min t 2) a, nextB (min t 2) b, nextC (min t 2) c, [zeroT]⟩] := by rfl
  obtain ⟨x, hx⟩ : ∃ x, x = nextA (min t 2) a := ⟨_, rfl⟩
  obtain ⟨y, hy⟩ : ∃ x, x = nextB (min t 2) b := ⟨_, rfl⟩
  obtain ⟨z, hz⟩ : ∃ x, x = nextC (min t 2) c := ⟨_, rfl⟩
  rw [em, ← hx, ← hy, ← hz]
  have HF : Hid (∀ w1, Below WF.heap.size WF w1 → Calls Tryz.prog 231 #[.agg #[.int .i64 a, .int .i64 b, .int .i64 c, .slice q n cap, .int .i64 t, .bool ok]] w1 fun e w' => e = .returned (.agg #[.int .i64 4, .int .i64 a, .int .i64 b, .int .i64 c, .slice q n cap]) ∧ Below w1.heap.size w1 w' ∧ Below WF.heap.size WF w' ∧ w'.cell? ⟨w.heap.size, 0, none⟩ = some (.int .i64 a) ∧ w'.cell? ⟨w.heap.size, 1, none⟩ = some (.int .i64 b) ∧ w'.cell? ⟨w.heap.size, 2, none⟩ = some (.int .i64 c) ∧ w'.cell? ⟨w.heap.size, 3, none⟩ = some (.slice q n cap) ∧ w'.cell? ⟨w.heap.size, 4, none⟩ = some (.int .i64 t) ∧ w'.cell? ⟨w.heap.size, 5, none⟩ = some (.bool ok)) := fun w1 hb => (l4From_c a b c _ t ok w1 ⟨_, _, _, rfl⟩).mono (fun e w' ⟨h1, h2⟩ => ⟨h1, h2, hb.trans (h2.mono hb.size), KEEP.out w' (hb.trans (h2.mono hb.size))⟩)
  have HN : Hid (∀ w1, Below WF.heap.size WF w1 → Calls Tryz.prog 234 #[.agg #[.int .i64 a, .int .i64 b, .int .i64 c, .slice q n cap, .int .i64 t, .bool ok]] w1 fun e w' => e = .returned (.agg #[.int .i64 x, .int .i64 y, .int .i64 z, .slice none 0 0]) ∧ Below w1.heap.size w1 w' ∧ Below WF.heap.size WF w' ∧ w'.cell? ⟨w.heap.size, 0, none⟩ = some (.int .i64 a) ∧ w'.cell? ⟨w.heap.size, 1, none⟩ = some (.int .i64 b) ∧ w'.cell? ⟨w.heap.size, 2, none⟩ = some (.int .i64 c) ∧ w'.cell? ⟨w.heap.size, 3, none⟩ = some (.slice q n cap) ∧ w'.cell? ⟨w.heap.size, 4, none⟩ = some (.int .i64 t) ∧ w'.cell? ⟨w.heap.size, 5, none⟩ = some (.bool ok)) := fun w1 hb => (l4Tilde_c a b c _ t ok hnum ht w1 ⟨_, _, _, rfl⟩).mono (fun e w' ⟨h1, h2⟩ => ⟨by rw [h1, ← hx, ← hy, ← hz], h2, hb.trans (h2.mono hb.size), KEEP.out w' (hb.trans (h2.mono hb.size))⟩)
  have HB : Hid (∀ w1, Below WF.heap.size WF w1 → Calls Tryz.prog 232 #[.agg #[.int .i64 x, .int .i64 y, .int .i64 z, .slice none 0 0]] w1 fun e w' => ∃ g, e = .returned (.agg #[.int .i64 1, .int .i64 x, .int .i64 y, .int .i64 z, .slice (some ⟨g, 0, none⟩) 1 1]) ∧ w'.ownsRow WF.heap.size 9 1 (.slice (some ⟨g, 0, none⟩) 1 1) 1 (strsV [zeroT]) ∧ Below WF.heap.size WF w' ∧ w'.cell? ⟨w.heap.size, 0, none⟩ = some (.int .i64 a) ∧ w'.cell? ⟨w.heap.size, 1, none⟩ = some (.int .i64 b) ∧ w'.cell? ⟨w.heap.size, 2, none⟩ = some (.int .i64 c) ∧ w'.cell? ⟨w.heap.size, 3, none⟩ = some (.slice q n cap) ∧ w'.cell? ⟨w.heap.size, 4, none⟩ = some (.int .i64 t) ∧ w'.cell? ⟨w.heap.size, 5, none⟩ = some (.bool ok)) := fun w1 hb => (l4Below_c x y z _ w1 ⟨_, _, _, rfl⟩).mono (fun e w' ⟨g, h1, h2, h3⟩ => ⟨g, h1, owns_base h2 hb.size, hb.trans (h3.mono hb.size), KEEP.out w' (hb.trans (h3.mono hb.size))⟩)
  have hd0 : Below WF.heap.size WF WF.drew := (Below.refl _ _).drew
  have D0 := KEEP.out _ hd0
  obtain ⟨d0, d1, d2, d3, d4, d5⟩ := D0
  obtain ⟨c0, c1, c2, c3, c4, c5⟩ := C0
  clear hx hy hz em hnum ht KEEP
  go_enter Tryz.func212, Tryz.ntmps212
  go_wp2_with fail
  rw [← hWFd]
  clear hWFd
  go_region_with (first
    | (go_at_call 231; refine (HF.out _ ?_).mono ?_; · assumption
       rintro e wF ⟨rfl, bF, BF, ⟨c0, c1, c2, c3, c4, c5⟩⟩)
    | (go_at_call 234; refine (HN.out _ ?_).mono ?_; · assumption
       rintro e wN ⟨rfl, bN, BN, ⟨c0, c1, c2, c3, c4, c5⟩⟩)
    | (go_at_call 232; refine (HB.out _ ?_).mono ?_; · assumption
       rintro e wB ⟨g, rfl, og, BB, ⟨c0, c1, c2, c3, c4, c5⟩⟩))
  all_goals go_wp2_with fail
  all_goals go_ret
  all_goals
    have hx := hWF.trans (BB.mono hWF.size)
    exact ⟨_, rfl, two_own ⟨4, a, b, c, ps⟩ ⟨1, x, y, z, [zeroT]⟩ (by simp) (Nat.le_trans hlo hx.size) (owns_of_below hu hx) (owns_base og (Nat.le_trans hlo hWF.size)) (hap g _ _ hWF.size og), hx.alloc hx.size _⟩

end Go.Proofs.YtlnofdlhjeomfaaGreatDoor

/-! What a sign and a version make, all signs; are all versions of a list right: contracts for the walks, the specification's; conditions: as the parts' own, at most 2 to the 20 bytes. -/
namespace Go.Proofs.YtlnofdlhjeomfaaGreatDoor
open Go.RowKit
set_option linter.unusedSimpArgs false
set_option linter.unusedVariables false

/-- The signs in the specification's order, and the program's number of each. -/
def signsS : List ByteArray := [⟨#[94]⟩, ⟨#[126]⟩, ⟨#[62, 61]⟩, ⟨#[62]⟩, ⟨#[60, 61]⟩, ⟨#[60]⟩, ⟨#[61]⟩, ⟨#[]⟩]
def numsS : List Int := [6, 5, 4, 3, 2, 1, 0, 0]

theorem l4Make_c (i : Nat) (hi : i < 8) (lo : Nat) (a b c : Int) (u : Value) (ps : List ByteArray) (t : Int) (ok : Bool) (w : World) (hlo : lo ≤ w.heap.size) (hnum : numsOk a b c) (ht : t = 1 ∨ t = 2 ∨ t = 3) (hu : w.ownsRow lo 9 1 u ps.length (strsV ps)) :
    Calls Tryz.prog 212 #[.string (signsS.getD i ⟨#[]⟩), .agg #[.int .i64 a, .int .i64 b, .int .i64 c, u, .int .i64 t, .bool ok]] w fun e w' => ∃ v, e = .returned v ∧ CmpsOwn lo w' v (makeC (numsS.getD i 0) a b c ps t) ∧ Below w.heap.size w w' := by
  have h : i = 0 ∨ i = 1 ∨ i = 2 ∨ i = 3 ∨ i = 4 ∨ i = 5 ∨ i = 6 ∨ i = 7 := by omega
  by_cases h3 : t = 3
  · rcases h with rfl | rfl | rfl | rfl | rfl | rfl | rfl | rfl
    · exact mk_caret lo a b c u ps t ok w hlo hnum ht hu
    · exact mk_tilde lo a b c u ps t ok w hlo hnum ht hu
    · exact mk_ge lo a b c u ps t ok w hlo hnum ht hu
    · exact mk_gt3 lo a b c u ps t ok w hlo hnum ht h3 hu
    · exact mk_le3 lo a b c u ps t ok w hlo hnum ht h3 hu
    · exact mk_lt lo a b c u ps t ok w hlo hnum ht hu
    · exact mk_eq3 lo a b c u ps t ok w hlo hnum ht h3 hu
    · exact mk_no3 lo a b c u ps t ok w hlo hnum ht h3 hu
  · rcases h with rfl | rfl | rfl | rfl | rfl | rfl | rfl | rfl
    · exact mk_caret lo a b c u ps t ok w hlo hnum ht hu
    · exact mk_tilde lo a b c u ps t ok w hlo hnum ht hu
    · exact mk_ge lo a b c u ps t ok w hlo hnum ht hu
    · exact mk_gt lo a b c u ps t ok w hlo hnum ht h3 hu
    · exact mk_le lo a b c u ps t ok w hlo hnum ht h3 hu
    · exact mk_lt lo a b c u ps t ok w hlo hnum ht hu
    · exact mk_eq lo a b c u ps t ok w hlo hnum ht h3 hu
    · exact mk_no lo a b c u ps t ok w hlo hnum ht h3 hu

set_option maxHeartbeats 1000000 in
set_option maxRecDepth 100000 in
theorem l4Good_c (lo : Nat) (v : Value) (ds : List CmpD) (w : World) (hv : CmpsOwn lo w v ds) (hl : ds.length ≤ 1048576) (hb : ∀ d ∈ ds, bulkS d.ps ≤ 1048576) :
    Calls Tryz.prog 163 #[v] w fun e w' => e = .returned (.bool (ds.all goodD)) ∧ Below w.heap.size w w' := by
  obtain ⟨q, cap, us, rfl, ha, hr⟩ := hv.at
  clear hv
  go_enter Tryz.func163, Tryz.ntmps163
  go_wp2_with fail
  go_loopw [3] (fun vi wr => ∃ k : Nat, k ≤ ds.length ∧ vi = .int .i64 (k : Int) ∧ Hid ((ds.take k).all goodD = true) ∧ Below w.heap.size w wr) (fun vi _ => ds.length - (intOf vi).toNat)
  case atStart => exact ⟨0, Nat.zero_le _, rfl, (by show _ = _; simp), Below.refl _ _⟩
  case round =>
    obtain ⟨k, hk, rfl, hall, hbr⟩ := hrel
    by_cases hlt : k < ds.length
    · rcases ha with rfl | ⟨g, rfl, _, hg, ha⟩
      · simp at hlt
      obtain ⟨e0, e1, e2, e3, e4⟩ := ha k hlt
      rw [← hbr.cell (by simpa using hg)] at e0 e1 e2 e3 e4
      have hu := (hr k hlt).below hbr
      have hbk := hb _ (List.getElem_mem hlt)
      have HT : Hid (goodD ds[k] = true → (ds.take (k + 1)).all goodD = true) := fun h => by rw [List.take_succ_eq_append_getElem hlt, List.all_append, hall.out]; simp [h]
      have HF : Hid (goodD ds[k] = false → ds.all goodD = false) := fun h => by rw [List.all_eq_false]; exact ⟨_, List.getElem_mem hlt, by simp [h]⟩
      obtain ⟨d, hd⟩ : ∃ d, d = ds[k] := ⟨_, rfl⟩
      rw [← hd] at e0 e1 e2 e3 hu hbk HT HF
      obtain ⟨u, hu0⟩ : ∃ u, u = us k := ⟨_, rfl⟩
      rw [← hu0] at e4 hu
      obtain ⟨r, hr0⟩ : ∃ r, r = goodD d := ⟨_, rfl⟩
      have HC : Hid (Calls Tryz.prog 187 #[.agg #[.int .i64 d.a, .int .i64 d.b, .int .i64 d.c, u]] wr fun e w' => e = .returned (.bool r) ∧ Below wr.heap.size wr w') := by rw [hr0]; exact specVerOk_c _ _ _ _ d.ps wr hu hbk
      rw [← hr0] at HT HF
      obtain ⟨uq, ucap, hu2, _, _⟩ := reads_strs hu
      subst hu2
      have hki : (k : Int) < (ds.length : Int) := by omega
      clear ha hr hd hu0 hr0 hu hbk hb
      cases r with
      | false =>
        have HF2 : Hid (ds.all goodD = false) := HF.out rfl
        clear HT HF
        go_wp2_with (go_at_call 187; refine HC.out.mono ?_; rintro e w1 ⟨rfl, b1⟩)
        go_ret
        exact ⟨by rw [HF2.out]; rfl, hbr.trans (b1.mono hbr.size)⟩
      | true =>
        have HT2 : Hid ((ds.take (k + 1)).all goodD = true) := HT.out rfl
        clear HT HF
        go_wp2_with (go_at_call 187; refine HC.out.mono ?_; rintro e w1 ⟨rfl, b1⟩)
        go_roundw
        case rel => exact ⟨k + 1, by omega, by go_num, HT2, hbr.trans (b1.mono hbr.size)⟩
        case measure => simp [intOf]; omega
    · have he : k = ds.length := by omega
      subst he
      have HE : Hid (ds.all goodD = true) := by have := hall.out; rw [List.take_length] at this; exact this
      clear ha hr hall
      go_wp2_with fail
      go_ret
      exact ⟨by rw [HE.out]; rfl, hbr⟩

end Go.Proofs.YtlnofdlhjeomfaaGreatDoor
