/-
  Contracts for the walks, several texts in one: each part says what it proves, and under which conditions.
-/
import Derived.Deep.RegionHeld
import Derived.Laws.BitsAllLaws
import Derived.Lib.AppendStr
import Derived.Deep.DeepMust
import Derived.Deep.RegionLaw
import Derived.Deep.AppendLies
import Derived.Deep.DrawnRows
import Derived.Deep.DeepCutAuto
import Derived.Laws.AppendOwnNone
import Derived.Test.YtlfmefojcmpfeaaGreatDoorQ2
import Derived.Test.YtlfmefojcmpfeaaGreatDoorQ11
import Derived.Test.YtlfmefojcmpfeaaGreatDoorQ10
import Derived.Test.YtlfmefojcmpfeaaGreatDoorQ1
import Derived.Test.YtlfmefojcmpfeaaGreatDoorQ7

/-! Rows of texts: whether they ascend, whether one is among them, whether one is no name or not plain, as the program asks it: contracts for the walks; conditions: the rows lie in memory. -/
namespace Go.Proofs.YtlfmefojcmpfeaaGreatDoor
open Go.RowKit
set_option linter.unusedSimpArgs false
set_option linter.unusedVariables false

theorem text_alike (a b : ByteArray) : (a.toList == b.toList) = decide (a = b) := by
  by_cases h : a = b
  · subst h; simp
  · rw [decide_eq_false h]
    cases hh : (a.toList == b.toList) with
    | false => rfl
    | true => exact absurd (bytes_eq_of_toList (by simpa using hh)) h
end Go.Proofs.YtlfmefojcmpfeaaGreatDoor

/-! Whether needs, commands and packs are right, as the program asks it: contracts for the walks; conditions: they lie in memory, hold at most 2 to the 20, and the table of signs holds what it is laid with. -/
namespace Go.Proofs.YtlfmefojcmpfeaaGreatDoor
open Go.RowKit
set_option linter.unusedSimpArgs false
set_option linter.unusedVariables false

/-- The tables that reading a range leans on. -/
def Tabs (w : World) : Prop := ∃ m : Int, w.cell? ⟨2, 0, none⟩ = some (.int .i64 m) ∧ ∀ k (h : k < signsT.length), w.cell? ⟨1, k, none⟩ = some (.string signsT[k])
theorem Tabs.below {w w' : World} (h : Tabs w) (hb : Below w.heap.size w w') : Tabs w' := by
  obtain ⟨m, h1, h2⟩ := h
  exact ⟨m, (hb.cell (by simpa using World.block_lt_of_cell? w _ h1)).trans h1, fun k hk => (hb.cell (by simpa using World.block_lt_of_cell? w _ (h2 k hk))).trans (h2 k hk)⟩
theorem below_next {w w1 w2 : World} (h : Below w.heap.size w w1) (h2 : Below w1.heap.size w1 w2) : Below w.heap.size w w2 := h.trans (h2.mono h.size)

set_option maxHeartbeats 2000000 in
set_option maxRecDepth 100000 in
theorem wrongNeed_c (S : Nat → Prop) (d : NeedD) (cs : List Value) (w : World) (hd : shNeed.lies S w cs d) (hr : d.r.size ≤ 1048576) (hT : Tabs w) :
    Calls Tryz.prog 101 #[.agg cs.toArray] w fun e w' => e = .returned (.bool (!needB d)) ∧ Below w.heap.size w w' := by
  obtain ⟨rfl, s_n, s_r⟩ := hd
  have hbx : ∀ o, Below w.heap.size w (w.alloc o) := fun o => (Below.refl _ _).alloc (Nat.le_refl _) _
  have HN := fun w1 => implName_c d.n s_n w1
  have HR : ∀ w1, Below w.heap.size w w1 → Calls Tryz.prog 87 #[.string d.r] w1 fun e w' => ∃ v, e = .returned (.tuple #[v, .bool (rangeI d.r).isSome]) ∧ Below w1.heap.size w1 w' := fun w1 h => by
    obtain ⟨m, h1, h2⟩ := hT.below h
    exact (implRange_c d.r hr m w1 h1 h2).mono fun e w' ⟨v, a, _, b⟩ => ⟨v, a, b⟩
  unfold needB
  obtain ⟨p, hp⟩ : ∃ p, p = nameB d.n := ⟨_, rfl⟩
  obtain ⟨q, hq⟩ : ∃ q, q = (rangeI d.r).isSome := ⟨_, rfl⟩
  simp only [← hp] at HN ⊢
  simp only [← hq] at HR ⊢
  replace HN := hidden HN
  replace HR := hidden HR
  unfold maxLen at s_n s_r
  clear hp hq hT
  cases p with
  | false =>
    go_enter Tryz.func101, Tryz.ntmps101
    go_wp2_with (go_at_call 171; refine (HN.out _).mono ?_; rintro e w' ⟨rfl, rfl⟩)
    go_ret
    exact ⟨rfl, hbx _⟩
  | true =>
    by_cases hz : 20 < d.r.size
    · have hz' : (20 : Int) < (d.r.size : Int) := by omega
      have hz2 : decide (d.r.size ≤ 20) = false := decide_eq_false (by omega)
      rw [hz2]
      clear hz2
      go_enter Tryz.func101, Tryz.ntmps101
      go_wp2_with (go_at_call 171; refine (HN.out _).mono ?_; rintro e w' ⟨rfl, rfl⟩)
      go_ret
      exact ⟨rfl, hbx _⟩
    · have hz' : ¬ (20 : Int) < (d.r.size : Int) := by omega
      have hz2 : decide (d.r.size ≤ 20) = true := decide_eq_true (by omega)
      rw [hz2]
      clear hz2
      go_enter Tryz.func101, Tryz.ntmps101
      go_wp2_with fail
      go_at_call 171
      refine (HN.out _).mono ?_
      rintro e w' ⟨rfl, rfl⟩
      go_wp2_with fail
      go_at_call 87
      refine (HR.out _ (hbx _)).mono ?_
      rintro e w1 ⟨v, rfl, b1⟩
      go_wp2_with fail
      go_ret
      exact ⟨by cases q <;> rfl, (hbx _).trans (b1.mono (hbx _).size)⟩

set_option maxHeartbeats 2000000 in
set_option maxRecDepth 100000 in
theorem idxNeed_c (S : Nat → Prop) (v : Value) (xs : List NeedD) (w : World) (hv : RowIn shNeed S w v xs) (hB : ∀ b, S b → b < w.heap.size) (hw : ∀ d ∈ xs, d.r.size ≤ 1048576) (hT : Tabs w) :
    Calls Tryz.prog 179 #[v, .func (.func 101) #[] #[]] w fun e w' => e = .returned (.int .i64 (firstI (fun d => !needB d) xs)) ∧ Below w.heap.size w w' := by
  obtain ⟨a, cap, rfl, hl, hc, ha⟩ := hv
  unfold maxLen at hl
  obtain ⟨R, hR⟩ : ∃ R, R = firstI (fun d => !needB d) xs := ⟨_, rfl⟩
  rw [← hR]
  have HR := hidden hR
  clear hR
  go_enter Tryz.func179, Tryz.ntmps179
  go_wp2_with fail
  go_loopw [8] (fun vi wr => ∃ k : Nat, k ≤ xs.length ∧ vi = .int .i64 (k : Int) ∧ Hid (∀ j (hj : j < xs.length), j < k → (fun d => !needB d) xs[j] = false) ∧ Below w.heap.size w wr) (fun vi _ => xs.length - (intOf vi).toNat)
  case atStart => exact ⟨0, Nat.zero_le _, rfl, (fun j hj h => by omega), Below.refl _ _⟩
  case round =>
    obtain ⟨k, hk, rfl, hno, hbr⟩ := hrel
    by_cases hlt' : k < xs.length
    · rcases ha with rfl | ⟨b, off, rfl, hlt, ha⟩
      · simp at hlt'
      obtain ⟨cs, hL, hcell⟩ := ha k hlt'
      have hL2 := shNeed.keep (.of hbr hB) hL
      have hcell2 := hcell.keep (.of hbr hB) hlt
      have hBr : ∀ b, S b → b < wr.heap.size := fun b h => Nat.lt_of_lt_of_le (hB b h) hbr.size
      have HT : Hid ((fun d => !needB d) xs[k] = true → R = (k : Int)) := fun h => HR.out.trans (firstI_here hlt' h hno.out)
      have HN : Hid ((fun d => !needB d) xs[k] = false → ∀ j (hj : j < xs.length), j < k + 1 → (fun d => !needB d) xs[j] = false) := fun h j hj hjk => by
        by_cases e : j = k
        · subst e; exact h
        · exact hno.out j hj (by omega)
      have HC : Calls Tryz.prog 101 #[.agg cs.toArray] wr fun e w' => e = .returned (.bool ((fun d => !needB d) xs[k])) ∧ Below wr.heap.size wr w' := wrongNeed_c S xs[k] cs wr hL2 (hw _ (List.getElem_mem hlt')) (hT.below hbr)
      obtain ⟨d, hd⟩ : ∃ d, d = xs[k] := ⟨_, rfl⟩
      rw [← hd] at hL2 HT HN HC
      obtain ⟨r, hr⟩ : ∃ r, r = (fun d => !needB d) d := ⟨_, rfl⟩
      rw [← hr] at HT HN HC
      clear ha hL hcell hd hr hno
      obtain ⟨rfl, s_n, s_r⟩ := hL2
      have e0 : wr.cell? ⟨b, off + k * 2, none⟩ = some (.string d.n) := hcell2 0 (by simp)
      have e1 : wr.cell? ⟨b, off + k * 2 + 1, none⟩ = some (.string d.r) := hcell2 1 (by simp)
      have HC2 := hidden HC
      have hki : (k : Int) < (xs.length : Int) := by omega
      clear hcell2 HC 
      cases r with
      | true =>
        have HT2 := hidden (HT.out rfl)
        clear HT HN
        go_wp2_with (go_at_call 101; refine HC2.out.mono ?_; rintro e w1 ⟨rfl, b1⟩)
        go_ret
        exact ⟨by rw [HT2.out]; rfl, hbr.trans (b1.mono hbr.size)⟩
      | false =>
        have HN2 := hidden (HN.out rfl)
        clear HT HN
        go_wp2_with (go_at_call 101; refine HC2.out.mono ?_; rintro e w1 ⟨rfl, b1⟩)
        go_roundw
        case rel => exact ⟨k + 1, by omega, by go_num, HN2.out, hbr.trans (b1.mono hbr.size)⟩
        case measure => simp [intOf]; omega
    · have he : k = xs.length := by omega
      subst he
      have HE : Hid (R = -1) := HR.out.trans (firstI_none (fun j hj => hno.out j hj hj))
      clear ha hno HR
      go_wp2_with fail
      go_ret
      exact ⟨by rw [HE.out]; rfl, hbr⟩
set_option maxHeartbeats 1000000 in
theorem anyNeed_c (S : Nat → Prop) (v : Value) (xs : List NeedD) (w : World) (hv : RowIn shNeed S w v xs) (hB : ∀ b, S b → b < w.heap.size) (hw : ∀ d ∈ xs, d.r.size ≤ 1048576) (hT : Tabs w) :
    Calls Tryz.prog 100 #[v, .func (.func 101) #[] #[]] w fun e w' => e = .returned (.bool (xs.any (fun d => !needB d))) ∧ Below w.heap.size w w' := by
  have HF := idxNeed_c S v xs w hv hB hw hT
  have hA := firstI_any (fun d => !needB d) xs
  obtain ⟨R, hR⟩ : ∃ R, R = firstI (fun d => !needB d) xs := ⟨_, rfl⟩
  rw [← hR] at HF hA
  rw [← hA]
  have HF2 := hidden HF
  obtain ⟨a, cap, rfl⟩ := hv.slice
  clear hv hR hA HF
  by_cases h0 : 0 ≤ R
  · rw [decide_eq_true h0]
    go_enter Tryz.func100, Tryz.ntmps100
    go_wp2_with (go_at_call 179; refine HF2.out.mono ?_; rintro e w1 ⟨rfl, b1⟩)
    go_ret
    exact ⟨by first | rfl | simp [h0] | (simp; omega), b1⟩
  · rw [decide_eq_false h0]
    go_enter Tryz.func100, Tryz.ntmps100
    go_wp2_with (go_at_call 179; refine HF2.out.mono ?_; rintro e w1 ⟨rfl, b1⟩)
    go_ret
    exact ⟨by first | rfl | simp [h0] | (simp; omega), b1⟩

set_option maxHeartbeats 2000000 in
set_option maxRecDepth 100000 in
theorem needOk_c (S : Nat → Prop) (v : Value) (xs : List NeedD) (w : World) (hv : RowIn shNeed S w v xs) (hB : ∀ b, S b → b < w.heap.size) (hw : ∀ d ∈ xs, d.r.size ≤ 1048576) (hT : Tabs w) :
    Calls Tryz.prog 172 #[v] w fun e w' => e = .returned (.bool (needsI xs)) ∧ Below w.heap.size w w' := by
  have HA : ∀ w1, Below w.heap.size w w1 → Calls Tryz.prog 100 #[v, .func (.func 101) #[] #[]] w1 fun e w' => e = .returned (.bool (xs.any (fun d => !needB d))) ∧ Below w1.heap.size w1 w' := fun w1 h => anyNeed_c S v xs w1 (hv.keep (.of h hB)) (fun b hb => Nat.lt_of_lt_of_le (hB b hb) h.size) hw (hT.below h)
  have HC : ∀ w1, Below w.heap.size w w1 → Calls Tryz.prog 239 #[v, .func (.func 240) #[] #[]] w1 fun e w' => e = .returned (.bool (ascB (xs.map NeedD.n))) ∧ Below w1.heap.size w1 w' := fun w1 h => ascNeed_c S v xs w1 (hv.keep (.of h hB)) (fun b hb => Nat.lt_of_lt_of_le (hB b hb) h.size)
  unfold needsI
  obtain ⟨p, hp⟩ : ∃ p, p = xs.any (fun d => !needB d) := ⟨_, rfl⟩
  obtain ⟨q, hq⟩ : ∃ q, q = ascB (xs.map NeedD.n) := ⟨_, rfl⟩
  simp only [← hp] at HA ⊢
  simp only [← hq] at HC ⊢
  replace HA := hidden HA
  replace HC := hidden HC
  have hl := hv.len
  obtain ⟨a, cap, rfl⟩ := hv.slice
  unfold maxLen at hl
  clear hv hp hq
  by_cases h4 : 4 < xs.length
  · have h4' : (4 : Int) < (xs.length : Int) := by omega
    rw [decide_eq_true h4]
    go_enter Tryz.func172, Tryz.ntmps172
    go_wp2_with fail
    go_ret
    exact ⟨rfl, Below.refl _ _⟩
  · have h4' : ¬ (4 : Int) < (xs.length : Int) := by omega
    rw [decide_eq_false h4]
    cases p with
    | true =>
      go_enter Tryz.func172, Tryz.ntmps172
      go_wp2_with fail
      go_at_call 100
      refine (HA.out _ (Below.refl _ _)).mono ?_
      rintro e w1 ⟨rfl, b1⟩
      go_wp2_with fail
      go_ret
      exact ⟨rfl, b1⟩
    | false =>
      go_enter Tryz.func172, Tryz.ntmps172
      go_wp2_with fail
      go_at_call 100
      refine (HA.out _ (Below.refl _ _)).mono ?_
      rintro e w1 ⟨rfl, b1⟩
      go_wp2_with fail
      go_at_call 239
      refine (HC.out _ b1).mono ?_
      rintro e w2 ⟨rfl, b2⟩
      go_wp2_with fail
      go_ret
      exact ⟨by cases q <;> rfl, below_next b1 b2⟩

end Go.Proofs.YtlfmefojcmpfeaaGreatDoor

/-! Needs and commands, and rows of them, that are the same are told so by the law's own comparison: contracts for what lies in memory and holds at most 2 to the 20. -/
namespace Go.Proofs.YtlfmefojcmpfeaaGreatDoor
open Go.RowKit
set_option linter.unusedSimpArgs false
set_option linter.unusedVariables false

theorem boxTwo {w w1 : World} {A R : Obj} (hb : Below ((w.alloc A).alloc R).heap.size ((w.alloc A).alloc R) w1) : w1.heap[w.heap.size]? = some A ∧ w1.heap[w.heap.size + 1]? = some R := by
  have s1 : (w.alloc A).heap.size = w.heap.size + 1 := by simp
  refine ⟨?_, ?_⟩
  · rw [hb.block _ (by simp; omega), vheap_old _ _ (by simp), vheap_new]
  · rw [hb.block _ (by simp), ← s1, vheap_new]

set_option maxHeartbeats 2000000 in
set_option maxRecDepth 100000 in
theorem eqNeed_c (S S' : Nat → Prop) (d : NeedD) (cs cs' : List Value) (w : World) (hd : shNeed.lies S w cs d) (hd' : shNeed.lies S' w cs' d) (hB : ∀ b, S b → b < w.heap.size) (hB' : ∀ b, S' b → b < w.heap.size) (hw : wtNeed d ≤ 1048576) :
    Calls Tryz.prog 140 #[.agg cs.toArray, .agg cs'.toArray] w fun e w' => e = .returned (.bool true) ∧ Below w.heap.size w w' := by
  obtain ⟨rfl, xs_n, xs_r⟩ := hd
  obtain ⟨rfl, ys_n, ys_r⟩ := hd'
  have hb2 : ∀ A R, Below w.heap.size w ((w.alloc A).alloc R) := fun A R => ((Below.refl _ _).alloc (Nat.le_refl _) _).alloc (by simp) _
  unfold wtNeed at hw
  go_enter Tryz.func140, Tryz.ntmps140
  go_wp2_with fail
  go_ret
  exact ⟨rfl, (hb2 _ _)⟩

set_option maxHeartbeats 2000000 in
set_option maxRecDepth 100000 in
theorem eqNeedS_c (S S' : Nat → Prop) (v u : Value) (xs : List NeedD) (w : World) (hv : RowIn shNeed S w v xs) (hv' : RowIn shNeed S' w u xs) (hB : ∀ b, S b → b < w.heap.size) (hB' : ∀ b, S' b → b < w.heap.size) (hw : wtRow wtNeed xs ≤ 1048576) :
    Calls Tryz.prog 61 #[v, u] w fun e w' => e = .returned (.bool true) ∧ Below w.heap.size w w' := by
  obtain ⟨a, cap, rfl, hl, hc, ha⟩ := hv
  obtain ⟨a', cap', rfl, _, hc', ha'⟩ := hv'
  unfold maxLen at hl
  go_enter Tryz.func61, Tryz.ntmps61
  go_wp2_with fail
  go_loopw [5] (fun vi wr => ∃ k : Nat, k ≤ xs.length ∧ vi = .int .i64 (k : Int) ∧ Below w.heap.size w wr) (fun vi _ => xs.length - (intOf vi).toNat)
  case atStart => exact ⟨0, Nat.zero_le _, rfl, Below.refl _ _⟩
  case round =>
    obtain ⟨k, hk, rfl, hbr⟩ := hrel
    by_cases hlt' : k < xs.length
    · rcases ha with rfl | ⟨b, off, rfl, hlt, ha⟩
      · simp at hlt'
      rcases ha' with rfl | ⟨b', off', rfl, hlt3, ha'⟩
      · simp at hlt'
      obtain ⟨cs, hL, hcell⟩ := ha k hlt'
      obtain ⟨cs', hL', hcell'⟩ := ha' k hlt'
      have hwt : wtNeed xs[k] ≤ 1048576 := by have := wt_wtRow wtNeed (List.getElem_mem hlt'); omega
      have HC := eqNeed_c S S' xs[k] cs cs' wr.drew (shNeed.keep (.of hbr.drew hB) hL) (shNeed.keep (.of hbr.drew hB') hL') (fun b h => Nat.lt_of_lt_of_le (hB b h) hbr.size) (fun b h => Nat.lt_of_lt_of_le (hB' b h) hbr.size) hwt
      replace hL := shNeed.keep (.of hbr hB) hL
      replace hL' := shNeed.keep (.of hbr hB') hL'
      replace hcell := hcell.keep (.of hbr hB) hlt
      replace hcell' := hcell'.keep (.of hbr hB') hlt3
      obtain ⟨d, hd⟩ : ∃ d, d = xs[k] := ⟨_, rfl⟩
      rw [← hd] at hL hL' hwt
      clear ha ha' hd
      obtain ⟨rfl, xs_n, xs_r⟩ := hL
      obtain ⟨rfl, ys_n, ys_r⟩ := hL'
      clear xs_n xs_r ys_n ys_r
      have xv0 : wr.cell? ⟨b, off + k * 2, none⟩ = some (.string d.n) := hcell 0 (by simp)
      have xv1 : wr.cell? ⟨b, off + k * 2 + 1, none⟩ = some (.string d.r) := hcell 1 (by simp)
      have yv0 : wr.cell? ⟨b', off' + k * 2, none⟩ = some (.string d.n) := hcell' 0 (by simp)
      have yv1 : wr.cell? ⟨b', off' + k * 2 + 1, none⟩ = some (.string d.r) := hcell' 1 (by simp)
      have HC2 := hidden HC
      have hki : (k : Int) < (xs.length : Int) := by omega
      clear hcell hcell' HC hwt
      go_wp2_with fail
      go_region_with (go_at_call 140; refine HC2.out.mono ?_; rintro e w2 ⟨rfl, hb2⟩)
      all_goals go_wp2_with fail
      all_goals go_roundw
      all_goals first
        | exact ⟨k + 1, by omega, by go_num, hbr.drew.trans (hb2.mono hbr.size)⟩
        | (simp [intOf]; omega)
    · have he : k = xs.length := by omega
      subst he
      clear ha ha'
      go_wp2_with fail
      go_ret
      exact ⟨rfl, hbr⟩

set_option maxHeartbeats 2000000 in
set_option maxRecDepth 100000 in
theorem eqCmd_c (S S' : Nat → Prop) (d : CmdD) (cs cs' : List Value) (w : World) (hd : shCmd.lies S w cs d) (hd' : shCmd.lies S' w cs' d) (hB : ∀ b, S b → b < w.heap.size) (hB' : ∀ b, S' b → b < w.heap.size) (hw : wtCmd d ≤ 1048576) :
    Calls Tryz.prog 265 #[.agg cs.toArray, .agg cs'.toArray] w fun e w' => e = .returned (.bool true) ∧ Below w.heap.size w w' := by
  obtain ⟨xu0, rfl, xs_t, xr0, xp0⟩ := hd
  obtain ⟨yu0, rfl, ys_t, yr0, yp0⟩ := hd'
  have hb2 : ∀ A R, Below w.heap.size w ((w.alloc A).alloc R) := fun A R => ((Below.refl _ _).alloc (Nat.le_refl _) _).alloc (by simp) _
  unfold wtCmd at hw
  have HS0 : Hid (∀ w1, Below w.heap.size w w1 → Calls Tryz.prog 210 #[xu0, yu0] w1 fun e w' => e = .returned (.bool true) ∧ Below w1.heap.size w1 w') := fun w1 hb => by
    have := eqStrs_c xu0 yu0 d.acts d.acts w1 ((xr0.keep (.of hb hB)).reads (fun b h => Nat.lt_of_lt_of_le (hB b h) hb.size)) ((yr0.keep (.of hb hB')).reads (fun b h => Nat.lt_of_lt_of_le (hB' b h) hb.size)) (by unfold bulkS at hw; omega)
    rwa [decide_eq_true rfl] at this
  obtain ⟨xa0, xc0, xe0, _⟩ := id xr0
  rw [length_strsV] at xe0
  subst xe0
  clear xr0
  obtain ⟨ya0, yc0, ye0, _⟩ := id yr0
  rw [length_strsV] at ye0
  subst ye0
  clear yr0
  go_enter Tryz.func265, Tryz.ntmps265
  go_wp2_with fail
  go_at_call 210
  refine (HS0.out _ (hb2 _ _)).mono ?_
  rintro e w1 ⟨rfl, b1⟩
  obtain ⟨hA1, hR1⟩ := boxTwo b1
  have k1 : Below w.heap.size w w1 := (hb2 _ _).trans (b1.mono (hb2 _ _).size)
  go_wp2_with fail
  go_ret
  exact ⟨rfl, k1⟩

set_option maxHeartbeats 2000000 in
set_option maxRecDepth 100000 in
theorem eqCmdS_c (S S' : Nat → Prop) (v u : Value) (xs : List CmdD) (w : World) (hv : RowIn shCmd S w v xs) (hv' : RowIn shCmd S' w u xs) (hB : ∀ b, S b → b < w.heap.size) (hB' : ∀ b, S' b → b < w.heap.size) (hw : wtRow wtCmd xs ≤ 1048576) :
    Calls Tryz.prog 211 #[v, u] w fun e w' => e = .returned (.bool true) ∧ Below w.heap.size w w' := by
  obtain ⟨a, cap, rfl, hl, hc, ha⟩ := hv
  obtain ⟨a', cap', rfl, _, hc', ha'⟩ := hv'
  unfold maxLen at hl
  go_enter Tryz.func211, Tryz.ntmps211
  go_wp2_with fail
  go_loopw [5] (fun vi wr => ∃ k : Nat, k ≤ xs.length ∧ vi = .int .i64 (k : Int) ∧ Below w.heap.size w wr) (fun vi _ => xs.length - (intOf vi).toNat)
  case atStart => exact ⟨0, Nat.zero_le _, rfl, Below.refl _ _⟩
  case round =>
    obtain ⟨k, hk, rfl, hbr⟩ := hrel
    by_cases hlt' : k < xs.length
    · rcases ha with rfl | ⟨b, off, rfl, hlt, ha⟩
      · simp at hlt'
      rcases ha' with rfl | ⟨b', off', rfl, hlt3, ha'⟩
      · simp at hlt'
      obtain ⟨cs, hL, hcell⟩ := ha k hlt'
      obtain ⟨cs', hL', hcell'⟩ := ha' k hlt'
      have hwt : wtCmd xs[k] ≤ 1048576 := by have := wt_wtRow wtCmd (List.getElem_mem hlt'); omega
      have HC := eqCmd_c S S' xs[k] cs cs' wr.drew (shCmd.keep (.of hbr.drew hB) hL) (shCmd.keep (.of hbr.drew hB') hL') (fun b h => Nat.lt_of_lt_of_le (hB b h) hbr.size) (fun b h => Nat.lt_of_lt_of_le (hB' b h) hbr.size) hwt
      replace hL := shCmd.keep (.of hbr hB) hL
      replace hL' := shCmd.keep (.of hbr hB') hL'
      replace hcell := hcell.keep (.of hbr hB) hlt
      replace hcell' := hcell'.keep (.of hbr hB') hlt3
      obtain ⟨d, hd⟩ : ∃ d, d = xs[k] := ⟨_, rfl⟩
      rw [← hd] at hL hL' hwt
      clear ha ha' hd
      obtain ⟨xu0, rfl, xs_t, xr0, xp0⟩ := hL
      obtain ⟨yu0, rfl, ys_t, yr0, yp0⟩ := hL'
      clear xs_t xp0 ys_t yp0
      obtain ⟨xa0, xc0, xe0, _⟩ := id xr0
      rw [length_strsV] at xe0
      subst xe0
      clear xr0
      have xv0 : wr.cell? ⟨b, off + k * 2, none⟩ = some (.string d.t) := hcell 0 (by simp)
      have xv1 : wr.cell? ⟨b, off + k * 2 + 1, none⟩ = some (.slice xa0 d.acts.length xc0) := hcell 1 (by simp)
      obtain ⟨ya0, yc0, ye0, _⟩ := id yr0
      rw [length_strsV] at ye0
      subst ye0
      clear yr0
      have yv0 : wr.cell? ⟨b', off' + k * 2, none⟩ = some (.string d.t) := hcell' 0 (by simp)
      have yv1 : wr.cell? ⟨b', off' + k * 2 + 1, none⟩ = some (.slice ya0 d.acts.length yc0) := hcell' 1 (by simp)
      have HC2 := hidden HC
      have hki : (k : Int) < (xs.length : Int) := by omega
      clear hcell hcell' HC hwt
      go_wp2_with fail
      go_region_with (go_at_call 265; refine HC2.out.mono ?_; rintro e w2 ⟨rfl, hb2⟩)
      all_goals go_wp2_with fail
      all_goals go_roundw
      all_goals first
        | exact ⟨k + 1, by omega, by go_num, hbr.drew.trans (hb2.mono hbr.size)⟩
        | (simp [intOf]; omega)
    · have he : k = xs.length := by omega
      subst he
      clear ha ha'
      go_wp2_with fail
      go_ret
      exact ⟨rfl, hbr⟩

end Go.Proofs.YtlfmefojcmpfeaaGreatDoor

/-! Whether a need takes a version: the answers of the program and of the specification are one function of what is told; conditions: the version lies in memory, nothing holds more than 2 to the 20, and the table of signs holds what it is laid with. -/
namespace Go.Proofs.YtlfmefojcmpfeaaGreatDoor
open Go.RowKit
set_option linter.unusedSimpArgs false
set_option linter.unusedVariables false

def mayB (r : ByteArray) (a b c : Int) (ps : List ByteArray) : Bool := (rangeI r).isSome && inRB a b c ps ((rangeI r).getD [])

set_option maxHeartbeats 2000000 in
set_option maxRecDepth 100000 in
theorem implMay_c (n r : ByteArray) (a b c : Int) (u : Value) (ps : List ByteArray) (w : World) (hr : r.size ≤ 1048576) (hu : Reads w u (strsV ps)) (hb : bulkS ps ≤ 1048576) (hT : Tabs w) :
    Calls Tryz.prog 23 #[.agg #[.string n, .string r], .agg #[.int .i64 a, .int .i64 b, .int .i64 c, u]] w fun e w' => e = .returned (.bool (mayB r a b c ps)) ∧ Below w.heap.size w w' := by
  have hb2 : ∀ A R, Below w.heap.size w ((w.alloc A).alloc R) := fun A R => ((Below.refl _ _).alloc (Nat.le_refl _) _).alloc (by simp) _
  have HR : ∀ w1, Below w.heap.size w w1 → Calls Tryz.prog 87 #[.string r] w1 fun e w' => ∃ v, e = .returned (.tuple #[v, .bool (rangeI r).isSome]) ∧ RangeOwn w1.heap.size w' v ((rangeI r).getD []) ∧ Below w1.heap.size w1 w' := fun w1 h => by
    obtain ⟨m, h1, h2⟩ := hT.below h
    exact implRange_c r hr m w1 h1 h2
  obtain ⟨hr1, hr2, hr3⟩ := range_small r
  have hwt := range_weight r
  have HI : ∀ w1 lo v, Below w.heap.size w w1 → RangeOwn lo w1 v ((rangeI r).getD []) → Calls Tryz.prog 88 #[v, .agg #[.int .i64 a, .int .i64 b, .int .i64 c, u]] w1 fun e w' => e = .returned (.bool (inRB a b c ps ((rangeI r).getD []))) ∧ Below w1.heap.size w1 w' := fun w1 lo v h ho =>
    implInRange_c (Ow lo w1.heap.size) v _ a b c u ps w1 (ho.rangeIn hr1 hr2 (fun ds h1 d h2 => by have := hr3 ds h1 d h2; omega)) (fun b h => h.2) hwt (hu.below h) hb
  unfold mayB
  obtain ⟨ok, hok⟩ : ∃ o, o = (rangeI r).isSome := ⟨_, rfl⟩
  obtain ⟨dss, hd⟩ : ∃ d, d = (rangeI r).getD [] := ⟨_, rfl⟩
  obtain ⟨R, hR⟩ : ∃ R, R = inRB a b c ps dss := ⟨_, rfl⟩
  simp only [← hok, ← hd] at HR
  simp only [← hd, ← hR] at HI
  rw [← hok, ← hd, ← hR]
  replace HR := hidden HR
  replace HI := hidden HI
  obtain ⟨q, cap, rfl, _, _⟩ := reads_strs hu
  clear hok hd hR hu hr1 hr2 hr3 hwt hT
  cases ok with
  | false =>
    go_enter Tryz.func23, Tryz.ntmps23
    go_wp2_with fail
    go_at_call 87
    refine (HR.out _ (hb2 _ _)).mono ?_
    rintro e w1 ⟨v, rfl, O1, b1⟩
    obtain ⟨q1, c1, rfl⟩ := O1.slice
    go_wp2_with fail
    go_ret
    exact ⟨rfl, (hb2 _ _).trans (b1.mono (hb2 _ _).size)⟩
  | true =>
    go_enter Tryz.func23, Tryz.ntmps23
    go_wp2_with fail
    go_at_call 87
    refine (HR.out _ (hb2 _ _)).mono ?_
    rintro e w1 ⟨v, rfl, O1, b1⟩
    obtain ⟨q1, c1, rfl⟩ := O1.slice
    have k1 := (hb2 _ _).trans (b1.mono (hb2 _ _).size)
    obtain ⟨hA1, hR1⟩ := boxTwo b1
    have x0 := vblk_cell hR1 0
    have x1 := vblk_cell hR1 1
    have x2 := vblk_cell hR1 2
    have x3 := vblk_cell hR1 3
    simp only [List.getElem?_toArray, List.getElem?_cons_succ, List.getElem?_cons_zero] at x0 x1 x2 x3
    go_wp2_with fail
    go_at_call 88
    refine (HI.out _ _ _ k1 O1).mono ?_
    rintro e w2 ⟨rfl, b2⟩
    go_wp2_with fail
    go_ret
    exact ⟨by cases R <;> rfl, k1.trans (b2.mono k1.size)⟩

set_option maxHeartbeats 2000000 in
set_option maxRecDepth 100000 in
theorem specMay_c (n r : ByteArray) (a b c : Int) (u : Value) (ps : List ByteArray) (w : World) (hr : r.size ≤ 1048576) (hu : Reads w u (strsV ps)) (hb : bulkS ps ≤ 1048576) :
    Calls Tryz.prog 24 #[.agg #[.string n, .string r], .agg #[.int .i64 a, .int .i64 b, .int .i64 c, u]] w fun e w' => e = .returned (.bool (mayB r a b c ps)) ∧ Below w.heap.size w w' := by
  have hb2 : ∀ A R, Below w.heap.size w ((w.alloc A).alloc R) := fun A R => ((Below.refl _ _).alloc (Nat.le_refl _) _).alloc (by simp) _
  have HR : ∀ w1, Below w.heap.size w w1 → Calls Tryz.prog 89 #[.string r] w1 fun e w' => ∃ v, e = .returned (.tuple #[v, .bool (rangeI r).isSome]) ∧ RangeOwn w1.heap.size w' v ((rangeI r).getD []) ∧ Below w1.heap.size w1 w' := fun w1 h => specRange_c r hr w1
  obtain ⟨hr1, hr2, hr3⟩ := range_small r
  have hwt := range_weight r
  have HI : ∀ w1 lo v, Below w.heap.size w w1 → RangeOwn lo w1 v ((rangeI r).getD []) → Calls Tryz.prog 90 #[v, .agg #[.int .i64 a, .int .i64 b, .int .i64 c, u]] w1 fun e w' => e = .returned (.bool (inRB a b c ps ((rangeI r).getD []))) ∧ Below w1.heap.size w1 w' := fun w1 lo v h ho =>
    specInRange_c (Ow lo w1.heap.size) v _ a b c u ps w1 (ho.rangeIn hr1 hr2 (fun ds h1 d h2 => by have := hr3 ds h1 d h2; omega)) (fun b h => h.2) hwt (hu.below h) hb
  unfold mayB
  obtain ⟨ok, hok⟩ : ∃ o, o = (rangeI r).isSome := ⟨_, rfl⟩
  obtain ⟨dss, hd⟩ : ∃ d, d = (rangeI r).getD [] := ⟨_, rfl⟩
  obtain ⟨R, hR⟩ : ∃ R, R = inRB a b c ps dss := ⟨_, rfl⟩
  simp only [← hok, ← hd] at HR
  simp only [← hd, ← hR] at HI
  rw [← hok, ← hd, ← hR]
  replace HR := hidden HR
  replace HI := hidden HI
  obtain ⟨q, cap, rfl, _, _⟩ := reads_strs hu
  clear hok hd hR hu hr1 hr2 hr3 hwt
  cases ok with
  | false =>
    go_enter Tryz.func24, Tryz.ntmps24
    go_wp2_with fail
    go_at_call 89
    refine (HR.out _ (hb2 _ _)).mono ?_
    rintro e w1 ⟨v, rfl, O1, b1⟩
    obtain ⟨q1, c1, rfl⟩ := O1.slice
    go_wp2_with fail
    go_ret
    exact ⟨rfl, (hb2 _ _).trans (b1.mono (hb2 _ _).size)⟩
  | true =>
    go_enter Tryz.func24, Tryz.ntmps24
    go_wp2_with fail
    go_at_call 89
    refine (HR.out _ (hb2 _ _)).mono ?_
    rintro e w1 ⟨v, rfl, O1, b1⟩
    obtain ⟨q1, c1, rfl⟩ := O1.slice
    have k1 := (hb2 _ _).trans (b1.mono (hb2 _ _).size)
    obtain ⟨hA1, hR1⟩ := boxTwo b1
    have x0 := vblk_cell hR1 0
    have x1 := vblk_cell hR1 1
    have x2 := vblk_cell hR1 2
    have x3 := vblk_cell hR1 3
    simp only [List.getElem?_toArray, List.getElem?_cons_succ, List.getElem?_cons_zero] at x0 x1 x2 x3
    go_wp2_with fail
    go_at_call 90
    refine (HI.out _ _ _ k1 O1).mono ?_
    rintro e w2 ⟨rfl, b2⟩
    go_wp2_with fail
    go_ret
    exact ⟨by cases R <;> rfl, k1.trans (b2.mono k1.size)⟩

end Go.Proofs.YtlfmefojcmpfeaaGreatDoor

/-! What the functions that draw out of a code answer: contracts for the walks over a cursor (a pointer to a struct of the call's own) that reads the code; each says no more of what is drawn than its bounds; conditions: the code lies in memory as told. -/
namespace Go.Proofs.YtlfmefojcmpfeaaGreatDoor
open Go.RowKit
set_option linter.unusedSimpArgs false
set_option linter.unusedVariables false

/-- The cursor at block g: what it holds; the code that it reads lies below base, the cursor from base on. -/
def Cur (w : World) (base g : Nat) (zs : List Int) : Prop :=
  base ≤ g ∧ zs.length ≤ 281474976710656 ∧ (∀ z ∈ zs, 0 ≤ z ∧ z ≤ 255) ∧
  ∃ (a : Option Addr) (cap i : Nat) (h : Int), i ≤ zs.length ∧ w.heap[g]? = some (.cells #[.slice a zs.length cap, .int .i64 (i : Int), .int .i64 h] 193 (0, 0)) ∧
    (zs = [] ∨ ∃ b off, a = some ⟨b, off, none⟩ ∧ b < base ∧ ∀ k, k < zs.length → w.cell? ⟨b, off + k, none⟩ = some (.int .u8 (zs.getD k 0)))

theorem cur_new (w : World) (a : Option Addr) (zs : List Int) (cap : Nat) (h : Int) (hn : zs.length ≤ 281474976710656) (hz : ∀ z ∈ zs, 0 ≤ z ∧ z ≤ 255)
    (hc : zs = [] ∨ ∃ b off, a = some ⟨b, off, none⟩ ∧ b < w.heap.size ∧ ∀ k, k < zs.length → w.cell? ⟨b, off + k, none⟩ = some (.int .u8 (zs.getD k 0))) :
    Cur (w.alloc (.cells #[.slice a zs.length cap, .int .i64 0, .int .i64 h] 193)) w.heap.size w.heap.size zs := by
  refine ⟨Nat.le_refl _, hn, hz, a, cap, 0, h, Nat.zero_le _, heap_alloc_new w _, ?_⟩
  rcases hc with hc | ⟨b, off, ha, hlt, hc⟩
  · exact .inl hc
  · exact .inr ⟨b, off, ha, hlt, fun k hk => by rw [World.cell?_alloc_lt _ _ _ hlt]; exact hc k hk⟩

set_option maxHeartbeats 1000000 in
set_option maxRecDepth 100000 in
theorem new_c (v : Value) (zs : List Int) (w : World) (hr : Reads w v (bytesV zs)) (hn : zs.length ≤ 1048576) (hz : ∀ z ∈ zs, 0 ≤ z ∧ z ≤ 255) :
    Calls Tryz.prog 69 #[v] w fun e w' => ∃ g, e = .returned (.pointer (some ⟨g, 0, none⟩)) ∧ Cur w' w.heap.size g zs ∧ Below w.heap.size w w' := by
  obtain ⟨a, cap, rfl, _, hc⟩ := reads_bytes hr
  clear hr
  rcases hc with rfl | ⟨b, off, rfl, hlt, hc⟩
  · go_enter Tryz.func69, Tryz.ntmps69
    go_wp2
    go_loop [3, 4] (fun vh vi => ∃ h : Int, vh = .int .i64 h ∧ vi = .int .i64 0) (fun _ _ => 0)
    case atStart => exact ⟨_, rfl, rfl⟩
    case round =>
      obtain ⟨h, rfl, rfl⟩ := hrel
      go_wp2
      go_ret
      exact ⟨_, rfl, cur_new w _ _ _ _ (by simp) hz (.inl rfl), (Below.refl _ _).alloc (Nat.le_refl _) _⟩
  · go_enter Tryz.func69, Tryz.ntmps69
    go_wp2
    go_loop [3, 4] (fun vh vi => ∃ (k : Nat) (h : Int), k ≤ zs.length ∧ vh = .int .i64 h ∧ vi = .int .i64 (k : Int)) (fun _ vi => zs.length - (intOf vi).toNat)
    case atStart => exact ⟨0, _, Nat.zero_le _, rfl, rfl⟩
    case round =>
      obtain ⟨k, h, hk, rfl, rfl⟩ := hrel
      have hcx : k < zs.length → w.cell? ⟨b, off + k, none⟩ = some (.int .u8 (zs.getD k 0)) := hc k
      have HC : Hid (∀ k, k < zs.length → w.cell? ⟨b, off + k, none⟩ = some (.int .u8 (zs.getD k 0))) := hc
      clear hc
      go_wp2
      · have hlt' : k < zs.length := by assumption
        go_round
        case rel => exact ⟨k + 1, _, by omega, rfl, by go_num⟩
        case measure => simp [intOf]; omega
      · go_ret
        exact ⟨_, rfl, cur_new w _ _ _ _ (by omega) hz (.inr ⟨b, off, rfl, hlt, HC.out⟩), (Below.refl _ _).alloc (Nat.le_refl _) _⟩
      · go_ret
        exact ⟨_, rfl, cur_new w _ _ _ _ (by omega) hz (.inr ⟨b, off, rfl, hlt, HC.out⟩), (Below.refl _ _).alloc (Nat.le_refl _) _⟩

theorem and_255 (x : Int) : 0 ≤ bits .and .i64 x 255 ∧ bits .and .i64 x 255 ≤ 255 := by
  show 0 ≤ IntKind.i64.wrap ((BitVec.ofInt 64 x &&& BitVec.ofInt 64 ((255 : Nat) : Int)).toNat : Int) ∧ IntKind.i64.wrap ((BitVec.ofInt 64 x &&& BitVec.ofInt 64 ((255 : Nat) : Int)).toNat : Int) ≤ 255
  rw [BitVec.toNat_and, ofInt_u64 255 (by omega)]
  have h := Nat.and_le_right (n := (BitVec.ofInt 64 x).toNat) (m := 255)
  rw [IntKind.wrap_i64]
  omega

theorem cell_of_heap {w : World} {g : Nat} {cs : Array Value} {t : TypeId} (h : w.heap[g]? = some (.cells cs t (0, 0))) (j : Nat) : w.cell? ⟨g, j, none⟩ = cs[j]? := cell_of_row w g j cs t (0, 0) h

/-- The cursor behind a step: its two numbers have turned, nothing else. -/
theorem cur_step {w w' : World} {base g : Nat} {zs : List Int} (hc : Cur w base g zs) (i : Nat) (hi : i ≤ zs.length) (h : Int) (hg : w.grownBy w' (some g))
    (hh : ∀ a cap i0 h0, w.heap[g]? = some (.cells #[.slice a zs.length cap, .int .i64 i0, .int .i64 h0] 193 (0, 0)) → w'.heap[g]? = some (.cells #[.slice a zs.length cap, .int .i64 (i : Int), .int .i64 h] 193 (0, 0))) : Cur w' base g zs := by
  obtain ⟨hb, hn, hz, a, cap, i0, h0, hi0, hw, hr⟩ := hc
  refine ⟨hb, hn, hz, a, cap, i, h, hi, hh _ _ _ _ hw, ?_⟩
  rcases hr with hr | ⟨b, off, ha, hlt, hr⟩
  · exact .inl hr
  · refine .inr ⟨b, off, ha, hlt, fun k hk => ?_⟩
    exact hg.cell (hr k hk) (by simp; omega)

theorem grown_set (w : World) (g j : Nat) (u : Value) : w.grownBy (w.setCell ⟨g, j, none⟩ u) (some g) :=
  ⟨rfl, rfl, rfl, by simp, fun k _ hk => heap_setCell_other w ⟨g, j, none⟩ k u (fun e => hk (by simp [e]))⟩
theorem grown_drewN {w w' : World} {r : Option Nat} (h : w.grownBy w' r) (n : Nat) : w.grownBy (w'.drewN n) r := ⟨h.os, h.tape, h.output, h.size, h.block⟩
theorem cur_drewN {w : World} {base g : Nat} {zs : List Int} (h : Cur w base g zs) (n : Nat) : Cur (w.drewN n) base g zs := h
theorem cur_one {w : World} {base g : Nat} {zs : List Int} (hc : Cur w base g zs) (h' : Int) : Cur (w.setCell ⟨g, 2, none⟩ (.int .i64 h')) base g zs := by
  have hc0 := hc
  obtain ⟨hb, hn, hz, a, cap, i, h, hi, hw, hr⟩ := hc
  refine cur_step hc0 i hi h' (grown_set w g 2 _) fun a' cap' i' h0 e => ?_
  rw [hw] at e
  simp only [Option.some.injEq, Obj.cells.injEq, and_true, Array.mk.injEq, List.cons.injEq, Value.slice.injEq, Value.int.injEq, true_and] at e
  obtain ⟨⟨rfl, rfl⟩, rfl, rfl⟩ := e
  rw [heap_setCell_same w g 2 _ 193 _ hw]
  rfl
theorem cur_two {w : World} {base g : Nat} {zs : List Int} (hc : Cur w base g zs) (h' : Int) (n i' : Nat) (hi' : i' ≤ zs.length) : Cur (((w.setCell ⟨g, 2, none⟩ (.int .i64 h')).drewN n).setCell ⟨g, 1, none⟩ (.int .i64 (i' : Int))) base g zs := by
  have hc1 := cur_drewN (cur_one hc h') n
  have hc0 := hc1
  obtain ⟨hb, hn, hz, a, cap, i, h, hi, hw, hr⟩ := hc1
  refine cur_step hc0 i' hi' h (grown_set _ g 1 _) fun a' cap' i0 h0 e => ?_
  rw [hw] at e
  simp only [Option.some.injEq, Obj.cells.injEq, and_true, Array.mk.injEq, List.cons.injEq, Value.slice.injEq, Value.int.injEq, true_and] at e
  obtain ⟨⟨rfl, rfl⟩, rfl, rfl⟩ := e
  rw [heap_setCell_same _ g 1 _ 193 _ hw]
  rfl

set_option maxHeartbeats 1000000 in
set_option maxRecDepth 100000 in
theorem byte_c (base g : Nat) (zs : List Int) (w : World) (hc : Cur w base g zs) :
    Calls Tryz.prog 153 #[.pointer (some ⟨g, 0, none⟩)] w fun e w' => ∃ x : Int, e = .returned (.int .i64 x) ∧ 0 ≤ x ∧ x ≤ 255 ∧ Cur w' base g zs ∧ w.grownBy w' (some g) := by
  have hc0 := hc
  obtain ⟨hb, hn, hz, a, cap, i, h, hi, hw, hr⟩ := hc
  have c0 := cell_of_heap hw 0
  have c1 := cell_of_heap hw 1
  have c2 := cell_of_heap hw 2
  have f1 := frozen_of_row w g 1 _ 193 hw
  have f2 := frozen_of_row w g 2 _ 193 hw
  simp at c0 c1 c2
  by_cases hlt : i < zs.length
  · rcases hr with rfl | ⟨b, off, rfl, hbl, hr⟩
    · simp at hlt
    have hx := hr i hlt
    have hne : ¬ b = g := by omega
    have hx2 : ∀ v, (w.setCell ⟨g, 2, none⟩ v).cell? ⟨b, off + i, none⟩ = some (.int .u8 (zs.getD i 0)) := fun v => by
      rw [World.cell?_setCell_other _ _ _ _ (by intro e; injection e; omega)]; exact hx
    have hil : (i : Int) < (zs.length : Int) := by omega
    clear hr hx
    go_enter Tryz.func153, Tryz.ntmps153
    go_wp2
    go_quiet (fail)
    go_wp2
    go_quiet (fail)
    go_wp2
    go_quiet (fail)
    go_wp2
    go_ret
    exact ⟨_, rfl, (and_255 _).1, (and_255 _).2, cur_two hc0 _ _ (i + 1) (by omega), grown_trans (grown_drewN (grown_set w g 2 _) _) (grown_set _ g 1 _)⟩
  · go_enter Tryz.func153, Tryz.ntmps153
    go_wp2
    go_quiet (fail)
    go_wp2
    go_quiet (fail)
    go_wp2
    go_ret
    exact ⟨_, rfl, (and_255 _).1, (and_255 _).2, cur_drewN (cur_drewN (cur_one hc0 _) _) _, grown_drewN (grown_drewN (grown_set w g 2 _) _) _⟩

set_option maxHeartbeats 1000000 in
set_option maxRecDepth 100000 in
theorem below_c (base g : Nat) (zs : List Int) (n : Int) (w : World) (hc : Cur w base g zs) :
    Calls Tryz.prog 77 #[.pointer (some ⟨g, 0, none⟩), .int .i64 n] w fun e w' => ∃ x : Nat, e = .returned (.int .i64 (x : Int)) ∧ (0 < n → (x : Int) < n) ∧ Cur w' base g zs ∧ w.grownBy w' (some g) := by
  by_cases h0 : n ≤ 0
  · go_enter Tryz.func77, Tryz.ntmps77
    go_wp2
    go_ret
    exact ⟨0, rfl, fun h => by omega, hc, World.grownBy.refl _ _⟩
  by_cases h1 : n ≤ 256
  · have hnz : ¬ n = 0 := by omega
    go_enter Tryz.func77, Tryz.ntmps77
    go_wp2_with (go_at_call 153; refine (byte_c base g zs _ hc).mono ?_; rintro e w1 ⟨x, rfl, hx0, hx1, hc1, hg1⟩)
    go_ret
    have e1 := Int.emod_nonneg x hnz
    have e2 := Int.emod_lt_of_pos x (show 0 < n by omega)
    exact ⟨(x % n).toNat, by rw [Int.toNat_of_nonneg e1]; rfl, fun _ => by omega, hc1, hg1⟩
  · have hnz : ¬ n = 0 := by omega
    go_enter Tryz.func77, Tryz.ntmps77
    go_wp2_with (go_at_call 153; refine (byte_c base g zs _ hc).mono ?_; rintro e w1 ⟨x, rfl, hx0, hx1, hc1, hg1⟩)
    go_wp2_with (go_at_call 153; refine (byte_c base g zs _ hc1).mono ?_; rintro e w2 ⟨y, rfl, hy0, hy1, hc2, hg2⟩)
    go_wp2_with (go_at_call 153; refine (byte_c base g zs _ hc2).mono ?_; rintro e w3 ⟨z, rfl, hz0, hz1, hc3, hg3⟩)
    go_ret
    have e1 := Int.emod_nonneg (x * 65536 + y * 256 + z) hnz
    have e2 := Int.emod_lt_of_pos (x * 65536 + y * 256 + z) (show 0 < n by omega)
    exact ⟨((x * 65536 + y * 256 + z) % n).toNat, by rw [Int.toNat_of_nonneg e1]; rfl, fun _ => by omega, hc3, grown_trans (grown_trans hg1 hg2) hg3⟩

set_option maxHeartbeats 1000000 in
set_option maxRecDepth 100000 in
theorem once_c (base g : Nat) (zs : List Int) (n : Int) (w : World) (hc : Cur w base g zs) :
    Calls Tryz.prog 76 #[.pointer (some ⟨g, 0, none⟩), .int .i64 n] w fun e w' => ∃ b : Bool, e = .returned (.bool b) ∧ Cur w' base g zs ∧ w.grownBy w' (some g) := by
  go_enter Tryz.func76, Tryz.ntmps76
  go_wp2_with (go_at_call 77; refine (below_c base g zs _ _ hc).mono ?_; rintro e w1 ⟨x, rfl, hx, hc1, hg1⟩)
  go_ret
  exact ⟨_, rfl, hc1, hg1⟩

theorem int_c (base g : Nat) (zs : List Int) (gl mcap : Nat) (xs : List Int) (w : World) (hc : Cur w base g zs) (hm : 0 < xs.length) (hm2 : xs.length ≤ 1048576) (hne : gl ≠ g) (hxs : ∀ k, k < xs.length → w.cell? ⟨gl, k, none⟩ = some (.int .i64 (xs.getD k 0))) :
    Calls Tryz.prog 117 #[.pointer (some ⟨g, 0, none⟩), .slice (some ⟨gl, 0, none⟩) xs.length mcap] w fun e w' => ∃ j, j < xs.length ∧ e = .returned (.int .i64 (xs.getD j 0)) ∧ Cur w' base g zs ∧ w.grownBy w' (some g) := by
  go_enter Tryz.func117, Tryz.ntmps117
  go_wp2_with (
    go_at_call 77
    refine (below_c base g zs _ _ hc).mono ?_
    rintro e w1 ⟨x, rfl, hx, hc1, hg1⟩
    have hx' : x < xs.length := by have := hx (by omega); omega
    have hcx : w1.cell? ⟨gl, x, none⟩ = some (.int .i64 (xs.getD x 0)) := hg1.cell (hxs x hx') (by simp; exact hne)
    have hxi : (x : Int) < (xs.length : Int) := by omega
    clear hxs hx)
  go_ret
  exact ⟨x, hx', by simp [hx'], hc1, hg1⟩

theorem str_c (base g : Nat) (zs : List Int) (gl mcap : Nat) (xs : List ByteArray) (w : World) (hc : Cur w base g zs) (hm : 0 < xs.length) (hm2 : xs.length ≤ 1048576) (hne : gl ≠ g) (hxs : ∀ k (h : k < xs.length), w.cell? ⟨gl, k, none⟩ = some (.string xs[k])) :
    Calls Tryz.prog 71 #[.pointer (some ⟨g, 0, none⟩), .slice (some ⟨gl, 0, none⟩) xs.length mcap] w fun e w' => ∃ t, t ∈ xs ∧ e = .returned (.string t) ∧ Cur w' base g zs ∧ w.grownBy w' (some g) := by
  go_enter Tryz.func71, Tryz.ntmps71
  go_wp2_with (
    go_at_call 77
    refine (below_c base g zs _ _ hc).mono ?_
    rintro e w1 ⟨x, rfl, hx, hc1, hg1⟩
    have hx' : x < xs.length := by have := hx (by omega); omega
    have hcx : w1.cell? ⟨gl, x, none⟩ = some (.string xs[x]) := hg1.cell (hxs x hx') (by simp; exact hne)
    have hmem : xs[x] ∈ xs := List.getElem_mem hx'
    obtain ⟨t, ht⟩ : ∃ t, t = xs[x] := ⟨_, rfl⟩
    rw [← ht] at hcx hmem
    have hxi : (x : Int) < (xs.length : Int) := by omega
    clear hxs hx ht)
  go_ret
  exact ⟨t, hmem, rfl, hc1, hg1⟩

def textList : List ByteArray := [⟨#[]⟩, ⟨#[97]⟩, ⟨#[98]⟩, ⟨#[97, 98]⟩, ⟨#[97, 45, 98]⟩, ⟨#[65, 98]⟩, ⟨#[120, 49]⟩, ⟨#[101, 108, 101, 118, 101, 110, 98, 121, 116, 101, 115]⟩, ⟨#[116, 101, 110, 45, 98, 121, 116, 101, 115, 49]⟩, ⟨#[97, 32, 98]⟩, ⟨#[9]⟩, ⟨#[127]⟩, ⟨#[49, 97]⟩, ⟨#[45, 97]⟩, ⟨#[122]⟩, ⟨#[104, 101, 108, 108, 111]⟩]
theorem textList_small : ∀ t ∈ textList, t.size ≤ 11 := by decide +kernel

theorem lit_strs (w : World) (xs : List ByteArray) : ∀ k (h : k < xs.length), (w.alloc (.cells (xs.map Value.string).toArray 9)).cell? ⟨w.heap.size, k, none⟩ = some (.string xs[k]) := by
  intro k h
  simp [h]
theorem lit_ints (w : World) (xs : List Int) : ∀ k, k < xs.length → (w.alloc (.cells (xs.map (Value.int .i64)).toArray 3)).cell? ⟨w.heap.size, k, none⟩ = some (.int .i64 (xs.getD k 0)) := by
  intro k h
  simp [h, List.getD_eq_getElem?_getD]

theorem cur_lt {w : World} {base g : Nat} {zs : List Int} (h : Cur w base g zs) : g < w.heap.size := by
  obtain ⟨hb, hn, hz, a, cap, i, hh, hi, hw, hr⟩ := h
  exact (Array.getElem?_eq_some_iff.1 hw).1
theorem cur_grown {w w' : World} {base g : Nat} {zs : List Int} {r : Option Nat} (h : Cur w base g zs) (hg : w.grownBy w' r) (hr : ∀ k, r = some k → base ≤ k) (hne : r ≠ some g) : Cur w' base g zs := by
  have hlt := cur_lt h
  obtain ⟨hb, hn, hz, a, cap, i, hh, hi, hw, hrd⟩ := h
  refine ⟨hb, hn, hz, a, cap, i, hh, hi, by rw [hg.block g hlt (fun e => hne e.symm)]; exact hw, ?_⟩
  rcases hrd with hrd | ⟨b, off, ha, hlt', hrd⟩
  · exact .inl hrd
  · refine .inr ⟨b, off, ha, hlt', fun k hk => ?_⟩
    refine hg.cell (hrd k hk) (fun e => ?_)
    have := hr b e.symm
    omega
theorem grown_own {w w1 w2 : World} {o : Obj} {g : Nat} {r : Option Nat} (h1 : w.grownBy w1 (some g)) (h2 : (w1.alloc o).grownBy w2 r) (hr : ∀ k, r = some k → w.heap.size ≤ k) : w.grownBy w2 (some g) := by
  have ha := World.grownBy_alloc w1 o none
  refine ⟨h2.os.trans h1.os, h2.tape.trans h1.tape, h2.output.trans h1.output, Nat.le_trans h1.size (Nat.le_trans ha.size h2.size), fun k hk hne => ?_⟩
  rw [h2.block k (Nat.lt_of_lt_of_le (Nat.lt_of_lt_of_le hk h1.size) ha.size) (fun e => by have := hr k e.symm; omega)]
  rw [ha.block k (Nat.lt_of_lt_of_le hk h1.size) (by simp)]
  exact h1.block k hk hne
theorem cur_alloc {w : World} {base g : Nat} {zs : List Int} (h : Cur w base g zs) (o : Obj) : Cur (w.alloc o) base g zs :=
  cur_grown h (World.grownBy_alloc w o none) (by simp) (by simp)

end Go.Proofs.YtlfmefojcmpfeaaGreatDoor

/-! What the functions that draw versions answer: contracts for the walks: a version in memory of its own, of no more than a few short texts; conditions: the code lies in memory as told. -/
namespace Go.Proofs.YtlfmefojcmpfeaaGreatDoor
open Go.RowKit
set_option linter.unusedSimpArgs false
set_option linter.unusedVariables false
attribute [local go_sem ↓] Go.wp_at_zero Go.wp_at_succ

theorem Four.ice {w : World} {N : Nat} {t : TypeId} {c0 c1 c2 c3 : Value} (h : Four w N t c0 c1 c2 c3) (j : Nat) : w.frozen? ⟨N, j, none⟩ = false := vblk_frozen h j

theorem four_put {w : World} {R : Nat} {t : TypeId} {c0 c1 c2 c3 : Value} (h : Four w R t c0 c1 c2 c3) (v : Value) :
    Four (w.setCell ⟨R, 0, none⟩ v) R t v c1 c2 c3 ∧ Four (w.setCell ⟨R, 1, none⟩ v) R t c0 v c2 c3 ∧ Four (w.setCell ⟨R, 2, none⟩ v) R t c0 c1 v c3 ∧ Four (w.setCell ⟨R, 3, none⟩ v) R t c0 c1 c2 v := by
  refine ⟨?_, ?_, ?_, ?_⟩ <;> (unfold Four at *; rw [heap_setCell_same w R _ _ t v h]; rfl)
theorem four_far {w : World} {R N j : Nat} {t : TypeId} {c0 c1 c2 c3 : Value} (h : Four w R t c0 c1 c2 c3) (hn : R ≠ N) (v : Value) : Four (w.setCell ⟨N, j, none⟩ v) R t c0 c1 c2 c3 := (Below.heap_setCell w ⟨N, j, none⟩ v R hn).trans h
theorem owns_put {w : World} {base N j : Nat} {e t : TypeId} {u : Value} {n : Nat} {xs : List Value} {c0 c1 c2 c3 : Value} (h : w.ownsRow base e 1 u n xs) (hF : Four w N t c0 c1 c2 c3) (hne : t ≠ e) (v : Value) : (w.setCell ⟨N, j, none⟩ v).ownsRow base e 1 u n xs := by
  obtain ⟨h1, h2⟩ := h
  refine ⟨h1, ?_⟩
  rcases h2 with h2 | ⟨g, cap, cur, a, b, c, d⟩
  · exact .inl h2
  · have hg : g ≠ N := fun e1 => by
      subst e1
      unfold Four at hF
      rw [c] at hF
      simp only [Option.some.injEq, Obj.cells.injEq] at hF
      exact hne hF.2.1.symm
    exact .inr ⟨g, cap, cur, a, b, by rw [Below.heap_setCell _ _ _ _ hg]; exact c, d⟩
theorem row_four {w : World} {base N : Nat} {e t : TypeId} {u : Value} {n : Nat} {xs : List Value} {c0 c1 c2 c3 : Value} (h : w.ownsRow base e 1 u n xs) (hF : Four w N t c0 c1 c2 c3) (hne : t ≠ e) : u.ownBlock ≠ some N := by
  rcases h.2 with ⟨rfl, _⟩ | ⟨g, cap, cur, rfl, b, c, d⟩
  · simp [Value.ownBlock]
  · intro e1
    simp only [Value.ownBlock, Option.some.injEq] at e1
    subst e1
    unfold Four at hF
    rw [c] at hF
    simp only [Option.some.injEq, Obj.cells.injEq] at hF
    exact hne hF.2.1.symm
theorem cur_put {w : World} {base g N j : Nat} {zs : List Int} (h : Cur w base g zs) (hb : base ≤ N) (hn : g ≠ N) (v : Value) : Cur (w.setCell ⟨N, j, none⟩ v) base g zs :=
  cur_grown h (grown_set w N j v) (fun k hk => by injection hk; omega) (fun e => by injection e; omega)
theorem grown_put {w0 w : World} {r : Option Nat} {N j : Nat} (h : w0.grownBy w r) (hN : w0.heap.size ≤ N) (v : Value) : w0.grownBy (w.setCell ⟨N, j, none⟩ v) r :=
  ⟨h.os, h.tape, h.output, by simpa [World.setCell] using h.size, fun k hk hne => (Below.heap_setCell w ⟨N, j, none⟩ v k (by simp; omega)).trans (h.block k hk hne)⟩
/-- A version that is stored whole. -/
theorem put_all {w0 w : World} {base g N : Nat} {zs : List Int} {e t : TypeId} {u : Value} {n : Nat} {xs : List Value} {c0 c1 c2 c3 : Value} {r : Option Nat} (hO : w.ownsRow w0.heap.size e 1 u n xs) (hF : Four w N t c0 c1 c2 c3) (hne : t ≠ e) (hc : Cur w base g zs) (hb : base ≤ N) (hgN : g ≠ N) (hG : w0.grownBy w r) (hN : w0.heap.size ≤ N) (v0 v1 v2 v3 : Value) :
    ((((w.setCell ⟨N, 0, none⟩ v0).setCell ⟨N, 1, none⟩ v1).setCell ⟨N, 2, none⟩ v2).setCell ⟨N, 3, none⟩ v3).ownsRow w0.heap.size e 1 u n xs ∧ Cur ((((w.setCell ⟨N, 0, none⟩ v0).setCell ⟨N, 1, none⟩ v1).setCell ⟨N, 2, none⟩ v2).setCell ⟨N, 3, none⟩ v3) base g zs ∧ w0.grownBy ((((w.setCell ⟨N, 0, none⟩ v0).setCell ⟨N, 1, none⟩ v1).setCell ⟨N, 2, none⟩ v2).setCell ⟨N, 3, none⟩ v3) r :=
  ⟨owns_put (owns_put (owns_put (owns_put hO hF hne v0) (four_put hF v0).1 hne v1) (four_put (four_put hF v0).1 v1).2.1 hne v2) (four_put (four_put (four_put hF v0).1 v1).2.1 v2).2.2.1 hne v3,
   cur_put (cur_put (cur_put (cur_put hc hb hgN v0) hb hgN v1) hb hgN v2) hb hgN v3, grown_put (grown_put (grown_put (grown_put hG hN v0) hN v1) hN v2) hN v3⟩

/-- What is drawn is small. -/
def smallP (n : Nat) (ps : List ByteArray) : Prop := ps.length ≤ n ∧ ∀ t ∈ ps, t.size ≤ 9
def pre1 : List ByteArray := [⟨#[48]⟩, ⟨#[49]⟩, ⟨#[49, 48]⟩, ⟨#[97]⟩, ⟨#[114, 99]⟩, ⟨#[98, 45, 49]⟩]
def pre2 : List ByteArray := [⟨#[48]⟩, ⟨#[50]⟩, ⟨#[120]⟩]
theorem pre1_small : ∀ t ∈ pre1, t.size ≤ 9 := by decide +kernel
theorem pre2_small : ∀ t ∈ pre2, t.size ≤ 9 := by decide +kernel

theorem grown_drewl {a b : World} {r : Option Nat} (h : a.drew.grownBy b r) : a.grownBy b r := ⟨h.os, h.tape, h.output, h.size, h.block⟩

theorem str_at (base g : Nat) (zs : List Int) (xs : List ByteArray) (w : World) (hc : Cur w base g zs) (hm : 0 < xs.length) (hm2 : xs.length ≤ 1048576) :
    Calls Tryz.prog 71 #[.pointer (some ⟨g, 0, none⟩), .slice (some ⟨w.heap.size, 0, none⟩) xs.length xs.length] (w.alloc (.cells (xs.map Value.string).toArray 9)) fun e w' => ∃ t, t ∈ xs ∧ e = .returned (.string t) ∧ Cur w' base g zs ∧ (w.alloc (.cells (xs.map Value.string).toArray 9)).grownBy w' (some g) :=
  str_c base g zs w.heap.size xs.length xs _ (cur_alloc hc _) hm hm2 (by have := cur_lt hc; omega) (lit_strs w xs)

theorem str_at_d (base g : Nat) (zs : List Int) (xs : List ByteArray) (w : World) (hc : Cur w base g zs) (hm : 0 < xs.length) (hm2 : xs.length ≤ 1048576) :
    Calls Tryz.prog 71 #[.pointer (some ⟨g, 0, none⟩), .slice (some ⟨w.heap.size, 0, none⟩) xs.length xs.length] (w.alloc (.cells (xs.map Value.string).toArray 9)).drew fun e w' => ∃ t, t ∈ xs ∧ e = .returned (.string t) ∧ Cur w' base g zs ∧ (w.alloc (.cells (xs.map Value.string).toArray 9)).drew.grownBy w' (some g) :=
  str_at base g zs xs w.drew hc hm hm2

/-- A drawn version: its numbers are at most 2. -/
def small3 (a b c : Int) (ps : List ByteArray) : Prop := smallP 2 ps ∧ (0 ≤ a ∧ a ≤ 2) ∧ (0 ≤ b ∧ b ≤ 2) ∧ (0 ≤ c ∧ c ≤ 2)

set_option maxHeartbeats 4000000 in
set_option maxRecDepth 100000 in
theorem draw3_c (base g : Nat) (zs : List Int) (w : World) (hc : Cur w base g zs) (hbw : base ≤ w.heap.size) :
    Calls Tryz.prog 79 #[.pointer (some ⟨g, 0, none⟩)] w fun e w' => ∃ (a b c : Int) (u : Value) (ps : List ByteArray), e = .returned (.agg #[.int .i64 a, .int .i64 b, .int .i64 c, u]) ∧ w'.ownsRow w.heap.size 9 1 u ps.length (strsV ps) ∧ small3 a b c ps ∧ Cur w' base g zs ∧ w.grownBy w' (some g) := by
  obtain ⟨i0, hi, hz0, hz1, hz2⟩ := info_parts infoS
  have hlt := cur_lt hc
  have A0 := four_new w 30 (.int .i64 0) (.int .i64 0) (.int .i64 0) (.slice none 0 0)
  have g0 := World.grownBy_alloc w (.cells #[.int .i64 0, .int .i64 0, .int .i64 0, .slice none 0 0] 30) (some g)
  have c0 := cur_alloc hc (.cells #[.int .i64 0, .int .i64 0, .int .i64 0, .slice none 0 0] 30)
  go_enter Tryz.func79, Tryz.ntmps79
  go_wp2_with fail
  go_at_call 77
  refine (below_c base g zs 3 _ c0).mono ?_
  rintro e w1 ⟨a, rfl, ha, c1, g1⟩
  go_wp2_with fail
  go_at_call 77
  refine (below_c base g zs 3 _ c1).mono ?_
  rintro e w2 ⟨b, rfl, hb, c2, g2⟩
  go_wp2_with fail
  go_at_call 77
  refine (below_c base g zs 3 _ c2).mono ?_
  rintro e w3 ⟨c, rfl, hcc, c3, g3⟩
  have hne : (some g) ≠ some w.heap.size := by simp; omega
  have A3 := ((A0.turned g1 hne).turned g2 hne).turned g3 hne
  have G3 := grown_trans (grown_trans (grown_trans g0 g1) g2) g3
  have l3 := cur_lt c3
  have lA3 := A3.lt
  have HIN : Hid ((0 ≤ (a : Int) ∧ (a : Int) ≤ 2) ∧ (0 ≤ (b : Int) ∧ (b : Int) ≤ 2) ∧ (0 ≤ (c : Int) ∧ (c : Int) ≤ 2)) := by have := ha (by omega); have := hb (by omega); have := hcc (by omega); exact ⟨⟨by omega, by omega⟩, ⟨by omega, by omega⟩, by omega, by omega⟩
  clear A0 g0 c0 g1 g2 g3 c1 c2 ha hb hcc
  have B4 := four_new w3 30 (.int .i64 (a : Int)) (.int .i64 (b : Int)) (.int .i64 (c : Int)) (.slice none 0 0)
  have A4 := four_old A3 (.cells #[.int .i64 (a : Int), .int .i64 (b : Int), .int .i64 (c : Int), .slice none 0 0] 30)
  have c4 := cur_alloc c3 (.cells #[.int .i64 (a : Int), .int .i64 (b : Int), .int .i64 (c : Int), .slice none 0 0] 30)
  have G4 := grown_trans G3 (World.grownBy_alloc w3 (.cells #[.int .i64 (a : Int), .int .i64 (b : Int), .int .i64 (c : Int), .slice none 0 0] 30) (some g))
  have hneV : (some g) ≠ some w3.heap.size := by simp; omega
  go_wp2_with fail
  go_at_call 76
  refine (once_c base g zs 3 _ c4).mono ?_
  rintro e w5 ⟨o1, rfl, c5, g5⟩
  have A5 := A4.turned g5 hne
  have B5 := B4.turned g5 hneV
  have G5 := grown_trans G4 g5
  obtain ⟨V, hV⟩ : ∃ V, V = w3.heap.size := ⟨_, rfl⟩
  have lVA : w.heap.size < V := by omega
  rw [← hV] at B5 hneV ⊢
  clear A4 B4 c4 G4 g5 A3 G3 c3 l3 lA3 hV
  obtain ⟨x0, x1, x2, x3⟩ := A5.cells
  have fx := A5.ice
  obtain ⟨y0, y1, y2, y3⟩ := B5.cells
  have fy := B5.ice
  have lV := B5.lt
  go_upto_if 12 with (fail)
  go_cut [] (fun wc => ∃ (u : Value) (ps : List ByteArray), wc.ownsRow w.heap.size 9 1 u ps.length (strsV ps) ∧ smallP 2 ps ∧ Four wc V 30 (.int .i64 (a : Int)) (.int .i64 (b : Int)) (.int .i64 (c : Int)) u ∧ Four wc w.heap.size 30 (.int .i64 0) (.int .i64 0) (.int .i64 0) (.slice none 0 0) ∧ Cur wc base g zs ∧ w.grownBy wc (some g))
  case rest =>
    obtain ⟨u, ps, hO, hS, hB, hA, hC, hG⟩ := hcut
    clear x0 x1 x2 x3 y0 y1 y2 y3 fx fy A5 B5 c5 G5 lV
    obtain ⟨x0, x1, x2, x3⟩ := hA.cells
    have fx := hA.ice
    obtain ⟨y0, y1, y2, y3⟩ := hB.cells
    obtain ⟨q, n, cap, rfl⟩ : ∃ q n cap, u = .slice q n cap := by rcases hO.2 with ⟨rfl, _⟩ | ⟨g, cap, cur, rfl, _⟩ <;> exact ⟨_, _, _, rfl⟩
    have lA := hA.lt
    go_wp2_with fail
    refine bodyPost_ret (v := .agg #[.int .i64 a, .int .i64 b, .int .i64 c, .slice q n cap]) (by simp [results, Tryz.results79, go_sem, x0, x1, x2, x3]) rfl ⟨a, b, c, _, ps, rfl, ?_, ⟨hS, HIN.out⟩, ?_, ?_⟩
    · exact (put_all hO hA (by decide) hC hbw (by omega) hG (Nat.le_refl _) _ _ _ _).1
    · exact (put_all hO hA (by decide) hC hbw (by omega) hG (Nat.le_refl _) _ _ _ _).2.1
    · exact (put_all hO hA (by decide) hC hbw (by omega) hG (Nat.le_refl _) _ _ _ _).2.2
  case first =>
    cases o1 with
    | false =>
      go_wp2_with fail
      go_meet
      case rel => exact ⟨_, [], World.ownsRow_nil _ _ _ _, ⟨by simp, by simp⟩, B5, A5, c5, G5⟩
    | true =>
      have HS1 := str_at_d base g zs pre1 w5 c5 (by decide) (by decide)
      go_wp2_with fail
      go_cut [] (fun wc => ∃ (gg cap : Nat) (t : ByteArray), t.size ≤ 9 ∧ wc.ownsRow w.heap.size 9 1 (.slice (some ⟨gg, 0, none⟩) 1 cap) 1 (strsV [t]) ∧ Four wc V 30 (.int .i64 (a : Int)) (.int .i64 (b : Int)) (.int .i64 (c : Int)) (.slice (some ⟨gg, 0, none⟩) 1 cap) ∧ Four wc w.heap.size 30 (.int .i64 0) (.int .i64 0) (.int .i64 0) (.slice none 0 0) ∧ Cur wc base g zs ∧ w.grownBy wc (some g))
      case first =>
        go_region_law (first
          | (go_simp; go_at_call 71
             refine HS1.mono ?_
             rintro e w6 ⟨t, ht, rfl, c6, g6⟩
             have B6 := (four_old B5 (.cells (pre1.map Value.string).toArray 9)).drew.turned g6 hneV
             have A6 := (four_old A5 (.cells (pre1.map Value.string).toArray 9)).drew.turned g6 hne
             obtain ⟨z0, z1, z2, z3⟩ := B6.cells
             have fz := B6.ice
             have lz := B6.lt
             have G6 : w.grownBy w6 (some g) := grown_trans (grown_trans G5 (World.grownBy_alloc w5 (.cells (pre1.map Value.string).toArray 9) (some g))) (grown_drewl g6)
             have hb6 : w.heap.size ≤ (w6.alloc (.cells #[.string t] 9)).heap.size := by have := G6.size; simp; omega
             have hnil : (w6.alloc (.cells #[.string t] 9)).ownsRow w.heap.size 9 1 (.slice none 0 0) 0 [] := World.ownsRow_nil _ _ _ _
             have HN : Hid (∀ j u, (strsV [t])[j]? = some u → (w6.alloc (.cells #[.string t] 9)).cell? ((⟨w6.heap.size, 0, none⟩ : Addr).add j) = some u) := cell_one_new _ _ _)
          | ((refine step_append_lies _ (by rfl) _ _ _ (by rfl) w.heap.size 9 i0 _ 1 16 Tryz.underlying28 hi hz0 hz1 hz2 rfl (by omega) (.slice none 0 0) 0 [] (by rfl) hnil ⟨w6.heap.size, 0, none⟩ 1 1 (strsV [t]) (by rfl) (by rfl) HN.out (fun u hu => by simp [strsV] at hu; subst hu; rfl) (by omega) (by unfold maxLen; omega) (by omega) hb6 (w6.heap.size + 1) (by simp) ?_; intro gg cap w7 hown7 hgrow hat hlt7; have B7 := (four_old B6 (.cells #[.string t] 9)).turned hgrow (by simp [Value.ownBlock]); have A7 := (four_old A6 (.cells #[.string t] 9)).turned hgrow (by simp [Value.ownBlock]); have G7 : w.grownBy w7 (some g) := grown_own G6 hgrow (by simp [Value.ownBlock]); have c7 := cur_grown (cur_alloc c6 (.cells #[.string t] 9)) hgrow (by simp [Value.ownBlock]) (by simp [Value.ownBlock]); obtain ⟨k0, k1, k2, k3⟩ := B7.cells; have fk := B7.ice)))
        all_goals go_wp2_with fail
        all_goals go_meet
        all_goals exact ⟨gg, cap, t, pre1_small t ht, by simpa using owns_put (j := 3) hown7 B7 (by decide) (.slice (some ⟨gg, 0, none⟩) 1 cap), (four_put B7 (.slice (some ⟨gg, 0, none⟩) 1 cap)).2.2.2, four_far A7 (by omega) _, cur_put c7 (by omega) (fun e => hneV (by rw [e])) _, grown_put G7 (by omega) _⟩
      case rest =>
        obtain ⟨gg, cap, t, hts, hO, hB, hA, hC, hG⟩ := hcut
        clear x0 x1 x2 x3 y0 y1 y2 y3 fx fy A5 B5 c5 G5 lV HS1
        go_wp2_with fail
        go_at_call 76
        refine (once_c base g zs 3 _ hC).mono ?_
        rintro e w8 ⟨o2, rfl, c8, g8⟩
        have hrow : Value.ownBlock (.slice (some ⟨gg, 0, none⟩) 1 cap) ≠ some g := fun h => by have := (hO.lt g h).1; omega
        have O8 := hO.kept g8 (.inr hrow)
        have A8 := hA.turned g8 hne
        have B8 := hB.turned g8 hneV
        have G8 := grown_trans hG g8
        clear hO hA hB hC hG g8
        obtain ⟨y0, y1, y2, y3⟩ := B8.cells
        have fy := B8.ice
        have lV := B8.lt
        cases o2 with
        | false =>
          go_wp2_with fail
          go_meet
          case rel => exact ⟨_, [t], by simpa using O8, ⟨by simp, by simpa using hts⟩, B8, A8, c8, G8⟩
        | true =>
          have HS2 := str_at_d base g zs pre2 w8 c8 (by decide) (by decide)
          go_wp2_with fail
          go_region_law (first
            | (go_simp; go_at_call 71
               refine HS2.mono ?_
               rintro e w9 ⟨t2, ht2, rfl, c9, g9⟩
               have B9 := (four_old B8 (.cells (pre2.map Value.string).toArray 9)).drew.turned g9 hneV
               have A9 := (four_old A8 (.cells (pre2.map Value.string).toArray 9)).drew.turned g9 hne
               have O9 := ((O8.alloc (.cells (pre2.map Value.string).toArray 9)).drew).kept g9 (.inr hrow)
               obtain ⟨z0, z1, z2, z3⟩ := B9.cells
               have fz := B9.ice
               have lz := B9.lt
               have G9 : w.grownBy w9 (some g) := grown_trans (grown_trans G8 (World.grownBy_alloc w8 (.cells (pre2.map Value.string).toArray 9) (some g))) (grown_drewl g9)
               have hb9 : w.heap.size ≤ (w9.alloc (.cells #[.string t2] 9)).heap.size := by have := G9.size; simp; omega
               have hown := O9.alloc (.cells #[.string t2] 9)
               have HN : Hid (∀ j u, (strsV [t2])[j]? = some u → (w9.alloc (.cells #[.string t2] 9)).cell? ((⟨w9.heap.size, 0, none⟩ : Addr).add j) = some u) := cell_one_new _ _ _
               have hgb : ∀ k, Value.ownBlock (.slice (some ⟨gg, 0, none⟩) 1 cap) = some k → w.heap.size ≤ k := fun k hk => (O9.lt k hk).1
               have hgV : Value.ownBlock (.slice (some ⟨gg, 0, none⟩) 1 cap) ≠ some V := row_four O9 B9 (by decide)
               have hgN : Value.ownBlock (.slice (some ⟨gg, 0, none⟩) 1 cap) ≠ some w.heap.size := row_four O9 A9 (by decide))
            | ((refine step_append_lies _ (by rfl) _ _ _ (by rfl) w.heap.size 9 i0 _ 1 16 Tryz.underlying28 hi hz0 hz1 hz2 rfl (by omega) (.slice (some ⟨gg, 0, none⟩) 1 cap) 1 (strsV [t]) (by rfl) hown ⟨w9.heap.size, 0, none⟩ 1 1 (strsV [t2]) (by rfl) (by rfl) HN.out (fun u hu => by simp [strsV] at hu; subst hu; rfl) (by omega) (by unfold maxLen; omega) (by omega) hb9 (w9.heap.size + 1) (by simp) ?_; intro gg2 cap2 wA hownA hgrow hat hltA; have BA := (four_old B9 (.cells #[.string t2] 9)).turned hgrow hgV; have AA := (four_old A9 (.cells #[.string t2] 9)).turned hgrow hgN; have GA : w.grownBy wA (some g) := grown_own G9 hgrow hgb; have cA := cur_grown (cur_alloc c9 (.cells #[.string t2] 9)) hgrow (fun k hk => Nat.le_trans hbw (hgb k hk)) hrow; obtain ⟨k0, k1, k2, k3⟩ := BA.cells; have fk := BA.ice)))
          all_goals go_wp2_with fail
          all_goals go_meet
          all_goals exact ⟨.slice (some ⟨gg2, 0, none⟩) 2 cap2, [t, t2], by simpa [strsV] using owns_put (j := 3) hownA BA (by decide) (.slice (some ⟨gg2, 0, none⟩) 2 cap2), ⟨by simp, by simpa using ⟨hts, pre2_small t2 ht2⟩⟩, (four_put BA (.slice (some ⟨gg2, 0, none⟩) 2 cap2)).2.2.2, four_far AA (by omega) _, cur_put cA (by omega) (fun e => hneV (by rw [e])) _, grown_put GA (by omega) _⟩

theorem draw_c (base g : Nat) (zs : List Int) (w : World) (hc : Cur w base g zs) (hbw : base ≤ w.heap.size) :
    Calls Tryz.prog 79 #[.pointer (some ⟨g, 0, none⟩)] w fun e w' => ∃ (a b c : Int) (u : Value) (ps : List ByteArray), e = .returned (.agg #[.int .i64 a, .int .i64 b, .int .i64 c, u]) ∧ w'.ownsRow w.heap.size 9 1 u ps.length (strsV ps) ∧ smallP 2 ps ∧ Cur w' base g zs ∧ w.grownBy w' (some g) :=
  (draw3_c base g zs w hc hbw).mono fun e w' ⟨a, b, c, u, ps, h1, h2, h3, h4, h5⟩ => ⟨a, b, c, u, ps, h1, h2, h3.1, h4, h5⟩
end Go.Proofs.YtlfmefojcmpfeaaGreatDoor

/-! What the function that draws any version answers: a contract for the walks: a version in memory of its own, of no more than four short texts; conditions: the code lies in memory as told. -/
namespace Go.Proofs.YtlfmefojcmpfeaaGreatDoor
open Go.RowKit
set_option linter.unusedSimpArgs false
set_option linter.unusedVariables false
attribute [local go_sem ↓] Go.wp_at_zero Go.wp_at_succ

def bentInts : List Int := [-1, 9999, 10000]
def cutInts : List Int := [3, 4]
def bentPre : List ByteArray := [⟨#[]⟩, ⟨#[48, 49]⟩, ⟨#[110, 105, 110, 101, 45, 98, 121, 116, 101]⟩, ⟨#[97, 95]⟩, ⟨#[48, 48]⟩, ⟨#[101, 105, 103, 104, 116, 45, 98, 121]⟩]
def abcd : List ByteArray := [⟨#[97]⟩, ⟨#[98]⟩, ⟨#[99]⟩, ⟨#[100]⟩]
theorem bentPre_small : ∀ t ∈ bentPre, t.size ≤ 9 := by decide +kernel
theorem abcd_small : ∀ t ∈ abcd, t.size ≤ 9 := by decide +kernel

theorem int_at (base g : Nat) (zs : List Int) (xs : List Int) (w : World) (hc : Cur w base g zs) (hm : 0 < xs.length) (hm2 : xs.length ≤ 1048576) :
    Calls Tryz.prog 117 #[.pointer (some ⟨g, 0, none⟩), .slice (some ⟨w.heap.size, 0, none⟩) xs.length xs.length] (w.alloc (.cells (xs.map (Value.int .i64)).toArray 3)) fun e w' => ∃ j, j < xs.length ∧ e = .returned (.int .i64 (xs.getD j 0)) ∧ Cur w' base g zs ∧ (w.alloc (.cells (xs.map (Value.int .i64)).toArray 3)).grownBy w' (some g) :=
  int_c base g zs w.heap.size xs.length xs _ (cur_alloc hc _) hm hm2 (by have := cur_lt hc; omega) (lit_ints w xs)

theorem own_lower {w : World} {base base' : Nat} {e : TypeId} {v : Value} {n : Nat} {xs : List Value} (h : w.ownsRow base e 1 v n xs) (hb : base' ≤ base) : w.ownsRow base' e 1 v n xs := by
  obtain ⟨h1, h2⟩ := h
  refine ⟨h1, ?_⟩
  rcases h2 with h2 | ⟨g, cap, cur, a, b, c⟩
  · exact .inl h2
  · exact .inr ⟨g, cap, cur, a, Nat.le_trans hb b, c⟩
theorem small_more {ps : List ByteArray} (h : smallP 2 ps) : smallP 4 ps := ⟨by have := h.1; omega, h.2⟩
theorem small_snoc {ps : List ByteArray} {t : ByteArray} (h : smallP 2 ps) (ht : t.size ≤ 9) : smallP 4 (ps ++ [t]) := ⟨by have := h.1; simp; omega, fun x hx => by
  rcases List.mem_append.1 hx with h1 | h1
  · exact h.2 x h1
  · simp at h1; subst h1; exact ht⟩
theorem row_take {w : World} {base : Nat} {e : TypeId} {g n k cap : Nat} {xs : List Value} (h : w.ownsRow base e 1 (.slice (some ⟨g, 0, none⟩) n cap) n xs) (hk : k ≤ n) : w.ownsRow base e 1 (.slice (some ⟨g, 0, none⟩) k cap) k (xs.take k) := by
  have hl := h.1
  rcases h.2 with ⟨h, _⟩ | ⟨g', cap', cur, hv, hb, hg, hn, hc, hs, ht⟩
  · cases h
  · cases hv
    refine ⟨by simp; omega, .inr ⟨g, cap, cur, rfl, hb, hg, by omega, hc, hs, ?_⟩⟩
    rw [← ht, List.take_take, Nat.mul_one, Nat.mul_one, Nat.min_eq_left hk]

set_option maxHeartbeats 4000000 in
set_option maxRecDepth 100000 in
theorem any_c (base g : Nat) (zs : List Int) (w : World) (hc : Cur w base g zs) (hbw : base ≤ w.heap.size) :
    Calls Tryz.prog 119 #[.pointer (some ⟨g, 0, none⟩)] w fun e w' => ∃ (a b c : Int) (u : Value) (ps : List ByteArray), e = .returned (.agg #[.int .i64 a, .int .i64 b, .int .i64 c, u]) ∧ w'.ownsRow w.heap.size 9 1 u ps.length (strsV ps) ∧ smallP 4 ps ∧ Cur w' base g zs ∧ w.grownBy w' (some g) := by
  obtain ⟨i0, hi, hz0, hz1, hz2⟩ := info_parts infoS
  have hlt := cur_lt hc
  have A0 := four_new w 30 (.int .i64 0) (.int .i64 0) (.int .i64 0) (.slice none 0 0)
  have g0 := World.grownBy_alloc w (.cells #[.int .i64 0, .int .i64 0, .int .i64 0, .slice none 0 0] 30) (some g)
  have c0 := cur_alloc hc (.cells #[.int .i64 0, .int .i64 0, .int .i64 0, .slice none 0 0] 30)
  have hne : (some g) ≠ some w.heap.size := by simp; omega
  have hD := draw_c base g zs _ c0 (by simp; omega)
  go_enter Tryz.func119, Tryz.ntmps119
  go_wp2_with fail
  go_at_call 79
  refine hD.mono ?_
  rintro e w1 ⟨a, b, c, u, ps, rfl, o1, s1, c1, g1⟩
  have A1 := A0.turned g1 hne
  have G1 := grown_trans g0 g1
  have o1' : w1.ownsRow w.heap.size 9 1 u ps.length (strsV ps) := own_lower o1 (by simp)
  obtain ⟨q, n, cap, hu⟩ : ∃ q n cap, u = .slice q n cap := by rcases o1.2 with ⟨rfl, _⟩ | ⟨g, cap, cur, rfl, _⟩ <;> exact ⟨_, _, _, rfl⟩
  subst hu
  have hrow0 : ∀ k, Value.ownBlock (.slice q n cap) = some k → w.heap.size ≤ k := fun k hk => (o1'.lt k hk).1
  have l1 := A1.lt
  clear A0 g0 c0 o1 g1 hD
  have B2 := four_new w1 30 (.int .i64 a) (.int .i64 b) (.int .i64 c) (.slice q n cap)
  have A2 := four_old A1 (.cells #[.int .i64 a, .int .i64 b, .int .i64 c, .slice q n cap] 30)
  have c2 := cur_alloc c1 (.cells #[.int .i64 a, .int .i64 b, .int .i64 c, .slice q n cap] 30)
  have o2 := o1'.alloc (.cells #[.int .i64 a, .int .i64 b, .int .i64 c, .slice q n cap] 30)
  have G2 := grown_trans G1 (World.grownBy_alloc w1 (.cells #[.int .i64 a, .int .i64 b, .int .i64 c, .slice q n cap] 30) (some g))
  have hneV : (some g) ≠ some w1.heap.size := by have := cur_lt c1; simp; omega
  go_wp2_with fail
  go_at_call 77
  refine (below_c base g zs 8 _ c2).mono ?_
  rintro e w3 ⟨x, rfl, hx, c3, g3⟩
  have A3 := A2.turned g3 hne
  have B3 := B2.turned g3 hneV
  have hrow : Value.ownBlock (.slice q n cap) ≠ some g := fun h => by have := hrow0 g h; omega
  have O3 := o2.kept g3 (.inr hrow)
  have G3 := grown_trans G2 g3
  obtain ⟨V, hV⟩ : ∃ V, V = w1.heap.size := ⟨_, rfl⟩
  have lVA : w.heap.size < V := by omega
  rw [← hV] at B3 hneV ⊢
  clear A1 A2 B2 c1 c2 o1' o2 G1 G2 g3 hx hV l1
  obtain ⟨y0, y1, y2, y3⟩ := B3.cells
  have fy := B3.ice
  have lV := B3.lt
  obtain ⟨x0, x1, x2, x3⟩ := A3.cells
  have fx := A3.ice
  have l3 := A3.lt
  by_cases h0 : x = 0
  · subst h0
    have HI := int_at base g zs bentInts w3 c3 (by decide) (by decide)
    go_wp2_with fail
    go_at_call 117
    refine HI.mono ?_
    rintro e w4 ⟨j, hj, rfl, c4, g4⟩
    obtain ⟨m, hm⟩ : ∃ m, m = bentInts.getD j 0 := ⟨_, rfl⟩
    rw [← hm]
    have A4 := four_far (N := V) (j := 0) ((four_old A3 (.cells (bentInts.map (Value.int .i64)).toArray 3)).turned g4 hne) (by omega) (.int .i64 m)
    have B4' := (four_old B3 (.cells (bentInts.map (Value.int .i64)).toArray 3)).turned g4 hneV
    have O4' := (O3.alloc (.cells (bentInts.map (Value.int .i64)).toArray 3)).kept g4 (.inr hrow)
    have B4 := (four_put B4' (.int .i64 m)).1
    have O4 := owns_put (j := 0) O4' B4' (by decide) (.int .i64 m)
    have C4 := cur_put (j := 0) c4 (by omega : base ≤ V) (fun e => hneV (by rw [e])) (.int .i64 m)
    have G4 := grown_put (j := 0) (grown_trans (grown_trans G3 (World.grownBy_alloc w3 (.cells (bentInts.map (Value.int .i64)).toArray 3) (some g))) g4) (by omega : w.heap.size ≤ V) (.int .i64 m)
    obtain ⟨k0, k1, k2, k3⟩ := B4'.cells
    have fk := B4'.ice
    clear x0 x1 x2 x3 fx y0 y1 y2 y3 fy hm HI
    obtain ⟨p0, p1, p2, p3⟩ := A4.cells
    have fp := A4.ice
    obtain ⟨r0, r1, r2, r3⟩ := B4.cells
    go_wp2_with fail
    refine bodyPost_ret (v := .agg #[.int .i64 m, .int .i64 b, .int .i64 c, .slice q n cap]) (by simp [results, Tryz.results119, go_sem, p0, p1, p2, p3]) rfl ⟨m, b, c, _, ps, rfl, ?_, (small_more s1), ?_, ?_⟩
    · simpa using (put_all O4 A4 (by decide) C4 hbw (by omega) G4 (Nat.le_refl _) _ _ _ _).1
    · exact (put_all O4 A4 (by decide) C4 hbw (by omega) G4 (Nat.le_refl _) _ _ _ _).2.1
    · exact (put_all O4 A4 (by decide) C4 hbw (by omega) G4 (Nat.le_refl _) _ _ _ _).2.2
  by_cases h1 : x = 1
  · subst h1
    have HI := int_at base g zs bentInts w3 c3 (by decide) (by decide)
    go_wp2_with fail
    go_at_call 117
    refine HI.mono ?_
    rintro e w4 ⟨j, hj, rfl, c4, g4⟩
    obtain ⟨m, hm⟩ : ∃ m, m = bentInts.getD j 0 := ⟨_, rfl⟩
    rw [← hm]
    have A4 := four_far (N := V) (j := 2) ((four_old A3 (.cells (bentInts.map (Value.int .i64)).toArray 3)).turned g4 hne) (by omega) (.int .i64 m)
    have B4' := (four_old B3 (.cells (bentInts.map (Value.int .i64)).toArray 3)).turned g4 hneV
    have O4' := (O3.alloc (.cells (bentInts.map (Value.int .i64)).toArray 3)).kept g4 (.inr hrow)
    have B4 := (four_put B4' (.int .i64 m)).2.2.1
    have O4 := owns_put (j := 2) O4' B4' (by decide) (.int .i64 m)
    have C4 := cur_put (j := 2) c4 (by omega : base ≤ V) (fun e => hneV (by rw [e])) (.int .i64 m)
    have G4 := grown_put (j := 2) (grown_trans (grown_trans G3 (World.grownBy_alloc w3 (.cells (bentInts.map (Value.int .i64)).toArray 3) (some g))) g4) (by omega : w.heap.size ≤ V) (.int .i64 m)
    obtain ⟨k0, k1, k2, k3⟩ := B4'.cells
    have fk := B4'.ice
    clear x0 x1 x2 x3 fx y0 y1 y2 y3 fy hm HI
    obtain ⟨p0, p1, p2, p3⟩ := A4.cells
    have fp := A4.ice
    obtain ⟨r0, r1, r2, r3⟩ := B4.cells
    go_wp2_with fail
    refine bodyPost_ret (v := .agg #[.int .i64 a, .int .i64 b, .int .i64 m, .slice q n cap]) (by simp [results, Tryz.results119, go_sem, p0, p1, p2, p3]) rfl ⟨a, b, m, _, ps, rfl, ?_, (small_more s1), ?_, ?_⟩
    · simpa using (put_all O4 A4 (by decide) C4 hbw (by omega) G4 (Nat.le_refl _) _ _ _ _).1
    · exact (put_all O4 A4 (by decide) C4 hbw (by omega) G4 (Nat.le_refl _) _ _ _ _).2.1
    · exact (put_all O4 A4 (by decide) C4 hbw (by omega) G4 (Nat.le_refl _) _ _ _ _).2.2
  by_cases h2 : x = 2
  · subst h2
    have HS1 := str_at_d base g zs bentPre w3 c3 (by decide) (by decide)
    have hps : ps.length ≤ 2 := s1.1
    go_wp2_with fail
    go_region_law (first
      | (go_simp; go_at_call 71
         refine HS1.mono ?_
         rintro e w9 ⟨t2, ht2, rfl, c9, g9⟩
         have B9 := (four_old B3 (.cells (bentPre.map Value.string).toArray 9)).drew.turned g9 hneV
         have A9 := (four_old A3 (.cells (bentPre.map Value.string).toArray 9)).drew.turned g9 hne
         have O9 := ((O3.alloc (.cells (bentPre.map Value.string).toArray 9)).drew).kept g9 (.inr hrow)
         obtain ⟨z0, z1, z2, z3⟩ := B9.cells
         have fz := B9.ice
         have lz := B9.lt
         have G9 : w.grownBy w9 (some g) := grown_trans (grown_trans G3 (World.grownBy_alloc w3 (.cells (bentPre.map Value.string).toArray 9) (some g))) (grown_drewl g9)
         have hb9 : w.heap.size ≤ (w9.alloc (.cells #[.string t2] 9)).heap.size := by have := G9.size; simp; omega
         have hown := O9.alloc (.cells #[.string t2] 9)
         have HN : Hid (∀ j u, (strsV [t2])[j]? = some u → (w9.alloc (.cells #[.string t2] 9)).cell? ((⟨w9.heap.size, 0, none⟩ : Addr).add j) = some u) := cell_one_new _ _ _
         have hgV : Value.ownBlock (.slice q n cap) ≠ some V := row_four O9 B9 (by decide)
         have hgN : Value.ownBlock (.slice q n cap) ≠ some w.heap.size := row_four O9 A9 (by decide))
      | ((refine step_append_lies _ (by rfl) _ _ _ (by rfl) w.heap.size 9 i0 _ 1 16 Tryz.underlying28 hi hz0 hz1 hz2 rfl (by omega) (.slice q n cap) ps.length (strsV ps) (by rfl) hown ⟨w9.heap.size, 0, none⟩ 1 1 (strsV [t2]) (by rfl) (by rfl) HN.out (fun u hu => by simp [strsV] at hu; subst hu; rfl) (by omega) (by unfold maxLen; omega) (by omega) hb9 (w9.heap.size + 1) (by simp) ?_; intro gg2 cap2 wA hownA hgrow hat hltA; have BA := (four_old B9 (.cells #[.string t2] 9)).turned hgrow hgV; have AA := (four_old A9 (.cells #[.string t2] 9)).turned hgrow hgN; have GA : w.grownBy wA (some g) := grown_own G9 hgrow hrow0; have cA := cur_grown (cur_alloc c9 (.cells #[.string t2] 9)) hgrow (fun k hk => Nat.le_trans hbw (hrow0 k hk)) hrow; obtain ⟨k0, k1, k2, k3⟩ := BA.cells; have fk := BA.ice)))
    all_goals (
      have hO : (wA.setCell ⟨V, 3, none⟩ (.slice (some ⟨gg2, 0, none⟩) (ps.length + 1) cap2)).ownsRow w.heap.size 9 1 (.slice (some ⟨gg2, 0, none⟩) (ps.length + 1) cap2) (ps.length + 1) (strsV (ps ++ [t2])) := by simpa [strsV] using owns_put (j := 3) hownA BA (by decide) (.slice (some ⟨gg2, 0, none⟩) (ps.length + 1) cap2)
      have hB := (four_put BA (.slice (some ⟨gg2, 0, none⟩) (ps.length + 1) cap2)).2.2.2
      have hA := four_far (N := V) (j := 3) AA (by omega) (.slice (some ⟨gg2, 0, none⟩) (ps.length + 1) cap2)
      have hC := cur_put (j := 3) cA (by omega : base ≤ V) (fun e => hneV (by rw [e])) (.slice (some ⟨gg2, 0, none⟩) (ps.length + 1) cap2)
      have hG := grown_put (j := 3) GA (by omega : w.heap.size ≤ V) (.slice (some ⟨gg2, 0, none⟩) (ps.length + 1) cap2)
      clear x0 x1 x2 x3 fx y0 y1 y2 y3 fy HS1 A3 B3 O3 c3 G3 lV l3 hown HN hgrow hownA AA cA GA z0 z1 z2 z3 fz
      obtain ⟨p0, p1, p2, p3⟩ := hA.cells
      have fp := hA.ice
      obtain ⟨r0, r1, r2, r3⟩ := hB.cells
      have lA := hA.lt
      go_wp2_with fail
      refine bodyPost_ret (v := .agg #[.int .i64 a, .int .i64 b, .int .i64 c, .slice (some ⟨gg2, 0, none⟩) (ps.length + 1) cap2]) (by simp [results, Tryz.results119, go_sem, p0, p1, p2, p3]) rfl ⟨a, b, c, _, (ps ++ [t2]), rfl, ?_, (small_snoc s1 (bentPre_small t2 ht2)), ?_, ?_⟩
      · simpa using (put_all hO hA (by decide) hC hbw (by omega) hG (Nat.le_refl _) _ _ _ _).1
      · exact (put_all hO hA (by decide) hC hbw (by omega) hG (Nat.le_refl _) _ _ _ _).2.1
      · exact (put_all hO hA (by decide) hC hbw (by omega) hG (Nat.le_refl _) _ _ _ _).2.2)
  by_cases h3 : x = 3
  · subst h3
    have hO4 := World.ownsRow_lit w3 (abcd.map Value.string).toArray 4 (base := w.heap.size) (e := 9) (size := 1) (by omega) (by unfold maxLen; omega) rfl
    have c4 := cur_alloc c3 (.cells (abcd.map Value.string).toArray 9)
    have A4 := four_old A3 (.cells (abcd.map Value.string).toArray 9)
    have B4 := four_old B3 (.cells (abcd.map Value.string).toArray 9)
    have G4 := grown_trans G3 (World.grownBy_alloc w3 (.cells (abcd.map Value.string).toArray 9) (some g))
    have HI := int_at base g zs cutInts _ c4 (by decide) (by decide)
    have hsM : (w3.alloc (.cells (abcd.map Value.string).toArray 9)).heap.size = w3.heap.size + 1 := by simp
    rw [hsM] at HI
    clear hsM
    go_wp2_with fail
    go_at_call 117
    refine HI.mono ?_
    rintro e w4 ⟨j, hj, rfl, c5, g5⟩
    have A5 := (four_old A4 (.cells (cutInts.map (Value.int .i64)).toArray 3)).turned g5 hne
    have B5 := (four_old B4 (.cells (cutInts.map (Value.int .i64)).toArray 3)).turned g5 hneV
    have O5 := (hO4.alloc (.cells (cutInts.map (Value.int .i64)).toArray 3)).kept g5 (.inr (fun h => by have := cur_lt c3; simp [Value.ownBlock] at h; omega))
    have G5 := grown_trans (grown_trans G4 (World.grownBy_alloc _ (.cells (cutInts.map (Value.int .i64)).toArray 3) (some g))) g5
    obtain ⟨M, hM⟩ : ∃ M, M = w3.heap.size := ⟨_, rfl⟩
    rw [← hM] at O5 ⊢
    clear x0 x1 x2 x3 fx y0 y1 y2 y3 fy hM HI A4 B4 hO4 c4 G4 g5 A3 B3 O3 c3 G3 lV l3
    obtain ⟨k0, k1, k2, k3⟩ := B5.cells
    have fk := B5.ice
    have hm : cutInts.getD j 0 = 3 ∨ cutInts.getD j 0 = 4 := by
      obtain rfl | rfl : j = 0 ∨ j = 1 := by have : cutInts.length = 2 := rfl; omega
      · exact .inl rfl
      · exact .inr rfl
    generalize cutInts.getD j 0 = m at hm ⊢
    rcases hm with rfl | rfl
    · have O6 := row_take (k := 3) O5 (by omega)
      have O7 := owns_put (j := 3) O6 B5 (by decide) (.slice (some ⟨M, 0, none⟩) 3 4)
      have hO : (w4.setCell ⟨V, 3, none⟩ (.slice (some ⟨M, 0, none⟩) 3 4)).ownsRow w.heap.size 9 1 (.slice (some ⟨M, 0, none⟩) 3 4) (abcd.take 3).length (strsV (abcd.take 3)) := O7
      have hB := (four_put B5 (.slice (some ⟨M, 0, none⟩) 3 4)).2.2.2
      have hA := four_far (N := V) (j := 3) A5 (by omega) (.slice (some ⟨M, 0, none⟩) 3 4)
      have hC := cur_put (j := 3) c5 (by omega : base ≤ V) (fun e => hneV (by rw [e])) (.slice (some ⟨M, 0, none⟩) 3 4)
      have hG := grown_put (j := 3) G5 (by omega : w.heap.size ≤ V) (.slice (some ⟨M, 0, none⟩) 3 4)
      obtain ⟨p0, p1, p2, p3⟩ := hA.cells
      have fp := hA.ice
      obtain ⟨r0, r1, r2, r3⟩ := hB.cells
      clear O6 O7
      go_wp2_with fail
      refine bodyPost_ret (v := .agg #[.int .i64 a, .int .i64 b, .int .i64 c, .slice (some ⟨M, 0, none⟩) 3 4]) (by simp [results, Tryz.results119, go_sem, p0, p1, p2, p3]) rfl ⟨a, b, c, _, (abcd.take 3), rfl, ?_, ⟨by decide, fun t ht => abcd_small t (List.mem_of_mem_take ht)⟩, ?_, ?_⟩
      · simpa using (put_all hO hA (by decide) hC hbw (by omega) hG (Nat.le_refl _) _ _ _ _).1
      · exact (put_all hO hA (by decide) hC hbw (by omega) hG (Nat.le_refl _) _ _ _ _).2.1
      · exact (put_all hO hA (by decide) hC hbw (by omega) hG (Nat.le_refl _) _ _ _ _).2.2
    · have O6 := row_take (k := 4) O5 (by omega)
      have O7 := owns_put (j := 3) O6 B5 (by decide) (.slice (some ⟨M, 0, none⟩) 4 4)
      have hO : (w4.setCell ⟨V, 3, none⟩ (.slice (some ⟨M, 0, none⟩) 4 4)).ownsRow w.heap.size 9 1 (.slice (some ⟨M, 0, none⟩) 4 4) (abcd.take 4).length (strsV (abcd.take 4)) := O7
      have hB := (four_put B5 (.slice (some ⟨M, 0, none⟩) 4 4)).2.2.2
      have hA := four_far (N := V) (j := 3) A5 (by omega) (.slice (some ⟨M, 0, none⟩) 4 4)
      have hC := cur_put (j := 3) c5 (by omega : base ≤ V) (fun e => hneV (by rw [e])) (.slice (some ⟨M, 0, none⟩) 4 4)
      have hG := grown_put (j := 3) G5 (by omega : w.heap.size ≤ V) (.slice (some ⟨M, 0, none⟩) 4 4)
      obtain ⟨p0, p1, p2, p3⟩ := hA.cells
      have fp := hA.ice
      obtain ⟨r0, r1, r2, r3⟩ := hB.cells
      clear O6 O7
      go_wp2_with fail
      refine bodyPost_ret (v := .agg #[.int .i64 a, .int .i64 b, .int .i64 c, .slice (some ⟨M, 0, none⟩) 4 4]) (by simp [results, Tryz.results119, go_sem, p0, p1, p2, p3]) rfl ⟨a, b, c, _, (abcd.take 4), rfl, ?_, ⟨by decide, fun t ht => abcd_small t (List.mem_of_mem_take ht)⟩, ?_, ?_⟩
      · simpa using (put_all hO hA (by decide) hC hbw (by omega) hG (Nat.le_refl _) _ _ _ _).1
      · exact (put_all hO hA (by decide) hC hbw (by omega) hG (Nat.le_refl _) _ _ _ _).2.1
      · exact (put_all hO hA (by decide) hC hbw (by omega) hG (Nat.le_refl _) _ _ _ _).2.2
  have e0 : ((x : Int) == 0) = false := by rw [beq_eq_false_iff_ne]; omega
  have e1 : ((x : Int) == 1) = false := by rw [beq_eq_false_iff_ne]; omega
  have e2 : ((x : Int) == 2) = false := by rw [beq_eq_false_iff_ne]; omega
  have e3 : ((x : Int) == 3) = false := by rw [beq_eq_false_iff_ne]; omega
  clear h0 h1 h2 h3
  go_wp2_with fail
  refine bodyPost_ret (v := .agg #[.int .i64 a, .int .i64 b, .int .i64 c, .slice q n cap]) (by simp [results, Tryz.results119, go_sem, x0, x1, x2, x3]) rfl ⟨a, b, c, _, ps, rfl, ?_, (small_more s1), ?_, ?_⟩
  · simpa using (put_all O3 A3 (by decide) c3 hbw (by omega) G3 (Nat.le_refl _) _ _ _ _).1
  · exact (put_all O3 A3 (by decide) c3 hbw (by omega) G3 (Nat.le_refl _) _ _ _ _).2.1
  · exact (put_all O3 A3 (by decide) c3 hbw (by omega) G3 (Nat.le_refl _) _ _ _ _).2.2
end Go.Proofs.YtlfmefojcmpfeaaGreatDoor

/-! What the functions that copy and draw versions answer: contracts for the walks; conditions: what comes in lies in memory as told. -/
namespace Go.Proofs.YtlfmefojcmpfeaaGreatDoor
open Go.RowKit
set_option linter.unusedSimpArgs false
set_option linter.unusedVariables false
attribute [local go_sem ↓] Go.wp_at_zero Go.wp_at_succ

theorem four_put4 {w : World} {R N : Nat} {t : TypeId} {c0 c1 c2 c3 : Value} (h : Four w R t c0 c1 c2 c3) (hn : R ≠ N) (v0 v1 v2 v3 : Value) : Four ((((w.setCell ⟨N, 0, none⟩ v0).setCell ⟨N, 1, none⟩ v1).setCell ⟨N, 2, none⟩ v2).setCell ⟨N, 3, none⟩ v3) R t c0 c1 c2 c3 :=
  four_far (four_far (four_far (four_far h hn v0) hn v1) hn v2) hn v3
theorem owns_put4 {w : World} {base N : Nat} {e t : TypeId} {u : Value} {n : Nat} {xs : List Value} {c0 c1 c2 c3 : Value} (hO : w.ownsRow base e 1 u n xs) (hF : Four w N t c0 c1 c2 c3) (hne : t ≠ e) (v0 v1 v2 v3 : Value) :
    ((((w.setCell ⟨N, 0, none⟩ v0).setCell ⟨N, 1, none⟩ v1).setCell ⟨N, 2, none⟩ v2).setCell ⟨N, 3, none⟩ v3).ownsRow base e 1 u n xs :=
  owns_put (owns_put (owns_put (owns_put hO hF hne v0) (four_put hF v0).1 hne v1) (four_put (four_put hF v0).1 v1).2.1 hne v2) (four_put (four_put (four_put hF v0).1 v1).2.1 v2).2.2.1 hne v3
theorem below_put4 {B : Nat} {w0 w : World} {N : Nat} (h : Below B w0 w) (hN : B ≤ N) (v0 v1 v2 v3 : Value) : Below B w0 ((((w.setCell ⟨N, 0, none⟩ v0).setCell ⟨N, 1, none⟩ v1).setCell ⟨N, 2, none⟩ v2).setCell ⟨N, 3, none⟩ v3) :=
  (((h.setCell (by simpa using hN) _).setCell (by simpa using hN) _).setCell (by simpa using hN) _).setCell (by simpa using hN) _

theorem four_three (w : World) (t : TypeId) (a0 a1 a2 a3 b0 b1 b2 b3 c0 c1 c2 c3 : Value) : Four (((w.alloc (.cells #[a0, a1, a2, a3] t)).alloc (.cells #[b0, b1, b2, b3] t)).alloc (.cells #[c0, c1, c2, c3] t)) w.heap.size t a0 a1 a2 a3 ∧ Four (((w.alloc (.cells #[a0, a1, a2, a3] t)).alloc (.cells #[b0, b1, b2, b3] t)).alloc (.cells #[c0, c1, c2, c3] t)) (w.heap.size + 1) t b0 b1 b2 b3 ∧ Four (((w.alloc (.cells #[a0, a1, a2, a3] t)).alloc (.cells #[b0, b1, b2, b3] t)).alloc (.cells #[c0, c1, c2, c3] t)) (w.heap.size + 1 + 1) t c0 c1 c2 c3 := by
  obtain ⟨h1, h2⟩ := four_two w t t a0 a1 a2 a3 b0 b1 b2 b3
  refine ⟨four_old h1 _, four_old h2 _, ?_⟩
  have h := four_new ((w.alloc (.cells #[a0, a1, a2, a3] t)).alloc (.cells #[b0, b1, b2, b3] t)) t c0 c1 c2 c3
  have s2 : ∀ o o', ((w.alloc o).alloc o').heap.size = w.heap.size + 1 + 1 := fun o o' => by simp
  rw [s2] at h
  exact h

set_option maxHeartbeats 2000000 in
set_option maxRecDepth 100000 in
theorem copy_c (a b c : Int) (u : Value) (ps : List ByteArray) (base : Nat) (w : World) (hu : w.ownsRow base 9 1 u ps.length (strsV ps)) (hn : ps.length ≤ 1048576) :
    Calls Tryz.prog 78 #[.agg #[.int .i64 a, .int .i64 b, .int .i64 c, u]] w fun e w' => ∃ u', e = .returned (.agg #[.int .i64 a, .int .i64 b, .int .i64 c, u']) ∧ w'.ownsRow w.heap.size 9 1 u' ps.length (strsV ps) ∧ Below w.heap.size w w' := by
  obtain ⟨i0, hi, hz0, hz1, hz2⟩ := info_parts infoS
  have hb3 : ∀ A R O, Below w.heap.size w (((w.alloc A).alloc R).alloc O) := fun A R O => (((Below.refl _ _).alloc (Nat.le_refl _) _).alloc (by simp) _).alloc (by simp; omega) _
  have hs3 : ∀ A R O, (((w.alloc A).alloc R).alloc O).heap.size = w.heap.size + 1 + 1 + 1 := fun A R O => by simp
  have LIT : Hid (∀ A R O, ((((w.alloc A).alloc R).alloc O).alloc (.cells #[] 9)).ownsRow w.heap.size 9 1 (.slice (some ⟨w.heap.size + 1 + 1 + 1, 0, none⟩) 0 0) 0 []) := fun A R O => by
    have ho := World.ownsRow_lit (((w.alloc A).alloc R).alloc O) #[] 0 (base := w.heap.size) (e := 9) (size := 1) (hb3 _ _ _).size (by unfold maxLen; omega) rfl
    rw [hs3] at ho
    exact ho
  have hb4 : ∀ A R O, Below w.heap.size w ((((w.alloc A).alloc R).alloc O).alloc (.cells #[] 9)) := fun A R O => (hb3 A R O).alloc (hb3 A R O).size _
  rcases hu.2 with ⟨rfl, h0⟩ | ⟨gu, cap, cur, rfl, hgu, hgh, _⟩
  · have hps : ps = [] := List.eq_nil_of_length_eq_zero h0
    subst hps
    clear hu
    go_enter Tryz.func78, Tryz.ntmps78
    go_wp2_with (at_builtin; refine wpList_append_own_none rfl _ _ 28 rfl w.heap.size 9 i0 1 Tryz.underlying28 hi (.slice (some ⟨w.heap.size + 1 + 1 + 1, 0, none⟩) 0 0) 0 [] rfl (LIT.out _ _ _) rfl ?_)
    exact bodyPost_ret (v := .agg #[.int .i64 a, .int .i64 b, .int .i64 c, .slice (some ⟨w.heap.size + 1 + 1 + 1, 0, none⟩) 0 0]) (by simp [results, Tryz.results78, go_sem]) rfl ⟨_, rfl, LIT.out _ _ _, hb4 _ _ _⟩
  · have hgl : gu < w.heap.size := (Array.getElem?_eq_some_iff.1 hgh).1
    obtain ⟨F0, F1, F2⟩ := four_three w 30 (.int .i64 a) (.int .i64 b) (.int .i64 c) (.slice (some ⟨gu, 0, none⟩) ps.length cap) (.int .i64 0) (.int .i64 0) (.int .i64 0) (.slice none 0 0) (.int .i64 a) (.int .i64 b) (.int .i64 c) (.slice (some ⟨gu, 0, none⟩) ps.length cap)
    have G1 := four_old F1 (.cells #[] 9)
    have G2 := four_old F2 (.cells #[] 9)
    have KB := hb4 (.cells #[.int .i64 a, .int .i64 b, .int .i64 c, .slice (some ⟨gu, 0, none⟩) ps.length cap] 30) (.cells #[.int .i64 0, .int .i64 0, .int .i64 0, .slice none 0 0] 30) (.cells #[.int .i64 a, .int .i64 b, .int .i64 c, .slice (some ⟨gu, 0, none⟩) ps.length cap] 30)
    have HN : Hid (∀ j u, (strsV ps)[j]? = some u → ((((w.alloc (.cells #[.int .i64 a, .int .i64 b, .int .i64 c, .slice (some ⟨gu, 0, none⟩) ps.length cap] 30)).alloc (.cells #[.int .i64 0, .int .i64 0, .int .i64 0, .slice none 0 0] 30)).alloc (.cells #[.int .i64 a, .int .i64 b, .int .i64 c, .slice (some ⟨gu, 0, none⟩) ps.length cap] 30)).alloc (.cells #[] 9)).cell? ((⟨gu, 0, none⟩ : Addr).add j) = some u) := fun j x hx => by
      have hj : j < ps.length := by have := (List.getElem?_eq_some_iff.1 hx).1; simpa using this
      have e : ((⟨gu, 0, none⟩ : Addr).add j) = ⟨gu, j, none⟩ := by unfold Addr.add; split <;> simp_all
      rw [e, KB.cell (p := ⟨gu, j, none⟩) hgl, hu.cellAt j (by simpa using hj), hx]
    clear F0 F1 F2 hgh
    go_enter Tryz.func78, Tryz.ntmps78
    go_wp2_with (at_builtin; refine wpList_append_own _ rfl _ _ 28 rfl w.heap.size 9 i0 (.string ⟨#[]⟩) 1 16 Tryz.underlying28 hi hz0 hz1 hz2 rfl (by decide) (.slice (some ⟨w.heap.size + 1 + 1 + 1, 0, none⟩) 0 0) 0 [] rfl (LIT.out _ _ _) ⟨gu, 0, none⟩ ps.length cap (strsV ps) rfl (by simp) HN.out (fun u hu => by simp [strsV] at hu; obtain ⟨t, _, rfl⟩ := hu; rfl) (by unfold maxLen; omega) (by omega) KB.size ?_)
    intro v2 w2 o2 gr2 _
    have X1 := G1.turned gr2 (fun h => by simp only [Value.ownBlock, Option.some.injEq] at h; omega)
    have X2 := G2.turned gr2 (fun h => by simp only [Value.ownBlock, Option.some.injEq] at h; omega)
    have KB2 := below_turned KB gr2 KB.size (fun k hk => by simp [Value.ownBlock] at hk; omega)
    obtain ⟨q2, n2, c2, hv2⟩ : ∃ q n c, v2 = .slice q n c := by rcases o2.2 with ⟨rfl, _⟩ | ⟨g, cap, cur, rfl, _⟩ <;> exact ⟨_, _, _, rfl⟩
    subst hv2
    have o3 : w2.ownsRow w.heap.size 9 1 (.slice q2 n2 c2) ps.length (strsV ps) := by simpa using o2
    obtain ⟨x0, x1, x2, x3⟩ := X1.cells
    have fx := X1.ice
    obtain ⟨y0, y1, y2, y3⟩ := X2.cells
    have fy := X2.ice
    clear gr2 o2 G1 G2 HN hu KB
    have O4 := owns_put (j := 3) o3 X2 (by decide) (.slice q2 n2 c2)
    have Y1 := four_far (N := w.heap.size + 1 + 1) (j := 3) X1 (by omega) (.slice q2 n2 c2)
    have KB3 := KB2.setCell (p := ⟨w.heap.size + 1 + 1, 3, none⟩) (by simp; omega) (.slice q2 n2 c2)
    go_wp2_with fail
    refine bodyPost_ret (v := .agg #[.int .i64 a, .int .i64 b, .int .i64 c, .slice q2 n2 c2]) (by simp [results, Tryz.results78, go_sem, x0, x1, x2, x3]) rfl ⟨_, rfl, ?_, ?_⟩
    · exact owns_put4 O4 Y1 (by decide) _ _ _ _
    · exact below_put4 KB3 (by omega) _ _ _ _

end Go.Proofs.YtlfmefojcmpfeaaGreatDoor
