/-
  Needs and commands, and rows of them, that are the same are told so by the law's own comparison: contracts for what lies in memory and holds at most 2 to the 20.
-/
import Derived.Test.YtbolphjigjpmiabPkA
namespace Go.Proofs.Ytbolphjigjpmiab
open Go.RowKit
set_option linter.unusedSimpArgs false
set_option linter.unusedVariables false

theorem boxTwo {w w1 : World} {A R : Obj} (hb : Below ((w.alloc A).alloc R).heap.size ((w.alloc A).alloc R) w1) : w1.heap[w.heap.size]? = some A ∧ w1.heap[w.heap.size + 1]? = some R := by
  have s1 : (w.alloc A).heap.size = w.heap.size + 1 := by simp
  refine ⟨?_, ?_⟩
  · rw [hb.block _ (by simp; omega), vheap_old _ _ (by simp), vheap_new]
  · rw [hb.block _ (by simp), ← s1, vheap_new]

set_option maxHeartbeats 2000000 in
set_option maxRecDepth 100000 in
theorem eqNeed_c (S S' : Nat → Prop) (d : NeedD) (cs cs' : List Value) (w : World) (hd : shNeed.lies S w cs d) (hd' : shNeed.lies S' w cs' d) (hB : ∀ b, S b → b < w.heap.size) (hB' : ∀ b, S' b → b < w.heap.size) (hw : wtNeed d ≤ 1048576) :
    Calls Try.prog 16 #[.agg cs.toArray, .agg cs'.toArray] w fun e w' => e = .returned (.bool true) ∧ Below w.heap.size w w' := by
  obtain ⟨rfl, xs_n, xs_r⟩ := hd
  obtain ⟨rfl, ys_n, ys_r⟩ := hd'
  have hb2 : ∀ A R, Below w.heap.size w ((w.alloc A).alloc R) := fun A R => ((Below.refl _ _).alloc (Nat.le_refl _) _).alloc (by simp) _
  unfold wtNeed at hw
  go_enter Try.func16, Try.ntmps16
  go_wp2_with fail
  go_ret
  exact ⟨rfl, (hb2 _ _)⟩

set_option maxHeartbeats 2000000 in
set_option maxRecDepth 100000 in
theorem eqNeedS_c (S S' : Nat → Prop) (v u : Value) (xs : List NeedD) (w : World) (hv : RowIn shNeed S w v xs) (hv' : RowIn shNeed S' w u xs) (hB : ∀ b, S b → b < w.heap.size) (hB' : ∀ b, S' b → b < w.heap.size) (hw : wtRow wtNeed xs ≤ 1048576) :
    Calls Try.prog 8 #[v, u] w fun e w' => e = .returned (.bool true) ∧ Below w.heap.size w w' := by
  obtain ⟨a, cap, rfl, hl, hc, ha⟩ := hv
  obtain ⟨a', cap', rfl, _, hc', ha'⟩ := hv'
  unfold maxLen at hl
  go_enter Try.func8, Try.ntmps8
  go_wp2_with fail
  go_loopw [5] (fun vi wr => ∃ k : Nat, k ≤ xs.length ∧ vi = .int .i64 (k : Int) ∧ Below w.heap.size w wr) (fun vi _ => xs.length - (intOf vi).toNat)
  case atStart => exact ⟨0, Nat.zero_le _, rfl, Below.refl _ _⟩
  case round =>
    obtain ⟨k, hk, rfl, hbr⟩ := hrel
    by_cases hlt' : k < xs.length
    · rcases ha with rfl | ⟨b, off, rfl, hlt, ha⟩
      · simp at hlt'
      rcases ha' with rfl | ⟨b', off', rfl, hlt3, ha'⟩
      · simp at hlt'
      obtain ⟨cs, hL, hcell⟩ := ha k hlt'
      obtain ⟨cs', hL', hcell'⟩ := ha' k hlt'
      have hwt : wtNeed xs[k] ≤ 1048576 := by have := wt_wtRow wtNeed (List.getElem_mem hlt'); omega
      have HC := eqNeed_c S S' xs[k] cs cs' wr.drew (shNeed.keep (.of hbr.drew hB) hL) (shNeed.keep (.of hbr.drew hB') hL') (fun b h => Nat.lt_of_lt_of_le (hB b h) hbr.size) (fun b h => Nat.lt_of_lt_of_le (hB' b h) hbr.size) hwt
      replace hL := shNeed.keep (.of hbr hB) hL
      replace hL' := shNeed.keep (.of hbr hB') hL'
      replace hcell := hcell.keep (.of hbr hB) hlt
      replace hcell' := hcell'.keep (.of hbr hB') hlt3
      obtain ⟨d, hd⟩ : ∃ d, d = xs[k] := ⟨_, rfl⟩
      rw [← hd] at hL hL' hwt
      clear ha ha' hd
      obtain ⟨rfl, xs_n, xs_r⟩ := hL
      obtain ⟨rfl, ys_n, ys_r⟩ := hL'
      clear xs_n xs_r ys_n ys_r
      have xv0 : wr.cell? ⟨b, off + k * 2, none⟩ = some (.string d.n) := hcell 0 (by simp)
      have xv1 : wr.cell? ⟨b, off + k * 2 + 1, none⟩ = some (.string d.r) := hcell 1 (by simp)
      have yv0 : wr.cell? ⟨b', off' + k * 2, none⟩ = some (.string d.n) := hcell' 0 (by simp)
      have yv1 : wr.cell? ⟨b', off' + k * 2 + 1, none⟩ = some (.string d.r) := hcell' 1 (by simp)
      have HC2 := hidden HC
      have hki : (k : Int) < (xs.length : Int) := by omega
      clear hcell hcell' HC hwt
      go_wp2_with fail
      go_region_with (go_at_call 16; refine HC2.out.mono ?_; rintro e w2 ⟨rfl, hb2⟩)
      all_goals go_wp2_with fail
      all_goals go_roundw
      all_goals first
        | exact ⟨k + 1, by omega, by go_num, hbr.drew.trans (hb2.mono hbr.size)⟩
        | (simp [intOf]; omega)
    · have he : k = xs.length := by omega
      subst he
      clear ha ha'
      go_wp2_with fail
      go_ret
      exact ⟨rfl, hbr⟩

set_option maxHeartbeats 2000000 in
set_option maxRecDepth 100000 in
theorem eqCmd_c (S S' : Nat → Prop) (d : CmdD) (cs cs' : List Value) (w : World) (hd : shCmd.lies S w cs d) (hd' : shCmd.lies S' w cs' d) (hB : ∀ b, S b → b < w.heap.size) (hB' : ∀ b, S' b → b < w.heap.size) (hw : wtCmd d ≤ 1048576) :
    Calls Try.prog 35 #[.agg cs.toArray, .agg cs'.toArray] w fun e w' => e = .returned (.bool true) ∧ Below w.heap.size w w' := by
  obtain ⟨xu0, rfl, xs_t, xr0, xp0⟩ := hd
  obtain ⟨yu0, rfl, ys_t, yr0, yp0⟩ := hd'
  have hb2 : ∀ A R, Below w.heap.size w ((w.alloc A).alloc R) := fun A R => ((Below.refl _ _).alloc (Nat.le_refl _) _).alloc (by simp) _
  unfold wtCmd at hw
  have HS0 : Hid (∀ w1, Below w.heap.size w w1 → Calls Try.prog 28 #[xu0, yu0] w1 fun e w' => e = .returned (.bool true) ∧ Below w1.heap.size w1 w') := fun w1 hb => by
    have := eqStrs_c xu0 yu0 d.acts d.acts w1 ((xr0.keep (.of hb hB)).reads (fun b h => Nat.lt_of_lt_of_le (hB b h) hb.size)) ((yr0.keep (.of hb hB')).reads (fun b h => Nat.lt_of_lt_of_le (hB' b h) hb.size)) (by unfold bulkS at hw; omega)
    rwa [decide_eq_true rfl] at this
  obtain ⟨xa0, xc0, xe0, _⟩ := id xr0
  rw [length_strsV] at xe0
  subst xe0
  clear xr0
  obtain ⟨ya0, yc0, ye0, _⟩ := id yr0
  rw [length_strsV] at ye0
  subst ye0
  clear yr0
  go_enter Try.func35, Try.ntmps35
  go_wp2_with fail
  go_at_call 28
  refine (HS0.out _ (hb2 _ _)).mono ?_
  rintro e w1 ⟨rfl, b1⟩
  obtain ⟨hA1, hR1⟩ := boxTwo b1
  have k1 : Below w.heap.size w w1 := (hb2 _ _).trans (b1.mono (hb2 _ _).size)
  go_wp2_with fail
  go_ret
  exact ⟨rfl, k1⟩

set_option maxHeartbeats 2000000 in
set_option maxRecDepth 100000 in
theorem eqCmdS_c (S S' : Nat → Prop) (v u : Value) (xs : List CmdD) (w : World) (hv : RowIn shCmd S w v xs) (hv' : RowIn shCmd S' w u xs) (hB : ∀ b, S b → b < w.heap.size) (hB' : ∀ b, S' b → b < w.heap.size) (hw : wtRow wtCmd xs ≤ 1048576) :
    Calls Try.prog 29 #[v, u] w fun e w' => e = .returned (.bool true) ∧ Below w.heap.size w w' := by
  obtain ⟨a, cap, rfl, hl, hc, ha⟩ := hv
  obtain ⟨a', cap', rfl, _, hc', ha'⟩ := hv'
  unfold maxLen at hl
  go_enter Try.func29, Try.ntmps29
  go_wp2_with fail
  go_loopw [5] (fun vi wr => ∃ k : Nat, k ≤ xs.length ∧ vi = .int .i64 (k : Int) ∧ Below w.heap.size w wr) (fun vi _ => xs.length - (intOf vi).toNat)
  case atStart => exact ⟨0, Nat.zero_le _, rfl, Below.refl _ _⟩
  case round =>
    obtain ⟨k, hk, rfl, hbr⟩ := hrel
    by_cases hlt' : k < xs.length
    · rcases ha with rfl | ⟨b, off, rfl, hlt, ha⟩
      · simp at hlt'
      rcases ha' with rfl | ⟨b', off', rfl, hlt3, ha'⟩
      · simp at hlt'
      obtain ⟨cs, hL, hcell⟩ := ha k hlt'
      obtain ⟨cs', hL', hcell'⟩ := ha' k hlt'
      have hwt : wtCmd xs[k] ≤ 1048576 := by have := wt_wtRow wtCmd (List.getElem_mem hlt'); omega
      have HC := eqCmd_c S S' xs[k] cs cs' wr.drew (shCmd.keep (.of hbr.drew hB) hL) (shCmd.keep (.of hbr.drew hB') hL') (fun b h => Nat.lt_of_lt_of_le (hB b h) hbr.size) (fun b h => Nat.lt_of_lt_of_le (hB' b h) hbr.size) hwt
      replace hL := shCmd.keep (.of hbr hB) hL
      replace hL' := shCmd.keep (.of hbr hB') hL'
      replace hcell := hcell.keep (.of hbr hB) hlt
      replace hcell' := hcell'.keep (.of hbr hB') hlt3
      obtain ⟨d, hd⟩ : ∃ d, d = xs[k] := ⟨_, rfl⟩
      rw [← hd] at hL hL' hwt
      clear ha ha' hd
      obtain ⟨xu0, rfl, xs_t, xr0, xp0⟩ := hL
      obtain ⟨yu0, rfl, ys_t, yr0, yp0⟩ := hL'
      clear xs_t xp0 ys_t yp0
      obtain ⟨xa0, xc0, xe0, _⟩ := id xr0
      rw [length_strsV] at xe0
      subst xe0
      clear xr0
      have xv0 : wr.cell? ⟨b, off + k * 2, none⟩ = some (.string d.t) := hcell 0 (by simp)
      have xv1 : wr.cell? ⟨b, off + k * 2 + 1, none⟩ = some (.slice xa0 d.acts.length xc0) := hcell 1 (by simp)
      obtain ⟨ya0, yc0, ye0, _⟩ := id yr0
      rw [length_strsV] at ye0
      subst ye0
      clear yr0
      have yv0 : wr.cell? ⟨b', off' + k * 2, none⟩ = some (.string d.t) := hcell' 0 (by simp)
      have yv1 : wr.cell? ⟨b', off' + k * 2 + 1, none⟩ = some (.slice ya0 d.acts.length yc0) := hcell' 1 (by simp)
      have HC2 := hidden HC
      have hki : (k : Int) < (xs.length : Int) := by omega
      clear hcell hcell' HC hwt
      go_wp2_with fail
      go_region_with (go_at_call 35; refine HC2.out.mono ?_; rintro e w2 ⟨rfl, hb2⟩)
      all_goals go_wp2_with fail
      all_goals go_roundw
      all_goals first
        | exact ⟨k + 1, by omega, by go_num, hbr.drew.trans (hb2.mono hbr.size)⟩
        | (simp [intOf]; omega)
    · have he : k = xs.length := by omega
      subst he
      clear ha ha'
      go_wp2_with fail
      go_ret
      exact ⟨rfl, hbr⟩

end Go.Proofs.Ytbolphjigjpmiab
