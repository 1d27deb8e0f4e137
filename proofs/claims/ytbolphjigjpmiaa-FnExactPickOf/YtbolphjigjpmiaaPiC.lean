/-
  What is the same is told so by the law's own comparison: contracts for what lies in memory and holds at most 2 to the 20.
-/
import Derived.Test.YtbolphjigjpmiaaPiA
import Derived.Test.YtbolphjigjpmiaaPkC
namespace Go.Proofs.Ytbolphjigjpmiaa
open Go.RowKit
set_option linter.unusedSimpArgs false
set_option linter.unusedVariables false

set_option maxHeartbeats 2000000 in
set_option maxRecDepth 100000 in
theorem eqPick_c (S S' : Nat → Prop) (d : PickD) (cs cs' : List Value) (w : World) (hd : shPick.lies S w cs d) (hd' : shPick.lies S' w cs' d) (hB : ∀ b, S b → b < w.heap.size) (hB' : ∀ b, S' b → b < w.heap.size) (hw : wtPick d ≤ 1048576) :
    Calls Try.prog 76 #[.agg cs.toArray, .agg cs'.toArray] w fun e w' => e = .returned (.bool true) ∧ Below w.heap.size w w' := by
  obtain ⟨xu0, rfl, xs_name, xr0, xp0⟩ := hd
  obtain ⟨yu0, rfl, ys_name, yr0, yp0⟩ := hd'
  have hb2 : ∀ A R, Below w.heap.size w ((w.alloc A).alloc R) := fun A R => ((Below.refl _ _).alloc (Nat.le_refl _) _).alloc (by simp) _
  unfold wtPick at hw
  have HS0 : Hid (∀ w1, Below w.heap.size w w1 → Calls Try.prog 31 #[.agg #[.int .i64 d.vA, .int .i64 d.vB, .int .i64 d.vC, xu0], .agg #[.int .i64 d.vA, .int .i64 d.vB, .int .i64 d.vC, yu0]] w1 fun e w' => e = .returned (.bool true) ∧ Below w1.heap.size w1 w') := fun w1 hb =>
    eqVer_c _ _ _ xu0 yu0 d.vP w1 ((xr0.keep (.of hb hB)).reads (fun b h => Nat.lt_of_lt_of_le (hB b h) hb.size)) ((yr0.keep (.of hb hB')).reads (fun b h => Nat.lt_of_lt_of_le (hB' b h) hb.size)) (by unfold bulkS at hw; omega)
  obtain ⟨xa0, xc0, xe0, _⟩ := id xr0
  rw [length_strsV] at xe0
  subst xe0
  clear xr0
  obtain ⟨ya0, yc0, ye0, _⟩ := id yr0
  rw [length_strsV] at ye0
  subst ye0
  clear yr0
  go_enter Try.func76, Try.ntmps76
  go_wp2_with fail
  go_at_call 31
  refine (HS0.out _ (hb2 _ _)).mono ?_
  rintro e w1 ⟨rfl, b1⟩
  obtain ⟨hA1, hR1⟩ := boxTwo b1
  have k1 : Below w.heap.size w w1 := (hb2 _ _).trans (b1.mono (hb2 _ _).size)
  go_wp2_with fail
  go_ret
  exact ⟨rfl, k1⟩

set_option maxHeartbeats 2000000 in
set_option maxRecDepth 100000 in
theorem eqPickS_c (S S' : Nat → Prop) (v u : Value) (xs : List PickD) (w : World) (hv : RowIn shPick S w v xs) (hv' : RowIn shPick S' w u xs) (hB : ∀ b, S b → b < w.heap.size) (hB' : ∀ b, S' b → b < w.heap.size) (hw : wtRow wtPick xs ≤ 1048576) :
    Calls Try.prog 32 #[v, u] w fun e w' => e = .returned (.bool true) ∧ Below w.heap.size w w' := by
  obtain ⟨a, cap, rfl, hl, hc, ha⟩ := hv
  obtain ⟨a', cap', rfl, _, hc', ha'⟩ := hv'
  unfold maxLen at hl
  go_enter Try.func32, Try.ntmps32
  go_wp2_with fail
  go_loopw [5] (fun vi wr => ∃ k : Nat, k ≤ xs.length ∧ vi = .int .i64 (k : Int) ∧ Below w.heap.size w wr) (fun vi _ => xs.length - (intOf vi).toNat)
  case atStart => exact ⟨0, Nat.zero_le _, rfl, Below.refl _ _⟩
  case round =>
    obtain ⟨k, hk, rfl, hbr⟩ := hrel
    by_cases hlt' : k < xs.length
    · rcases ha with rfl | ⟨b, off, rfl, hlt, ha⟩
      · simp at hlt'
      rcases ha' with rfl | ⟨b', off', rfl, hlt3, ha'⟩
      · simp at hlt'
      obtain ⟨cs, hL, hcell⟩ := ha k hlt'
      obtain ⟨cs', hL', hcell'⟩ := ha' k hlt'
      have hwt : wtPick xs[k] ≤ 1048576 := by have := wt_wtRow wtPick (List.getElem_mem hlt'); omega
      have HC := eqPick_c S S' xs[k] cs cs' wr.drew (shPick.keep (.of hbr.drew hB) hL) (shPick.keep (.of hbr.drew hB') hL') (fun b h => Nat.lt_of_lt_of_le (hB b h) hbr.size) (fun b h => Nat.lt_of_lt_of_le (hB' b h) hbr.size) hwt
      replace hL := shPick.keep (.of hbr hB) hL
      replace hL' := shPick.keep (.of hbr hB') hL'
      replace hcell := hcell.keep (.of hbr hB) hlt
      replace hcell' := hcell'.keep (.of hbr hB') hlt3
      obtain ⟨d, hd⟩ : ∃ d, d = xs[k] := ⟨_, rfl⟩
      rw [← hd] at hL hL' hwt
      clear ha ha' hd
      obtain ⟨xu0, rfl, xs_name, xr0, xp0⟩ := hL
      obtain ⟨yu0, rfl, ys_name, yr0, yp0⟩ := hL'
      clear xs_name xp0 ys_name yp0
      obtain ⟨xa0, xc0, xe0, _⟩ := id xr0
      rw [length_strsV] at xe0
      subst xe0
      clear xr0
      have xv0 : wr.cell? ⟨b, off + k * 5, none⟩ = some (.string d.name) := hcell 0 (by simp)
      have xv1 : wr.cell? ⟨b, off + k * 5 + 1, none⟩ = some (.int .i64 d.vA) := hcell 1 (by simp)
      have xv2 : wr.cell? ⟨b, off + k * 5 + 2, none⟩ = some (.int .i64 d.vB) := hcell 2 (by simp)
      have xv3 : wr.cell? ⟨b, off + k * 5 + 3, none⟩ = some (.int .i64 d.vC) := hcell 3 (by simp)
      have xv4 : wr.cell? ⟨b, off + k * 5 + 4, none⟩ = some (.slice xa0 d.vP.length xc0) := hcell 4 (by simp)
      obtain ⟨ya0, yc0, ye0, _⟩ := id yr0
      rw [length_strsV] at ye0
      subst ye0
      clear yr0
      have yv0 : wr.cell? ⟨b', off' + k * 5, none⟩ = some (.string d.name) := hcell' 0 (by simp)
      have yv1 : wr.cell? ⟨b', off' + k * 5 + 1, none⟩ = some (.int .i64 d.vA) := hcell' 1 (by simp)
      have yv2 : wr.cell? ⟨b', off' + k * 5 + 2, none⟩ = some (.int .i64 d.vB) := hcell' 2 (by simp)
      have yv3 : wr.cell? ⟨b', off' + k * 5 + 3, none⟩ = some (.int .i64 d.vC) := hcell' 3 (by simp)
      have yv4 : wr.cell? ⟨b', off' + k * 5 + 4, none⟩ = some (.slice ya0 d.vP.length yc0) := hcell' 4 (by simp)
      have HC2 := hidden HC
      have hki : (k : Int) < (xs.length : Int) := by omega
      clear hcell hcell' HC hwt
      go_wp2_with fail
      go_region_with (go_at_call 76; refine HC2.out.mono ?_; rintro e w2 ⟨rfl, hb2⟩)
      all_goals go_wp2_with fail
      all_goals go_roundw
      all_goals first
        | exact ⟨k + 1, by omega, by go_num, hbr.drew.trans (hb2.mono hbr.size)⟩
        | (simp [intOf]; omega)
    · have he : k = xs.length := by omega
      subst he
      clear ha ha'
      go_wp2_with fail
      go_ret
      exact ⟨rfl, hbr⟩

end Go.Proofs.Ytbolphjigjpmiaa
