/-
  Two lists of Cmps, and two lists of such lists, that are the same are told so by the law's own comparison: contracts for what lies in memory.
-/
import Derived.Test.YtdnpfkknnaepoaaRgC
namespace Go.Proofs.Ytdnpfkknnaepoaa
open Go.RowKit
set_option linter.unusedSimpArgs false
set_option linter.unusedVariables false

set_option maxHeartbeats 2000000 in
set_option maxRecDepth 100000 in
theorem eqCmpS_c (S S' : Nat → Prop) (v u : Value) (ds : List CmpD) (w : World) (hv : CmpsIn S w v ds) (hv' : CmpsIn S' w u ds) (hB : ∀ b, S b → b < w.heap.size) (hB' : ∀ b, S' b → b < w.heap.size) (hw : wtC ds ≤ 1048576) :
    Calls Try.prog 61 #[v, u] w fun e w' => e = .returned (.bool true) ∧ Below w.heap.size w w' := by
  obtain ⟨a, cap, rfl, hl, hc, ha⟩ := hv
  obtain ⟨a', cap', rfl, _, hc', ha'⟩ := hv'
  unfold maxLen at hl
  go_enter Try.func61, Try.ntmps61
  go_wp2_with fail
  go_loopw [5] (fun vi wr => ∃ k : Nat, k ≤ ds.length ∧ vi = .int .i64 (k : Int) ∧ Below w.heap.size w wr) (fun vi _ => ds.length - (intOf vi).toNat)
  case atStart => exact ⟨0, Nat.zero_le _, rfl, Below.refl _ _⟩
  case round =>
    obtain ⟨k, hk, rfl, hbr⟩ := hrel
    by_cases hlt' : k < ds.length
    · rcases ha with rfl | ⟨b, off, us, rfl, hlt, ha⟩
      · simp at hlt'
      rcases ha' with rfl | ⟨b', off', us', rfl, hlt3, ha'⟩
      · simp at hlt'
      obtain ⟨e0, e1, e2, e3, e4, hu, hsn⟩ := ha k hlt'
      obtain ⟨g0, g1, g2, g3, g4, hu2, _⟩ := ha' k hlt'
      have hlt2 : b < w.heap.size := hB b hlt
      have hlt4 : b' < w.heap.size := hB' b' hlt3
      rw [← hbr.cell (by simpa using hlt2)] at e0 e1 e2 e3 e4
      rw [← hbr.cell (by simpa using hlt4)] at g0 g1 g2 g3 g4
      have hbk : bulkS ds[k].ps ≤ 1048576 := by have := bulk_wtC (List.getElem_mem hlt'); omega
      have hpl : ds[k].ps.length ≤ 1048576 := by unfold bulkS at hbk; omega
      have hr1 : Reads wr.drew (us k) (strsV ds[k].ps) := (hu.keep (.of hbr.drew hB)).reads (fun b h => Nat.lt_of_lt_of_le (hB b h) hbr.size)
      have hr2 : Reads wr.drew (us' k) (strsV ds[k].ps) := (hu2.keep (.of hbr.drew hB')).reads (fun b h => Nat.lt_of_lt_of_le (hB' b h) hbr.size)
      obtain ⟨d, hd⟩ : ∃ d, d = ds[k] := ⟨_, rfl⟩
      rw [← hd] at e0 e1 e2 e3 g0 g1 g2 g3 hr1 hr2 hpl
      obtain ⟨x, hx⟩ : ∃ x, x = us k := ⟨_, rfl⟩
      obtain ⟨x', hx'⟩ : ∃ x, x = us' k := ⟨_, rfl⟩
      rw [← hx] at e4 hr1
      rw [← hx'] at g4 hr2
      obtain ⟨uq, ucap, rfl, _, _⟩ := reads_strs hr1
      obtain ⟨uq', ucap', rfl, _, _⟩ := reads_strs hr2
      have hki : (k : Int) < (ds.length : Int) := by omega
      clear ha ha' hu hu2 hd hx hx' hbk hsn
      go_wp2_with fail
      go_region_with (go_at_call 28; refine (eqCmp_c _ _ _ _ _ _ d.ps wr.drew hr1 hr2 hpl).mono ?_; rintro e w2 ⟨rfl, hb2⟩)
      all_goals go_wp2_with fail
      all_goals go_roundw
      all_goals first
        | exact ⟨k + 1, by omega, by go_num, hbr.drew.trans (hb2.mono hbr.size)⟩
        | (simp [intOf]; omega)
    · have he : k = ds.length := by omega
      subst he
      clear ha ha'
      go_wp2_with fail
      go_ret
      exact ⟨rfl, hbr⟩

set_option maxHeartbeats 2000000 in
set_option maxRecDepth 100000 in
theorem eqCmpSS_c (S S' : Nat → Prop) (v u : Value) (dss : List (List CmpD)) (w : World) (hv : RangeIn S w v dss) (hv' : RangeIn S' w u dss) (hB : ∀ b, S b → b < w.heap.size) (hB' : ∀ b, S' b → b < w.heap.size) (hw : wtR dss ≤ 1048576) :
    Calls Try.prog 34 #[v, u] w fun e w' => e = .returned (.bool true) ∧ Below w.heap.size w w' := by
  obtain ⟨a, cap, rfl, hl, hc, ha⟩ := hv
  obtain ⟨a', cap', rfl, _, hc', ha'⟩ := hv'
  unfold maxLen at hl
  go_enter Try.func34, Try.ntmps34
  go_wp2_with fail
  go_loopw [5] (fun vi wr => ∃ k : Nat, k ≤ dss.length ∧ vi = .int .i64 (k : Int) ∧ Below w.heap.size w wr) (fun vi _ => dss.length - (intOf vi).toNat)
  case atStart => exact ⟨0, Nat.zero_le _, rfl, Below.refl _ _⟩
  case round =>
    obtain ⟨k, hk, rfl, hbr⟩ := hrel
    by_cases hlt' : k < dss.length
    · rcases ha with rfl | ⟨b, off, vs, rfl, hlt, ha⟩
      · simp at hlt'
      rcases ha' with rfl | ⟨b', off', vs', rfl, hlt3, ha'⟩
      · simp at hlt'
      obtain ⟨e0, hu⟩ := ha k hlt'
      obtain ⟨g0, hu2⟩ := ha' k hlt'
      have hlt2 : b < w.heap.size := hB b hlt
      have hlt4 : b' < w.heap.size := hB' b' hlt3
      rw [← hbr.cell (by simpa using hlt2)] at e0
      rw [← hbr.cell (by simpa using hlt4)] at g0
      have hwt : wtC dss[k] ≤ 1048576 := by have := wtC_wtR (List.getElem_mem hlt'); omega
      have hr1 : CmpsIn S wr.drew (vs k) dss[k] := hu.keep (.of hbr.drew hB)
      have hr2 : CmpsIn S' wr.drew (vs' k) dss[k] := hu2.keep (.of hbr.drew hB')
      have hBr : ∀ b, S b → b < wr.drew.heap.size := fun b h => Nat.lt_of_lt_of_le (hB b h) hbr.size
      have hBr' : ∀ b, S' b → b < wr.drew.heap.size := fun b h => Nat.lt_of_lt_of_le (hB' b h) hbr.size
      obtain ⟨d, hd⟩ : ∃ d, d = dss[k] := ⟨_, rfl⟩
      rw [← hd] at hr1 hr2 hwt
      obtain ⟨x, hx⟩ : ∃ x, x = vs k := ⟨_, rfl⟩
      obtain ⟨x', hx'⟩ : ∃ x, x = vs' k := ⟨_, rfl⟩
      rw [← hx] at e0 hr1
      rw [← hx'] at g0 hr2
      obtain ⟨uq, ucap, hu3, _⟩ := id hr1
      subst hu3
      obtain ⟨uq', ucap', hu3, _⟩ := id hr2
      subst hu3
      have hki : (k : Int) < (dss.length : Int) := by omega
      clear ha ha' hu hu2 hd hx hx'
      go_wp2_with fail
      go_region_with (go_at_call 61; refine (eqCmpS_c S S' _ _ d wr.drew hr1 hr2 hBr hBr' hwt).mono ?_; rintro e w2 ⟨rfl, hb2⟩)
      all_goals go_wp2_with fail
      all_goals go_roundw
      all_goals first
        | exact ⟨k + 1, by omega, by go_num, hbr.drew.trans (hb2.mono hbr.size)⟩
        | (simp [intOf]; omega)
    · have he : k = dss.length := by omega
      subst he
      clear ha ha'
      go_wp2_with fail
      go_ret
      exact ⟨rfl, hbr⟩
end Go.Proofs.Ytdnpfkknnaepoaa
