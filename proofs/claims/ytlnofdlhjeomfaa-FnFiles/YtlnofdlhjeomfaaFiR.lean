/-
  The law's comparison of two lists of files: true where they are one list; conditions: both lie in memory.
-/
import Derived.Test.YtlnofdlhjeomfaaFiA
import Derived.Deep.RegionHeld
namespace Go.Proofs.Ytlnofdlhjeomfaa
open Go.RowKit Go.Maps
set_option linter.unusedSimpArgs false
set_option linter.unusedVariables false

set_option maxHeartbeats 4000000 in
set_option maxRecDepth 100000 in
theorem sameFiles_c (S S' : Nat → Prop) (v u : Value) (fs : List FileD) (w : World) (hv : FilesIn S w v fs) (hB : ∀ b, S b → b < w.heap.size) (hu : FilesIn S' w u fs) (hB' : ∀ b, S' b → b < w.heap.size) :
    Calls Try.prog 11 #[v, u] w fun e w' => e = .returned (.bool true) ∧ Below w.heap.size w w' := by
  obtain ⟨qa, ca, rfl, hl, hca, _, ha⟩ := hv
  obtain ⟨qb, cb, rfl, _, hcb, _, hb⟩ := hu
  unfold maxLen at hl
  have HAL : Hid (∀ i (hi : i < fs.length), ∃ b off, qa = some ⟨b, off, none⟩ ∧ ∀ w', Below w.heap.size w w' → w'.cell? ⟨b, off + i * 2, none⟩ = some (.string fs[i].p) ∧ w'.cell? ⟨b, off + i * 2 + 1, none⟩ = some (.string fs[i].t)) := fun i hi => by
    rcases ha with rfl | ⟨b, off, rfl, hlt, hc⟩
    · simp at hi
    · have hlt2 : b < w.heap.size := hB b hlt
      exact ⟨b, off, rfl, fun w' hw => ⟨(hw.cell (by simpa using hlt2)).trans (hc i hi).1, (hw.cell (by simpa using hlt2)).trans (hc i hi).2⟩⟩
  have HBL : Hid (∀ i (hi : i < fs.length), ∃ b off, qb = some ⟨b, off, none⟩ ∧ ∀ w', Below w.heap.size w w' → w'.cell? ⟨b, off + i * 2, none⟩ = some (.string fs[i].p) ∧ w'.cell? ⟨b, off + i * 2 + 1, none⟩ = some (.string fs[i].t)) := fun i hi => by
    rcases hb with rfl | ⟨b, off, rfl, hlt, hc⟩
    · simp at hi
    · have hlt2 : b < w.heap.size := hB' b hlt
      exact ⟨b, off, rfl, fun w' hw => ⟨(hw.cell (by simpa using hlt2)).trans (hc i hi).1, (hw.cell (by simpa using hlt2)).trans (hc i hi).2⟩⟩
  clear ha hb hB hB'
  go_enter Try.func11, Try.ntmps11
  go_wp2_with fail
  go_loopw [5] (fun vi wr => ∃ k : Nat, k ≤ fs.length ∧ vi = .int .i64 (k : Int) ∧ Below w.heap.size w wr) (fun vi _ => fs.length - (intOf vi).toNat)
  case atStart => exact ⟨0, Nat.zero_le _, rfl, Below.refl _ _⟩
  case round =>
    obtain ⟨k, hk, rfl, hbr⟩ := hrel
    by_cases hlt : k < fs.length
    · have hki : (k : Int) < (fs.length : Int) := by omega
      obtain ⟨ba, offa, rfl, hcA⟩ := HAL.out k hlt
      obtain ⟨bb, offb, rfl, hcB⟩ := HBL.out k hlt
      obtain ⟨d, hd⟩ : ∃ d, d = fs[k] := ⟨_, rfl⟩
      simp only [← hd] at hcA hcB
      have KEEP : Hid (∀ w', Below w.heap.size w w' → w'.cell? ⟨ba, offa + k * 2, none⟩ = some (.string d.p) ∧ w'.cell? ⟨ba, offa + k * 2 + 1, none⟩ = some (.string d.t) ∧ w'.cell? ⟨bb, offb + k * 2, none⟩ = some (.string d.p) ∧ w'.cell? ⟨bb, offb + k * 2 + 1, none⟩ = some (.string d.t)) := fun w' hw => ⟨(hcA w' hw).1, (hcA w' hw).2, (hcB w' hw).1, (hcB w' hw).2⟩
      have hd0 : Below w.heap.size w wr.drew := hbr.drew
      clear hcA hcB hd
      go_wp2_with fail
      refine wp_region_held_drew (S := (fun w' => w'.cell? ⟨ba, offa + k * 2, none⟩ = some (.string d.p) ∧ w'.cell? ⟨ba, offa + k * 2 + 1, none⟩ = some (.string d.t) ∧ w'.cell? ⟨bb, offb + k * 2, none⟩ = some (.string d.p) ∧ w'.cell? ⟨bb, offb + k * 2 + 1, none⟩ = some (.string d.t))) (by kernel_rfl) ?SR10 (fun hHeld => ?_)
      case SR10 => (with_reducible exact KEEP.out _ hd0)
      refine wpAnyH_take (i := 0) (oi := _) (v := ?vR10) rfl (by kernel_rfl) (by kernel_rfl) (by kernel_rfl) (fun _ _ _ h => h) (Or.inl ⟨by rfl, ?yR10⟩) hHeld ?_
      case yR10 => (intro w hSw; (try dsimp only at hSw); go_simp <;> with_reducible rfl)
      try simp only [Act.put, List.getElem_toArray, List.getElem_cons_zero, List.getElem_cons_succ, List.setIfInBounds_toArray, List.set_cons_zero, List.set_cons_succ]
      refine wpAnyH_take (i := 1) (oi := _) (v := ?vR11) rfl (by kernel_rfl) (by kernel_rfl) (by kernel_rfl) (fun _ _ _ h => h) (Or.inl ⟨by rfl, ?yR11⟩) hHeld ?_
      case yR11 => (intro w hSw; (try dsimp only at hSw); go_simp <;> with_reducible rfl)
      try simp only [Act.put, List.getElem_toArray, List.getElem_cons_zero, List.getElem_cons_succ, List.setIfInBounds_toArray, List.set_cons_zero, List.set_cons_succ]
      refine wpAnyH_take (i := 2) (oi := _) (v := ?vR12) rfl (by kernel_rfl) (by kernel_rfl) (by kernel_rfl) (fun _ _ _ h => h) (Or.inl ⟨by rfl, ?yR12⟩) hHeld ?_
      case yR12 => (intro w hSw; (try dsimp only at hSw); go_simp <;> with_reducible rfl)
      try simp only [Act.put, List.getElem_toArray, List.getElem_cons_zero, List.getElem_cons_succ, List.setIfInBounds_toArray, List.set_cons_zero, List.set_cons_succ]
      refine wpAnyH_take (i := 3) (oi := _) (v := ?vR13) rfl (by kernel_rfl) (by kernel_rfl) (by kernel_rfl) (fun _ _ _ h => h) (Or.inl ⟨by rfl, ?yR13⟩) hHeld ?_
      case yR13 => (intro w hSw; (try dsimp only at hSw); go_simp <;> with_reducible rfl)
      try simp only [Act.put, List.getElem_toArray, List.getElem_cons_zero, List.getElem_cons_succ, List.setIfInBounds_toArray, List.set_cons_zero, List.set_cons_succ]
      refine wpAnyH_take (i := 4) (oi := _) (v := ?vR14) rfl (by kernel_rfl) (by kernel_rfl) (by kernel_rfl) (fun _ _ _ h => h) (Or.inl ⟨by rfl, ?yR14⟩) hHeld ?_
      case yR14 => (intro w hSw; (try dsimp only at hSw); go_simp <;> with_reducible rfl)
      try simp only [Act.put, List.getElem_toArray, List.getElem_cons_zero, List.getElem_cons_succ, List.setIfInBounds_toArray, List.set_cons_zero, List.set_cons_succ]
      refine wpAnyH_take (i := 5) (oi := _) (v := ?vR15) rfl (by kernel_rfl) (by kernel_rfl) (by kernel_rfl) (fun _ _ _ h => h) (Or.inl ⟨by rfl, ?yR15⟩) hHeld ?_
      case yR15 => (intro w hSw; (try dsimp only at hSw); go_simp <;> with_reducible rfl)
      try simp only [Act.put, List.getElem_toArray, List.getElem_cons_zero, List.getElem_cons_succ, List.setIfInBounds_toArray, List.set_cons_zero, List.set_cons_succ]
      refine wpAnyH_take (i := 6) (oi := _) (v := ?vR16) rfl (by kernel_rfl) (by kernel_rfl) (by kernel_rfl) (fun _ _ _ h => h) (Or.inl ⟨by rfl, ?yR16⟩) hHeld ?_
      case yR16 => (intro w hSw; (try dsimp only at hSw); go_simp <;> with_reducible rfl)
      try simp only [Act.put, List.getElem_toArray, List.getElem_cons_zero, List.getElem_cons_succ, List.setIfInBounds_toArray, List.set_cons_zero, List.set_cons_succ]
      refine wpAnyH_take (i := 7) (oi := _) (v := ?vR17) rfl (by kernel_rfl) (by kernel_rfl) (by kernel_rfl) (fun _ _ _ h => h) (Or.inl ⟨by rfl, ?yR17⟩) hHeld ?_
      case yR17 => (intro w hSw; (try dsimp only at hSw); go_simp <;> with_reducible rfl)
      try simp only [Act.put, List.getElem_toArray, List.getElem_cons_zero, List.getElem_cons_succ, List.setIfInBounds_toArray, List.set_cons_zero, List.set_cons_succ]
      refine wpAnyH_take (i := 8) (oi := _) (v := ?vR18) rfl (by kernel_rfl) (by kernel_rfl) (by kernel_rfl) (fun _ _ _ h => h) (Or.inl ⟨by rfl, ?yR18⟩) hHeld ?_
      case yR18 => (intro w hSw; (try dsimp only at hSw); go_simp <;> with_reducible rfl)
      try simp only [Act.put, List.getElem_toArray, List.getElem_cons_zero, List.getElem_cons_succ, List.setIfInBounds_toArray, List.set_cons_zero, List.set_cons_succ]
      refine wpAnyH_done (by kernel_rfl) ?_ _
      clear hHeld
      go_wp2_with fail
      go_roundw
      case rel => exact ⟨k + 1, by omega, by go_num, hd0⟩
      case measure => simp [intOf]; omega
    · have hki : ¬ (k : Int) < (fs.length : Int) := by omega
      go_wp2_with fail
      go_ret
      exact ⟨rfl, hbr⟩
end Go.Proofs.Ytlnofdlhjeomfaa
