/-
  What comes in of the laws' own type lies in memory: no condition.
-/
import Derived.Test.YtbolphjigjpmiaaOpenP
import Derived.Test.YtbolphjigjpmiaaPiA
namespace Go.Proofs.Ytbolphjigjpmiaa
open Go.ChangeShapes Go.WideShapes Go.ChangeAt Go.RowKit
set_option linter.unusedSimpArgs false
set_option linter.unusedVariables false

theorem olist5 {cs : List Value} (h : cs.length = 5) : ∃ c0 c1 c2 c3 c4, cs = [c0, c1, c2, c3, c4] := by
  match cs, h with
  | [c0, c1, c2, c3, c4], _ => exact ⟨c0, c1, c2, c3, c4, rfl⟩
set_option maxRecDepth 100000 in
theorem pick_of_trod {H : Type} {enc : TypeId × Value → H} {w : World} {spare : Nat → Bool} {held : Bool} (fuel : Nat) (cs : List Value) (x : DataW H × List MemPlace)
    (h : DataW.trod enc Try.prog w 0 spare held fuel 111 cs = some x) : ∃ d : PickD, shPick.lies (· < w.heap.size) w cs d := by
  obtain ⟨xs, n, rfl, _, hlen, hxl, hf⟩ := DataW.trod_struct Try.underlying111 h
  have hN : Try.prog.cellsOf 111 = 5 := by kernel_rfl
  obtain ⟨c0, c1, c2, c3, c4, rfl⟩ := olist5 (hlen.trans hN)
  have hx : ∀ i, i < 2 → ∃ y, xs[i]? = some y := fun i hi => ⟨xs[i]'(by rw [hxl]; exact hi), by rw [List.getElem?_eq_getElem]⟩
  obtain ⟨y0, e0⟩ := hx 0 (by omega)
  have k0 : Try.prog.cellsOf 9 = 1 := by kernel_rfl
  have f0 : DataW.trod enc Try.prog w 0 spare held n 9 [c0] = some y0 := by
    have h : DataW.trod enc Try.prog w 0 spare held n 9 ((([c0, c1, c2, c3, c4] : List Value).drop 0).take (Try.prog.cellsOf 9)) = some y0 := (hf 0 _ rfl).trans e0
    rw [k0] at h; exact h
  obtain ⟨y1, e1⟩ := hx 1 (by omega)
  have k1 : Try.prog.cellsOf 97 = 4 := by kernel_rfl
  have f1 : DataW.trod enc Try.prog w 0 spare held n 97 [c1, c2, c3, c4] = some y1 := by
    have h : DataW.trod enc Try.prog w 0 spare held n 97 ((([c0, c1, c2, c3, c4] : List Value).drop 1).take (Try.prog.cellsOf 97)) = some y1 := (hf 1 _ rfl).trans e1
    rw [k1] at h; exact h
  obtain ⟨t0, ht0, _, hl0⟩ := DataW.trod_string Try.underlying9 f0
  simp at ht0
  subst ht0
  obtain ⟨va1, vb1, vc1, vu1, vp1, hv1, hr1, hs1⟩ := ver_of_trod n _ _ f1
  simp at hv1
  obtain ⟨rfl, rfl, rfl, rfl⟩ := hv1
  exact ⟨⟨t0, va1, vb1, vc1, vp1⟩, _, rfl, hl0, RdB.of hr1, hs1⟩
set_option maxRecDepth 100000 in
theorem picks_of_trod {H : Type} {enc : TypeId × Value → H} {w : World} {spare : Nat → Bool} {held : Bool} (fuel : Nat) (c : Value) (x : DataW H × List MemPlace)
    (h : DataW.trod enc Try.prog w 0 spare held fuel 56 [c] = some x) : ∃ xs, RowIn shPick (· < w.heap.size) w c xs :=
  rows_of_trod shPick Try.underlying56 (by kernel_rfl) (by decide) (fun n cs y hh => pick_of_trod n cs y hh) fuel c x h

end Go.Proofs.Ytbolphjigjpmiaa
