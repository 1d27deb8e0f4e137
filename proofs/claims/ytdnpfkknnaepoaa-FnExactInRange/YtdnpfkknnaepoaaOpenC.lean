/-
  What comes in as a Cmp of the laws' own type: four numbers, and a list of texts that lies in memory: no condition.
-/
import Derived.Test.YtdnpfkknnaepoaaOpenV
namespace Go.Proofs.Ytdnpfkknnaepoaa
open Go.ChangeShapes Go.WideShapes Go.ChangeAt Go.RowKit
set_option linter.unusedSimpArgs false
set_option linter.unusedVariables false

theorem vlist5 {cs : List Value} (h : cs.length = 5) : ∃ c0 c1 c2 c3 c4, cs = [c0, c1, c2, c3, c4] := by
  match cs, h with
  | [c0, c1, c2, c3, c4], _ => exact ⟨c0, c1, c2, c3, c4, rfl⟩

set_option maxRecDepth 100000 in
theorem cmp_of_trod {H : Type} {enc : TypeId × Value → H} {w : World} {spare : Nat → Bool} {held : Bool} (fuel : Nat) (cs : List Value) (x : DataW H × List MemPlace)
    (h : DataW.trod enc Try.prog w 0 spare held fuel 44 cs = some x) : ∃ o a b c u ps, cs = [.int .i64 o, .int .i64 a, .int .i64 b, .int .i64 c, u] ∧ Reads w u (strsV ps) ∧ saneP ps := by
  obtain ⟨xs, n, rfl, _, hlen, hxl, hf⟩ := DataW.trod_struct Try.underlying44 h
  have h5 : Try.prog.cellsOf 44 = 5 := by kernel_rfl
  obtain ⟨c0, c1, c2, c3, c4, rfl⟩ := vlist5 (hlen.trans h5)
  have hx : ∀ i, i < 2 → ∃ y, xs[i]? = some y := fun i hi => ⟨xs[i]'(by rw [hxl]; exact hi), by rw [List.getElem?_eq_getElem]⟩
  obtain ⟨y0, e0⟩ := hx 0 (by omega)
  obtain ⟨y1, e1⟩ := hx 1 (by omega)
  have k3 : Try.prog.cellsOf 3 = 1 := by kernel_rfl
  have kV : Try.prog.cellsOf 42 = 4 := by kernel_rfl
  have f0 : DataW.trod enc Try.prog w 0 spare held n 3 [c0] = some y0 := by
    have h : DataW.trod enc Try.prog w 0 spare held n 3 ((([c0, c1, c2, c3, c4] : List Value).drop 0).take (Try.prog.cellsOf 3)) = some y0 := (hf 0 _ rfl).trans e0
    rw [k3] at h; exact h
  have f1 : DataW.trod enc Try.prog w 0 spare held n 42 [c1, c2, c3, c4] = some y1 := by
    have h : DataW.trod enc Try.prog w 0 spare held n 42 ((([c0, c1, c2, c3, c4] : List Value).drop 1).take (Try.prog.cellsOf 42)) = some y1 := (hf 1 _ rfl).trans e1
    rw [kV] at h; exact h
  obtain ⟨k, hk, _, _⟩ := DataW.trod_int Try.underlying3 f0
  simp at hk
  subst hk
  obtain ⟨a, b, c, u, ps, hcs, hr, hsane⟩ := ver_of_trod n _ _ f1
  simp at hcs
  obtain ⟨rfl, rfl, rfl, rfl⟩ := hcs
  exact ⟨_, _, _, _, _, _, rfl, hr, hsane⟩
end Go.Proofs.Ytdnpfkknnaepoaa
