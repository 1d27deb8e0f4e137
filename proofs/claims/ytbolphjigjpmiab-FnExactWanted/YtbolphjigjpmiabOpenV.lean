/-
  What comes in as a version of the laws' own type: three numbers, and a list of texts that lies in memory: no condition.
-/
import Derived.Test.YtbolphjigjpmiabVerD
import Derived.SliceStrings
import Derived.ChangeArms
import Derived.ChangeOld
import Derived.ChangeAt
namespace Go.Proofs.Ytbolphjigjpmiab
open Go.ChangeShapes Go.WideShapes Go.ChangeAt Go.RowKit
set_option linter.unusedSimpArgs false
set_option linter.unusedVariables false

theorem vaddr_add (b off i : Nat) : ((⟨b, off, none⟩ : Addr).add i) = ⟨b, off + i, none⟩ := by unfold Addr.add; split <;> simp_all
theorem list4 {cs : List Value} (h : cs.length = 4) : ∃ c0 c1 c2 c3, cs = [c0, c1, c2, c3] := by
  match cs, h with
  | [c0, c1, c2, c3], _ => exact ⟨c0, c1, c2, c3, rfl⟩

theorem vreads_open {H : Type} {enc : TypeId × Value → H} {w : World} {spare : Nat → Bool} {held : Bool} {fuel : Nat} {c : Value} {x : DataW H × List MemPlace}
    (hf : DataW.trod enc Try.prog w 0 spare held fuel 34 [c] = some x) : ∃ ks, Reads w c (strsV ks) ∧ saneP ks := by
  rcases open_strings Try.underlying34 Try.underlying9 (by kernel_rfl) hf with ⟨hcs, _⟩ | ⟨x, l, cap, zs, hcs, _, hl, hm, hz, _, hcell, hwz⟩
  · simp at hcs
    subst hcs
    exact ⟨[], ⟨none, 0, rfl, Nat.le_refl _, .inl rfl⟩, by simp [saneP]⟩
  · simp at hcs
    subst hcs
    have hz' : l ≤ zs.length := by rw [hz]; split <;> omega
    have hlen : (zs.take l).length = l := by simp; omega
    refine ⟨zs.take l, ?_, by rw [hlen]; omega, fun s hs => hwz s (List.mem_of_mem_take hs)⟩
    by_cases h0 : l = 0
    · subst h0
      exact ⟨some x, cap, by simp [strsV], by simp [strsV], .inl (by simp [strsV])⟩
    · obtain ⟨b, off, spot⟩ := x
      have hc0 := hcell 0 (by omega)
      have hspot : spot = none := by simpa [Addr.add] using World.cell?_spot hc0
      subst hspot
      refine ⟨some ⟨b, off, none⟩, cap, by simp [strsV]; omega, by simp [strsV]; omega, .inr ⟨b, off, rfl, ?_, fun i hi => ?_⟩⟩
      · rw [vaddr_add] at hc0; exact World.block_lt_of_cell? w _ hc0
      · have hi' : i < l := by simp [strsV] at hi; omega
        have := hcell i (by omega)
        rw [vaddr_add] at this
        rw [this]
        simp [strsV, List.getD_eq_getElem?_getD, show i < zs.length by omega]

end Go.Proofs.Ytbolphjigjpmiab
