/-
  Two lists of files as the law draws them: a contract for the walks; condition: the code is of at most 2 to the 20 bytes.
-/
import Derived.Test.YtlnofdlhjeomfaaFiS
namespace Go.Proofs.Ytlnofdlhjeomfaa
open Go.RowKit Go.Maps
set_option linter.unusedSimpArgs false
set_option linter.unusedVariables false

def twoF (B : List FileD) : Prop := difF B ∧ (∀ f ∈ B, f.p.size ≤ 70 ∧ f.t.size ≤ 71) ∧ B.length ≤ 33
theorem twoF_any {L : List FileD} (h : anyF L) : twoF L := ⟨anyF_dif h, fun f hf => by have := (anyF_small h).1 f hf; exact ⟨this.1, by have := this.2; omega⟩, (anyF_small h).2⟩
theorem twoF_drawn {L : List FileD} (h : drawnF 8 L) : twoF L := ⟨filesB_dif h.1, fun f hf => by have := (h.2.1 f hf).1; exact ⟨this.1, by have := this.2; omega⟩, by have := h.2.2; omega⟩
theorem twoF_bang {L : List FileD} (h : anyF L) : twoF (bangF L) := by
  obtain ⟨h1, h2⟩ := anyF_small h
  refine ⟨bangF_dif (anyF_dif h), ?_, ?_⟩
  · cases L with
    | nil => intro f hf; simp [bangF] at hf
    | cons a L =>
      intro f hf
      simp only [bangF, List.mem_cons] at hf
      rcases hf with rfl | hf
      · have := h1 a List.mem_cons_self
        exact ⟨this.1, by show (a.t ++ ⟨#[33]⟩).size ≤ 71; rw [ByteArray.size_append]; have := this.2; have e : (⟨#[33]⟩ : ByteArray).size = 1 := rfl; omega⟩
      · have := h1 f (List.mem_cons_of_mem _ hf)
        exact ⟨this.1, by have := this.2; omega⟩
  · cases L with
    | nil => simp [bangF]
    | cons a L => simpa [bangF] using h2
theorem cells_bang (a : FileD) (L : List FileD) : (cellsF (a :: L)).set 1 (.string (a.t ++ ⟨#[33]⟩)) = cellsF (bangF (a :: L)) := by simp [cellsF, bangF]

end Go.Proofs.Ytlnofdlhjeomfaa
