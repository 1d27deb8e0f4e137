/-
  The draws of the law on files: a path, a list, a list and a path, two lists; contracts for the walks; condition: the code is of at most 2 to the 20 bytes.
-/
import Derived.Test.YtlnofdlhjeomfaaFiQ
namespace Go.Proofs.Ytlnofdlhjeomfaa
open Go.RowKit Go.Maps
set_option linter.unusedSimpArgs false
set_option linter.unusedVariables false

def pathOkL0 : List ByteArray := [⟨#[]⟩, ⟨#[97]⟩, ⟨#[47, 97]⟩, ⟨#[97, 47]⟩, ⟨#[97, 47, 47, 98]⟩, ⟨#[97, 47, 46, 47, 98]⟩, ⟨#[46, 46]⟩, ⟨#[97, 47, 46, 46]⟩, ⟨#[97, 46, 98, 47, 95, 45]⟩, ⟨#[65]⟩, ⟨#[49, 47, 50, 47, 51, 47, 52]⟩, ⟨#[49, 47, 50, 47, 51, 47, 52, 47, 53]⟩, ⟨#[116, 119, 101, 108, 118, 101, 45, 98, 121, 116, 101, 115]⟩, ⟨#[116, 104, 105, 114, 116, 101, 101, 110, 45, 98, 121, 116, 101]⟩, ⟨#[97, 32, 98]⟩]
theorem pathOkL0_small : pathOkL0.all (fun t => decide (t.size ≤ 20)) = true := by decide +kernel
def pathOkL (a : ByteArray) : List ByteArray := [⟨#[]⟩, ⟨#[97]⟩, ⟨#[47, 97]⟩, ⟨#[97, 47]⟩, ⟨#[97, 47, 47, 98]⟩, ⟨#[97, 47, 46, 47, 98]⟩, ⟨#[46, 46]⟩, ⟨#[97, 47, 46, 46]⟩, ⟨#[97, 46, 98, 47, 95, 45]⟩, ⟨#[65]⟩, ⟨#[49, 47, 50, 47, 51, 47, 52]⟩, ⟨#[49, 47, 50, 47, 51, 47, 52, 47, 53]⟩, ⟨#[116, 119, 101, 108, 118, 101, 45, 98, 121, 116, 101, 115]⟩, ⟨#[116, 104, 105, 114, 116, 101, 101, 110, 45, 98, 121, 116, 101]⟩, ⟨#[97, 32, 98]⟩, a]
theorem pathOkL_small {a t : ByteArray} (ha : a.size ≤ 20) (h : t ∈ pathOkL a) : t.size ≤ 20 := by
  have hc : pathOkL a = pathOkL0 ++ [a] := rfl
  rw [hc] at h
  rcases List.mem_append.1 h with h | h
  · exact of_decide_eq_true (List.all_eq_true.1 pathOkL0_small t h)
  · simp only [List.mem_cons, List.not_mem_nil, or_false] at h; subst h; exact ha

end Go.Proofs.Ytlnofdlhjeomfaa
