/-
  Patterns, paths and lists of files that are drawn: contracts for the walks; conditions: the cursor lies in memory as told, the code has at most 2 to the 20 bytes.
-/
import Derived.Test.YtlnofdlhjeomfaaFiJ
import Derived.Test.YtlnofdlhjeomfaaNumTextS
namespace Go.Proofs.Ytlnofdlhjeomfaa
open Go.RowKit Go.Maps
set_option linter.unusedSimpArgs false
set_option linter.unusedVariables false

def globsL : List ByteArray := [⟨#[42, 42]⟩, ⟨#[97, 47, 42]⟩, ⟨#[97, 47, 42, 42]⟩, ⟨#[42, 47, 120]⟩, ⟨#[42, 42, 47, 120]⟩, ⟨#[63, 47, 115, 114, 99, 47, 42]⟩, ⟨#[91, 97, 98, 93, 47, 120]⟩, ⟨#[91, 33, 97, 98, 93, 47, 42, 42]⟩, ⟨#[97, 47, 115, 114, 99, 47, 109]⟩, ⟨#[116, 111, 112]⟩, ⟨#[98, 47, 42, 46, 109, 100]⟩, ⟨#[42, 42, 47, 115, 114, 99, 47, 42, 42]⟩, ⟨#[99, 47, 115, 114, 99, 47, 110, 42]⟩, ⟨#[42, 46, 42]⟩, ⟨#[42, 97, 42]⟩]
theorem globsL_small : ∀ t ∈ globsL, t.size ≤ 20 := by decide +kernel
def globOkL (a b : ByteArray) : List ByteArray := [⟨#[]⟩, ⟨#[91]⟩, ⟨#[91, 93]⟩, ⟨#[91, 97]⟩, ⟨#[91, 33, 93]⟩, ⟨#[91, 97, 98, 99, 100, 101, 102, 93]⟩, ⟨#[91, 65, 93]⟩, ⟨#[97, 47, 47, 98]⟩, ⟨#[65]⟩, ⟨#[42, 42, 97]⟩, ⟨#[42, 42, 42]⟩, ⟨#[49, 47, 50, 47, 51, 47, 52, 47, 53]⟩, ⟨#[91, 97, 93, 91, 98, 93]⟩, ⟨#[42, 42, 42, 42, 42, 42, 42, 42, 42, 42, 42, 42]⟩, ⟨#[42, 42, 42, 42, 42, 42, 42, 42, 42, 42, 42, 42, 42]⟩, a, b]
theorem globOkL_small {a b : ByteArray} (ha : a.size ≤ 20) (hb : b.size ≤ 20) : ∀ t ∈ globOkL a b, t.size ≤ 20 := by
  have h : ∀ t ∈ ([⟨#[]⟩, ⟨#[91]⟩, ⟨#[91, 93]⟩, ⟨#[91, 97]⟩, ⟨#[91, 33, 93]⟩, ⟨#[91, 97, 98, 99, 100, 101, 102, 93]⟩, ⟨#[91, 65, 93]⟩, ⟨#[97, 47, 47, 98]⟩, ⟨#[65]⟩, ⟨#[42, 42, 97]⟩, ⟨#[42, 42, 42]⟩, ⟨#[49, 47, 50, 47, 51, 47, 52, 47, 53]⟩, ⟨#[91, 97, 93, 91, 98, 93]⟩, ⟨#[42, 42, 42, 42, 42, 42, 42, 42, 42, 42, 42, 42]⟩, ⟨#[42, 42, 42, 42, 42, 42, 42, 42, 42, 42, 42, 42, 42]⟩] : List ByteArray), t.size ≤ 20 := by decide +kernel
  intro t ht
  have e : globOkL a b = [⟨#[]⟩, ⟨#[91]⟩, ⟨#[91, 93]⟩, ⟨#[91, 97]⟩, ⟨#[91, 33, 93]⟩, ⟨#[91, 97, 98, 99, 100, 101, 102, 93]⟩, ⟨#[91, 65, 93]⟩, ⟨#[97, 47, 47, 98]⟩, ⟨#[65]⟩, ⟨#[42, 42, 97]⟩, ⟨#[42, 42, 42]⟩, ⟨#[49, 47, 50, 47, 51, 47, 52, 47, 53]⟩, ⟨#[91, 97, 93, 91, 98, 93]⟩, ⟨#[42, 42, 42, 42, 42, 42, 42, 42, 42, 42, 42, 42]⟩, ⟨#[42, 42, 42, 42, 42, 42, 42, 42, 42, 42, 42, 42, 42]⟩] ++ [a, b] := rfl
  rw [e, List.mem_append] at ht
  rcases ht with ht | ht
  · exact h t ht
  · simp only [List.mem_cons, List.not_mem_nil, or_false] at ht
    rcases ht with rfl | rfl <;> assumption
def drawL (a b c : ByteArray) : List ByteArray := [a, b, c, ⟨#[]⟩, ⟨#[97]⟩, ⟨#[120]⟩]
def PL : List ByteArray := pathsL ++ [⟨#[]⟩, ⟨#[97]⟩, ⟨#[120]⟩]
theorem drawL_mem {a b c t : ByteArray} (ha : a ∈ pathsL) (hb : b ∈ pathsL) (hc : c ∈ pathsL) (h : t ∈ drawL a b c) : t ∈ PL := by
  unfold drawL at h
  unfold PL
  rw [List.mem_append]
  simp only [List.mem_cons, List.not_mem_nil, or_false] at h ⊢
  rcases h with rfl | rfl | rfl | h
  · exact .inl ha
  · exact .inl hb
  · exact .inl hc
  · exact .inr h
def oddL : List ByteArray := [⟨#[]⟩, ⟨#[97]⟩, ⟨#[122, 47]⟩, ⟨#[122, 47, 46, 47, 97]⟩, ⟨#[65]⟩, ⟨#[49, 47, 50, 47, 51, 47, 52, 47, 53]⟩, ⟨#[122, 47, 116, 104, 105, 114, 116, 101, 101, 110, 45, 98, 121, 116, 101]⟩, ⟨#[122, 122]⟩]
theorem oddL_small : ∀ t ∈ oddL, t.size ≤ 20 := by decide +kernel

theorem grown_ownR {w W w4 : World} {g : Nat} {r : Option Nat} (h : w.grownBy W (some g)) (k : W.grownBy w4 r) (hr : ∀ j, r = some j → w.heap.size ≤ j) : w.grownBy w4 (some g) := by
  refine ⟨k.os.trans h.os, k.tape.trans h.tape, k.output.trans h.output, Nat.le_trans h.size k.size, fun i hi hne => ?_⟩
  rw [k.block i (Nat.lt_of_lt_of_le hi h.size) (fun e => by have := hr i e.symm; omega)]
  exact h.block i hi hne

theorem below_curR {w w1 w2 : World} {base g : Nat} {zs : List Int} (hb : Below base w w1) (hc : Cur w1 base g zs) (hbw : base ≤ w1.heap.size) (hg : w1.grownBy w2 (some g)) : Below base w w2 :=
  Below.grown hb hg hbw (fun k hk => by have := hc.1; simp at hk; omega)

end Go.Proofs.Ytlnofdlhjeomfaa
