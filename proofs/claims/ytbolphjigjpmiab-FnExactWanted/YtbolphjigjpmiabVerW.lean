/-
  What the function that draws any version answers: a contract for the walks: a version in memory of its own, of no more than four short texts; conditions: the code lies in memory as told.
-/
import Derived.Test.YtbolphjigjpmiabVerV
namespace Go.Proofs.Ytbolphjigjpmiab
open Go.RowKit
set_option linter.unusedSimpArgs false
set_option linter.unusedVariables false
attribute [local go_sem ↓] Go.wp_at_zero Go.wp_at_succ

def bentInts : List Int := [-1, 9999, 10000]
def cutInts : List Int := [3, 4]
def bentPre : List ByteArray := [⟨#[]⟩, ⟨#[48, 49]⟩, ⟨#[110, 105, 110, 101, 45, 98, 121, 116, 101]⟩, ⟨#[97, 95]⟩, ⟨#[48, 48]⟩, ⟨#[101, 105, 103, 104, 116, 45, 98, 121]⟩]
def abcd : List ByteArray := [⟨#[97]⟩, ⟨#[98]⟩, ⟨#[99]⟩, ⟨#[100]⟩]
theorem bentPre_small : ∀ t ∈ bentPre, t.size ≤ 9 := by decide +kernel
theorem abcd_small : ∀ t ∈ abcd, t.size ≤ 9 := by decide +kernel

theorem own_lower {w : World} {base base' : Nat} {e : TypeId} {v : Value} {n : Nat} {xs : List Value} (h : w.ownsRow base e 1 v n xs) (hb : base' ≤ base) : w.ownsRow base' e 1 v n xs := by
  obtain ⟨h1, h2⟩ := h
  refine ⟨h1, ?_⟩
  rcases h2 with h2 | ⟨g, cap, cur, a, b, c⟩
  · exact .inl h2
  · exact .inr ⟨g, cap, cur, a, Nat.le_trans hb b, c⟩
theorem small_more {ps : List ByteArray} (h : smallP 2 ps) : smallP 4 ps := ⟨by have := h.1; omega, h.2⟩
theorem small_snoc {ps : List ByteArray} {t : ByteArray} (h : smallP 2 ps) (ht : t.size ≤ 9) : smallP 4 (ps ++ [t]) := ⟨by have := h.1; simp; omega, fun x hx => by
  rcases List.mem_append.1 hx with h1 | h1
  · exact h.2 x h1
  · simp at h1; subst h1; exact ht⟩
theorem row_take {w : World} {base : Nat} {e : TypeId} {g n k cap : Nat} {xs : List Value} (h : w.ownsRow base e 1 (.slice (some ⟨g, 0, none⟩) n cap) n xs) (hk : k ≤ n) : w.ownsRow base e 1 (.slice (some ⟨g, 0, none⟩) k cap) k (xs.take k) := by
  have hl := h.1
  rcases h.2 with ⟨h, _⟩ | ⟨g', cap', cur, hv, hb, hg, hn, hc, hs, ht⟩
  · cases h
  · cases hv
    refine ⟨by simp; omega, .inr ⟨g, cap, cur, rfl, hb, hg, by omega, hc, hs, ?_⟩⟩
    rw [← ht, List.take_take, Nat.mul_one, Nat.mul_one, Nat.min_eq_left hk]

end Go.Proofs.Ytbolphjigjpmiab
