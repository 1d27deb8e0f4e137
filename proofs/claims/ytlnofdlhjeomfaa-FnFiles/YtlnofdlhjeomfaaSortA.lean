/-
  What the specification's Sorted answers: a list that rises and has the members of the list handed in, in memory of its own; conditions: the list lies in memory as told and has at most 2 to the 20 texts.
-/
import Derived.Test.YtlnofdlhjeomfaaOrder
import Derived.Sort.Walk0
namespace Go.Proofs.Ytlnofdlhjeomfaa
open Go.RowKit
set_option linter.unusedSimpArgs false
set_option linter.unusedVariables false

def hasS (ss : List ByteArray) (s : ByteArray) : Bool := decide (bytesL s ∈ ss.map bytesL)
theorem hasS_iff (ss : List ByteArray) (s : ByteArray) : hasS ss s = true ↔ s ∈ ss := by
  rw [hasS, decide_eq_true_iff, List.mem_map]
  constructor
  · rintro ⟨t, ht, e⟩
    rw [← bytesL_inj e]; exact ht
  · intro h; exact ⟨s, h, rfl⟩
theorem hasS_not {ss : List ByteArray} {s : ByteArray} (h : ¬ s ∈ ss) : hasS ss s = false := by
  cases e : hasS ss s with
  | false => rfl
  | true => exact absurd ((hasS_iff ss s).1 e) h

theorem gt_iff (a b : ByteArray) : (!(Op.bytesLess a.toList b.toList || a.toList == b.toList)) = decide (bytesL b < bytesL a) := by
  rw [ByteArray.toList_eq, ByteArray.toList_eq, bytesLess_eq]
  show _ = decide (b.data.toList < a.data.toList)
  by_cases h : b.data.toList < a.data.toList
  · have h1 : ¬ a.data.toList < b.data.toList := fun k => ltL_irrefl _ (ltL_trans h k)
    have h2 : ¬ a.data = b.data := fun e => by rw [e] at h; exact ltL_irrefl _ h
    simp [h, h1, h2]
  · by_cases h1 : a.data.toList < b.data.toList
    · simp [h, h1]
    · have h2 : a.data.toList = b.data.toList := ltL_total h1 h
      simp [h2, ltL_irrefl]

theorem below_all {xs : List ByteArray} {t : ByteArray} {j : Nat} (hr : risesS xs) (hin : ¬ t ∈ xs) (hj : j ≤ xs.length) (h : j = 0 ∨ ∃ h0 : j - 1 < xs.length, ¬ bytesL t < bytesL xs[j - 1]) : ∀ i (hi : i < xs.length), i < j → bytesL xs[i] < bytesL t := by
  intro i hi hij
  rcases h with h | ⟨h0, h⟩
  · omega
  · have h1 : bytesL xs[j - 1] < bytesL t := by
      by_cases k : bytesL xs[j - 1] < bytesL t
      · exact k
      · have e := bytesL_inj (ltL_total h k)
        exact absurd (by rw [e]; exact List.getElem_mem h0) hin
    by_cases e : i = j - 1
    · subst e; exact h1
    · have hp := List.pairwise_iff_getElem.1 (show (xs.map bytesL).Pairwise (· < ·) from hr) i (j - 1) (by simpa using hi) (by simpa using h0) (by omega)
      simp at hp
      exact ltL_trans hp h1

theorem ins_cells {xs : List ByteArray} {t : ByteArray} {j : Nat} {ys : List Value} (hj : j ≤ xs.length) (hl : ys.length = xs.length + 1) (h1 : ∀ i, i < j → ys[i]? = (strsV xs)[i]?) (h2 : ∀ i, j < i → i ≤ xs.length → ys[i]? = (strsV xs)[i - 1]?) :
    ys.set j (.string t) = strsV (xs.take j ++ t :: xs.drop j) := by
  refine list_done (n := xs.length + 1) (by simp [hl]) (by simp; omega) (fun i hi => ?_)
  rw [List.getElem?_set]
  by_cases e : j = i
  · subst e
    rw [if_pos rfl, if_pos (by omega), strsV, List.getElem?_map, List.getElem?_append_right (by simp; omega)]
    simp [Nat.min_eq_left hj]
  · rw [if_neg e]
    by_cases k : i < j
    · rw [h1 i k, strsV, strsV, List.getElem?_map, List.getElem?_map, List.getElem?_append_left (by simp; omega), List.getElem?_take, if_pos k]
    · rw [h2 i (by omega) (by omega), strsV, strsV, List.getElem?_map, List.getElem?_map, List.getElem?_append_right (by simp; omega)]
      simp only [List.length_take, Nat.min_eq_left hj]
      rw [show i - j = (i - j - 1) + 1 by omega, List.getElem?_cons_succ, List.getElem?_drop, show j + (i - j - 1) = i - 1 by omega]

/-- What the inner loop holds on to. -/
def Shifted (xs : List ByteArray) (t : ByteArray) (j : Nat) (ys : List Value) : Prop :=
  ys.length = xs.length + 1 ∧ (∀ i, i < j → ys[i]? = (strsV xs)[i]?) ∧ (∀ i, j < i → i ≤ xs.length → ys[i]? = (strsV xs)[i - 1]?) ∧ ∀ i (h : i < xs.length), j ≤ i → bytesL t < bytesL xs[i]

theorem shifted_start (xs : List ByteArray) (t : ByteArray) : Shifted xs t xs.length (strsV (xs ++ [t])) := by
  refine ⟨by simp, fun i hi => ?_, fun i h1 h2 => by omega, fun i h1 h2 => by omega⟩
  rw [strsV, strsV, List.getElem?_map, List.getElem?_map, List.getElem?_append_left hi]
theorem shifted_step {xs : List ByteArray} {t : ByteArray} {j : Nat} {ys : List Value} (hj : 0 < j) (hjl : j - 1 < xs.length) (h : Shifted xs t j ys) (hg : bytesL t < bytesL xs[j - 1]) : Shifted xs t (j - 1) (ys.set j (.string xs[j - 1])) := by
  obtain ⟨h0, h1, h2, h3⟩ := h
  refine ⟨by simp [h0], fun i hi => ?_, fun i hi1 hi2 => ?_, fun i hi hji => ?_⟩
  · rw [List.getElem?_set, if_neg (by omega)]; exact h1 i (by omega)
  · rw [List.getElem?_set]
    by_cases e : j = i
    · subst e; rw [if_pos rfl, if_pos (by omega), strsV_at xs (j - 1) hjl]
    · rw [if_neg e]; exact h2 i (by omega) hi2
  · by_cases e : i = j - 1
    · subst e; exact hg
    · exact h3 i hi (by omega)

end Go.Proofs.Ytlnofdlhjeomfaa
