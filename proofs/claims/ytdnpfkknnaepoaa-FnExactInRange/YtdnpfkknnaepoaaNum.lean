/-
  What the two functions ParseNum (the program's and the specification's) answer: one and the same pair for every string and every bound; no condition but that a string is no longer than an int can count.
-/
import Derived.Test.YtdnpfkknnaepoaaScan
namespace Go.Proofs.Ytdnpfkknnaepoaa
open Go.RowKit
set_option linter.unusedSimpArgs false
set_option linter.unusedVariables false

/-- The number that the first k bytes tell. -/
def numUpto (s : ByteArray) : Nat → Int
  | 0 => 0
  | k + 1 => numUpto s k * 10 + (((s.data[k]!).toNat : Int) - 48)

def okDigit (_ : Nat) (c : Int) : Bool := digitB c

theorem digit_bounds {c : Int} (h : digitB c = true) : 48 ≤ c ∧ c ≤ 57 := by
  simpa [digitB] using h

theorem numUpto_bounds (s : ByteArray) : ∀ k, allUpto okDigit s k = true → 0 ≤ numUpto s k ∧ numUpto s k < (10 : Int) ^ k
  | 0, _ => by simp [numUpto]
  | k + 1, h => by
    rw [allUpto, Bool.and_eq_true] at h
    have ih := numUpto_bounds s k h.1
    have hd := digit_bounds (c := ((s.data[k]!).toNat : Int)) h.2
    rw [numUpto, Int.pow_succ]
    omega

theorem numUpto_step {s : ByteArray} {k : Nat} (hk : k < s.size) : numUpto s (k + 1) = numUpto s k * 10 + (((s[k]).toNat : Int) - 48) := by
  rw [numUpto, byteBang s k hk]

theorem num_small {s : ByteArray} {k : Nat} (h : allUpto okDigit s k = true) (h8 : k ≤ 8) : 0 ≤ numUpto s k ∧ numUpto s k < 100000000 := by
  have hb := numUpto_bounds s k h
  have : (10 : Int) ^ k ≤ 10 ^ 8 := by
    have : (10 : Nat) ^ k ≤ 10 ^ 8 := Nat.pow_le_pow_right (by decide) h8
    exact_mod_cast this
  omega

/-- What both answer. -/
def numGood (s : ByteArray) (most : Int) : Bool :=
  inB s.size 1 7 && allUpto okDigit s s.size && !(decide (1 < s.size) && ((s.data[0]!).toNat : Int) == 48) && decide (numUpto s s.size ≤ most)
def numOut (s : ByteArray) (most : Int) : Int := if numGood s most then numUpto s s.size else 0

theorem numOut_bad {s : ByteArray} {most : Int} (h : numGood s most = false) : numOut s most = 0 := by simp [numOut, h]
theorem numOut_good {s : ByteArray} {most : Int} (h : numGood s most = true) : numOut s most = numUpto s s.size := by simp [numOut, h]

theorem bad_digit {s : ByteArray} {most : Int} {k : Nat} (hk : k < s.size) (h : digitB ((s[k]).toNat : Int) = false) : numGood s most = false := by
  rw [numGood, end_false (p := okDigit) hk h]; simp
theorem bad_size {s : ByteArray} {most : Int} (h : inB s.size 1 7 = false) : numGood s most = false := by
  rw [numGood, h]; simp
theorem bad_nought {s : ByteArray} {most : Int} (h1 : 1 < s.size) (h : (((s[0]).toNat : Int) == 48) = true) : numGood s most = false := by
  rw [numGood, byteBang s 0 (by omega), h, decide_eq_true h1]; simp
theorem bad_most {s : ByteArray} {most : Int} (h : most < numUpto s s.size) : numGood s most = false := by
  rw [numGood, decide_eq_false (p := numUpto s s.size ≤ most) (by omega)]; simp
theorem good_all {s : ByteArray} {most : Int} (h1 : inB s.size 1 7 = true) (h2 : allUpto okDigit s s.size = true) (h3 : ∀ h : 1 < s.size, (((s[0]).toNat : Int) == 48) = false) (h4 : numUpto s s.size ≤ most) : numGood s most = true := by
  rw [numGood, h1, h2, decide_eq_true h4]
  by_cases h : 1 < s.size
  · rw [byteBang s 0 (by omega), h3 h]; simp
  · simp [h]

theorem in17 {s : ByteArray} (h : inB s.size 1 7 = true) : 1 ≤ s.size ∧ s.size ≤ 7 := by
  simp only [inB, Bool.and_eq_true, decide_eq_true_eq] at h
  omega
theorem out17 {s : ByteArray} (h : ¬ inB s.size 1 7 = true) : inB s.size 1 7 = false := by simpa using h

theorem pair_bad {s : ByteArray} {most : Int} (h : numGood s most = false) : Ending.returned (.tuple #[.int .i64 0, .bool false]) = Ending.returned (.tuple #[.int .i64 (numOut s most), .bool (numGood s most)]) := by
  rw [numOut_bad h, h]
theorem pair_good {s : ByteArray} {most n : Int} (h : numGood s most = true) (hn : n = numUpto s s.size) : Ending.returned (.tuple #[.int .i64 n, .bool true]) = Ending.returned (.tuple #[.int .i64 (numOut s most), .bool (numGood s most)]) := by
  rw [numOut_good h, h, hn]

theorem in_false {s : ByteArray} (h : s.size = 0 ∨ 7 < s.size) : inB s.size 1 7 = false := by
  simp only [inB, Bool.and_eq_false_iff, decide_eq_false_iff_not]
  omega
theorem in_true {s : ByteArray} (h0 : 0 < s.size) (h : s.size ≤ 7) : inB s.size 1 7 = true := by
  simp only [inB, Bool.and_eq_true, decide_eq_true_eq]
  omega

end Go.Proofs.Ytdnpfkknnaepoaa
