/-
  What the two functions ParseNum (the program's and the specification's) answer: one and the same pair for every string and every bound; no condition but that a string is no longer than an int can count.
-/
import Derived.Test.YtdnpfkknnaepoaaDoorScan
namespace Go.Proofs.YtdnpfkknnaepoaaDoor
open Go.RowKit
set_option linter.unusedSimpArgs false
set_option linter.unusedVariables false

/-- The number that the first k bytes tell. -/
def numUpto (s : ByteArray) : Nat → Int
  | 0 => 0
  | k + 1 => numUpto s k * 10 + (((s.data[k]!).toNat : Int) - 48)

def okDigit (_ : Nat) (c : Int) : Bool := digitB c

theorem digit_bounds {c : Int} (h : digitB c = true) : 48 ≤ c ∧ c ≤ 57 := by
  simpa [digitB] using h

theorem numUpto_bounds (s : ByteArray) : ∀ k, allUpto okDigit s k = true → 0 ≤ numUpto s k ∧ numUpto s k < (10 : Int) ^ k
  | 0, _ => by simp [numUpto]
  | k + 1, h => by
    rw [allUpto, Bool.and_eq_true] at h
    have ih := numUpto_bounds s k h.1
    have hd := digit_bounds (c := ((s.data[k]!).toNat : Int)) h.2
    rw [numUpto, Int.pow_succ]
    omega

theorem numUpto_step {s : ByteArray} {k : Nat} (hk : k < s.size) : numUpto s (k + 1) = numUpto s k * 10 + (((s[k]).toNat : Int) - 48) := by
  rw [numUpto, byteBang s k hk]

theorem num_small {s : ByteArray} {k : Nat} (h : allUpto okDigit s k = true) (h8 : k ≤ 8) : 0 ≤ numUpto s k ∧ numUpto s k < 100000000 := by
  have hb := numUpto_bounds s k h
  have : (10 : Int) ^ k ≤ 10 ^ 8 := by
    have : (10 : Nat) ^ k ≤ 10 ^ 8 := Nat.pow_le_pow_right (by decide) h8
    exact_mod_cast this
  omega

/-- What both answer. -/
def numGood (s : ByteArray) (most : Int) : Bool :=
  inB s.size 1 7 && allUpto okDigit s s.size && !(decide (1 < s.size) && ((s.data[0]!).toNat : Int) == 48) && decide (numUpto s s.size ≤ most)
def numOut (s : ByteArray) (most : Int) : Int := if numGood s most then numUpto s s.size else 0

theorem numOut_bad {s : ByteArray} {most : Int} (h : numGood s most = false) : numOut s most = 0 := by simp [numOut, h]
theorem numOut_good {s : ByteArray} {most : Int} (h : numGood s most = true) : numOut s most = numUpto s s.size := by simp [numOut, h]

theorem bad_digit {s : ByteArray} {most : Int} {k : Nat} (hk : k < s.size) (h : digitB ((s[k]).toNat : Int) = false) : numGood s most = false := by
  rw [numGood, end_false (p := okDigit) hk h]; simp
theorem bad_size {s : ByteArray} {most : Int} (h : inB s.size 1 7 = false) : numGood s most = false := by
  rw [numGood, h]; simp
theorem bad_nought {s : ByteArray} {most : Int} (h1 : 1 < s.size) (h : (((s[0]).toNat : Int) == 48) = true) : numGood s most = false := by
  rw [numGood, byteBang s 0 (by omega), h, decide_eq_true h1]; simp
theorem bad_most {s : ByteArray} {most : Int} (h : most < numUpto s s.size) : numGood s most = false := by
  rw [numGood, decide_eq_false (p := numUpto s s.size ≤ most) (by omega)]; simp
theorem good_all {s : ByteArray} {most : Int} (h1 : inB s.size 1 7 = true) (h2 : allUpto okDigit s s.size = true) (h3 : ∀ h : 1 < s.size, (((s[0]).toNat : Int) == 48) = false) (h4 : numUpto s s.size ≤ most) : numGood s most = true := by
  rw [numGood, h1, h2, decide_eq_true h4]
  by_cases h : 1 < s.size
  · rw [byteBang s 0 (by omega), h3 h]; simp
  · simp [h]

theorem in17 {s : ByteArray} (h : inB s.size 1 7 = true) : 1 ≤ s.size ∧ s.size ≤ 7 := by
  simp only [inB, Bool.and_eq_true, decide_eq_true_eq] at h
  omega
theorem out17 {s : ByteArray} (h : ¬ inB s.size 1 7 = true) : inB s.size 1 7 = false := by simpa using h

theorem pair_bad {s : ByteArray} {most : Int} (h : numGood s most = false) : Ending.returned (.tuple #[.int .i64 0, .bool false]) = Ending.returned (.tuple #[.int .i64 (numOut s most), .bool (numGood s most)]) := by
  rw [numOut_bad h, h]
theorem pair_good {s : ByteArray} {most n : Int} (h : numGood s most = true) (hn : n = numUpto s s.size) : Ending.returned (.tuple #[.int .i64 n, .bool true]) = Ending.returned (.tuple #[.int .i64 (numOut s most), .bool (numGood s most)]) := by
  rw [numOut_good h, h, hn]

set_option maxHeartbeats 1000000 in
theorem specNum_c (s : ByteArray) (most : Int) (hs : s.size ≤ maxLen) (w : World) :
    Calls Tryd.prog 39 #[.string s, .int .i64 most] w fun e w' => e = .returned (.tuple #[.int .i64 (numOut s most), .bool (numGood s most)]) ∧ w = w' := by
  unfold maxLen at hs
  go_enter Tryd.func39, Tryd.ntmps39
  go_wp2
  go_loop [6, 7] (fun vn vi => ∃ (k : Nat) (n : Int), k ≤ s.size ∧ k ≤ 8 ∧ vi = .int .i64 (k : Int) ∧ vn = .int .i64 n ∧ 0 ≤ n ∧ n < 100000000 ∧ Hid (n = numUpto s k) ∧ Hid (allUpto okDigit s k = true)) (fun _ vi => s.size - (intOf vi).toNat)
  case atStart => exact ⟨0, 0, Nat.zero_le _, by omega, rfl, rfl, by omega, by omega, rfl, rfl⟩
  case round =>
    obtain ⟨k, n, hk, hk8, rfl, rfl, hn0, hn1, hn, hh⟩ := hrel
    go_wp2_with (first
      | (go_at_call 77; refine (digit_c _ (byte0 _) (byte255 _) _).mono ?_; rintro e w' ⟨rfl, rfl⟩)
      | (go_at_call 45; refine (in_c _ _ _ _).mono ?_; rintro e w' ⟨rfl, rfl⟩))
    · have hlt : k < s.size := by assumption
      have h1 : (!digitB ((s[k]).toNat : Int)) = true := by assumption
      go_ret2
      exact ⟨pair_bad (bad_digit hlt (by simpa using h1)), rfl⟩
    · have hlt : k < s.size := by assumption
      have h8 : (k : Int) < 8 := by assumption
      have h1 : (!digitB ((s[k]).toNat : Int)) = false := by assumption
      have h2 : digitB ((s[k]).toNat : Int) = true := by simpa using h1
      have hd := digit_bounds h2
      have hh' := step_true (p := okDigit) hlt hh h2
      have hb := num_small hh'.out (by omega)
      have e : n * 10 + (((s[k]).toNat : Int) - 48) % 256 = numUpto s (k + 1) := by
        rw [numUpto_step hlt, ← hn.out]; omega
      go_round
      case rel => exact ⟨k + 1, numUpto s (k + 1), by omega, by omega, by go_num, by rw [e], hb.1, hb.2, rfl, hh'⟩
      case measure => simp [intOf]; omega
    · exfalso; have := in17 (s := s) (by assumption); omega
    · exfalso; have := in17 (s := s) (by assumption); omega
    · exfalso; have := in17 (s := s) (by assumption); omega
    · have h1 : ¬ inB (s.size : Int) 1 7 = true := by assumption
      go_ret2
      exact ⟨pair_bad (bad_size (out17 h1)), rfl⟩
    · have h1 : (1 : Int) < (s.size : Int) := by assumption
      have h2 : ((s[0]).toNat : Int) = 48 := by assumption
      go_ret2
      exact ⟨pair_bad (bad_nought (by omega) (by rw [h2]; rfl)), rfl⟩
    · have he : k = s.size := by omega
      subst he
      have h1 : (((s[0]).toNat : Int) == 48) = true ∨ most < n := by assumption
      have h2 : ¬ ((s[0]).toNat : Int) = 48 := by assumption
      have h3 : most < n := by
        rcases h1 with h1 | h1
        · exact absurd (by simpa using h1) h2
        · exact h1
      go_ret2
      exact ⟨pair_bad (bad_most (by rw [← hn.out]; exact h3)), rfl⟩
    · have he : k = s.size := by omega
      subst he
      have h0 : inB (s.size : Int) 1 7 = true := by assumption
      have h1 : (((s[0]).toNat : Int) == 48) = false ∧ n ≤ most := by assumption
      go_ret2
      exact ⟨pair_good (good_all h0 hh.out (fun _ => h1.1) (by rw [← hn.out]; exact h1.2)) hn.out, rfl⟩
    · have he : k = s.size := by omega
      subst he
      have h3 : most < n := by assumption
      go_ret2
      exact ⟨pair_bad (bad_most (by rw [← hn.out]; exact h3)), rfl⟩
    · have he : k = s.size := by omega
      subst he
      have h0 : inB (s.size : Int) 1 7 = true := by assumption
      have h1 : n ≤ most := by assumption
      have h2 : (s.size : Int) ≤ 1 := by assumption
      go_ret2
      exact ⟨pair_good (good_all h0 hh.out (fun h => by omega) (by rw [← hn.out]; exact h1)) hn.out, rfl⟩
    · have h1 : ¬ inB (s.size : Int) 1 7 = true := by assumption
      go_ret2
      exact ⟨pair_bad (bad_size (out17 h1)), rfl⟩

theorem in_false {s : ByteArray} (h : s.size = 0 ∨ 7 < s.size) : inB s.size 1 7 = false := by
  simp only [inB, Bool.and_eq_false_iff, decide_eq_false_iff_not]
  omega
theorem in_true {s : ByteArray} (h0 : 0 < s.size) (h : s.size ≤ 7) : inB s.size 1 7 = true := by
  simp only [inB, Bool.and_eq_true, decide_eq_true_eq]
  omega

set_option maxHeartbeats 1000000 in
theorem implNum_c (s : ByteArray) (most : Int) (hs : s.size ≤ maxLen) (w : World) :
    Calls Tryd.prog 76 #[.string s, .int .i64 most] w fun e w' => e = .returned (.tuple #[.int .i64 (numOut s most), .bool (numGood s most)]) ∧ w = w' := by
  unfold maxLen at hs
  by_cases h0 : s.size = 0
  · rw [← pair_bad (bad_size (in_false (.inl h0)))]
    have h0' : ((s.size : Int) == 0) = true := by simp [h0]
    go_enter Tryd.func76, Tryd.ntmps76
    go_wp2
    go_ret2
    exact ⟨rfl, rfl⟩
  have h0' : ((s.size : Int) == 0) = false := size_ne h0
  by_cases h7 : 7 < s.size
  · rw [← pair_bad (bad_size (in_false (.inr h7)))]
    have h7' : (7 : Int) < (s.size : Int) := by omega
    go_enter Tryd.func76, Tryd.ntmps76
    go_wp2
    go_ret2
    exact ⟨rfl, rfl⟩
  have hp : 0 < s.size := by omega
  have h7' : ¬ (7 : Int) < (s.size : Int) := by omega
  by_cases hz : 1 < s.size ∧ (((s[0]).toNat : Int) == 48) = true
  · rw [← pair_bad (bad_nought hz.1 hz.2)]
    have hz1 : (1 : Int) < (s.size : Int) := by omega
    have hz2 := hz.2
    clear hz
    go_enter Tryd.func76, Tryd.ntmps76
    go_wp2
    go_ret2
    exact ⟨rfl, rfl⟩
  have hz3 : ∀ h : 1 < s.size, (((s[0]).toNat : Int) == 48) = false := fun h => by
    cases e : (((s[0]).toNat : Int) == 48) with
    | false => rfl
    | true => exact absurd ⟨h, e⟩ hz
  have HZ : Hid (∀ h : 1 < s.size, (((s[0]).toNat : Int) == 48) = false) := hz3
  have hg : (((s[0]).toNat : Int) == 48) = true → ¬ (1 : Int) < (s.size : Int) := fun h h1 => hz ⟨by omega, h⟩
  clear hz hz3
  have hin := in_true hp (by omega)
  have main : ∀ w, Calls Tryd.prog 76 #[.string s, .int .i64 most] w fun e w' => e = .returned (.tuple #[.int .i64 (numOut s most), .bool (numGood s most)]) ∧ w = w' := by
    intro w
    cases hc : (((s[0]).toNat : Int) == 48) with
    | true =>
      have hg1 := hg hc
      clear hg
      go_enter Tryd.func76, Tryd.ntmps76
      go_wp2
      go_loop [6, 28] (fun vn vi => ∃ (k : Nat) (n : Int), k ≤ s.size ∧ vi = .int .i64 (k : Int) ∧ vn = .int .i64 n ∧ 0 ≤ n ∧ n < 100000000 ∧ Hid (n = numUpto s k) ∧ Hid (allUpto okDigit s k = true)) (fun _ vi => s.size - (intOf vi).toNat)
      case atStart => exact ⟨0, 0, Nat.zero_le _, rfl, rfl, by omega, by omega, rfl, rfl⟩
      case round =>
        obtain ⟨k, n, hk, rfl, rfl, hn0, hn1, hn, hh⟩ := hrel
        go_wp2_with (go_at_call 111; refine (isDigit_c _ _).mono ?_; rintro e w' ⟨rfl, rfl⟩)
        · have hlt : k < s.size := by assumption
          have h1 : (!digitB ((s[k]).toNat : Int)) = true := by assumption
          go_ret2
          exact ⟨pair_bad (bad_digit hlt (by simpa using h1)), rfl⟩
        · have hlt : k < s.size := by assumption
          have h1 : (!digitB ((s[k]).toNat : Int)) = false := by assumption
          have h2 : digitB ((s[k]).toNat : Int) = true := by simpa using h1
          have hd := digit_bounds h2
          have hh' := step_true (p := okDigit) hlt hh h2
          have hb := num_small hh'.out (by omega)
          have e : n * 10 + (((s[k]).toNat : Int) - 48) % 256 = numUpto s (k + 1) := by
            rw [numUpto_step hlt, ← hn.out]; omega
          go_round
          case rel => exact ⟨k + 1, numUpto s (k + 1), by omega, by go_num, by rw [e], hb.1, hb.2, rfl, hh'⟩
          case measure => simp [intOf]; omega
        · have he : k = s.size := by omega
          subst he
          have h3 : most < n := by assumption
          go_ret2
          exact ⟨pair_bad (bad_most (by rw [← hn.out]; exact h3)), rfl⟩
        · have he : k = s.size := by omega
          subst he
          have h3 : n ≤ most := by omega
          go_ret2
          exact ⟨pair_good (good_all hin hh.out HZ.out (by rw [← hn.out]; exact h3)) hn.out, rfl⟩
    | false =>
      clear hg
      go_enter Tryd.func76, Tryd.ntmps76
      go_wp2
      go_loop [6, 28] (fun vn vi => ∃ (k : Nat) (n : Int), k ≤ s.size ∧ vi = .int .i64 (k : Int) ∧ vn = .int .i64 n ∧ 0 ≤ n ∧ n < 100000000 ∧ Hid (n = numUpto s k) ∧ Hid (allUpto okDigit s k = true)) (fun _ vi => s.size - (intOf vi).toNat)
      case atStart => exact ⟨0, 0, Nat.zero_le _, rfl, rfl, by omega, by omega, rfl, rfl⟩
      case round =>
        obtain ⟨k, n, hk, rfl, rfl, hn0, hn1, hn, hh⟩ := hrel
        go_wp2_with (go_at_call 111; refine (isDigit_c _ _).mono ?_; rintro e w' ⟨rfl, rfl⟩)
        · have hlt : k < s.size := by assumption
          have h1 : (!digitB ((s[k]).toNat : Int)) = true := by assumption
          go_ret2
          exact ⟨pair_bad (bad_digit hlt (by simpa using h1)), rfl⟩
        · have hlt : k < s.size := by assumption
          have h1 : (!digitB ((s[k]).toNat : Int)) = false := by assumption
          have h2 : digitB ((s[k]).toNat : Int) = true := by simpa using h1
          have hd := digit_bounds h2
          have hh' := step_true (p := okDigit) hlt hh h2
          have hb := num_small hh'.out (by omega)
          have e : n * 10 + (((s[k]).toNat : Int) - 48) % 256 = numUpto s (k + 1) := by
            rw [numUpto_step hlt, ← hn.out]; omega
          go_round
          case rel => exact ⟨k + 1, numUpto s (k + 1), by omega, by go_num, by rw [e], hb.1, hb.2, rfl, hh'⟩
          case measure => simp [intOf]; omega
        · have he : k = s.size := by omega
          subst he
          have h3 : most < n := by assumption
          go_ret2
          exact ⟨pair_bad (bad_most (by rw [← hn.out]; exact h3)), rfl⟩
        · have he : k = s.size := by omega
          subst he
          have h3 : n ≤ most := by omega
          go_ret2
          exact ⟨pair_good (good_all hin hh.out HZ.out (by rw [← hn.out]; exact h3)) hn.out, rfl⟩
  exact main w
end Go.Proofs.YtdnpfkknnaepoaaDoor
