/-
  Contracts for the walks, several texts in one: each part says what it proves, and under which conditions.
-/
import Derived.Lib.OthersKept
import Derived.Laws.RangeAny
import Derived.BigQuiet
import Derived.Deep.QuietTactic
import Derived.Deep.RegionHeld
import Derived.Shelf.Strings.Builder1
import Derived.Shelf.Strings.BuilderF
import Derived.Shelf.Strconv.Itoa0
import Derived.Shelf.Strconv.Itoa1
import Derived.Shelf.LaysM
import Derived.Shelf.Strconv.Itoa2
import Derived.Shelf.Strconv.Itoa3
import Derived.Shelf.Strconv.Clone
import Derived.Shelf.Strings.Search1
import Derived.Shelf.Strings.Search2
import Derived.Shelf.Strings.Cut
import Derived.Shelf.Strings.Shaped
import Derived.Test.YthmilkcghfaecaaDoorProg
import Derived.Lib.Builder
import Derived.Lib.AppendStr
import Derived.Lib.UnsafeStr
import Derived.Laws.Externs
import Derived.Laws.BytesArg
import Derived.Sort.Grow
import Derived.Lib.AppendIntMem
import Derived.Test.YthmilkcghfaecaaDoorQ1

/-! Picks that lie in memory: what they are: no condition. -/
namespace Go.Proofs.YthmilkcghfaecaaDoor
open Go.RowKit
set_option linter.unusedSimpArgs false
set_option linter.unusedVariables false

structure PickD where
  name : ByteArray
  vA : Int
  vB : Int
  vC : Int
  vP : List ByteArray
def wtPick (d : PickD) : Nat := d.name.size + bulkS d.vP
def shPick : Sh PickD where
  n := 5
  lies S w cs d := ∃ u0, cs = [.string d.name, .int .i64 d.vA, .int .i64 d.vB, .int .i64 d.vC, u0] ∧ d.name.size ≤ maxLen ∧ RdB S w u0 (strsV d.vP) ∧ saneP d.vP
  keep hk h := by obtain ⟨u0, h0, h1, h2, h3⟩ := h; exact ⟨u0, h0, h1, h2.keep hk, h3⟩
  mono hS h := by obtain ⟨u0, h0, h1, h2, h3⟩ := h; exact ⟨u0, h0, h1, h2.mono hS, h3⟩
def shPickO : Sh PickD where
  n := 5
  lies S w cs d := ∃ u0, cs = [.string d.name, .int .i64 d.vA, .int .i64 d.vB, .int .i64 d.vC, u0] ∧ d.name.size ≤ maxLen ∧ StrsOwn S w u0 d.vP ∧ saneP d.vP
  keep hk h := by obtain ⟨u0, h0, h1, h2, h3⟩ := h; exact ⟨u0, h0, h1, h2.keep hk, h3⟩
  mono hS h := by obtain ⟨u0, h0, h1, h2, h3⟩ := h; exact ⟨u0, h0, h1, h2.mono hS, h3⟩
theorem liesPick_plain {S : Nat → Prop} {w : World} {cs : List Value} {d : PickD} (h : shPickO.lies S w cs d) : shPick.lies S w cs d := by
  obtain ⟨u0, e0, s_name, r0, p0⟩ := h
  exact ⟨u0, e0, s_name, r0.plain, p0⟩
end Go.Proofs.YthmilkcghfaecaaDoor

/-! What the two functions ParseNum (the program's and the specification's) answer: one and the same pair for every string and every bound; no condition but that a string is no longer than an int can count. -/
namespace Go.Proofs.YthmilkcghfaecaaDoor
open Go.RowKit
set_option linter.unusedSimpArgs false
set_option linter.unusedVariables false

/-- The number that the first k bytes tell. -/
def numUpto (s : ByteArray) : Nat → Int
  | 0 => 0
  | k + 1 => numUpto s k * 10 + (((s.data[k]!).toNat : Int) - 48)

def okDigit (_ : Nat) (c : Int) : Bool := digitB c

theorem digit_bounds {c : Int} (h : digitB c = true) : 48 ≤ c ∧ c ≤ 57 := by
  simpa [digitB] using h

theorem numUpto_bounds (s : ByteArray) : ∀ k, allUpto okDigit s k = true → 0 ≤ numUpto s k ∧ numUpto s k < (10 : Int) ^ k
  | 0, _ => by simp [numUpto]
  | k + 1, h => by
    rw [allUpto, Bool.and_eq_true] at h
    have ih := numUpto_bounds s k h.1
    have hd := digit_bounds (c := ((s.data[k]!).toNat : Int)) h.2
    rw [numUpto, Int.pow_succ]
    omega

theorem numUpto_step {s : ByteArray} {k : Nat} (hk : k < s.size) : numUpto s (k + 1) = numUpto s k * 10 + (((s[k]).toNat : Int) - 48) := by
  rw [numUpto, byteBang s k hk]

theorem num_small {s : ByteArray} {k : Nat} (h : allUpto okDigit s k = true) (h8 : k ≤ 8) : 0 ≤ numUpto s k ∧ numUpto s k < 100000000 := by
  have hb := numUpto_bounds s k h
  have : (10 : Int) ^ k ≤ 10 ^ 8 := by
    have : (10 : Nat) ^ k ≤ 10 ^ 8 := Nat.pow_le_pow_right (by decide) h8
    exact_mod_cast this
  omega

/-- What both answer. -/
def numGood (s : ByteArray) (most : Int) : Bool :=
  inB s.size 1 7 && allUpto okDigit s s.size && !(decide (1 < s.size) && ((s.data[0]!).toNat : Int) == 48) && decide (numUpto s s.size ≤ most)
def numOut (s : ByteArray) (most : Int) : Int := if numGood s most then numUpto s s.size else 0

theorem numOut_bad {s : ByteArray} {most : Int} (h : numGood s most = false) : numOut s most = 0 := by simp [numOut, h]
theorem numOut_good {s : ByteArray} {most : Int} (h : numGood s most = true) : numOut s most = numUpto s s.size := by simp [numOut, h]

theorem bad_digit {s : ByteArray} {most : Int} {k : Nat} (hk : k < s.size) (h : digitB ((s[k]).toNat : Int) = false) : numGood s most = false := by
  rw [numGood, end_false (p := okDigit) hk h]; simp
theorem bad_size {s : ByteArray} {most : Int} (h : inB s.size 1 7 = false) : numGood s most = false := by
  rw [numGood, h]; simp
theorem bad_nought {s : ByteArray} {most : Int} (h1 : 1 < s.size) (h : (((s[0]).toNat : Int) == 48) = true) : numGood s most = false := by
  rw [numGood, byteBang s 0 (by omega), h, decide_eq_true h1]; simp
theorem bad_most {s : ByteArray} {most : Int} (h : most < numUpto s s.size) : numGood s most = false := by
  rw [numGood, decide_eq_false (p := numUpto s s.size ≤ most) (by omega)]; simp
theorem good_all {s : ByteArray} {most : Int} (h1 : inB s.size 1 7 = true) (h2 : allUpto okDigit s s.size = true) (h3 : ∀ h : 1 < s.size, (((s[0]).toNat : Int) == 48) = false) (h4 : numUpto s s.size ≤ most) : numGood s most = true := by
  rw [numGood, h1, h2, decide_eq_true h4]
  by_cases h : 1 < s.size
  · rw [byteBang s 0 (by omega), h3 h]; simp
  · simp [h]

theorem in17 {s : ByteArray} (h : inB s.size 1 7 = true) : 1 ≤ s.size ∧ s.size ≤ 7 := by
  simp only [inB, Bool.and_eq_true, decide_eq_true_eq] at h
  omega
theorem out17 {s : ByteArray} (h : ¬ inB s.size 1 7 = true) : inB s.size 1 7 = false := by simpa using h

theorem pair_bad {s : ByteArray} {most : Int} (h : numGood s most = false) : Ending.returned (.tuple #[.int .i64 0, .bool false]) = Ending.returned (.tuple #[.int .i64 (numOut s most), .bool (numGood s most)]) := by
  rw [numOut_bad h, h]
theorem pair_good {s : ByteArray} {most n : Int} (h : numGood s most = true) (hn : n = numUpto s s.size) : Ending.returned (.tuple #[.int .i64 n, .bool true]) = Ending.returned (.tuple #[.int .i64 (numOut s most), .bool (numGood s most)]) := by
  rw [numOut_good h, h, hn]

set_option maxHeartbeats 1000000 in
theorem specNum_c (s : ByteArray) (most : Int) (hs : s.size ≤ maxLen) (w : World) :
    Calls Tryd.prog 45 #[.string s, .int .i64 most] w fun e w' => e = .returned (.tuple #[.int .i64 (numOut s most), .bool (numGood s most)]) ∧ w = w' := by
  unfold maxLen at hs
  go_enter Tryd.func45, Tryd.ntmps45
  go_wp2
  go_loop [6, 7] (fun vn vi => ∃ (k : Nat) (n : Int), k ≤ s.size ∧ k ≤ 8 ∧ vi = .int .i64 (k : Int) ∧ vn = .int .i64 n ∧ 0 ≤ n ∧ n < 100000000 ∧ Hid (n = numUpto s k) ∧ Hid (allUpto okDigit s k = true)) (fun _ vi => s.size - (intOf vi).toNat)
  case atStart => exact ⟨0, 0, Nat.zero_le _, by omega, rfl, rfl, by omega, by omega, rfl, rfl⟩
  case round =>
    obtain ⟨k, n, hk, hk8, rfl, rfl, hn0, hn1, hn, hh⟩ := hrel
    go_wp2_with (first
      | (go_at_call 54; refine (digit_c _ (byte0 _) (byte255 _) _).mono ?_; rintro e w' ⟨rfl, rfl⟩)
      | (go_at_call 55; refine (in_c _ _ _ _).mono ?_; rintro e w' ⟨rfl, rfl⟩))
    · have hlt : k < s.size := by assumption
      have h1 : (!digitB ((s[k]).toNat : Int)) = true := by assumption
      go_ret2
      exact ⟨pair_bad (bad_digit hlt (by simpa using h1)), rfl⟩
    · have hlt : k < s.size := by assumption
      have h8 : (k : Int) < 8 := by assumption
      have h1 : (!digitB ((s[k]).toNat : Int)) = false := by assumption
      have h2 : digitB ((s[k]).toNat : Int) = true := by simpa using h1
      have hd := digit_bounds h2
      have hh' := step_true (p := okDigit) hlt hh h2
      have hb := num_small hh'.out (by omega)
      have e : n * 10 + (((s[k]).toNat : Int) - 48) % 256 = numUpto s (k + 1) := by
        rw [numUpto_step hlt, ← hn.out]; omega
      go_round
      case rel => exact ⟨k + 1, numUpto s (k + 1), by omega, by omega, by go_num, by rw [e], hb.1, hb.2, rfl, hh'⟩
      case measure => simp [intOf]; omega
    · exfalso; have := in17 (s := s) (by assumption); omega
    · exfalso; have := in17 (s := s) (by assumption); omega
    · exfalso; have := in17 (s := s) (by assumption); omega
    · have h1 : ¬ inB (s.size : Int) 1 7 = true := by assumption
      go_ret2
      exact ⟨pair_bad (bad_size (out17 h1)), rfl⟩
    · have h1 : (1 : Int) < (s.size : Int) := by assumption
      have h2 : ((s[0]).toNat : Int) = 48 := by assumption
      go_ret2
      exact ⟨pair_bad (bad_nought (by omega) (by rw [h2]; rfl)), rfl⟩
    · have he : k = s.size := by omega
      subst he
      have h1 : (((s[0]).toNat : Int) == 48) = true ∨ most < n := by assumption
      have h2 : ¬ ((s[0]).toNat : Int) = 48 := by assumption
      have h3 : most < n := by
        rcases h1 with h1 | h1
        · exact absurd (by simpa using h1) h2
        · exact h1
      go_ret2
      exact ⟨pair_bad (bad_most (by rw [← hn.out]; exact h3)), rfl⟩
    · have he : k = s.size := by omega
      subst he
      have h0 : inB (s.size : Int) 1 7 = true := by assumption
      have h1 : (((s[0]).toNat : Int) == 48) = false ∧ n ≤ most := by assumption
      go_ret2
      exact ⟨pair_good (good_all h0 hh.out (fun _ => h1.1) (by rw [← hn.out]; exact h1.2)) hn.out, rfl⟩
    · have he : k = s.size := by omega
      subst he
      have h3 : most < n := by assumption
      go_ret2
      exact ⟨pair_bad (bad_most (by rw [← hn.out]; exact h3)), rfl⟩
    · have he : k = s.size := by omega
      subst he
      have h0 : inB (s.size : Int) 1 7 = true := by assumption
      have h1 : n ≤ most := by assumption
      have h2 : (s.size : Int) ≤ 1 := by assumption
      go_ret2
      exact ⟨pair_good (good_all h0 hh.out (fun h => by omega) (by rw [← hn.out]; exact h1)) hn.out, rfl⟩
    · have h1 : ¬ inB (s.size : Int) 1 7 = true := by assumption
      go_ret2
      exact ⟨pair_bad (bad_size (out17 h1)), rfl⟩

theorem in_false {s : ByteArray} (h : s.size = 0 ∨ 7 < s.size) : inB s.size 1 7 = false := by
  simp only [inB, Bool.and_eq_false_iff, decide_eq_false_iff_not]
  omega
theorem in_true {s : ByteArray} (h0 : 0 < s.size) (h : s.size ≤ 7) : inB s.size 1 7 = true := by
  simp only [inB, Bool.and_eq_true, decide_eq_true_eq]
  omega

set_option maxHeartbeats 1000000 in
theorem implNum_c (s : ByteArray) (most : Int) (hs : s.size ≤ maxLen) (w : World) :
    Calls Tryd.prog 86 #[.string s, .int .i64 most] w fun e w' => e = .returned (.tuple #[.int .i64 (numOut s most), .bool (numGood s most)]) ∧ w = w' := by
  unfold maxLen at hs
  by_cases h0 : s.size = 0
  · rw [← pair_bad (bad_size (in_false (.inl h0)))]
    have h0' : ((s.size : Int) == 0) = true := by simp [h0]
    go_enter Tryd.func86, Tryd.ntmps86
    go_wp2
    go_ret2
    exact ⟨rfl, rfl⟩
  have h0' : ((s.size : Int) == 0) = false := size_ne h0
  by_cases h7 : 7 < s.size
  · rw [← pair_bad (bad_size (in_false (.inr h7)))]
    have h7' : (7 : Int) < (s.size : Int) := by omega
    go_enter Tryd.func86, Tryd.ntmps86
    go_wp2
    go_ret2
    exact ⟨rfl, rfl⟩
  have hp : 0 < s.size := by omega
  have h7' : ¬ (7 : Int) < (s.size : Int) := by omega
  by_cases hz : 1 < s.size ∧ (((s[0]).toNat : Int) == 48) = true
  · rw [← pair_bad (bad_nought hz.1 hz.2)]
    have hz1 : (1 : Int) < (s.size : Int) := by omega
    have hz2 := hz.2
    clear hz
    go_enter Tryd.func86, Tryd.ntmps86
    go_wp2
    go_ret2
    exact ⟨rfl, rfl⟩
  have hz3 : ∀ h : 1 < s.size, (((s[0]).toNat : Int) == 48) = false := fun h => by
    cases e : (((s[0]).toNat : Int) == 48) with
    | false => rfl
    | true => exact absurd ⟨h, e⟩ hz
  have HZ : Hid (∀ h : 1 < s.size, (((s[0]).toNat : Int) == 48) = false) := hz3
  have hg : (((s[0]).toNat : Int) == 48) = true → ¬ (1 : Int) < (s.size : Int) := fun h h1 => hz ⟨by omega, h⟩
  clear hz hz3
  have hin := in_true hp (by omega)
  have main : ∀ w, Calls Tryd.prog 86 #[.string s, .int .i64 most] w fun e w' => e = .returned (.tuple #[.int .i64 (numOut s most), .bool (numGood s most)]) ∧ w = w' := by
    intro w
    cases hc : (((s[0]).toNat : Int) == 48) with
    | true =>
      have hg1 := hg hc
      clear hg
      go_enter Tryd.func86, Tryd.ntmps86
      go_wp2
      go_loop [6, 28] (fun vn vi => ∃ (k : Nat) (n : Int), k ≤ s.size ∧ vi = .int .i64 (k : Int) ∧ vn = .int .i64 n ∧ 0 ≤ n ∧ n < 100000000 ∧ Hid (n = numUpto s k) ∧ Hid (allUpto okDigit s k = true)) (fun _ vi => s.size - (intOf vi).toNat)
      case atStart => exact ⟨0, 0, Nat.zero_le _, rfl, rfl, by omega, by omega, rfl, rfl⟩
      case round =>
        obtain ⟨k, n, hk, rfl, rfl, hn0, hn1, hn, hh⟩ := hrel
        go_wp2_with (go_at_call 73; refine (isDigit_c _ _).mono ?_; rintro e w' ⟨rfl, rfl⟩)
        · have hlt : k < s.size := by assumption
          have h1 : (!digitB ((s[k]).toNat : Int)) = true := by assumption
          go_ret2
          exact ⟨pair_bad (bad_digit hlt (by simpa using h1)), rfl⟩
        · have hlt : k < s.size := by assumption
          have h1 : (!digitB ((s[k]).toNat : Int)) = false := by assumption
          have h2 : digitB ((s[k]).toNat : Int) = true := by simpa using h1
          have hd := digit_bounds h2
          have hh' := step_true (p := okDigit) hlt hh h2
          have hb := num_small hh'.out (by omega)
          have e : n * 10 + (((s[k]).toNat : Int) - 48) % 256 = numUpto s (k + 1) := by
            rw [numUpto_step hlt, ← hn.out]; omega
          go_round
          case rel => exact ⟨k + 1, numUpto s (k + 1), by omega, by go_num, by rw [e], hb.1, hb.2, rfl, hh'⟩
          case measure => simp [intOf]; omega
        · have he : k = s.size := by omega
          subst he
          have h3 : most < n := by assumption
          go_ret2
          exact ⟨pair_bad (bad_most (by rw [← hn.out]; exact h3)), rfl⟩
        · have he : k = s.size := by omega
          subst he
          have h3 : n ≤ most := by omega
          go_ret2
          exact ⟨pair_good (good_all hin hh.out HZ.out (by rw [← hn.out]; exact h3)) hn.out, rfl⟩
    | false =>
      clear hg
      go_enter Tryd.func86, Tryd.ntmps86
      go_wp2
      go_loop [6, 28] (fun vn vi => ∃ (k : Nat) (n : Int), k ≤ s.size ∧ vi = .int .i64 (k : Int) ∧ vn = .int .i64 n ∧ 0 ≤ n ∧ n < 100000000 ∧ Hid (n = numUpto s k) ∧ Hid (allUpto okDigit s k = true)) (fun _ vi => s.size - (intOf vi).toNat)
      case atStart => exact ⟨0, 0, Nat.zero_le _, rfl, rfl, by omega, by omega, rfl, rfl⟩
      case round =>
        obtain ⟨k, n, hk, rfl, rfl, hn0, hn1, hn, hh⟩ := hrel
        go_wp2_with (go_at_call 73; refine (isDigit_c _ _).mono ?_; rintro e w' ⟨rfl, rfl⟩)
        · have hlt : k < s.size := by assumption
          have h1 : (!digitB ((s[k]).toNat : Int)) = true := by assumption
          go_ret2
          exact ⟨pair_bad (bad_digit hlt (by simpa using h1)), rfl⟩
        · have hlt : k < s.size := by assumption
          have h1 : (!digitB ((s[k]).toNat : Int)) = false := by assumption
          have h2 : digitB ((s[k]).toNat : Int) = true := by simpa using h1
          have hd := digit_bounds h2
          have hh' := step_true (p := okDigit) hlt hh h2
          have hb := num_small hh'.out (by omega)
          have e : n * 10 + (((s[k]).toNat : Int) - 48) % 256 = numUpto s (k + 1) := by
            rw [numUpto_step hlt, ← hn.out]; omega
          go_round
          case rel => exact ⟨k + 1, numUpto s (k + 1), by omega, by go_num, by rw [e], hb.1, hb.2, rfl, hh'⟩
          case measure => simp [intOf]; omega
        · have he : k = s.size := by omega
          subst he
          have h3 : most < n := by assumption
          go_ret2
          exact ⟨pair_bad (bad_most (by rw [← hn.out]; exact h3)), rfl⟩
        · have he : k = s.size := by omega
          subst he
          have h3 : n ≤ most := by omega
          go_ret2
          exact ⟨pair_good (good_all hin hh.out HZ.out (by rw [← hn.out]; exact h3)) hn.out, rfl⟩
  exact main w
end Go.Proofs.YthmilkcghfaecaaDoor

/-! What the functions that look at one text of a Pre answer (the program's and the specification's): contracts for the walks; condition: a string is no longer than an int can count. -/
namespace Go.Proofs.YthmilkcghfaecaaDoor
open Go.RowKit
set_option linter.unusedSimpArgs false
set_option linter.unusedVariables false

def preB (c : Int) : Bool := smallB c || inB c 65 90 || digitB c || c == 45
def okPre (_ : Nat) (c : Int) : Bool := preB c
def digitsB (s : ByteArray) : Bool := allUpto okDigit s s.size
def firstB (s : ByteArray) : Bool := ((s.data[0]!).toNat : Int) == 48
def partB (s : ByteArray) : Bool := allUpto okPre s s.size && inB s.size 1 8 && (!digitsB s || decide (s.size = 1) || !firstB s)

theorem ret_bool {a b : Bool} (h : a = b) : Ending.returned (.bool a) = .returned (.bool b) := by rw [h]

theorem isPreSign_c (c : Int) (w : World) :
    Calls Tryd.prog 74 #[.int .i32 c] w fun e w' => e = .returned (.bool (preB c)) ∧ w = w' := by
  go_enter Tryd.func74, Tryd.ntmps74
  go_wp2
  all_goals (go_ret; refine ⟨ret_bool ?_, rfl⟩)
  all_goals (rw [Bool.eq_iff_iff]; simp [preB, smallB, inB, digitB]; try omega)

set_option maxHeartbeats 1000000 in
theorem specDigits_c (s : ByteArray) (hs : s.size ≤ maxLen) (w : World) :
    Calls Tryd.prog 71 #[.string s] w fun e w' => e = .returned (.bool (digitsB s)) ∧ w = w' := by
  unfold maxLen at hs
  go_enter Tryd.func71, Tryd.ntmps71
  go_wp2
  go_loop [3] (fun vi => ∃ k : Nat, k ≤ s.size ∧ vi = .int .i64 (k : Int) ∧ Hid (allUpto okDigit s k = true)) (fun vi => s.size - (intOf vi).toNat)
  case atStart => exact ⟨0, Nat.zero_le _, rfl, rfl⟩
  case round =>
    obtain ⟨k, hk, rfl, hh⟩ := hrel
    go_wp2_with (go_at_call 54; refine (digit_c _ (byte0 _) (byte255 _) _).mono ?_; rintro e w' ⟨rfl, rfl⟩)
    · have hlt : k < s.size := by assumption
      have h1 : (!digitB ((s[k]).toNat : Int)) = true := by assumption
      go_ret
      exact ⟨by rw [digitsB, end_false hlt (by simpa [okDigit] using h1)]; rfl, rfl⟩
    · have hlt : k < s.size := by assumption
      have h1 : (!digitB ((s[k]).toNat : Int)) = false := by assumption
      go_round
      case rel => exact ⟨k + 1, by omega, by go_num, step_true hlt hh (by simpa [okDigit] using h1)⟩
      case measure => simp [intOf]; omega
    · have he : k = s.size := by omega
      subst he
      go_ret
      exact ⟨by rw [digitsB, hh.out]; rfl, rfl⟩

set_option maxHeartbeats 1000000 in
theorem implDigits_c (s : ByteArray) (hs : s.size ≤ maxLen) (w : World) :
    Calls Tryd.prog 75 #[.string s] w fun e w' => e = .returned (.bool (digitsB s)) ∧ w = w' := by
  unfold maxLen at hs
  go_enter Tryd.func75, Tryd.ntmps75
  go_wp2
  go_loop [6] (fun vi => ∃ k : Nat, k ≤ s.size ∧ vi = .int .i64 (k : Int) ∧ Hid (allUpto okDigit s k = true)) (fun vi => s.size - (intOf vi).toNat)
  case atStart => exact ⟨0, Nat.zero_le _, rfl, rfl⟩
  case round =>
    obtain ⟨k, hk, rfl, hh⟩ := hrel
    go_wp2_with (go_at_call 73; refine (isDigit_c _ _).mono ?_; rintro e w' ⟨rfl, rfl⟩)
    · have hlt : k < s.size := by assumption
      have h1 : (!digitB ((s[k]).toNat : Int)) = true := by assumption
      go_ret
      exact ⟨by rw [digitsB, end_false hlt (by simpa [okDigit] using h1)]; rfl, rfl⟩
    · have hlt : k < s.size := by assumption
      have h1 : (!digitB ((s[k]).toNat : Int)) = false := by assumption
      go_round
      case rel => exact ⟨k + 1, by omega, by go_num, step_true hlt hh (by simpa [okDigit] using h1)⟩
      case measure => simp [intOf]; omega
    · have he : k = s.size := by omega
      subst he
      go_ret
      exact ⟨by rw [digitsB, hh.out]; rfl, rfl⟩

theorem pre_high {c : Int} (h : 128 ≤ c) : preB c = false := by
  rw [Bool.eq_false_iff]; simp [preB, smallB, inB, digitB]; omega

theorem partB_out {s : ByteArray} (h : s.size = 0 ∨ 8 < s.size) : partB s = false := by
  have : inB s.size 1 8 = false := by
    simp only [inB, Bool.and_eq_false_iff, decide_eq_false_iff_not]
    omega
  rw [partB, this, Bool.and_false, Bool.false_and]
theorem partB_bad {s : ByteArray} (h : allUpto okPre s s.size = false) : partB s = false := by rw [partB, h]; rfl
theorem partB_in {s : ByteArray} (h0 : 0 < s.size) (h1 : s.size ≤ 8) (h : allUpto okPre s s.size = true) : partB s = (!digitsB s || decide (s.size = 1) || !firstB s) := by
  have : inB s.size 1 8 = true := by
    simp only [inB, Bool.and_eq_true, decide_eq_true_eq]
    omega
  rw [partB, this, h]; rfl
theorem firstB_eq {s : ByteArray} (h0 : 0 < s.size) : firstB s = (((s[0]).toNat : Int) == 48) := by rw [firstB, byteBang s 0 h0]

theorem pre_1 {c : Int} (k : Nat) (h : digitB c = true) : okPre k c = true := by simp [okPre, preB, h]
theorem pre_2 {c : Int} (k : Nat) (h : smallB c = true) : okPre k c = true := by simp [okPre, preB, h]
theorem pre_3 {c : Int} (k : Nat) (h : inB c 65 90 = true) : okPre k c = true := by simp [okPre, preB, h]
theorem pre_4 {c : Int} (k : Nat) (h : (c != 45) = false) : okPre k c = true := by
  have : (c == 45) = true := by simpa using h
  simp only [okPre, preB, this, Bool.or_true]

end Go.Proofs.YthmilkcghfaecaaDoor

/-! What the specification's look at one text of a Pre answers: a contract for the walks; condition: the string is no longer than an int can count. -/
namespace Go.Proofs.YthmilkcghfaecaaDoor
open Go.RowKit
set_option linter.unusedSimpArgs false
set_option linter.unusedVariables false

theorem pre_none {c : Int} (k : Nat) (h1 : ¬ digitB c = true) (h2 : ¬ smallB c = true) (h3 : ¬ inB c 65 90 = true) (h4 : (c != 45) = true) : okPre k c = false := by
  have h5 : (c == 45) = false := by simpa using h4
  simp only [okPre, preB, h1, h2, h3, h5]; rfl

set_option maxHeartbeats 2000000 in
theorem specPart_c (s : ByteArray) (hs : s.size ≤ maxLen) (w : World) :
    Calls Tryd.prog 56 #[.string s] w fun e w' => e = .returned (.bool (partB s)) ∧ w = w' := by
  have hs0 := hs
  unfold maxLen at hs
  go_enter Tryd.func56, Tryd.ntmps56
  go_wp2
  go_loop [3] (fun vi => ∃ k : Nat, k ≤ s.size ∧ vi = .int .i64 (k : Int) ∧ Hid (allUpto okPre s k = true)) (fun vi => s.size - (intOf vi).toNat)
  case atStart => exact ⟨0, Nat.zero_le _, rfl, rfl⟩
  case round =>
    obtain ⟨k, hk, rfl, hh⟩ := hrel
    by_cases hlt : k < s.size
    · have hwb := wrap_byte s[k]
      go_wp2_with (first
        | (go_at_call 53; refine (small_c _ (byte0 _) (byte255 _) _).mono ?_; rintro e w' ⟨rfl, rfl⟩)
        | (go_at_call 54; refine (digit_c _ (byte0 _) (byte255 _) _).mono ?_; rintro e w' ⟨rfl, rfl⟩)
        | (go_at_call 55; refine (in_c _ _ _ _).mono ?_; rintro e w' ⟨rfl, rfl⟩))
      · have h1 : digitB ((s[k]).toNat : Int) = true := by assumption
        go_round
        case rel => exact ⟨k + 1, by omega, by go_num, step_true hlt hh (pre_1 _ h1)⟩
        case measure => simp [intOf]; omega
      · have h1 : smallB ((s[k]).toNat : Int) = true := by assumption
        go_round
        case rel => exact ⟨k + 1, by omega, by go_num, step_true hlt hh (pre_2 _ h1)⟩
        case measure => simp [intOf]; omega
      · have h1 : inB ((s[k]).toNat : Int) 65 90 = true := by assumption
        go_round
        case rel => exact ⟨k + 1, by omega, by go_num, step_true hlt hh (pre_3 _ h1)⟩
        case measure => simp [intOf]; omega
      · have h1 : ¬ digitB ((s[k]).toNat : Int) = true := by assumption
        have h2 : ¬ smallB ((s[k]).toNat : Int) = true := by assumption
        have h3 : ¬ inB ((s[k]).toNat : Int) 65 90 = true := by assumption
        have h4 : (((s[k]).toNat : Int) != 45) = true := by assumption
        go_ret
        exact ⟨ret_bool (partB_bad (end_false hlt (pre_none _ h1 h2 h3 h4))).symm, rfl⟩
      · have h1 : (((s[k]).toNat : Int) != 45) = false := by assumption
        go_round
        case rel => exact ⟨k + 1, by omega, by go_num, step_true hlt hh (pre_4 _ h1)⟩
        case measure => simp [intOf]; omega
    · have he : k = s.size := by omega
      subst he
      have HA : Hid (allUpto okPre s s.size = true) := hh
      clear hh
      by_cases h0 : s.size = 0
      · have e1 : inB (s.size : Int) 1 8 = false := by simp [inB]; omega
        go_wp2_with (go_at_call 55; refine (in_c _ _ _ _).mono ?_; rintro e w' ⟨rfl, rfl⟩)
        go_ret
        exact ⟨ret_bool (partB_out (.inl h0)).symm, rfl⟩
      · have hp : 0 < s.size := by omega
        have hpi : (0 : Int) < (s.size : Int) := by omega
        have HF : Hid (firstB s = (((s[0]).toNat : Int) == 48)) := firstB_eq hp
        by_cases h8 : 8 < s.size
        · have e1 : inB (s.size : Int) 1 8 = false := by simp [inB]; omega
          go_wp2_with (go_at_call 55; refine (in_c _ _ _ _).mono ?_; rintro e w' ⟨rfl, rfl⟩)
          go_ret
          exact ⟨ret_bool (partB_out (.inr h8)).symm, rfl⟩
        · have e1 : inB (s.size : Int) 1 8 = true := by simp [inB]; omega
          cases hd : digitsB s with
          | false =>
            go_wp2_with (first
              | (go_at_call 55; refine (in_c _ _ _ _).mono ?_; rintro e w' ⟨rfl, rfl⟩)
              | (go_at_call 71; refine (specDigits_c s hs0 _).mono ?_; rintro e w' ⟨rfl, rfl⟩))
            go_ret
            exact ⟨ret_bool (by rw [partB_in hp (by omega) HA.out, hd]; rfl), rfl⟩
          | true =>
            by_cases h1 : s.size = 1
            · have h1' : ((s.size : Int) == 1) = true := by simp [h1]
              go_wp2_with (first
                | (go_at_call 55; refine (in_c _ _ _ _).mono ?_; rintro e w' ⟨rfl, rfl⟩)
                | (go_at_call 71; refine (specDigits_c s hs0 _).mono ?_; rintro e w' ⟨rfl, rfl⟩))
              go_ret
              exact ⟨ret_bool (by rw [partB_in hp (by omega) HA.out, hd]; simp [h1]), rfl⟩
            · have h1' : ((s.size : Int) == 1) = false := by rw [beq_eq_false_iff_ne]; omega
              go_wp2_with (first
                | (go_at_call 55; refine (in_c _ _ _ _).mono ?_; rintro e w' ⟨rfl, rfl⟩)
                | (go_at_call 71; refine (specDigits_c s hs0 _).mono ?_; rintro e w' ⟨rfl, rfl⟩))
              go_ret
              exact ⟨ret_bool (by rw [partB_in hp (by omega) HA.out, hd, HF.out]; simp [h1, bne]), rfl⟩
end Go.Proofs.YthmilkcghfaecaaDoor

/-! What the program's look at one text of a Pre answers (it goes over the text's runes): a contract for the walks; condition: the string is no longer than an int can count. -/
namespace Go.Proofs.YthmilkcghfaecaaDoor
open Go.RowKit
set_option linter.unusedSimpArgs false
set_option linter.unusedVariables false

theorem iterPos_of {w : World} {k : Nat} {s : ByteArray} {p : Nat} (h : w.heap[k]? = some (.stringIter s p)) : w.iterPos k = p := by simp [World.iterPos, h]
theorem rune_high (s : ByteArray) (pos : Nat) (h : pos < s.size) (ha : 128 ≤ (s[pos]).toNat) : preB ((Utf8.decode s pos).1 : Int) = false := pre_high (by have := (decode_high s pos h ha).1; omega)
theorem byte_high (s : ByteArray) (pos : Nat) (h : pos < s.size) (ha : 128 ≤ (s[pos]).toNat) : preB ((s[pos]).toNat : Int) = false := pre_high (by omega)

set_option maxHeartbeats 2000000 in
set_option maxRecDepth 100000 in
theorem implPart_c (s : ByteArray) (hs : s.size ≤ maxLen) (w : World) :
    Calls Tryd.prog 62 #[.string s] w fun e w' => e = .returned (.bool (partB s)) ∧ Below w.heap.size w w' := by
  have hs0 := hs
  unfold maxLen at hs
  by_cases h0 : s.size = 0
  · have h0' : ((s.size : Int) == 0) = true := by simp [h0]
    go_enter Tryd.func62, Tryd.ntmps62
    go_wp2
    go_ret
    exact ⟨ret_bool (partB_out (.inl h0)).symm, Below.refl _ _⟩
  have h0' : ((s.size : Int) == 0) = false := size_ne h0
  by_cases h8 : 8 < s.size
  · have h8' : (8 : Int) < (s.size : Int) := by omega
    go_enter Tryd.func62, Tryd.ntmps62
    go_wp2
    go_ret
    exact ⟨ret_bool (partB_out (.inr h8)).symm, Below.refl _ _⟩
  have h8' : ¬ (8 : Int) < (s.size : Int) := by omega
  have hp0 : 0 < s.size := by omega
  have hpi : (0 : Int) < (s.size : Int) := by omega
  have HF : Hid (firstB s = (((s[0]).toNat : Int) == 48)) := firstB_eq hp0
  go_enter Tryd.func62, Tryd.ntmps62
  go_wp2
  go_loopw [4] (fun _ wr => ∃ pos : Nat, pos ≤ s.size ∧ wr.heap[w.heap.size]? = some (.stringIter s pos) ∧ Hid (allUpto okPre s pos = true) ∧ Below w.heap.size w wr) (fun _ wr => s.size - wr.iterPos w.heap.size)
  case atStart => exact ⟨0, Nat.zero_le _, World.iter_heap w s 0, rfl, (Below.refl _ _).alloc (Nat.le_refl _) _⟩
  case round =>
    obtain ⟨pos, hk, hit, hh, hbw⟩ := hrel
    have hpos0 := iterPos_of hit
    by_cases hp : pos < s.size
    · by_cases ha : (s[pos]).toNat < 128
      · have hnx : ∀ ty, (Instr.next (.pointer (some ⟨w.heap.size, 0, none⟩)) true ty).run Tryd.prog wr = _ := fun ty => Lib.run_next_ascii_at wr w.heap.size s pos ty hit hp ha
        have hit2 := Lib.iterAt_heap wr w.heap.size s pos (pos + 1) hit
        have hbw2 := Lib.below_iterAt hbw (k := w.heap.size) (Nat.le_refl _) s (pos + 1)
        obtain ⟨W1, hW1⟩ : ∃ W1, W1 = wr.iterAt w.heap.size s (pos + 1) := ⟨_, rfl⟩
        rw [← hW1] at hnx hit2 hbw2
        clear hW1 hit hbw
        go_wp2_with (go_at_call 74; refine (isPreSign_c _ _).mono ?_; rintro e w' ⟨rfl, rfl⟩)
        · have h1 : (!preB ((s[pos]).toNat : Int)) = true := by assumption
          go_ret
          exact ⟨ret_bool (partB_bad (end_false hp (by simpa [okPre] using h1))).symm, hbw2⟩
        · have h1 : (!preB ((s[pos]).toNat : Int)) = false := by assumption
          go_roundw
          case rel => exact ⟨pos + 1, by omega, hit2, step_true hp hh (by simpa [okPre] using h1), hbw2⟩
          case measure => rw [iterPos_of hit2, hpos0]; omega
      · have hnx : ∀ ty, (Instr.next (.pointer (some ⟨w.heap.size, 0, none⟩)) true ty).run Tryd.prog wr = _ := fun ty => Lib.run_next_any_at wr w.heap.size s pos ty hit hp
        have hbw2 := Lib.below_iterAt hbw (k := w.heap.size) (Nat.le_refl _) s (pos + (Utf8.decode s pos).2)
        have hr := rune_high s pos hp (by omega)
        have HB := byte_high s pos hp (by omega)
        obtain ⟨r, hr'⟩ : ∃ r : Int, r = ((Utf8.decode s pos).1 : Int) := ⟨_, rfl⟩
        obtain ⟨W1, hW1⟩ : ∃ W1, W1 = wr.iterAt w.heap.size s (pos + (Utf8.decode s pos).2) := ⟨_, rfl⟩
        rw [← hW1, ← hr'] at hnx
        rw [← hW1] at hbw2
        rw [← hr'] at hr
        have HB' : Hid (preB ((s[pos]).toNat : Int) = false) := HB
        clear hW1 hit hbw hr' HB
        go_wp2_with (go_at_call 74; refine (isPreSign_c _ _).mono ?_; rintro e w' ⟨rfl, rfl⟩)
        go_ret
        exact ⟨ret_bool (partB_bad (end_false hp HB'.out)).symm, hbw2⟩
    · have hnx : ∀ ty, (Instr.next (.pointer (some ⟨w.heap.size, 0, none⟩)) true ty).run Tryd.prog wr = _ := fun ty => Lib.run_next_end_at wr w.heap.size s pos ty hit hp
      have he : pos = s.size := by omega
      subst he
      have HA : Hid (allUpto okPre s s.size = true) := hh
      clear hh hpos0
      by_cases h1 : s.size = 1
      · have h1' : ((s.size : Int) == 1) = true := by simp [h1]
        go_wp2
        go_ret
        exact ⟨ret_bool (by rw [partB_in hp0 (by omega) HA.out]; simp [h1]), hbw⟩
      · have h1' : ((s.size : Int) == 1) = false := by rw [beq_eq_false_iff_ne]; omega
        cases hf : (((s[0]).toNat : Int) == 48) with
        | true =>
          have hf' : (((s[0]).toNat : Int) != 48) = false := by rw [bne, hf]; rfl
          go_wp2_with (go_at_call 75; refine (implDigits_c s hs0 _).mono ?_; rintro e w' ⟨rfl, rfl⟩)
          go_ret
          exact ⟨ret_bool (by rw [partB_in hp0 (by omega) HA.out, HF.out, hf]; simp [h1]), hbw⟩
        | false =>
          have hf' : (((s[0]).toNat : Int) != 48) = true := by rw [bne, hf]; rfl
          go_wp2
          go_ret
          exact ⟨ret_bool (by rw [partB_in hp0 (by omega) HA.out, HF.out, hf]; simp [h1]), hbw⟩
end Go.Proofs.YthmilkcghfaecaaDoor

/-! What VerOk answers, the program's and the specification's: contracts for the walks; conditions: the list of texts lies in memory as told, and is no longer than 2 to the 20, with all that it holds. -/
namespace Go.Proofs.YthmilkcghfaecaaDoor
open Go.RowKit
set_option linter.unusedSimpArgs false
set_option linter.unusedVariables false

def partsUpto (ps : List ByteArray) : Nat → Bool
  | 0 => true
  | k + 1 => partsUpto ps k && partB (ps.getD k ⟨#[]⟩)
def verB (a b c : Int) (ps : List ByteArray) : Bool := partsUpto ps ps.length && inB a 0 9999 && inB b 0 9999 && inB c 0 9999 && decide (ps.length ≤ 3)

theorem partsUpto_cut (ps : List ByteArray) (k : Nat) (h : partB (ps.getD k ⟨#[]⟩) = false) : ∀ n, k < n → partsUpto ps n = false
  | 0, h0 => by omega
  | n + 1, hk => by
    unfold partsUpto
    by_cases e : k = n
    · subst e; rw [h, Bool.and_false]
    · rw [partsUpto_cut ps k h n (by omega)]; rfl
theorem parts_end {ps : List ByteArray} {k : Nat} (hk : k < ps.length) (h : partB ps[k] = false) : partsUpto ps ps.length = false :=
  partsUpto_cut ps k (by simpa [List.getD_eq_getElem?_getD, hk] using h) _ hk
theorem parts_step {ps : List ByteArray} {k : Nat} (hk : k < ps.length) (hh : Hid (partsUpto ps k = true)) (h : partB ps[k] = true) : Hid (partsUpto ps (k + 1) = true) := by
  show _ = _
  rw [partsUpto, hh.out]
  simpa [List.getD_eq_getElem?_getD, hk] using h
theorem verB_parts {a b c : Int} {ps : List ByteArray} (h : partsUpto ps ps.length = false) : verB a b c ps = false := by rw [verB, h]; rfl
theorem verB_all {a b c : Int} {ps : List ByteArray} (h : partsUpto ps ps.length = true) : verB a b c ps = (inB a 0 9999 && inB b 0 9999 && inB c 0 9999 && decide (ps.length ≤ 3)) := by rw [verB, h]; rfl

theorem verNum_c (n : Int) (w : World) :
    Calls Tryd.prog 61 #[.int .i64 n] w fun e w' => e = .returned (.bool (inB n 0 9999)) ∧ w = w' := by
  by_cases h : 0 ≤ n
  · have hb : inB n 0 9999 = decide (n ≤ 9999) := by simp [inB, h]
    rw [hb]
    go_enter Tryd.func61, Tryd.ntmps61
    go_wp2
    go_ret
    exact ⟨rfl, rfl⟩
  · have hb : inB n 0 9999 = false := by simp [inB, h]
    rw [hb]
    go_enter Tryd.func61, Tryd.ntmps61
    go_wp2
    go_ret
    exact ⟨rfl, rfl⟩

theorem le_sum_of_mem : ∀ {ps : List ByteArray} {s : ByteArray}, s ∈ ps → s.size ≤ (ps.map ByteArray.size).sum
  | p :: ps, s, h => by
    rw [List.map_cons, List.sum_cons]
    rcases List.mem_cons.1 h with rfl | h
    · omega
    · have := le_sum_of_mem h; omega
theorem size_of_bulk {ps : List ByteArray} {s : ByteArray} (h : s ∈ ps) : s.size ≤ bulkS ps := by
  unfold bulkS
  have := le_sum_of_mem h
  omega

set_option maxHeartbeats 2000000 in
set_option maxRecDepth 100000 in
theorem specVerOk_c (a b c : Int) (u : Value) (ps : List ByteArray) (w : World) (hu : Reads w u (strsV ps)) (hb : bulkS ps ≤ 1048576) :
    Calls Tryd.prog 32 #[.agg #[.int .i64 a, .int .i64 b, .int .i64 c, u]] w fun e w' => e = .returned (.bool (verB a b c ps)) ∧ Below w.heap.size w w' := by
  have hsz : ∀ s ∈ ps, s.size ≤ maxLen := fun s hs => by have := size_of_bulk hs; unfold maxLen; omega
  have hn : ps.length ≤ 1048576 := by unfold bulkS at hb; omega
  have hbx : ∀ o, Below w.heap.size w (w.alloc o) := fun o => (Below.refl _ _).alloc (Nat.le_refl _) _
  obtain ⟨q, cap, rfl, _, hc⟩ := reads_strs hu
  clear hu hb
  go_enter Tryd.func32, Tryd.ntmps32
  go_wp2
  go_loop [3] (fun vi => ∃ k : Nat, k ≤ ps.length ∧ vi = .int .i64 (k : Int) ∧ Hid (partsUpto ps k = true)) (fun vi => ps.length - (intOf vi).toNat)
  case atStart => exact ⟨0, Nat.zero_le _, rfl, rfl⟩
  case round =>
    obtain ⟨k, hk, rfl, hh⟩ := hrel
    by_cases hlt : k < ps.length
    · rcases hc with rfl | ⟨bl, off, rfl, hlb, hc⟩
      · simp at hlt
      have hcx := hc k hlt
      have hcy : ∀ o, (w.alloc o).cell? ⟨bl, off + k, none⟩ = some (.string ps[k]) := fun o => ((hbx o).cell (p := ⟨bl, off + k, none⟩) hlb).trans hcx
      have hsk := hsz ps[k] (List.getElem_mem hlt)
      obtain ⟨t, ht⟩ : ∃ t, t = ps[k] := ⟨_, rfl⟩
      rw [← ht] at hcx hcy hsk
      have HT : Hid (t = ps[k]) := ht
      have hki : (k : Int) < (ps.length : Int) := by omega
      clear hc hsz ht
      go_wp2_with (go_at_call 56; refine (specPart_c t hsk _).mono ?_; rintro e w' ⟨rfl, rfl⟩)
      · have h1 : (!partB t) = true := by assumption
        go_ret
        exact ⟨ret_bool (verB_parts (parts_end hlt (by rw [← HT.out]; simpa using h1))).symm, hbx _⟩
      · have h1 : (!partB t) = false := by assumption
        go_round
        case rel => exact ⟨k + 1, by omega, by go_num, parts_step hlt hh (by rw [← HT.out]; simpa using h1)⟩
        case measure => simp [intOf]; omega
    · have he : k = ps.length := by omega
      subst he
      have HA : Hid (partsUpto ps ps.length = true) := hh
      have hki : ¬ (ps.length : Int) < (ps.length : Int) := by omega
      clear hc hsz hh
      cases ha : inB a 0 9999 with
      | false =>
        go_wp2_with (go_at_call 55; refine (in_c _ _ _ _).mono ?_; rintro e w' ⟨rfl, rfl⟩)
        go_ret
        exact ⟨ret_bool (by rw [verB_all HA.out, ha]; rfl), hbx _⟩
      | true =>
        cases hb : inB b 0 9999 with
        | false =>
          go_wp2_with (go_at_call 55; refine (in_c _ _ _ _).mono ?_; rintro e w' ⟨rfl, rfl⟩)
          go_ret
          exact ⟨ret_bool (by rw [verB_all HA.out, ha, hb]; rfl), hbx _⟩
        | true =>
          cases hc : inB c 0 9999 with
          | false =>
            go_wp2_with (go_at_call 55; refine (in_c _ _ _ _).mono ?_; rintro e w' ⟨rfl, rfl⟩)
            go_ret
            exact ⟨ret_bool (by rw [verB_all HA.out, ha, hb, hc]; rfl), hbx _⟩
          | true =>
            go_wp2_with (go_at_call 55; refine (in_c _ _ _ _).mono ?_; rintro e w' ⟨rfl, rfl⟩)
            go_ret
            exact ⟨ret_bool (by rw [verB_all HA.out, ha, hb, hc, Bool.eq_iff_iff]; simp; try omega), hbx _⟩

theorem verB_num {a b c : Int} {ps : List ByteArray} (h : inB a 0 9999 = false ∨ inB b 0 9999 = false ∨ inB c 0 9999 = false ∨ 3 < ps.length) : verB a b c ps = false := by
  rw [verB]
  rcases h with h | h | h | h
  · rw [h]; simp
  · rw [h]; simp
  · rw [h]; simp
  · have : decide (ps.length ≤ 3) = false := by simp; omega
    rw [this, Bool.and_false]

set_option maxHeartbeats 2000000 in
set_option maxRecDepth 100000 in
theorem implVerOk_c (a b c : Int) (u : Value) (ps : List ByteArray) (w : World) (hu : Reads w u (strsV ps)) (hb : bulkS ps ≤ 1048576) :
    Calls Tryd.prog 41 #[.agg #[.int .i64 a, .int .i64 b, .int .i64 c, u]] w fun e w' => e = .returned (.bool (verB a b c ps)) ∧ Below w.heap.size w w' := by
  have hsz : ∀ s ∈ ps, s.size ≤ maxLen := fun s hs => by have := size_of_bulk hs; unfold maxLen; omega
  have hn : ps.length ≤ 1048576 := by unfold bulkS at hb; omega
  have hbx : ∀ o, Below w.heap.size w (w.alloc o) := fun o => (Below.refl _ _).alloc (Nat.le_refl _) _
  obtain ⟨q, cap, rfl, _, hc⟩ := reads_strs hu
  clear hu hb
  cases ha : inB a 0 9999 with
  | false =>
    clear hc
    go_enter Tryd.func41, Tryd.ntmps41
    go_wp2_with (go_at_call 61; refine (verNum_c _ _).mono ?_; rintro e w' ⟨rfl, rfl⟩)
    go_ret
    exact ⟨ret_bool (verB_num (.inl ha)).symm, hbx _⟩
  | true =>
  cases hb : inB b 0 9999 with
  | false =>
    clear hc
    go_enter Tryd.func41, Tryd.ntmps41
    go_wp2_with (go_at_call 61; refine (verNum_c _ _).mono ?_; rintro e w' ⟨rfl, rfl⟩)
    go_ret
    exact ⟨ret_bool (verB_num (.inr (.inl hb))).symm, hbx _⟩
  | true =>
  cases hcc : inB c 0 9999 with
  | false =>
    clear hc
    go_enter Tryd.func41, Tryd.ntmps41
    go_wp2_with (go_at_call 61; refine (verNum_c _ _).mono ?_; rintro e w' ⟨rfl, rfl⟩)
    go_ret
    exact ⟨ret_bool (verB_num (.inr (.inr (.inl hcc)))).symm, hbx _⟩
  | true =>
  by_cases h3 : 3 < ps.length
  · have h3' : (3 : Int) < (ps.length : Int) := by omega
    clear hc
    go_enter Tryd.func41, Tryd.ntmps41
    go_wp2_with (go_at_call 61; refine (verNum_c _ _).mono ?_; rintro e w' ⟨rfl, rfl⟩)
    go_ret
    exact ⟨ret_bool (verB_num (.inr (.inr (.inr h3)))).symm, hbx _⟩
  have h3' : ¬ (3 : Int) < (ps.length : Int) := by omega
  have HV : Hid (partsUpto ps ps.length = true → verB a b c ps = true) := fun h => by rw [verB_all h, ha, hb, hcc]; simp; omega
  go_enter Tryd.func41, Tryd.ntmps41
  go_wp2_with (go_at_call 61; refine (verNum_c _ _).mono ?_; rintro e w' ⟨rfl, rfl⟩)
  go_loopw [4, 30] (fun _ vi wr => ∃ k : Nat, k ≤ ps.length ∧ vi = .int .i64 (k : Int) ∧ Hid (partsUpto ps k = true) ∧ Below w.heap.size w wr) (fun _ vi _ => ps.length - (intOf vi).toNat)
  case atStart => exact ⟨0, Nat.zero_le _, rfl, rfl, hbx _⟩
  case round =>
    obtain ⟨k, hk, rfl, hh, hbr⟩ := hrel
    by_cases hlt : k < ps.length
    · rcases hc with rfl | ⟨bl, off, rfl, hlb, hc⟩
      · simp at hlt
      have hcx : wr.cell? ⟨bl, off + k, none⟩ = some (.string ps[k]) := (hbr.cell (p := ⟨bl, off + k, none⟩) hlb).trans (hc k hlt)
      have hsk := hsz ps[k] (List.getElem_mem hlt)
      obtain ⟨t, ht⟩ : ∃ t, t = ps[k] := ⟨_, rfl⟩
      rw [← ht] at hcx hsk
      have HT : Hid (t = ps[k]) := ht
      have hki : (k : Int) < (ps.length : Int) := by omega
      clear hc hsz ht
      go_wp2_with (go_at_call 62; refine (implPart_c t hsk _).mono ?_; rintro e w1 ⟨rfl, b1⟩)
      · have h1 : (!partB t) = true := by assumption
        go_ret
        exact ⟨ret_bool (verB_parts (parts_end hlt (by rw [← HT.out]; simpa using h1))).symm, hbr.trans (b1.mono hbr.size)⟩
      · have h1 : (!partB t) = false := by assumption
        go_roundw
        case rel => exact ⟨k + 1, by omega, by go_num, parts_step hlt hh (by rw [← HT.out]; simpa using h1), hbr.trans (b1.mono hbr.size)⟩
        case measure => simp [intOf]; omega
    · have he : k = ps.length := by omega
      subst he
      clear hc hsz
      go_wp2
      go_ret
      exact ⟨ret_bool (HV.out hh.out).symm, hbr⟩
end Go.Proofs.YthmilkcghfaecaaDoor

/-! Whether picks are right, as the program asks it: contracts for the walks; conditions: they lie in memory and hold at most 2 to the 20. -/
namespace Go.Proofs.YthmilkcghfaecaaDoor
open Go.RowKit
set_option linter.unusedSimpArgs false
set_option linter.unusedVariables false

theorem not_any_notP {α : Type} (p : α → Bool) (xs : List α) : (!(xs.any fun x => !p x)) = xs.all p := by
  induction xs with
  | nil => rfl
  | cons x xs ih => simp only [List.any_cons, List.all_cons, Bool.not_or, Bool.not_not, ih]
theorem not_moreP (a b : Nat) : (!decide (a < b)) = decide (b ≤ a) := by
  by_cases h : a < b
  · rw [decide_eq_true h, decide_eq_false (by omega)]; rfl
  · rw [decide_eq_false h, decide_eq_true (by omega)]; rfl
theorem below_nextP {w w1 w2 : World} (h : Below w.heap.size w w1) (h2 : Below w1.heap.size w1 w2) : Below w.heap.size w w2 := h.trans (h2.mono h.size)
def pickB (d : PickD) : Bool := nameB d.name && verB d.vA d.vB d.vC d.vP
def picksB (l : List PickD) : Bool := rowB pickB PickD.name l && decide (l.length ≤ 12)
def picksI (l : List PickD) : Bool := !(decide (12 < l.length) || l.any fun d => !pickB d) && ascB (l.map PickD.name)
theorem picks_alike (l : List PickD) : picksI l = picksB l := by
  unfold picksI picksB
  rw [rowB_split, Bool.not_or, not_any_notP, not_moreP]
  cases decide (l.length ≤ 12) <;> cases l.all pickB <;> cases ascB (l.map PickD.name) <;> rfl

set_option maxHeartbeats 8000000 in
set_option maxRecDepth 100000 in
theorem wrongPick_c (S : Nat → Prop) (d : PickD) (cs : List Value) (w : World) (hd : shPick.lies S w cs d) (hB : ∀ b, S b → b < w.heap.size) (hw : bulkS d.vP ≤ 1048576) :
    Calls Tryd.prog 37 #[.agg cs.toArray] w fun e w' => e = .returned (.bool (!pickB d)) ∧ Below w.heap.size w w' := by
  obtain ⟨u0, rfl, s_n, r0, p0⟩ := hd
  have hbx : ∀ o, Below w.heap.size w (w.alloc o) := fun o => (Below.refl _ _).alloc (Nat.le_refl _) _
  have hBn : ∀ w1, Below w.heap.size w w1 → ∀ b, S b → b < w1.heap.size := fun w1 h b hb => Nat.lt_of_lt_of_le (hB b hb) h.size
  have hbk : bulkS d.vP ≤ 1048576 := hw
  have HN := fun w1 => implName_c d.name s_n w1
  have H1 : ∀ w1, Below w.heap.size w w1 → Calls Tryd.prog 41 #[.agg #[.int .i64 d.vA, .int .i64 d.vB, .int .i64 d.vC, u0]] w1 fun e w' => e = .returned (.bool (verB d.vA d.vB d.vC d.vP)) ∧ Below w1.heap.size w1 w' := fun w1 h => implVerOk_c _ _ _ u0 d.vP w1 ((r0.keep (.of h hB)).reads (hBn w1 h)) hbk
  unfold pickB
  obtain ⟨p, hp⟩ : ∃ p, p = nameB d.name := ⟨_, rfl⟩
  obtain ⟨q, hq⟩ : ∃ p, p = verB d.vA d.vB d.vC d.vP := ⟨_, rfl⟩
  simp only [← hp] at HN ⊢
  simp only [← hq] at H1 ⊢
  replace HN := hidden HN
  replace H1 := hidden H1
  obtain ⟨a0, cap0, eu0, _⟩ := id r0
  rw [length_strsV] at eu0
  subst eu0
  clear r0 hp hq hbk hBn
  cases p with
  | false =>
    go_enter Tryd.func37, Tryd.ntmps37
    go_wp2_with fail
    go_at_call 59
    refine (HN.out _).mono ?_
    rintro e w' ⟨rfl, rfl⟩
    go_wp2_with fail
    go_ret
    exact ⟨rfl, hbx _⟩
  | true =>
    go_enter Tryd.func37, Tryd.ntmps37
    go_wp2_with fail
    go_at_call 59
    refine (HN.out _).mono ?_
    rintro e w' ⟨rfl, rfl⟩
    go_wp2_with fail
    go_at_call 41
    refine (H1.out _ (hbx _)).mono ?_
    rintro e w1 ⟨rfl, b1⟩
    have k1 : Below w.heap.size w w1 := (hbx _).trans (b1.mono (hbx _).size)
    go_wp2_with fail
    go_ret
    exact ⟨by cases q <;> rfl, k1⟩

set_option maxHeartbeats 8000000 in
set_option maxRecDepth 100000 in
theorem idxPickW_c (S : Nat → Prop) (v : Value) (xs : List PickD) (w : World) (hv : RowIn shPick S w v xs) (hB : ∀ b, S b → b < w.heap.size) (hw : ∀ d ∈ xs, bulkS d.vP ≤ 1048576) :
    Calls Tryd.prog 58 #[v, .func (.func 37) #[] #[]] w fun e w' => e = .returned (.int .i64 (firstI (fun d => !pickB d) xs)) ∧ Below w.heap.size w w' := by
  obtain ⟨a, cap, rfl, hl, hc, ha⟩ := hv
  unfold maxLen at hl
  obtain ⟨R, hR⟩ : ∃ R, R = firstI (fun d => !pickB d) xs := ⟨_, rfl⟩
  rw [← hR]
  have HR := hidden hR
  clear hR
  go_enter Tryd.func58, Tryd.ntmps58
  go_wp2_with fail
  go_loopw [8] (fun vi wr => ∃ k : Nat, k ≤ xs.length ∧ vi = .int .i64 (k : Int) ∧ Hid (∀ j (hj : j < xs.length), j < k → (fun d => !pickB d) xs[j] = false) ∧ Below w.heap.size w wr) (fun vi _ => xs.length - (intOf vi).toNat)
  case atStart => exact ⟨0, Nat.zero_le _, rfl, (fun j hj h => by omega), Below.refl _ _⟩
  case round =>
    obtain ⟨k, hk, rfl, hno, hbr⟩ := hrel
    by_cases hlt' : k < xs.length
    · rcases ha with rfl | ⟨b, off, rfl, hlt, ha⟩
      · simp at hlt'
      obtain ⟨cs, hL, hcell⟩ := ha k hlt'
      have hL2 := shPick.keep (.of hbr hB) hL
      have hcell2 := hcell.keep (.of hbr hB) hlt
      have hBr : ∀ b, S b → b < wr.heap.size := fun b h => Nat.lt_of_lt_of_le (hB b h) hbr.size
      have HT : Hid ((fun d => !pickB d) xs[k] = true → R = (k : Int)) := fun h => HR.out.trans (firstI_here hlt' h hno.out)
      have HN : Hid ((fun d => !pickB d) xs[k] = false → ∀ j (hj : j < xs.length), j < k + 1 → (fun d => !pickB d) xs[j] = false) := fun h j hj hjk => by
        by_cases e : j = k
        · subst e; exact h
        · exact hno.out j hj (by omega)
      have HC : Calls Tryd.prog 37 #[.agg cs.toArray] wr fun e w' => e = .returned (.bool ((fun d => !pickB d) xs[k])) ∧ Below wr.heap.size wr w' := wrongPick_c S xs[k] cs wr hL2 hBr (hw _ (List.getElem_mem hlt'))
      obtain ⟨d, hd⟩ : ∃ d, d = xs[k] := ⟨_, rfl⟩
      rw [← hd] at hL2 HT HN HC
      obtain ⟨r, hr⟩ : ∃ r, r = (fun d => !pickB d) d := ⟨_, rfl⟩
      rw [← hr] at HT HN HC
      clear ha hL hcell hd hr hno
      obtain ⟨u0, rfl, s_name, r0, p0⟩ := hL2
      obtain ⟨a0, cap0, eu0, _⟩ := id r0
      rw [length_strsV] at eu0
      subst eu0
      have e0 : wr.cell? ⟨b, off + k * 5, none⟩ = some (.string d.name) := hcell2 0 (by simp)
      have e1 : wr.cell? ⟨b, off + k * 5 + 1, none⟩ = some (.int .i64 d.vA) := hcell2 1 (by simp)
      have e2 : wr.cell? ⟨b, off + k * 5 + 2, none⟩ = some (.int .i64 d.vB) := hcell2 2 (by simp)
      have e3 : wr.cell? ⟨b, off + k * 5 + 3, none⟩ = some (.int .i64 d.vC) := hcell2 3 (by simp)
      have e4 : wr.cell? ⟨b, off + k * 5 + 4, none⟩ = some (.slice a0 d.vP.length cap0) := hcell2 4 (by simp)
      have HC2 := hidden HC
      have hki : (k : Int) < (xs.length : Int) := by omega
      clear hcell2 HC r0
      cases r with
      | true =>
        have HT2 := hidden (HT.out rfl)
        clear HT HN
        go_wp2_with (go_at_call 37; refine HC2.out.mono ?_; rintro e w1 ⟨rfl, b1⟩)
        go_ret
        exact ⟨by rw [HT2.out]; rfl, hbr.trans (b1.mono hbr.size)⟩
      | false =>
        have HN2 := hidden (HN.out rfl)
        clear HT HN
        go_wp2_with (go_at_call 37; refine HC2.out.mono ?_; rintro e w1 ⟨rfl, b1⟩)
        go_roundw
        case rel => exact ⟨k + 1, by omega, by go_num, HN2.out, hbr.trans (b1.mono hbr.size)⟩
        case measure => simp [intOf]; omega
    · have he : k = xs.length := by omega
      subst he
      have HE : Hid (R = -1) := HR.out.trans (firstI_none (fun j hj => hno.out j hj hj))
      clear ha hno HR
      go_wp2_with fail
      go_ret
      exact ⟨by rw [HE.out]; rfl, hbr⟩
set_option maxHeartbeats 1000000 in
theorem anyPickW_c (S : Nat → Prop) (v : Value) (xs : List PickD) (w : World) (hv : RowIn shPick S w v xs) (hB : ∀ b, S b → b < w.heap.size) (hw : ∀ d ∈ xs, bulkS d.vP ≤ 1048576) :
    Calls Tryd.prog 36 #[v, .func (.func 37) #[] #[]] w fun e w' => e = .returned (.bool (xs.any (fun d => !pickB d))) ∧ Below w.heap.size w w' := by
  have HF := idxPickW_c S v xs w hv hB hw
  have hA := firstI_any (fun d => !pickB d) xs
  obtain ⟨R, hR⟩ : ∃ R, R = firstI (fun d => !pickB d) xs := ⟨_, rfl⟩
  rw [← hR] at HF hA
  rw [← hA]
  have HF2 := hidden HF
  obtain ⟨a, cap, rfl⟩ := hv.slice
  clear hv hR hA HF
  by_cases h0 : 0 ≤ R
  · rw [decide_eq_true h0]
    go_enter Tryd.func36, Tryd.ntmps36
    go_wp2_with (go_at_call 58; refine HF2.out.mono ?_; rintro e w1 ⟨rfl, b1⟩)
    go_ret
    exact ⟨by first | rfl | simp [h0] | (simp; omega), b1⟩
  · rw [decide_eq_false h0]
    go_enter Tryd.func36, Tryd.ntmps36
    go_wp2_with (go_at_call 58; refine HF2.out.mono ?_; rintro e w1 ⟨rfl, b1⟩)
    go_ret
    exact ⟨by first | rfl | simp [h0] | (simp; omega), b1⟩

set_option maxHeartbeats 8000000 in
set_option maxRecDepth 100000 in
theorem txtPick_c (S : Nat → Prop) (d : PickD) (cs : List Value) (w : World) (hd : shPick.lies S w cs d) :
    Calls Tryd.prog 39 #[.agg cs.toArray] w fun e w' => e = .returned (.string d.name) ∧ Below w.heap.size w w' := by
  obtain ⟨u0, rfl, s_n, r0, p0⟩ := hd
  obtain ⟨a0, c0, e0, _⟩ := id r0
  rw [length_strsV] at e0
  subst e0
  have kb : ∀ o, Below w.heap.size w (w.alloc o) := fun o => (Below.refl w.heap.size w).alloc (Nat.le_refl _) o
  clear r0
  go_enter Tryd.func39, Tryd.ntmps39
  go_wp2_with fail
  go_ret
  exact ⟨rfl, kb _⟩

set_option maxHeartbeats 8000000 in
set_option maxRecDepth 100000 in
theorem ascPick_c (S : Nat → Prop) (v : Value) (xs : List PickD) (w : World) (hv : RowIn shPick S w v xs) (hB : ∀ b, S b → b < w.heap.size) :
    Calls Tryd.prog 38 #[v, .func (.func 39) #[] #[]] w fun e w' => e = .returned (.bool (ascB (xs.map PickD.name))) ∧ Below w.heap.size w w' := by
  obtain ⟨a, cap, rfl, hl, hc, ha⟩ := hv
  unfold maxLen at hl
  obtain ⟨R, hR⟩ : ∃ R, R = ascB (xs.map PickD.name) := ⟨_, rfl⟩
  rw [← hR]
  have HR := hidden hR
  clear hR
  go_enter Tryd.func38, Tryd.ntmps38
  go_wp2_with fail
  go_loopw [5] (fun vi wr => ∃ k : Nat, 1 ≤ k ∧ (k ≤ xs.length ∨ k = 1) ∧ vi = .int .i64 (k : Int) ∧ Hid (rowUpto (fun _ => true) id (xs.map PickD.name) k = true) ∧ Below w.heap.size w wr) (fun vi _ => xs.length - (intOf vi).toNat)
  case atStart => exact ⟨1, Nat.le_refl _, .inr rfl, rfl, asc_one _, Below.refl _ _⟩
  case round =>
    obtain ⟨k, hk1, hk, rfl, hh, hbr⟩ := hrel
    by_cases hlt' : k < xs.length
    · rcases ha with rfl | ⟨b, off, rfl, hlt, ha⟩
      · simp at hlt'
      obtain ⟨j, rfl⟩ : ∃ j, k = j + 1 := ⟨k - 1, by omega⟩
      have hj' : j < xs.length := by omega
      obtain ⟨ycs, yL, hcelly⟩ := ha j hj'
      obtain ⟨xcs, xL, hcellx⟩ := ha (j + 1) hlt'
      have hbb : b < wr.heap.size := Nat.lt_of_lt_of_le (hB b hlt) hbr.size
      replace hcelly := hcelly.keep (.of hbr hB) hlt
      replace hcellx := hcellx.keep (.of hbr hB) hlt
      have HC1 : Hid (∀ w1, Below wr.heap.size wr w1 → Calls Tryd.prog 39 #[.agg ycs.toArray] w1 fun e w' => e = .returned (.string xs[j].name) ∧ Below w1.heap.size w1 w') := fun w1 h => txtPick_c S xs[j] ycs w1 (shPick.keep (.of (hbr.trans (h.mono hbr.size)) hB) yL)
      have HC2 : Hid (∀ w1, Below wr.heap.size wr w1 → Calls Tryd.prog 39 #[.agg xcs.toArray] w1 fun e w' => e = .returned (.string xs[j + 1].name) ∧ Below w1.heap.size w1 w') := fun w1 h => txtPick_c S xs[j + 1] xcs w1 (shPick.keep (.of (hbr.trans (h.mono hbr.size)) hB) xL)
      have hpre : preX (xs.map PickD.name) (j + 1) = some xs[j].name := by simp [preX, hj']
      have hat : (xs.map PickD.name)[j + 1]'(by simpa using hlt') = xs[j + 1].name := by simp
      have HBD : Hid (Op.bytesLess xs[j].name.toList xs[j + 1].name.toList = false → R = false) := fun h => HR.out.trans (rowUpto_bad (by simpa using hlt') (by rw [hpre, hat]; exact rowOk_less h) _ (by simpa using hlt'))
      have HGD : Hid (Op.bytesLess xs[j].name.toList xs[j + 1].name.toList = true → rowUpto (fun _ => true) id (xs.map PickD.name) (j + 1 + 1) = true) := fun h => rowUpto_step (by simpa using hlt') hh.out (by rw [hpre, hat, rowOk_some rfl]; exact h)
      obtain ⟨c, hc0⟩ : ∃ c, c = xs[j] := ⟨_, rfl⟩
      obtain ⟨d, hd0'⟩ : ∃ d, d = xs[j + 1] := ⟨_, rfl⟩
      rw [← hc0] at yL HC1 HBD HGD
      rw [← hd0'] at xL HC2 HBD HGD
      clear ha hpre hat hc0 hd0' hh
      obtain ⟨yu0, rfl, ys_n, yr0, yp0⟩ := yL
      obtain ⟨ya0, yc0, ye0, _⟩ := id yr0
      rw [length_strsV] at ye0
      subst ye0
      obtain ⟨xu0, rfl, xs_n, xr0, xp0⟩ := xL
      obtain ⟨xa0, xc0, xe0, _⟩ := id xr0
      rw [length_strsV] at xe0
      subst xe0
      have yv0 : wr.cell? ⟨b, off + j * 5, none⟩ = some (.string c.name) := hcelly 0 (by simp)
      have yv1 : wr.cell? ⟨b, off + j * 5 + 1, none⟩ = some (.int .i64 c.vA) := hcelly 1 (by simp)
      have yv2 : wr.cell? ⟨b, off + j * 5 + 2, none⟩ = some (.int .i64 c.vB) := hcelly 2 (by simp)
      have yv3 : wr.cell? ⟨b, off + j * 5 + 3, none⟩ = some (.int .i64 c.vC) := hcelly 3 (by simp)
      have yv4 : wr.cell? ⟨b, off + j * 5 + 4, none⟩ = some (.slice ya0 c.vP.length yc0) := hcelly 4 (by simp)
      have xv0 : wr.cell? ⟨b, off + (j + 1) * 5, none⟩ = some (.string d.name) := hcellx 0 (by simp)
      have xv1 : wr.cell? ⟨b, off + (j + 1) * 5 + 1, none⟩ = some (.int .i64 d.vA) := hcellx 1 (by simp)
      have xv2 : wr.cell? ⟨b, off + (j + 1) * 5 + 2, none⟩ = some (.int .i64 d.vB) := hcellx 2 (by simp)
      have xv3 : wr.cell? ⟨b, off + (j + 1) * 5 + 3, none⟩ = some (.int .i64 d.vC) := hcellx 3 (by simp)
      have xv4 : wr.cell? ⟨b, off + (j + 1) * 5 + 4, none⟩ = some (.slice xa0 d.vP.length xc0) := hcellx 4 (by simp)
      have hj0 : (0 : Int) ≤ (j : Int) + 1 := by omega
      have hj2 : (j : Int) + 1 < (xs.length : Int) := by omega
      have hj3 : (j : Int) < (xs.length : Int) := by omega
      have hjw : IntKind.i64.wrap (j : Int) = (j : Int) := IntWalk.i64_in _ ⟨by omega, by omega⟩
      have hd0 : Below wr.heap.size wr wr.drew := (Below.refl _ _).drew
      have KEEP : Hid (∀ w1, Below wr.heap.size wr w1 → w1.cell? ⟨b, off + j * 5, none⟩ = some (.string c.name) ∧ w1.cell? ⟨b, off + j * 5 + 1, none⟩ = some (.int .i64 c.vA) ∧ w1.cell? ⟨b, off + j * 5 + 2, none⟩ = some (.int .i64 c.vB) ∧ w1.cell? ⟨b, off + j * 5 + 3, none⟩ = some (.int .i64 c.vC) ∧ w1.cell? ⟨b, off + j * 5 + 4, none⟩ = some (.slice ya0 c.vP.length yc0) ∧ w1.cell? ⟨b, off + (j + 1) * 5, none⟩ = some (.string d.name) ∧ w1.cell? ⟨b, off + (j + 1) * 5 + 1, none⟩ = some (.int .i64 d.vA) ∧ w1.cell? ⟨b, off + (j + 1) * 5 + 2, none⟩ = some (.int .i64 d.vB) ∧ w1.cell? ⟨b, off + (j + 1) * 5 + 3, none⟩ = some (.int .i64 d.vC) ∧ w1.cell? ⟨b, off + (j + 1) * 5 + 4, none⟩ = some (.slice xa0 d.vP.length xc0)) := fun w1 h => ⟨(h.cell (by simpa using hbb)).trans yv0, (h.cell (by simpa using hbb)).trans yv1, (h.cell (by simpa using hbb)).trans yv2, (h.cell (by simpa using hbb)).trans yv3, (h.cell (by simpa using hbb)).trans yv4, (h.cell (by simpa using hbb)).trans xv0, (h.cell (by simpa using hbb)).trans xv1, (h.cell (by simpa using hbb)).trans xv2, (h.cell (by simpa using hbb)).trans xv3, (h.cell (by simpa using hbb)).trans xv4⟩
      clear hcelly hcellx yv0 yv1 yv2 yv3 yv4 xv0 xv1 xv2 xv3 xv4 yr0 xr0
      go_wp2_with fail
      refine wp_region_held_drew (S := (fun w' => w'.cell? ⟨b, off + j * 5, none⟩ = some (.string c.name) ∧ w'.cell? ⟨b, off + j * 5 + 1, none⟩ = some (.int .i64 c.vA) ∧ w'.cell? ⟨b, off + j * 5 + 2, none⟩ = some (.int .i64 c.vB) ∧ w'.cell? ⟨b, off + j * 5 + 3, none⟩ = some (.int .i64 c.vC) ∧ w'.cell? ⟨b, off + j * 5 + 4, none⟩ = some (.slice ya0 c.vP.length yc0) ∧ w'.cell? ⟨b, off + (j + 1) * 5, none⟩ = some (.string d.name) ∧ w'.cell? ⟨b, off + (j + 1) * 5 + 1, none⟩ = some (.int .i64 d.vA) ∧ w'.cell? ⟨b, off + (j + 1) * 5 + 2, none⟩ = some (.int .i64 d.vB) ∧ w'.cell? ⟨b, off + (j + 1) * 5 + 3, none⟩ = some (.int .i64 d.vC) ∧ w'.cell? ⟨b, off + (j + 1) * 5 + 4, none⟩ = some (.slice xa0 d.vP.length xc0))) (by kernel_rfl) ?SR10 (fun hHeld => ?_)
      case SR10 => (first | (with_reducible exact KEEP.out _ hd2) | (with_reducible exact KEEP.out _ hd1) | (with_reducible exact KEEP.out _ hd0))
      refine wpAnyH_take (i := 0) (oi := _) (v := ?vR10) rfl (by kernel_rfl) (by kernel_rfl) (by kernel_rfl) (fun _ _ _ h => h) (Or.inl ⟨by rfl, ?yR10⟩) hHeld ?_
      case yR10 => (intro w hSw; (try dsimp only at hSw); go_simp <;> with_reducible rfl)
      try simp only [Act.put, List.getElem_toArray, List.getElem_cons_zero, List.getElem_cons_succ, List.setIfInBounds_toArray, List.set_cons_zero, List.set_cons_succ]
      refine wpAnyH_take (i := 1) (oi := _) (v := ?vR11) rfl (by kernel_rfl) (by kernel_rfl) (by kernel_rfl) (fun _ _ _ h => h) (Or.inl ⟨by rfl, ?yR11⟩) hHeld ?_
      case yR11 => (intro w hSw; (try dsimp only at hSw); go_simp <;> with_reducible rfl)
      try simp only [Act.put, List.getElem_toArray, List.getElem_cons_zero, List.getElem_cons_succ, List.setIfInBounds_toArray, List.set_cons_zero, List.set_cons_succ]
      refine wpAnyH_take (i := 2) (oi := _) (v := ?vR12) rfl (by kernel_rfl) (by kernel_rfl) (by kernel_rfl) (fun _ _ _ h => h) (Or.inl ⟨by rfl, ?yR12⟩) hHeld ?_
      case yR12 => (intro w hSw; (try dsimp only at hSw); go_simp <;> with_reducible rfl)
      try simp only [Act.put, List.getElem_toArray, List.getElem_cons_zero, List.getElem_cons_succ, List.setIfInBounds_toArray, List.set_cons_zero, List.set_cons_succ]
      refine wpAnyH_take (i := 3) (oi := _) (v := ?vR13) rfl (by kernel_rfl) (by kernel_rfl) (by kernel_rfl) (fun _ _ _ h => h) (Or.inl ⟨by rfl, ?yR13⟩) hHeld ?_
      case yR13 => (intro w hSw; (try dsimp only at hSw); go_simp <;> with_reducible rfl)
      try simp only [Act.put, List.getElem_toArray, List.getElem_cons_zero, List.getElem_cons_succ, List.setIfInBounds_toArray, List.set_cons_zero, List.set_cons_succ]
      refine wpAnyH_take (i := 4) (oi := _) (v := ?vR14) rfl (by kernel_rfl) (by kernel_rfl) (by kernel_rfl) (fun _ _ _ h => h) (Or.inl ⟨by rfl, ?yR14⟩) hHeld ?_
      case yR14 => (intro w hSw; (try dsimp only at hSw); go_simp <;> with_reducible rfl)
      try simp only [Act.put, List.getElem_toArray, List.getElem_cons_zero, List.getElem_cons_succ, List.setIfInBounds_toArray, List.set_cons_zero, List.set_cons_succ]
      refine wpAnyH_take (i := 5) (oi := _) (v := ?vR15) rfl (by kernel_rfl) (by kernel_rfl) (by kernel_rfl) (fun _ _ _ h => h) (Or.inl ⟨by rfl, ?yR15⟩) hHeld ?_
      case yR15 => (intro w hSw; (try dsimp only at hSw); go_simp <;> with_reducible rfl)
      try simp only [Act.put, List.getElem_toArray, List.getElem_cons_zero, List.getElem_cons_succ, List.setIfInBounds_toArray, List.set_cons_zero, List.set_cons_succ]
      refine wpAnyH_take (i := 7) (oi := _) (v := ?vR16) rfl (by kernel_rfl) (by kernel_rfl) (by kernel_rfl) (fun _ _ _ h => h) (Or.inl ⟨by rfl, ?yR16⟩) hHeld ?_
      case yR16 => (intro w hSw; (try dsimp only at hSw); go_simp <;> with_reducible rfl)
      try simp only [Act.put, List.getElem_toArray, List.getElem_cons_zero, List.getElem_cons_succ, List.setIfInBounds_toArray, List.set_cons_zero, List.set_cons_succ]
      refine wpAnyH_take (i := 8) (oi := _) (v := ?vR17) rfl (by kernel_rfl) (by kernel_rfl) (by kernel_rfl) (fun _ _ _ h => h) (Or.inl ⟨by rfl, ?yR17⟩) hHeld ?_
      case yR17 => (intro w hSw; (try dsimp only at hSw); go_simp <;> with_reducible rfl)
      try simp only [Act.put, List.getElem_toArray, List.getElem_cons_zero, List.getElem_cons_succ, List.setIfInBounds_toArray, List.set_cons_zero, List.set_cons_succ]
      refine wpAnyH_take (i := 9) (oi := _) (v := ?vR18) rfl (by kernel_rfl) (by kernel_rfl) (by kernel_rfl) (fun _ _ _ h => h) (Or.inl ⟨by rfl, ?yR18⟩) hHeld ?_
      case yR18 => (intro w hSw; (try dsimp only at hSw); go_simp <;> with_reducible rfl)
      try simp only [Act.put, List.getElem_toArray, List.getElem_cons_zero, List.getElem_cons_succ, List.setIfInBounds_toArray, List.set_cons_zero, List.set_cons_succ]
      refine wpAnyH_take (i := 10) (oi := _) (v := ?vR19) rfl (by kernel_rfl) (by kernel_rfl) (by kernel_rfl) (fun _ _ _ h => h) (Or.inl ⟨by rfl, ?yR19⟩) hHeld ?_
      case yR19 => (intro w hSw; (try dsimp only at hSw); go_simp <;> with_reducible rfl)
      try simp only [Act.put, List.getElem_toArray, List.getElem_cons_zero, List.getElem_cons_succ, List.setIfInBounds_toArray, List.set_cons_zero, List.set_cons_succ]
      refine wpAnyH_take (i := 11) (oi := _) (v := ?vR110) rfl (by kernel_rfl) (by kernel_rfl) (by kernel_rfl) (fun _ _ _ h => h) (Or.inl ⟨by rfl, ?yR110⟩) hHeld ?_
      case yR110 => (intro w hSw; (try dsimp only at hSw); go_simp <;> with_reducible rfl)
      try simp only [Act.put, List.getElem_toArray, List.getElem_cons_zero, List.getElem_cons_succ, List.setIfInBounds_toArray, List.set_cons_zero, List.set_cons_succ]
      refine wpAnyH_ready (rs := [6]) (by kernel_rfl) (by simp) ?_
      refine AllReadyH.cons rfl (fun K hK => ?_) AllReadyH.nil
      go_simp
      go_wp2_with (go_at_call 39; refine (HC1.out _ (by first | exact hd0 | exact hd1)).mono ?_; rintro e w1 ⟨rfl, b1⟩; have hd1 : Below wr.heap.size wr w1 := hd0.trans (b1.mono hd0.size))
      clear hHeld
      refine hK.out _ _ ?SR112 (fun hHeld => ?_)
      case SR112 => ((try dsimp only); first | (with_reducible exact KEEP.out _ hd2) | (with_reducible exact KEEP.out _ hd1) | (with_reducible exact KEEP.out _ hd0))
      clear hK K
      refine wpAnyH_ready (rs := [12]) (by kernel_rfl) (by simp) ?_
      refine AllReadyH.cons rfl (fun K hK => ?_) AllReadyH.nil
      go_simp
      go_wp2_with (go_at_call 39; refine (HC2.out _ hd1).mono ?_; rintro e w2 ⟨rfl, b2⟩; have hd2 : Below wr.heap.size wr w2 := hd1.trans (b2.mono hd1.size))
      clear hHeld
      refine hK.out _ _ ?SR113 (fun hHeld => ?_)
      case SR113 => ((try dsimp only); first | (with_reducible exact KEEP.out _ hd2) | (with_reducible exact KEEP.out _ hd1) | (with_reducible exact KEEP.out _ hd0))
      clear hK K
      refine wpAnyH_take (i := 13) (oi := _) (v := ?vR113) rfl (by kernel_rfl) (by kernel_rfl) (by kernel_rfl) (fun _ _ _ h => h) (Or.inl ⟨by rfl, ?yR113⟩) hHeld ?_
      case yR113 => (intro w hSw; (try dsimp only at hSw); go_simp <;> with_reducible rfl)
      try simp only [Act.put, List.getElem_toArray, List.getElem_cons_zero, List.getElem_cons_succ, List.setIfInBounds_toArray, List.set_cons_zero, List.set_cons_succ]
      refine wpAnyH_done (by kernel_rfl) ?_ _
      go_wp2_with fail
      · have hlx : (!Op.bytesLess c.name.toList d.name.toList) = true := by assumption
        go_ret
        exact ⟨by rw [HBD.out (by simpa using hlx)]; rfl, hbr.trans (hd2.mono hbr.size)⟩
      · have hlx : (!Op.bytesLess c.name.toList d.name.toList) = false := by assumption
        go_roundw
        case rel => exact ⟨j + 1 + 1, by omega, .inl (by omega), by go_num, HGD.out (by simpa using hlx), hbr.trans (hd2.mono hbr.size)⟩
        case measure => simp [intOf]; omega
    · have HE : Hid (R = true) := HR.out.trans (asc_end hk1 (by simpa using hlt') (by simpa using hk) hh.out)
      clear ha hh
      go_wp2_with fail
      go_ret
      exact ⟨by rw [HE.out]; rfl, hbr⟩

set_option maxHeartbeats 8000000 in
set_option maxRecDepth 100000 in
theorem implPicksOk_c (S : Nat → Prop) (v : Value) (xs : List PickD) (w : World) (hv : RowIn shPick S w v xs) (hB : ∀ b, S b → b < w.heap.size) (hw : ∀ d ∈ xs, bulkS d.vP ≤ 1048576) :
    Calls Tryd.prog 18 #[v] w fun e w' => e = .returned (.bool (picksI xs)) ∧ Below w.heap.size w w' := by
  have HA : ∀ w1, Below w.heap.size w w1 → Calls Tryd.prog 36 #[v, .func (.func 37) #[] #[]] w1 fun e w' => e = .returned (.bool (xs.any (fun d => !pickB d))) ∧ Below w1.heap.size w1 w' := fun w1 h => anyPickW_c S v xs w1 (hv.keep (.of h hB)) (fun b hb => Nat.lt_of_lt_of_le (hB b hb) h.size) hw
  have HC : ∀ w1, Below w.heap.size w w1 → Calls Tryd.prog 38 #[v, .func (.func 39) #[] #[]] w1 fun e w' => e = .returned (.bool (ascB (xs.map PickD.name))) ∧ Below w1.heap.size w1 w' := fun w1 h => ascPick_c S v xs w1 (hv.keep (.of h hB)) (fun b hb => Nat.lt_of_lt_of_le (hB b hb) h.size)
  unfold picksI
  obtain ⟨p, hp⟩ : ∃ p, p = xs.any (fun d => !pickB d) := ⟨_, rfl⟩
  obtain ⟨q, hq⟩ : ∃ q, q = ascB (xs.map PickD.name) := ⟨_, rfl⟩
  simp only [← hp] at HA ⊢
  simp only [← hq] at HC ⊢
  replace HA := hidden HA
  replace HC := hidden HC
  have hl := hv.len
  obtain ⟨a, cap, rfl⟩ := hv.slice
  unfold maxLen at hl
  clear hv hp hq
  by_cases h4 : 12 < xs.length
  · have h4' : (12 : Int) < (xs.length : Int) := by omega
    rw [decide_eq_true h4]
    go_enter Tryd.func18, Tryd.ntmps18
    go_wp2_with fail
    go_ret
    exact ⟨rfl, Below.refl _ _⟩
  · have h4' : ¬ (12 : Int) < (xs.length : Int) := by omega
    rw [decide_eq_false h4]
    cases p with
    | true =>
      go_enter Tryd.func18, Tryd.ntmps18
      go_wp2_with fail
      go_at_call 36
      refine (HA.out _ (Below.refl _ _)).mono ?_
      rintro e w1 ⟨rfl, b1⟩
      go_wp2_with fail
      go_ret
      exact ⟨rfl, b1⟩
    | false =>
      go_enter Tryd.func18, Tryd.ntmps18
      go_wp2_with fail
      go_at_call 36
      refine (HA.out _ (Below.refl _ _)).mono ?_
      rintro e w1 ⟨rfl, b1⟩
      go_wp2_with fail
      go_at_call 38
      refine (HC.out _ b1).mono ?_
      rintro e w2 ⟨rfl, b2⟩
      go_wp2_with fail
      go_ret
      exact ⟨by cases q <;> rfl, below_nextP b1 b2⟩

end Go.Proofs.YthmilkcghfaecaaDoor

/-! What a text is as a version: the reader that goes over its bytes, word by word, and the text's pieces around its first hyphen tell the same; no condition. -/
namespace Go.Proofs.YthmilkcghfaecaaDoor
open Go.RowKit
set_option linter.unusedSimpArgs false
set_option linter.unusedVariables false

theorem vext {a b : ByteArray} (h : a.data.toList = b.data.toList) : a = b := ByteArray.ext (Array.toList_inj.1 h)
theorem vextract (s : ByteArray) (a b : Nat) : (s.extract a b).data.toList = (s.data.toList.drop a).take (b - a) := Lib.extract_data s a b
theorem vlen (s : ByteArray) : s.data.toList.length = s.size := by rw [Array.length_toList]; rfl
theorem vsize (s : ByteArray) (a b : Nat) (h : a ≤ b) (hb : b ≤ s.size) : (s.extract a b).size = b - a := by
  rw [← vlen, vextract, List.length_take, List.length_drop, vlen]; omega
theorem vget (s : ByteArray) (a b i : Nat) (h : a + i < b) (hb : b ≤ s.size) : (s.extract a b).data[i]! = s.data[a + i]! := by
  have h1 : i < (s.extract a b).size := by rw [vsize s a b (by omega) hb]; omega
  have e1 : (s.extract a b).data.toList[i]? = s.data.toList[a + i]? := by
    rw [vextract, List.getElem?_take_of_lt (by omega), List.getElem?_drop]
  rw [Array.getElem?_toList, Array.getElem?_toList] at e1
  rw [getElem!_def, getElem!_def, e1]
theorem vsub (s : ByteArray) (a b c d : Nat) (h : a + d ≤ b) (hb : b ≤ s.size) : (s.extract a b).extract c d = s.extract (a + c) (a + d) := by
  apply vext
  rw [vextract, vextract, vextract, List.drop_take, List.drop_drop, List.take_take]
  congr 1
  omega

/-- The pieces of the text up to place hi, between the bytes 46, from place i on, the piece at hand having begun at place b. -/
def pieces (s : ByteArray) (hi : Nat) : Nat → Nat → Nat → List ByteArray
  | 0, _, b => [s.extract b hi]
  | f + 1, i, b => if ((s.data[i]!).toNat : Int) = 46 then s.extract b i :: pieces s hi f (i + 1) (i + 1) else pieces s hi f (i + 1) b

theorem pieces_split (s : ByteArray) (lo hi : Nat) (hl : lo ≤ hi) (hh : hi ≤ s.size) : ∀ (f i b : Nat), f = (hi - lo) - i → i ≤ hi - lo → b ≤ i → splitGo (s.extract lo hi) 46 f i b = pieces s hi f (lo + i) (lo + b)
  | 0, i, b, hf, hi', hb => by
    rw [splitGo, pieces, vsize s lo hi hl hh, vsub s lo hi b (hi - lo) (by omega) hh, show lo + (hi - lo) = hi by omega]
  | f + 1, i, b, hf, hi', hb => by
    rw [splitGo, pieces, vget s lo hi i (by omega) hh]
    by_cases h : ((s.data[lo + i]!).toNat : Int) = 46
    · rw [if_pos h, if_pos h, vsub s lo hi b i (by omega) hh, pieces_split s lo hi hl hh f (i + 1) (i + 1) (by omega) (by omega) (by omega)]
      rfl
    · rw [if_neg h, if_neg h, pieces_split s lo hi hl hh f (i + 1) b (by omega) (by omega) (by omega)]
      rfl
theorem split_pieces (s : ByteArray) (lo hi : Nat) (hl : lo ≤ hi) (hh : hi ≤ s.size) : splitS (s.extract lo hi) 46 = pieces s hi (hi - lo) lo lo := by
  have h := pieces_split s lo hi hl hh (hi - lo) 0 0 (by omega) (by omega) (by omega)
  rw [splitS, vsize s lo hi hl hh, h]; rfl

theorem pieces_head (s : ByteArray) (hi : Nat) : ∀ (f i b : Nat), f = hi - i → i ≤ hi → ∃ e rest, i ≤ e ∧ e ≤ hi ∧ pieces s hi f i b = s.extract b e :: rest
  | 0, i, b, hf, hi' => ⟨hi, [], by omega, by omega, rfl⟩
  | f + 1, i, b, hf, hi' => by
    rw [pieces]
    by_cases h : ((s.data[i]!).toNat : Int) = 46
    · rw [if_pos h]; exact ⟨i, _, by omega, by omega, rfl⟩
    · rw [if_neg h]
      obtain ⟨e, rest, h1, h2, h3⟩ := pieces_head s hi f (i + 1) b (by omega) (by omega)
      exact ⟨e, rest, by omega, h2, h3⟩
theorem pieces_pos (s : ByteArray) (hi f i b : Nat) (hf : f = hi - i) (h : i ≤ hi) : 1 ≤ (pieces s hi f i b).length := by
  obtain ⟨e, rest, _, _, h3⟩ := pieces_head s hi f i b hf h
  rw [h3]; simp

theorem piece_bad (p : Nat → Int → Bool) (s : ByteArray) (b e i : Nat) (hb : b ≤ i) (he : i < e) (hs : e ≤ s.size) (h : ∀ k, p k ((s.data[i]!).toNat : Int) = false) : allUpto p (s.extract b e) (s.extract b e).size = false := by
  have hz := vsize s b e (by omega) hs
  refine allUpto_cut p _ (i - b) ?_ _ (by omega)
  rw [vget s b e (i - b) (by omega) hs, show b + (i - b) = i by omega]
  exact h _

/-- A word that ends. -/
def endNs (ns : List Int) (inP : Bool) (t : ByteArray) : List Int := if inP then ns else ns ++ [numOut t 9999]
def endPs (ps : List ByteArray) (inP : Bool) (t : ByteArray) : List ByteArray := if inP then ps ++ [t] else ps
def endOk (ns : List Int) (ps : List ByteArray) (inP : Bool) (t : ByteArray) : Bool := if inP then decide (ps.length + 1 ≤ 3) && partB t else numGood t 9999 && decide (ns.length + 1 ≤ 3)

/-- The reader, from place i on. -/
def reads (s : ByteArray) : Nat → Nat → Nat → List Int → List ByteArray → Bool → Option (List Int × List ByteArray)
  | 0, i, b, ns, ps, inP => if endOk ns ps inP (s.extract b i) && decide (3 ≤ (endNs ns inP (s.extract b i)).length) then some (endNs ns inP (s.extract b i), endPs ps inP (s.extract b i)) else none
  | f + 1, i, b, ns, ps, inP =>
    if ((s.data[i]!).toNat : Int) = 46 then (if endOk ns ps inP (s.extract b i) then reads s f (i + 1) (i + 1) (endNs ns inP (s.extract b i)) (endPs ps inP (s.extract b i)) inP else none)
    else if ((s.data[i]!).toNat : Int) = 45 ∧ inP = false then (if endOk ns ps inP (s.extract b i) then reads s f (i + 1) (i + 1) (endNs ns inP (s.extract b i)) (endPs ps inP (s.extract b i)) true else none)
    else if preB ((s.data[i]!).toNat : Int) then reads s f (i + 1) b ns ps inP else none

theorem all_partB_bad {l : List ByteArray} {t : ByteArray} (h : partB t = false) : (t :: l).all partB = false := by simp [h]

theorem reads_pre (s : ByteArray) (ns : List Int) : ∀ (f i b : Nat) (ps : List ByteArray), f = s.size - i → i ≤ s.size → b ≤ i → reads s f i b ns ps true =
    if (pieces s s.size f i b).all partB && decide (ps.length + (pieces s s.size f i b).length ≤ 3) && decide (3 ≤ ns.length) then some (ns, ps ++ pieces s s.size f i b) else none
  | 0, i, b, ps, hf, hi, hb => by
    have : i = s.size := by omega
    subst this
    rw [reads, pieces]
    simp only [endOk, endNs, endPs, if_true, List.all_cons, List.all_nil, Bool.and_true, List.length_singleton]
    cases partB (s.extract b s.size) <;> simp [Bool.and_comm]
  | f + 1, i, b, ps, hf, hi, hb => by
    rw [reads, pieces]
    by_cases h : ((s.data[i]!).toNat : Int) = 46
    · rw [if_pos h, if_pos h]
      simp only [endOk, endNs, endPs, if_true]
      rw [reads_pre s ns f (i + 1) (i + 1) (ps ++ [s.extract b i]) (by omega) (by omega) (by omega)]
      have hp := pieces_pos s s.size f (i + 1) (i + 1) (by omega) (by omega)
      cases hx : partB (s.extract b i)
      · simp [hx]
      · by_cases hl : ps.length + 1 ≤ 3
        · simp only [hl, decide_true, Bool.and_self, if_true, List.all_cons, hx, Bool.true_and, List.length_append, List.length_cons, List.length_nil, List.append_assoc, List.cons_append, List.nil_append]
          have e : ps.length + (0 + 1) + (pieces s s.size f (i + 1) (i + 1)).length = ps.length + ((pieces s s.size f (i + 1) (i + 1)).length + 1) := by omega
          rw [e]
        · have h2 : ¬ ps.length + ((pieces s s.size f (i + 1) (i + 1)).length + 1) ≤ 3 := by omega
          simp [hl, h2]
    · rw [if_neg h, if_neg h, if_neg (by simp)]
      by_cases hc : preB ((s.data[i]!).toNat : Int) = true
      · rw [if_pos hc]
        exact reads_pre s ns f (i + 1) b ps (by omega) (by omega) (by omega)
      · rw [if_neg hc]
        obtain ⟨e, rest, h1, h2, h3⟩ := pieces_head s s.size f (i + 1) b (by omega) (by omega)
        rw [h3, all_partB_bad (partB_bad (piece_bad okPre s b e i hb (by omega) h2 (fun _ => by simpa [okPre] using hc)))]
        simp

theorem good_of_piece {t : ByteArray} (h : allUpto okDigit t t.size = false) : numGood t 9999 = false := by
  unfold numGood; rw [h]; simp

theorem digit_pre {c : Int} (h : preB c = false) : digitB c = false := by
  simp only [preB, Bool.or_eq_false_iff] at h
  exact h.1.2

theorem reads_num (s : ByteArray) (k : Nat) (hk : k ≤ s.size) (hd : k < s.size → ((s.data[k]!).toNat : Int) = 45) : ∀ (f i b : Nat) (ns : List Int), f = k - i → i ≤ k → b ≤ i → (∀ j, i ≤ j → j < k → ¬ ((s.data[j]!).toNat : Int) = 45) →
    reads s (s.size - i) i b ns [] false = if (pieces s k f i b).all (fun t => numGood t 9999) && decide (ns.length + (pieces s k f i b).length ≤ 3) then
      (if k < s.size then reads s (s.size - (k + 1)) (k + 1) (k + 1) (ns ++ (pieces s k f i b).map (fun t => numOut t 9999)) [] true
       else if 3 ≤ ns.length + (pieces s k f i b).length then some (ns ++ (pieces s k f i b).map (fun t => numOut t 9999), []) else none) else none
  | 0, i, b, ns, hf, hi, hb, hn => by
    have : i = k := by omega
    subst this
    rw [pieces]
    by_cases hlt : i < s.size
    · rw [show s.size - i = (s.size - (i + 1)) + 1 by omega, reads, if_neg (by have := hd hlt; omega), if_pos ⟨hd hlt, rfl⟩, if_pos hlt]
      simp [endOk, endNs, endPs]
    · have : i = s.size := by omega
      rw [show s.size - i = 0 by omega, reads, if_neg hlt]
      simp only [endOk, endNs, endPs, Bool.false_eq_true, if_false, List.all_cons, List.all_nil, Bool.and_true, List.length_singleton, List.map_cons, List.map_nil, List.length_append]
      cases numGood (s.extract b i) 9999
      · simp
      · by_cases h1 : ns.length + 1 ≤ 3 <;> by_cases h2 : 3 ≤ ns.length + 1 <;> simp [h1, h2]
  | f + 1, i, b, ns, hf, hi, hb, hn => by
    have hne := hn i (by omega) (by omega)
    rw [show s.size - i = (s.size - (i + 1)) + 1 by omega, reads, pieces]
    by_cases h : ((s.data[i]!).toNat : Int) = 46
    · rw [if_pos h, if_pos h]
      simp only [endOk, endNs, endPs, Bool.false_eq_true, if_false]
      rw [reads_num s k hk hd f (i + 1) (i + 1) (ns ++ [numOut (s.extract b i) 9999]) (by omega) (by omega) (by omega) (fun j h1 h2 => hn j (by omega) h2)]
      have hp := pieces_pos s k f (i + 1) (i + 1) (by omega) (by omega)
      cases hx : numGood (s.extract b i) 9999
      · simp [hx]
      · by_cases hl : ns.length + 1 ≤ 3
        · simp only [hl, decide_true, Bool.and_self, if_true, List.all_cons, hx, Bool.true_and, List.length_append, List.length_cons, List.length_nil, List.append_assoc, List.cons_append, List.nil_append, List.map_cons]
          have e : ns.length + (0 + 1) + (pieces s k f (i + 1) (i + 1)).length = ns.length + ((pieces s k f (i + 1) (i + 1)).length + 1) := by omega
          rw [e]
        · have h2 : ¬ ns.length + ((pieces s k f (i + 1) (i + 1)).length + 1) ≤ 3 := by omega
          simp [hl, h2]
    · rw [if_neg h, if_neg h, if_neg (fun h => hne h.1)]
      by_cases hc : preB ((s.data[i]!).toNat : Int) = true
      · rw [if_pos hc]
        exact reads_num s k hk hd f (i + 1) b ns (by omega) (by omega) (by omega) (fun j h1 h2 => hn j (by omega) h2)
      · rw [if_neg hc]
        obtain ⟨e, rest, h1, h2, h3⟩ := pieces_head s k f (i + 1) b (by omega) (by omega)
        have hbad : numGood (s.extract b e) 9999 = false := good_of_piece (piece_bad okDigit s b e i hb (by omega) (by omega) (fun _ => digit_pre (by simpa using hc)))
        rw [h3]
        simp [hbad]

/-- What the specification takes of a text, k the place of its first hyphen, or its length. -/
def numsAt (s : ByteArray) (k : Nat) : List ByteArray := pieces s k k 0 0
def presAt (s : ByteArray) (k : Nat) : List ByteArray := if k < s.size then pieces s s.size (s.size - (k + 1)) (k + 1) (k + 1) else []
def goodAt (s : ByteArray) (k : Nat) : Bool := (numsAt s k).all (fun t => numGood t 9999) && decide ((numsAt s k).length = 3) && (presAt s k).all partB && decide ((presAt s k).length ≤ 3)

theorem reads_all (s : ByteArray) (k : Nat) (hk : k ≤ s.size) (hd : k < s.size → ((s.data[k]!).toNat : Int) = 45) (hn : ∀ j, j < k → ¬ ((s.data[j]!).toNat : Int) = 45) :
    reads s s.size 0 0 [] [] false = if goodAt s k then some ((numsAt s k).map (fun t => numOut t 9999), presAt s k) else none := by
  have h := reads_num s k hk hd k 0 0 [] (by omega) (by omega) (by omega) (fun j _ h => hn j h)
  rw [Nat.sub_zero] at h
  rw [h]
  unfold goodAt
  rw [show pieces s k k 0 0 = numsAt s k from rfl]
  by_cases hlt : k < s.size
  · rw [if_pos hlt, reads_pre s _ (s.size - (k + 1)) (k + 1) (k + 1) [] (by omega) (by omega) (by omega)]
    rw [show pieces s s.size (s.size - (k + 1)) (k + 1) (k + 1) = presAt s k by unfold presAt; rw [if_pos hlt]]
    simp only [List.nil_append, List.length_nil, Nat.zero_add, List.length_map]
    by_cases h3 : (numsAt s k).length = 3
    · simp only [h3, Nat.le_refl, decide_true, Bool.and_true]
      cases (numsAt s k).all (fun t => numGood t 9999)
      · simp
      · simp
    · by_cases h4 : (numsAt s k).length ≤ 3
      · have h5 : ¬ 3 ≤ (numsAt s k).length := by omega
        simp [h3, h5]
      · simp [h3, h4]
  · rw [if_neg hlt]
    have hp : presAt s k = [] := by unfold presAt; rw [if_neg hlt]
    rw [hp]
    simp only [List.nil_append, List.length_nil, Nat.zero_add, List.all_nil, Bool.and_true]
    by_cases h3 : (numsAt s k).length = 3
    · simp [h3]
    · by_cases h4 : (numsAt s k).length ≤ 3
      · have h5 : ¬ 3 ≤ (numsAt s k).length := by omega
        simp [h3, h5]
      · simp [h3, h4]
#print axioms reads_all
end Go.Proofs.YthmilkcghfaecaaDoor

/-! Facts on blocks of memory that are kept, for the laws over two versions; no condition. -/
namespace Go.Proofs.YthmilkcghfaecaaDoor
open Go.RowKit
set_option linter.unusedSimpArgs false
set_option linter.unusedVariables false

/-- The block N holds these four cells. -/
def Four (w : World) (N : Nat) (t : TypeId) (c0 c1 c2 c3 : Value) : Prop := w.heap[N]? = some (.cells #[c0, c1, c2, c3] t (0, 0))
theorem Four.lt {w : World} {N : Nat} {t : TypeId} {c0 c1 c2 c3 : Value} (h : Four w N t c0 c1 c2 c3) : N < w.heap.size := (Array.getElem?_eq_some_iff.1 h).1
theorem Four.keep {w w' : World} {N : Nat} {t : TypeId} {c0 c1 c2 c3 : Value} (h : Four w N t c0 c1 c2 c3) (b : Below w.heap.size w w') : Four w' N t c0 c1 c2 c3 := (b.block N h.lt).trans h
theorem Four.cells {w : World} {N : Nat} {t : TypeId} {c0 c1 c2 c3 : Value} (h : Four w N t c0 c1 c2 c3) : w.cell? ⟨N, 0, none⟩ = some c0 ∧ w.cell? ⟨N, 1, none⟩ = some c1 ∧ w.cell? ⟨N, 2, none⟩ = some c2 ∧ w.cell? ⟨N, 3, none⟩ = some c3 :=
  ⟨vblk_cell h 0, vblk_cell h 1, vblk_cell h 2, vblk_cell h 3⟩
theorem Four.drew {w : World} {N : Nat} {t : TypeId} {c0 c1 c2 c3 : Value} (h : Four w N t c0 c1 c2 c3) : Four w.drew N t c0 c1 c2 c3 := h
theorem four_new (w : World) (t : TypeId) (c0 c1 c2 c3 : Value) : Four (w.alloc (.cells #[c0, c1, c2, c3] t)) w.heap.size t c0 c1 c2 c3 := vheap_new _ _
theorem four_old {w : World} {N : Nat} {t : TypeId} {c0 c1 c2 c3 : Value} (h : Four w N t c0 c1 c2 c3) (o : Obj) : Four (w.alloc o) N t c0 c1 c2 c3 := (vheap_old w o h.lt).trans h
theorem four_two (w : World) (t t' : TypeId) (c0 c1 c2 c3 d0 d1 d2 d3 : Value) : Four ((w.alloc (.cells #[c0, c1, c2, c3] t)).alloc (.cells #[d0, d1, d2, d3] t')) w.heap.size t c0 c1 c2 c3 ∧ Four ((w.alloc (.cells #[c0, c1, c2, c3] t)).alloc (.cells #[d0, d1, d2, d3] t')) (w.heap.size + 1) t' d0 d1 d2 d3 := by
  refine ⟨four_old (four_new _ _ _ _ _ _) _, ?_⟩
  have h := four_new (w.alloc (.cells #[c0, c1, c2, c3] t)) t' d0 d1 d2 d3
  have s1 : ∀ o, (w.alloc o).heap.size = w.heap.size + 1 := fun o => by simp
  rw [s1] at h
  exact h
end Go.Proofs.YthmilkcghfaecaaDoor

/-! The contract of the library for the text that a Builder holds, taken over from the library of contracts at the numbers of this program; conditions as it says. -/
namespace Go.Proofs
open Go.Shelf
def Tryd.lays169_ren : Go.Shelf.Ren := ⟨fun | 169 => 21 | n => n, fun | 70 => 45 | 9 => 9 | 0 => 0 | 72 => 48 | 37 => 46 | 127 => 74 | 3 => 3 | 5 => 5 | n => n, fun | n => n⟩
theorem Tryd.lays169 : Go.Proofs.Lays.n169 Tryd.prog Tryd.lays169_ren := {
  mixed := by kernel_rfl
  f169 := Tryd.func21.trans (congrArg some (by kernel_rfl))
  t0 := Tryd.underlying0
  a0 := Tryd.isAgg0
  z0 := Tryd.sizeOf0
  v0 := Tryd.zeroValue0
  t3 := Tryd.underlying3
  a3 := Tryd.isAgg3
  z3 := Tryd.sizeOf3
  v3 := Tryd.zeroValue3
  t9 := Tryd.underlying9
  a9 := Tryd.isAgg9
  z9 := Tryd.sizeOf9
  v9 := Tryd.zeroValue9
  t37 := Tryd.underlying46
  a37 := Tryd.isAgg46
  z37 := Tryd.sizeOf46
  v37 := Tryd.zeroValue46
  t70 := Tryd.underlying45
  a70 := Tryd.isAgg45
  z70 := Tryd.sizeOf45
  v70 := Tryd.zeroValue45
  t72 := Tryd.underlying48
  a72 := Tryd.isAgg48
  z72 := Tryd.sizeOf48
  v72 := Tryd.zeroValue48
  t127 := Tryd.underlying74
  a127 := Tryd.isAgg74
  z127 := Tryd.sizeOf74
  v127 := Tryd.zeroValue74 }
theorem Tryd.Builder_Extra_169 : Builder.Extra Tryd.prog Tryd.lays169_ren := {
  sizeBuilder := by kernel_rfl
  liesBuilder := by kernel_rfl
  t5 := Tryd.underlying5
  a5 := Tryd.isAgg5
  z5 := Tryd.sizeOf5
  v5 := Tryd.zeroValue5
  infoByte := by kernel_rfl
  cellsByte := by kernel_rfl
  sizeByte := by kernel_rfl
  neB5 := by decide }
open Go.RowKit in
theorem Tryd.Builder_String (B b : Nat) (l : List UInt8) (w : World) (h : Lib.IsBuilder 48 5 B b (Lib.byteCells l) w) (h0 : l ≠ []) :
    Calls Tryd.prog 21 #[.pointer (some ⟨b, 0, none⟩)] w fun e w' => e = .returned (.string ⟨l.toArray⟩) ∧ Below B w w' := Any.Builder_String Tryd.lays169 Tryd.Builder_Extra_169 B b l w h h0
open Go.RowKit in
theorem Tryd.Builder_String_empty (B b : Nat) (w : World) (h : Lib.IsBuilder 48 5 B b [] w) (hBw : B ≤ w.heap.size) :
    Calls Tryd.prog 21 #[.pointer (some ⟨b, 0, none⟩)] w fun e w' => e = .returned (.string ⟨#[]⟩) ∧ Below B w w' := Any.Builder_String_empty Tryd.lays169 Tryd.Builder_Extra_169 B b w h hBw
open Go.RowKit in
theorem Tryd.Builder_String_any (B b : Nat) (l : List UInt8) (w : World) (h : Lib.IsBuilder 48 5 B b (Lib.byteCells l) w) (hBw : B ≤ w.heap.size) :
    Calls Tryd.prog 21 #[.pointer (some ⟨b, 0, none⟩)] w fun e w' => e = .returned (.string ⟨l.toArray⟩) ∧ Below B w w' := Any.Builder_String_any Tryd.lays169 Tryd.Builder_Extra_169 B b l w h hBw
open Go.RowKit in
theorem Tryd.Builder_String_f (B b : Nat) (l : List UInt8) (w : World) (h : Lib.IsBuilderF 48 5 B b (Lib.byteCells l) w) (h0 : l ≠ []) :
    Calls Tryd.prog 21 #[.pointer (some ⟨b, 0, none⟩)] w fun e w' => e = .returned (.string ⟨l.toArray⟩) ∧ (Lib.IsBuilderF 48 5 B b (Lib.byteCells l) w' ∧ Below B w w') := Any.Builder_String_f Tryd.lays169 Tryd.Builder_Extra_169 B b l w h h0
open Go.RowKit in
theorem Tryd.Builder_String_empty_f (B b : Nat) (w : World) (h : Lib.IsBuilderF 48 5 B b [] w) (hBw : B ≤ w.heap.size) :
    Calls Tryd.prog 21 #[.pointer (some ⟨b, 0, none⟩)] w fun e w' => e = .returned (.string ⟨#[]⟩) ∧ (Lib.IsBuilderF 48 5 B b [] w' ∧ Below B w w') := Any.Builder_String_empty_f Tryd.lays169 Tryd.Builder_Extra_169 B b w h hBw
open Go.RowKit in
theorem Tryd.Builder_String_any_f (B b : Nat) (l : List UInt8) (w : World) (h : Lib.IsBuilderF 48 5 B b (Lib.byteCells l) w) (hBw : B ≤ w.heap.size) :
    Calls Tryd.prog 21 #[.pointer (some ⟨b, 0, none⟩)] w fun e w' => e = .returned (.string ⟨l.toArray⟩) ∧ (Lib.IsBuilderF 48 5 B b (Lib.byteCells l) w' ∧ Below B w w') := Any.Builder_String_any_f Tryd.lays169 Tryd.Builder_Extra_169 B b l w h hBw
end Go.Proofs

/-! What writing a text into a Builder of the call's own does, walked at this program's own copy of the library's text: the Builder holds the bytes behind those that it held; condition: together at most 2 to the 47. -/
namespace Go.Proofs.YthmilkcghfaecaaDoor
open Go.RowKit
set_option linter.unusedSimpArgs false
set_option linter.unusedVariables false

theorem sizeBuilder : (Tryd.prog.info? 48).map (·.size) = some 2 := by kernel_rfl

set_option maxHeartbeats 1000000 in
set_option maxRecDepth 100000 in
theorem check_used (b : Nat) (w : World) (h0 : w.cell? ⟨b, 0, none⟩ = some (.pointer (some ⟨b, 0, none⟩))) :
    Calls Tryd.prog 40 #[.pointer (some ⟨b, 0, none⟩)] w fun e w' => e = .returned (.tuple #[]) ∧ w = w' := by
  obtain ⟨j, hj, _⟩ := Option.map_eq_some_iff.1 sizeBuilder
  have hne := Lib.run_neq_ptr_same w (⟨b, 0, none⟩ : Addr) Tryd.underlying45 hj
  go_enter Tryd.func40, Tryd.ntmps40
  go_wp2
  go_end0
  exact ⟨rfl, rfl⟩

set_option maxHeartbeats 1000000 in
set_option maxRecDepth 100000 in
theorem check_fresh (b : Nat) (w : World) (h0 : w.cell? ⟨b, 0, none⟩ = some (.pointer none)) (hsh : w.shape? b = some (48, 2)) (hfz : w.frozen? ⟨b, 0, none⟩ = false) :
    Calls Tryd.prog 40 #[.pointer (some ⟨b, 0, none⟩)] w fun e w' => e = .returned (.tuple #[]) ∧ w.setCell ⟨b, 0, none⟩ (.pointer (some ⟨b, 0, none⟩)) = w' := by
  obtain ⟨j, hj, hjs⟩ := Option.map_eq_some_iff.1 sizeBuilder
  have u1 := Lib.run_to_unsafe w ⟨b, 0, none⟩ Tryd.underlying45 Tryd.underlying82 hj (by rw [hjs]; decide) hsh (Nat.zero_lt_succ 1)
  have u2 := Lib.run_from_unsafe w ⟨b, 0, none⟩ Tryd.underlying82 Tryd.underlying45 hj hsh (by kernel_rfl)
  have u3 : ∀ v w, (callFunc 60 #[v]).run Tryd.prog w = .ok (.value v) w := fun v w => by
    rw [run_callFunc_extern Tryd.func60 (by kernel_rfl) (by kernel_rfl) (by kernel_rfl) (e := Extern.AbiNoEscape.same) (by kernel_rfl), Lib.run_noEscape]
    rfl
  go_enter Tryd.func40, Tryd.ntmps40
  go_wp2
  go_end0
  exact ⟨rfl, rfl⟩

theorem check_c (B b : Nat) (bs : List Value) (w : World) (h : Lib.IsBuilder 48 5 B b bs w) :
    Calls Tryd.prog 40 #[.pointer (some ⟨b, 0, none⟩)] w fun e w' => e = .returned (.tuple #[]) ∧ (Lib.BuilderAt 48 5 B b (.pointer (some ⟨b, 0, none⟩)) bs w' ∧ Below B w w') := by
  rcases h with h | h
  · exact (check_fresh b w h.cell0 h.shape h.frozen0).mono fun e w' ⟨h1, h2⟩ => by
      subst h2
      exact ⟨h1, h.used _, (Below.refl B w).setCell (p := ⟨b, 0, none⟩) h.1 _⟩
  · exact (check_used b w h.cell0).mono fun e w' ⟨h1, h2⟩ => by
      subst h2
      exact ⟨h1, h, Below.refl B _⟩

set_option maxHeartbeats 2000000 in
set_option maxRecDepth 100000 in
theorem write_c (B b : Nat) (bs : List Value) (s : ByteArray) (w : World) (h : Lib.IsBuilder 48 5 B b bs w) (hlen : bs.length + s.size ≤ 140737488355328) (hBw : B ≤ w.heap.size) :
    Calls Tryd.prog 19 #[.pointer (some ⟨b, 0, none⟩), .string s] w fun e w' => e = .returned (.tuple #[.int .i64 s.size, .nilIface]) ∧ (Lib.BuilderAt 48 5 B b (.pointer (some ⟨b, 0, none⟩)) (bs ++ Lib.strCells s) w' ∧ Below B w w') := by
  obtain ⟨i0, hi, hz0, hz1, hz2⟩ := info_parts info5
  go_enter Tryd.func19, Tryd.ntmps19
  go_wp2_with (first
    | (go_at_call 40
       refine (check_c B b bs _ h).mono ?_
       rintro e w1 ⟨rfl, h1, hb1⟩
       obtain ⟨hB, v, hbk, hown, hne⟩ := h1
       have c0 : w1.cell? ⟨b, 0, none⟩ = some (.pointer (some ⟨b, 0, none⟩)) := by rw [Lib.cell_of_heap hbk]; rfl
       have c1 : w1.cell? ⟨b, 1, none⟩ = some v := by rw [Lib.cell_of_heap hbk]; rfl)
    | (at_builtin; refine Lib.wpList_append_own_string _ rfl _ _ 46 9 rfl B 5 i0 Tryd.underlying46 Tryd.underlying9 hi hz0 hz1 hz2 _ bs.length bs rfl hown s rfl (by unfold maxLen; omega) hlen (Nat.le_trans hBw hb1.size) ?_))
  intro v' w2 hown' hgrow hnil
  have hlt : b < w1.heap.size := (Array.getElem?_eq_some_iff.1 hbk).1
  have hb2 : w2.heap[b]? = some (.cells #[.pointer (some ⟨b, 0, none⟩), v] 48 (0, 0)) := by
    rw [hgrow.block b hlt (fun e => hne e.symm)]
    exact hbk
  have d0 : w2.cell? ⟨b, 0, none⟩ = some (.pointer (some ⟨b, 0, none⟩)) := by rw [Lib.cell_of_heap hb2]; rfl
  have d1 : w2.cell? ⟨b, 1, none⟩ = some v := by rw [Lib.cell_of_heap hb2]; rfl
  have f1 : w2.frozen? ⟨b, 1, none⟩ = false := Lib.frozen_of_heap hb2 1
  have hex : ∃ ao cap, v' = .slice ao (bs.length + s.size) cap := by
    rcases hown'.2 with ⟨hv, h0⟩ | ⟨g, cap, cur, hv, _⟩
    · exact ⟨none, 0, by rw [hv, h0]⟩
    · exact ⟨_, cap, hv⟩
  have hbel : Below B w (w2.setCell ⟨b, 1, none⟩ v') := (hb1.grown hgrow (Nat.le_trans hBw hb1.size) (fun k hk => (hown.lt k hk).1)).setCell (p := ⟨b, 1, none⟩) hB _
  have hput : Lib.BuilderAt 48 5 B b (.pointer (some ⟨b, 0, none⟩)) (bs ++ Lib.strCells s) (w2.setCell ⟨b, 1, none⟩ v') :=
    Lib.BuilderAt.put hB hb2 (bs' := bs ++ Lib.strCells s) (by rw [List.length_append, Lib.strCells_length]; exact hown') (by decide)
  obtain ⟨ao, cap, hv⟩ := hex
  subst hv
  clear hnil
  go_wp2
  go_ret2
  exact ⟨rfl, hput, hbel⟩
end Go.Proofs.YthmilkcghfaecaaDoor

/-! What all texts of a list make with another text between them, and what the two functions Join (the program's, by a Builder, and the specification's) answer: just that text; conditions: at most 2 to the 20 texts and letters in the list, and as many in the text between. -/
namespace Go.Proofs.YthmilkcghfaecaaDoor
open Go.RowKit
set_option linter.unusedSimpArgs false
set_option linter.unusedVariables false

def joinUpto (ss : List ByteArray) (t : ByteArray) : Nat → ByteArray
  | 0 => ⟨#[]⟩
  | k + 1 => (if k = 0 then joinUpto ss t k else joinUpto ss t k ++ t) ++ ss.getD k ⟨#[]⟩
def joinS (ss : List ByteArray) (t : ByteArray) : ByteArray := joinUpto ss t ss.length

theorem joinUpto_size (ss : List ByteArray) (t : ByteArray) : ∀ k, k ≤ ss.length → (joinUpto ss t k).size ≤ k * t.size + ((ss.take k).map ByteArray.size).sum
  | 0, _ => by simp [joinUpto]; rfl
  | k + 1, h => by
    have ih := joinUpto_size ss t k (by omega)
    have hs := sum_take_succ ss k (by omega)
    have hg : ss.getD k ⟨#[]⟩ = ss[k] := by simp [List.getD_eq_getElem?_getD, show k < ss.length by omega]
    rw [joinUpto, ByteArray.size_append, hg, hs, Nat.succ_mul]
    split
    · omega
    · rw [ByteArray.size_append]; omega
theorem joinUpto_succ0 (ss : List ByteArray) (t : ByteArray) (h : 0 < ss.length) : joinUpto ss t 1 = joinUpto ss t 0 ++ ss[0] := by
  simp [joinUpto, List.getD_eq_getElem?_getD, h]
theorem joinUpto_succ (ss : List ByteArray) (t : ByteArray) (k : Nat) (hk : ¬ k = 0) (h : k < ss.length) : joinUpto ss t (k + 1) = joinUpto ss t k ++ t ++ ss[k] := by
  rw [joinUpto, if_neg hk]
  simp [List.getD_eq_getElem?_getD, h]

theorem join_bound (ss : List ByteArray) (t : ByteArray) (k : Nat) (hk : k ≤ ss.length) (hb : bulkS ss ≤ 1048576) (ht : t.size ≤ 1048576) : (joinUpto ss t k).size ≤ 1099512676352 := by
  have h1 := joinUpto_size ss t k hk
  have h2 := sum_take_le ss k
  have h3 : k * t.size ≤ 1048576 * 1048576 := Nat.mul_le_mul (by unfold bulkS at hb; omega) ht
  unfold bulkS at hb
  omega

set_option maxHeartbeats 1000000 in
set_option maxRecDepth 100000 in
theorem specJoin_c (v : Value) (ss : List ByteArray) (t : ByteArray) (w : World) (hv : Reads w v (strsV ss)) (hb : bulkS ss ≤ 1048576) (ht : t.size ≤ 1048576) :
    Calls Tryd.prog 34 #[v, .string t] w fun e w' => e = .returned (.string (joinS ss t)) ∧ w = w' := by
  obtain ⟨a, cap, rfl, _, hc⟩ := reads_strs hv
  clear hv
  have hn : ss.length ≤ 1048576 := by unfold bulkS at hb; omega
  rcases hc with rfl | ⟨b, off, rfl, hlt, hc⟩
  · go_enter Tryd.func34, Tryd.ntmps34
    go_wp2
    go_loop [5, 6] (fun vs vi => vs = .string ⟨#[]⟩ ∧ vi = .int .i64 0) (fun _ _ => 0)
    case atStart => exact ⟨rfl, rfl⟩
    case round =>
      obtain ⟨rfl, rfl⟩ := hrel
      go_wp2
      go_ret
      exact ⟨rfl, rfl⟩
  · go_enter Tryd.func34, Tryd.ntmps34
    go_wp2
    go_loop [5, 6] (fun vs vi => ∃ (k : Nat) (s : ByteArray), k ≤ ss.length ∧ vi = .int .i64 (k : Int) ∧ vs = .string s ∧ s.size ≤ 1099512676352 ∧ Hid (s = joinUpto ss t k)) (fun _ vi => ss.length - (intOf vi).toNat)
    case atStart => exact ⟨0, _, Nat.zero_le _, rfl, rfl, by decide, rfl⟩
    case round =>
      obtain ⟨k, s, hk, rfl, rfl, hsz, hs⟩ := hrel
      by_cases hlt' : k < ss.length
      · have hcx := hc k hlt'
        have hbk := join_bound ss t (k + 1) (by omega) hb ht
        have hki : (k : Int) < (ss.length : Int) := by omega
        have hu : ss[k].size ≤ 1048576 := by
          have h1 := sum_take_succ ss k hlt'; have h2 := sum_take_le ss (k + 1); unfold bulkS at hb; omega
        obtain ⟨u, hu'⟩ : ∃ u, u = ss[k] := ⟨_, rfl⟩
        by_cases hk0 : k = 0
        · have e : joinUpto ss t (k + 1) = joinUpto ss t k ++ ss[k] := by subst hk0; exact joinUpto_succ0 ss t hlt'
          rw [← hu'] at hcx hu e
          have HE : Hid (joinUpto ss t (k + 1) = joinUpto ss t k ++ u) := e
          have HK : Hid (k = 0) := hk0
          clear hc e hu' hk0
          go_wp2
          · exfalso; have := HK.out; omega
          go_round
          case rel => exact ⟨k + 1, s ++ u, by omega, by go_num, rfl, (by rw [hs.out, ← HE.out]; exact hbk), (by show _ = _; rw [HE.out, ← hs.out])⟩
          case measure => simp [intOf]; omega
        · have e := joinUpto_succ ss t k hk0 hlt'
          rw [← hu'] at hcx hu e
          have HE : Hid (joinUpto ss t (k + 1) = joinUpto ss t k ++ t ++ u) := e
          have hkp : (0 : Int) < (k : Int) := by omega
          have hst : (s ++ t).size = s.size + t.size := ByteArray.size_append
          clear hc e hu'
          go_wp2
          go_round
          case rel => exact ⟨k + 1, s ++ t ++ u, by omega, by go_num, rfl, (by rw [hs.out, ← HE.out]; exact hbk), (by show _ = _; rw [HE.out, ← hs.out])⟩
          case measure => simp [intOf]; omega
      · have he : k = ss.length := by omega
        subst he
        clear hc
        go_wp2
        go_ret
        exact ⟨by rw [joinS, ← hs.out]; rfl, rfl⟩

theorem strCells_append (a b : ByteArray) : Lib.strCells (a ++ b) = Lib.strCells a ++ Lib.strCells b := by
  simp [Lib.strCells, ByteArray.data_append]

theorem fresh_builder (w : World) : Lib.IsBuilder 48 5 w.heap.size w.heap.size [] (w.alloc (.cells #[.pointer none, .slice none 0 0] 48)) :=
  .inl ⟨Nat.le_refl _, .slice none 0 0, heap_alloc_new w _, World.ownsRow_nil _ _ _ _, by simp [Value.ownBlock]⟩

set_option maxHeartbeats 1000000 in
set_option maxRecDepth 100000 in
theorem implJoin_c (v : Value) (ss : List ByteArray) (t : ByteArray) (w : World) (hv : Reads w v (strsV ss)) (hb : bulkS ss ≤ 1048576) (ht : t.size ≤ 1048576) :
    Calls Tryd.prog 42 #[v, .string t] w fun e w' => e = .returned (.string (joinS ss t)) ∧ Below w.heap.size w w' := by
  obtain ⟨a, cap, rfl, _, hc⟩ := reads_strs hv
  clear hv
  have hn : ss.length ≤ 1048576 := by unfold bulkS at hb; omega
  have hfb := fresh_builder w
  rcases hc with rfl | ⟨b, off, rfl, hlt, hc⟩
  · go_enter Tryd.func42, Tryd.ntmps42
    go_wp2
    go_loopw [10] (fun vi wr => vi = .int .i64 0 ∧ wr = w.alloc (.cells #[.pointer none, .slice none 0 0] 48)) (fun _ _ => 0)
    case atStart => exact ⟨rfl, rfl⟩
    case round =>
      obtain ⟨rfl, hwr⟩ := hrel
      subst hwr
      go_wp2_with (go_at_call 21; refine (Tryd.Builder_String_any w.heap.size w.heap.size [] _ hfb (by simp)).mono ?_; rintro e w1 ⟨rfl, b1⟩)
      go_ret
      exact ⟨rfl, ((Below.refl _ _).alloc (Nat.le_refl _) _).trans b1⟩
  · go_enter Tryd.func42, Tryd.ntmps42
    go_wp2
    go_loopw [10] (fun vi wr => ∃ (k : Nat) (s : ByteArray), k ≤ ss.length ∧ vi = .int .i64 (k : Int) ∧ s.size ≤ 1099512676352 ∧ Hid (s = joinUpto ss t k) ∧ Lib.IsBuilder 48 5 w.heap.size w.heap.size (Lib.strCells s) wr ∧ Below w.heap.size w wr) (fun vi _ => ss.length - (intOf vi).toNat)
    case atStart => exact ⟨0, ⟨#[]⟩, Nat.zero_le _, rfl, by decide, rfl, hfb, (Below.refl _ _).alloc (Nat.le_refl _) _⟩
    case round =>
      obtain ⟨k, s, hk, rfl, hsz, hs, hB, hbr⟩ := hrel
      clear hfb
      by_cases hlt' : k < ss.length
      · have hcx : wr.cell? ⟨b, off + k, none⟩ = some (.string ss[k]) := (hbr.cell (p := ⟨b, off + k, none⟩) hlt).trans (hc k hlt')
        have hbk := join_bound ss t (k + 1) (by omega) hb ht
        have hki : (k : Int) < (ss.length : Int) := by omega
        have hu : ss[k].size ≤ 1048576 := by
          have h1 := sum_take_succ ss k hlt'; have h2 := sum_take_le ss (k + 1); unfold bulkS at hb; omega
        obtain ⟨u, hu'⟩ : ∃ u, u = ss[k] := ⟨_, rfl⟩
        by_cases hk0 : k = 0
        · have e : joinUpto ss t (k + 1) = joinUpto ss t k ++ ss[k] := by subst hk0; exact joinUpto_succ0 ss t hlt'
          rw [← hu'] at hcx hu e
          have HE : Hid (joinUpto ss t (k + 1) = joinUpto ss t k ++ u) := e
          have HK : Hid (k = 0) := hk0
          clear hc e hu' hk0
          go_wp2_with fail
          · exfalso; have := HK.out; omega
          go_at_call 19
          refine (write_c w.heap.size w.heap.size _ u _ hB (by rw [Lib.strCells_length]; omega) hbr.size).mono ?_
          rintro e w1 ⟨rfl, hB1, b1⟩
          go_wp2
          go_roundw
          case rel => exact ⟨k + 1, s ++ u, by omega, by go_num, (by rw [hs.out, ← HE.out]; exact hbk), (by show _ = _; rw [HE.out, ← hs.out]), .inr (by rw [strCells_append]; exact hB1), hbr.trans b1⟩
          case measure => simp [intOf]; omega
        · have e := joinUpto_succ ss t k hk0 hlt'
          rw [← hu'] at hcx hu e
          have HE : Hid (joinUpto ss t (k + 1) = joinUpto ss t k ++ t ++ u) := e
          have hkp : (0 : Int) < (k : Int) := by omega
          have hst : (s ++ t).size = s.size + t.size := ByteArray.size_append
          clear hc e hu'
          go_wp2_with fail
          go_at_call 19
          refine (write_c w.heap.size w.heap.size _ t _ hB (by rw [Lib.strCells_length]; omega) hbr.size).mono ?_
          rintro e w1 ⟨rfl, hB1, b1⟩
          rw [← strCells_append] at hB1
          have b2 := hbr.trans b1
          have hcx1 : w1.cell? ⟨b, off + k, none⟩ = some (.string u) := (b1.cell (p := ⟨b, off + k, none⟩) hlt).trans hcx
          clear hB hcx
          go_wp2_with fail
          go_at_call 19
          refine (write_c w.heap.size w.heap.size _ u _ (.inr hB1) (by rw [Lib.strCells_length]; omega) b2.size).mono ?_
          rintro e w2 ⟨rfl, hB2, b3⟩
          rw [← strCells_append] at hB2
          go_wp2
          go_roundw
          case rel => exact ⟨k + 1, s ++ t ++ u, by omega, by go_num, (by rw [hs.out, ← HE.out]; exact hbk), (by show _ = _; rw [HE.out, ← hs.out]), .inr hB2, b2.trans b3⟩
          case measure => simp [intOf]; omega
      · have he : k = ss.length := by omega
        subst he
        clear hc
        go_wp2_with (go_at_call 21; refine (Tryd.Builder_String_any w.heap.size w.heap.size s.data.toList _ hB hbr.size).mono ?_; rintro e w1 ⟨rfl, b1⟩)
        go_ret
        exact ⟨by rw [joinS, ← hs.out]; rfl, hbr.trans b1⟩
end Go.Proofs.YthmilkcghfaecaaDoor

/-! The contract of the library for the digits of a number, taken over from the library of contracts at the numbers of this program; conditions as it says. -/
namespace Go.Proofs
open Go.Shelf
def Tryd.laysM171_ren : Go.Shelf.Ren := ⟨fun | 171 => 63 | 243 => 76 | 246 => 81 | 283 => 87 | 284 => 88 | 285 => 89 | 286 => 90 | 129 => 94 | 317 => 93 | 318 => 95 | 319 => 96 | 320 => 97 | 337 => 98 | 338 => 99 | n => n, fun | 3 => 3 | 9 => 9 | 2 => 2 | 4 => 4 | 171 => 127 | 0 => 0 | 53 => 128 | 37 => 46 | 5 => 5 | 173 => 131 | 212 => 137 | 51 => 133 | 20 => 20 | 213 => 138 | 46 => 125 | 232 => 141 | 233 => 142 | n => n, fun | 17 => 2 | 18 => 3 | 19 => 4 | n => n⟩
theorem Tryd.laysM171 : Go.Proofs.LaysM.n171 Tryd.prog Tryd.laysM171_ren := {
  mixed := by kernel_rfl
  f129 := Tryd.func94.trans (congrArg some (by kernel_rfl))
  f171 := Tryd.func63.trans (congrArg some (by kernel_rfl))
  f243 := Tryd.func76.trans (congrArg some (by kernel_rfl))
  f246 := Tryd.func81.trans (congrArg some (by kernel_rfl))
  f283 := Tryd.func87.trans (congrArg some (by kernel_rfl))
  f284 := Tryd.func88.trans (congrArg some (by kernel_rfl))
  f285 := Tryd.func89.trans (congrArg some (by kernel_rfl))
  f286 := Tryd.func90.trans (congrArg some (by kernel_rfl))
  f317 := Tryd.func93.trans (congrArg some (by kernel_rfl))
  f318 := Tryd.func95.trans (congrArg some (by kernel_rfl))
  f319 := Tryd.func96.trans (congrArg some (by kernel_rfl))
  f320 := Tryd.func97.trans (congrArg some (by kernel_rfl))
  f337 := Tryd.func98.trans (congrArg some (by kernel_rfl))
  f338 := Tryd.func99.trans (congrArg some (by kernel_rfl))
  t0 := Tryd.underlying0
  a0 := Tryd.isAgg0
  z0 := Tryd.sizeOf0
  v0 := Tryd.zeroValue0
  t2 := Tryd.underlying2
  a2 := Tryd.isAgg2
  z2 := Tryd.sizeOf2
  v2 := Tryd.zeroValue2
  t3 := Tryd.underlying3
  a3 := Tryd.isAgg3
  z3 := Tryd.sizeOf3
  v3 := Tryd.zeroValue3
  t4 := Tryd.underlying4
  a4 := Tryd.isAgg4
  z4 := Tryd.sizeOf4
  v4 := Tryd.zeroValue4
  t5 := Tryd.underlying5
  a5 := Tryd.isAgg5
  z5 := Tryd.sizeOf5
  v5 := Tryd.zeroValue5
  t9 := Tryd.underlying9
  a9 := Tryd.isAgg9
  z9 := Tryd.sizeOf9
  v9 := Tryd.zeroValue9
  t20 := Tryd.underlying20
  a20 := Tryd.isAgg20
  z20 := Tryd.sizeOf20
  v20 := Tryd.zeroValue20
  t37 := Tryd.underlying46
  a37 := Tryd.isAgg46
  z37 := Tryd.sizeOf46
  v37 := Tryd.zeroValue46
  t46 := Tryd.underlying125
  a46 := Tryd.isAgg125
  z46 := Tryd.sizeOf125
  v46 := Tryd.zeroValue125
  t51 := Tryd.underlying133
  a51 := Tryd.isAgg133
  z51 := Tryd.sizeOf133
  v51 := Tryd.zeroValue133
  t53 := Tryd.underlying128
  a53 := Tryd.isAgg128
  z53 := Tryd.sizeOf128
  v53 := Tryd.zeroValue128
  t171 := Tryd.underlying127
  a171 := Tryd.isAgg127
  z171 := Tryd.sizeOf127
  v171 := Tryd.zeroValue127
  t173 := Tryd.underlying131
  a173 := Tryd.isAgg131
  z173 := Tryd.sizeOf131
  v173 := Tryd.zeroValue131
  t212 := Tryd.underlying137
  a212 := Tryd.isAgg137
  z212 := Tryd.sizeOf137
  v212 := Tryd.zeroValue137
  t213 := Tryd.underlying138
  a213 := Tryd.isAgg138
  z213 := Tryd.sizeOf138
  t232 := Tryd.underlying141
  a232 := Tryd.isAgg141
  z232 := Tryd.sizeOf141
  v232 := Tryd.zeroValue141
  t233 := Tryd.underlying142
  a233 := Tryd.isAgg142
  z233 := Tryd.sizeOf142
  v233 := Tryd.zeroValue142
  g17 := by kernel_rfl
  g18 := by kernel_rfl
  g19 := by kernel_rfl
  i0 := by kernel_rfl
  i2 := by kernel_rfl
  i3 := by kernel_rfl
  i4 := by kernel_rfl
  i5 := by kernel_rfl
  i9 := by kernel_rfl
  i20 := by kernel_rfl
  i37 := by kernel_rfl
  i46 := by kernel_rfl
  i51 := by kernel_rfl
  i53 := by kernel_rfl
  i171 := by kernel_rfl
  i173 := by kernel_rfl
  i212 := by kernel_rfl
  i232 := by kernel_rfl
  i233 := by kernel_rfl
  m17 := by kernel_rfl
  m18 := by kernel_rfl
  m19 := by kernel_rfl }
open Go.RowKit Go.Sort Go.Lib in
theorem Tryd.strconv_Itoa (n : Int) (h0 : -9223372036854775808 ≤ n) (h1 : n ≤ 9223372036854775807) (w : World) (htab : Lib.TabIs Tryd.prog w "internal/strconv.uint64pow10" .u64 Lib.pow10Tab) :
    Calls Tryd.prog 63 #[.int .i64 n] w fun e w' => e = .returned (.string ⟨(Lib.itoa n).toArray⟩) ∧ ∃ k os, w' = grow (w.drewN k) os := Any.strconv_Itoa Tryd.laysM171 n h0 h1 w htab
end Go.Proofs

/-! What the two functions NumText (the program's, by the library's Itoa, and the specification's) answer: the digits of the number, of 0 where it is below 0; condition: the library's table of powers of ten lies in memory as its initialiser lays it. -/
namespace Go.Proofs.YthmilkcghfaecaaDoor
open Go.RowKit
set_option linter.unusedSimpArgs false
set_option linter.unusedVariables false

def numStr (n : Nat) : ByteArray := ⟨(Lib.decDigits n).toArray⟩

theorem conv_digit {w : World} (x : Int) : (convert 46 9 (.slice (some ⟨w.heap.size, 0, none⟩) 1 1)).run Tryd.prog (w.alloc (.cells #[.int .u8 x] 5)) = .ok (.string (strOfNums [x])) (w.alloc (.cells #[.int .u8 x] 5)) := by
  refine run_convert_bytes_arg _ 46 5 Tryd.underlying46 Tryd.underlying5 _ 0 1 1 [x] rfl (fun i hi => ?_) 9 Tryd.underlying9
  have : i = 0 := by omega
  subst this
  simp

/-- What is told already, and what is left. -/
def DigitsLeft (N m : Nat) (s : ByteArray) : Prop := Lib.decDigits N = (if m < 10 then [] else Lib.decDigits (m / 10)) ++ s.data.toList

theorem digit_list (m : Nat) : (strOfNums [48 + (m : Int) % 10]).data.toList = [UInt8.ofNat (48 + m % 10)] := by
  rw [strOfNums_data]
  show [UInt8.ofNat (48 + (m : Int) % 10).toNat] = _
  have e : (48 + (m : Int) % 10).toNat = 48 + m % 10 := by omega
  rw [e]
theorem digits_start (N : Nat) : DigitsLeft N N (strOfNums [48 + (N : Int) % 10]) := by
  unfold DigitsLeft
  rw [digit_list]
  by_cases h : N < 10
  · rw [if_pos h, Lib.decDigits, dif_pos h, Nat.mod_eq_of_lt h]; rfl
  · rw [if_neg h, Lib.decDigits, dif_neg h]
theorem digits_step {N m : Nat} {s : ByteArray} (hm : ¬ m < 10) (h : DigitsLeft N m s) : DigitsLeft N (m / 10) (strOfNums [48 + ((m / 10 : Nat) : Int) % 10] ++ s) := by
  unfold DigitsLeft at *
  rw [h, if_neg hm, ByteArray.data_append, Array.toList_append, digit_list, ← List.append_assoc]
  congr 1
  by_cases h2 : m / 10 < 10
  · rw [if_pos h2, Lib.decDigits, dif_pos h2, Nat.mod_eq_of_lt h2]; rfl
  · rw [if_neg h2]
    conv => lhs; rw [Lib.decDigits, dif_neg h2]
theorem digits_end {N m : Nat} {s : ByteArray} (hm : m < 10) (h : DigitsLeft N m s) : s = numStr N := by
  unfold DigitsLeft at h
  rw [if_pos hm, List.nil_append] at h
  apply ByteArray.ext
  apply Array.toList_inj.1
  rw [← h, numStr]

set_option maxHeartbeats 1000000 in
set_option maxRecDepth 100000 in
theorem specNumText_pos (N : Nat) (w : World) (hN : N ≤ 9223372036854775807) :
    Calls Tryd.prog 33 #[.int .i64 (N : Int)] w fun e w' => e = .returned (.string (numStr N)) ∧ Below w.heap.size w w' := by
  have h0 : ¬ ((N : Int) < 0) := by omega
  have hcv0 := conv_digit (w := w) (48 + (N : Int) % 10)
  go_enter Tryd.func33, Tryd.ntmps33
  go_wp2
  go_loopw [0, 3] (fun vm vs wr => ∃ (m : Nat) (s : ByteArray), vm = .int .i64 (m : Int) ∧ vs = .string s ∧ m ≤ N ∧ s.size + m ≤ N + 1 ∧ Hid (DigitsLeft N m s) ∧ Below w.heap.size w wr) (fun vm _ _ => (intOf vm).toNat)
  case atStart => exact ⟨N, _, rfl, rfl, Nat.le_refl _, (by rw [strOfNums_size]; simp; omega), digits_start N, (Below.refl _ _).alloc (Nat.le_refl _) _⟩
  case round =>
    obtain ⟨m, s, rfl, rfl, hmN, hsz, hd, hbr⟩ := hrel
    clear hcv0
    by_cases hm : m < 10
    · have hm' : ¬ (9 : Int) < (m : Int) := by omega
      have e := digits_end hm hd.out
      go_wp2
      go_ret
      exact ⟨by rw [← e]; rfl, hbr⟩
    · have hm' : (9 : Int) < (m : Int) := by omega
      have hcv := conv_digit (w := wr) (48 + ((m / 10 : Nat) : Int) % 10)
      have ec : ((m / 10 : Nat) : Int) = (m : Int) / 10 := by omega
      rw [ec] at hcv
      have h1s : (strOfNums [48 + (m : Int) / 10 % 10]).size = 1 := strOfNums_size _
      have HD : Hid (DigitsLeft N (m / 10) (strOfNums [48 + (m : Int) / 10 % 10] ++ s)) := by
        have := digits_step hm hd.out
        rw [ec] at this
        exact this
      clear hd ec
      go_wp2
      go_roundw
      case rel => exact ⟨m / 10, _, by go_num, rfl, by omega, (by rw [ByteArray.size_append, h1s]; omega), HD, hbr.alloc hbr.size _⟩
      case measure => simp [intOf]; omega

set_option maxHeartbeats 1000000 in
set_option maxRecDepth 100000 in
theorem specNumText_neg (n : Int) (w : World) (hn : n < 0) :
    Calls Tryd.prog 33 #[.int .i64 n] w fun e w' => e = .returned (.string (numStr 0)) ∧ Below w.heap.size w w' := by
  have hcv0 := conv_digit (w := w) 48
  have HE : Hid (strOfNums [48] = numStr 0) := digits_end (m := 0) (by decide) (digits_start 0)
  go_enter Tryd.func33, Tryd.ntmps33
  go_wp2
  go_loopw [0, 3] (fun vm vs wr => vm = .int .i64 0 ∧ vs = .string (strOfNums [48]) ∧ wr = w.alloc (.cells #[.int .u8 48] 5)) (fun _ _ _ => 0)
  case atStart => exact ⟨rfl, rfl, rfl⟩
  case round =>
    obtain ⟨rfl, rfl, hwr⟩ := hrel
    subst hwr
    go_wp2
    go_ret
    exact ⟨by rw [← HE.out]; rfl, (Below.refl _ _).alloc (Nat.le_refl _) _⟩

theorem specNumText_c (n : Int) (w : World) (hn : n ≤ 9223372036854775807) :
    Calls Tryd.prog 33 #[.int .i64 n] w fun e w' => e = .returned (.string (numStr n.toNat)) ∧ Below w.heap.size w w' := by
  by_cases h : n < 0
  · rw [show n.toNat = 0 by omega]; exact specNumText_neg n w h
  · obtain ⟨N, rfl⟩ := Int.eq_ofNat_of_zero_le (show 0 ≤ n by omega)
    exact specNumText_pos N w (by omega)

theorem tabIs_below {w w' : World} {n : String} {k : IntKind} {zs : List Int} (b : Below w.heap.size w w') (h : Lib.TabIs Tryd.prog w n k zs) : Lib.TabIs Tryd.prog w' n k zs := Lib.tabBelow_of_tabIs h w' b

theorem below_grow (w : World) (k : Nat) (os : Array Obj) : Below w.heap.size w (Sort.grow (w.drewN k) os) :=
  ⟨rfl, rfl, rfl, by rw [Sort.size_grow]; exact Nat.le_add_right _ _, fun j hj => Sort.heap_grow_old _ _ hj⟩

set_option maxHeartbeats 1000000 in
set_option maxRecDepth 100000 in
theorem implNumText_c (n : Int) (w : World) (h0 : -9223372036854775808 ≤ n) (h1 : n ≤ 9223372036854775807) (htab : Lib.TabIs Tryd.prog w "internal/strconv.uint64pow10" .u64 Lib.pow10Tab) :
    Calls Tryd.prog 43 #[.int .i64 n] w fun e w' => e = .returned (.string (numStr n.toNat)) ∧ Below w.heap.size w w' := by
  have hc := Tryd.strconv_Itoa (max n 0) (by omega) (by omega) w htab
  have e : Lib.itoa (max n 0) = Lib.decDigits n.toNat := by
    rw [Lib.itoa, if_neg (by omega), show (max n 0).toNat = n.toNat by omega]
  rw [e] at hc
  clear htab e
  go_enter Tryd.func43, Tryd.ntmps43
  go_wp2_with (go_at_call 63; refine hc.mono ?_; rintro e w1 ⟨rfl, k, os, rfl⟩)
  go_ret
  exact ⟨rfl, below_grow w k os⟩
end Go.Proofs.YthmilkcghfaecaaDoor
