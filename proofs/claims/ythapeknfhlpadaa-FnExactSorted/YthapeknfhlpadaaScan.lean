/-
  What the functions that look at one byte, and the two functions NameOk (the program's and the specification's), answer: contracts for the walks; no conditions but that a string is no longer than an int can count.
-/
import Derived.Test.YthapeknfhlpadaaRows
import Derived.WalkKit
import Derived.WalkSpells
import Derived.WalkLawsBesides
import Derived.Lib.Strings
namespace Go.Proofs.Ythapeknfhlpadaa
open Go.RowKit
set_option linter.unusedSimpArgs false
set_option linter.unusedVariables false

def smallB (c : Int) : Bool := decide (97 ≤ c) && decide (c ≤ 122)
def digitB (c : Int) : Bool := decide (48 ≤ c) && decide (c ≤ 57)
def plainB (c : Int) : Bool := decide (32 ≤ c) && decide (c ≤ 126)
def inB (x lo hi : Int) : Bool := decide (lo ≤ x) && decide (x ≤ hi)

def allUpto (p : Nat → Int → Bool) (s : ByteArray) : Nat → Bool
  | 0 => true
  | k + 1 => allUpto p s k && p k ((s.data[k]!).toNat : Int)

theorem byteBang (s : ByteArray) (j : Nat) (hj : j < s.size) : s.data[j]! = s[j] := by
  rw [getElem!_pos s.data j (by simpa using hj)]; rfl

theorem allUpto_cut (p : Nat → Int → Bool) (s : ByteArray) (k : Nat) (h : p k ((s.data[k]!).toNat : Int) = false) :
    ∀ n, k < n → allUpto p s n = false
  | 0, h0 => by omega
  | n + 1, hk => by
    unfold allUpto
    by_cases e : k = n
    · subst e; simp [h]
    · rw [allUpto_cut p s k h n (by omega)]; rfl

theorem step_true {p : Nat → Int → Bool} {s : ByteArray} {k : Nat} (hk : k < s.size) (hh : Hid (allUpto p s k = true)) (h : p k ((s[k]).toNat : Int) = true) : Hid (allUpto p s (k + 1) = true) := by
  show _ = _
  rw [allUpto, hh.out, byteBang s k hk, h]; rfl

theorem end_false {p : Nat → Int → Bool} {s : ByteArray} {k : Nat} (hk : k < s.size) (h : p k ((s[k]).toNat : Int) = false) : allUpto p s s.size = false :=
  allUpto_cut p s k (by rw [byteBang s k hk]; exact h) _ hk

theorem in_c (x lo hi : Int) (w : World) :
    Calls Try.prog 52 #[.int .i64 x, .int .i64 lo, .int .i64 hi] w fun e w' => e = .returned (.bool (inB x lo hi)) ∧ w = w' := by
  by_cases h : lo ≤ x
  · by_cases h2 : x ≤ hi
    · have hb : inB x lo hi = true := by simp [inB, h, h2]
      rw [hb]
      go_enter Try.func52, Try.ntmps52
      go_wp2
      go_ret
      exact ⟨by simp [h2], rfl⟩
    · have hb : inB x lo hi = false := by simp [inB, h2]
      rw [hb]
      go_enter Try.func52, Try.ntmps52
      go_wp2
      go_ret
      exact ⟨by simp [h2], rfl⟩
  · have hb : inB x lo hi = false := by simp [inB, h]
    rw [hb]
    go_enter Try.func52, Try.ntmps52
    go_wp2
    go_ret
    exact ⟨rfl, rfl⟩

theorem small_c (c : Int) (h0 : 0 ≤ c) (h1 : c ≤ 255) (w : World) :
    Calls Try.prog 50 #[.int .u8 c] w fun e w' => e = .returned (.bool (smallB c)) ∧ w = w' := by
  go_enter Try.func50, Try.ntmps50
  go_wp2_with (go_at_call 52; refine (in_c _ _ _ _).mono ?_; rintro e w' ⟨rfl, rfl⟩)
  go_ret
  exact ⟨rfl, rfl⟩

theorem digit_c (c : Int) (h0 : 0 ≤ c) (h1 : c ≤ 255) (w : World) :
    Calls Try.prog 51 #[.int .u8 c] w fun e w' => e = .returned (.bool (digitB c)) ∧ w = w' := by
  go_enter Try.func51, Try.ntmps51
  go_wp2_with (go_at_call 52; refine (in_c _ _ _ _).mono ?_; rintro e w' ⟨rfl, rfl⟩)
  go_ret
  exact ⟨rfl, rfl⟩

theorem isSmall_c (c : Int) (w : World) :
    Calls Try.prog 48 #[.int .u8 c] w fun e w' => e = .returned (.bool (smallB c)) ∧ w = w' := by
  by_cases h : 97 ≤ c
  · have hb : smallB c = decide (c ≤ 122) := by simp [smallB, h]
    rw [hb]
    go_enter Try.func48, Try.ntmps48
    go_wp2
    go_ret
    exact ⟨rfl, rfl⟩
  · have hb : smallB c = false := by simp [smallB, h]
    rw [hb]
    go_enter Try.func48, Try.ntmps48
    go_wp2
    go_ret
    exact ⟨rfl, rfl⟩

theorem isDigit_c (c : Int) (w : World) :
    Calls Try.prog 49 #[.int .u8 c] w fun e w' => e = .returned (.bool (digitB c)) ∧ w = w' := by
  by_cases h : 48 ≤ c
  · have hb : digitB c = decide (c ≤ 57) := by simp [digitB, h]
    rw [hb]
    go_enter Try.func49, Try.ntmps49
    go_wp2
    go_ret
    exact ⟨rfl, rfl⟩
  · have hb : digitB c = false := by simp [digitB, h]
    rw [hb]
    go_enter Try.func49, Try.ntmps49
    go_wp2
    go_ret
    exact ⟨rfl, rfl⟩

theorem isPlain_c (c : Int) (w : World) :
    Calls Try.prog 53 #[.int .u8 c] w fun e w' => e = .returned (.bool (plainB c)) ∧ w = w' := by
  by_cases h : 32 ≤ c
  · have hb : plainB c = decide (c ≤ 126) := by simp [plainB, h]
    rw [hb]
    go_enter Try.func53, Try.ntmps53
    go_wp2
    go_ret
    exact ⟨rfl, rfl⟩
  · have hb : plainB c = false := by simp [plainB, h]
    rw [hb]
    go_enter Try.func53, Try.ntmps53
    go_wp2
    go_ret
    exact ⟨rfl, rfl⟩

theorem byte0 (u : UInt8) : (0 : Int) ≤ (u.toNat : Int) := by omega
theorem wrap_byte (u : UInt8) : wrap64 (u.toNat : Int) = (u.toNat : Int) := by
  have := u.toNat_lt
  rw [wrap64]; omega
theorem byte255 (u : UInt8) : (u.toNat : Int) ≤ 255 := by have := u.toNat_lt; omega

def okName (k : Nat) (c : Int) : Bool := smallB c || (k != 0 && (digitB c || c == 45))
def nameB (s : ByteArray) : Bool := allUpto okName s s.size && inB s.size 1 10

set_option maxHeartbeats 1000000 in
theorem specName_c (s : ByteArray) (hs : s.size ≤ maxLen) (w : World) :
    Calls Try.prog 18 #[.string s] w fun e w' => e = .returned (.bool (nameB s)) ∧ w = w' := by
  unfold maxLen at hs
  go_enter Try.func18, Try.ntmps18
  go_wp2
  go_loop [3] (fun vi => ∃ k : Nat, k ≤ s.size ∧ vi = .int .i64 (k : Int) ∧ Hid (allUpto okName s k = true)) (fun vi => s.size - (intOf vi).toNat)
  case atStart => exact ⟨0, Nat.zero_le _, rfl, rfl⟩
  case round =>
    obtain ⟨k, hk, rfl, hh⟩ := hrel
    go_wp2_with (first
      | (go_at_call 50; refine (small_c _ (byte0 _) (byte255 _) _).mono ?_; rintro e w' ⟨rfl, rfl⟩)
      | (go_at_call 51; refine (digit_c _ (byte0 _) (byte255 _) _).mono ?_; rintro e w' ⟨rfl, rfl⟩)
      | (go_at_call 52; refine (in_c _ _ _ _).mono ?_; rintro e w' ⟨rfl, rfl⟩))
    · have hlt : k < s.size := by assumption
      go_round
      case rel => exact ⟨k + 1, by omega, by go_num, step_true hlt hh (by simp [okName, *])⟩
      case measure => simp [intOf]; omega
    · have hlt : k < s.size := by assumption
      have h0 : k = 0 := by assumption
      have h1 : ¬ smallB ((s[k]).toNat : Int) = true := by assumption
      go_ret
      exact ⟨by rw [nameB, end_false hlt (by subst h0; simpa [okName] using h1)]; rfl, rfl⟩
    · have hlt : k < s.size := by assumption
      go_round
      case rel => exact ⟨k + 1, by omega, by go_num, step_true hlt hh (by simp [okName, *])⟩
      case measure => simp [intOf]; omega
    · have hlt : k < s.size := by assumption
      have h0 : ¬ k = 0 := by assumption
      have h1 : ¬ smallB ((s[k]).toNat : Int) = true := by assumption
      have h2 : ¬ digitB ((s[k]).toNat : Int) = true := by assumption
      have h3 : ((k : Int) == 0) = true ∨ (((s[k]).toNat : Int) != 45) = true := by assumption
      have h4 : (((s[k]).toNat : Int) == 45) = false := by
        rcases h3 with h3 | h3
        · simp at h3; omega
        · simpa using h3
      go_ret
      exact ⟨by rw [nameB, end_false hlt (by simp only [okName, h1, h2, h4]; simp)]; rfl, rfl⟩
    · have hlt : k < s.size := by assumption
      have h0 : ¬ k = 0 := by assumption
      have h3 : ((k : Int) == 0) = false ∧ (((s[k]).toNat : Int) != 45) = false := by assumption
      have h4 : (((s[k]).toNat : Int) == 45) = true := by simpa using h3.2
      go_round
      case rel => exact ⟨k + 1, by omega, by go_num, step_true hlt hh (by simp only [okName, h4]; simp [h0])⟩
      case measure => simp [intOf]; omega
    · have he : k = s.size := by omega
      subst he
      go_ret
      exact ⟨by rw [nameB, hh.out]; rfl, rfl⟩

theorem size_ne {s : ByteArray} (h : ¬ s.size = 0) : ((s.size : Int) == 0) = false := by
  rw [beq_eq_false_iff_ne]; omega

theorem nameB_out {s : ByteArray} (h : s.size = 0 ∨ 10 < s.size) : nameB s = false := by
  have : inB s.size 1 10 = false := by
    simp only [inB, Bool.and_eq_false_iff, decide_eq_false_iff_not]
    omega
  rw [nameB, this, Bool.and_false]

theorem nameB_first {s : ByteArray} (h0 : 0 < s.size) (h : smallB ((s[0]).toNat : Int) = false) : nameB s = false := by
  rw [nameB, end_false h0 (by simp [okName, h])]; rfl

theorem nameB_in {s : ByteArray} (h0 : 0 < s.size) (h1 : s.size ≤ 10) (h : allUpto okName s s.size = true) : nameB s = true := by
  have : inB s.size 1 10 = true := by
    simp only [inB, Bool.and_eq_true, decide_eq_true_eq]
    omega
  rw [nameB, this, h]; rfl

set_option maxHeartbeats 1000000 in
theorem implName_c (s : ByteArray) (hs : s.size ≤ maxLen) (w : World) :
    Calls Try.prog 17 #[.string s] w fun e w' => e = .returned (.bool (nameB s)) ∧ w = w' := by
  unfold maxLen at hs
  by_cases h0 : s.size = 0
  · have e := nameB_out (.inl h0)
    rw [e]
    have h0' : ((s.size : Int) == 0) = true := by simp [h0]
    go_enter Try.func17, Try.ntmps17
    go_wp2
    go_ret
    exact ⟨rfl, rfl⟩
  by_cases h10 : 10 < s.size
  · have e := nameB_out (.inr h10)
    rw [e]
    have h0' : ((s.size : Int) == 0) = false := size_ne h0
    have h10' : (10 : Int) < (s.size : Int) := by omega
    go_enter Try.func17, Try.ntmps17
    go_wp2
    go_ret
    exact ⟨rfl, rfl⟩
  have hp : 0 < s.size := by omega
  have h0' : ((s.size : Int) == 0) = false := size_ne h0
  have h10' : ¬ (10 : Int) < (s.size : Int) := by omega
  cases hf : smallB ((s[0]).toNat : Int) with
  | false =>
    rw [nameB_first hp hf]
    go_enter Try.func17, Try.ntmps17
    go_wp2_with (first
      | (go_at_call 48; refine (isSmall_c _ _).mono ?_; rintro e w' ⟨rfl, rfl⟩)
      | (go_at_call 49; refine (isDigit_c _ _).mono ?_; rintro e w' ⟨rfl, rfl⟩))
    go_ret
    exact ⟨rfl, rfl⟩
  | true =>
    go_enter Try.func17, Try.ntmps17
    go_wp2_with (first
      | (go_at_call 48; refine (isSmall_c _ _).mono ?_; rintro e w' ⟨rfl, rfl⟩)
      | (go_at_call 49; refine (isDigit_c _ _).mono ?_; rintro e w' ⟨rfl, rfl⟩))
    go_loop [20] (fun vi => ∃ k : Nat, k ≤ s.size ∧ vi = .int .i64 (k : Int) ∧ Hid (allUpto okName s k = true)) (fun vi => s.size - (intOf vi).toNat)
    case atStart => exact ⟨0, Nat.zero_le _, rfl, rfl⟩
    case round =>
      obtain ⟨k, hk, rfl, hh⟩ := hrel
      go_wp2_with (first
        | (go_at_call 48; refine (isSmall_c _ _).mono ?_; rintro e w' ⟨rfl, rfl⟩)
        | (go_at_call 49; refine (isDigit_c _ _).mono ?_; rintro e w' ⟨rfl, rfl⟩))
      · have hlt : k < s.size := by assumption
        go_round
        case rel => exact ⟨k + 1, by omega, by go_num, step_true hlt hh (by simp [okName, *])⟩
        case measure => simp [intOf]; omega
      · have hlt : k < s.size := by assumption
        have h1 : ¬ smallB ((s[k]).toNat : Int) = true := by assumption
        have h2 : digitB ((s[k]).toNat : Int) = true := by assumption
        have h3 : ¬ k = 0 := fun e => by subst e; exact h1 hf
        go_round
        case rel => exact ⟨k + 1, by omega, by go_num, step_true hlt hh (by simp [okName, h2, h3])⟩
        case measure => simp [intOf]; omega
      · have hlt : k < s.size := by assumption
        have h1 : ¬ smallB ((s[k]).toNat : Int) = true := by assumption
        have h2 : ¬ digitB ((s[k]).toNat : Int) = true := by assumption
        have h3 : (((s[k]).toNat : Int) != 45) = true := by assumption
        have h4 : (((s[k]).toNat : Int) == 45) = false := by simpa using h3
        go_ret
        exact ⟨by rw [nameB, end_false hlt (by simp only [okName, h1, h2, h4]; simp)]; rfl, rfl⟩
      · have hlt : k < s.size := by assumption
        have h1 : ¬ smallB ((s[k]).toNat : Int) = true := by assumption
        have h2 : (((s[k]).toNat : Int) != 45) = false := by assumption
        have h3 : ¬ k = 0 := fun e => by subst e; exact h1 hf
        have h4 : (((s[k]).toNat : Int) == 45) = true := by simpa using h2
        go_round
        case rel => exact ⟨k + 1, by omega, by go_num, step_true hlt hh (by simp only [okName, h4]; simp [h3])⟩
        case measure => simp [intOf]; omega
      · have he : k = s.size := by omega
        subst he
        go_ret
        exact ⟨by rw [nameB_in hp (by omega) hh.out]; rfl, rfl⟩

def okPlain (_ : Nat) (c : Int) : Bool := plainB c
def plainAll (s : ByteArray) (most : Int) : Bool := allUpto okPlain s s.size && decide ((s.size : Int) ≤ most)

set_option maxHeartbeats 1000000 in
theorem specPlain_c (s : ByteArray) (most : Int) (hs : s.size ≤ maxLen) (w : World) :
    Calls Try.prog 20 #[.string s, .int .i64 most] w fun e w' => e = .returned (.bool (plainAll s most)) ∧ w = w' := by
  unfold maxLen at hs
  go_enter Try.func20, Try.ntmps20
  go_wp2
  go_loop [5] (fun vi => ∃ k : Nat, k ≤ s.size ∧ vi = .int .i64 (k : Int) ∧ Hid (allUpto okPlain s k = true)) (fun vi => s.size - (intOf vi).toNat)
  case atStart => exact ⟨0, Nat.zero_le _, rfl, rfl⟩
  case round =>
    obtain ⟨k, hk, rfl, hh⟩ := hrel
    go_wp2_with (go_at_call 52; refine (in_c _ _ _ _).mono ?_; rintro e w' ⟨rfl, rfl⟩)
    · have hlt : k < s.size := by assumption
      have h1 : (!inB (wrap64 ((s[k]).toNat : Int)) 32 126) = true := by assumption
      rw [wrap_byte] at h1
      have h2 : plainB ((s[k]).toNat : Int) = false := by simpa using (show (!plainB ((s[k]).toNat : Int)) = true from h1)
      go_ret
      exact ⟨by rw [plainAll, end_false hlt h2]; rfl, rfl⟩
    · have hlt : k < s.size := by assumption
      have h1 : (!inB (wrap64 ((s[k]).toNat : Int)) 32 126) = false := by assumption
      rw [wrap_byte] at h1
      have h2 : plainB ((s[k]).toNat : Int) = true := by simpa using (show (!plainB ((s[k]).toNat : Int)) = false from h1)
      go_round
      case rel => exact ⟨k + 1, by omega, by go_num, step_true hlt hh h2⟩
      case measure => simp [intOf]; omega
    · have he : k = s.size := by omega
      subst he
      go_ret
      exact ⟨by rw [plainAll, hh.out]; rfl, rfl⟩

set_option maxHeartbeats 1000000 in
theorem implPlain_c (s : ByteArray) (most : Int) (hs : s.size ≤ maxLen) (w : World) :
    Calls Try.prog 19 #[.string s, .int .i64 most] w fun e w' => e = .returned (.bool (plainAll s most)) ∧ w = w' := by
  unfold maxLen at hs
  by_cases hm : most < (s.size : Int)
  · have e : plainAll s most = false := by
      have : decide ((s.size : Int) ≤ most) = false := by simp; omega
      rw [plainAll, this, Bool.and_false]
    rw [e]
    go_enter Try.func19, Try.ntmps19
    go_wp2
    go_ret
    exact ⟨rfl, rfl⟩
  go_enter Try.func19, Try.ntmps19
  go_wp2
  go_loop [12] (fun vi => ∃ k : Nat, k ≤ s.size ∧ vi = .int .i64 (k : Int) ∧ Hid (allUpto okPlain s k = true)) (fun vi => s.size - (intOf vi).toNat)
  case atStart => exact ⟨0, Nat.zero_le _, rfl, rfl⟩
  case round =>
    obtain ⟨k, hk, rfl, hh⟩ := hrel
    go_wp2_with (go_at_call 53; refine (isPlain_c _ _).mono ?_; rintro e w' ⟨rfl, rfl⟩)
    · have hlt : k < s.size := by assumption
      have h1 : (!plainB ((s[k]).toNat : Int)) = true := by assumption
      have h2 : plainB ((s[k]).toNat : Int) = false := by simpa using h1
      go_ret
      exact ⟨by rw [plainAll, end_false hlt h2]; rfl, rfl⟩
    · have hlt : k < s.size := by assumption
      have h1 : (!plainB ((s[k]).toNat : Int)) = false := by assumption
      have h2 : plainB ((s[k]).toNat : Int) = true := by simpa using h1
      go_round
      case rel => exact ⟨k + 1, by omega, by go_num, step_true hlt hh h2⟩
      case measure => simp [intOf]; omega
    · have he : k = s.size := by omega
      subst he
      have e : decide ((s.size : Int) ≤ most) = true := by simp; omega
      go_ret
      exact ⟨by rw [plainAll, hh.out, e]; rfl, rfl⟩
end Go.Proofs.Ythapeknfhlpadaa
