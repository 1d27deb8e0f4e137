/-
  What the functions that look at one text of a Pre answer (the program's and the specification's): contracts for the walks; condition: a string is no longer than an int can count.
-/
import Derived.Test.YtdnpfkknnaepoaaDoorNum
import Derived.Test.YtdnpfkknnaepoaaDoorStrs
import Derived.Lib.OthersKept
import Derived.Laws.RangeAny
import Derived.BigQuiet
import Derived.Deep.QuietTactic
namespace Go.Proofs.YtdnpfkknnaepoaaDoor
open Go.RowKit
set_option linter.unusedSimpArgs false
set_option linter.unusedVariables false

def preB (c : Int) : Bool := smallB c || inB c 65 90 || digitB c || c == 45
def okPre (_ : Nat) (c : Int) : Bool := preB c
def digitsB (s : ByteArray) : Bool := allUpto okDigit s s.size
def firstB (s : ByteArray) : Bool := ((s.data[0]!).toNat : Int) == 48
def partB (s : ByteArray) : Bool := allUpto okPre s s.size && inB s.size 1 8 && (!digitsB s || decide (s.size = 1) || !firstB s)

theorem ret_bool {a b : Bool} (h : a = b) : Ending.returned (.bool a) = .returned (.bool b) := by rw [h]

theorem isPreSign_c (c : Int) (w : World) :
    Calls Tryd.prog 75 #[.int .i32 c] w fun e w' => e = .returned (.bool (preB c)) ∧ w = w' := by
  go_enter Tryd.func75, Tryd.ntmps75
  go_wp2
  all_goals (go_ret; refine ⟨ret_bool ?_, rfl⟩)
  all_goals (rw [Bool.eq_iff_iff]; simp [preB, smallB, inB, digitB]; try omega)

set_option maxHeartbeats 1000000 in
theorem specDigits_c (s : ByteArray) (hs : s.size ≤ maxLen) (w : World) :
    Calls Tryd.prog 84 #[.string s] w fun e w' => e = .returned (.bool (digitsB s)) ∧ w = w' := by
  unfold maxLen at hs
  go_enter Tryd.func84, Tryd.ntmps84
  go_wp2
  go_loop [3] (fun vi => ∃ k : Nat, k ≤ s.size ∧ vi = .int .i64 (k : Int) ∧ Hid (allUpto okDigit s k = true)) (fun vi => s.size - (intOf vi).toNat)
  case atStart => exact ⟨0, Nat.zero_le _, rfl, rfl⟩
  case round =>
    obtain ⟨k, hk, rfl, hh⟩ := hrel
    go_wp2_with (go_at_call 77; refine (digit_c _ (byte0 _) (byte255 _) _).mono ?_; rintro e w' ⟨rfl, rfl⟩)
    · have hlt : k < s.size := by assumption
      have h1 : (!digitB ((s[k]).toNat : Int)) = true := by assumption
      go_ret
      exact ⟨by rw [digitsB, end_false hlt (by simpa [okDigit] using h1)]; rfl, rfl⟩
    · have hlt : k < s.size := by assumption
      have h1 : (!digitB ((s[k]).toNat : Int)) = false := by assumption
      go_round
      case rel => exact ⟨k + 1, by omega, by go_num, step_true hlt hh (by simpa [okDigit] using h1)⟩
      case measure => simp [intOf]; omega
    · have he : k = s.size := by omega
      subst he
      go_ret
      exact ⟨by rw [digitsB, hh.out]; rfl, rfl⟩

set_option maxHeartbeats 1000000 in
theorem implDigits_c (s : ByteArray) (hs : s.size ≤ maxLen) (w : World) :
    Calls Tryd.prog 82 #[.string s] w fun e w' => e = .returned (.bool (digitsB s)) ∧ w = w' := by
  unfold maxLen at hs
  go_enter Tryd.func82, Tryd.ntmps82
  go_wp2
  go_loop [6] (fun vi => ∃ k : Nat, k ≤ s.size ∧ vi = .int .i64 (k : Int) ∧ Hid (allUpto okDigit s k = true)) (fun vi => s.size - (intOf vi).toNat)
  case atStart => exact ⟨0, Nat.zero_le _, rfl, rfl⟩
  case round =>
    obtain ⟨k, hk, rfl, hh⟩ := hrel
    go_wp2_with (go_at_call 111; refine (isDigit_c _ _).mono ?_; rintro e w' ⟨rfl, rfl⟩)
    · have hlt : k < s.size := by assumption
      have h1 : (!digitB ((s[k]).toNat : Int)) = true := by assumption
      go_ret
      exact ⟨by rw [digitsB, end_false hlt (by simpa [okDigit] using h1)]; rfl, rfl⟩
    · have hlt : k < s.size := by assumption
      have h1 : (!digitB ((s[k]).toNat : Int)) = false := by assumption
      go_round
      case rel => exact ⟨k + 1, by omega, by go_num, step_true hlt hh (by simpa [okDigit] using h1)⟩
      case measure => simp [intOf]; omega
    · have he : k = s.size := by omega
      subst he
      go_ret
      exact ⟨by rw [digitsB, hh.out]; rfl, rfl⟩

theorem pre_high {c : Int} (h : 128 ≤ c) : preB c = false := by
  rw [Bool.eq_false_iff]; simp [preB, smallB, inB, digitB]; omega

theorem partB_out {s : ByteArray} (h : s.size = 0 ∨ 8 < s.size) : partB s = false := by
  have : inB s.size 1 8 = false := by
    simp only [inB, Bool.and_eq_false_iff, decide_eq_false_iff_not]
    omega
  rw [partB, this, Bool.and_false, Bool.false_and]
theorem partB_bad {s : ByteArray} (h : allUpto okPre s s.size = false) : partB s = false := by rw [partB, h]; rfl
theorem partB_in {s : ByteArray} (h0 : 0 < s.size) (h1 : s.size ≤ 8) (h : allUpto okPre s s.size = true) : partB s = (!digitsB s || decide (s.size = 1) || !firstB s) := by
  have : inB s.size 1 8 = true := by
    simp only [inB, Bool.and_eq_true, decide_eq_true_eq]
    omega
  rw [partB, this, h]; rfl
theorem firstB_eq {s : ByteArray} (h0 : 0 < s.size) : firstB s = (((s[0]).toNat : Int) == 48) := by rw [firstB, byteBang s 0 h0]

theorem pre_1 {c : Int} (k : Nat) (h : digitB c = true) : okPre k c = true := by simp [okPre, preB, h]
theorem pre_2 {c : Int} (k : Nat) (h : smallB c = true) : okPre k c = true := by simp [okPre, preB, h]
theorem pre_3 {c : Int} (k : Nat) (h : inB c 65 90 = true) : okPre k c = true := by simp [okPre, preB, h]
theorem pre_4 {c : Int} (k : Nat) (h : (c != 45) = false) : okPre k c = true := by
  have : (c == 45) = true := by simpa using h
  simp only [okPre, preB, this, Bool.or_true]

end Go.Proofs.YtdnpfkknnaepoaaDoor
