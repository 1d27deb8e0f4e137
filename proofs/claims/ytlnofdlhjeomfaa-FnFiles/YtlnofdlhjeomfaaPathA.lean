/-
  What the functions that look at a path, name by name, answer (the program's and the specification's): contracts for the walks; condition: the text has at most 2 to the 20 bytes.
-/
import Derived.Test.YtlnofdlhjeomfaaSplitB
namespace Go.Proofs.Ytlnofdlhjeomfaa
open Go.RowKit
set_option linter.unusedSimpArgs false
set_option linter.unusedVariables false

def pathC (c : Int) : Bool := smallB c || (digitB c || (c == 46 || (c == 45 || c == 95)))

theorem isPath_c (c : Int) (w : World) : Calls Try.prog 110 #[.int .u8 c] w fun e w' => e = .returned (.bool (pathC c)) ∧ w = w' := by
  cases h1 : smallB c with
  | true =>
    have hb : pathC c = true := by simp [pathC, h1]
    rw [hb]
    go_enter Try.func110, Try.ntmps110
    go_wp2_with (go_at_call 126; refine (isSmall_c _ _).mono ?_; rintro e w' ⟨rfl, rfl⟩; rw [h1])
    go_ret
    exact ⟨rfl, rfl⟩
  | false =>
    cases h2 : digitB c with
    | true =>
      have hb : pathC c = true := by simp [pathC, h2]
      rw [hb]
      go_enter Try.func110, Try.ntmps110
      go_wp2_with (first
        | (go_at_call 126; refine (isSmall_c _ _).mono ?_; rintro e w' ⟨rfl, rfl⟩; rw [h1])
        | (go_at_call 127; refine (isDigit_c _ _).mono ?_; rintro e w' ⟨rfl, rfl⟩; rw [h2]))
      go_ret
      exact ⟨rfl, rfl⟩
    | false =>
      go_enter Try.func110, Try.ntmps110
      go_wp2_with (first
        | (go_at_call 126; refine (isSmall_c _ _).mono ?_; rintro e w' ⟨rfl, rfl⟩; rw [h1])
        | (go_at_call 127; refine (isDigit_c _ _).mono ?_; rintro e w' ⟨rfl, rfl⟩; rw [h2]))
      all_goals go_ret
      all_goals exact ⟨by simp [pathC, Bool.or_assoc, *], rfl⟩

theorem letter5_c (c : Int) (k0 : 0 ≤ c) (k1 : c ≤ 255) (w : World) : Calls Try.prog 112 #[.int .u8 c] w fun e w' => e = .returned (.bool (pathC c)) ∧ w = w' := by
  cases h1 : smallB c with
  | true =>
    have hb : pathC c = true := by simp [pathC, h1]
    rw [hb]
    go_enter Try.func112, Try.ntmps112
    go_wp2_with (go_at_call 129; refine (small_c _ k0 k1 _).mono ?_; rintro e w' ⟨rfl, rfl⟩; rw [h1])
    go_ret
    exact ⟨rfl, rfl⟩
  | false =>
    cases h2 : digitB c with
    | true =>
      have hb : pathC c = true := by simp [pathC, h2]
      rw [hb]
      go_enter Try.func112, Try.ntmps112
      go_wp2_with (first
        | (go_at_call 129; refine (small_c _ k0 k1 _).mono ?_; rintro e w' ⟨rfl, rfl⟩; rw [h1])
        | (go_at_call 130; refine (digit_c _ k0 k1 _).mono ?_; rintro e w' ⟨rfl, rfl⟩; rw [h2]))
      go_ret
      exact ⟨rfl, rfl⟩
    | false =>
      go_enter Try.func112, Try.ntmps112
      go_wp2_with (first
        | (go_at_call 129; refine (small_c _ k0 k1 _).mono ?_; rintro e w' ⟨rfl, rfl⟩; rw [h1])
        | (go_at_call 130; refine (digit_c _ k0 k1 _).mono ?_; rintro e w' ⟨rfl, rfl⟩; rw [h2]))
      all_goals go_ret
      all_goals exact ⟨by simp [pathC, Bool.or_assoc, *], rfl⟩

def okPath (_ : Nat) (c : Int) : Bool := pathC c
def pnameB (s : ByteArray) : Bool := allUpto okPath s s.size && (inB s.size 1 12 && (!(s.toList == [46]) && !(s.toList == [46, 46])))

set_option maxHeartbeats 1000000 in
theorem specPname_c (s : ByteArray) (hs : s.size ≤ maxLen) (w : World) :
    Calls Try.prog 106 #[.string s] w fun e w' => e = .returned (.bool (pnameB s)) ∧ w = w' := by
  unfold maxLen at hs
  go_enter Try.func106, Try.ntmps106
  go_wp2
  go_loop [3] (fun vi => ∃ k : Nat, k ≤ s.size ∧ vi = .int .i64 (k : Int) ∧ Hid (allUpto okPath s k = true)) (fun vi => s.size - (intOf vi).toNat)
  case atStart => exact ⟨0, Nat.zero_le _, rfl, rfl⟩
  case round =>
    obtain ⟨k, hk, rfl, hh⟩ := hrel
    by_cases hlt : k < s.size
    · have hki : (k : Int) < (s.size : Int) := by omega
      cases hp : pathC ((s[k]).toNat : Int) with
      | true =>
        go_wp2_with (go_at_call 112; refine (letter5_c _ (byte0 _) (byte255 _) _).mono ?_; rintro e w' ⟨rfl, rfl⟩; rw [hp])
        go_round
        case rel => exact ⟨k + 1, by omega, by go_num, step_true hlt hh (by simp [okPath, hp])⟩
        case measure => simp [intOf]; omega
      | false =>
        go_wp2_with (go_at_call 112; refine (letter5_c _ (byte0 _) (byte255 _) _).mono ?_; rintro e w' ⟨rfl, rfl⟩; rw [hp])
        go_ret
        exact ⟨by rw [pnameB, end_false hlt (by simp [okPath, hp])]; rfl, rfl⟩
    · have he : k = s.size := by omega
      subst he
      cases hb : inB s.size 1 12 with
      | false =>
        go_wp2_with (go_at_call 113; refine (in_c _ _ _ _).mono ?_; rintro e w' ⟨rfl, rfl⟩; rw [hb])
        go_ret
        exact ⟨by rw [pnameB, hb]; simp, rfl⟩
      | true =>
        go_wp2_with (go_at_call 113; refine (in_c _ _ _ _).mono ?_; rintro e w' ⟨rfl, rfl⟩; rw [hb])
        · have hd : s.toList = [46] := by assumption
          go_ret
          exact ⟨by simp [pnameB, hd], rfl⟩
        · go_ret
          exact ⟨by rw [pnameB, hh.out, hb]; simp, rfl⟩

theorem pname_out {s : ByteArray} (h : s.size = 0 ∨ 12 < s.size) : pnameB s = false := by
  have : inB s.size 1 12 = false := by
    simp only [inB, Bool.and_eq_false_iff, decide_eq_false_iff_not]
    omega
  rw [pnameB, this]; simp
theorem pname_in {s : ByteArray} (h0 : 0 < s.size) (h1 : s.size ≤ 12) (h2 : (s.toList == [46]) = false) (h3 : (s.toList == [46, 46]) = false) (h : allUpto okPath s s.size = true) : pnameB s = true := by
  have : inB s.size 1 12 = true := by
    simp only [inB, Bool.and_eq_true, decide_eq_true_eq]
    omega
  rw [pnameB, this, h, h2, h3]; rfl

set_option maxHeartbeats 1000000 in
theorem implPname_c (s : ByteArray) (hs : s.size ≤ maxLen) (w : World) :
    Calls Try.prog 93 #[.string s] w fun e w' => e = .returned (.bool (pnameB s)) ∧ w = w' := by
  unfold maxLen at hs
  by_cases h0 : s.size = 0
  · have h0' : ((s.size : Int) == 0) = true := by rw [beq_iff_eq]; omega
    rw [pname_out (.inl h0)]
    clear h0
    go_enter Try.func93, Try.ntmps93
    go_wp2
    go_ret
    exact ⟨rfl, rfl⟩
  have h0' := size_ne h0
  by_cases h1 : 12 < s.size
  · have h1' : (12 : Int) < (s.size : Int) := by omega
    rw [pname_out (.inr h1)]
    clear h0 h1
    go_enter Try.func93, Try.ntmps93
    go_wp2
    go_ret
    exact ⟨rfl, rfl⟩
  have h1' : ¬ (12 : Int) < (s.size : Int) := by omega
  cases h2 : (s.toList == [46]) with
  | true =>
    have hb : pnameB s = false := by rw [pnameB, h2]; simp
    rw [hb]
    clear h0 h1 hb
    go_enter Try.func93, Try.ntmps93
    go_wp2
    go_ret
    exact ⟨rfl, rfl⟩
  | false =>
    cases h3 : (s.toList == [46, 46]) with
    | true =>
      have hb : pnameB s = false := by rw [pnameB, h3]; simp
      rw [hb]
      clear h0 h1 hb
      go_enter Try.func93, Try.ntmps93
      go_wp2
      go_ret
      exact ⟨rfl, rfl⟩
    | false =>
      have HI : Hid (0 < s.size ∧ s.size ≤ 12) := ⟨by omega, by omega⟩
      clear h0 h1
      go_enter Try.func93, Try.ntmps93
      go_wp2
      go_loop [22] (fun vi => ∃ k : Nat, k ≤ s.size ∧ vi = .int .i64 (k : Int) ∧ Hid (allUpto okPath s k = true)) (fun vi => s.size - (intOf vi).toNat)
      case atStart => exact ⟨0, Nat.zero_le _, rfl, rfl⟩
      case round =>
        obtain ⟨k, hk, rfl, hh⟩ := hrel
        by_cases hlt : k < s.size
        · have hki : (k : Int) < (s.size : Int) := by omega
          cases hp : pathC ((s[k]).toNat : Int) with
          | true =>
            go_wp2_with (go_at_call 110; refine (isPath_c _ _).mono ?_; rintro e w' ⟨rfl, rfl⟩; rw [hp])
            go_round
            case rel => exact ⟨k + 1, by omega, by go_num, step_true hlt hh (by simp [okPath, hp])⟩
            case measure => simp [intOf]; omega
          | false =>
            go_wp2_with (go_at_call 110; refine (isPath_c _ _).mono ?_; rintro e w' ⟨rfl, rfl⟩; rw [hp])
            go_ret
            exact ⟨by rw [pnameB, end_false hlt (by simp [okPath, hp])]; rfl, rfl⟩
        · have he : k = s.size := by omega
          subst he
          go_wp2
          go_ret
          exact ⟨by rw [pname_in HI.out.1 HI.out.2 h2 h3 hh.out]; rfl, rfl⟩

end Go.Proofs.Ytlnofdlhjeomfaa
