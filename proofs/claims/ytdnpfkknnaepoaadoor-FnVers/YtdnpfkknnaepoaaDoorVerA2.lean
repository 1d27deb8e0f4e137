/-
  What the specification's look at one text of a Pre answers: a contract for the walks; condition: the string is no longer than an int can count.
-/
import Derived.Test.YtdnpfkknnaepoaaDoorVerA
namespace Go.Proofs.YtdnpfkknnaepoaaDoor
open Go.RowKit
set_option linter.unusedSimpArgs false
set_option linter.unusedVariables false

theorem pre_none {c : Int} (k : Nat) (h1 : ¬ digitB c = true) (h2 : ¬ smallB c = true) (h3 : ¬ inB c 65 90 = true) (h4 : (c != 45) = true) : okPre k c = false := by
  have h5 : (c == 45) = false := by simpa using h4
  simp only [okPre, preB, h1, h2, h3, h5]; rfl

set_option maxHeartbeats 2000000 in
theorem specPart_c (s : ByteArray) (hs : s.size ≤ maxLen) (w : World) :
    Calls Tryd.prog 44 #[.string s] w fun e w' => e = .returned (.bool (partB s)) ∧ w = w' := by
  have hs0 := hs
  unfold maxLen at hs
  go_enter Tryd.func44, Tryd.ntmps44
  go_wp2
  go_loop [3] (fun vi => ∃ k : Nat, k ≤ s.size ∧ vi = .int .i64 (k : Int) ∧ Hid (allUpto okPre s k = true)) (fun vi => s.size - (intOf vi).toNat)
  case atStart => exact ⟨0, Nat.zero_le _, rfl, rfl⟩
  case round =>
    obtain ⟨k, hk, rfl, hh⟩ := hrel
    by_cases hlt : k < s.size
    · have hwb := wrap_byte s[k]
      go_wp2_with (first
        | (go_at_call 83; refine (small_c _ (byte0 _) (byte255 _) _).mono ?_; rintro e w' ⟨rfl, rfl⟩)
        | (go_at_call 77; refine (digit_c _ (byte0 _) (byte255 _) _).mono ?_; rintro e w' ⟨rfl, rfl⟩)
        | (go_at_call 45; refine (in_c _ _ _ _).mono ?_; rintro e w' ⟨rfl, rfl⟩))
      · have h1 : digitB ((s[k]).toNat : Int) = true := by assumption
        go_round
        case rel => exact ⟨k + 1, by omega, by go_num, step_true hlt hh (pre_1 _ h1)⟩
        case measure => simp [intOf]; omega
      · have h1 : smallB ((s[k]).toNat : Int) = true := by assumption
        go_round
        case rel => exact ⟨k + 1, by omega, by go_num, step_true hlt hh (pre_2 _ h1)⟩
        case measure => simp [intOf]; omega
      · have h1 : inB ((s[k]).toNat : Int) 65 90 = true := by assumption
        go_round
        case rel => exact ⟨k + 1, by omega, by go_num, step_true hlt hh (pre_3 _ h1)⟩
        case measure => simp [intOf]; omega
      · have h1 : ¬ digitB ((s[k]).toNat : Int) = true := by assumption
        have h2 : ¬ smallB ((s[k]).toNat : Int) = true := by assumption
        have h3 : ¬ inB ((s[k]).toNat : Int) 65 90 = true := by assumption
        have h4 : (((s[k]).toNat : Int) != 45) = true := by assumption
        go_ret
        exact ⟨ret_bool (partB_bad (end_false hlt (pre_none _ h1 h2 h3 h4))).symm, rfl⟩
      · have h1 : (((s[k]).toNat : Int) != 45) = false := by assumption
        go_round
        case rel => exact ⟨k + 1, by omega, by go_num, step_true hlt hh (pre_4 _ h1)⟩
        case measure => simp [intOf]; omega
    · have he : k = s.size := by omega
      subst he
      have HA : Hid (allUpto okPre s s.size = true) := hh
      clear hh
      by_cases h0 : s.size = 0
      · have e1 : inB (s.size : Int) 1 8 = false := by simp [inB]; omega
        go_wp2_with (go_at_call 45; refine (in_c _ _ _ _).mono ?_; rintro e w' ⟨rfl, rfl⟩)
        go_ret
        exact ⟨ret_bool (partB_out (.inl h0)).symm, rfl⟩
      · have hp : 0 < s.size := by omega
        have hpi : (0 : Int) < (s.size : Int) := by omega
        have HF : Hid (firstB s = (((s[0]).toNat : Int) == 48)) := firstB_eq hp
        by_cases h8 : 8 < s.size
        · have e1 : inB (s.size : Int) 1 8 = false := by simp [inB]; omega
          go_wp2_with (go_at_call 45; refine (in_c _ _ _ _).mono ?_; rintro e w' ⟨rfl, rfl⟩)
          go_ret
          exact ⟨ret_bool (partB_out (.inr h8)).symm, rfl⟩
        · have e1 : inB (s.size : Int) 1 8 = true := by simp [inB]; omega
          cases hd : digitsB s with
          | false =>
            go_wp2_with (first
              | (go_at_call 45; refine (in_c _ _ _ _).mono ?_; rintro e w' ⟨rfl, rfl⟩)
              | (go_at_call 84; refine (specDigits_c s hs0 _).mono ?_; rintro e w' ⟨rfl, rfl⟩))
            go_ret
            exact ⟨ret_bool (by rw [partB_in hp (by omega) HA.out, hd]; rfl), rfl⟩
          | true =>
            by_cases h1 : s.size = 1
            · have h1' : ((s.size : Int) == 1) = true := by simp [h1]
              go_wp2_with (first
                | (go_at_call 45; refine (in_c _ _ _ _).mono ?_; rintro e w' ⟨rfl, rfl⟩)
                | (go_at_call 84; refine (specDigits_c s hs0 _).mono ?_; rintro e w' ⟨rfl, rfl⟩))
              go_ret
              exact ⟨ret_bool (by rw [partB_in hp (by omega) HA.out, hd]; simp [h1]), rfl⟩
            · have h1' : ((s.size : Int) == 1) = false := by rw [beq_eq_false_iff_ne]; omega
              go_wp2_with (first
                | (go_at_call 45; refine (in_c _ _ _ _).mono ?_; rintro e w' ⟨rfl, rfl⟩)
                | (go_at_call 84; refine (specDigits_c s hs0 _).mono ?_; rintro e w' ⟨rfl, rfl⟩))
              go_ret
              exact ⟨ret_bool (by rw [partB_in hp (by omega) HA.out, hd, HF.out]; simp [h1, bne]), rfl⟩
end Go.Proofs.YtdnpfkknnaepoaaDoor
