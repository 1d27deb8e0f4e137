/-
  Which texts a value may hold: the specification's test and the program's, over every text; no condition.
-/
import Derived.Test.YtbolphjigjpmiaaDoorTreeEq
namespace Go.Proofs.YtbolphjigjpmiaaDoor
open Go.RowKit
set_option linter.unusedSimpArgs false
set_option linter.unusedVariables false

def okText (_ : Nat) (c : Int) : Bool := plainB c || c == 9 || c == 10
def textB (s : ByteArray) : Bool := allUpto okText s s.size && decide ((s.size : Int) ≤ 60)

set_option maxHeartbeats 1000000 in
theorem isValByte_c (c : Int) (w : World) :
    Calls Tryd.prog 41 #[.int .u8 c] w fun e w' => e = .returned (.bool (okText 0 c)) ∧ w = w' := by
  by_cases h1 : plainB c = true
  · go_enter Tryd.func41, Tryd.ntmps41
    go_wp2_with (go_at_call 44; refine (isPlain_c _ _).mono ?_; rintro e w' ⟨rfl, rfl⟩; rw [h1])
    go_ret
    exact ⟨by rw [okText, h1]; rfl, rfl⟩
  · have h2 : plainB c = false := by simpa using h1
    by_cases h9 : c = 9
    · subst h9
      go_enter Tryd.func41, Tryd.ntmps41
      go_wp2_with (go_at_call 44; refine (isPlain_c _ _).mono ?_; rintro e w' ⟨rfl, rfl⟩; rw [h2])
      go_ret
      exact ⟨rfl, rfl⟩
    · have h9' : (c == 9) = false := by simpa using h9
      go_enter Tryd.func41, Tryd.ntmps41
      go_wp2_with (go_at_call 44; refine (isPlain_c _ _).mono ?_; rintro e w' ⟨rfl, rfl⟩; rw [h2])
      go_ret
      exact ⟨by rw [okText, h2, h9']; rfl, rfl⟩

set_option maxHeartbeats 1000000 in
theorem specText_c (s : ByteArray) (hs : s.size ≤ maxLen) (w : World) :
    Calls Tryd.prog 38 #[.string s] w fun e w' => e = .returned (.bool (textB s)) ∧ w = w' := by
  unfold maxLen at hs
  go_enter Tryd.func38, Tryd.ntmps38
  go_wp2
  go_loop [3] (fun vi => ∃ k : Nat, k ≤ s.size ∧ vi = .int .i64 (k : Int) ∧ Hid (allUpto okText s k = true)) (fun vi => s.size - (intOf vi).toNat)
  case atStart => exact ⟨0, Nat.zero_le _, rfl, rfl⟩
  case round =>
    obtain ⟨k, hk, rfl, hh⟩ := hrel
    by_cases hlt : k < s.size
    · have hw := wrap_byte s[k]
      have hp : ∀ x : Int, inB x 32 126 = plainB x := fun _ => rfl
      by_cases h0 : okText k ((s[k]).toNat : Int) = true
      · have hg : Hid (allUpto okText s (k + 1) = true) := step_true hlt hh h0
        have HB : Hid (okText k ((s[k]).toNat : Int) = true) := h0
        clear h0
        go_wp2_with (go_at_call 39; refine (in_c _ _ _ _).mono ?_; rintro e w' ⟨rfl, rfl⟩; rw [hp])
        · go_round
          case rel => exact ⟨k + 1, by omega, by go_num, hg⟩
          case measure => simp [intOf]; omega
        · go_round
          case rel => exact ⟨k + 1, by omega, by go_num, hg⟩
          case measure => simp [intOf]; omega
        · exfalso
          have := HB.out
          simp_all [okText]
        · go_round
          case rel => exact ⟨k + 1, by omega, by go_num, hg⟩
          case measure => simp [intOf]; omega
      · have HB0 : okText k ((s[k]).toNat : Int) = false := by simpa using h0
        have HB : Hid (okText k ((s[k]).toNat : Int) = false) := HB0
        clear HB0
        clear h0
        go_wp2_with (go_at_call 39; refine (in_c _ _ _ _).mono ?_; rintro e w' ⟨rfl, rfl⟩; rw [hp])
        · exfalso
          have := HB.out
          simp_all [okText]
        · exfalso
          have := HB.out
          simp_all [okText]
        · go_ret
          exact ⟨by rw [textB, end_false hlt HB.out]; rfl, rfl⟩
        · exfalso
          have := HB.out
          simp_all [okText]
    · have he : k = s.size := by omega
      subst he
      go_wp2_with fail
      go_ret
      exact ⟨by rw [textB, hh.out]; rfl, rfl⟩

set_option maxHeartbeats 1000000 in
theorem implText_c (s : ByteArray) (hs : s.size ≤ maxLen) (w : World) :
    Calls Tryd.prog 33 #[.string s] w fun e w' => e = .returned (.bool (textB s)) ∧ w = w' := by
  unfold maxLen at hs
  by_cases hm : 60 < (s.size : Int)
  · have e : textB s = false := by
      have : decide ((s.size : Int) ≤ 60) = false := by simp; omega
      rw [textB, this, Bool.and_false]
    rw [e]
    go_enter Tryd.func33, Tryd.ntmps33
    go_wp2_with fail
    go_ret
    exact ⟨rfl, rfl⟩
  go_enter Tryd.func33, Tryd.ntmps33
  go_wp2_with fail
  go_loop [9] (fun vi => ∃ k : Nat, k ≤ s.size ∧ vi = .int .i64 (k : Int) ∧ Hid (allUpto okText s k = true)) (fun vi => s.size - (intOf vi).toNat)
  case atStart => exact ⟨0, Nat.zero_le _, rfl, rfl⟩
  case round =>
    obtain ⟨k, hk, rfl, hh⟩ := hrel
    go_wp2_with (go_at_call 41; refine (isValByte_c _ _).mono ?_; rintro e w' ⟨rfl, rfl⟩)
    · have hlt : k < s.size := by assumption
      have h1 : (!okText 0 ((s[k]).toNat : Int)) = true := by assumption
      have h2 : okText 0 ((s[k]).toNat : Int) = false := by simpa using h1
      go_ret
      exact ⟨by rw [textB, end_false hlt h2]; rfl, rfl⟩
    · have hlt : k < s.size := by assumption
      have h1 : (!okText 0 ((s[k]).toNat : Int)) = false := by assumption
      have h2 : okText 0 ((s[k]).toNat : Int) = true := by simpa using h1
      go_round
      case rel => exact ⟨k + 1, by omega, by go_num, step_true hlt hh h2⟩
      case measure => simp [intOf]; omega
    · have he : k = s.size := by omega
      subst he
      have e : decide ((s.size : Int) ≤ 60) = true := by simp; omega
      go_ret
      exact ⟨by rw [textB, hh.out, e]; rfl, rfl⟩
#print axioms implText_c
end Go.Proofs.YtbolphjigjpmiaaDoor
