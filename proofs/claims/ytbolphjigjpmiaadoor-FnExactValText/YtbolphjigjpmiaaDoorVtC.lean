/-
  A text within quotes, and a number, as the specification tells them: contracts for the walks; conditions: the text holds at most 2 to the 20; the number is within a million.
-/
import Derived.Test.YtbolphjigjpmiaaDoorTxtA
import Derived.Test.YtbolphjigjpmiaaDoorRow
namespace Go.Proofs.YtbolphjigjpmiaaDoor
open Go.RowKit
set_option linter.unusedSimpArgs false
set_option linter.unusedVariables false

theorem quote_step2 (s : ByteArray) (k : Nat) (h : k < s.size) : quoteUpto s (k + 1) = quoteUpto s k ++ escOf s[k] := by
  show quoteUpto s k ++ escOf s.data[k]! = _
  rw [byteBang s k h]
theorem esc_of {u : UInt8} {c : Nat} {x : UInt8} (h : (u.toNat : Int) = (c : Int)) (hc : c < 256) (hx : x = UInt8.ofNat c) : u = x := by
  subst hx
  apply UInt8.toNat_inj.1
  rw [UInt8.toNat_ofNat']
  omega

set_option maxHeartbeats 4000000 in
set_option maxRecDepth 100000 in
theorem quote_c (s : ByteArray) (w : World) (hs : s.size ≤ 1048576) :
    Calls Tryd.prog 21 #[.string s] w fun e w' => e = .returned (.string (quoteS s)) ∧ w = w' := by
  obtain ⟨R, hR⟩ : ∃ R, R = quoteS s := ⟨_, rfl⟩
  rw [← hR]
  have HR := hidden hR
  clear hR
  go_enter Tryd.func21, Tryd.ntmps21
  go_wp2_with fail
  go_loopw [3, 4] (fun vx vi wr => ∃ (k : Nat) (Z : ByteArray), k ≤ s.size ∧ vi = .int .i64 (k : Int) ∧ vx = .string Z ∧ Hid (Z = quoteUpto s k) ∧ wr = w) (fun _ vi _ => s.size - (intOf vi).toNat)
  case atStart => exact ⟨0, _, Nat.zero_le _, rfl, rfl, rfl, rfl⟩
  case round =>
    obtain ⟨k, Z, hk, rfl, rfl, hZ, rfl⟩ := hrel
    have hzs : Z.size ≤ 1 + 2 * k := by rw [hZ.out]; exact quoteUpto_size s k
    by_cases hlt : k < s.size
    · have hki : (k : Int) < (s.size : Int) := by omega
      have HST : Hid (quoteUpto s (k + 1) = Z ++ escOf s[k]) := by show _ = _; rw [quote_step2 s k hlt, hZ.out]
      have hwb := wrap_byte s[k]
      by_cases h34 : ((s[k]).toNat : Int) = 34
      · have HE : Hid (escOf s[k] = ⟨#[92, 34]⟩) := by show _ = _; rw [esc_of (c := 34) (x := 34) h34 (by omega) rfl]; rfl
        go_wp2_with fail
        go_roundw
        case rel => exact ⟨k + 1, _, by omega, by go_num, rfl, (by show _ = _; rw [HST.out, HE.out]), by first | rfl | trivial⟩
        case measure => simp [intOf]; omega
      by_cases h92 : ((s[k]).toNat : Int) = 92
      · have HE : Hid (escOf s[k] = ⟨#[92, 92]⟩) := by show _ = _; rw [esc_of (c := 92) (x := 92) h92 (by omega) rfl]; rfl
        go_wp2_with fail
        go_roundw
        case rel => exact ⟨k + 1, _, by omega, by go_num, rfl, (by show _ = _; rw [HST.out, HE.out]), by first | rfl | trivial⟩
        case measure => simp [intOf]; omega
      by_cases h10 : ((s[k]).toNat : Int) = 10
      · have HE : Hid (escOf s[k] = ⟨#[92, 110]⟩) := by show _ = _; rw [esc_of (c := 10) (x := 10) h10 (by omega) rfl]; rfl
        go_wp2_with fail
        go_roundw
        case rel => exact ⟨k + 1, _, by omega, by go_num, rfl, (by show _ = _; rw [HST.out, HE.out]), by first | rfl | trivial⟩
        case measure => simp [intOf]; omega
      by_cases h9 : ((s[k]).toNat : Int) = 9
      · have HE : Hid (escOf s[k] = ⟨#[92, 116]⟩) := by show _ = _; rw [esc_of (c := 9) (x := 9) h9 (by omega) rfl]; rfl
        go_wp2_with fail
        go_roundw
        case rel => exact ⟨k + 1, _, by omega, by go_num, rfl, (by show _ = _; rw [HST.out, HE.out]), by first | rfl | trivial⟩
        case measure => simp [intOf]; omega
      · have HE : Hid (escOf s[k] = ⟨#[s[k]]⟩) := by
          show _ = _
          unfold escOf
          rw [if_neg (by rintro h; rw [h] at h34; exact h34 rfl), if_neg (by rintro h; rw [h] at h92; exact h92 rfl), if_neg (by rintro h; rw [h] at h10; exact h10 rfl), if_neg (by rintro h; rw [h] at h9; exact h9 rfl)]
        have HX : Hid (s.extract k (k + 1) = ⟨#[s[k]]⟩) := by
          show _ = _
          apply ByteArray.ext
          rw [ByteArray.data_extract]
          apply Array.ext
          · simp; omega
          · intro i h1 h2
            simp at h2
            subst h2
            simp
            rfl
        go_wp2_with fail
        go_roundw
        case rel => exact ⟨k + 1, _, by omega, by go_num, rfl, (by show _ = _; rw [HST.out, HE.out, ← HX.out]), by first | rfl | trivial⟩
        case measure => simp [intOf]; omega
    · have he : k = s.size := by omega
      subst he
      have HE : Hid (R = Z ++ ⟨#[34]⟩) := by show _ = _; rw [HR.out, quoteS, hZ.out]
      clear HR
      go_wp2_with fail
      go_ret
      exact ⟨by rw [HE.out]; rfl, rfl⟩
end Go.Proofs.YtbolphjigjpmiaaDoor
