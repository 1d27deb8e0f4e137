/-
  What the specification's NumText answers: the digits of the number, of 0 where it is below 0; no condition.
-/
import Derived.Test.YtbolphjigjpmiaaDoorBytes
import Derived.Laws.BytesArg
import Derived.Sort.Grow
import Derived.Lib.AppendIntMem
namespace Go.Proofs.YtbolphjigjpmiaaDoor
open Go.RowKit
set_option linter.unusedSimpArgs false
set_option linter.unusedVariables false

def numStr (n : Nat) : ByteArray := ⟨(Lib.decDigits n).toArray⟩

theorem conv_digit {w : World} (x : Int) : (convert 43 9 (.slice (some ⟨w.heap.size, 0, none⟩) 1 1)).run Tryd.prog (w.alloc (.cells #[.int .u8 x] 5)) = .ok (.string (strOfNums [x])) (w.alloc (.cells #[.int .u8 x] 5)) := by
  refine run_convert_bytes_arg _ 43 5 Tryd.underlying43 Tryd.underlying5 _ 0 1 1 [x] rfl (fun i hi => ?_) 9 Tryd.underlying9
  have : i = 0 := by omega
  subst this
  simp

/-- What is told already, and what is left. -/
def DigitsLeft (N m : Nat) (s : ByteArray) : Prop := Lib.decDigits N = (if m < 10 then [] else Lib.decDigits (m / 10)) ++ s.data.toList

theorem digit_list (m : Nat) : (strOfNums [48 + (m : Int) % 10]).data.toList = [UInt8.ofNat (48 + m % 10)] := by
  rw [strOfNums_data]
  show [UInt8.ofNat (48 + (m : Int) % 10).toNat] = _
  have e : (48 + (m : Int) % 10).toNat = 48 + m % 10 := by omega
  rw [e]
theorem digits_start (N : Nat) : DigitsLeft N N (strOfNums [48 + (N : Int) % 10]) := by
  unfold DigitsLeft
  rw [digit_list]
  by_cases h : N < 10
  · rw [if_pos h, Lib.decDigits, dif_pos h, Nat.mod_eq_of_lt h]; rfl
  · rw [if_neg h, Lib.decDigits, dif_neg h]
theorem digits_step {N m : Nat} {s : ByteArray} (hm : ¬ m < 10) (h : DigitsLeft N m s) : DigitsLeft N (m / 10) (strOfNums [48 + ((m / 10 : Nat) : Int) % 10] ++ s) := by
  unfold DigitsLeft at *
  rw [h, if_neg hm, ByteArray.data_append, Array.toList_append, digit_list, ← List.append_assoc]
  congr 1
  by_cases h2 : m / 10 < 10
  · rw [if_pos h2, Lib.decDigits, dif_pos h2, Nat.mod_eq_of_lt h2]; rfl
  · rw [if_neg h2]
    conv => lhs; rw [Lib.decDigits, dif_neg h2]
theorem digits_end {N m : Nat} {s : ByteArray} (hm : m < 10) (h : DigitsLeft N m s) : s = numStr N := by
  unfold DigitsLeft at h
  rw [if_pos hm, List.nil_append] at h
  apply ByteArray.ext
  apply Array.toList_inj.1
  rw [← h, numStr]

set_option maxHeartbeats 1000000 in
set_option maxRecDepth 100000 in
theorem specNumText_pos (N : Nat) (w : World) (hN : N ≤ 9223372036854775807) :
    Calls Tryd.prog 29 #[.int .i64 (N : Int)] w fun e w' => e = .returned (.string (numStr N)) ∧ Below w.heap.size w w' := by
  have h0 : ¬ ((N : Int) < 0) := by omega
  have hcv0 := conv_digit (w := w) (48 + (N : Int) % 10)
  go_enter Tryd.func29, Tryd.ntmps29
  go_wp2
  go_loopw [0, 3] (fun vm vs wr => ∃ (m : Nat) (s : ByteArray), vm = .int .i64 (m : Int) ∧ vs = .string s ∧ m ≤ N ∧ s.size + m ≤ N + 1 ∧ Hid (DigitsLeft N m s) ∧ Below w.heap.size w wr) (fun vm _ _ => (intOf vm).toNat)
  case atStart => exact ⟨N, _, rfl, rfl, Nat.le_refl _, (by rw [strOfNums_size]; simp; omega), digits_start N, (Below.refl _ _).alloc (Nat.le_refl _) _⟩
  case round =>
    obtain ⟨m, s, rfl, rfl, hmN, hsz, hd, hbr⟩ := hrel
    clear hcv0
    by_cases hm : m < 10
    · have hm' : ¬ (9 : Int) < (m : Int) := by omega
      have e := digits_end hm hd.out
      go_wp2
      go_ret
      exact ⟨by rw [← e]; rfl, hbr⟩
    · have hm' : (9 : Int) < (m : Int) := by omega
      have hcv := conv_digit (w := wr) (48 + ((m / 10 : Nat) : Int) % 10)
      have ec : ((m / 10 : Nat) : Int) = (m : Int) / 10 := by omega
      rw [ec] at hcv
      have h1s : (strOfNums [48 + (m : Int) / 10 % 10]).size = 1 := strOfNums_size _
      have HD : Hid (DigitsLeft N (m / 10) (strOfNums [48 + (m : Int) / 10 % 10] ++ s)) := by
        have := digits_step hm hd.out
        rw [ec] at this
        exact this
      clear hd ec
      go_wp2
      go_roundw
      case rel => exact ⟨m / 10, _, by go_num, rfl, by omega, (by rw [ByteArray.size_append, h1s]; omega), HD, hbr.alloc hbr.size _⟩
      case measure => simp [intOf]; omega

set_option maxHeartbeats 1000000 in
set_option maxRecDepth 100000 in
theorem specNumText_neg (n : Int) (w : World) (hn : n < 0) :
    Calls Tryd.prog 29 #[.int .i64 n] w fun e w' => e = .returned (.string (numStr 0)) ∧ Below w.heap.size w w' := by
  have hcv0 := conv_digit (w := w) 48
  have HE : Hid (strOfNums [48] = numStr 0) := digits_end (m := 0) (by decide) (digits_start 0)
  go_enter Tryd.func29, Tryd.ntmps29
  go_wp2
  go_loopw [0, 3] (fun vm vs wr => vm = .int .i64 0 ∧ vs = .string (strOfNums [48]) ∧ wr = w.alloc (.cells #[.int .u8 48] 5)) (fun _ _ _ => 0)
  case atStart => exact ⟨rfl, rfl, rfl⟩
  case round =>
    obtain ⟨rfl, rfl, hwr⟩ := hrel
    subst hwr
    go_wp2
    go_ret
    exact ⟨by rw [← HE.out]; rfl, (Below.refl _ _).alloc (Nat.le_refl _) _⟩

theorem specNumText_c (n : Int) (w : World) (hn : n ≤ 9223372036854775807) :
    Calls Tryd.prog 29 #[.int .i64 n] w fun e w' => e = .returned (.string (numStr n.toNat)) ∧ Below w.heap.size w w' := by
  by_cases h : n < 0
  · rw [show n.toNat = 0 by omega]; exact specNumText_neg n w h
  · obtain ⟨N, rfl⟩ := Int.eq_ofNat_of_zero_le (show 0 ≤ n by omega)
    exact specNumText_pos N w (by omega)

theorem tabIs_below {w w' : World} {n : String} {k : IntKind} {zs : List Int} (b : Below w.heap.size w w') (h : Lib.TabIs Tryd.prog w n k zs) : Lib.TabIs Tryd.prog w' n k zs := Lib.tabBelow_of_tabIs h w' b

theorem below_grow (w : World) (k : Nat) (os : Array Obj) : Below w.heap.size w (Sort.grow (w.drewN k) os) :=
  ⟨rfl, rfl, rfl, by rw [Sort.size_grow]; exact Nat.le_add_right _ _, fun j hj => Sort.heap_grow_old _ _ hj⟩

end Go.Proofs.YtbolphjigjpmiaaDoor
