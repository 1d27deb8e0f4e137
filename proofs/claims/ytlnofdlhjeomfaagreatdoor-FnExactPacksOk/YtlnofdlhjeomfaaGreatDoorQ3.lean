/-
  Contracts for the walks, several texts in one: each part says what it proves, and under which conditions.
-/
import Derived.Lib.OthersKept
import Derived.Laws.RangeAny
import Derived.BigQuiet
import Derived.Deep.QuietTactic
import Derived.Lib.Strings
import Derived.Lib.IndexLaws
import Derived.WalkSpells
import Derived.Maps.AppendAt
import Derived.Shelf.Small.Utf8
import Derived.Shelf.Small.Bits
import Derived.Shelf.Small.Strs
import Derived.Shelf.Utf8.RuneCount
import Derived.Shelf.Strconv.Itoa0
import Derived.Shelf.Strconv.Itoa1
import Derived.Shelf.LaysM
import Derived.Shelf.Strconv.Itoa2
import Derived.Shelf.Strconv.Itoa3
import Derived.Shelf.Strconv.Clone
import Derived.Shelf.Strings.Search1
import Derived.Shelf.Strings.Search2
import Derived.Shelf.Strings.Search3
import Derived.Shelf.Strings.Count
import Derived.Shelf.Strings.Shaped
import Derived.Shelf.Strings.Split
import Derived.Shelf.Strings.SplitShaped
import Derived.Shelf.Unicode.Decode
import Derived.Shelf.Strings.Runes
import Derived.Shelf.Strings.RuneCount
import Derived.Shelf.Strings.AsciiSet
import Derived.Shelf.Strings.Explode
import Derived.Shelf.Unicode.DecodeSlow
import Derived.Shelf.Unicode.DecodeAny
import Derived.Shelf.Unicode.DecodeLast
import Derived.Test.YtlnofdlhjeomfaaGreatDoorProg
import Derived.Test.YtlnofdlhjeomfaaGreatDoorQ2
import Derived.Test.YtlnofdlhjeomfaaGreatDoorQ1

/-! What the functions that look at one text of a Pre answer (the program's and the specification's): contracts for the walks; condition: a string is no longer than an int can count. -/
namespace Go.Proofs.YtlnofdlhjeomfaaGreatDoor
open Go.RowKit
set_option linter.unusedSimpArgs false
set_option linter.unusedVariables false

def preB (c : Int) : Bool := smallB c || inB c 65 90 || digitB c || c == 45
def okPre (_ : Nat) (c : Int) : Bool := preB c
def digitsB (s : ByteArray) : Bool := allUpto okDigit s s.size
def firstB (s : ByteArray) : Bool := ((s.data[0]!).toNat : Int) == 48
def partB (s : ByteArray) : Bool := allUpto okPre s s.size && inB s.size 1 8 && (!digitsB s || decide (s.size = 1) || !firstB s)

theorem ret_bool {a b : Bool} (h : a = b) : Ending.returned (.bool a) = .returned (.bool b) := by rw [h]

theorem isPreSign_c (c : Int) (w : World) :
    Calls Tryz.prog 256 #[.int .i32 c] w fun e w' => e = .returned (.bool (preB c)) ∧ w = w' := by
  go_enter Tryz.func256, Tryz.ntmps256
  go_wp2
  all_goals (go_ret; refine ⟨ret_bool ?_, rfl⟩)
  all_goals (rw [Bool.eq_iff_iff]; simp [preB, smallB, inB, digitB]; try omega)

set_option maxHeartbeats 1000000 in
theorem specDigits_c (s : ByteArray) (hs : s.size ≤ maxLen) (w : World) :
    Calls Tryz.prog 236 #[.string s] w fun e w' => e = .returned (.bool (digitsB s)) ∧ w = w' := by
  unfold maxLen at hs
  go_enter Tryz.func236, Tryz.ntmps236
  go_wp2
  go_loop [3] (fun vi => ∃ k : Nat, k ≤ s.size ∧ vi = .int .i64 (k : Int) ∧ Hid (allUpto okDigit s k = true)) (fun vi => s.size - (intOf vi).toNat)
  case atStart => exact ⟨0, Nat.zero_le _, rfl, rfl⟩
  case round =>
    obtain ⟨k, hk, rfl, hh⟩ := hrel
    go_wp2_with (go_at_call 96; refine (digit_c _ (byte0 _) (byte255 _) _).mono ?_; rintro e w' ⟨rfl, rfl⟩)
    · have hlt : k < s.size := by assumption
      have h1 : (!digitB ((s[k]).toNat : Int)) = true := by assumption
      go_ret
      exact ⟨by rw [digitsB, end_false hlt (by simpa [okDigit] using h1)]; rfl, rfl⟩
    · have hlt : k < s.size := by assumption
      have h1 : (!digitB ((s[k]).toNat : Int)) = false := by assumption
      go_round
      case rel => exact ⟨k + 1, by omega, by go_num, step_true hlt hh (by simpa [okDigit] using h1)⟩
      case measure => simp [intOf]; omega
    · have he : k = s.size := by omega
      subst he
      go_ret
      exact ⟨by rw [digitsB, hh.out]; rfl, rfl⟩

set_option maxHeartbeats 1000000 in
theorem implDigits_c (s : ByteArray) (hs : s.size ≤ maxLen) (w : World) :
    Calls Tryz.prog 258 #[.string s] w fun e w' => e = .returned (.bool (digitsB s)) ∧ w = w' := by
  unfold maxLen at hs
  go_enter Tryz.func258, Tryz.ntmps258
  go_wp2
  go_loop [6] (fun vi => ∃ k : Nat, k ≤ s.size ∧ vi = .int .i64 (k : Int) ∧ Hid (allUpto okDigit s k = true)) (fun vi => s.size - (intOf vi).toNat)
  case atStart => exact ⟨0, Nat.zero_le _, rfl, rfl⟩
  case round =>
    obtain ⟨k, hk, rfl, hh⟩ := hrel
    go_wp2_with (go_at_call 104; refine (isDigit_c _ _).mono ?_; rintro e w' ⟨rfl, rfl⟩)
    · have hlt : k < s.size := by assumption
      have h1 : (!digitB ((s[k]).toNat : Int)) = true := by assumption
      go_ret
      exact ⟨by rw [digitsB, end_false hlt (by simpa [okDigit] using h1)]; rfl, rfl⟩
    · have hlt : k < s.size := by assumption
      have h1 : (!digitB ((s[k]).toNat : Int)) = false := by assumption
      go_round
      case rel => exact ⟨k + 1, by omega, by go_num, step_true hlt hh (by simpa [okDigit] using h1)⟩
      case measure => simp [intOf]; omega
    · have he : k = s.size := by omega
      subst he
      go_ret
      exact ⟨by rw [digitsB, hh.out]; rfl, rfl⟩

theorem pre_high {c : Int} (h : 128 ≤ c) : preB c = false := by
  rw [Bool.eq_false_iff]; simp [preB, smallB, inB, digitB]; omega

theorem partB_out {s : ByteArray} (h : s.size = 0 ∨ 8 < s.size) : partB s = false := by
  have : inB s.size 1 8 = false := by
    simp only [inB, Bool.and_eq_false_iff, decide_eq_false_iff_not]
    omega
  rw [partB, this, Bool.and_false, Bool.false_and]
theorem partB_bad {s : ByteArray} (h : allUpto okPre s s.size = false) : partB s = false := by rw [partB, h]; rfl
theorem partB_in {s : ByteArray} (h0 : 0 < s.size) (h1 : s.size ≤ 8) (h : allUpto okPre s s.size = true) : partB s = (!digitsB s || decide (s.size = 1) || !firstB s) := by
  have : inB s.size 1 8 = true := by
    simp only [inB, Bool.and_eq_true, decide_eq_true_eq]
    omega
  rw [partB, this, h]; rfl
theorem firstB_eq {s : ByteArray} (h0 : 0 < s.size) : firstB s = (((s[0]).toNat : Int) == 48) := by rw [firstB, byteBang s 0 h0]

theorem pre_1 {c : Int} (k : Nat) (h : digitB c = true) : okPre k c = true := by simp [okPre, preB, h]
theorem pre_2 {c : Int} (k : Nat) (h : smallB c = true) : okPre k c = true := by simp [okPre, preB, h]
theorem pre_3 {c : Int} (k : Nat) (h : inB c 65 90 = true) : okPre k c = true := by simp [okPre, preB, h]
theorem pre_4 {c : Int} (k : Nat) (h : (c != 45) = false) : okPre k c = true := by
  have : (c == 45) = true := by simpa using h
  simp only [okPre, preB, this, Bool.or_true]

end Go.Proofs.YtlnofdlhjeomfaaGreatDoor

/-! What the specification's look at one text of a Pre answers: a contract for the walks; condition: the string is no longer than an int can count. -/
namespace Go.Proofs.YtlnofdlhjeomfaaGreatDoor
open Go.RowKit
set_option linter.unusedSimpArgs false
set_option linter.unusedVariables false

theorem pre_none {c : Int} (k : Nat) (h1 : ¬ digitB c = true) (h2 : ¬ smallB c = true) (h3 : ¬ inB c 65 90 = true) (h4 : (c != 45) = true) : okPre k c = false := by
  have h5 : (c == 45) = false := by simpa using h4
  simp only [okPre, preB, h1, h2, h3, h5]; rfl

set_option maxHeartbeats 2000000 in
theorem specPart_c (s : ByteArray) (hs : s.size ≤ maxLen) (w : World) :
    Calls Tryz.prog 213 #[.string s] w fun e w' => e = .returned (.bool (partB s)) ∧ w = w' := by
  have hs0 := hs
  unfold maxLen at hs
  go_enter Tryz.func213, Tryz.ntmps213
  go_wp2
  go_loop [3] (fun vi => ∃ k : Nat, k ≤ s.size ∧ vi = .int .i64 (k : Int) ∧ Hid (allUpto okPre s k = true)) (fun vi => s.size - (intOf vi).toNat)
  case atStart => exact ⟨0, Nat.zero_le _, rfl, rfl⟩
  case round =>
    obtain ⟨k, hk, rfl, hh⟩ := hrel
    by_cases hlt : k < s.size
    · have hwb := wrap_byte s[k]
      go_wp2_with (first
        | (go_at_call 107; refine (small_c _ (byte0 _) (byte255 _) _).mono ?_; rintro e w' ⟨rfl, rfl⟩)
        | (go_at_call 96; refine (digit_c _ (byte0 _) (byte255 _) _).mono ?_; rintro e w' ⟨rfl, rfl⟩)
        | (go_at_call 93; refine (in_c _ _ _ _).mono ?_; rintro e w' ⟨rfl, rfl⟩))
      · have h1 : digitB ((s[k]).toNat : Int) = true := by assumption
        go_round
        case rel => exact ⟨k + 1, by omega, by go_num, step_true hlt hh (pre_1 _ h1)⟩
        case measure => simp [intOf]; omega
      · have h1 : smallB ((s[k]).toNat : Int) = true := by assumption
        go_round
        case rel => exact ⟨k + 1, by omega, by go_num, step_true hlt hh (pre_2 _ h1)⟩
        case measure => simp [intOf]; omega
      · have h1 : inB ((s[k]).toNat : Int) 65 90 = true := by assumption
        go_round
        case rel => exact ⟨k + 1, by omega, by go_num, step_true hlt hh (pre_3 _ h1)⟩
        case measure => simp [intOf]; omega
      · have h1 : ¬ digitB ((s[k]).toNat : Int) = true := by assumption
        have h2 : ¬ smallB ((s[k]).toNat : Int) = true := by assumption
        have h3 : ¬ inB ((s[k]).toNat : Int) 65 90 = true := by assumption
        have h4 : (((s[k]).toNat : Int) != 45) = true := by assumption
        go_ret
        exact ⟨ret_bool (partB_bad (end_false hlt (pre_none _ h1 h2 h3 h4))).symm, rfl⟩
      · have h1 : (((s[k]).toNat : Int) != 45) = false := by assumption
        go_round
        case rel => exact ⟨k + 1, by omega, by go_num, step_true hlt hh (pre_4 _ h1)⟩
        case measure => simp [intOf]; omega
    · have he : k = s.size := by omega
      subst he
      have HA : Hid (allUpto okPre s s.size = true) := hh
      clear hh
      by_cases h0 : s.size = 0
      · have e1 : inB (s.size : Int) 1 8 = false := by simp [inB]; omega
        go_wp2_with (go_at_call 93; refine (in_c _ _ _ _).mono ?_; rintro e w' ⟨rfl, rfl⟩)
        go_ret
        exact ⟨ret_bool (partB_out (.inl h0)).symm, rfl⟩
      · have hp : 0 < s.size := by omega
        have hpi : (0 : Int) < (s.size : Int) := by omega
        have HF : Hid (firstB s = (((s[0]).toNat : Int) == 48)) := firstB_eq hp
        by_cases h8 : 8 < s.size
        · have e1 : inB (s.size : Int) 1 8 = false := by simp [inB]; omega
          go_wp2_with (go_at_call 93; refine (in_c _ _ _ _).mono ?_; rintro e w' ⟨rfl, rfl⟩)
          go_ret
          exact ⟨ret_bool (partB_out (.inr h8)).symm, rfl⟩
        · have e1 : inB (s.size : Int) 1 8 = true := by simp [inB]; omega
          cases hd : digitsB s with
          | false =>
            go_wp2_with (first
              | (go_at_call 93; refine (in_c _ _ _ _).mono ?_; rintro e w' ⟨rfl, rfl⟩)
              | (go_at_call 236; refine (specDigits_c s hs0 _).mono ?_; rintro e w' ⟨rfl, rfl⟩))
            go_ret
            exact ⟨ret_bool (by rw [partB_in hp (by omega) HA.out, hd]; rfl), rfl⟩
          | true =>
            by_cases h1 : s.size = 1
            · have h1' : ((s.size : Int) == 1) = true := by simp [h1]
              go_wp2_with (first
                | (go_at_call 93; refine (in_c _ _ _ _).mono ?_; rintro e w' ⟨rfl, rfl⟩)
                | (go_at_call 236; refine (specDigits_c s hs0 _).mono ?_; rintro e w' ⟨rfl, rfl⟩))
              go_ret
              exact ⟨ret_bool (by rw [partB_in hp (by omega) HA.out, hd]; simp [h1]), rfl⟩
            · have h1' : ((s.size : Int) == 1) = false := by rw [beq_eq_false_iff_ne]; omega
              go_wp2_with (first
                | (go_at_call 93; refine (in_c _ _ _ _).mono ?_; rintro e w' ⟨rfl, rfl⟩)
                | (go_at_call 236; refine (specDigits_c s hs0 _).mono ?_; rintro e w' ⟨rfl, rfl⟩))
              go_ret
              exact ⟨ret_bool (by rw [partB_in hp (by omega) HA.out, hd, HF.out]; simp [h1, bne]), rfl⟩
end Go.Proofs.YtlnofdlhjeomfaaGreatDoor

/-! What the program's look at one text of a Pre answers (it goes over the text's runes): a contract for the walks; condition: the string is no longer than an int can count. -/
namespace Go.Proofs.YtlnofdlhjeomfaaGreatDoor
open Go.RowKit
set_option linter.unusedSimpArgs false
set_option linter.unusedVariables false

theorem iterPos_of {w : World} {k : Nat} {s : ByteArray} {p : Nat} (h : w.heap[k]? = some (.stringIter s p)) : w.iterPos k = p := by simp [World.iterPos, h]
theorem rune_high (s : ByteArray) (pos : Nat) (h : pos < s.size) (ha : 128 ≤ (s[pos]).toNat) : preB ((Utf8.decode s pos).1 : Int) = false := pre_high (by have := (decode_high s pos h ha).1; omega)
theorem byte_high (s : ByteArray) (pos : Nat) (h : pos < s.size) (ha : 128 ≤ (s[pos]).toNat) : preB ((s[pos]).toNat : Int) = false := pre_high (by omega)

set_option maxHeartbeats 2000000 in
set_option maxRecDepth 100000 in
theorem implPart_c (s : ByteArray) (hs : s.size ≤ maxLen) (w : World) :
    Calls Tryz.prog 248 #[.string s] w fun e w' => e = .returned (.bool (partB s)) ∧ Below w.heap.size w w' := by
  have hs0 := hs
  unfold maxLen at hs
  by_cases h0 : s.size = 0
  · have h0' : ((s.size : Int) == 0) = true := by simp [h0]
    go_enter Tryz.func248, Tryz.ntmps248
    go_wp2
    go_ret
    exact ⟨ret_bool (partB_out (.inl h0)).symm, Below.refl _ _⟩
  have h0' : ((s.size : Int) == 0) = false := size_ne h0
  by_cases h8 : 8 < s.size
  · have h8' : (8 : Int) < (s.size : Int) := by omega
    go_enter Tryz.func248, Tryz.ntmps248
    go_wp2
    go_ret
    exact ⟨ret_bool (partB_out (.inr h8)).symm, Below.refl _ _⟩
  have h8' : ¬ (8 : Int) < (s.size : Int) := by omega
  have hp0 : 0 < s.size := by omega
  have hpi : (0 : Int) < (s.size : Int) := by omega
  have HF : Hid (firstB s = (((s[0]).toNat : Int) == 48)) := firstB_eq hp0
  go_enter Tryz.func248, Tryz.ntmps248
  go_wp2
  go_loopw [4] (fun _ wr => ∃ pos : Nat, pos ≤ s.size ∧ wr.heap[w.heap.size]? = some (.stringIter s pos) ∧ Hid (allUpto okPre s pos = true) ∧ Below w.heap.size w wr) (fun _ wr => s.size - wr.iterPos w.heap.size)
  case atStart => exact ⟨0, Nat.zero_le _, World.iter_heap w s 0, rfl, (Below.refl _ _).alloc (Nat.le_refl _) _⟩
  case round =>
    obtain ⟨pos, hk, hit, hh, hbw⟩ := hrel
    have hpos0 := iterPos_of hit
    by_cases hp : pos < s.size
    · by_cases ha : (s[pos]).toNat < 128
      · have hnx : ∀ ty, (Instr.next (.pointer (some ⟨w.heap.size, 0, none⟩)) true ty).run Tryz.prog wr = _ := fun ty => Lib.run_next_ascii_at wr w.heap.size s pos ty hit hp ha
        have hit2 := Lib.iterAt_heap wr w.heap.size s pos (pos + 1) hit
        have hbw2 := Lib.below_iterAt hbw (k := w.heap.size) (Nat.le_refl _) s (pos + 1)
        obtain ⟨W1, hW1⟩ : ∃ W1, W1 = wr.iterAt w.heap.size s (pos + 1) := ⟨_, rfl⟩
        rw [← hW1] at hnx hit2 hbw2
        clear hW1 hit hbw
        go_wp2_with (go_at_call 256; refine (isPreSign_c _ _).mono ?_; rintro e w' ⟨rfl, rfl⟩)
        · have h1 : (!preB ((s[pos]).toNat : Int)) = true := by assumption
          go_ret
          exact ⟨ret_bool (partB_bad (end_false hp (by simpa [okPre] using h1))).symm, hbw2⟩
        · have h1 : (!preB ((s[pos]).toNat : Int)) = false := by assumption
          go_roundw
          case rel => exact ⟨pos + 1, by omega, hit2, step_true hp hh (by simpa [okPre] using h1), hbw2⟩
          case measure => rw [iterPos_of hit2, hpos0]; omega
      · have hnx : ∀ ty, (Instr.next (.pointer (some ⟨w.heap.size, 0, none⟩)) true ty).run Tryz.prog wr = _ := fun ty => Lib.run_next_any_at wr w.heap.size s pos ty hit hp
        have hbw2 := Lib.below_iterAt hbw (k := w.heap.size) (Nat.le_refl _) s (pos + (Utf8.decode s pos).2)
        have hr := rune_high s pos hp (by omega)
        have HB := byte_high s pos hp (by omega)
        obtain ⟨r, hr'⟩ : ∃ r : Int, r = ((Utf8.decode s pos).1 : Int) := ⟨_, rfl⟩
        obtain ⟨W1, hW1⟩ : ∃ W1, W1 = wr.iterAt w.heap.size s (pos + (Utf8.decode s pos).2) := ⟨_, rfl⟩
        rw [← hW1, ← hr'] at hnx
        rw [← hW1] at hbw2
        rw [← hr'] at hr
        have HB' : Hid (preB ((s[pos]).toNat : Int) = false) := HB
        clear hW1 hit hbw hr' HB
        go_wp2_with (go_at_call 256; refine (isPreSign_c _ _).mono ?_; rintro e w' ⟨rfl, rfl⟩)
        go_ret
        exact ⟨ret_bool (partB_bad (end_false hp HB'.out)).symm, hbw2⟩
    · have hnx : ∀ ty, (Instr.next (.pointer (some ⟨w.heap.size, 0, none⟩)) true ty).run Tryz.prog wr = _ := fun ty => Lib.run_next_end_at wr w.heap.size s pos ty hit hp
      have he : pos = s.size := by omega
      subst he
      have HA : Hid (allUpto okPre s s.size = true) := hh
      clear hh hpos0
      by_cases h1 : s.size = 1
      · have h1' : ((s.size : Int) == 1) = true := by simp [h1]
        go_wp2
        go_ret
        exact ⟨ret_bool (by rw [partB_in hp0 (by omega) HA.out]; simp [h1]), hbw⟩
      · have h1' : ((s.size : Int) == 1) = false := by rw [beq_eq_false_iff_ne]; omega
        cases hf : (((s[0]).toNat : Int) == 48) with
        | true =>
          have hf' : (((s[0]).toNat : Int) != 48) = false := by rw [bne, hf]; rfl
          go_wp2_with (go_at_call 258; refine (implDigits_c s hs0 _).mono ?_; rintro e w' ⟨rfl, rfl⟩)
          go_ret
          exact ⟨ret_bool (by rw [partB_in hp0 (by omega) HA.out, HF.out, hf]; simp [h1]), hbw⟩
        | false =>
          have hf' : (((s[0]).toNat : Int) != 48) = true := by rw [bne, hf]; rfl
          go_wp2
          go_ret
          exact ⟨ret_bool (by rw [partB_in hp0 (by omega) HA.out, HF.out, hf]; simp [h1]), hbw⟩
end Go.Proofs.YtlnofdlhjeomfaaGreatDoor

/-! What VerOk answers, the program's and the specification's: contracts for the walks; conditions: the list of texts lies in memory as told, and is no longer than 2 to the 20, with all that it holds. -/
namespace Go.Proofs.YtlnofdlhjeomfaaGreatDoor
open Go.RowKit
set_option linter.unusedSimpArgs false
set_option linter.unusedVariables false

def partsUpto (ps : List ByteArray) : Nat → Bool
  | 0 => true
  | k + 1 => partsUpto ps k && partB (ps.getD k ⟨#[]⟩)
def verB (a b c : Int) (ps : List ByteArray) : Bool := partsUpto ps ps.length && inB a 0 9999 && inB b 0 9999 && inB c 0 9999 && decide (ps.length ≤ 3)

theorem partsUpto_cut (ps : List ByteArray) (k : Nat) (h : partB (ps.getD k ⟨#[]⟩) = false) : ∀ n, k < n → partsUpto ps n = false
  | 0, h0 => by omega
  | n + 1, hk => by
    unfold partsUpto
    by_cases e : k = n
    · subst e; rw [h, Bool.and_false]
    · rw [partsUpto_cut ps k h n (by omega)]; rfl
theorem parts_end {ps : List ByteArray} {k : Nat} (hk : k < ps.length) (h : partB ps[k] = false) : partsUpto ps ps.length = false :=
  partsUpto_cut ps k (by simpa [List.getD_eq_getElem?_getD, hk] using h) _ hk
theorem parts_step {ps : List ByteArray} {k : Nat} (hk : k < ps.length) (hh : Hid (partsUpto ps k = true)) (h : partB ps[k] = true) : Hid (partsUpto ps (k + 1) = true) := by
  show _ = _
  rw [partsUpto, hh.out]
  simpa [List.getD_eq_getElem?_getD, hk] using h
theorem verB_parts {a b c : Int} {ps : List ByteArray} (h : partsUpto ps ps.length = false) : verB a b c ps = false := by rw [verB, h]; rfl
theorem verB_all {a b c : Int} {ps : List ByteArray} (h : partsUpto ps ps.length = true) : verB a b c ps = (inB a 0 9999 && inB b 0 9999 && inB c 0 9999 && decide (ps.length ≤ 3)) := by rw [verB, h]; rfl

theorem verNum_c (n : Int) (w : World) :
    Calls Tryz.prog 247 #[.int .i64 n] w fun e w' => e = .returned (.bool (inB n 0 9999)) ∧ w = w' := by
  by_cases h : 0 ≤ n
  · have hb : inB n 0 9999 = decide (n ≤ 9999) := by simp [inB, h]
    rw [hb]
    go_enter Tryz.func247, Tryz.ntmps247
    go_wp2
    go_ret
    exact ⟨rfl, rfl⟩
  · have hb : inB n 0 9999 = false := by simp [inB, h]
    rw [hb]
    go_enter Tryz.func247, Tryz.ntmps247
    go_wp2
    go_ret
    exact ⟨rfl, rfl⟩

theorem le_sum_of_mem : ∀ {ps : List ByteArray} {s : ByteArray}, s ∈ ps → s.size ≤ (ps.map ByteArray.size).sum
  | p :: ps, s, h => by
    rw [List.map_cons, List.sum_cons]
    rcases List.mem_cons.1 h with rfl | h
    · omega
    · have := le_sum_of_mem h; omega
theorem size_of_bulk {ps : List ByteArray} {s : ByteArray} (h : s ∈ ps) : s.size ≤ bulkS ps := by
  unfold bulkS
  have := le_sum_of_mem h
  omega

set_option maxHeartbeats 2000000 in
set_option maxRecDepth 100000 in
theorem specVerOk_c (a b c : Int) (u : Value) (ps : List ByteArray) (w : World) (hu : Reads w u (strsV ps)) (hb : bulkS ps ≤ 1048576) :
    Calls Tryz.prog 187 #[.agg #[.int .i64 a, .int .i64 b, .int .i64 c, u]] w fun e w' => e = .returned (.bool (verB a b c ps)) ∧ Below w.heap.size w w' := by
  have hsz : ∀ s ∈ ps, s.size ≤ maxLen := fun s hs => by have := size_of_bulk hs; unfold maxLen; omega
  have hn : ps.length ≤ 1048576 := by unfold bulkS at hb; omega
  have hbx : ∀ o, Below w.heap.size w (w.alloc o) := fun o => (Below.refl _ _).alloc (Nat.le_refl _) _
  obtain ⟨q, cap, rfl, _, hc⟩ := reads_strs hu
  clear hu hb
  go_enter Tryz.func187, Tryz.ntmps187
  go_wp2
  go_loop [3] (fun vi => ∃ k : Nat, k ≤ ps.length ∧ vi = .int .i64 (k : Int) ∧ Hid (partsUpto ps k = true)) (fun vi => ps.length - (intOf vi).toNat)
  case atStart => exact ⟨0, Nat.zero_le _, rfl, rfl⟩
  case round =>
    obtain ⟨k, hk, rfl, hh⟩ := hrel
    by_cases hlt : k < ps.length
    · rcases hc with rfl | ⟨bl, off, rfl, hlb, hc⟩
      · simp at hlt
      have hcx := hc k hlt
      have hcy : ∀ o, (w.alloc o).cell? ⟨bl, off + k, none⟩ = some (.string ps[k]) := fun o => ((hbx o).cell (p := ⟨bl, off + k, none⟩) hlb).trans hcx
      have hsk := hsz ps[k] (List.getElem_mem hlt)
      obtain ⟨t, ht⟩ : ∃ t, t = ps[k] := ⟨_, rfl⟩
      rw [← ht] at hcx hcy hsk
      have HT : Hid (t = ps[k]) := ht
      have hki : (k : Int) < (ps.length : Int) := by omega
      clear hc hsz ht
      go_wp2_with (go_at_call 213; refine (specPart_c t hsk _).mono ?_; rintro e w' ⟨rfl, rfl⟩)
      · have h1 : (!partB t) = true := by assumption
        go_ret
        exact ⟨ret_bool (verB_parts (parts_end hlt (by rw [← HT.out]; simpa using h1))).symm, hbx _⟩
      · have h1 : (!partB t) = false := by assumption
        go_round
        case rel => exact ⟨k + 1, by omega, by go_num, parts_step hlt hh (by rw [← HT.out]; simpa using h1)⟩
        case measure => simp [intOf]; omega
    · have he : k = ps.length := by omega
      subst he
      have HA : Hid (partsUpto ps ps.length = true) := hh
      have hki : ¬ (ps.length : Int) < (ps.length : Int) := by omega
      clear hc hsz hh
      cases ha : inB a 0 9999 with
      | false =>
        go_wp2_with (go_at_call 93; refine (in_c _ _ _ _).mono ?_; rintro e w' ⟨rfl, rfl⟩)
        go_ret
        exact ⟨ret_bool (by rw [verB_all HA.out, ha]; rfl), hbx _⟩
      | true =>
        cases hb : inB b 0 9999 with
        | false =>
          go_wp2_with (go_at_call 93; refine (in_c _ _ _ _).mono ?_; rintro e w' ⟨rfl, rfl⟩)
          go_ret
          exact ⟨ret_bool (by rw [verB_all HA.out, ha, hb]; rfl), hbx _⟩
        | true =>
          cases hc : inB c 0 9999 with
          | false =>
            go_wp2_with (go_at_call 93; refine (in_c _ _ _ _).mono ?_; rintro e w' ⟨rfl, rfl⟩)
            go_ret
            exact ⟨ret_bool (by rw [verB_all HA.out, ha, hb, hc]; rfl), hbx _⟩
          | true =>
            go_wp2_with (go_at_call 93; refine (in_c _ _ _ _).mono ?_; rintro e w' ⟨rfl, rfl⟩)
            go_ret
            exact ⟨ret_bool (by rw [verB_all HA.out, ha, hb, hc, Bool.eq_iff_iff]; simp; try omega), hbx _⟩

theorem verB_num {a b c : Int} {ps : List ByteArray} (h : inB a 0 9999 = false ∨ inB b 0 9999 = false ∨ inB c 0 9999 = false ∨ 3 < ps.length) : verB a b c ps = false := by
  rw [verB]
  rcases h with h | h | h | h
  · rw [h]; simp
  · rw [h]; simp
  · rw [h]; simp
  · have : decide (ps.length ≤ 3) = false := by simp; omega
    rw [this, Bool.and_false]

set_option maxHeartbeats 2000000 in
set_option maxRecDepth 100000 in
theorem implVerOk_c (a b c : Int) (u : Value) (ps : List ByteArray) (w : World) (hu : Reads w u (strsV ps)) (hb : bulkS ps ≤ 1048576) :
    Calls Tryz.prog 223 #[.agg #[.int .i64 a, .int .i64 b, .int .i64 c, u]] w fun e w' => e = .returned (.bool (verB a b c ps)) ∧ Below w.heap.size w w' := by
  have hsz : ∀ s ∈ ps, s.size ≤ maxLen := fun s hs => by have := size_of_bulk hs; unfold maxLen; omega
  have hn : ps.length ≤ 1048576 := by unfold bulkS at hb; omega
  have hbx : ∀ o, Below w.heap.size w (w.alloc o) := fun o => (Below.refl _ _).alloc (Nat.le_refl _) _
  obtain ⟨q, cap, rfl, _, hc⟩ := reads_strs hu
  clear hu hb
  cases ha : inB a 0 9999 with
  | false =>
    clear hc
    go_enter Tryz.func223, Tryz.ntmps223
    go_wp2_with (go_at_call 247; refine (verNum_c _ _).mono ?_; rintro e w' ⟨rfl, rfl⟩)
    go_ret
    exact ⟨ret_bool (verB_num (.inl ha)).symm, hbx _⟩
  | true =>
  cases hb : inB b 0 9999 with
  | false =>
    clear hc
    go_enter Tryz.func223, Tryz.ntmps223
    go_wp2_with (go_at_call 247; refine (verNum_c _ _).mono ?_; rintro e w' ⟨rfl, rfl⟩)
    go_ret
    exact ⟨ret_bool (verB_num (.inr (.inl hb))).symm, hbx _⟩
  | true =>
  cases hcc : inB c 0 9999 with
  | false =>
    clear hc
    go_enter Tryz.func223, Tryz.ntmps223
    go_wp2_with (go_at_call 247; refine (verNum_c _ _).mono ?_; rintro e w' ⟨rfl, rfl⟩)
    go_ret
    exact ⟨ret_bool (verB_num (.inr (.inr (.inl hcc)))).symm, hbx _⟩
  | true =>
  by_cases h3 : 3 < ps.length
  · have h3' : (3 : Int) < (ps.length : Int) := by omega
    clear hc
    go_enter Tryz.func223, Tryz.ntmps223
    go_wp2_with (go_at_call 247; refine (verNum_c _ _).mono ?_; rintro e w' ⟨rfl, rfl⟩)
    go_ret
    exact ⟨ret_bool (verB_num (.inr (.inr (.inr h3)))).symm, hbx _⟩
  have h3' : ¬ (3 : Int) < (ps.length : Int) := by omega
  have HV : Hid (partsUpto ps ps.length = true → verB a b c ps = true) := fun h => by rw [verB_all h, ha, hb, hcc]; simp; omega
  go_enter Tryz.func223, Tryz.ntmps223
  go_wp2_with (go_at_call 247; refine (verNum_c _ _).mono ?_; rintro e w' ⟨rfl, rfl⟩)
  go_loopw [4, 30] (fun _ vi wr => ∃ k : Nat, k ≤ ps.length ∧ vi = .int .i64 (k : Int) ∧ Hid (partsUpto ps k = true) ∧ Below w.heap.size w wr) (fun _ vi _ => ps.length - (intOf vi).toNat)
  case atStart => exact ⟨0, Nat.zero_le _, rfl, rfl, hbx _⟩
  case round =>
    obtain ⟨k, hk, rfl, hh, hbr⟩ := hrel
    by_cases hlt : k < ps.length
    · rcases hc with rfl | ⟨bl, off, rfl, hlb, hc⟩
      · simp at hlt
      have hcx : wr.cell? ⟨bl, off + k, none⟩ = some (.string ps[k]) := (hbr.cell (p := ⟨bl, off + k, none⟩) hlb).trans (hc k hlt)
      have hsk := hsz ps[k] (List.getElem_mem hlt)
      obtain ⟨t, ht⟩ : ∃ t, t = ps[k] := ⟨_, rfl⟩
      rw [← ht] at hcx hsk
      have HT : Hid (t = ps[k]) := ht
      have hki : (k : Int) < (ps.length : Int) := by omega
      clear hc hsz ht
      go_wp2_with (go_at_call 248; refine (implPart_c t hsk _).mono ?_; rintro e w1 ⟨rfl, b1⟩)
      · have h1 : (!partB t) = true := by assumption
        go_ret
        exact ⟨ret_bool (verB_parts (parts_end hlt (by rw [← HT.out]; simpa using h1))).symm, hbr.trans (b1.mono hbr.size)⟩
      · have h1 : (!partB t) = false := by assumption
        go_roundw
        case rel => exact ⟨k + 1, by omega, by go_num, parts_step hlt hh (by rw [← HT.out]; simpa using h1), hbr.trans (b1.mono hbr.size)⟩
        case measure => simp [intOf]; omega
    · have he : k = ps.length := by omega
      subst he
      clear hc hsz
      go_wp2
      go_ret
      exact ⟨ret_bool (HV.out hh.out).symm, hbr⟩
end Go.Proofs.YtlnofdlhjeomfaaGreatDoor

/-! What a text falls into between the bytes c, and what the specification's Split answers: just that list; conditions: the text has at most 2 to the 20 bytes and a few more. -/
namespace Go.Proofs.YtlnofdlhjeomfaaGreatDoor
open Go.RowKit
set_option linter.unusedSimpArgs false
set_option linter.unusedVariables false

/-- The pieces behind place i, the piece at hand having begun at place b. -/
def splitGo (s : ByteArray) (c : Int) : Nat → Nat → Nat → List ByteArray
  | 0, _, b => [s.extract b s.size]
  | f + 1, i, b => if ((s.data[i]!).toNat : Int) = c then s.extract b i :: splitGo s c f (i + 1) (i + 1) else splitGo s c f (i + 1) b
def splitS (s : ByteArray) (c : Int) : List ByteArray := splitGo s c s.size 0 0

theorem splitGo_hit (s : ByteArray) (c : Int) (i b : Nat) (hi : i < s.size) (h : ((s.data[i]!).toNat : Int) = c) : splitGo s c (s.size - i) i b = s.extract b i :: splitGo s c (s.size - (i + 1)) (i + 1) (i + 1) := by
  obtain ⟨f, hf⟩ : ∃ f, s.size - i = f + 1 := ⟨s.size - i - 1, by omega⟩
  rw [hf, splitGo, if_pos h, show s.size - (i + 1) = f by omega]
theorem splitGo_miss (s : ByteArray) (c : Int) (i b : Nat) (hi : i < s.size) (h : ¬ ((s.data[i]!).toNat : Int) = c) : splitGo s c (s.size - i) i b = splitGo s c (s.size - (i + 1)) (i + 1) b := by
  obtain ⟨f, hf⟩ : ∃ f, s.size - i = f + 1 := ⟨s.size - i - 1, by omega⟩
  rw [hf, splitGo, if_neg h, show s.size - (i + 1) = f by omega]
theorem splitGo_end (s : ByteArray) (c : Int) (b : Nat) : splitGo s c (s.size - s.size) s.size b = [s.extract b s.size] := by
  rw [Nat.sub_self, splitGo]

theorem strs_append (xs ys : List ByteArray) : strsV xs ++ strsV ys = strsV (xs ++ ys) := by simp [strsV]

set_option maxHeartbeats 2000000 in
set_option maxRecDepth 100000 in
theorem specSplit_c (s : ByteArray) (c : Int) (w : World) (hs : s.size ≤ 1048576) :
    Calls Tryz.prog 161 #[.string s, .int .u8 c] w fun e w' => ∃ v, e = .returned v ∧ w'.ownsRow w.heap.size 9 1 v (splitS s c).length (strsV (splitS s c)) ∧ Below w.heap.size w w' := by
  obtain ⟨i0, hi, hz0, hz1, hz2⟩ := info_parts infoS
  have ho : (w.alloc (.cells #[] 9)).ownsRow w.heap.size 9 1 (.slice (some ⟨w.heap.size, 0, none⟩) 0 0) 0 [] := World.ownsRow_lit w #[] 0 (Nat.le_refl _) (by unfold maxLen; omega) rfl
  go_enter Tryz.func161, Tryz.ntmps161
  go_wp2
  go_loopw [5, 6, 7] (fun vo vb vi wr => ∃ (i b : Nat) (xs : List ByteArray), vi = .int .i64 (i : Int) ∧ vb = .int .i64 (b : Int) ∧ i ≤ s.size + 1 ∧ b ≤ i ∧ xs.length ≤ i ∧ wr.ownsRow w.heap.size 9 1 vo xs.length (strsV xs) ∧ Hid ((i ≤ s.size ∧ xs ++ splitGo s c (s.size - i) i b = splitS s c) ∨ (i = s.size + 1 ∧ xs = splitS s c)) ∧ Below w.heap.size w wr) (fun _ _ vi _ => s.size + 1 - (intOf vi).toNat)
  case atStart => exact ⟨0, 0, [], rfl, rfl, by omega, by omega, by simp, ho, .inl ⟨by omega, rfl⟩, (Below.refl _ _).alloc (Nat.le_refl _) _⟩
  case round =>
    obtain ⟨i, b, xs, rfl, rfl, hi1, hbi, hxl, hown, hh, hbr⟩ := hrel
    clear ho
    by_cases hle : i ≤ s.size
    · have hh1 : xs ++ splitGo s c (s.size - i) i b = splitS s c := by
        rcases hh.out with h | h
        · exact h.2
        · omega
      have HH : Hid (xs ++ splitGo s c (s.size - i) i b = splitS s c) := hh1
      have hlei : (i : Int) ≤ (s.size : Int) := by omega
      clear hh hh1
      by_cases heq : i = s.size
      · subst heq
        have heq' : ((s.size : Int) == (s.size : Int)) = true := by simp
        go_wp2_with (at_builtin; refine wpList_append_own _ rfl _ _ 23 rfl w.heap.size 9 i0 (.string ⟨#[]⟩) 1 16 Tryz.underlying23 hi hz0 hz1 hz2 rfl (by decide) _ xs.length (strsV xs) rfl (hown.alloc _) ⟨wr.heap.size, 0, none⟩ 1 1 (strsV [s.extract b s.size]) rfl rfl (cell_one_new _ _ _) (fun u hu => by simp [strsV] at hu; subst hu; rfl) (by unfold maxLen; omega) (by omega) (by have := hbr.size; simp; omega) ?_)
        intro v2 w2 o2 gr2 _
        rw [strs_append] at o2
        have hb2 : Below w.heap.size w w2 := Below.grown (hbr.alloc hbr.size _) gr2 (by have := hbr.size; simp; omega) (fun j hj => (hown.lt _ hj).1)
        have HT : Hid (xs ++ [s.extract b s.size] = splitS s c) := by have := HH.out; rw [splitGo_end] at this; exact this
        have hl2 : (xs ++ [s.extract b s.size]).length = xs.length + 1 := by simp
        rw [← hl2] at o2
        clear gr2 hown hbr hl2
        go_wp2
        go_roundw
        case rel => exact ⟨s.size + 1, s.size + 1, _, by go_num, by go_num, by omega, by omega, (by simp; omega), o2, .inr ⟨rfl, HT.out⟩, hb2⟩
        case measure => simp [intOf]
      · have hlt : i < s.size := by omega
        have heq' : ((i : Int) == (s.size : Int)) = false := by rw [beq_eq_false_iff_ne]; omega
        have hbang := byteBang s i hlt
        cases hc : (((s[i]).toNat : Int) == c) with
        | true =>
          have HT : Hid ((xs ++ [s.extract b i]) ++ splitGo s c (s.size - (i + 1)) (i + 1) (i + 1) = splitS s c) := by
            have := HH.out
            rw [splitGo_hit s c i b hlt (by rw [hbang]; simpa using hc)] at this
            show _ = _
            rw [List.append_assoc]; exact this
          clear hbang
          go_wp2_with (at_builtin; refine wpList_append_own _ rfl _ _ 23 rfl w.heap.size 9 i0 (.string ⟨#[]⟩) 1 16 Tryz.underlying23 hi hz0 hz1 hz2 rfl (by decide) _ xs.length (strsV xs) rfl (hown.alloc _) ⟨wr.heap.size, 0, none⟩ 1 1 (strsV [s.extract b i]) rfl rfl (cell_one_new _ _ _) (fun u hu => by simp [strsV] at hu; subst hu; rfl) (by unfold maxLen; omega) (by omega) (by have := hbr.size; simp; omega) ?_)
          intro v2 w2 o2 gr2 _
          rw [strs_append] at o2
          have hb2 : Below w.heap.size w w2 := Below.grown (hbr.alloc hbr.size _) gr2 (by have := hbr.size; simp; omega) (fun j hj => (hown.lt _ hj).1)
          have hl2 : (xs ++ [s.extract b i]).length = xs.length + 1 := by simp
          rw [← hl2] at o2
          clear gr2 hown hbr hl2
          go_wp2
          go_roundw
          case rel => exact ⟨i + 1, i + 1, _, by go_num, by go_num, by omega, by omega, (by simp; omega), o2, .inl ⟨by omega, HT.out⟩, hb2⟩
          case measure => simp [intOf]; omega
        | false =>
          have HT : Hid (xs ++ splitGo s c (s.size - (i + 1)) (i + 1) b = splitS s c) := by
            have := HH.out
            rw [splitGo_miss s c i b hlt (by rw [hbang]; simpa using hc)] at this
            exact this
          clear hbang
          go_wp2
          go_roundw
          case rel => exact ⟨i + 1, b, xs, by go_num, rfl, by omega, by omega, by omega, hown, .inl ⟨by omega, HT.out⟩, hbr⟩
          case measure => simp [intOf]; omega
    · have hlei : ¬ (i : Int) ≤ (s.size : Int) := by omega
      have e : xs = splitS s c := by
        rcases hh.out with h | h
        · omega
        · exact h.2
      go_wp2
      go_ret
      rw [← e]
      exact ⟨_, rfl, hown, hbr⟩
end Go.Proofs.YtlnofdlhjeomfaaGreatDoor

/-! What a text is as a version: the reader that goes over its bytes, word by word, and the text's pieces around its first hyphen tell the same; no condition. -/
namespace Go.Proofs.YtlnofdlhjeomfaaGreatDoor
open Go.RowKit
set_option linter.unusedSimpArgs false
set_option linter.unusedVariables false

theorem vext {a b : ByteArray} (h : a.data.toList = b.data.toList) : a = b := ByteArray.ext (Array.toList_inj.1 h)
theorem vextract (s : ByteArray) (a b : Nat) : (s.extract a b).data.toList = (s.data.toList.drop a).take (b - a) := Lib.extract_data s a b
theorem vlen (s : ByteArray) : s.data.toList.length = s.size := by rw [Array.length_toList]; rfl
theorem vsize (s : ByteArray) (a b : Nat) (h : a ≤ b) (hb : b ≤ s.size) : (s.extract a b).size = b - a := by
  rw [← vlen, vextract, List.length_take, List.length_drop, vlen]; omega
theorem vget (s : ByteArray) (a b i : Nat) (h : a + i < b) (hb : b ≤ s.size) : (s.extract a b).data[i]! = s.data[a + i]! := by
  have h1 : i < (s.extract a b).size := by rw [vsize s a b (by omega) hb]; omega
  have e1 : (s.extract a b).data.toList[i]? = s.data.toList[a + i]? := by
    rw [vextract, List.getElem?_take_of_lt (by omega), List.getElem?_drop]
  rw [Array.getElem?_toList, Array.getElem?_toList] at e1
  rw [getElem!_def, getElem!_def, e1]
theorem vsub (s : ByteArray) (a b c d : Nat) (h : a + d ≤ b) (hb : b ≤ s.size) : (s.extract a b).extract c d = s.extract (a + c) (a + d) := by
  apply vext
  rw [vextract, vextract, vextract, List.drop_take, List.drop_drop, List.take_take]
  congr 1
  omega

/-- The pieces of the text up to place hi, between the bytes 46, from place i on, the piece at hand having begun at place b. -/
def pieces (s : ByteArray) (hi : Nat) : Nat → Nat → Nat → List ByteArray
  | 0, _, b => [s.extract b hi]
  | f + 1, i, b => if ((s.data[i]!).toNat : Int) = 46 then s.extract b i :: pieces s hi f (i + 1) (i + 1) else pieces s hi f (i + 1) b

theorem pieces_split (s : ByteArray) (lo hi : Nat) (hl : lo ≤ hi) (hh : hi ≤ s.size) : ∀ (f i b : Nat), f = (hi - lo) - i → i ≤ hi - lo → b ≤ i → splitGo (s.extract lo hi) 46 f i b = pieces s hi f (lo + i) (lo + b)
  | 0, i, b, hf, hi', hb => by
    rw [splitGo, pieces, vsize s lo hi hl hh, vsub s lo hi b (hi - lo) (by omega) hh, show lo + (hi - lo) = hi by omega]
  | f + 1, i, b, hf, hi', hb => by
    rw [splitGo, pieces, vget s lo hi i (by omega) hh]
    by_cases h : ((s.data[lo + i]!).toNat : Int) = 46
    · rw [if_pos h, if_pos h, vsub s lo hi b i (by omega) hh, pieces_split s lo hi hl hh f (i + 1) (i + 1) (by omega) (by omega) (by omega)]
      rfl
    · rw [if_neg h, if_neg h, pieces_split s lo hi hl hh f (i + 1) b (by omega) (by omega) (by omega)]
      rfl
theorem split_pieces (s : ByteArray) (lo hi : Nat) (hl : lo ≤ hi) (hh : hi ≤ s.size) : splitS (s.extract lo hi) 46 = pieces s hi (hi - lo) lo lo := by
  have h := pieces_split s lo hi hl hh (hi - lo) 0 0 (by omega) (by omega) (by omega)
  rw [splitS, vsize s lo hi hl hh, h]; rfl

theorem pieces_head (s : ByteArray) (hi : Nat) : ∀ (f i b : Nat), f = hi - i → i ≤ hi → ∃ e rest, i ≤ e ∧ e ≤ hi ∧ pieces s hi f i b = s.extract b e :: rest
  | 0, i, b, hf, hi' => ⟨hi, [], by omega, by omega, rfl⟩
  | f + 1, i, b, hf, hi' => by
    rw [pieces]
    by_cases h : ((s.data[i]!).toNat : Int) = 46
    · rw [if_pos h]; exact ⟨i, _, by omega, by omega, rfl⟩
    · rw [if_neg h]
      obtain ⟨e, rest, h1, h2, h3⟩ := pieces_head s hi f (i + 1) b (by omega) (by omega)
      exact ⟨e, rest, by omega, h2, h3⟩
theorem pieces_pos (s : ByteArray) (hi f i b : Nat) (hf : f = hi - i) (h : i ≤ hi) : 1 ≤ (pieces s hi f i b).length := by
  obtain ⟨e, rest, _, _, h3⟩ := pieces_head s hi f i b hf h
  rw [h3]; simp

theorem piece_bad (p : Nat → Int → Bool) (s : ByteArray) (b e i : Nat) (hb : b ≤ i) (he : i < e) (hs : e ≤ s.size) (h : ∀ k, p k ((s.data[i]!).toNat : Int) = false) : allUpto p (s.extract b e) (s.extract b e).size = false := by
  have hz := vsize s b e (by omega) hs
  refine allUpto_cut p _ (i - b) ?_ _ (by omega)
  rw [vget s b e (i - b) (by omega) hs, show b + (i - b) = i by omega]
  exact h _

/-- A word that ends. -/
def endNs (ns : List Int) (inP : Bool) (t : ByteArray) : List Int := if inP then ns else ns ++ [numOut t 9999]
def endPs (ps : List ByteArray) (inP : Bool) (t : ByteArray) : List ByteArray := if inP then ps ++ [t] else ps
def endOk (ns : List Int) (ps : List ByteArray) (inP : Bool) (t : ByteArray) : Bool := if inP then decide (ps.length + 1 ≤ 3) && partB t else numGood t 9999 && decide (ns.length + 1 ≤ 3)

/-- The reader, from place i on. -/
def reads (s : ByteArray) : Nat → Nat → Nat → List Int → List ByteArray → Bool → Option (List Int × List ByteArray)
  | 0, i, b, ns, ps, inP => if endOk ns ps inP (s.extract b i) && decide (3 ≤ (endNs ns inP (s.extract b i)).length) then some (endNs ns inP (s.extract b i), endPs ps inP (s.extract b i)) else none
  | f + 1, i, b, ns, ps, inP =>
    if ((s.data[i]!).toNat : Int) = 46 then (if endOk ns ps inP (s.extract b i) then reads s f (i + 1) (i + 1) (endNs ns inP (s.extract b i)) (endPs ps inP (s.extract b i)) inP else none)
    else if ((s.data[i]!).toNat : Int) = 45 ∧ inP = false then (if endOk ns ps inP (s.extract b i) then reads s f (i + 1) (i + 1) (endNs ns inP (s.extract b i)) (endPs ps inP (s.extract b i)) true else none)
    else if preB ((s.data[i]!).toNat : Int) then reads s f (i + 1) b ns ps inP else none

theorem all_partB_bad {l : List ByteArray} {t : ByteArray} (h : partB t = false) : (t :: l).all partB = false := by simp [h]

theorem reads_pre (s : ByteArray) (ns : List Int) : ∀ (f i b : Nat) (ps : List ByteArray), f = s.size - i → i ≤ s.size → b ≤ i → reads s f i b ns ps true =
    if (pieces s s.size f i b).all partB && decide (ps.length + (pieces s s.size f i b).length ≤ 3) && decide (3 ≤ ns.length) then some (ns, ps ++ pieces s s.size f i b) else none
  | 0, i, b, ps, hf, hi, hb => by
    have : i = s.size := by omega
    subst this
    rw [reads, pieces]
    simp only [endOk, endNs, endPs, if_true, List.all_cons, List.all_nil, Bool.and_true, List.length_singleton]
    cases partB (s.extract b s.size) <;> simp [Bool.and_comm]
  | f + 1, i, b, ps, hf, hi, hb => by
    rw [reads, pieces]
    by_cases h : ((s.data[i]!).toNat : Int) = 46
    · rw [if_pos h, if_pos h]
      simp only [endOk, endNs, endPs, if_true]
      rw [reads_pre s ns f (i + 1) (i + 1) (ps ++ [s.extract b i]) (by omega) (by omega) (by omega)]
      have hp := pieces_pos s s.size f (i + 1) (i + 1) (by omega) (by omega)
      cases hx : partB (s.extract b i)
      · simp [hx]
      · by_cases hl : ps.length + 1 ≤ 3
        · simp only [hl, decide_true, Bool.and_self, if_true, List.all_cons, hx, Bool.true_and, List.length_append, List.length_cons, List.length_nil, List.append_assoc, List.cons_append, List.nil_append]
          have e : ps.length + (0 + 1) + (pieces s s.size f (i + 1) (i + 1)).length = ps.length + ((pieces s s.size f (i + 1) (i + 1)).length + 1) := by omega
          rw [e]
        · have h2 : ¬ ps.length + ((pieces s s.size f (i + 1) (i + 1)).length + 1) ≤ 3 := by omega
          simp [hl, h2]
    · rw [if_neg h, if_neg h, if_neg (by simp)]
      by_cases hc : preB ((s.data[i]!).toNat : Int) = true
      · rw [if_pos hc]
        exact reads_pre s ns f (i + 1) b ps (by omega) (by omega) (by omega)
      · rw [if_neg hc]
        obtain ⟨e, rest, h1, h2, h3⟩ := pieces_head s s.size f (i + 1) b (by omega) (by omega)
        rw [h3, all_partB_bad (partB_bad (piece_bad okPre s b e i hb (by omega) h2 (fun _ => by simpa [okPre] using hc)))]
        simp

theorem good_of_piece {t : ByteArray} (h : allUpto okDigit t t.size = false) : numGood t 9999 = false := by
  unfold numGood; rw [h]; simp

theorem digit_pre {c : Int} (h : preB c = false) : digitB c = false := by
  simp only [preB, Bool.or_eq_false_iff] at h
  exact h.1.2

theorem reads_num (s : ByteArray) (k : Nat) (hk : k ≤ s.size) (hd : k < s.size → ((s.data[k]!).toNat : Int) = 45) : ∀ (f i b : Nat) (ns : List Int), f = k - i → i ≤ k → b ≤ i → (∀ j, i ≤ j → j < k → ¬ ((s.data[j]!).toNat : Int) = 45) →
    reads s (s.size - i) i b ns [] false = if (pieces s k f i b).all (fun t => numGood t 9999) && decide (ns.length + (pieces s k f i b).length ≤ 3) then
      (if k < s.size then reads s (s.size - (k + 1)) (k + 1) (k + 1) (ns ++ (pieces s k f i b).map (fun t => numOut t 9999)) [] true
       else if 3 ≤ ns.length + (pieces s k f i b).length then some (ns ++ (pieces s k f i b).map (fun t => numOut t 9999), []) else none) else none
  | 0, i, b, ns, hf, hi, hb, hn => by
    have : i = k := by omega
    subst this
    rw [pieces]
    by_cases hlt : i < s.size
    · rw [show s.size - i = (s.size - (i + 1)) + 1 by omega, reads, if_neg (by have := hd hlt; omega), if_pos ⟨hd hlt, rfl⟩, if_pos hlt]
      simp [endOk, endNs, endPs]
    · have : i = s.size := by omega
      rw [show s.size - i = 0 by omega, reads, if_neg hlt]
      simp only [endOk, endNs, endPs, Bool.false_eq_true, if_false, List.all_cons, List.all_nil, Bool.and_true, List.length_singleton, List.map_cons, List.map_nil, List.length_append]
      cases numGood (s.extract b i) 9999
      · simp
      · by_cases h1 : ns.length + 1 ≤ 3 <;> by_cases h2 : 3 ≤ ns.length + 1 <;> simp [h1, h2]
  | f + 1, i, b, ns, hf, hi, hb, hn => by
    have hne := hn i (by omega) (by omega)
    rw [show s.size - i = (s.size - (i + 1)) + 1 by omega, reads, pieces]
    by_cases h : ((s.data[i]!).toNat : Int) = 46
    · rw [if_pos h, if_pos h]
      simp only [endOk, endNs, endPs, Bool.false_eq_true, if_false]
      rw [reads_num s k hk hd f (i + 1) (i + 1) (ns ++ [numOut (s.extract b i) 9999]) (by omega) (by omega) (by omega) (fun j h1 h2 => hn j (by omega) h2)]
      have hp := pieces_pos s k f (i + 1) (i + 1) (by omega) (by omega)
      cases hx : numGood (s.extract b i) 9999
      · simp [hx]
      · by_cases hl : ns.length + 1 ≤ 3
        · simp only [hl, decide_true, Bool.and_self, if_true, List.all_cons, hx, Bool.true_and, List.length_append, List.length_cons, List.length_nil, List.append_assoc, List.cons_append, List.nil_append, List.map_cons]
          have e : ns.length + (0 + 1) + (pieces s k f (i + 1) (i + 1)).length = ns.length + ((pieces s k f (i + 1) (i + 1)).length + 1) := by omega
          rw [e]
        · have h2 : ¬ ns.length + ((pieces s k f (i + 1) (i + 1)).length + 1) ≤ 3 := by omega
          simp [hl, h2]
    · rw [if_neg h, if_neg h, if_neg (fun h => hne h.1)]
      by_cases hc : preB ((s.data[i]!).toNat : Int) = true
      · rw [if_pos hc]
        exact reads_num s k hk hd f (i + 1) b ns (by omega) (by omega) (by omega) (fun j h1 h2 => hn j (by omega) h2)
      · rw [if_neg hc]
        obtain ⟨e, rest, h1, h2, h3⟩ := pieces_head s k f (i + 1) b (by omega) (by omega)
        have hbad : numGood (s.extract b e) 9999 = false := good_of_piece (piece_bad okDigit s b e i hb (by omega) (by omega) (fun _ => digit_pre (by simpa using hc)))
        rw [h3]
        simp [hbad]

/-- What the specification takes of a text, k the place of its first hyphen, or its length. -/
def numsAt (s : ByteArray) (k : Nat) : List ByteArray := pieces s k k 0 0
def presAt (s : ByteArray) (k : Nat) : List ByteArray := if k < s.size then pieces s s.size (s.size - (k + 1)) (k + 1) (k + 1) else []
def goodAt (s : ByteArray) (k : Nat) : Bool := (numsAt s k).all (fun t => numGood t 9999) && decide ((numsAt s k).length = 3) && (presAt s k).all partB && decide ((presAt s k).length ≤ 3)

theorem reads_all (s : ByteArray) (k : Nat) (hk : k ≤ s.size) (hd : k < s.size → ((s.data[k]!).toNat : Int) = 45) (hn : ∀ j, j < k → ¬ ((s.data[j]!).toNat : Int) = 45) :
    reads s s.size 0 0 [] [] false = if goodAt s k then some ((numsAt s k).map (fun t => numOut t 9999), presAt s k) else none := by
  have h := reads_num s k hk hd k 0 0 [] (by omega) (by omega) (by omega) (fun j _ h => hn j h)
  rw [Nat.sub_zero] at h
  rw [h]
  unfold goodAt
  rw [show pieces s k k 0 0 = numsAt s k from rfl]
  by_cases hlt : k < s.size
  · rw [if_pos hlt, reads_pre s _ (s.size - (k + 1)) (k + 1) (k + 1) [] (by omega) (by omega) (by omega)]
    rw [show pieces s s.size (s.size - (k + 1)) (k + 1) (k + 1) = presAt s k by unfold presAt; rw [if_pos hlt]]
    simp only [List.nil_append, List.length_nil, Nat.zero_add, List.length_map]
    by_cases h3 : (numsAt s k).length = 3
    · simp only [h3, Nat.le_refl, decide_true, Bool.and_true]
      cases (numsAt s k).all (fun t => numGood t 9999)
      · simp
      · simp
    · by_cases h4 : (numsAt s k).length ≤ 3
      · have h5 : ¬ 3 ≤ (numsAt s k).length := by omega
        simp [h3, h5]
      · simp [h3, h4]
  · rw [if_neg hlt]
    have hp : presAt s k = [] := by unfold presAt; rw [if_neg hlt]
    rw [hp]
    simp only [List.nil_append, List.length_nil, Nat.zero_add, List.all_nil, Bool.and_true]
    by_cases h3 : (numsAt s k).length = 3
    · simp [h3]
    · by_cases h4 : (numsAt s k).length ≤ 3
      · have h5 : ¬ 3 ≤ (numsAt s k).length := by omega
        simp [h3, h5]
      · simp [h3, h4]
#print axioms reads_all
end Go.Proofs.YtlnofdlhjeomfaaGreatDoor

/-! What the program's reader of versions does at the end of a word, and at a sign: contracts for the walks; condition: what it holds lies in memory as told. -/
namespace Go.Proofs.YtlnofdlhjeomfaaGreatDoor
open Go.RowKit
set_option linter.unusedSimpArgs false
set_option linter.unusedVariables false

def intsV (zs : List Int) : List Value := zs.map (Value.int .i64)
@[simp] theorem length_intsV (zs : List Int) : (intsV zs).length = zs.length := by simp [intsV]
@[simp] theorem length_bytesV' (zs : List Int) : (bytesV zs).length = zs.length := by simp [bytesV]
theorem infoI : (Tryz.prog.info? 3).map (fun i => (i.zero, i.size, i.bytes)) = some (some (.int .i64 0), 1, 8) := by kernel_rfl

/-- Of the blocks below base nothing has turned but block R. -/
structure Only (R base : Nat) (w w' : World) : Prop where
  os : w'.os = w.os
  tape : w'.tape = w.tape
  output : w'.output = w.output
  size : w.heap.size ≤ w'.heap.size
  block : ∀ k, k < base → k ≠ R → w'.heap[k]? = w.heap[k]?
theorem Only.refl (R base : Nat) (w : World) : Only R base w w := ⟨rfl, rfl, rfl, Nat.le_refl _, fun _ _ _ => rfl⟩
theorem Only.trans {R base : Nat} {a b c : World} (h : Only R base a b) (k : Only R base b c) : Only R base a c :=
  ⟨k.os.trans h.os, k.tape.trans h.tape, k.output.trans h.output, Nat.le_trans h.size k.size, fun i h1 h2 => (k.block i h1 h2).trans (h.block i h1 h2)⟩
theorem Only.set {R base : Nat} (w : World) (j : Nat) (v : Value) : Only R base w (w.setCell ⟨R, j, none⟩ v) :=
  ⟨rfl, rfl, rfl, by simp [World.setCell], fun k _ hk => Below.heap_setCell w ⟨R, j, none⟩ v k hk⟩
theorem Only.grown {R base : Nat} {w w' : World} {row : Option Nat} (h : w.grownBy w' row) (hb : base ≤ w.heap.size) (hrow : ∀ k, row = some k → base ≤ k) : Only R base w w' :=
  ⟨h.os, h.tape, h.output, h.size, fun k h1 _ => h.block k (by omega) (fun e => by have := hrow k e.symm; omega)⟩
theorem Only.below {R base : Nat} {w w' : World} (h : Below w.heap.size w w') (hb : base ≤ w.heap.size) : Only R base w w' :=
  ⟨h.os, h.tape, h.output, h.size, fun k h1 _ => h.block k (by omega)⟩
theorem Only.alloc {R base : Nat} {w : World} (o : Obj) (hb : base ≤ w.heap.size) : Only R base w (w.alloc o) := Only.below ((Below.refl _ _).alloc (Nat.le_refl _) _) hb

theorem four_set {w : World} {R : Nat} {t : TypeId} {c0 c1 c2 c3 : Value} (h : Four w R t c0 c1 c2 c3) (v : Value) :
    Four (w.setCell ⟨R, 0, none⟩ v) R t v c1 c2 c3 ∧ Four (w.setCell ⟨R, 1, none⟩ v) R t c0 v c2 c3 ∧ Four (w.setCell ⟨R, 2, none⟩ v) R t c0 c1 v c3 ∧ Four (w.setCell ⟨R, 3, none⟩ v) R t c0 c1 c2 v := by
  refine ⟨?_, ?_, ?_, ?_⟩ <;> (unfold Four at *; rw [heap_setCell_same w R _ _ t v h]; rfl)
theorem Four.grown {w w' : World} {R base : Nat} {t : TypeId} {c0 c1 c2 c3 : Value} {row : Option Nat} (h : Four w R t c0 c1 c2 c3) (hg : w.grownBy w' row) (hR : R < base) (hrow : ∀ k, row = some k → base ≤ k) : Four w' R t c0 c1 c2 c3 :=
  (hg.block R h.lt (fun e => by have := hrow R e.symm; omega)).trans h
theorem Four.frozen {w : World} {N : Nat} {t : TypeId} {c0 c1 c2 c3 : Value} (h : Four w N t c0 c1 c2 c3) (j : Nat) : w.frozen? ⟨N, j, none⟩ = false := vblk_frozen h j

/-- Two rows of two types are two blocks. -/
theorem rows_apart {w : World} {base e e' : Nat} {v v' : Value} {n n' : Nat} {xs xs' : List Value} (h : w.ownsRow base e 1 v n xs) (h' : w.ownsRow base e' 1 v' n' xs') (hne : e ≠ e') : v'.ownBlock = none ∨ v'.ownBlock ≠ v.ownBlock := by
  rcases h.2 with ⟨rfl, _⟩ | ⟨g, cap, cur, rfl, _, hg, _⟩
  · rcases h'.2 with ⟨rfl, _⟩ | ⟨g', cap', cur', rfl, _, hg', _⟩
    · exact .inl rfl
    · exact .inr (by simp [Value.ownBlock])
  · rcases h'.2 with ⟨rfl, _⟩ | ⟨g', cap', cur', rfl, _, hg', _⟩
    · exact .inl rfl
    · refine .inr fun e1 => hne ?_
      simp only [Value.ownBlock, Option.some.injEq] at e1
      subst e1
      rw [hg] at hg'
      simp only [Option.some.injEq, Obj.cells.injEq] at hg'
      exact hg'.2.1

/-- The reader at block R. -/
def Rd (w : World) (R base : Nat) (ws ns : List Int) (ps : List ByteArray) (inP : Bool) : Prop :=
  ∃ vw vn vp, Four w R 275 vw vn vp (.bool inP) ∧ w.ownsRow base 5 1 vw ws.length (bytesV ws) ∧ w.ownsRow base 3 1 vn ns.length (intsV ns) ∧ w.ownsRow base 9 1 vp ps.length (strsV ps)

theorem row_empty {w : World} {base : Nat} {e : TypeId} {g n cap : Nat} {xs : List Value} (h : w.ownsRow base e 1 (.slice (some ⟨g, 0, none⟩) n cap) n xs) : w.ownsRow base e 1 (.slice (some ⟨g, 0, none⟩) 0 cap) 0 [] := by
  rcases h.2 with ⟨h, _⟩ | ⟨g', cap', cur, hv, hb, hg, hn, hc, hs, ht⟩
  · cases h
  · cases hv
    exact ⟨rfl, .inr ⟨g, cap, cur, rfl, hb, hg, Nat.zero_le _, hc, hs, rfl⟩⟩

theorem conv_word {w : World} {base : Nat} {vw : Value} {ws : List Int} (h : w.ownsRow base 5 1 vw ws.length (bytesV ws)) : (convert 136 9 vw).run Tryz.prog w = .ok (.string (strOfNums ws)) w := by
  rcases h.2 with ⟨rfl, h0⟩ | ⟨g, cap, cur, rfl, hb, hg, hn, hc, hs, ht⟩
  · have : ws = [] := List.eq_nil_of_length_eq_zero h0
    subst this
    exact run_convert_bytes_nil w 136 5 Tryz.underlying136 Tryz.underlying5 0 0 9 Tryz.underlying9
  · refine run_convert_bytes_arg _ 136 5 Tryz.underlying136 Tryz.underlying5 _ 0 ws.length cap ws rfl (fun i hi => ?_) 9 Tryz.underlying9
    rw [Nat.zero_add, h.cellAt i (by simpa using hi)]
    simp [bytesV, List.getD_eq_getElem?_getD, hi]

theorem cell_str (w : World) (t : ByteArray) : ∀ j u, [Value.string t][j]? = some u → (w.alloc (.cells #[.string t] 9)).cell? ((⟨w.heap.size, 0, none⟩ : Addr).add j) = some u := cell_one_new _ _ _

set_option maxHeartbeats 2000000 in
set_option maxRecDepth 100000 in
theorem ends_in (R base : Nat) (ws ns : List Int) (ps : List ByteArray) (w : World) (h : Rd w R base ws ns ps true) (hR : R < base) (hbw : base ≤ w.heap.size) (hw : ws.length ≤ 1048576) (hps : ps.length ≤ 1048576) :
    Calls Tryz.prog 241 #[.pointer (some ⟨R, 0, none⟩)] w fun e w' => e = .returned (.bool (endOk ns ps true (strOfNums ws))) ∧ Rd w' R base [] (endNs ns true (strOfNums ws)) (endPs ps true (strOfNums ws)) true ∧ Only R base w w' := by
  obtain ⟨i0, hi, hz0, hz1, hz2⟩ := info_parts infoS
  obtain ⟨vw, vn, vp, hF, hWr, hNr, hPr⟩ := h
  have hcv := conv_word hWr
  have htz : (strOfNums ws).size ≤ maxLen := by rw [strOfNums_size]; unfold maxLen; omega
  obtain ⟨t, ht⟩ : ∃ t, t = strOfNums ws := ⟨_, rfl⟩
  rw [← ht] at hcv htz ⊢
  clear ht
  obtain ⟨v0, hv0, hW0⟩ : ∃ v0, (vw = .slice none 0 0 ∧ v0 = .slice none 0 0 ∨ ∃ g n cap, vw = .slice (some ⟨g, 0, none⟩) n cap ∧ v0 = .slice (some ⟨g, 0, none⟩) 0 cap ∧ n ≤ cap) ∧ w.ownsRow base 5 1 v0 0 [] := by
    rcases hWr.2 with ⟨rfl, _⟩ | ⟨g, cap, cur, rfl, _, _, hn, _⟩
    · exact ⟨_, .inl ⟨rfl, rfl⟩, World.ownsRow_nil _ _ _ _⟩
    · exact ⟨_, .inr ⟨g, ws.length, cap, rfl, rfl, hn⟩, row_empty hWr⟩
  have F1 := (four_set hF v0).1
  have hW1 := owns_set hW0 (p := ⟨R, 0, none⟩) hR v0
  have hN1 := owns_set hNr (p := ⟨R, 0, none⟩) hR v0
  have hP1 := owns_set hPr (p := ⟨R, 0, none⟩) hR v0
  have O1 : Only R base w (w.setCell ⟨R, 0, none⟩ v0) := Only.set w 0 v0
  have hb1 : base ≤ (w.setCell ⟨R, 0, none⟩ v0).heap.size := Nat.le_trans hbw O1.size
  obtain ⟨c0, c1, c2, c3⟩ := hF.cells
  have f0 := hF.frozen 0
  obtain ⟨d0, d1, d2, d3⟩ := F1.cells
  have g2 := F1.frozen 2
  have hlR := F1.lt
  have hsz : (w.setCell ⟨R, 0, none⟩ v0).heap.size = w.heap.size := by simp [World.setCell]
  have hcs := cell_str (w.setCell ⟨R, 0, none⟩ v0) t
  rw [hsz] at hcs
  have HC : Hid (∀ j u, (strsV [t])[j]? = some u → ((w.setCell ⟨R, 0, none⟩ v0).alloc (.cells #[.string t] 9)).cell? ((⟨w.heap.size, 0, none⟩ : Addr).add j) = some u) := hcs
  have hPA := hP1.alloc (.cells #[.string t] 9)
  have hNA := hN1.alloc (.cells #[.string t] 9)
  have hWA := hW1.alloc (.cells #[.string t] 9)
  have FA := four_old F1 (.cells #[.string t] 9)
  have OA : Only R base w ((w.setCell ⟨R, 0, none⟩ v0).alloc (.cells #[.string t] 9)) := O1.trans (Only.alloc _ hb1)
  have hbA : base ≤ ((w.setCell ⟨R, 0, none⟩ v0).alloc (.cells #[.string t] 9)).heap.size := Nat.le_trans hbw OA.size
  have HP : Hid (((w.setCell ⟨R, 0, none⟩ v0).alloc (.cells #[.string t] 9)).ownsRow base 9 1 vp ps.length (strsV ps)) := hPA
  obtain ⟨vpa, vpn, vpc, rfl⟩ : ∃ a n cap, vp = .slice a n cap := by rcases hPr.2 with ⟨rfl, _⟩ | ⟨g, cap, cur, rfl, _⟩ <;> exact ⟨_, _, _, rfl⟩
  clear hWr hNr hPr hF hcs hP1 hN1 hW1 hPA hsz
  rcases hv0 with ⟨rfl, rfl⟩ | ⟨gb, n, cap, rfl, rfl, hn⟩
  all_goals (
    go_enter Tryz.func241, Tryz.ntmps241
    go_wp2_with (at_builtin; refine wpList_append_own _ rfl _ _ 23 rfl base 9 i0 (.string ⟨#[]⟩) 1 16 Tryz.underlying23 hi hz0 hz1 hz2 rfl (by decide) _ ps.length (strsV ps) rfl HP.out ⟨w.heap.size, 0, none⟩ 1 1 (strsV [t]) rfl rfl HC.out (fun u hu => by simp [strsV] at hu; subst hu; rfl) (by unfold maxLen; omega) (by omega) hbA ?_)
    intro v2 w2 o2 gr2 _
    rw [show strsV ps ++ strsV [t] = strsV (ps ++ [t]) by simp [strsV]] at o2
    have hrow : ∀ k, Value.ownBlock (.slice vpa vpn vpc) = some k → base ≤ k := fun k hk => (HP.out.lt k hk).1
    have F2 := FA.grown gr2 hR hrow
    have hN2 := hNA.kept gr2 (rows_apart HP.out hNA (by decide))
    have hW2 := hWA.kept gr2 (rows_apart HP.out hWA (by decide))
    have O2 := OA.trans (Only.grown gr2 hbA hrow)
    have hb2 := Nat.le_trans hbw O2.size
    clear gr2 HP hNA hWA FA OA hbA HC F1 O1
    obtain ⟨e0, e1, e2, e3⟩ := F2.cells
    have h2 := F2.frozen 2
    have F3 := (four_set F2 v2).2.2.1
    have hN3 := owns_set hN2 (p := ⟨R, 2, none⟩) hR v2
    have hW3 := owns_set hW2 (p := ⟨R, 2, none⟩) hR v2
    have hP3 := owns_set o2 (p := ⟨R, 2, none⟩) hR v2
    have O3 := O2.trans (Only.set w2 2 v2)
    have hb3 := Nat.le_trans hbw O3.size
    obtain ⟨k0, k1, k2, k3⟩ := F3.cells
    obtain ⟨q2, cap2, hv2⟩ : ∃ q cap, v2 = .slice q (ps.length + 1) cap := by
      rcases o2.2 with ⟨_, h⟩ | ⟨g, cap, cur, rfl, _⟩
      · omega
      · exact ⟨_, _, rfl⟩
    subst hv2
    clear o2 hN2 hW2 F2 O2 hb2 d0 d1 d2 d3 c0 c1 c2 c3
    have hRd : Rd (w2.setCell ⟨R, 2, none⟩ (.slice q2 (ps.length + 1) cap2)) R base [] ns (ps ++ [t]) true := ⟨_, _, _, F3, hW3, hN3, by simpa using hP3⟩
    clear F3 hN3 hW3 hP3
    by_cases hl : ps.length + 1 ≤ 3
    · have hl' : (ps.length : Int) + 1 ≤ 3 := by omega
      go_wp2_with (go_at_call 248; refine (implPart_c t htz _).mono ?_; rintro e w4 ⟨rfl, b4⟩)
      go_ret
      refine ⟨ret_bool (by simp [endOk, hl]), ?_, O3.trans (Only.below b4 hb3)⟩
      obtain ⟨x1, x2, x3, y1, y2, y3, y4⟩ := hRd
      exact ⟨x1, x2, x3, y1.keep b4, owns_of_below y2 b4, owns_of_below y3 b4, owns_of_below y4 b4⟩
    · have hl' : ¬ (ps.length : Int) + 1 ≤ 3 := by omega
      go_wp2
      go_ret
      exact ⟨ret_bool (by simp [endOk, hl]), hRd, O3⟩)
end Go.Proofs.YtlnofdlhjeomfaaGreatDoor

/-! What the program's reader of versions does at the end of a word of digits, and at each sign: contracts for the walks; condition: what it holds lies in memory as told. -/
namespace Go.Proofs.YtlnofdlhjeomfaaGreatDoor
open Go.RowKit
set_option linter.unusedSimpArgs false
set_option linter.unusedVariables false

theorem cell_int (w : World) (n : Int) : ∀ j u, [Value.int .i64 n][j]? = some u → (w.alloc (.cells #[.int .i64 n] 3)).cell? ((⟨w.heap.size, 0, none⟩ : Addr).add j) = some u := cell_one_new _ _ _
theorem cell_byte (w : World) (n : Int) : ∀ j u, [Value.int .u8 n][j]? = some u → (w.alloc (.cells #[.int .u8 n] 5)).cell? ((⟨w.heap.size, 0, none⟩ : Addr).add j) = some u := cell_one_new _ _ _
theorem Rd.keep {w w' : World} {R base : Nat} {ws ns : List Int} {ps : List ByteArray} {inP : Bool} (h : Rd w R base ws ns ps inP) (b : Below w.heap.size w w') : Rd w' R base ws ns ps inP := by
  obtain ⟨x1, x2, x3, y1, y2, y3, y4⟩ := h
  exact ⟨x1, x2, x3, y1.keep b, owns_of_below y2 b, owns_of_below y3 b, owns_of_below y4 b⟩

set_option maxHeartbeats 2000000 in
set_option maxRecDepth 100000 in
theorem ends_out (R base : Nat) (ws ns : List Int) (ps : List ByteArray) (w : World) (h : Rd w R base ws ns ps false) (hR : R < base) (hbw : base ≤ w.heap.size) (hw : ws.length ≤ 1048576) (hns : ns.length ≤ 1048576) :
    Calls Tryz.prog 241 #[.pointer (some ⟨R, 0, none⟩)] w fun e w' => e = .returned (.bool (endOk ns ps false (strOfNums ws))) ∧ Rd w' R base [] (endNs ns false (strOfNums ws)) (endPs ps false (strOfNums ws)) false ∧ Only R base w w' := by
  obtain ⟨i0, hi, hz0, hz1, hz2⟩ := info_parts infoI
  obtain ⟨vw, vn, vp, hF, hWr, hNr, hPr⟩ := h
  have hcv := conv_word hWr
  have htz : (strOfNums ws).size ≤ maxLen := by rw [strOfNums_size]; unfold maxLen; omega
  obtain ⟨t, ht⟩ : ∃ t, t = strOfNums ws := ⟨_, rfl⟩
  rw [← ht] at hcv htz ⊢
  clear ht
  obtain ⟨v0, hv0, hW0⟩ : ∃ v0, (vw = .slice none 0 0 ∧ v0 = .slice none 0 0 ∨ ∃ g n cap, vw = .slice (some ⟨g, 0, none⟩) n cap ∧ v0 = .slice (some ⟨g, 0, none⟩) 0 cap ∧ n ≤ cap) ∧ w.ownsRow base 5 1 v0 0 [] := by
    rcases hWr.2 with ⟨rfl, _⟩ | ⟨g, cap, cur, rfl, _, _, hn, _⟩
    · exact ⟨_, .inl ⟨rfl, rfl⟩, World.ownsRow_nil _ _ _ _⟩
    · exact ⟨_, .inr ⟨g, ws.length, cap, rfl, rfl, hn⟩, row_empty hWr⟩
  have F1 := (four_set hF v0).1
  have hW1 := owns_set hW0 (p := ⟨R, 0, none⟩) hR v0
  have hN1 := owns_set hNr (p := ⟨R, 0, none⟩) hR v0
  have hP1 := owns_set hPr (p := ⟨R, 0, none⟩) hR v0
  have O1 : Only R base w (w.setCell ⟨R, 0, none⟩ v0) := Only.set w 0 v0
  have hb1 : base ≤ (w.setCell ⟨R, 0, none⟩ v0).heap.size := Nat.le_trans hbw O1.size
  obtain ⟨c0, c1, c2, c3⟩ := hF.cells
  have f0 := hF.frozen 0
  obtain ⟨d0, d1, d2, d3⟩ := F1.cells
  have g2 := F1.frozen 1
  have hlR := F1.lt
  obtain ⟨m, hm⟩ : ∃ m, m = numOut t 9999 := ⟨_, rfl⟩
  have HNum : Hid (∀ w1, Calls Tryz.prog 105 #[.string t, .int .i64 9999] w1 fun e w' => e = .returned (.tuple #[.int .i64 m, .bool (numGood t 9999)]) ∧ w1 = w') := fun w1 => by rw [hm]; exact implNum_c t 9999 htz w1
  have HM : Hid (m = numOut t 9999) := hm
  clear hm
  have hsz : (w.setCell ⟨R, 0, none⟩ v0).heap.size = w.heap.size := by simp [World.setCell]
  have hcs := cell_int (w.setCell ⟨R, 0, none⟩ v0) m
  rw [hsz] at hcs
  have HC : Hid (∀ j u, (intsV [m])[j]? = some u → ((w.setCell ⟨R, 0, none⟩ v0).alloc (.cells #[.int .i64 m] 3)).cell? ((⟨w.heap.size, 0, none⟩ : Addr).add j) = some u) := hcs
  have hPA := hP1.alloc (.cells #[.int .i64 m] 3)
  have hNA := hN1.alloc (.cells #[.int .i64 m] 3)
  have hWA := hW1.alloc (.cells #[.int .i64 m] 3)
  have FA := four_old F1 (.cells #[.int .i64 m] 3)
  have OA : Only R base w ((w.setCell ⟨R, 0, none⟩ v0).alloc (.cells #[.int .i64 m] 3)) := O1.trans (Only.alloc _ hb1)
  have hbA : base ≤ ((w.setCell ⟨R, 0, none⟩ v0).alloc (.cells #[.int .i64 m] 3)).heap.size := Nat.le_trans hbw OA.size
  have HP : Hid (((w.setCell ⟨R, 0, none⟩ v0).alloc (.cells #[.int .i64 m] 3)).ownsRow base 3 1 vn ns.length (intsV ns)) := hNA
  obtain ⟨vna, vnn, vnc, rfl⟩ : ∃ a n cap, vn = .slice a n cap := by rcases hNr.2 with ⟨rfl, _⟩ | ⟨g, cap, cur, rfl, _⟩ <;> exact ⟨_, _, _, rfl⟩
  clear hWr hNr hPr hF hcs hP1 hN1 hW1 hNA hsz
  rcases hv0 with ⟨rfl, rfl⟩ | ⟨gb, n, cap, rfl, rfl, hn⟩
  all_goals (
    go_enter Tryz.func241, Tryz.ntmps241
    go_wp2_with (first
      | (go_at_call 105; refine (HNum.out _).mono ?_; rintro e w1 ⟨rfl, rfl⟩)
      | (at_builtin; refine wpList_append_own _ rfl _ _ 269 rfl base 3 i0 (.int .i64 0) 1 8 Tryz.underlying269 hi hz0 hz1 hz2 rfl (by decide) _ ns.length (intsV ns) rfl HP.out ⟨w.heap.size, 0, none⟩ 1 1 (intsV [m]) rfl rfl HC.out (fun u hu => by simp [intsV] at hu; subst hu; rfl) (by unfold maxLen; omega) (by omega) hbA ?_))
    intro v2 w2 o2 gr2 _
    rw [show intsV ns ++ intsV [m] = intsV (ns ++ [m]) by simp [intsV]] at o2
    have hrow : ∀ k, Value.ownBlock (.slice vna vnn vnc) = some k → base ≤ k := fun k hk => (HP.out.lt k hk).1
    have F2 := FA.grown gr2 hR hrow
    have hP2 := hPA.kept gr2 (rows_apart HP.out hPA (by decide))
    have hW2 := hWA.kept gr2 (rows_apart HP.out hWA (by decide))
    have O2 := OA.trans (Only.grown gr2 hbA hrow)
    have hb2 := Nat.le_trans hbw O2.size
    clear gr2 HP hPA hWA FA OA hbA HC F1 O1
    obtain ⟨e0, e1, e2, e3⟩ := F2.cells
    have h2 := F2.frozen 1
    have F3 := (four_set F2 v2).2.1
    have hN3 := owns_set o2 (p := ⟨R, 1, none⟩) hR v2
    have hW3 := owns_set hW2 (p := ⟨R, 1, none⟩) hR v2
    have hP3 := owns_set hP2 (p := ⟨R, 1, none⟩) hR v2
    have O3 := O2.trans (Only.set w2 1 v2)
    have hb3 := Nat.le_trans hbw O3.size
    obtain ⟨k0, k1, k2, k3⟩ := F3.cells
    obtain ⟨q2, cap2, hv2⟩ : ∃ q cap, v2 = .slice q (ns.length + 1) cap := by
      rcases o2.2 with ⟨_, h⟩ | ⟨g, cap, cur, rfl, _⟩
      · omega
      · exact ⟨_, _, rfl⟩
    subst hv2
    clear o2 hP2 hW2 F2 O2 hb2 d0 d1 d2 d3 c0 c1 c2 c3
    have hRd : Rd (w2.setCell ⟨R, 1, none⟩ (.slice q2 (ns.length + 1) cap2)) R base [] (ns ++ [m]) ps false := ⟨_, _, _, F3, hW3, by simpa using hN3, hP3⟩
    rw [HM.out] at hRd
    clear F3 hN3 hW3 hP3
    cases hg : numGood t 9999 with
    | true =>
      go_wp2
      go_ret
      refine ⟨ret_bool ?_, hRd, O3⟩
      rw [endOk, if_neg (by simp), hg, Bool.eq_iff_iff]
      simp; try omega
    | false =>
      go_wp2
      go_ret
      exact ⟨ret_bool (by rw [endOk, if_neg (by simp), hg]; rfl), hRd, O3⟩)

theorem ends_c (R base : Nat) (ws ns : List Int) (ps : List ByteArray) (inP : Bool) (w : World) (h : Rd w R base ws ns ps inP) (hR : R < base) (hbw : base ≤ w.heap.size) (hw : ws.length ≤ 1048576) (hns : ns.length ≤ 1048576) (hps : ps.length ≤ 1048576) :
    Calls Tryz.prog 241 #[.pointer (some ⟨R, 0, none⟩)] w fun e w' => e = .returned (.bool (endOk ns ps inP (strOfNums ws))) ∧ Rd w' R base [] (endNs ns inP (strOfNums ws)) (endPs ps inP (strOfNums ws)) inP ∧ Only R base w w' := by
  cases inP
  · exact ends_out R base ws ns ps w h hR hbw hw hns
  · exact ends_in R base ws ns ps w h hR hbw hw hps
end Go.Proofs.YtlnofdlhjeomfaaGreatDoor

/-! What the program's reader of versions does at each sign: contracts for the walks; condition: what it holds lies in memory as told. -/
namespace Go.Proofs.YtlnofdlhjeomfaaGreatDoor
open Go.RowKit
set_option linter.unusedSimpArgs false
set_option linter.unusedVariables false

set_option maxHeartbeats 2000000 in
set_option maxRecDepth 100000 in
theorem takes_dot (R base : Nat) (ws ns : List Int) (ps : List ByteArray) (inP : Bool) (w : World) (h : Rd w R base ws ns ps inP) (hR : R < base) (hbw : base ≤ w.heap.size) (hw : ws.length ≤ 1048576) (hns : ns.length ≤ 1048576) (hps : ps.length ≤ 1048576) :
    Calls Tryz.prog 240 #[.pointer (some ⟨R, 0, none⟩), .int .i32 46] w fun e w' => e = .returned (.bool (endOk ns ps inP (strOfNums ws))) ∧ Rd w' R base [] (endNs ns inP (strOfNums ws)) (endPs ps inP (strOfNums ws)) inP ∧ Only R base w w' := by
  have HE := ends_c R base ws ns ps inP w h hR hbw hw hns hps
  clear h
  go_enter Tryz.func240, Tryz.ntmps240
  go_wp2_with (go_at_call 241; refine HE.mono ?_; rintro e w1 ⟨rfl, h1, o1⟩)
  go_ret
  exact ⟨rfl, h1, o1⟩

set_option maxHeartbeats 2000000 in
set_option maxRecDepth 100000 in
theorem takes_dash (R base : Nat) (ws ns : List Int) (ps : List ByteArray) (w : World) (h : Rd w R base ws ns ps false) (hR : R < base) (hbw : base ≤ w.heap.size) (hw : ws.length ≤ 1048576) (hns : ns.length ≤ 1048576) (hps : ps.length ≤ 1048576) :
    Calls Tryz.prog 240 #[.pointer (some ⟨R, 0, none⟩), .int .i32 45] w fun e w' => e = .returned (.bool (endOk ns ps false (strOfNums ws))) ∧ Rd w' R base [] (endNs ns false (strOfNums ws)) (endPs ps false (strOfNums ws)) true ∧ Only R base w w' := by
  have HE := ends_c R base ws ns ps false w h hR hbw hw hns hps
  obtain ⟨vw, vn, vp, hF, hWr, hNr, hPr⟩ := h
  obtain ⟨c0, c1, c2, c3⟩ := hF.cells
  clear hWr hNr hPr hF
  go_enter Tryz.func240, Tryz.ntmps240
  go_wp2_with fail
  go_at_call 241
  refine HE.mono ?_
  rintro e w1 ⟨rfl, ⟨vw', vn', vp', F1, hW1, hN1, hP1⟩, o1⟩
  obtain ⟨d0, d1, d2, d3⟩ := F1.cells
  have g3 := F1.frozen 3
  go_wp2_with fail
  go_ret
  exact ⟨rfl, ⟨_, _, _, (four_set F1 (.bool true)).2.2.2, owns_set hW1 (p := ⟨R, 3, none⟩) hR _, owns_set hN1 (p := ⟨R, 3, none⟩) hR _, owns_set hP1 (p := ⟨R, 3, none⟩) hR _⟩, o1.trans (Only.set w1 3 _)⟩

theorem pre_range {c : Int} (h : preB c = true) : 45 ≤ c ∧ c ≤ 122 := by
  simp [preB, smallB, inB, digitB] at h; omega

set_option maxHeartbeats 2000000 in
set_option maxRecDepth 100000 in
theorem takes_sign (R base : Nat) (ws ns : List Int) (ps : List ByteArray) (inP : Bool) (c : Int) (w : World) (h : Rd w R base ws ns ps inP) (hR : R < base) (hbw : base ≤ w.heap.size) (hw : ws.length ≤ 1048576) (hc1 : ¬ c = 46) (hc2 : ¬ (c = 45 ∧ inP = false)) (hp : preB c = true) :
    Calls Tryz.prog 240 #[.pointer (some ⟨R, 0, none⟩), .int .i32 c] w fun e w' => e = .returned (.bool true) ∧ Rd w' R base (ws ++ [c]) ns ps inP ∧ Only R base w w' := by
  obtain ⟨i0, hi, hz0, hz1, hz2⟩ := info_parts info5
  have hcr := pre_range hp
  obtain ⟨hcl, hch⟩ := hcr
  obtain ⟨vw, vn, vp, hF, hWr, hNr, hPr⟩ := h
  obtain ⟨c0, c1, c2, c3⟩ := hF.cells
  have f0 := hF.frozen 0
  have hlR := hF.lt
  have e1 : (c == 46) = false := by simpa using hc1
  have HC : Hid (∀ j u, (bytesV [c])[j]? = some u → (w.alloc (.cells #[.int .u8 c] 5)).cell? ((⟨w.heap.size, 0, none⟩ : Addr).add j) = some u) := cell_byte w c
  have hPA := hPr.alloc (.cells #[.int .u8 c] 5)
  have hNA := hNr.alloc (.cells #[.int .u8 c] 5)
  have hWA := hWr.alloc (.cells #[.int .u8 c] 5)
  have FA := four_old hF (.cells #[.int .u8 c] 5)
  have OA : Only R base w (w.alloc (.cells #[.int .u8 c] 5)) := Only.alloc _ hbw
  have hbA : base ≤ (w.alloc (.cells #[.int .u8 c] 5)).heap.size := Nat.le_trans hbw OA.size
  have HP : Hid ((w.alloc (.cells #[.int .u8 c] 5)).ownsRow base 5 1 vw ws.length (bytesV ws)) := hWA
  obtain ⟨vna, vnn, vnc, rfl⟩ : ∃ a n cap, vw = .slice a n cap := by rcases hWr.2 with ⟨rfl, _⟩ | ⟨g, cap, cur, rfl, _⟩ <;> exact ⟨_, _, _, rfl⟩
  have hwu : IntKind.u8.wrap c = c := by simp [IntKind.wrap, IntKind.signed, IntKind.bits]; omega
  clear hWr hNr hPr hF hWA
  have hfin : ∀ v2 w2, w2.ownsRow base 5 1 v2 (ws.length + 1) (bytesV ws ++ bytesV [c]) → (w.alloc (.cells #[.int .u8 c] 5)).grownBy w2 (Value.ownBlock (.slice vna vnn vnc)) → Four w2 R 275 (.slice vna vnn vnc) vn vp (.bool inP) ∧ Rd (w2.setCell ⟨R, 0, none⟩ v2) R base (ws ++ [c]) ns ps inP ∧ Only R base w (w2.setCell ⟨R, 0, none⟩ v2) := fun v2 w2 o2 gr2 => by
    have hrow : ∀ k, Value.ownBlock (.slice vna vnn vnc) = some k → base ≤ k := fun k hk => (HP.out.lt k hk).1
    have F2 := FA.grown gr2 hR hrow
    have hP2 := hPA.kept gr2 (rows_apart HP.out hPA (by decide))
    have hN2 := hNA.kept gr2 (rows_apart HP.out hNA (by decide))
    rw [show bytesV ws ++ bytesV [c] = bytesV (ws ++ [c]) by simp [bytesV]] at o2
    refine ⟨F2, ⟨_, _, _, (four_set F2 v2).1, by simpa using owns_set o2 (p := ⟨R, 0, none⟩) hR v2, owns_set hN2 (p := ⟨R, 0, none⟩) hR v2, owns_set hP2 (p := ⟨R, 0, none⟩) hR v2⟩, (OA.trans (Only.grown gr2 hbA hrow)).trans (Only.set w2 0 v2)⟩
  have HF : Hid (∀ v2 w2, w2.ownsRow base 5 1 v2 (ws.length + 1) (bytesV ws ++ bytesV [c]) → (w.alloc (.cells #[.int .u8 c] 5)).grownBy w2 (Value.ownBlock (.slice vna vnn vnc)) → Four w2 R 275 (.slice vna vnn vnc) vn vp (.bool inP) ∧ Rd (w2.setCell ⟨R, 0, none⟩ v2) R base (ws ++ [c]) ns ps inP ∧ Only R base w (w2.setCell ⟨R, 0, none⟩ v2)) := hfin
  clear hfin hPA hNA FA OA
  by_cases hd : c = 45
  · have hin : inP = true := by cases inP with | true => rfl | false => exact absurd ⟨hd, rfl⟩ hc2
    subst hin
    have e2 : (c == 45) = true := by simpa using hd
    clear hd hc2 hc1
    go_enter Tryz.func240, Tryz.ntmps240
    go_wp2_with (first
      | (go_at_call 256; refine (isPreSign_c _ _).mono ?_; rintro e w1 ⟨rfl, rfl⟩)
      | (at_builtin; refine wpList_append_own _ rfl _ _ 136 rfl base 5 i0 (.int .u8 0) 1 1 Tryz.underlying136 hi hz0 hz1 hz2 rfl (by decide) _ ws.length (bytesV ws) rfl HP.out ⟨w.heap.size, 0, none⟩ 1 1 (bytesV [c]) rfl rfl HC.out (fun u hu => by simp [bytesV] at hu; subst hu; rfl) (by unfold maxLen; omega) (by omega) hbA ?_))
    intro v2 w2 o2 gr2 _
    obtain ⟨F2, hRd, O2⟩ := HF.out v2 w2 o2 gr2
    obtain ⟨d0, d1, d2, d3⟩ := F2.cells
    have g0 := F2.frozen 0
    obtain ⟨q2, cap2, hv2⟩ : ∃ q cap, v2 = .slice q (ws.length + 1) cap := by
      rcases o2.2 with ⟨_, h⟩ | ⟨g, cap, cur, rfl, _⟩
      · omega
      · exact ⟨_, _, rfl⟩
    subst hv2
    clear o2 gr2 HF HP HC
    go_wp2_with fail
    go_ret
    exact ⟨rfl, hRd, O2⟩
  · have e2 : (c == 45) = false := by simpa using hd
    clear hd hc2 hc1
    go_enter Tryz.func240, Tryz.ntmps240
    go_wp2_with (first
      | (go_at_call 256; refine (isPreSign_c _ _).mono ?_; rintro e w1 ⟨rfl, rfl⟩)
      | (at_builtin; refine wpList_append_own _ rfl _ _ 136 rfl base 5 i0 (.int .u8 0) 1 1 Tryz.underlying136 hi hz0 hz1 hz2 rfl (by decide) _ ws.length (bytesV ws) rfl HP.out ⟨w.heap.size, 0, none⟩ 1 1 (bytesV [c]) rfl rfl HC.out (fun u hu => by simp [bytesV] at hu; subst hu; rfl) (by unfold maxLen; omega) (by omega) hbA ?_))
    intro v2 w2 o2 gr2 _
    obtain ⟨F2, hRd, O2⟩ := HF.out v2 w2 o2 gr2
    obtain ⟨d0, d1, d2, d3⟩ := F2.cells
    have g0 := F2.frozen 0
    obtain ⟨q2, cap2, hv2⟩ : ∃ q cap, v2 = .slice q (ws.length + 1) cap := by
      rcases o2.2 with ⟨_, h⟩ | ⟨g, cap, cur, rfl, _⟩
      · omega
      · exact ⟨_, _, rfl⟩
    subst hv2
    clear o2 gr2 HF HP HC
    go_wp2_with fail
    go_ret
    exact ⟨rfl, hRd, O2⟩

set_option maxHeartbeats 2000000 in
set_option maxRecDepth 100000 in
theorem takes_bad (R base : Nat) (ws ns : List Int) (ps : List ByteArray) (inP : Bool) (c : Int) (w : World) (h : Rd w R base ws ns ps inP) (hc1 : ¬ c = 46) (hc2 : ¬ c = 45) (hp : preB c = false) :
    Calls Tryz.prog 240 #[.pointer (some ⟨R, 0, none⟩), .int .i32 c] w fun e w' => e = .returned (.bool false) ∧ w = w' := by
  have e1 : (c == 46) = false := by simpa using hc1
  have e2 : (c == 45) = false := by simpa using hc2
  clear hc1 hc2 h
  go_enter Tryz.func240, Tryz.ntmps240
  go_wp2_with (go_at_call 256; refine (isPreSign_c _ _).mono ?_; rintro e w1 ⟨rfl, rfl⟩)
  go_ret
  exact ⟨rfl, rfl⟩
end Go.Proofs.YtlnofdlhjeomfaaGreatDoor

/-! What the program's ParseVer answers: what its reader tells of the text's bytes: a contract for the walks; condition: the text has at most 2 to the 20 bytes. -/
namespace Go.Proofs.YtlnofdlhjeomfaaGreatDoor
open Go.RowKit
set_option linter.unusedSimpArgs false
set_option linter.unusedVariables false

def wordL (s : ByteArray) (b i : Nat) : List Int := (s.extract b i).data.toList.map fun u => (u.toNat : Int)
theorem word_str (s : ByteArray) (b i : Nat) : strOfNums (wordL s b i) = s.extract b i := by
  apply vext
  rw [strOfNums_data, wordL, List.map_map]
  conv => rhs; rw [← List.map_id (s.extract b i).data.toList]
  apply List.map_congr_left
  intro u _
  simp
theorem word_nil (s : ByteArray) (b : Nat) : wordL s b b = [] := by rw [wordL, vextract, Nat.sub_self]; rfl
theorem word_snoc (s : ByteArray) (b i : Nat) (hb : b ≤ i) (hi : i < s.size) : wordL s b (i + 1) = wordL s b i ++ [((s.data[i]!).toNat : Int)] := by
  rw [wordL, wordL, vextract, vextract, show i + 1 - b = (i - b) + 1 by omega, List.take_succ_eq_append_getElem (by rw [List.length_drop, vlen]; omega), List.map_append, List.getElem_drop]
  have e : s.data.toList[b + (i - b)]'(by rw [vlen]; omega) = s.data[i]! := by
    rw [getElem!_pos s.data i hi]
    simp [show b + (i - b) = i by omega]
  rw [e]; rfl
theorem word_len (s : ByteArray) (b i : Nat) (hb : b ≤ i) (hi : i ≤ s.size) : (wordL s b i).length = i - b := by
  rw [wordL, List.length_map, vlen, vsize s b i hb hi]

/-- What a sign does. -/
def endsB (c : Int) (inP : Bool) : Bool := c == 46 || (c == 45 && !inP)
def takeOk (c : Int) (ns : List Int) (ps : List ByteArray) (inP : Bool) (t : ByteArray) : Bool := if endsB c inP then endOk ns ps inP t else preB c
def takeNs (c : Int) (ns : List Int) (inP : Bool) (t : ByteArray) : List Int := if endsB c inP then endNs ns inP t else ns
def takePs (c : Int) (ps : List ByteArray) (inP : Bool) (t : ByteArray) : List ByteArray := if endsB c inP then endPs ps inP t else ps
def takeIn (c : Int) (inP : Bool) : Bool := inP || c == 45
def takeWs (c : Int) (ws : List Int) (inP : Bool) : List Int := if endsB c inP then [] else ws ++ [c]

theorem takes_c (R base : Nat) (ws ns : List Int) (ps : List ByteArray) (inP : Bool) (c : Int) (w : World) (h : Rd w R base ws ns ps inP) (hR : R < base) (hbw : base ≤ w.heap.size) (hw : ws.length ≤ 1048576) (hns : ns.length ≤ 1048576) (hps : ps.length ≤ 1048576) :
    Calls Tryz.prog 240 #[.pointer (some ⟨R, 0, none⟩), .int .i32 c] w fun e w' => e = .returned (.bool (takeOk c ns ps inP (strOfNums ws))) ∧ (takeOk c ns ps inP (strOfNums ws) = true → Rd w' R base (takeWs c ws inP) (takeNs c ns inP (strOfNums ws)) (takePs c ps inP (strOfNums ws)) (takeIn c inP)) ∧ Only R base w w' := by
  by_cases h1 : c = 46
  · subst h1
    refine (takes_dot R base ws ns ps inP w h hR hbw hw hns hps).mono ?_
    rintro e w' ⟨rfl, h1, o1⟩
    have e : endsB 46 inP = true := by simp [endsB]
    have e2 : takeIn 46 inP = inP := by simp [takeIn]
    rw [takeOk, takeWs, takeNs, takePs, e, e2]
    exact ⟨rfl, fun _ => h1, o1⟩
  · by_cases h2 : c = 45 ∧ inP = false
    · obtain ⟨rfl, rfl⟩ := h2
      refine (takes_dash R base ws ns ps w h hR hbw hw hns hps).mono ?_
      rintro e w' ⟨rfl, h1, o1⟩
      exact ⟨rfl, fun _ => h1, o1⟩
    · have e : endsB c inP = false := by
        cases inP
        · have : ¬ c = 45 := fun h => h2 ⟨h, rfl⟩
          simp [endsB, h1, this]
        · simp [endsB, h1]
      rw [takeOk, takeWs, takeNs, takePs, e]
      cases hp : preB c with
      | true =>
        refine (takes_sign R base ws ns ps inP c w h hR hbw hw h1 h2 hp).mono ?_
        rintro e w' ⟨rfl, h1, o1⟩
        have e2 : takeIn c inP = inP := by
          cases inP
          · have : ¬ c = 45 := fun h => h2 ⟨h, rfl⟩
            simp [takeIn, this]
          · simp [takeIn]
        rw [e2]
        exact ⟨rfl, fun _ => h1, o1⟩
      | false =>
        have h3 : ¬ c = 45 := fun h => by subst h; exact absurd hp (by decide)
        refine (takes_bad R base ws ns ps inP c w h h1 h3 hp).mono ?_
        rintro e w' ⟨rfl, rfl⟩
        exact ⟨rfl, fun h => by simp at h, Only.refl _ _ _⟩

theorem reads_step (s : ByteArray) (i b : Nat) (ns : List Int) (ps : List ByteArray) (inP : Bool) (hi : i < s.size) (c : Int) (hc : c = ((s.data[i]!).toNat : Int)) :
    reads s (s.size - i) i b ns ps inP = if takeOk c ns ps inP (s.extract b i) then reads s (s.size - (i + 1)) (i + 1) (if endsB c inP then i + 1 else b) (takeNs c ns inP (s.extract b i)) (takePs c ps inP (s.extract b i)) (takeIn c inP) else none := by
  subst hc
  rw [show s.size - i = (s.size - (i + 1)) + 1 by omega, reads]
  generalize ((s.data[i]!).toNat : Int) = c
  by_cases h1 : c = 46
  · subst h1
    simp [takeOk, takeNs, takePs, takeIn, endsB]
  · rw [if_neg h1]
    by_cases h2 : c = 45 ∧ inP = false
    · obtain ⟨rfl, rfl⟩ := h2
      simp [takeOk, takeNs, takePs, takeIn, endsB]
    · rw [if_neg h2]
      have e : endsB c inP = false := by
        cases inP
        · have : ¬ c = 45 := fun h => h2 ⟨h, rfl⟩
          simp [endsB, h1, this]
        · simp [endsB, h1]
      have e2 : takeIn c inP = inP := by
        cases inP
        · have : ¬ c = 45 := fun h => h2 ⟨h, rfl⟩
          simp [takeIn, this]
        · simp [takeIn]
      rw [takeOk, takeNs, takePs, e, e2]
      simp

theorem take_len {c : Int} {ns : List Int} {ps : List ByteArray} {inP : Bool} {t : ByteArray} (h : takeOk c ns ps inP t = true) (hn : ns.length ≤ 3) (hp : ps.length ≤ 3) : (takeNs c ns inP t).length ≤ 3 ∧ (takePs c ps inP t).length ≤ 3 := by
  unfold takeOk takeNs takePs at *
  cases he : endsB c inP
  · simp [he, hn, hp]
  · rw [he] at h
    cases inP
    · simp [endOk, endNs, endPs] at *; omega
    · simp [endOk, endNs, endPs] at *; omega

theorem iter_four {w : World} {R k : Nat} {t : TypeId} {c0 c1 c2 c3 : Value} (h : Four w R t c0 c1 c2 c3) (hk : R ≠ k) (s : ByteArray) (p : Nat) : Four (w.iterAt k s p) R t c0 c1 c2 c3 := (Lib.iterAt_other w k R s p hk).trans h
theorem iter_owns {w : World} {base : Nat} {e : TypeId} {v : Value} {n : Nat} {xs : List Value} (h : w.ownsRow base e 1 v n xs) {k : Nat} (hk : k < base) (s : ByteArray) (p : Nat) : (w.iterAt k s p).ownsRow base e 1 v n xs := by
  obtain ⟨h1, h2⟩ := h
  refine ⟨h1, ?_⟩
  rcases h2 with h2 | ⟨g, cap, cur, a, b, c, d⟩
  · exact .inl h2
  · exact .inr ⟨g, cap, cur, a, b, by rw [Lib.iterAt_other _ _ _ _ _ (by omega)]; exact c, d⟩
theorem Rd.iter {w : World} {R base : Nat} {ws ns : List Int} {ps : List ByteArray} {inP : Bool} (h : Rd w R base ws ns ps inP) {k : Nat} (hk : k < base) (hR : R ≠ k) (s : ByteArray) (p : Nat) : Rd (w.iterAt k s p) R base ws ns ps inP := by
  obtain ⟨x1, x2, x3, y1, y2, y3, y4⟩ := h
  exact ⟨x1, x2, x3, iter_four y1 hR s p, iter_owns y2 hk s p, iter_owns y3 hk s p, iter_owns y4 hk s p⟩

def resAll (s : ByteArray) : Option (List Int × List ByteArray) := reads s s.size 0 0 [] [] false
def resOk (s : ByteArray) : Bool := (resAll s).isSome
def resN (s : ByteArray) (j : Nat) : Int := match resAll s with | some (ns, _) => ns.getD j 0 | none => 0
def resP (s : ByteArray) : List ByteArray := match resAll s with | some (_, ps) => ps | none => []
end Go.Proofs.YtlnofdlhjeomfaaGreatDoor

/-! What the program's ParseVer answers: what its reader tells of the text's bytes: a contract for the walks; condition: the text has at most 2 to the 20 bytes. -/
namespace Go.Proofs.YtlnofdlhjeomfaaGreatDoor
open Go.RowKit
set_option linter.unusedSimpArgs false
set_option linter.unusedVariables false

def zeroVer : Value := .agg #[.int .i64 0, .int .i64 0, .int .i64 0, .slice none 0 0]
def verOut (s : ByteArray) (u : Value) : Value := .tuple #[.agg #[.int .i64 (resN s 0), .int .i64 (resN s 1), .int .i64 (resN s 2), u], .bool (resOk s)]
theorem out_none {s : ByteArray} (h : resAll s = none) : verOut s (.slice none 0 0) = .tuple #[.agg #[.int .i64 0, .int .i64 0, .int .i64 0, .slice none 0 0], .bool false] ∧ resP s = [] := by
  simp [verOut, resN, resOk, resP, h]
theorem out_some {s : ByteArray} {ns : List Int} {ps : List ByteArray} (h : resAll s = some (ns, ps)) (u : Value) : verOut s u = .tuple #[.agg #[.int .i64 (ns.getD 0 0), .int .i64 (ns.getD 1 0), .int .i64 (ns.getD 2 0), u], .bool true] ∧ resP s = ps := by
  simp [verOut, resN, resOk, resP, h]
theorem Only.four {R base N : Nat} {w w' : World} {t : TypeId} {c0 c1 c2 c3 : Value} (h : Only R base w w') (hF : Four w N t c0 c1 c2 c3) (hN : N < base) (hR : N ≠ R) : Four w' N t c0 c1 c2 c3 := (h.block N hN hR).trans hF
theorem Only.belowW {R base B : Nat} {w0 w w' : World} (h : Only R base w w') (hb : Below B w0 w) (hB : B ≤ base) (hR : B ≤ R) : Below B w0 w' :=
  hb.trans ⟨h.os, h.tape, h.output, h.size, fun k hk => h.block k (by omega) (by omega)⟩

theorem far4 {w : World} {N g j : Nat} {v0 v1 v2 v3 : Value} (h : g ≠ N) : ((((w.setCell ⟨N, 0, none⟩ v0).setCell ⟨N, 1, none⟩ v1).setCell ⟨N, 2, none⟩ v2).setCell ⟨N, 3, none⟩ v3).drew.cell? ⟨g, j, none⟩ = w.cell? ⟨g, j, none⟩ := by
  have hh : ∀ (a : World) (i : Nat) (x : Value), (a.setCell ⟨N, i, none⟩ x).cell? ⟨g, j, none⟩ = a.cell? ⟨g, j, none⟩ := fun a i x => World.cell?_setCell_other _ _ _ _ (by intro e; injection e; omega)
  show ((((w.setCell ⟨N, 0, none⟩ v0).setCell ⟨N, 1, none⟩ v1).setCell ⟨N, 2, none⟩ v2).setCell ⟨N, 3, none⟩ v3).cell? ⟨g, j, none⟩ = _
  rw [hh, hh, hh, hh]
theorem owns_lower {w : World} {base base' : Nat} {e : TypeId} {v : Value} {n : Nat} {xs : List Value} (h : w.ownsRow base e 1 v n xs) (hb : base' ≤ base) : w.ownsRow base' e 1 v n xs := by
  obtain ⟨h1, h2⟩ := h
  refine ⟨h1, ?_⟩
  rcases h2 with h2 | ⟨g, cap, cur, a, b, c⟩
  · exact .inl h2
  · exact .inr ⟨g, cap, cur, a, Nat.le_trans hb b, c⟩
theorem endNs_len {ns : List Int} {inP : Bool} {t : ByteArray} (h : ns.length ≤ 3) : (endNs ns inP t).length ≤ 4 := by
  cases inP <;> simp [endNs] <;> omega
theorem two_new {w : World} (o o' : Obj) : Below w.heap.size w ((w.alloc o).alloc o') := ((Below.refl _ _).alloc (Nat.le_refl _) _).alloc (by simp) _

set_option maxHeartbeats 4000000 in
set_option maxRecDepth 100000 in
theorem implParse_c (s : ByteArray) (hs : s.size ≤ 1048576) (w : World) :
    Calls Tryz.prog 217 #[.string s] w fun e w' => ∃ u, e = .returned (verOut s u) ∧ w'.ownsRow w.heap.size 9 1 u (resP s).length (strsV (resP s)) ∧ Below w.heap.size w w' := by
  obtain ⟨A0, B0⟩ := four_two w 219 275 (.int .i64 0) (.int .i64 0) (.int .i64 0) (.slice none 0 0) (.slice none 0 0) (.slice none 0 0) (.slice none 0 0) (.bool false)
  have hbW := two_new (w := w) (.cells #[.int .i64 0, .int .i64 0, .int .i64 0, .slice none 0 0] 219) (.cells #[.slice none 0 0, .slice none 0 0, .slice none 0 0, .bool false] 275)
  have hsW : ((w.alloc (.cells #[.int .i64 0, .int .i64 0, .int .i64 0, .slice none 0 0] 219)).alloc (.cells #[.slice none 0 0, .slice none 0 0, .slice none 0 0, .bool false] 275)).heap.size = w.heap.size + 1 + 1 := by simp
  go_enter Tryz.func217, Tryz.ntmps217
  go_wp2
  go_loopw [6] (fun _ wr => ∃ (pos b : Nat) (ns : List Int) (ps : List ByteArray) (inP : Bool), pos ≤ s.size ∧ b ≤ pos ∧ ns.length ≤ 3 ∧ ps.length ≤ 3 ∧ wr.heap[w.heap.size + 1 + 1]? = some (.stringIter s pos) ∧ Rd wr (w.heap.size + 1) (w.heap.size + 1 + 1 + 1) (wordL s b pos) ns ps inP ∧ Hid (reads s (s.size - pos) pos b ns ps inP = resAll s) ∧ Below w.heap.size w wr ∧ Four wr w.heap.size 219 (.int .i64 0) (.int .i64 0) (.int .i64 0) (.slice none 0 0) ∧ w.heap.size + 1 + 1 + 1 ≤ wr.heap.size) (fun _ wr => s.size - wr.iterPos (w.heap.size + 1 + 1))
  case atStart =>
    refine ⟨0, 0, [], [], false, Nat.zero_le _, Nat.le_refl _, by simp, by simp, ?_, ⟨_, _, _, four_old B0 _, ?_, ?_, ?_⟩, rfl, hbW.alloc hbW.size _, four_old A0 _, by simp [World.iter]⟩
    · have := World.iter_heap ((w.alloc (.cells #[.int .i64 0, .int .i64 0, .int .i64 0, .slice none 0 0] 219)).alloc (.cells #[.slice none 0 0, .slice none 0 0, .slice none 0 0, .bool false] 275)) s 0
      rw [hsW] at this
      exact this
    · rw [word_nil]; exact World.ownsRow_nil _ _ _ _
    · exact World.ownsRow_nil _ _ _ _
    · exact World.ownsRow_nil _ _ _ _
  case round =>
    obtain ⟨pos, b, ns, ps, inP, hk, hbp, hns, hps, hit, hRd, hh, hbw, hA, hsz⟩ := hrel
    have hpos0 := iterPos_of hit
    clear A0 B0 hbW hsW
    by_cases hp : pos < s.size
    · obtain ⟨c, d, hd, hc⟩ : ∃ (c : Int) (d : Nat), (∀ ty, (Instr.next (.pointer (some ⟨w.heap.size + 1 + 1, 0, none⟩)) true ty).run Tryz.prog wr = .ok (.tuple #[.bool true, .int .i64 pos, .int .i32 c]) (wr.iterAt (w.heap.size + 1 + 1) s (pos + d))) ∧ ((c = ((s.data[pos]!).toNat : Int) ∧ d = 1) ∨ (128 ≤ c ∧ 128 ≤ ((s.data[pos]!).toNat : Int))) := by
        by_cases ha : (s[pos]).toNat < 128
        · exact ⟨_, 1, fun ty => Lib.run_next_ascii_at wr _ s pos ty hit hp ha, .inl ⟨by rw [byteBang s pos hp], rfl⟩⟩
        · exact ⟨_, _, fun ty => Lib.run_next_any_at wr _ s pos ty hit hp, .inr ⟨by have := (decode_high s pos hp (by omega)).1; omega, by rw [byteBang s pos hp]; omega⟩⟩
      have hit2 := Lib.iterAt_heap wr (w.heap.size + 1 + 1) s pos (pos + d) hit
      have hbw2 := Lib.below_iterAt hbw (k := w.heap.size + 1 + 1) (by omega) s (pos + d)
      have hRd2 := hRd.iter (k := w.heap.size + 1 + 1) (by omega) (by omega) s (pos + d)
      have hA2 := iter_four hA (k := w.heap.size + 1 + 1) (by omega) s (pos + d)
      have hsz2 : w.heap.size + 1 + 1 + 1 ≤ (wr.iterAt (w.heap.size + 1 + 1) s (pos + d)).heap.size := by
        have := (Array.getElem?_eq_some_iff.1 hit2).1; omega
      obtain ⟨W1, hW1⟩ : ∃ W1, W1 = wr.iterAt (w.heap.size + 1 + 1) s (pos + d) := ⟨_, rfl⟩
      rw [← hW1] at hd hit2 hbw2 hRd2 hA2 hsz2
      clear hW1 hit hbw hRd hA hsz
      have HT := takes_c (w.heap.size + 1) (w.heap.size + 1 + 1 + 1) (wordL s b pos) ns ps inP c W1 hRd2 (by omega) hsz2 (by rw [word_len s b pos hbp (by omega)]; omega) (by omega) (by omega)
      rw [word_str] at HT
      have HH : Hid (takeOk c ns ps inP (s.extract b pos) = false → resAll s = none) := fun h => by
        rw [← hh.out]
        rcases hc with ⟨hc, _⟩ | ⟨h1, h2⟩
        · rw [reads_step s pos b ns ps inP hp c hc, if_neg (by rw [h]; simp)]
        · rw [reads_step s pos b ns ps inP hp _ rfl]
          have e : takeOk ((s.data[pos]!).toNat : Int) ns ps inP (s.extract b pos) = false := by
            have e1 : endsB ((s.data[pos]!).toNat : Int) inP = false := by simp [endsB]; omega
            rw [takeOk, e1, if_neg (by simp), pre_high h2]
          rw [if_neg (by rw [e]; simp)]
      have HG : Hid (takeOk c ns ps inP (s.extract b pos) = true → d = 1 ∧ c = ((s.data[pos]!).toNat : Int)) := fun h => by
        rcases hc with ⟨hc, hd⟩ | ⟨h1, h2⟩
        · exact ⟨hd, hc⟩
        · have e1 : endsB c inP = false := by simp [endsB]; omega
          rw [takeOk, e1, if_neg (by simp), pre_high h1] at h
          cases h
      clear hc hRd2
      obtain ⟨ok, hok⟩ : ∃ ok, ok = takeOk c ns ps inP (s.extract b pos) := ⟨_, rfl⟩
      rw [← hok] at HT HH HG
      have HOK : Hid (ok = takeOk c ns ps inP (s.extract b pos)) := hok
      clear hok
      cases ok with
      | false =>
        go_wp2_with fail
        go_at_call 240
        refine HT.mono ?_
        rintro e w2 ⟨rfl, _, o2⟩
        have hA3 := o2.four hA2 (by omega) (by omega)
        obtain ⟨x0, x1, x2, x3⟩ := hA3.cells
        have f0 := hA3.frozen
        have hb3 := o2.belowW hbw2 (by omega) (by omega)
        have hnone := HH.out (by trivial)
        go_wp2_with fail
        obtain ⟨ho1, ho2⟩ := out_none hnone
        refine bodyPost_ret (v := .tuple #[.agg #[.int .i64 0, .int .i64 0, .int .i64 0, .slice none 0 0], .bool false]) (by simp [results, Tryz.results217, go_sem, x0, x1, x2, x3]) rfl ⟨.slice none 0 0, by rw [ho1], ?_, ?_⟩
        · rw [ho2]; exact World.ownsRow_nil _ _ _ _
        · exact (((hb3.setCell (by simp) _).setCell (by simp) _).setCell (by simp) _).setCell (by simp) _
      | true =>
        go_wp2_with fail
        go_at_call 240
        refine HT.mono ?_
        rintro e w2 ⟨rfl, hR3, o2⟩
        go_wp2_with fail
        obtain ⟨hd1, hc1⟩ := HG.out (by trivial)
        have hA3 := o2.four hA2 (by omega) (by omega)
        have hl := take_len HOK.out.symm hns hps
        have hit3 := (o2.block (w.heap.size + 1 + 1) (by omega) (by omega)).trans hit2
        subst hd1
        go_roundw
        case rel =>
          refine ⟨pos + 1, if endsB c inP then pos + 1 else b, takeNs c ns inP (s.extract b pos), takePs c ps inP (s.extract b pos), takeIn c inP, by omega, by split <;> omega, hl.1, hl.2, hit3, ?_, ?_, o2.belowW hbw2 (by omega) (by omega), hA3, Nat.le_trans hsz2 o2.size⟩
          · have e : wordL s (if endsB c inP then pos + 1 else b) (pos + 1) = takeWs c (wordL s b pos) inP := by
              unfold takeWs
              split
              · rw [word_nil]
              · rw [word_snoc s b pos hbp hp, ← hc1]
            rw [e]; exact hR3 (by trivial)
          · show _ = _
            rw [← hh.out, reads_step s pos b ns ps inP hp c hc1, if_pos HOK.out.symm]
        case measure => rw [iterPos_of hit3, hpos0]; omega
    · have hnx : ∀ ty, (Instr.next (.pointer (some ⟨w.heap.size + 1 + 1, 0, none⟩)) true ty).run Tryz.prog wr = _ := fun ty => Lib.run_next_end_at wr (w.heap.size + 1 + 1) s pos ty hit hp
      have he : pos = s.size := by omega
      subst he
      have HE := ends_c (w.heap.size + 1) (w.heap.size + 1 + 1 + 1) (wordL s b s.size) ns ps inP wr hRd (by omega) hsz (by rw [word_len s b s.size hbp (by omega)]; omega) (by omega) (by omega)
      rw [word_str] at HE
      have HR : Hid (resAll s = if endOk ns ps inP (s.extract b s.size) && decide (3 ≤ (endNs ns inP (s.extract b s.size)).length) then some (endNs ns inP (s.extract b s.size), endPs ps inP (s.extract b s.size)) else none) := by
        show _ = _
        rw [← hh.out, Nat.sub_self, reads]
      obtain ⟨ok, hok⟩ : ∃ ok, ok = endOk ns ps inP (s.extract b s.size) := ⟨_, rfl⟩
      obtain ⟨ns2, hns2⟩ : ∃ x, x = endNs ns inP (s.extract b s.size) := ⟨_, rfl⟩
      obtain ⟨ps2, hps2⟩ : ∃ x, x = endPs ps inP (s.extract b s.size) := ⟨_, rfl⟩
      have hl2 : ns2.length ≤ 4 := by rw [hns2]; exact endNs_len hns
      rw [← hok, ← hns2, ← hps2] at HE HR
      clear hok hns2 hps2 hRd hh hit
      go_wp2_with fail
      go_at_call 241
      refine HE.mono ?_
      rintro e w2 ⟨rfl, ⟨vw, vn, vp, hF, hWr, hNr, hPr⟩, o2⟩
      have hA3 := o2.four hA (by omega) (by omega)
      obtain ⟨x0, x1, x2, x3⟩ := hA3.cells
      have f0 := hA3.frozen
      have hb3 := o2.belowW hbw (by omega) (by omega)
      have hsz3 := Nat.le_trans hsz o2.size
      obtain ⟨k0, k1, k2, k3⟩ := hF.cells
      have hNN : vn = .slice none 0 0 ∧ ns2 = [] ∨ ∃ g cap, vn = .slice (some ⟨g, 0, none⟩) ns2.length cap ∧ ∀ j (h : j < ns2.length), w2.cell? ⟨g, j, none⟩ = some (.int .i64 ns2[j]) := by
        rcases hNr.2 with ⟨rfl, h0⟩ | ⟨g, cap, cur, rfl, _⟩
        · exact .inl ⟨rfl, List.eq_nil_of_length_eq_zero h0⟩
        · exact .inr ⟨g, cap, rfl, fun j h => by rw [hNr.cellAt j (by simpa using h)]; simp [intsV, h]⟩
      clear hA hbw hWr HE hF
      cases ok with
      | false =>
        have hnone : resAll s = none := by rw [HR.out]; rfl
        obtain ⟨ho1, ho2⟩ := out_none hnone
        go_wp2_with fail
        refine bodyPost_ret (v := .tuple #[.agg #[.int .i64 0, .int .i64 0, .int .i64 0, .slice none 0 0], .bool false]) (by simp [results, Tryz.results217, go_sem, x0, x1, x2, x3]) rfl ⟨.slice none 0 0, by rw [ho1], ?_, ?_⟩
        · rw [ho2]; exact World.ownsRow_nil _ _ _ _
        · exact (((hb3.setCell (by simp) _).setCell (by simp) _).setCell (by simp) _).setCell (by simp) _
      | true =>
        rcases hNN with ⟨rfl, rfl⟩ | ⟨gn, cap, rfl, hcn⟩
        · have hnone : resAll s = none := by rw [HR.out]; rfl
          obtain ⟨ho1, ho2⟩ := out_none hnone
          go_wp2_with fail
          refine bodyPost_ret (v := .tuple #[.agg #[.int .i64 0, .int .i64 0, .int .i64 0, .slice none 0 0], .bool false]) (by simp [results, Tryz.results217, go_sem, x0, x1, x2, x3]) rfl ⟨.slice none 0 0, by rw [ho1], ?_, ?_⟩
          · rw [ho2]; exact World.ownsRow_nil _ _ _ _
          · exact (((hb3.setCell (by simp) _).setCell (by simp) _).setCell (by simp) _).setCell (by simp) _
        · by_cases h3 : ns2.length < 3
          · have h3' : (ns2.length : Int) < 3 := by omega
            have hnone : resAll s = none := by rw [HR.out, if_neg (by simp; omega)]
            clear hcn
            obtain ⟨ho1, ho2⟩ := out_none hnone
            go_wp2_with fail
            refine bodyPost_ret (v := .tuple #[.agg #[.int .i64 0, .int .i64 0, .int .i64 0, .slice none 0 0], .bool false]) (by simp [results, Tryz.results217, go_sem, x0, x1, x2, x3]) rfl ⟨.slice none 0 0, by rw [ho1], ?_, ?_⟩
            · rw [ho2]; exact World.ownsRow_nil _ _ _ _
            · exact (((hb3.setCell (by simp) _).setCell (by simp) _).setCell (by simp) _).setCell (by simp) _
          · have h3' : ¬ (ns2.length : Int) < 3 := by omega
            have hsome : resAll s = some (ns2, ps2) := by rw [HR.out, if_pos (by simp; omega)]
            have y0 := hcn 0 (by omega)
            have y1 := hcn 1 (by omega)
            have y2 := hcn 2 (by omega)
            obtain ⟨m0, hm0⟩ : ∃ m, m = ns2[0] := ⟨_, rfl⟩
            obtain ⟨m1, hm1⟩ : ∃ m, m = ns2[1] := ⟨_, rfl⟩
            obtain ⟨m2, hm2⟩ : ∃ m, m = ns2[2] := ⟨_, rfl⟩
            rw [← hm0] at y0
            rw [← hm1] at y1
            rw [← hm2] at y2
            have M0 : Hid (ns2.getD 0 0 = m0) := by show _ = _; rw [hm0]; simp [List.getD_eq_getElem?_getD, show 0 < ns2.length by omega]
            have M1 : Hid (ns2.getD 1 0 = m1) := by show _ = _; rw [hm1]; simp [List.getD_eq_getElem?_getD, show 1 < ns2.length by omega]
            have M2 : Hid (ns2.getD 2 0 = m2) := by show _ = _; rw [hm2]; simp [List.getD_eq_getElem?_getD, show 2 < ns2.length by omega]
            have i1 : (0 : Int) < (ns2.length : Int) := by omega
            have i2 : (1 : Int) < (ns2.length : Int) := by omega
            have i3 : (2 : Int) < (ns2.length : Int) := by omega
            clear hcn hm0 hm1 hm2 HR
            obtain ⟨pa, pn, pc, rfl⟩ : ∃ a n cap, vp = .slice a n cap := by rcases hPr.2 with ⟨rfl, _⟩ | ⟨g, cap, cur, rfl, _⟩ <;> exact ⟨_, _, _, rfl⟩
            have hgN : gn ≠ w.heap.size := by have := (hNr.lt gn rfl).1; omega
            have KEEP : Hid (∀ v0 v1 v2 v3, ((((w2.setCell ⟨w.heap.size, 0, none⟩ v0).setCell ⟨w.heap.size, 1, none⟩ v1).setCell ⟨w.heap.size, 2, none⟩ v2).setCell ⟨w.heap.size, 3, none⟩ v3).drew.cell? ⟨w.heap.size + 1, 1, none⟩ = some (.slice (some ⟨gn, 0, none⟩) ns2.length cap) ∧ ((((w2.setCell ⟨w.heap.size, 0, none⟩ v0).setCell ⟨w.heap.size, 1, none⟩ v1).setCell ⟨w.heap.size, 2, none⟩ v2).setCell ⟨w.heap.size, 3, none⟩ v3).drew.cell? ⟨w.heap.size + 1, 2, none⟩ = some (.slice pa pn pc) ∧ ((((w2.setCell ⟨w.heap.size, 0, none⟩ v0).setCell ⟨w.heap.size, 1, none⟩ v1).setCell ⟨w.heap.size, 2, none⟩ v2).setCell ⟨w.heap.size, 3, none⟩ v3).drew.cell? ⟨gn, 0, none⟩ = some (.int .i64 m0) ∧ ((((w2.setCell ⟨w.heap.size, 0, none⟩ v0).setCell ⟨w.heap.size, 1, none⟩ v1).setCell ⟨w.heap.size, 2, none⟩ v2).setCell ⟨w.heap.size, 3, none⟩ v3).drew.cell? ⟨gn, 1, none⟩ = some (.int .i64 m1) ∧ ((((w2.setCell ⟨w.heap.size, 0, none⟩ v0).setCell ⟨w.heap.size, 1, none⟩ v1).setCell ⟨w.heap.size, 2, none⟩ v2).setCell ⟨w.heap.size, 3, none⟩ v3).drew.cell? ⟨gn, 2, none⟩ = some (.int .i64 m2)) := fun v0 v1 v2 v3 => ⟨(far4 (Nat.succ_ne_self _)).trans k1, (far4 (Nat.succ_ne_self _)).trans k2, (far4 hgN).trans y0, (far4 hgN).trans y1, (far4 hgN).trans y2⟩
            go_wp2_with fail
            go_region_held (fun w' => w'.cell? ⟨w.heap.size + 1, 1, none⟩ = some (.slice (some ⟨gn, 0, none⟩) ns2.length cap) ∧ w'.cell? ⟨w.heap.size + 1, 2, none⟩ = some (.slice pa pn pc) ∧ w'.cell? ⟨gn, 0, none⟩ = some (.int .i64 m0) ∧ w'.cell? ⟨gn, 1, none⟩ = some (.int .i64 m1) ∧ w'.cell? ⟨gn, 2, none⟩ = some (.int .i64 m2)) (first | (with_reducible exact KEEP.out _ _ _ _) | go_keep) (fail)
            obtain ⟨ho1, ho2⟩ := out_some hsome (.slice pa pn pc)
            go_wp2_with fail
            refine bodyPost_ret (v := .tuple #[.agg #[.int .i64 m0, .int .i64 m1, .int .i64 m2, .slice pa pn pc], .bool true]) (by simp [results, Tryz.results217, go_sem, x0, x1, x2, x3]) rfl ⟨.slice pa pn pc, by rw [ho1, M0.out, M1.out, M2.out], ?_, ?_⟩
            · rw [ho2]
              have h4 := owns_set (owns_set (owns_set (owns_set hPr (p := ⟨w.heap.size, 0, none⟩) (by simp; omega) (.int .i64 m0)) (p := ⟨w.heap.size, 1, none⟩) (by simp; omega) (.int .i64 m1)) (p := ⟨w.heap.size, 2, none⟩) (by simp; omega) (.int .i64 m2)) (p := ⟨w.heap.size, 3, none⟩) (by simp; omega) (.slice pa pn pc)
              exact owns_lower h4 (by omega)
            · exact ((((hb3.setCell (by simp) _).setCell (by simp) _).setCell (by simp) _).setCell (by simp) _).drew
end Go.Proofs.YtlnofdlhjeomfaaGreatDoor

/-! What the specification's ParseVer answers: the same as the program's reader tells: a contract for the walks; condition: the text has at most 2 to the 20 bytes. -/
namespace Go.Proofs.YtlnofdlhjeomfaaGreatDoor
open Go.RowKit
set_option linter.unusedSimpArgs false
set_option linter.unusedVariables false

theorem vsplit_bulk (s : ByteArray) (c : Int) : ∀ (n i b : Nat), n = s.size - i → b ≤ i → i ≤ s.size → bulkS (splitGo s c (s.size - i) i b) = s.size - b + 1
  | 0, i, b, hn, hb, hi => by
    obtain rfl : i = s.size := by omega
    rw [splitGo_end, bulkS]
    simp [vsize s b s.size hb (Nat.le_refl _)]; omega
  | n + 1, i, b, hn, hb, hi => by
    have hlt : i < s.size := by omega
    by_cases h : ((s.data[i]!).toNat : Int) = c
    · have ih := vsplit_bulk s c n (i + 1) (i + 1) (by omega) (Nat.le_refl _) (by omega)
      rw [splitGo_hit s c i b hlt h]
      unfold bulkS at ih ⊢
      simp only [List.length_cons, List.map_cons, List.sum_cons]
      rw [vsize s b i hb (by omega)]
      omega
    · rw [splitGo_miss s c i b hlt h]
      exact vsplit_bulk s c n (i + 1) b (by omega) (by omega) (by omega)
theorem vsplitS_bulk (s : ByteArray) (c : Int) : bulkS (splitS s c) = s.size + 1 := vsplit_bulk s c s.size 0 0 rfl (Nat.le_refl _) (Nat.zero_le _)

theorem parts_take (ps : List ByteArray) : ∀ n, n ≤ ps.length → partsUpto ps n = (ps.take n).all partB
  | 0, _ => by simp [partsUpto]
  | n + 1, h => by
    rw [partsUpto, parts_take ps n (by omega), List.take_succ_eq_append_getElem h, List.all_append]
    simp [List.getD_eq_getElem?_getD, show n < ps.length by omega]
theorem parts_all (ps : List ByteArray) : partsUpto ps ps.length = ps.all partB := by rw [parts_take ps ps.length (Nat.le_refl _), List.take_length]

theorem num_in {t : ByteArray} (h : numGood t 9999 = true) : inB (numOut t 9999) 0 9999 = true := by
  rw [numOut_good h]
  have h0 := h
  simp only [numGood, Bool.and_eq_true, decide_eq_true_eq] at h
  have h1 : allUpto okDigit t t.size = true := by
    cases hq : allUpto okDigit t t.size
    · rw [good_of_piece hq] at h0; cases h0
    · rfl
  have hb := numUpto_bounds t t.size h1
  have hm : numUpto t t.size ≤ 9999 := by
    by_cases hq : numUpto t t.size ≤ 9999
    · exact hq
    · rw [bad_most (by omega)] at h0; cases h0
  simp only [inB, Bool.and_eq_true, decide_eq_true_eq]
  omega

/-- What the specification makes of the pieces. -/
theorem res_spec (s : ByteArray) (k : Nat) (hk : k ≤ s.size) (hd : k < s.size → ((s.data[k]!).toNat : Int) = 45) (hn : ∀ j, j < k → ¬ ((s.data[j]!).toNat : Int) = 45) (L P : List ByteArray) (hL : L = splitS (s.extract 0 k) 46) (hP : P = if k < s.size then splitS (s.extract (k + 1) s.size) 46 else []) :
    resAll s = if L.all (fun t => numGood t 9999) && decide (L.length = 3) && P.all partB && decide (P.length ≤ 3) then some (L.map (fun t => numOut t 9999), P) else none := by
  have e1 : L = numsAt s k := by rw [hL, split_pieces s 0 k (Nat.zero_le _) hk, numsAt, Nat.sub_zero]
  have e2 : P = presAt s k := by
    rw [hP, presAt]
    by_cases h : k < s.size
    · rw [if_pos h, if_pos h, split_pieces s (k + 1) s.size (by omega) (Nat.le_refl _)]
    · rw [if_neg h, if_neg h]
  rw [resAll, reads_all s k hk hd hn, e1, e2]
  rfl

theorem reads_set3 {w : World} {N : Nat} {u : Value} {xs : List Value} (h : Reads w u xs) (hb : ∀ bl, u.ownBlock = some bl → N < bl) (v0 v1 v2 : Value) : Reads (((w.setCell ⟨N, 0, none⟩ v0).setCell ⟨N, 1, none⟩ v1).setCell ⟨N, 2, none⟩ v2) u xs := by
  obtain ⟨a, cap, rfl, hc, hx⟩ := h
  refine ⟨a, cap, rfl, hc, ?_⟩
  rcases hx with hx | ⟨b, off, rfl, hlt, hx⟩
  · exact .inl hx
  · have hN : N < b := hb b rfl
    refine .inr ⟨b, off, rfl, by simpa [World.setCell] using hlt, fun k hk => ?_⟩
    have hh : ∀ (a : World) (i : Nat) (x : Value), (a.setCell ⟨N, i, none⟩ x).cell? ⟨b, off + k, none⟩ = a.cell? ⟨b, off + k, none⟩ := fun a i x => World.cell?_setCell_other _ _ _ _ (by intro e; injection e; omega)
    rw [hh, hh, hh]; exact hx k hk

theorem reads_set4 {w : World} {N : Nat} {u : Value} {xs : List Value} (h : Reads w u xs) (hb : ∀ bl, u.ownBlock = some bl → N < bl) (v0 v1 v2 v3 : Value) : Reads ((((w.setCell ⟨N, 0, none⟩ v0).setCell ⟨N, 1, none⟩ v1).setCell ⟨N, 2, none⟩ v2).setCell ⟨N, 3, none⟩ v3) u xs := by
  obtain ⟨a, cap, rfl, hc, hx⟩ := h
  refine ⟨a, cap, rfl, hc, ?_⟩
  rcases hx with hx | ⟨b, off, rfl, hlt, hx⟩
  · exact .inl hx
  · have hN : N < b := hb b rfl
    refine .inr ⟨b, off, rfl, by simpa [World.setCell] using hlt, fun k hk => ?_⟩
    have hh : ∀ (a : World) (i : Nat) (x : Value), (a.setCell ⟨N, i, none⟩ x).cell? ⟨b, off + k, none⟩ = a.cell? ⟨b, off + k, none⟩ := fun a i x => World.cell?_setCell_other _ _ _ _ (by intro e; injection e; omega)
    rw [hh, hh, hh, hh]; exact hx k hk

theorem three_of {L : List ByteArray} (h : L.length = 3) : ∃ t0 t1 t2, L = [t0, t1, t2] := by
  match L, h with
  | [t0, t1, t2], _ => exact ⟨t0, t1, t2, rfl⟩

theorem reads_len (s : ByteArray) : ∀ (f i b : Nat) (ns : List Int) (ps : List ByteArray) (inP : Bool) (r : List Int × List ByteArray), reads s f i b ns ps inP = some r → ps.length ≤ 3 → r.2.length ≤ 3
  | 0, i, b, ns, ps, inP, r, h, hp => by
    rw [reads] at h
    split at h
    · rename_i hc
      injection h with h
      subst h
      cases inP
      · simpa [endPs] using hp
      · simp [endOk] at hc
        simp [endPs]; omega
    · cases h
  | f + 1, i, b, ns, ps, inP, r, h, hp => by
    rw [reads] at h
    have hq : endOk ns ps inP (s.extract b i) = true → (endPs ps inP (s.extract b i)).length ≤ 3 := fun hk => by
      cases inP
      · simpa [endPs] using hp
      · simp [endOk] at hk
        simp [endPs]; omega
    split at h
    · split at h
      · exact reads_len s f _ _ _ _ _ r h (hq ‹_›)
      · cases h
    · split at h
      · split at h
        · exact reads_len s f _ _ _ _ _ r h (hq ‹_›)
        · cases h
      · split at h
        · exact reads_len s f _ _ _ _ _ r h hp
        · cases h
theorem resP_len (s : ByteArray) : (resP s).length ≤ 3 := by
  unfold resP
  cases h : resAll s with
  | none => simp
  | some r => exact reads_len s _ _ _ _ _ _ r h (by simp)

set_option maxHeartbeats 4000000 in
set_option maxRecDepth 100000 in
theorem specParse_c (s : ByteArray) (hs : s.size ≤ 1048576) (w : World) :
    Calls Tryz.prog 185 #[.string s] w fun e w' => ∃ u, e = .returned (verOut s u) ∧ Reads w' u (strsV (resP s)) ∧ Below w.heap.size w w' := by
  obtain ⟨A0, B0⟩ := four_two w 219 219 (.int .i64 0) (.int .i64 0) (.int .i64 0) (.slice none 0 0) (.int .i64 0) (.int .i64 0) (.int .i64 0) (.slice none 0 0)
  have hbW := two_new (w := w) (.cells #[.int .i64 0, .int .i64 0, .int .i64 0, .slice none 0 0] 219) (.cells #[.int .i64 0, .int .i64 0, .int .i64 0, .slice none 0 0] 219)
  go_enter Tryz.func185, Tryz.ntmps185
  go_wp2
  go_loop [5] (fun vi => ∃ k : Nat, k ≤ s.size ∧ vi = .int .i64 (k : Int) ∧ Hid (∀ j, j < k → ¬ ((s.data[j]!).toNat : Int) = 45)) (fun vi => s.size - (intOf vi).toNat)
  case atStart => exact ⟨0, Nat.zero_le _, rfl, fun j hj => by omega⟩
  case round =>
    obtain ⟨k, hk, rfl, hh⟩ := hrel
    by_cases hlt : k < s.size
    · have hki : (k : Int) < (s.size : Int) := by omega
      by_cases h45 : ((s[k]).toNat : Int) = 45
      · have e45 : (((s[k]).toNat : Int) != 45) = false := by simpa using h45
        have HD : Hid (k < s.size → ((s.data[k]!).toNat : Int) = 45) := fun _ => by rw [byteBang s k hlt]; exact h45
        have hz : (s.extract (k + 1) s.size).size = s.size - (k + 1) := vsize s (k + 1) s.size (by omega) (Nat.le_refl _)
        obtain ⟨P, hP⟩ : ∃ P, P = splitS (s.extract (k + 1) s.size) 46 := ⟨_, rfl⟩
        have HP : Hid (P = if k < s.size then splitS (s.extract (k + 1) s.size) 46 else []) := by show _ = _; rw [hP, if_pos hlt]
        have HB : Hid (bulkS P ≤ 1048576) := by show _ ≤ _; rw [hP, vsplitS_bulk, hz]; omega
        have HSp : Hid (∀ w1, Calls Tryz.prog 161 #[.string (s.extract (k + 1) s.size), .int .u8 46] w1 fun e w' => ∃ v, e = .returned v ∧ w'.ownsRow w1.heap.size 9 1 v P.length (strsV P) ∧ Below w1.heap.size w1 w') := fun w1 => by rw [hP]; exact specSplit_c _ 46 w1 (by omega)
        clear h45 hz hP
        obtain ⟨L, hL⟩ : ∃ L, L = splitS (s.extract 0 k) 46 := ⟨_, rfl⟩
        have HL : Hid (L = splitS (s.extract 0 k) 46) := hL
        have hLz : (s.extract 0 k).size = k := by rw [vsize s 0 k (Nat.zero_le _) (by omega)]; omega
        have HLB : Hid (bulkS L ≤ 1048577) := by show _ ≤ _; rw [hL, vsplitS_bulk, hLz]; omega
        have HSL : Hid (∀ w1, Calls Tryz.prog 161 #[.string (s.extract 0 k), .int .u8 46] w1 fun e w' => ∃ v, e = .returned v ∧ w'.ownsRow w1.heap.size 9 1 v L.length (strsV L) ∧ Below w1.heap.size w1 w') := fun w1 => by rw [hL]; exact specSplit_c (s.extract 0 k) 46 w1 (by rw [hLz]; omega)
        clear hL hLz
        have hsW : ((w.alloc (.cells #[.int .i64 0, .int .i64 0, .int .i64 0, .slice none 0 0] 219)).alloc (.cells #[.int .i64 0, .int .i64 0, .int .i64 0, .slice none 0 0] 219)).heap.size = w.heap.size + 1 + 1 := by simp
        generalize ((w.alloc (.cells #[.int .i64 0, .int .i64 0, .int .i64 0, .slice none 0 0] 219)).alloc (.cells #[.int .i64 0, .int .i64 0, .int .i64 0, .slice none 0 0] 219)) = W0 at A0 B0 hbW hsW ⊢
        go_wp2_with fail
        go_at_call 161
        refine (HSp.out _).mono ?_
        rintro e w1 ⟨uP, rfl, o1, b1⟩
        obtain ⟨uq, uc, huP⟩ : ∃ q c, uP = .slice q P.length c := by obtain ⟨q, c, h, _⟩ := reads_of_owns o1; exact ⟨q, c, by simpa using h⟩
        rw [hsW] at o1
        have A1' := A0.keep b1
        have B1' := B0.keep b1
        obtain ⟨y0, y1, y2, y3⟩ := B1'.cells
        have fy := B1'.frozen 3
        have A1 := (Only.set (R := w.heap.size + 1) (base := w.heap.size + 1) w1 3 uP).four A1' (by omega) (by omega)
        have B1 := (four_set B1' uP).2.2.2
        have o1s := owns_set o1 (p := ⟨w.heap.size + 1, 3, none⟩) (by simp) uP
        have RP := reads_of_owns o1s
        have HPB : Hid (∀ bl, uP.ownBlock = some bl → w.heap.size + 1 < bl) := fun bl h => by have := (o1.lt bl h).1; omega
        have hB1 : Below w.heap.size w (w1.setCell ⟨w.heap.size + 1, 3, none⟩ uP) := (hbW.trans (b1.mono hbW.size)).setCell (by simp) _
        subst huP
        clear o1 o1s HSp hbW A0 B0 b1 A1'
        go_wp2_with fail
        clear y0 y1 y2 y3 fy B1'
        generalize w1.setCell ⟨w.heap.size + 1, 3, none⟩ (.slice uq P.length uc) = W1 at A1 B1 RP hB1 ⊢
        generalize (Value.slice uq P.length uc) = uP at B1 RP HPB ⊢
        obtain ⟨x0, x1, x2, x3⟩ := A1.cells
        have f1 := A1.frozen
        go_at_call 161
        refine (HSL.out W1).mono ?_
        rintro e w2 ⟨vl, rfl, o2, b2⟩
        have A2 := A1.keep b2
        have B2 := B1.keep b2
        have RP2 := RP.below b2
        have hw2 := hB1.trans (b2.mono hB1.size)
        obtain ⟨z0, z1, z2, z3⟩ := A2.cells
        have fz := A2.frozen
        obtain ⟨y0, y1, y2, y3⟩ := B2.cells
        have fy := B2.frozen
        clear A1 B1 RP x0 x1 x2 x3 f1 HSL b2
        by_cases h3 : L.length = 3
        · obtain ⟨t0, t1, t2, hL3⟩ := three_of h3
          have hlz : ∀ t ∈ L, t.size ≤ maxLen := fun t ht => by have := size_of_bulk ht; have := HLB.out; unfold maxLen; omega
          have hall : resAll s = if L.all (fun t => numGood t 9999) && decide (L.length = 3) && P.all partB && decide (P.length ≤ 3) then some (L.map (fun t => numOut t 9999), P) else none := res_spec s k hk HD.out hh.out L P HL.out HP.out
          subst hL3
          have hz0 := hlz t0 (by simp)
          have hz1 := hlz t1 (by simp)
          have hz2 := hlz t2 (by simp)
          obtain ⟨gl, cl, hvl⟩ : ∃ g cap, vl = .slice (some ⟨g, 0, none⟩) 3 cap := by
            rcases o2.2 with ⟨_, h⟩ | ⟨g, cap, cur, hv, _⟩
            · simp at h
            · exact ⟨g, cap, hv⟩
          subst hvl
          have l0 : w2.cell? ⟨gl, 0, none⟩ = some (.string t0) := by rw [o2.cellAt 0 (by simp)]; rfl
          have l1 : w2.cell? ⟨gl, 1, none⟩ = some (.string t1) := by rw [o2.cellAt 1 (by simp)]; rfl
          have l2 : w2.cell? ⟨gl, 2, none⟩ = some (.string t2) := by rw [o2.cellAt 2 (by simp)]; rfl
          have hall2 : resAll s = if numGood t0 9999 && (numGood t1 9999 && numGood t2 9999) && P.all partB && decide (P.length ≤ 3) then some ([numOut t0 9999, numOut t1 9999, numOut t2 9999], P) else none := by rw [hall]; simp
          have HALL : Hid (resAll s = if numGood t0 9999 && (numGood t1 9999 && numGood t2 9999) && P.all partB && decide (P.length ≤ 3) then some ([numOut t0 9999, numOut t1 9999, numOut t2 9999], P) else none) := hall2
          obtain ⟨m0, hm0⟩ : ∃ m, m = numOut t0 9999 := ⟨_, rfl⟩
          obtain ⟨m1, hm1⟩ : ∃ m, m = numOut t1 9999 := ⟨_, rfl⟩
          obtain ⟨m2, hm2⟩ : ∃ m, m = numOut t2 9999 := ⟨_, rfl⟩
          have N0 : Hid (∀ w1, Calls Tryz.prog 97 #[.string t0, .int .i64 9999] w1 fun e w' => e = .returned (.tuple #[.int .i64 m0, .bool (numGood t0 9999)]) ∧ w1 = w') := fun w1 => by rw [hm0]; exact specNum_c t0 9999 hz0 w1
          have N1 : Hid (∀ w1, Calls Tryz.prog 97 #[.string t1, .int .i64 9999] w1 fun e w' => e = .returned (.tuple #[.int .i64 m1, .bool (numGood t1 9999)]) ∧ w1 = w') := fun w1 => by rw [hm1]; exact specNum_c t1 9999 hz1 w1
          have N2 : Hid (∀ w1, Calls Tryz.prog 97 #[.string t2, .int .i64 9999] w1 fun e w' => e = .returned (.tuple #[.int .i64 m2, .bool (numGood t2 9999)]) ∧ w1 = w') := fun w1 => by rw [hm2]; exact specNum_c t2 9999 hz2 w1
          have I0 : Hid (numGood t0 9999 = true → inB m0 0 9999 = true) := fun h => by rw [hm0]; exact num_in h
          have I1 : Hid (numGood t1 9999 = true → inB m1 0 9999 = true) := fun h => by rw [hm1]; exact num_in h
          have I2 : Hid (numGood t2 9999 = true → inB m2 0 9999 = true) := fun h => by rw [hm2]; exact num_in h
          rw [← hm0, ← hm1, ← hm2] at HALL
          have B3 := (four_set ((four_set ((four_set B2 (.int .i64 m0)).1) (.int .i64 m1)).2.1) (.int .i64 m2)).2.2.1
          have A3 : Four (((w2.setCell ⟨w.heap.size + 1, 0, none⟩ (.int .i64 m0)).setCell ⟨w.heap.size + 1, 1, none⟩ (.int .i64 m1)).setCell ⟨w.heap.size + 1, 2, none⟩ (.int .i64 m2)) w.heap.size 219 (.int .i64 0) (.int .i64 0) (.int .i64 0) (.slice none 0 0) :=
            ((Only.set (R := w.heap.size + 1) (base := w.heap.size + 1) w2 0 (.int .i64 m0)).trans ((Only.set _ 1 (.int .i64 m1)).trans (Only.set _ 2 (.int .i64 m2)))).four A2 (by omega) (by omega)
          have hw3 : Below w.heap.size w (((w2.setCell ⟨w.heap.size + 1, 0, none⟩ (.int .i64 m0)).setCell ⟨w.heap.size + 1, 1, none⟩ (.int .i64 m1)).setCell ⟨w.heap.size + 1, 2, none⟩ (.int .i64 m2)) := ((hw2.setCell (by simp) _).setCell (by simp) _).setCell (by simp) _
          have RP3 := reads_set3 RP2 HPB.out (.int .i64 m0) (.int .i64 m1) (.int .i64 m2)
          obtain ⟨uq, un, uc, hup⟩ : ∃ q n c, uP = .slice q n c := by obtain ⟨q, c, h, _⟩ := RP2; exact ⟨_, _, _, h⟩
          subst hup
          clear hall hall2 hm0 hm1 hm2 hlz o2 HL HP RP2 HD hh
          go_wp2_with fail
          go_at_call 97
          refine (N0.out _).mono ?_
          rintro e w' ⟨rfl, rfl⟩
          go_wp2_with fail
          go_at_call 97
          refine (N1.out _).mono ?_
          rintro e w' ⟨rfl, rfl⟩
          go_wp2_with fail
          go_at_call 97
          refine (N2.out _).mono ?_
          rintro e w' ⟨rfl, rfl⟩
          clear N0 N1 N2
          obtain ⟨a0, a1, a2, a3⟩ := A3.cells
          have fa := A3.frozen
          obtain ⟨b0, b1, b2, b3⟩ := B3.cells
          clear l0 l1 l2
          cases hg0 : numGood t0 9999 with
          | false =>
            have hnone : resAll s = none := by rw [HALL.out, hg0]; rfl
            obtain ⟨ho1, ho2⟩ := out_none hnone
            go_wp2_with fail
            refine bodyPost_ret (v := .tuple #[.agg #[.int .i64 0, .int .i64 0, .int .i64 0, .slice none 0 0], .bool false]) (by simp [results, Tryz.results185, go_sem, a0, a1, a2, a3]) rfl ⟨.slice none 0 0, by rw [ho1], ?_, ?_⟩
            · rw [ho2]; exact ⟨none, 0, rfl, Nat.le_refl _, .inl rfl⟩
            · exact (((hw3.setCell (by simp) _).setCell (by simp) _).setCell (by simp) _).setCell (by simp) _
          | true =>
          cases hg1 : numGood t1 9999 with
          | false =>
            have hnone : resAll s = none := by rw [HALL.out, hg0, hg1]; rfl
            obtain ⟨ho1, ho2⟩ := out_none hnone
            go_wp2_with fail
            refine bodyPost_ret (v := .tuple #[.agg #[.int .i64 0, .int .i64 0, .int .i64 0, .slice none 0 0], .bool false]) (by simp [results, Tryz.results185, go_sem, a0, a1, a2, a3]) rfl ⟨.slice none 0 0, by rw [ho1], ?_, ?_⟩
            · rw [ho2]; exact ⟨none, 0, rfl, Nat.le_refl _, .inl rfl⟩
            · exact (((hw3.setCell (by simp) _).setCell (by simp) _).setCell (by simp) _).setCell (by simp) _
          | true =>
          cases hg2 : numGood t2 9999 with
          | false =>
            have hnone : resAll s = none := by rw [HALL.out, hg0, hg1, hg2]; rfl
            obtain ⟨ho1, ho2⟩ := out_none hnone
            go_wp2_with fail
            refine bodyPost_ret (v := .tuple #[.agg #[.int .i64 0, .int .i64 0, .int .i64 0, .slice none 0 0], .bool false]) (by simp [results, Tryz.results185, go_sem, a0, a1, a2, a3]) rfl ⟨.slice none 0 0, by rw [ho1], ?_, ?_⟩
            · rw [ho2]; exact ⟨none, 0, rfl, Nat.le_refl _, .inl rfl⟩
            · exact (((hw3.setCell (by simp) _).setCell (by simp) _).setCell (by simp) _).setCell (by simp) _
          | true =>
            have HV : Hid (resAll s = if verB m0 m1 m2 P then some ([m0, m1, m2], P) else none) := by
              show _ = _
              rw [HALL.out, hg0, hg1, hg2, verB, parts_all, I0.out hg0, I1.out hg1, I2.out hg2]
              simp
            go_wp2_with fail
            go_at_call 187
            refine (specVerOk_c m0 m1 m2 _ P _ RP3 HB.out).mono ?_
            rintro e w4 ⟨rfl, b4⟩
            have A4 := A3.keep b4
            have B4 := B3.keep b4
            have RP4 := RP3.below b4
            have hw4 := hw3.trans (b4.mono hw3.size)
            obtain ⟨p0, p1, p2, p3⟩ := A4.cells
            have fp := A4.frozen
            obtain ⟨q0, q1, q2, q3⟩ := B4.cells
            clear a0 a1 a2 a3 fa b0 b1 b2 b3 A3 B3 RP3 hw3 HALL b4 I0 I1 I2
            cases hv : verB m0 m1 m2 P with
            | false =>
              have hnone : resAll s = none := by rw [HV.out, hv]; rfl
              obtain ⟨ho1, ho2⟩ := out_none hnone
              go_wp2_with fail
              refine bodyPost_ret (v := .tuple #[.agg #[.int .i64 0, .int .i64 0, .int .i64 0, .slice none 0 0], .bool false]) (by simp [results, Tryz.results185, go_sem, p0, p1, p2, p3]) rfl ⟨.slice none 0 0, by rw [ho1], ?_, ?_⟩
              · rw [ho2]; exact ⟨none, 0, rfl, Nat.le_refl _, .inl rfl⟩
              · exact (((hw4.setCell (by simp) _).setCell (by simp) _).setCell (by simp) _).setCell (by simp) _
            | true =>
              have hsome : resAll s = some ([m0, m1, m2], P) := by rw [HV.out, hv]; rfl
              obtain ⟨ho1, ho2⟩ := out_some hsome (.slice uq un uc)
              go_wp2_with fail
              refine bodyPost_ret (v := .tuple #[.agg #[.int .i64 m0, .int .i64 m1, .int .i64 m2, .slice uq un uc], .bool true]) (by simp [results, Tryz.results185, go_sem, p0, p1, p2, p3]) rfl ⟨.slice uq un uc, by rw [ho1]; rfl, ?_, ?_⟩
              · rw [ho2]
                exact reads_set4 RP4 (fun bl h => by have := HPB.out bl h; omega) _ _ _ _
              · exact (((hw4.setCell (by simp) _).setCell (by simp) _).setCell (by simp) _).setCell (by simp) _
        · have hnone : resAll s = none := by rw [res_spec s k hk HD.out hh.out L P HL.out HP.out, if_neg (by simp [h3])]
          have h3' : ((L.length : Int) != 3) = true := by simp; omega
          obtain ⟨vq, vc, hvl⟩ : ∃ q c, vl = .slice q L.length c := by obtain ⟨q, c, h, _⟩ := reads_of_owns o2; exact ⟨q, c, by simpa using h⟩
          subst hvl
          clear o2 y0 y1 y2 y3 fy
          obtain ⟨ho1, ho2⟩ := out_none hnone
          go_wp2_with fail
          refine bodyPost_ret (v := .tuple #[.agg #[.int .i64 0, .int .i64 0, .int .i64 0, .slice none 0 0], .bool false]) (by simp [results, Tryz.results185, go_sem, z0, z1, z2, z3]) rfl ⟨.slice none 0 0, by rw [ho1], ?_, ?_⟩
          · rw [ho2]; exact ⟨none, 0, rfl, Nat.le_refl _, .inl rfl⟩
          · exact (((hw2.setCell (by simp) _).setCell (by simp) _).setCell (by simp) _).setCell (by simp) _
      · have e45 : (((s[k]).toNat : Int) != 45) = true := by simpa using h45
        go_wp2
        go_round
        case rel => exact ⟨k + 1, by omega, by go_num, fun j hj => (by
          by_cases e : j = k
          · subst e; rw [byteBang s j hlt]; exact h45
          · exact hh.out j (by omega))⟩
        case measure => simp [intOf]; omega
    · have hki : ¬ (k : Int) < (s.size : Int) := by omega
      have HD : Hid (k < s.size → ((s.data[k]!).toNat : Int) = 45) := fun h => absurd h hlt
      obtain ⟨P, hP⟩ : ∃ P : List ByteArray, P = [] := ⟨_, rfl⟩
      have HP : Hid (P = if k < s.size then splitS (s.extract (k + 1) s.size) 46 else []) := by show _ = _; rw [hP, if_neg hlt]
      have HB : Hid (bulkS P ≤ 1048576) := by show _ ≤ _; rw [hP]; simp [bulkS]
      obtain ⟨L, hL⟩ : ∃ L, L = splitS (s.extract 0 k) 46 := ⟨_, rfl⟩
      have HL : Hid (L = splitS (s.extract 0 k) 46) := hL
      have hLz : (s.extract 0 k).size = k := by rw [vsize s 0 k (Nat.zero_le _) (by omega)]; omega
      have HLB : Hid (bulkS L ≤ 1048577) := by show _ ≤ _; rw [hL, vsplitS_bulk, hLz]; omega
      have HSL : Hid (∀ w1, Calls Tryz.prog 161 #[.string (s.extract 0 k), .int .u8 46] w1 fun e w' => ∃ v, e = .returned v ∧ w'.ownsRow w1.heap.size 9 1 v L.length (strsV L) ∧ Below w1.heap.size w1 w') := fun w1 => by rw [hL]; exact specSplit_c (s.extract 0 k) 46 w1 (by rw [hLz]; omega)
      clear hL hLz
      have A1 := A0
      have B1 := B0
      have hB1 := hbW
      generalize ((w.alloc (.cells #[.int .i64 0, .int .i64 0, .int .i64 0, .slice none 0 0] 219)).alloc (.cells #[.int .i64 0, .int .i64 0, .int .i64 0, .slice none 0 0] 219)) = W1 at A1 B1 hB1 ⊢
      have RP : Reads W1 (.slice none 0 0) (strsV P) := by rw [hP]; exact ⟨none, 0, rfl, Nat.le_refl _, .inl rfl⟩
      have HPB : Hid (∀ bl, (Value.slice none 0 0).ownBlock = some bl → w.heap.size + 1 < bl) := fun bl h => by simp [Value.ownBlock] at h
      clear A0 B0 hbW hP
      go_wp2_with fail
      generalize (Value.slice none 0 0) = uP at B1 RP HPB
      obtain ⟨x0, x1, x2, x3⟩ := A1.cells
      have f1 := A1.frozen
      go_at_call 161
      refine (HSL.out W1).mono ?_
      rintro e w2 ⟨vl, rfl, o2, b2⟩
      have A2 := A1.keep b2
      have B2 := B1.keep b2
      have RP2 := RP.below b2
      have hw2 := hB1.trans (b2.mono hB1.size)
      obtain ⟨z0, z1, z2, z3⟩ := A2.cells
      have fz := A2.frozen
      obtain ⟨y0, y1, y2, y3⟩ := B2.cells
      have fy := B2.frozen
      clear A1 B1 RP x0 x1 x2 x3 f1 HSL b2
      by_cases h3 : L.length = 3
      · obtain ⟨t0, t1, t2, hL3⟩ := three_of h3
        have hlz : ∀ t ∈ L, t.size ≤ maxLen := fun t ht => by have := size_of_bulk ht; have := HLB.out; unfold maxLen; omega
        have hall : resAll s = if L.all (fun t => numGood t 9999) && decide (L.length = 3) && P.all partB && decide (P.length ≤ 3) then some (L.map (fun t => numOut t 9999), P) else none := res_spec s k hk HD.out hh.out L P HL.out HP.out
        subst hL3
        have hz0 := hlz t0 (by simp)
        have hz1 := hlz t1 (by simp)
        have hz2 := hlz t2 (by simp)
        obtain ⟨gl, cl, hvl⟩ : ∃ g cap, vl = .slice (some ⟨g, 0, none⟩) 3 cap := by
          rcases o2.2 with ⟨_, h⟩ | ⟨g, cap, cur, hv, _⟩
          · simp at h
          · exact ⟨g, cap, hv⟩
        subst hvl
        have l0 : w2.cell? ⟨gl, 0, none⟩ = some (.string t0) := by rw [o2.cellAt 0 (by simp)]; rfl
        have l1 : w2.cell? ⟨gl, 1, none⟩ = some (.string t1) := by rw [o2.cellAt 1 (by simp)]; rfl
        have l2 : w2.cell? ⟨gl, 2, none⟩ = some (.string t2) := by rw [o2.cellAt 2 (by simp)]; rfl
        have hall2 : resAll s = if numGood t0 9999 && (numGood t1 9999 && numGood t2 9999) && P.all partB && decide (P.length ≤ 3) then some ([numOut t0 9999, numOut t1 9999, numOut t2 9999], P) else none := by rw [hall]; simp
        have HALL : Hid (resAll s = if numGood t0 9999 && (numGood t1 9999 && numGood t2 9999) && P.all partB && decide (P.length ≤ 3) then some ([numOut t0 9999, numOut t1 9999, numOut t2 9999], P) else none) := hall2
        obtain ⟨m0, hm0⟩ : ∃ m, m = numOut t0 9999 := ⟨_, rfl⟩
        obtain ⟨m1, hm1⟩ : ∃ m, m = numOut t1 9999 := ⟨_, rfl⟩
        obtain ⟨m2, hm2⟩ : ∃ m, m = numOut t2 9999 := ⟨_, rfl⟩
        have N0 : Hid (∀ w1, Calls Tryz.prog 97 #[.string t0, .int .i64 9999] w1 fun e w' => e = .returned (.tuple #[.int .i64 m0, .bool (numGood t0 9999)]) ∧ w1 = w') := fun w1 => by rw [hm0]; exact specNum_c t0 9999 hz0 w1
        have N1 : Hid (∀ w1, Calls Tryz.prog 97 #[.string t1, .int .i64 9999] w1 fun e w' => e = .returned (.tuple #[.int .i64 m1, .bool (numGood t1 9999)]) ∧ w1 = w') := fun w1 => by rw [hm1]; exact specNum_c t1 9999 hz1 w1
        have N2 : Hid (∀ w1, Calls Tryz.prog 97 #[.string t2, .int .i64 9999] w1 fun e w' => e = .returned (.tuple #[.int .i64 m2, .bool (numGood t2 9999)]) ∧ w1 = w') := fun w1 => by rw [hm2]; exact specNum_c t2 9999 hz2 w1
        have I0 : Hid (numGood t0 9999 = true → inB m0 0 9999 = true) := fun h => by rw [hm0]; exact num_in h
        have I1 : Hid (numGood t1 9999 = true → inB m1 0 9999 = true) := fun h => by rw [hm1]; exact num_in h
        have I2 : Hid (numGood t2 9999 = true → inB m2 0 9999 = true) := fun h => by rw [hm2]; exact num_in h
        rw [← hm0, ← hm1, ← hm2] at HALL
        have B3 := (four_set ((four_set ((four_set B2 (.int .i64 m0)).1) (.int .i64 m1)).2.1) (.int .i64 m2)).2.2.1
        have A3 : Four (((w2.setCell ⟨w.heap.size + 1, 0, none⟩ (.int .i64 m0)).setCell ⟨w.heap.size + 1, 1, none⟩ (.int .i64 m1)).setCell ⟨w.heap.size + 1, 2, none⟩ (.int .i64 m2)) w.heap.size 219 (.int .i64 0) (.int .i64 0) (.int .i64 0) (.slice none 0 0) :=
          ((Only.set (R := w.heap.size + 1) (base := w.heap.size + 1) w2 0 (.int .i64 m0)).trans ((Only.set _ 1 (.int .i64 m1)).trans (Only.set _ 2 (.int .i64 m2)))).four A2 (by omega) (by omega)
        have hw3 : Below w.heap.size w (((w2.setCell ⟨w.heap.size + 1, 0, none⟩ (.int .i64 m0)).setCell ⟨w.heap.size + 1, 1, none⟩ (.int .i64 m1)).setCell ⟨w.heap.size + 1, 2, none⟩ (.int .i64 m2)) := ((hw2.setCell (by simp) _).setCell (by simp) _).setCell (by simp) _
        have RP3 := reads_set3 RP2 HPB.out (.int .i64 m0) (.int .i64 m1) (.int .i64 m2)
        obtain ⟨uq, un, uc, hup⟩ : ∃ q n c, uP = .slice q n c := by obtain ⟨q, c, h, _⟩ := RP2; exact ⟨_, _, _, h⟩
        subst hup
        clear hall hall2 hm0 hm1 hm2 hlz o2 HL HP RP2 HD hh
        go_wp2_with fail
        go_at_call 97
        refine (N0.out _).mono ?_
        rintro e w' ⟨rfl, rfl⟩
        go_wp2_with fail
        go_at_call 97
        refine (N1.out _).mono ?_
        rintro e w' ⟨rfl, rfl⟩
        go_wp2_with fail
        go_at_call 97
        refine (N2.out _).mono ?_
        rintro e w' ⟨rfl, rfl⟩
        clear N0 N1 N2
        obtain ⟨a0, a1, a2, a3⟩ := A3.cells
        have fa := A3.frozen
        obtain ⟨b0, b1, b2, b3⟩ := B3.cells
        clear l0 l1 l2
        cases hg0 : numGood t0 9999 with
        | false =>
          have hnone : resAll s = none := by rw [HALL.out, hg0]; rfl
          obtain ⟨ho1, ho2⟩ := out_none hnone
          go_wp2_with fail
          refine bodyPost_ret (v := .tuple #[.agg #[.int .i64 0, .int .i64 0, .int .i64 0, .slice none 0 0], .bool false]) (by simp [results, Tryz.results185, go_sem, a0, a1, a2, a3]) rfl ⟨.slice none 0 0, by rw [ho1], ?_, ?_⟩
          · rw [ho2]; exact ⟨none, 0, rfl, Nat.le_refl _, .inl rfl⟩
          · exact (((hw3.setCell (by simp) _).setCell (by simp) _).setCell (by simp) _).setCell (by simp) _
        | true =>
        cases hg1 : numGood t1 9999 with
        | false =>
          have hnone : resAll s = none := by rw [HALL.out, hg0, hg1]; rfl
          obtain ⟨ho1, ho2⟩ := out_none hnone
          go_wp2_with fail
          refine bodyPost_ret (v := .tuple #[.agg #[.int .i64 0, .int .i64 0, .int .i64 0, .slice none 0 0], .bool false]) (by simp [results, Tryz.results185, go_sem, a0, a1, a2, a3]) rfl ⟨.slice none 0 0, by rw [ho1], ?_, ?_⟩
          · rw [ho2]; exact ⟨none, 0, rfl, Nat.le_refl _, .inl rfl⟩
          · exact (((hw3.setCell (by simp) _).setCell (by simp) _).setCell (by simp) _).setCell (by simp) _
        | true =>
        cases hg2 : numGood t2 9999 with
        | false =>
          have hnone : resAll s = none := by rw [HALL.out, hg0, hg1, hg2]; rfl
          obtain ⟨ho1, ho2⟩ := out_none hnone
          go_wp2_with fail
          refine bodyPost_ret (v := .tuple #[.agg #[.int .i64 0, .int .i64 0, .int .i64 0, .slice none 0 0], .bool false]) (by simp [results, Tryz.results185, go_sem, a0, a1, a2, a3]) rfl ⟨.slice none 0 0, by rw [ho1], ?_, ?_⟩
          · rw [ho2]; exact ⟨none, 0, rfl, Nat.le_refl _, .inl rfl⟩
          · exact (((hw3.setCell (by simp) _).setCell (by simp) _).setCell (by simp) _).setCell (by simp) _
        | true =>
          have HV : Hid (resAll s = if verB m0 m1 m2 P then some ([m0, m1, m2], P) else none) := by
            show _ = _
            rw [HALL.out, hg0, hg1, hg2, verB, parts_all, I0.out hg0, I1.out hg1, I2.out hg2]
            simp
          go_wp2_with fail
          go_at_call 187
          refine (specVerOk_c m0 m1 m2 _ P _ RP3 HB.out).mono ?_
          rintro e w4 ⟨rfl, b4⟩
          have A4 := A3.keep b4
          have B4 := B3.keep b4
          have RP4 := RP3.below b4
          have hw4 := hw3.trans (b4.mono hw3.size)
          obtain ⟨p0, p1, p2, p3⟩ := A4.cells
          have fp := A4.frozen
          obtain ⟨q0, q1, q2, q3⟩ := B4.cells
          clear a0 a1 a2 a3 fa b0 b1 b2 b3 A3 B3 RP3 hw3 HALL b4 I0 I1 I2
          cases hv : verB m0 m1 m2 P with
          | false =>
            have hnone : resAll s = none := by rw [HV.out, hv]; rfl
            obtain ⟨ho1, ho2⟩ := out_none hnone
            go_wp2_with fail
            refine bodyPost_ret (v := .tuple #[.agg #[.int .i64 0, .int .i64 0, .int .i64 0, .slice none 0 0], .bool false]) (by simp [results, Tryz.results185, go_sem, p0, p1, p2, p3]) rfl ⟨.slice none 0 0, by rw [ho1], ?_, ?_⟩
            · rw [ho2]; exact ⟨none, 0, rfl, Nat.le_refl _, .inl rfl⟩
            · exact (((hw4.setCell (by simp) _).setCell (by simp) _).setCell (by simp) _).setCell (by simp) _
          | true =>
            have hsome : resAll s = some ([m0, m1, m2], P) := by rw [HV.out, hv]; rfl
            obtain ⟨ho1, ho2⟩ := out_some hsome (.slice uq un uc)
            go_wp2_with fail
            refine bodyPost_ret (v := .tuple #[.agg #[.int .i64 m0, .int .i64 m1, .int .i64 m2, .slice uq un uc], .bool true]) (by simp [results, Tryz.results185, go_sem, p0, p1, p2, p3]) rfl ⟨.slice uq un uc, by rw [ho1]; rfl, ?_, ?_⟩
            · rw [ho2]
              exact reads_set4 RP4 (fun bl h => by have := HPB.out bl h; omega) _ _ _ _
            · exact (((hw4.setCell (by simp) _).setCell (by simp) _).setCell (by simp) _).setCell (by simp) _
      · have hnone : resAll s = none := by rw [res_spec s k hk HD.out hh.out L P HL.out HP.out, if_neg (by simp [h3])]
        have h3' : ((L.length : Int) != 3) = true := by simp; omega
        obtain ⟨vq, vc, hvl⟩ : ∃ q c, vl = .slice q L.length c := by obtain ⟨q, c, h, _⟩ := reads_of_owns o2; exact ⟨q, c, by simpa using h⟩
        subst hvl
        clear o2 y0 y1 y2 y3 fy
        obtain ⟨ho1, ho2⟩ := out_none hnone
        go_wp2_with fail
        refine bodyPost_ret (v := .tuple #[.agg #[.int .i64 0, .int .i64 0, .int .i64 0, .slice none 0 0], .bool false]) (by simp [results, Tryz.results185, go_sem, z0, z1, z2, z3]) rfl ⟨.slice none 0 0, by rw [ho1], ?_, ?_⟩
        · rw [ho2]; exact ⟨none, 0, rfl, Nat.le_refl _, .inl rfl⟩
        · exact (((hw2.setCell (by simp) _).setCell (by simp) _).setCell (by simp) _).setCell (by simp) _
end Go.Proofs.YtlnofdlhjeomfaaGreatDoor

/-! Contracts of two functions of the library (the first place of a byte in a text; a copy of a text), taken over from the library of contracts at the numbers of this program; conditions as each says. -/
namespace Go.Proofs
open Go.Shelf
def Tryz.lays137_ren : Go.Shelf.Ren := ⟨fun | 137 => 68 | 217 => 106 | 266 => 143 | n => n, fun | 9 => 9 | 5 => 5 | 3 => 3 | n => n, fun | n => n⟩
theorem Tryz.lays137 : Go.Proofs.Lays.n137 Tryz.prog Tryz.lays137_ren := {
  mixed := by kernel_rfl
  f137 := Tryz.func68.trans (congrArg some (by kernel_rfl))
  f217 := Tryz.func106.trans (congrArg some (by kernel_rfl))
  f266 := Tryz.func143.trans (congrArg some (by kernel_rfl))
  t3 := Tryz.underlying3
  a3 := Tryz.isAgg3
  z3 := Tryz.sizeOf3
  v3 := Tryz.zeroValue3
  t5 := Tryz.underlying5
  a5 := Tryz.isAgg5
  z5 := Tryz.sizeOf5
  v5 := Tryz.zeroValue5
  t9 := Tryz.underlying9
  a9 := Tryz.isAgg9
  z9 := Tryz.sizeOf9
  v9 := Tryz.zeroValue9 }
open Go.RowKit in
theorem Tryz.strings_IndexByte (s : ByteArray) (c : Int) (w : World) :
    Calls Tryz.prog 68 #[.string s, .int .u8 c] w fun e w' => e = .returned (.int .i64 (Lib.indexByte s.data.toList c.toNat.toUInt8)) ∧ w' = w := Any.strings_IndexByte Tryz.lays137 s c w
def Tryz.laysM316_ren : Go.Shelf.Ren := ⟨fun | 316 => 188 | n => n, fun | 9 => 9 | 3 => 3 | 4 => 4 | 37 => 136 | 0 => 0 | 127 => 249 | 5 => 5 | n => n, fun | n => n⟩
theorem Tryz.laysM316 : Go.Proofs.LaysM.n316 Tryz.prog Tryz.laysM316_ren := {
  mixed := by kernel_rfl
  f316 := Tryz.func188.trans (congrArg some (by kernel_rfl))
  t0 := Tryz.underlying0
  a0 := Tryz.isAgg0
  z0 := Tryz.sizeOf0
  v0 := Tryz.zeroValue0
  t3 := Tryz.underlying3
  a3 := Tryz.isAgg3
  z3 := Tryz.sizeOf3
  v3 := Tryz.zeroValue3
  t4 := Tryz.underlying4
  a4 := Tryz.isAgg4
  z4 := Tryz.sizeOf4
  v4 := Tryz.zeroValue4
  t9 := Tryz.underlying9
  a9 := Tryz.isAgg9
  z9 := Tryz.sizeOf9
  v9 := Tryz.zeroValue9
  t37 := Tryz.underlying136
  a37 := Tryz.isAgg136
  z37 := Tryz.sizeOf136
  v37 := Tryz.zeroValue136
  t127 := Tryz.underlying249
  a127 := Tryz.isAgg249
  z127 := Tryz.sizeOf249
  v127 := Tryz.zeroValue249
  t5 := Tryz.underlying5
  a5 := Tryz.isAgg5
  z5 := Tryz.sizeOf5
  v5 := Tryz.zeroValue5
  i0 := by kernel_rfl
  i3 := by kernel_rfl
  i4 := by kernel_rfl
  i5 := by kernel_rfl
  i9 := by kernel_rfl
  i37 := by kernel_rfl
  i127 := by kernel_rfl }
open Go.RowKit in
theorem Tryz.stringslite_Clone (s : ByteArray) (w : World) (hlim : s.size ≤ 281474976710656) :
    Calls Tryz.prog 188 #[.string s] w fun e w' => e = .returned (.string s) ∧ Below w.heap.size w w' := Any.stringslite_Clone Tryz.laysM316 s w hlim
end Go.Proofs
