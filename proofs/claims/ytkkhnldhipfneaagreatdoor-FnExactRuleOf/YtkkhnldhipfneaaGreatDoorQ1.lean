/-
  Contracts for the walks, several texts in one: each part says what it proves, and under which conditions.
-/
import Derived.Test.YtkkhnldhipfneaaGreatDoorRows
import Derived.WalkKit
import Derived.WalkSpells
import Derived.WalkLawsBesides
import Derived.Lib.Strings
import Derived.Deep.LoopGhost
import Derived.Deep.QuietTactic
import Derived.BigQuiet
import Derived.WalkSmall
import Derived.Laws.BytesArg
import Derived.Deep.RegionWith
import Derived.Lib.IndexLaws
import Derived.Shelf.Small.Utf8
import Derived.Shelf.Small.Strs
import Derived.Shelf.LaysM
import Derived.Shelf.Strconv.Clone
import Derived.Shelf.Strings.Search1
import Derived.Shelf.Strings.Search2
import Derived.Shelf.Strings.Search3
import Derived.Shelf.Strings.Cut
import Derived.Shelf.Strings.Count
import Derived.Shelf.Strings.Shaped
import Derived.Shelf.Sort.Plain
import Derived.Shelf.Strings.Runes
import Derived.Shelf.Strings.AsciiSet
import Derived.Shelf.Unicode.DecodeSlow
import Derived.Shelf.Slices.CompactS
import Derived.Shelf.Slices.In.SortNone
import Derived.Test.YtkkhnldhipfneaaGreatDoorProg
import Derived.Deep.RegionHeld

/-! What the functions that look at one byte, and the two functions NameOk (the program's and the specification's), answer: contracts for the walks; no conditions but that a string is no longer than an int can count. -/
namespace Go.Proofs.YtkkhnldhipfneaaGreatDoor
open Go.RowKit
set_option linter.unusedSimpArgs false
set_option linter.unusedVariables false

def smallB (c : Int) : Bool := decide (97 ≤ c) && decide (c ≤ 122)
def digitB (c : Int) : Bool := decide (48 ≤ c) && decide (c ≤ 57)
def plainB (c : Int) : Bool := decide (32 ≤ c) && decide (c ≤ 126)
def inB (x lo hi : Int) : Bool := decide (lo ≤ x) && decide (x ≤ hi)

def allUpto (p : Nat → Int → Bool) (s : ByteArray) : Nat → Bool
  | 0 => true
  | k + 1 => allUpto p s k && p k ((s.data[k]!).toNat : Int)

theorem byteBang (s : ByteArray) (j : Nat) (hj : j < s.size) : s.data[j]! = s[j] := by
  rw [getElem!_pos s.data j (by simpa using hj)]; rfl

theorem allUpto_cut (p : Nat → Int → Bool) (s : ByteArray) (k : Nat) (h : p k ((s.data[k]!).toNat : Int) = false) :
    ∀ n, k < n → allUpto p s n = false
  | 0, h0 => by omega
  | n + 1, hk => by
    unfold allUpto
    by_cases e : k = n
    · subst e; simp [h]
    · rw [allUpto_cut p s k h n (by omega)]; rfl

theorem step_true {p : Nat → Int → Bool} {s : ByteArray} {k : Nat} (hk : k < s.size) (hh : Hid (allUpto p s k = true)) (h : p k ((s[k]).toNat : Int) = true) : Hid (allUpto p s (k + 1) = true) := by
  show _ = _
  rw [allUpto, hh.out, byteBang s k hk, h]; rfl

theorem end_false {p : Nat → Int → Bool} {s : ByteArray} {k : Nat} (hk : k < s.size) (h : p k ((s[k]).toNat : Int) = false) : allUpto p s s.size = false :=
  allUpto_cut p s k (by rw [byteBang s k hk]; exact h) _ hk

theorem in_c (x lo hi : Int) (w : World) :
    Calls Tryz.prog 190 #[.int .i64 x, .int .i64 lo, .int .i64 hi] w fun e w' => e = .returned (.bool (inB x lo hi)) ∧ w = w' := by
  by_cases h : lo ≤ x
  · by_cases h2 : x ≤ hi
    · have hb : inB x lo hi = true := by simp [inB, h, h2]
      rw [hb]
      go_enter Tryz.func190, Tryz.ntmps190
      go_wp2
      go_ret
      exact ⟨by simp [h2], rfl⟩
    · have hb : inB x lo hi = false := by simp [inB, h2]
      rw [hb]
      go_enter Tryz.func190, Tryz.ntmps190
      go_wp2
      go_ret
      exact ⟨by simp [h2], rfl⟩
  · have hb : inB x lo hi = false := by simp [inB, h]
    rw [hb]
    go_enter Tryz.func190, Tryz.ntmps190
    go_wp2
    go_ret
    exact ⟨rfl, rfl⟩

theorem small_c (c : Int) (h0 : 0 ≤ c) (h1 : c ≤ 255) (w : World) :
    Calls Tryz.prog 188 #[.int .u8 c] w fun e w' => e = .returned (.bool (smallB c)) ∧ w = w' := by
  go_enter Tryz.func188, Tryz.ntmps188
  go_wp2_with (go_at_call 190; refine (in_c _ _ _ _).mono ?_; rintro e w' ⟨rfl, rfl⟩)
  go_ret
  exact ⟨rfl, rfl⟩

theorem digit_c (c : Int) (h0 : 0 ≤ c) (h1 : c ≤ 255) (w : World) :
    Calls Tryz.prog 189 #[.int .u8 c] w fun e w' => e = .returned (.bool (digitB c)) ∧ w = w' := by
  go_enter Tryz.func189, Tryz.ntmps189
  go_wp2_with (go_at_call 190; refine (in_c _ _ _ _).mono ?_; rintro e w' ⟨rfl, rfl⟩)
  go_ret
  exact ⟨rfl, rfl⟩

theorem isSmall_c (c : Int) (w : World) :
    Calls Tryz.prog 139 #[.int .u8 c] w fun e w' => e = .returned (.bool (smallB c)) ∧ w = w' := by
  by_cases h : 97 ≤ c
  · have hb : smallB c = decide (c ≤ 122) := by simp [smallB, h]
    rw [hb]
    go_enter Tryz.func139, Tryz.ntmps139
    go_wp2
    go_ret
    exact ⟨rfl, rfl⟩
  · have hb : smallB c = false := by simp [smallB, h]
    rw [hb]
    go_enter Tryz.func139, Tryz.ntmps139
    go_wp2
    go_ret
    exact ⟨rfl, rfl⟩

theorem isDigit_c (c : Int) (w : World) :
    Calls Tryz.prog 140 #[.int .u8 c] w fun e w' => e = .returned (.bool (digitB c)) ∧ w = w' := by
  by_cases h : 48 ≤ c
  · have hb : digitB c = decide (c ≤ 57) := by simp [digitB, h]
    rw [hb]
    go_enter Tryz.func140, Tryz.ntmps140
    go_wp2
    go_ret
    exact ⟨rfl, rfl⟩
  · have hb : digitB c = false := by simp [digitB, h]
    rw [hb]
    go_enter Tryz.func140, Tryz.ntmps140
    go_wp2
    go_ret
    exact ⟨rfl, rfl⟩

theorem isPlain_c (c : Int) (w : World) :
    Calls Tryz.prog 280 #[.int .u8 c] w fun e w' => e = .returned (.bool (plainB c)) ∧ w = w' := by
  by_cases h : 32 ≤ c
  · have hb : plainB c = decide (c ≤ 126) := by simp [plainB, h]
    rw [hb]
    go_enter Tryz.func280, Tryz.ntmps280
    go_wp2
    go_ret
    exact ⟨rfl, rfl⟩
  · have hb : plainB c = false := by simp [plainB, h]
    rw [hb]
    go_enter Tryz.func280, Tryz.ntmps280
    go_wp2
    go_ret
    exact ⟨rfl, rfl⟩

theorem byte0 (u : UInt8) : (0 : Int) ≤ (u.toNat : Int) := by omega
theorem wrap_byte (u : UInt8) : wrap64 (u.toNat : Int) = (u.toNat : Int) := by
  have := u.toNat_lt
  rw [wrap64]; omega
theorem byte255 (u : UInt8) : (u.toNat : Int) ≤ 255 := by have := u.toNat_lt; omega

def okName (k : Nat) (c : Int) : Bool := smallB c || (k != 0 && (digitB c || c == 45))
def nameB (s : ByteArray) : Bool := allUpto okName s s.size && inB s.size 1 10

set_option maxHeartbeats 1000000 in
theorem specName_c (s : ByteArray) (hs : s.size ≤ maxLen) (w : World) :
    Calls Tryz.prog 129 #[.string s] w fun e w' => e = .returned (.bool (nameB s)) ∧ w = w' := by
  unfold maxLen at hs
  go_enter Tryz.func129, Tryz.ntmps129
  go_wp2
  go_loop [3] (fun vi => ∃ k : Nat, k ≤ s.size ∧ vi = .int .i64 (k : Int) ∧ Hid (allUpto okName s k = true)) (fun vi => s.size - (intOf vi).toNat)
  case atStart => exact ⟨0, Nat.zero_le _, rfl, rfl⟩
  case round =>
    obtain ⟨k, hk, rfl, hh⟩ := hrel
    go_wp2_with (first
      | (go_at_call 188; refine (small_c _ (byte0 _) (byte255 _) _).mono ?_; rintro e w' ⟨rfl, rfl⟩)
      | (go_at_call 189; refine (digit_c _ (byte0 _) (byte255 _) _).mono ?_; rintro e w' ⟨rfl, rfl⟩)
      | (go_at_call 190; refine (in_c _ _ _ _).mono ?_; rintro e w' ⟨rfl, rfl⟩))
    · have hlt : k < s.size := by assumption
      go_round
      case rel => exact ⟨k + 1, by omega, by go_num, step_true hlt hh (by simp [okName, *])⟩
      case measure => simp [intOf]; omega
    · have hlt : k < s.size := by assumption
      have h0 : k = 0 := by assumption
      have h1 : ¬ smallB ((s[k]).toNat : Int) = true := by assumption
      go_ret
      exact ⟨by rw [nameB, end_false hlt (by subst h0; simpa [okName] using h1)]; rfl, rfl⟩
    · have hlt : k < s.size := by assumption
      go_round
      case rel => exact ⟨k + 1, by omega, by go_num, step_true hlt hh (by simp [okName, *])⟩
      case measure => simp [intOf]; omega
    · have hlt : k < s.size := by assumption
      have h0 : ¬ k = 0 := by assumption
      have h1 : ¬ smallB ((s[k]).toNat : Int) = true := by assumption
      have h2 : ¬ digitB ((s[k]).toNat : Int) = true := by assumption
      have h3 : ((k : Int) == 0) = true ∨ (((s[k]).toNat : Int) != 45) = true := by assumption
      have h4 : (((s[k]).toNat : Int) == 45) = false := by
        rcases h3 with h3 | h3
        · simp at h3; omega
        · simpa using h3
      go_ret
      exact ⟨by rw [nameB, end_false hlt (by simp only [okName, h1, h2, h4]; simp)]; rfl, rfl⟩
    · have hlt : k < s.size := by assumption
      have h0 : ¬ k = 0 := by assumption
      have h3 : ((k : Int) == 0) = false ∧ (((s[k]).toNat : Int) != 45) = false := by assumption
      have h4 : (((s[k]).toNat : Int) == 45) = true := by simpa using h3.2
      go_round
      case rel => exact ⟨k + 1, by omega, by go_num, step_true hlt hh (by simp only [okName, h4]; simp [h0])⟩
      case measure => simp [intOf]; omega
    · have he : k = s.size := by omega
      subst he
      go_ret
      exact ⟨by rw [nameB, hh.out]; rfl, rfl⟩

theorem size_ne {s : ByteArray} (h : ¬ s.size = 0) : ((s.size : Int) == 0) = false := by
  rw [beq_eq_false_iff_ne]; omega

theorem nameB_out {s : ByteArray} (h : s.size = 0 ∨ 10 < s.size) : nameB s = false := by
  have : inB s.size 1 10 = false := by
    simp only [inB, Bool.and_eq_false_iff, decide_eq_false_iff_not]
    omega
  rw [nameB, this, Bool.and_false]

theorem nameB_first {s : ByteArray} (h0 : 0 < s.size) (h : smallB ((s[0]).toNat : Int) = false) : nameB s = false := by
  rw [nameB, end_false h0 (by simp [okName, h])]; rfl

theorem nameB_in {s : ByteArray} (h0 : 0 < s.size) (h1 : s.size ≤ 10) (h : allUpto okName s s.size = true) : nameB s = true := by
  have : inB s.size 1 10 = true := by
    simp only [inB, Bool.and_eq_true, decide_eq_true_eq]
    omega
  rw [nameB, this, h]; rfl

set_option maxHeartbeats 1000000 in
theorem implName_c (s : ByteArray) (hs : s.size ≤ maxLen) (w : World) :
    Calls Tryz.prog 72 #[.string s] w fun e w' => e = .returned (.bool (nameB s)) ∧ w = w' := by
  unfold maxLen at hs
  by_cases h0 : s.size = 0
  · have e := nameB_out (.inl h0)
    rw [e]
    have h0' : ((s.size : Int) == 0) = true := by simp [h0]
    go_enter Tryz.func72, Tryz.ntmps72
    go_wp2
    go_ret
    exact ⟨rfl, rfl⟩
  by_cases h10 : 10 < s.size
  · have e := nameB_out (.inr h10)
    rw [e]
    have h0' : ((s.size : Int) == 0) = false := size_ne h0
    have h10' : (10 : Int) < (s.size : Int) := by omega
    go_enter Tryz.func72, Tryz.ntmps72
    go_wp2
    go_ret
    exact ⟨rfl, rfl⟩
  have hp : 0 < s.size := by omega
  have h0' : ((s.size : Int) == 0) = false := size_ne h0
  have h10' : ¬ (10 : Int) < (s.size : Int) := by omega
  cases hf : smallB ((s[0]).toNat : Int) with
  | false =>
    rw [nameB_first hp hf]
    go_enter Tryz.func72, Tryz.ntmps72
    go_wp2_with (first
      | (go_at_call 139; refine (isSmall_c _ _).mono ?_; rintro e w' ⟨rfl, rfl⟩)
      | (go_at_call 140; refine (isDigit_c _ _).mono ?_; rintro e w' ⟨rfl, rfl⟩))
    go_ret
    exact ⟨rfl, rfl⟩
  | true =>
    go_enter Tryz.func72, Tryz.ntmps72
    go_wp2_with (first
      | (go_at_call 139; refine (isSmall_c _ _).mono ?_; rintro e w' ⟨rfl, rfl⟩)
      | (go_at_call 140; refine (isDigit_c _ _).mono ?_; rintro e w' ⟨rfl, rfl⟩))
    go_loop [20] (fun vi => ∃ k : Nat, k ≤ s.size ∧ vi = .int .i64 (k : Int) ∧ Hid (allUpto okName s k = true)) (fun vi => s.size - (intOf vi).toNat)
    case atStart => exact ⟨0, Nat.zero_le _, rfl, rfl⟩
    case round =>
      obtain ⟨k, hk, rfl, hh⟩ := hrel
      go_wp2_with (first
        | (go_at_call 139; refine (isSmall_c _ _).mono ?_; rintro e w' ⟨rfl, rfl⟩)
        | (go_at_call 140; refine (isDigit_c _ _).mono ?_; rintro e w' ⟨rfl, rfl⟩))
      · have hlt : k < s.size := by assumption
        go_round
        case rel => exact ⟨k + 1, by omega, by go_num, step_true hlt hh (by simp [okName, *])⟩
        case measure => simp [intOf]; omega
      · have hlt : k < s.size := by assumption
        have h1 : ¬ smallB ((s[k]).toNat : Int) = true := by assumption
        have h2 : digitB ((s[k]).toNat : Int) = true := by assumption
        have h3 : ¬ k = 0 := fun e => by subst e; exact h1 hf
        go_round
        case rel => exact ⟨k + 1, by omega, by go_num, step_true hlt hh (by simp [okName, h2, h3])⟩
        case measure => simp [intOf]; omega
      · have hlt : k < s.size := by assumption
        have h1 : ¬ smallB ((s[k]).toNat : Int) = true := by assumption
        have h2 : ¬ digitB ((s[k]).toNat : Int) = true := by assumption
        have h3 : (((s[k]).toNat : Int) != 45) = true := by assumption
        have h4 : (((s[k]).toNat : Int) == 45) = false := by simpa using h3
        go_ret
        exact ⟨by rw [nameB, end_false hlt (by simp only [okName, h1, h2, h4]; simp)]; rfl, rfl⟩
      · have hlt : k < s.size := by assumption
        have h1 : ¬ smallB ((s[k]).toNat : Int) = true := by assumption
        have h2 : (((s[k]).toNat : Int) != 45) = false := by assumption
        have h3 : ¬ k = 0 := fun e => by subst e; exact h1 hf
        have h4 : (((s[k]).toNat : Int) == 45) = true := by simpa using h2
        go_round
        case rel => exact ⟨k + 1, by omega, by go_num, step_true hlt hh (by simp only [okName, h4]; simp [h3])⟩
        case measure => simp [intOf]; omega
      · have he : k = s.size := by omega
        subst he
        go_ret
        exact ⟨by rw [nameB_in hp (by omega) hh.out]; rfl, rfl⟩

def okPlain (_ : Nat) (c : Int) : Bool := plainB c
def plainAll (s : ByteArray) (most : Int) : Bool := allUpto okPlain s s.size && decide ((s.size : Int) ≤ most)

set_option maxHeartbeats 1000000 in
theorem specPlain_c (s : ByteArray) (most : Int) (hs : s.size ≤ maxLen) (w : World) :
    Calls Tryz.prog 234 #[.string s, .int .i64 most] w fun e w' => e = .returned (.bool (plainAll s most)) ∧ w = w' := by
  unfold maxLen at hs
  go_enter Tryz.func234, Tryz.ntmps234
  go_wp2
  go_loop [5] (fun vi => ∃ k : Nat, k ≤ s.size ∧ vi = .int .i64 (k : Int) ∧ Hid (allUpto okPlain s k = true)) (fun vi => s.size - (intOf vi).toNat)
  case atStart => exact ⟨0, Nat.zero_le _, rfl, rfl⟩
  case round =>
    obtain ⟨k, hk, rfl, hh⟩ := hrel
    go_wp2_with (go_at_call 190; refine (in_c _ _ _ _).mono ?_; rintro e w' ⟨rfl, rfl⟩)
    · have hlt : k < s.size := by assumption
      have h1 : (!inB (wrap64 ((s[k]).toNat : Int)) 32 126) = true := by assumption
      rw [wrap_byte] at h1
      have h2 : plainB ((s[k]).toNat : Int) = false := by simpa using (show (!plainB ((s[k]).toNat : Int)) = true from h1)
      go_ret
      exact ⟨by rw [plainAll, end_false hlt h2]; rfl, rfl⟩
    · have hlt : k < s.size := by assumption
      have h1 : (!inB (wrap64 ((s[k]).toNat : Int)) 32 126) = false := by assumption
      rw [wrap_byte] at h1
      have h2 : plainB ((s[k]).toNat : Int) = true := by simpa using (show (!plainB ((s[k]).toNat : Int)) = false from h1)
      go_round
      case rel => exact ⟨k + 1, by omega, by go_num, step_true hlt hh h2⟩
      case measure => simp [intOf]; omega
    · have he : k = s.size := by omega
      subst he
      go_ret
      exact ⟨by rw [plainAll, hh.out]; rfl, rfl⟩

set_option maxHeartbeats 1000000 in
theorem implPlain_c (s : ByteArray) (most : Int) (hs : s.size ≤ maxLen) (w : World) :
    Calls Tryz.prog 261 #[.string s, .int .i64 most] w fun e w' => e = .returned (.bool (plainAll s most)) ∧ w = w' := by
  unfold maxLen at hs
  by_cases hm : most < (s.size : Int)
  · have e : plainAll s most = false := by
      have : decide ((s.size : Int) ≤ most) = false := by simp; omega
      rw [plainAll, this, Bool.and_false]
    rw [e]
    go_enter Tryz.func261, Tryz.ntmps261
    go_wp2
    go_ret
    exact ⟨rfl, rfl⟩
  go_enter Tryz.func261, Tryz.ntmps261
  go_wp2
  go_loop [12] (fun vi => ∃ k : Nat, k ≤ s.size ∧ vi = .int .i64 (k : Int) ∧ Hid (allUpto okPlain s k = true)) (fun vi => s.size - (intOf vi).toNat)
  case atStart => exact ⟨0, Nat.zero_le _, rfl, rfl⟩
  case round =>
    obtain ⟨k, hk, rfl, hh⟩ := hrel
    go_wp2_with (go_at_call 280; refine (isPlain_c _ _).mono ?_; rintro e w' ⟨rfl, rfl⟩)
    · have hlt : k < s.size := by assumption
      have h1 : (!plainB ((s[k]).toNat : Int)) = true := by assumption
      have h2 : plainB ((s[k]).toNat : Int) = false := by simpa using h1
      go_ret
      exact ⟨by rw [plainAll, end_false hlt h2]; rfl, rfl⟩
    · have hlt : k < s.size := by assumption
      have h1 : (!plainB ((s[k]).toNat : Int)) = false := by assumption
      have h2 : plainB ((s[k]).toNat : Int) = true := by simpa using h1
      go_round
      case rel => exact ⟨k + 1, by omega, by go_num, step_true hlt hh h2⟩
      case measure => simp [intOf]; omega
    · have he : k = s.size := by omega
      subst he
      have e : decide ((s.size : Int) ≤ most) = true := by simp; omega
      go_ret
      exact ⟨by rw [plainAll, hh.out, e]; rfl, rfl⟩
end Go.Proofs.YtkkhnldhipfneaaGreatDoor

/-! What the helpers over lists of bytes answer (a copy, whether two are alike, marking, whether the marks are held): contracts for the walks, over any world; conditions: the lists lie in memory as told, and are no longer than 2 to the 48. -/
namespace Go.Proofs.YtkkhnldhipfneaaGreatDoor
open Go.RowKit
set_option linter.unusedSimpArgs false
set_option linter.unusedVariables false

/-- The slice value v reads as the list xs in the world w. -/
def Reads (w : World) (v : Value) (xs : List Value) : Prop :=
  ∃ a cap, v = .slice a xs.length cap ∧ xs.length ≤ cap ∧ (xs = [] ∨ ∃ b off, a = some ⟨b, off, none⟩ ∧ b < w.heap.size ∧ ∀ i (h : i < xs.length), w.cell? ⟨b, off + i, none⟩ = some xs[i])

theorem Reads.below {w w' : World} {v : Value} {xs : List Value} (h : Reads w v xs) (hb : Below w.heap.size w w') : Reads w' v xs := by
  obtain ⟨a, cap, hv, hcp, h | ⟨b, off, ha, hlt, hc⟩⟩ := h
  · exact ⟨a, cap, hv, hcp, .inl h⟩
  · exact ⟨a, cap, hv, hcp, .inr ⟨b, off, ha, Nat.lt_of_lt_of_le hlt hb.size, fun i hi => by rw [hb.cell (p := ⟨b, off + i, none⟩) hlt]; exact hc i hi⟩⟩

theorem below_of_grown {w w' : World} (h : w.grownBy w' none) : Below w.heap.size w w' := ⟨h.os, h.tape, h.output, h.size, fun k hk => h.block k hk (by simp)⟩
theorem grown_of_below {w w' : World} (h : Below w.heap.size w w') (row : Option Nat) : w.grownBy w' row := ⟨h.os, h.tape, h.output, h.size, fun k hk _ => h.block k hk⟩

theorem reads_of_owns {w : World} {base : Nat} {e : TypeId} {v : Value} {n : Nat} {xs : List Value} (h : w.ownsRow base e 1 v n xs) : Reads w v xs := by
  obtain ⟨hl, h⟩ := h
  rw [Nat.mul_one] at hl
  rcases h with ⟨rfl, hn⟩ | ⟨g, cap, cur, rfl, hb, hg, hn, hcap, hsz, htake⟩
  · have : xs = [] := List.eq_nil_of_length_eq_zero (by omega)
    subst this
    exact ⟨none, 0, rfl, Nat.le_refl _, .inl rfl⟩
  · refine ⟨some ⟨g, 0, none⟩, cap, by rw [hl], by omega, .inr ⟨g, 0, rfl, (Array.getElem?_eq_some_iff.1 hg).1, fun i hi => ?_⟩⟩
    rw [Nat.zero_add]
    have := World.ownsRow.cellAt (w := w) (base := base) (e := e) (size := 1) (g := g) (n := n) (cap := cap) (xs := xs) ⟨by omega, .inr ⟨g, cap, cur, rfl, hb, hg, hn, hcap, hsz, htake⟩⟩ i (by omega)
    rw [this]
    simp [hi]

theorem owns_of_below {w w' : World} {base : Nat} {e : TypeId} {v : Value} {n : Nat} {xs : List Value} (h : w.ownsRow base e 1 v n xs) (hb : Below w.heap.size w w') : w'.ownsRow base e 1 v n xs :=
  h.kept (grown_of_below hb none) (by cases hv : v.ownBlock <;> simp)

theorem owns_empty {w : World} {base : Nat} {e : TypeId} {v : Value} {xs : List Value} (h : w.ownsRow base e 1 v 0 xs) : w.ownsRow base e 1 v 0 [] := by
  have : xs = [] := List.eq_nil_of_length_eq_zero (by simpa using h.1)
  subst this
  exact h

theorem info5 : (Tryz.prog.info? 5).map (fun i => (i.zero, i.size, i.bytes)) = some (some (.int .u8 0), 1, 1) := by kernel_rfl

theorem set_step {ys xs : List Value} {n k : Nat} {u : Value} (hk : k < n) (h : ys.length = n ∧ ∀ j, j < k → ys[j]? = xs[j]?) (hu : xs[k]? = some u) :
    Hid ((ys.set k u).length = n ∧ ∀ j, j < k + 1 → (ys.set k u)[j]? = xs[j]?) := by
  refine ⟨by simp [h.1], fun j hj => ?_⟩
  rw [List.getElem?_set]
  by_cases e : k = j
  · subst e; simp [h.1, hk, hu]
  · rw [if_neg e]; exact h.2 j (by omega)

theorem list_done {ys xs : List Value} {n : Nat} (h1 : ys.length = n) (h2 : xs.length = n) (h : ∀ j, j < n → ys[j]? = xs[j]?) : ys = xs := by
  apply List.ext_getElem?
  intro j
  by_cases hj : j < n
  · exact h j hj
  · rw [List.getElem?_eq_none (by omega), List.getElem?_eq_none (by omega)]

def bytesV (zs : List Int) : List Value := zs.map (Value.int .u8)
@[simp] theorem length_bytesV (zs : List Int) : (bytesV zs).length = zs.length := by simp [bytesV]

/-- A byte list's cells, as the walk asks for them. -/
theorem reads_bytes {w : World} {v : Value} {zs : List Int} (h : Reads w v (bytesV zs)) :
    ∃ a cap, v = .slice a zs.length cap ∧ zs.length ≤ cap ∧ (zs = [] ∨ ∃ b off, a = some ⟨b, off, none⟩ ∧ b < w.heap.size ∧ ∀ k, k < zs.length → w.cell? ⟨b, off + k, none⟩ = some (.int .u8 (zs.getD k 0))) := by
  obtain ⟨a, cap, hv, hcp, hc⟩ := h
  rw [length_bytesV] at hv hcp
  refine ⟨a, cap, hv, hcp, ?_⟩
  rcases hc with hc | ⟨b, off, rfl, hlt, hc⟩
  · exact .inl (by simpa [bytesV] using hc)
  · refine .inr ⟨b, off, rfl, hlt, fun k hk => ?_⟩
    rw [hc k (by simpa using hk)]
    simp [bytesV, List.getD_eq_getElem?_getD, hk]

theorem below_drewN' {B : Nat} {a w : World} (h : Below B a w) (n : Nat) : Below B a (w.drewN n) := h.trans ⟨rfl, rfl, rfl, Nat.le_refl _, fun _ _ => rfl⟩

theorem eq_step {zs ys : List Int} {k : Nat} (h : ∀ j, j < k → zs.getD j 0 = ys.getD j 0) (hk : zs.getD k 0 = ys.getD k 0) : Hid (∀ j, j < k + 1 → zs.getD j 0 = ys.getD j 0) := fun j hj => by
  by_cases e : j = k
  · subst e; exact hk
  · exact h j (by omega)

theorem ints_done {zs ys : List Int} (hl : zs.length = ys.length) (h : ∀ j, j < zs.length → zs.getD j 0 = ys.getD j 0) : zs = ys := by
  apply List.ext_getElem hl
  intro j h1 h2
  have := h j h1
  simpa [List.getD_eq_getElem?_getD, h1, h2] using this

/-- The marks k, k + 1 .. as bytes. -/
def marksB (k : Int) (n : Nat) : List Int := (List.range n).map fun (j : Nat) => (k + (j : Int)) % 256
@[simp] theorem length_marksB (k : Int) (n : Nat) : (marksB k n).length = n := by simp [marksB]
theorem marksB_at (k : Int) (n j : Nat) (h : j < n) : (bytesV (marksB k n))[j]? = some (.int .u8 ((k + (j : Int)) % 256)) := by
  simp [bytesV, marksB, h]

theorem grown_trans {a b c : World} {r : Option Nat} (h : a.grownBy b r) (k : b.grownBy c r) : a.grownBy c r :=
  ⟨k.os.trans h.os, k.tape.trans h.tape, k.output.trans h.output, Nat.le_trans h.size k.size, fun i hi hne => (k.block i (Nat.lt_of_lt_of_le hi h.size) hne).trans (h.block i hi hne)⟩

end Go.Proofs.YtkkhnldhipfneaaGreatDoor

/-! What the helper that tells a number as a mark answers: one text for each number; it makes memory of its own and writes into nothing else; condition: the number is at least 1 and at most 2 to the 40. -/
namespace Go.Proofs.YtkkhnldhipfneaaGreatDoor
open Go.RowKit
set_option linter.unusedSimpArgs false
set_option linter.unusedVariables false

def markLoop : Nat → Nat → ByteArray → ByteArray
  | 0, _, out => out
  | f + 1, k, out => if k = 0 then out else markLoop f (k / 10) (strOfNums [48 + (k : Int) % 10] ++ out)
def markStr (k : Nat) : ByteArray := ⟨#[109]⟩ ++ markLoop k k ⟨#[]⟩

theorem conv_one {w : World} (x : Int) : (convert 22 9 (.slice (some ⟨w.heap.size, 0, none⟩) 1 1)).run Tryz.prog (w.alloc (.cells #[.int .u8 x] 5)) = .ok (.string (strOfNums [x])) (w.alloc (.cells #[.int .u8 x] 5)) := by
  refine run_convert_bytes_arg _ 22 5 Tryz.underlying22 Tryz.underlying5 _ 0 1 1 [x] rfl (fun i hi => ?_) 9 Tryz.underlying9
  have : i = 0 := by omega
  subst this
  simp

set_option maxHeartbeats 1000000 in
set_option maxRecDepth 100000 in
theorem markText_c (k0 : Nat) (w : World) (h1 : 1 ≤ k0) (h2 : k0 ≤ 1099511627776) :
    Calls Tryz.prog 104 #[.int .i64 (k0 : Int)] w fun e w' => e = .returned (.string (markStr k0)) ∧ Below w.heap.size w w' := by
  have h0 : ¬ ((k0 : Int) ≤ 0) := by omega
  go_enter Tryz.func104, Tryz.ntmps104
  go_wp2
  go_loopw [0, 3] (fun vk vo wr => ∃ (k f : Nat) (out : ByteArray), vk = .int .i64 (k : Int) ∧ vo = .string out ∧ k ≤ f ∧ k ≤ k0 ∧ out.size + k ≤ k0 ∧ Hid (markLoop f k out = markLoop k0 k0 ⟨#[]⟩) ∧ Below w.heap.size w wr) (fun vk _ _ => (intOf vk).toNat)
  case atStart => exact ⟨k0, k0, _, rfl, rfl, Nat.le_refl _, Nat.le_refl _, Nat.le_of_eq (Nat.zero_add _), rfl, Below.refl _ _⟩
  case round =>
    obtain ⟨k, f, out, rfl, rfl, hkf, hk0, hsz, hh, hbr⟩ := hrel
    have hcv := conv_one (w := wr) (48 + (k : Int) % 10)
    have h1s : (strOfNums [48 + (k : Int) % 10]).size = 1 := strOfNums_size _
    go_wp2
    · have hkp : 0 < k := by omega
      obtain ⟨f, rfl⟩ : ∃ f', f = f' + 1 := ⟨f - 1, by omega⟩
      go_roundw
      case rel =>
        refine ⟨k / 10, f, _, by go_num, rfl, by omega, by omega, ?_, ?_, hbr.alloc hbr.size _⟩
        · rw [ByteArray.size_append, h1s]; omega
        · show _ = _
          rw [← hh.out, markLoop, if_neg (by omega)]
      case measure => simp [intOf]; omega
    · have hk : k = 0 := by omega
      subst hk
      have e : markLoop f 0 out = out := by cases f <;> simp [markLoop]
      go_ret
      exact ⟨by rw [markStr, ← hh.out, e]; rfl, hbr⟩
end Go.Proofs.YtkkhnldhipfneaaGreatDoor

/-! What the helpers over lists of texts answer (a copy, whether two are alike, marking, whether the marks are held, how much there is): contracts for the walks, over any world; conditions: the lists lie in memory as told, and are no longer than 2 to the 40. -/
namespace Go.Proofs.YtkkhnldhipfneaaGreatDoor
open Go.RowKit
set_option linter.unusedSimpArgs false
set_option linter.unusedVariables false

def strsV (ss : List ByteArray) : List Value := ss.map Value.string
@[simp] theorem length_strsV (ss : List ByteArray) : (strsV ss).length = ss.length := by simp [strsV]
theorem strsV_at (ss : List ByteArray) (j : Nat) (h : j < ss.length) : (strsV ss)[j]? = some (.string ss[j]) := by simp [strsV, h]
theorem infoS : (Tryz.prog.info? 9).map (fun i => (i.zero, i.size, i.bytes)) = some (some (.string ⟨#[]⟩), 1, 16) := by kernel_rfl

theorem reads_strs {w : World} {v : Value} {ss : List ByteArray} (h : Reads w v (strsV ss)) :
    ∃ a cap, v = .slice a ss.length cap ∧ ss.length ≤ cap ∧ (ss = [] ∨ ∃ b off, a = some ⟨b, off, none⟩ ∧ b < w.heap.size ∧ ∀ k (h : k < ss.length), w.cell? ⟨b, off + k, none⟩ = some (.string ss[k])) := by
  obtain ⟨a, cap, hv, hcp, hc⟩ := h
  rw [length_strsV] at hv hcp
  refine ⟨a, cap, hv, hcp, ?_⟩
  rcases hc with hc | ⟨b, off, rfl, hlt, hc⟩
  · exact .inl (by simpa [strsV] using hc)
  · refine .inr ⟨b, off, rfl, hlt, fun k hk => ?_⟩
    rw [hc k (by simpa using hk)]
    simp [strsV]

set_option maxHeartbeats 1000000 in
set_option maxRecDepth 100000 in
theorem toStrs_c (v : Value) (ss : List ByteArray) (w : World) (hr : Reads w v (strsV ss)) (hn : ss.length ≤ 1099511627776) :
    Calls Tryz.prog 34 #[v] w fun e w' => ∃ g, e = .returned (.slice (some ⟨g, 0, none⟩) ss.length ss.length) ∧ w'.ownsRow w.heap.size 9 1 (.slice (some ⟨g, 0, none⟩) ss.length ss.length) ss.length (strsV ss) ∧ Below w.heap.size w w' := by
  obtain ⟨a, cap, rfl, _, hc⟩ := reads_strs hr
  clear hr
  obtain ⟨i0, hi, hz0, hz1, hz2⟩ := info_parts infoS
  rcases hc with rfl | ⟨b, off, rfl, hlt, hc⟩
  · go_enter Tryz.func34, Tryz.ntmps34
    go_wp2_with (first
      | (at_make; refine wpList_make_full _ rfl _ _ 26 rfl w.heap.size 9 i0 (.string ⟨#[]⟩) 1 Tryz.underlying26 hi hz0 hz1 _ _ _ _ 0 rfl rfl rfl rfl (by omega) (by unfold maxLen; omega) (Nat.le_refl _) ?_))
    intro w1 hown hgrow
    have hb1 := below_of_grown hgrow
    go_wp2
    go_loopw [4] (fun vi wr => vi = .int .i64 0 ∧ wr = w1) (fun _ _ => 0)
    case atStart => exact ⟨rfl, rfl⟩
    case round =>
      obtain ⟨rfl, rfl⟩ := hrel
      go_wp2
      go_ret
      exact ⟨_, rfl, owns_empty hown, hb1⟩
  · go_enter Tryz.func34, Tryz.ntmps34
    go_wp2_with (first
      | (at_make; refine wpList_make_full _ rfl _ _ 26 rfl w.heap.size 9 i0 (.string ⟨#[]⟩) 1 Tryz.underlying26 hi hz0 hz1 _ _ _ _ ss.length rfl rfl rfl rfl (by rw [hz2]; omega) (by unfold maxLen; omega) (Nat.le_refl _) ?_))
    intro w1 hown hgrow
    have hb1 := below_of_grown hgrow
    obtain ⟨ys1, hl1, hown1⟩ : ∃ ys, ys.length = ss.length ∧ w1.ownsRow w.heap.size 9 1 (.slice (some ⟨w.heap.size, 0, none⟩) ss.length ss.length) ss.length ys := ⟨_, by simpa using hown.1, hown⟩
    clear hgrow hown
    go_wp2
    go_loopw [4] (fun vi wr => ∃ (k : Nat) (ys : List Value), k ≤ ss.length ∧ vi = .int .i64 (k : Int) ∧ wr.ownsRow w.heap.size 9 1 (.slice (some ⟨w.heap.size, 0, none⟩) ss.length ss.length) ss.length ys ∧ Hid (ys.length = ss.length ∧ ∀ j, j < k → ys[j]? = (strsV ss)[j]?) ∧ Below w.heap.size w wr) (fun vi _ => ss.length - (intOf vi).toNat)
    case atStart => exact ⟨0, ys1, Nat.zero_le _, rfl, hown1, ⟨hl1, fun j hj => by omega⟩, hb1⟩
    case round =>
      obtain ⟨k, ys, hk, rfl, hownr, hy, hbr⟩ := hrel
      by_cases hlt' : k < ss.length
      · have hcx : wr.cell? ⟨b, off + k, none⟩ = some (.string ss[k]) := (hbr.cell (p := ⟨b, off + k, none⟩) hlt).trans (hc k hlt')
        have hcy : wr.cell? ⟨w.heap.size, k, none⟩ = some (ys.getD k undef) := by
          rw [hownr.cellAt k (by omega)]; simp [List.getD_eq_getElem?_getD, hy.out.1, hlt']
        have hfr := hownr.frozenAt k
        have hat := strsV_at ss k hlt'
        obtain ⟨t, ht⟩ : ∃ t, t = ss[k] := ⟨_, rfl⟩
        rw [← ht] at hcx hat
        have HA : Hid ((strsV ss)[k]? = some (.string t)) := hat
        have hki : (k : Int) < (ss.length : Int) := by omega
        clear hc hown1 hb1 hi hz0 hz1 hz2 hl1 ht hat
        go_wp2
        go_roundw
        case rel => exact ⟨k + 1, ys.set k (.string t), by omega, by go_num, (hownr.stored k _).1, set_step hlt' hy.out HA.out, hbr.setCell (Nat.le_refl _) _⟩
        case measure => simp [intOf]; omega
      · have he : k = ss.length := by omega
        subst he
        clear hc hown1 hb1 hi hz0 hz1 hz2 hl1
        go_wp2
        go_ret
        refine ⟨_, rfl, ?_, hbr⟩
        have e : ys = strsV ss := list_done hy.out.1 (by simp) hy.out.2
        rw [← e]
        exact hownr

theorem bytes_eq_of_toList {a b : ByteArray} (h : a.toList = b.toList) : a = b := by
  rw [ByteArray.toList_eq, ByteArray.toList_eq] at h
  exact ByteArray.ext (Array.toList_inj.1 h)

theorem strs_done {ss ts : List ByteArray} (hl : ss.length = ts.length) (h : ∀ j (h1 : j < ss.length) (h2 : j < ts.length), ss[j] = ts[j]) : ss = ts := List.ext_getElem hl h

set_option maxHeartbeats 1000000 in
set_option maxRecDepth 100000 in
theorem eqStrs_c (v u : Value) (ss ts : List ByteArray) (w : World) (hv : Reads w v (strsV ss)) (hu : Reads w u (strsV ts)) (hn : ss.length ≤ 1099511627776) :
    Calls Tryz.prog 38 #[v, u] w fun e w' => e = .returned (.bool (decide (ss = ts))) ∧ Below w.heap.size w w' := by
  obtain ⟨a, cap, rfl, _, hc⟩ := reads_strs hv
  obtain ⟨a2, cap2, rfl, _, hc2⟩ := reads_strs hu
  clear hv hu
  by_cases hl : ss.length = ts.length
  · rcases hc with rfl | ⟨b, off, rfl, hlt, hc⟩
    · have : ts = [] := List.eq_nil_of_length_eq_zero (by simpa using hl.symm)
      subst this
      go_enter Tryz.func38, Tryz.ntmps38
      go_wp2
      go_loopw [5] (fun vi wr => vi = .int .i64 0 ∧ wr = w) (fun _ _ => 0)
      case atStart => exact ⟨rfl, rfl⟩
      case round =>
        obtain ⟨rfl, rfl⟩ := hrel
        go_wp2
        go_ret
        exact ⟨rfl, Below.refl _ _⟩
    rcases hc2 with rfl | ⟨b2, off2, rfl, hlt2, hc2⟩
    · have : ss = [] := List.eq_nil_of_length_eq_zero (by simpa using hl)
      subst this
      go_enter Tryz.func38, Tryz.ntmps38
      go_wp2
      go_loopw [5] (fun vi wr => vi = .int .i64 0 ∧ wr = w) (fun _ _ => 0)
      case atStart => exact ⟨rfl, rfl⟩
      case round =>
        obtain ⟨rfl, rfl⟩ := hrel
        go_wp2
        go_ret
        exact ⟨rfl, Below.refl _ _⟩
    · have HL : Hid (ss.length = ts.length) := hl
      have hc2' : ∀ k (h : k < ts.length), w.cell? ⟨b2, off2 + k, none⟩ = some (.string ts[k]) := hc2
      have HC2 : Hid (∀ k (h : k < ts.length), w.cell? ⟨b2, off2 + k, none⟩ = some (.string ts[k])) := hc2'
      rw [← hl]
      clear hl hc2 hc2'
      go_enter Tryz.func38, Tryz.ntmps38
      go_wp2
      go_loopw [5] (fun vi wr => ∃ k : Nat, k ≤ ss.length ∧ vi = .int .i64 (k : Int) ∧ Hid (∀ j (h1 : j < ss.length) (h2 : j < ts.length), j < k → ss[j] = ts[j]) ∧ Below w.heap.size w wr) (fun vi _ => ss.length - (intOf vi).toNat)
      case atStart => exact ⟨0, Nat.zero_le _, rfl, fun j h1 h2 hj => by omega, Below.refl _ _⟩
      case round =>
        obtain ⟨k, hk, rfl, hy, hbr⟩ := hrel
        by_cases hlt' : k < ss.length
        · have hlt2' : k < ts.length := by have := HL.out; omega
          have hcx : wr.cell? ⟨b, off + k, none⟩ = some (.string ss[k]) := (hbr.cell (p := ⟨b, off + k, none⟩) hlt).trans (hc k hlt')
          have hcy : wr.cell? ⟨b2, off2 + k, none⟩ = some (.string ts[k]) := (hbr.cell (p := ⟨b2, off2 + k, none⟩) hlt2).trans (HC2.out k hlt2')
          obtain ⟨x, hx⟩ : ∃ x, x = ss[k] := ⟨_, rfl⟩
          obtain ⟨y, hy'⟩ : ∃ y, y = ts[k] := ⟨_, rfl⟩
          rw [← hx] at hcx
          rw [← hy'] at hcy
          have HX : Hid (x = ss[k]) := hx
          have HY : Hid (y = ts[k]) := hy'
          have hki : (k : Int) < (ss.length : Int) := by omega
          clear hc hx hy'
          go_wp2
          go_quiet (fail)
          go_wp2
          · have hne : (!x.toList == y.toList) = true := by assumption
            have hne' : ¬ ss = ts := fun e => by
              have e1 := HX.out; have e2 := HY.out; subst e; rw [← e2] at e1; subst e1; simp at hne
            go_ret
            exact ⟨by simp [hne'], below_drewN' hbr _⟩
          · have he : (!x.toList == y.toList) = false := by assumption
            have he' : x = y := bytes_eq_of_toList (by simpa using he)
            go_roundw
            case rel => exact ⟨k + 1, by omega, by go_num, fun j h1 h2 hj => (by
              by_cases e : j = k
              · subst e; rw [← HX.out, ← HY.out]; exact he'
              · exact hy.out j h1 h2 (by omega)), below_drewN' hbr _⟩
            case measure => simp [intOf]; omega
        · clear hc
          have he : k = ss.length := by omega
          subst he
          have e : ss = ts := strs_done HL.out (fun j h1 h2 => hy.out j h1 h2 h1)
          go_wp2
          go_ret
          exact ⟨by simp [e], hbr⟩
  · have hne : ¬ ss = ts := fun e => hl (by rw [e])
    have hl' : ((ss.length : Int) != (ts.length : Int)) = true := by simp; omega
    rw [decide_eq_false hne]
    clear hc hc2
    go_enter Tryz.func38, Tryz.ntmps38
    go_wp2
    go_ret
    exact ⟨rfl, Below.refl _ _⟩

/-- The marks k, k + 1 .. as texts. -/
def marksS (k n : Nat) : List ByteArray := (List.range n).map fun j => markStr (k + j)
@[simp] theorem length_marksS (k n : Nat) : (marksS k n).length = n := by simp [marksS]
theorem marksS_at (k n j : Nat) (h : j < n) : (strsV (marksS k n))[j]? = some (.string (markStr (k + j))) := by
  simp [strsV, marksS, h]

set_option maxHeartbeats 1000000 in
set_option maxRecDepth 100000 in
theorem markStrs_c (v : Value) (base n : Nat) (xs : List Value) (k0 : Nat) (w : World) (hv : w.ownsRow base 9 1 v n xs) (h0 : 1 ≤ k0) (h1 : k0 ≤ 4294967296) (hn : n ≤ 4294967296) (hbw : base ≤ w.heap.size) :
    Calls Tryz.prog 41 #[v, .int .i64 (k0 : Int)] w fun e w' => e = .returned (.int .i64 ((k0 : Int) + (n : Int))) ∧ w'.ownsRow base 9 1 v n (strsV (marksS k0 n)) ∧ w.grownBy w' v.ownBlock := by
  have hv0 := hv
  rcases hv.2 with ⟨rfl, rfl⟩ | ⟨g, cap, cur, rfl, hb, hg, hcap, hmax, hsz, htake⟩
  · clear hv0
    go_enter Tryz.func41, Tryz.ntmps41
    go_wp2
    go_loopw [1, 5] (fun vk vi wr => vk = .int .i64 (k0 : Int) ∧ vi = .int .i64 0 ∧ wr = w) (fun _ _ _ => 0)
    case atStart => exact ⟨rfl, rfl, rfl⟩
    case round =>
      obtain ⟨rfl, rfl, rfl⟩ := hrel
      go_wp2
      go_ret
      exact ⟨by simp, by rw [show strsV (marksS k0 0) = [] from rfl]; exact owns_empty hv, World.grownBy.refl _ _⟩
  · have hl : xs.length = n := by simpa using hv.1
    have hgl := (Array.getElem?_eq_some_iff.1 hg).1
    clear hb hg hsz htake hv0
    go_enter Tryz.func41, Tryz.ntmps41
    go_wp2
    go_loopw [1, 5] (fun vk vi wr => ∃ (k : Nat) (ys : List Value), k ≤ n ∧ vi = .int .i64 (k : Int) ∧ vk = .int .i64 ((k0 : Int) + (k : Int)) ∧ wr.ownsRow base 9 1 (.slice (some ⟨g, 0, none⟩) n cap) n ys ∧ Hid (ys.length = n ∧ ∀ j, j < k → ys[j]? = (strsV (marksS k0 n))[j]?) ∧ w.grownBy wr (some g)) (fun _ vi _ => n - (intOf vi).toNat)
    case atStart => exact ⟨0, xs, Nat.zero_le _, rfl, by simp, hv, ⟨hl, fun j hj => by omega⟩, World.grownBy.refl _ _⟩
    case round =>
      obtain ⟨k, ys, hk, rfl, rfl, hownr, hy, hbr⟩ := hrel
      clear hv hl
      by_cases hlt' : k < n
      · have hki : (k : Int) < (n : Int) := by omega
        have hm := markText_c (k0 + k) wr (by omega) (by omega)
        have ec : ((k0 + k : Nat) : Int) = (k0 : Int) + (k : Int) := Int.natCast_add k0 k
        rw [ec] at hm
        go_wp2_with (
          go_at_call 104
          refine hm.mono ?_
          rintro e w1 ⟨rfl, b1⟩
          have hown1 := owns_of_below hownr b1
          have hcy : w1.cell? ⟨g, k, none⟩ = some (ys.getD k undef) := by
            rw [hown1.cellAt k (by omega)]; simp [List.getD_eq_getElem?_getD, hy.out.1, hlt']
          have hfr := hown1.frozenAt k
          clear hm hownr)
        go_roundw
        case rel => exact ⟨k + 1, ys.set k _, by omega, by go_num, by go_num, (hown1.stored k _).1, set_step hlt' hy.out (marksS_at k0 n k hlt'), grown_trans (grown_trans hbr (grown_of_below b1 _)) (hown1.stored k _).2⟩
        case measure => simp [intOf]; omega
      · have he : k = n := by omega
        subst he
        have e : ys = strsV (marksS k0 k) := list_done hy.out.1 (by simp) hy.out.2
        go_wp2
        go_ret
        refine ⟨rfl, ?_, hbr⟩
        rw [← e]
        exact hownr

set_option maxHeartbeats 1000000 in
set_option maxRecDepth 100000 in
theorem heldStrs_c (v : Value) (n : Nat) (k0 : Nat) (w : World) (hv : Reads w v (strsV (marksS k0 n))) (h0 : 1 ≤ k0) (h1 : k0 ≤ 4294967296) (hn : n ≤ 4294967296) :
    Calls Tryz.prog 97 #[v, .int .i64 (k0 : Int)] w fun e w' => e = .returned (.int .i64 ((k0 : Int) + (n : Int))) ∧ Below w.heap.size w w' := by
  obtain ⟨a, cap, hvv, _, hc⟩ := reads_strs hv
  rw [length_marksS] at hvv
  subst hvv
  clear hv
  rcases hc with hc | ⟨b, off, rfl, hlt, hc⟩
  · have : n = 0 := by have := congrArg List.length hc; simpa using this
    subst this
    go_enter Tryz.func97, Tryz.ntmps97
    go_wp2
    go_loop [1, 5] (fun vk vi => vk = .int .i64 (k0 : Int) ∧ vi = .int .i64 0) (fun _ _ => 0)
    case atStart => exact ⟨rfl, rfl⟩
    case round =>
      obtain ⟨rfl, rfl⟩ := hrel
      go_wp2
      go_ret
      exact ⟨by simp, Below.refl _ _⟩
  · have hc' : ∀ k, k < n → w.cell? ⟨b, off + k, none⟩ = some (.string (markStr (k0 + k))) := fun k hk => by
      rw [hc k (by simpa using hk)]
      simp [marksS]
    clear hc
    go_enter Tryz.func97, Tryz.ntmps97
    go_wp2
    go_loopw [1, 5] (fun vk vi wr => ∃ k : Nat, k ≤ n ∧ vi = .int .i64 (k : Int) ∧ vk = .int .i64 ((k0 : Int) + (k : Int)) ∧ Below w.heap.size w wr) (fun _ vi _ => n - (intOf vi).toNat)
    case atStart => exact ⟨0, Nat.zero_le _, rfl, by simp, Below.refl _ _⟩
    case round =>
      obtain ⟨k, hk, rfl, rfl, hbr⟩ := hrel
      by_cases hlt' : k < n
      · have hki : (k : Int) < (n : Int) := by omega
        obtain ⟨ms, hms⟩ : ∃ ms, ms = markStr (k0 + k) := ⟨_, rfl⟩
        have hm := fun w' => markText_c (k0 + k) w' (by omega) (by omega)
        have ec : ((k0 + k : Nat) : Int) = (k0 : Int) + (k : Int) := by omega
        have hcx : ∀ w', Below wr.heap.size wr w' → w'.cell? ⟨b, off + k, none⟩ = some (.string (markStr (k0 + k))) := fun w' hb' => (hb'.cell (p := ⟨b, off + k, none⟩) (Nat.lt_of_lt_of_le hlt hbr.size)).trans ((hbr.cell (p := ⟨b, off + k, none⟩) hlt).trans (hc' k hlt'))
        rw [ec] at hm
        rw [← hms] at hm hcx
        have hcx0 := hcx wr (Below.refl _ _)
        clear hc' hms
        go_wp2
        go_region_with (
          go_at_call 104
          refine (hm _).mono ?_
          rintro e w1 ⟨rfl, b1⟩
          have b1' : Below wr.heap.size wr w1 := ⟨b1.os, b1.tape, b1.output, b1.size, b1.block⟩
          have hcx1 := hcx w1 b1'
          clear b1)
        all_goals (
          have hb2 := hbr.trans (b1'.mono hbr.size)
          clear hm hcx
          go_wp2
          go_roundw
          case rel => exact ⟨k + 1, by omega, by go_num, by go_num, hb2⟩
          case measure => simp [intOf]; omega)
      · have he : k = n := by omega
        subst he
        clear hc'
        go_wp2
        go_ret
        exact ⟨rfl, hbr⟩

/-- How many texts and letters there are. -/
def bulkS (ss : List ByteArray) : Nat := ss.length + (ss.map ByteArray.size).sum

theorem sum_take_succ (ss : List ByteArray) (k : Nat) (h : k < ss.length) : ((ss.take (k + 1)).map ByteArray.size).sum = ((ss.take k).map ByteArray.size).sum + ss[k].size := by
  rw [List.take_succ_eq_append_getElem h, List.map_append, List.sum_append]
  simp
theorem sum_take_le (ss : List ByteArray) (k : Nat) : ((ss.take k).map ByteArray.size).sum ≤ (ss.map ByteArray.size).sum := by
  have h : (ss.map ByteArray.size).sum = ((ss.take k).map ByteArray.size).sum + ((ss.drop k).map ByteArray.size).sum := by
    rw [← List.sum_append, ← List.map_append, List.take_append_drop]
  omega

/-- What the count answers: what is left, or -1. -/
def leftS (ss : List ByteArray) (left : Int) : Int := if (bulkS ss : Int) ≤ left then left - (bulkS ss : Int) else -1

set_option maxHeartbeats 1000000 in
set_option maxRecDepth 100000 in
theorem sizeStrs_c (v : Value) (ss : List ByteArray) (w : World) (hv : Reads w v (strsV ss)) (hn : ss.length ≤ maxLen) (hs : ∀ s ∈ ss, s.size ≤ maxLen) :
    Calls Tryz.prog 31 #[v, .int .i64 1048576] w fun e w' => e = .returned (.int .i64 (leftS ss 1048576)) ∧ w = w' := by
  obtain ⟨a, cap, rfl, _, hc⟩ := reads_strs hv
  clear hv
  unfold maxLen at hn hs
  by_cases h0 : 1048576 < ss.length
  · have hneg : (1048576 : Int) - (ss.length : Int) < 0 := by omega
    have e : leftS ss 1048576 = -1 := by rw [leftS, bulkS, if_neg (by omega)]
    rw [e]
    clear hc hs
    go_enter Tryz.func31, Tryz.ntmps31
    go_wp2
    go_ret
    exact ⟨rfl, rfl⟩
  · have hpos : ¬ ((1048576 : Int) - (ss.length : Int) < 0) := by omega
    rcases hc with rfl | ⟨b, off, rfl, hlt, hc⟩
    · go_enter Tryz.func31, Tryz.ntmps31
      go_wp2
      go_loop [1, 5] (fun vl vi => vl = .int .i64 1048576 ∧ vi = .int .i64 0) (fun _ _ => 0)
      case atStart => exact ⟨rfl, rfl⟩
      case round =>
        obtain ⟨rfl, rfl⟩ := hrel
        go_wp2
        go_ret
        exact ⟨rfl, rfl⟩
    · go_enter Tryz.func31, Tryz.ntmps31
      go_wp2
      go_loop [1, 5] (fun vl vi => ∃ (k : Nat) (l : Int), k ≤ ss.length ∧ vi = .int .i64 (k : Int) ∧ vl = .int .i64 l ∧ 0 ≤ l ∧ l ≤ 1048576 ∧ Hid (l = 1048576 - (ss.length : Int) - (((ss.take k).map ByteArray.size).sum : Int))) (fun _ vi => ss.length - (intOf vi).toNat)
      case atStart => exact ⟨0, _, Nat.zero_le _, rfl, rfl, by omega, by omega, by show _ = _; simp⟩
      case round =>
        obtain ⟨k, l, hk, rfl, rfl, hl0, hl1, hl⟩ := hrel
        by_cases hlt' : k < ss.length
        · have hcx := hc k hlt'
          have hsk := hs ss[k] (List.getElem_mem hlt')
          have hsum := sum_take_succ ss k hlt'
          obtain ⟨t, ht⟩ : ∃ t, t = ss[k] := ⟨_, rfl⟩
          rw [← ht] at hcx hsk hsum
          have HS : Hid (((ss.take (k + 1)).map ByteArray.size).sum = ((ss.take k).map ByteArray.size).sum + t.size) := hsum
          have hki : (k : Int) < (ss.length : Int) := by omega
          clear hc hs ht hsum
          by_cases hneg : l - (t.size : Int) < 0
          · have e : leftS ss 1048576 = -1 := by
              have h1 := HS.out; have h2 := hl.out; have h3 := sum_take_le ss (k + 1)
              rw [leftS, bulkS, if_neg (by omega)]
            have HE : Hid (leftS ss 1048576 = -1) := e
            clear e
            go_wp2
            go_ret
            exact ⟨by rw [HE.out]; rfl, rfl⟩
          · go_wp2
            go_round
            case rel => exact ⟨k + 1, l - (t.size : Int), by omega, by go_num, rfl, by omega, by omega, (by show _ = _; rw [HS.out, hl.out]; omega)⟩
            case measure => simp [intOf]; omega
        · have he : k = ss.length := by omega
          subst he
          have e : leftS ss 1048576 = l := by
            have h2 := hl.out
            rw [List.take_length] at h2
            rw [leftS, bulkS, if_pos (by omega)]; omega
          have HE : Hid (leftS ss 1048576 = l) := e
          clear hc hs e
          go_wp2
          go_ret
          exact ⟨by rw [HE.out]; rfl, rfl⟩
end Go.Proofs.YtkkhnldhipfneaaGreatDoor

/-! What is kept of memory between two worlds, block by block, and lists of texts that lie in blocks of a set S: no condition. -/
namespace Go.Proofs.YtkkhnldhipfneaaGreatDoor
open Go.RowKit
set_option linter.unusedSimpArgs false
set_option linter.unusedVariables false

/-- In blocks of S the world w' is as w was. -/
def Kp (S : Nat → Prop) (w w' : World) : Prop := ∀ b, S b → w'.heap[b]? = w.heap[b]?
theorem Kp.cell {S : Nat → Prop} {w w' : World} (h : Kp S w w') {b : Nat} (hb : S b) (o : Nat) : w'.cell? ⟨b, o, none⟩ = w.cell? ⟨b, o, none⟩ := World.cell?_of_block (w := w) (h b hb)
theorem Kp.trans {S : Nat → Prop} {a b c : World} (h : Kp S a b) (k : Kp S b c) : Kp S a c := fun i hi => (k i hi).trans (h i hi)
theorem Kp.of {S : Nat → Prop} {B : Nat} {w w' : World} (hb : Below B w w') (hS : ∀ b, S b → b < B) : Kp S w w' := fun b h => hb.block b (hS b h)
theorem Kp.set {S : Nat → Prop} {w : World} {g j : Nat} {v : Value} (h : ¬ S g) : Kp S w (w.setCell ⟨g, j, none⟩ v) := fun b hb => Below.heap_setCell w ⟨g, j, none⟩ v b (fun e => by have e' : b = g := e; subst e'; exact h hb)

/-- The blocks from lo on, below hi. -/
def Ow (lo hi : Nat) (b : Nat) : Prop := lo ≤ b ∧ b < hi
theorem Ow.mono {lo lo' hi hi' : Nat} (h1 : lo' ≤ lo) (h2 : hi ≤ hi') : ∀ b, Ow lo hi b → Ow lo' hi' b := fun b h => ⟨Nat.le_trans h1 h.1, Nat.lt_of_lt_of_le h.2 h2⟩
theorem Ow.below {lo : Nat} {w w' : World} (h : Below w.heap.size w w') : Kp (Ow lo w.heap.size) w w' := fun b hb => h.block b hb.2
theorem Ow.not {lo hi g : Nat} (h : g < lo) : ¬ Ow lo hi g := fun k => by have := k.1; omega

/-- A list of texts that lies in blocks of S. -/
def RdB (S : Nat → Prop) (w : World) (v : Value) (xs : List Value) : Prop :=
  ∃ a cap, v = .slice a xs.length cap ∧ xs.length ≤ cap ∧ (xs = [] ∨ ∃ b off, a = some ⟨b, off, none⟩ ∧ S b ∧ ∀ k (h : k < xs.length), w.cell? ⟨b, off + k, none⟩ = some xs[k])
theorem RdB.reads {S : Nat → Prop} {w : World} {v : Value} {xs : List Value} (h : RdB S w v xs) (hS : ∀ b, S b → b < w.heap.size) : Reads w v xs := by
  obtain ⟨a, cap, hv, hc, h⟩ := h
  refine ⟨a, cap, hv, hc, ?_⟩
  rcases h with h | ⟨b, off, ha, hb, h⟩
  · exact .inl h
  · exact .inr ⟨b, off, ha, hS b hb, h⟩
theorem RdB.of {w : World} {v : Value} {xs : List Value} (h : Reads w v xs) : RdB (· < w.heap.size) w v xs := h
theorem RdB.keep {S : Nat → Prop} {w w' : World} {v : Value} {xs : List Value} (hb : Kp S w w') (h : RdB S w v xs) : RdB S w' v xs := by
  obtain ⟨a, cap, hv, hc, h⟩ := h
  refine ⟨a, cap, hv, hc, ?_⟩
  rcases h with h | ⟨b, off, ha, hlt, h⟩
  · exact .inl h
  · exact .inr ⟨b, off, ha, hlt, fun k hk => (hb.cell hlt _).trans (h k hk)⟩
theorem RdB.mono {S S' : Nat → Prop} {w : World} {v : Value} {xs : List Value} (hB : ∀ b, S b → S' b) (h : RdB S w v xs) : RdB S' w v xs := by
  obtain ⟨a, cap, hv, hc, h⟩ := h
  refine ⟨a, cap, hv, hc, ?_⟩
  rcases h with h | ⟨b, off, ha, hlt, h⟩
  · exact .inl h
  · exact .inr ⟨b, off, ha, hB b hlt, h⟩
theorem rdB_owns {w : World} {base : Nat} {e : TypeId} {v : Value} {n : Nat} {xs : List Value} (h : w.ownsRow base e 1 v n xs) : RdB (Ow base w.heap.size) w v xs := by
  have h0 := reads_of_owns h
  obtain ⟨a, cap, hv, hc, hx⟩ := h0
  refine ⟨a, cap, hv, hc, ?_⟩
  rcases hx with hx | ⟨b, off, rfl, hlt, hx⟩
  · exact .inl hx
  · refine .inr ⟨b, off, rfl, ⟨?_, hlt⟩, hx⟩
    rcases h.2 with ⟨hn, _⟩ | ⟨g, cap', cur, hv', hg, _⟩
    · rw [hn] at hv; simp at hv
    · rw [hv'] at hv
      simp only [Value.slice.injEq, Option.some.injEq, Addr.mk.injEq] at hv
      omega

def leftW (n : Nat) (left : Int) : Int := if (n : Int) ≤ left then left - (n : Int) else -1
theorem leftW_good {n : Nat} {left : Int} (h : (n : Int) ≤ left) : leftW n left = left - (n : Int) := if_pos h
theorem leftW_bad {n : Nat} {left : Int} (h : ¬ (n : Int) ≤ left) : leftW n left = -1 := if_neg h
theorem vheap_new (w : World) (o : Obj) : (w.alloc o).heap[w.heap.size]? = some o := by show (w.heap.push _)[w.heap.size]? = _; simp
theorem vheap_old (w : World) (o : Obj) {b : Nat} (h : b < w.heap.size) : (w.alloc o).heap[b]? = w.heap[b]? := Below.heap_alloc w o b h
theorem vblk_cell {w : World} {b : Nat} {cs : Array Value} {t : TypeId} (h : w.heap[b]? = some (.cells cs t (0, 0))) (j : Nat) : w.cell? ⟨b, j, none⟩ = cs[j]? := cell_of_row w b j cs t (0, 0) h
theorem vblk_frozen {w : World} {b : Nat} {cs : Array Value} {t : TypeId} (h : w.heap[b]? = some (.cells cs t (0, 0))) (j : Nat) : w.frozen? ⟨b, j, none⟩ = false := frozen_of_row w b j cs t h
end Go.Proofs.YtkkhnldhipfneaaGreatDoor

/-! Rows of structs that lie in memory: what an element's cells are is handed in; that they are kept, copied cell by cell, and how much they hold; no condition. -/
namespace Go.Proofs.YtkkhnldhipfneaaGreatDoor
open Go.RowKit
set_option linter.unusedSimpArgs false
set_option linter.unusedVariables false

theorem hidden {p : Prop} (h : p) : Hid p := h

/-- An element of a row: how many cells, and when these are it, what it refers to lying in blocks of a set. -/
structure Sh (α : Type) where
  n : Nat
  lies : (Nat → Prop) → World → List Value → α → Prop
  keep : ∀ {S : Nat → Prop} {w w' : World} {cs : List Value} {x : α}, Kp S w w' → lies S w cs x → lies S w' cs x
  mono : ∀ {S S' : Nat → Prop} {w : World} {cs : List Value} {x : α}, (∀ b, S b → S' b) → lies S w cs x → lies S' w cs x

/-- From place j of block b on lie these cells. -/
def CellsAt (w : World) (b j : Nat) (cs : List Value) : Prop := ∀ i (h : i < cs.length), w.cell? ⟨b, j + i, none⟩ = some cs[i]
theorem CellsAt.keep {S : Nat → Prop} {w w' : World} {b j : Nat} {cs : List Value} (hk : Kp S w w') (hb : S b) (h : CellsAt w b j cs) : CellsAt w' b j cs := fun i hi => (hk.cell hb _).trans (h i hi)

/-- The row v is xs. -/
def RowIn {α : Type} (sh : Sh α) (S : Nat → Prop) (w : World) (v : Value) (xs : List α) : Prop :=
  ∃ q cap, v = .slice q xs.length cap ∧ xs.length ≤ maxLen ∧ xs.length ≤ cap ∧ (xs = [] ∨ ∃ (b off : Nat), q = some ⟨b, off, none⟩ ∧ S b ∧ ∀ k (h : k < xs.length), ∃ cs, sh.lies S w cs xs[k] ∧ CellsAt w b (off + k * sh.n) cs)
theorem RowIn.keep {α : Type} {sh : Sh α} {S : Nat → Prop} {w w' : World} {v : Value} {xs : List α} (hk : Kp S w w') (h : RowIn sh S w v xs) : RowIn sh S w' v xs := by
  obtain ⟨q, cap, hv, hm, hc, h⟩ := h
  refine ⟨q, cap, hv, hm, hc, ?_⟩
  rcases h with h | ⟨b, off, hq, hb, h⟩
  · exact .inl h
  · exact .inr ⟨b, off, hq, hb, fun k hh => by obtain ⟨cs, h1, h2⟩ := h k hh; exact ⟨cs, sh.keep hk h1, h2.keep hk hb⟩⟩
theorem RowIn.mono {α : Type} {sh : Sh α} {S S' : Nat → Prop} {w : World} {v : Value} {xs : List α} (hS : ∀ b, S b → S' b) (h : RowIn sh S w v xs) : RowIn sh S' w v xs := by
  obtain ⟨q, cap, hv, hm, hc, h⟩ := h
  refine ⟨q, cap, hv, hm, hc, ?_⟩
  rcases h with h | ⟨b, off, hq, hb, h⟩
  · exact .inl h
  · exact .inr ⟨b, off, hq, hS b hb, fun k hh => by obtain ⟨cs, h1, h2⟩ := h k hh; exact ⟨cs, sh.mono hS h1, h2⟩⟩
theorem RowIn.below {α : Type} {sh : Sh α} {w w' : World} {v : Value} {xs : List α} (h : RowIn sh (· < w.heap.size) w v xs) (hb : Below w.heap.size w w') : RowIn sh (· < w'.heap.size) w' v xs :=
  (h.keep (.of hb (fun b h => h))).mono (fun b h => Nat.lt_of_lt_of_le h hb.size)
theorem RowIn.as {α : Type} {sh sh' : Sh α} {S : Nat → Prop} {w : World} {v : Value} {xs : List α} (hn : sh.n = sh'.n) (hl : ∀ S w cs x, sh.lies S w cs x → sh'.lies S w cs x) (h : RowIn sh S w v xs) : RowIn sh' S w v xs := by
  obtain ⟨q, cap, hv, hm, hc, h⟩ := h
  refine ⟨q, cap, hv, hm, hc, ?_⟩
  rcases h with h | ⟨b, off, hq, hb, h⟩
  · exact .inl h
  · exact .inr ⟨b, off, hq, hb, fun k hh => by obtain ⟨cs, h1, h2⟩ := h k hh; exact ⟨cs, hl _ _ _ _ h1, by rw [← hn]; exact h2⟩⟩
theorem RowIn.len {α : Type} {sh : Sh α} {S : Nat → Prop} {w : World} {v : Value} {xs : List α} (h : RowIn sh S w v xs) : xs.length ≤ maxLen := by
  obtain ⟨q, cap, hv, hm, hc, h⟩ := h; exact hm
theorem RowIn.slice {α : Type} {sh : Sh α} {S : Nat → Prop} {w : World} {v : Value} {xs : List α} (h : RowIn sh S w v xs) : ∃ q cap, v = .slice q xs.length cap := by
  obtain ⟨q, cap, hv, hm, hc, h⟩ := h; exact ⟨q, cap, hv⟩
theorem RowIn.at {α : Type} {sh : Sh α} {S : Nat → Prop} {w : World} {v : Value} {xs : List α} (h : RowIn sh S w v xs) {k : Nat} (hk : k < xs.length) : ∃ cs, sh.lies S w cs xs[k] := by
  obtain ⟨q, cap, hv, hm, hc, h⟩ := h
  rcases h with rfl | ⟨b, off, hq, hb, h⟩
  · simp at hk
  · obtain ⟨cs, h1, _⟩ := h k hk; exact ⟨cs, h1⟩

/-- The elements below k lie in the cells ys of a row. -/
def Laid {α : Type} (sh : Sh α) (S : Nat → Prop) (w : World) (ys : List Value) (xs : List α) (k : Nat) : Prop :=
  ∀ i (h : i < xs.length), i < k → ∃ cs, cs.length = sh.n ∧ sh.lies S w cs xs[i] ∧ ∀ j (hj : j < cs.length), ys[i * sh.n + j]? = some cs[j]
/-- The row v is xs, and may be written. -/
def RowOwn {α : Type} (sh : Sh α) (t : TypeId) (S : Nat → Prop) (w : World) (v : Value) (xs : List α) : Prop :=
  xs.length ≤ maxLen ∧ ∃ ys, w.ownsRow 0 t sh.n v xs.length ys ∧ (∀ g, v.ownBlock = some g → S g) ∧ Laid sh S w ys xs xs.length
theorem owns_lo {w : World} {lo lo' : Nat} {e : TypeId} {sz n : Nat} {v : Value} {xs : List Value} (h : lo' ≤ lo) (hg : w.ownsRow lo e sz v n xs) : w.ownsRow lo' e sz v n xs := by
  refine ⟨hg.1, ?_⟩
  rcases hg.2 with h1 | ⟨g, cap, cur, h1, h2, h3⟩
  · exact .inl h1
  · exact .inr ⟨g, cap, cur, h1, by omega, h3⟩
theorem owns_kept {S : Nat → Prop} {w w' : World} {lo : Nat} {e : TypeId} {sz n : Nat} {v : Value} {xs : List Value} (hk : Kp S w w') (hS : ∀ g, v.ownBlock = some g → S g) (hg : w.ownsRow lo e sz v n xs) : w'.ownsRow lo e sz v n xs := by
  refine ⟨hg.1, ?_⟩
  rcases hg.2 with h1 | ⟨g, cap, cur, h1, h2, h3, h4⟩
  · exact .inl h1
  · exact .inr ⟨g, cap, cur, h1, h2, (hk g (hS g (by rw [h1]; rfl))).trans h3, h4⟩
theorem owns_in {w : World} {lo : Nat} {e : TypeId} {sz n : Nat} {v : Value} {xs : List Value} (hg : w.ownsRow lo e sz v n xs) : ∀ g, v.ownBlock = some g → Ow lo w.heap.size g := fun g h => by
  rcases hg.2 with ⟨h1, _⟩ | ⟨g', cap, cur, h1, h2, h3, h4⟩
  · rw [h1] at h; simp [Value.ownBlock] at h
  · rw [h1] at h; simp [Value.ownBlock] at h; subst h
    exact ⟨h2, (Array.getElem?_eq_some_iff.1 h3).1⟩
theorem Laid.keep {α : Type} {sh : Sh α} {S : Nat → Prop} {w w' : World} {ys : List Value} {xs : List α} {k : Nat} (hk : Kp S w w') (h : Laid sh S w ys xs k) : Laid sh S w' ys xs k := fun i hi hik => by
  obtain ⟨cs, h1, h2, h3⟩ := h i hi hik; exact ⟨cs, h1, sh.keep hk h2, h3⟩
theorem Laid.mono {α : Type} {sh : Sh α} {S S' : Nat → Prop} {w : World} {ys : List Value} {xs : List α} {k : Nat} (hS : ∀ b, S b → S' b) (h : Laid sh S w ys xs k) : Laid sh S' w ys xs k := fun i hi hik => by
  obtain ⟨cs, h1, h2, h3⟩ := h i hi hik; exact ⟨cs, h1, sh.mono hS h2, h3⟩
theorem RowOwn.keep {α : Type} {sh : Sh α} {t : TypeId} {S : Nat → Prop} {w w' : World} {v : Value} {xs : List α} (hk : Kp S w w') (h : RowOwn sh t S w v xs) : RowOwn sh t S w' v xs := by
  obtain ⟨h0, ys, h1, h2, h3⟩ := h
  exact ⟨h0, ys, owns_kept hk h2 h1, h2, h3.keep hk⟩
theorem RowOwn.mono {α : Type} {sh : Sh α} {t : TypeId} {S S' : Nat → Prop} {w : World} {v : Value} {xs : List α} (hS : ∀ b, S b → S' b) (h : RowOwn sh t S w v xs) : RowOwn sh t S' w v xs := by
  obtain ⟨h0, ys, h1, h2, h3⟩ := h
  exact ⟨h0, ys, h1, fun g hg => hS g (h2 g hg), h3.mono hS⟩
theorem RowOwn.plain {α : Type} {sh : Sh α} {t : TypeId} {S : Nat → Prop} {w : World} {v : Value} {xs : List α} (h : RowOwn sh t S w v xs) : RowIn sh S w v xs := by
  obtain ⟨hm, ys, h1, h2, h3⟩ := h
  rcases id h1.2 with ⟨rfl, h0⟩ | ⟨g, cap, cur, rfl, _, hg, hc, _⟩
  · exact ⟨none, 0, by rw [h0], hm, by omega, .inl (List.eq_nil_of_length_eq_zero h0)⟩
  · refine ⟨_, _, rfl, hm, hc, .inr ⟨g, 0, rfl, h2 g rfl, fun k hk => ?_⟩⟩
    obtain ⟨cs, e1, e2, e3⟩ := h3 k hk hk
    refine ⟨cs, e2, fun i hi => ?_⟩
    have hlt : k * sh.n + i < xs.length * sh.n := by
      have : (k + 1) * sh.n ≤ xs.length * sh.n := Nat.mul_le_mul_right _ hk
      rw [Nat.add_mul, Nat.one_mul] at this
      omega
    rw [Nat.zero_add, h1.cellAt _ hlt]
    exact e3 i hi

/-- Cells put one behind the other, from place j on. -/
def putL (ys : List Value) (j : Nat) : List Value → List Value
  | [] => ys
  | c :: cs => putL (ys.set j c) (j + 1) cs
def setW (w : World) (g j : Nat) : List Value → World
  | [] => w
  | c :: cs => setW (w.setCell ⟨g, j, none⟩ c) g (j + 1) cs
theorem putL_length (cs : List Value) : ∀ (ys : List Value) (j : Nat), (putL ys j cs).length = ys.length := by
  induction cs with
  | nil => intro ys j; rfl
  | cons c cs ih => intro ys j; show (putL (ys.set j c) (j + 1) cs).length = _; rw [ih]; simp
theorem putL_out (cs : List Value) : ∀ (ys : List Value) (j i : Nat), (i < j ∨ j + cs.length ≤ i) → (putL ys j cs)[i]? = ys[i]? := by
  induction cs with
  | nil => intro ys j i h; rfl
  | cons c cs ih =>
    intro ys j i h
    show (putL (ys.set j c) (j + 1) cs)[i]? = _
    simp at h
    rw [ih _ _ _ (by omega), List.getElem?_set_ne (by omega)]
theorem putL_in (cs : List Value) : ∀ (ys : List Value) (j i : Nat), j + cs.length ≤ ys.length → i < cs.length → (putL ys j cs)[j + i]? = cs[i]? := by
  induction cs with
  | nil => intro ys j i h hi; simp at hi
  | cons c cs ih =>
    intro ys j i h hi
    show (putL (ys.set j c) (j + 1) cs)[j + i]? = _
    simp at h hi
    cases i with
    | zero => rw [putL_out _ _ _ _ (by omega)]; simp [List.getElem?_set, show j < ys.length by omega]
    | succ i => rw [show j + (i + 1) = (j + 1) + i by omega, ih _ _ _ (by simp; omega) (by omega)]; simp
theorem setW_size (cs : List Value) : ∀ (w : World) (g j : Nat), (setW w g j cs).heap.size = w.heap.size := by
  induction cs with
  | nil => intro w g j; rfl
  | cons c cs ih => intro w g j; show (setW (w.setCell ⟨g, j, none⟩ c) g (j + 1) cs).heap.size = _; rw [ih]; simp [World.setCell]
theorem setW_kp {S : Nat → Prop} {g : Nat} (hg : ¬ S g) (cs : List Value) : ∀ (w : World) (j : Nat), Kp S w (setW w g j cs) := by
  induction cs with
  | nil => intro w j b hb; rfl
  | cons c cs ih => intro w j; exact (Kp.set hg).trans (ih _ _)
theorem setW_below {B g : Nat} (hg : B ≤ g) (cs : List Value) : ∀ (w w0 : World) (j : Nat), Below B w0 w → Below B w0 (setW w g j cs) := by
  induction cs with
  | nil => intro w w0 j h; exact h
  | cons c cs ih => intro w w0 j h; exact ih _ _ _ (Below.setCell h hg _)
theorem setW_owns {lo g n cap sz : Nat} {t : TypeId} (cs : List Value) : ∀ (w : World) (ys : List Value) (j : Nat), w.ownsRow lo t sz (.slice (some ⟨g, 0, none⟩) n cap) n ys → (setW w g j cs).ownsRow lo t sz (.slice (some ⟨g, 0, none⟩) n cap) n (putL ys j cs) := by
  induction cs with
  | nil => intro w ys j h; exact h
  | cons c cs ih => intro w ys j h; exact ih _ _ _ (h.stored j c).1

theorem Laid.step {α : Type} {sh : Sh α} {lo : Nat} {w w2 : World} {ys : List Value} {xs : List α} {k : Nat} (h : Laid sh (Ow lo w.heap.size) w ys xs k) (hk : k < xs.length) (hy : ys.length = xs.length * sh.n) (hb : Below w.heap.size w w2) {g : Nat} (hg : g < lo) {cs : List Value}
    (hn : cs.length = sh.n) (hu : sh.lies (Ow lo w2.heap.size) w2 cs xs[k]) : Laid sh (Ow lo (setW w2 g (k * sh.n) cs).heap.size) (setW w2 g (k * sh.n) cs) (putL ys (k * sh.n) cs) xs (k + 1) := fun i hi hik => by
  rw [setW_size]
  have hle : (k + 1) * sh.n ≤ xs.length * sh.n := Nat.mul_le_mul_right _ hk
  rw [Nat.add_mul, Nat.one_mul] at hle
  by_cases e : i = k
  · subst e
    refine ⟨cs, hn, sh.keep (setW_kp (Ow.not hg) _ _ _) hu, fun j hj => ?_⟩
    rw [putL_in _ _ _ _ (by omega) hj, List.getElem?_eq_getElem]
  · obtain ⟨cs', h1, h2, h3⟩ := h i hi (by omega)
    refine ⟨cs', h1, sh.keep (setW_kp (Ow.not hg) _ _ _) (sh.mono (Ow.mono (Nat.le_refl _) hb.size) (sh.keep (Ow.below hb) h2)), fun j hj => ?_⟩
    have hle2 : (i + 1) * sh.n ≤ k * sh.n := Nat.mul_le_mul_right _ (by omega)
    rw [Nat.add_mul, Nat.one_mul] at hle2
    rw [putL_out _ _ _ _ (by omega)]
    exact h3 j hj
theorem rowOwn_of {α : Type} {sh : Sh α} {t : TypeId} {w : World} {lo g : Nat} {ys : List Value} {xs : List α} (hg : w.ownsRow lo t sh.n (.slice (some ⟨g, 0, none⟩) xs.length xs.length) xs.length ys) (hl : xs.length ≤ maxLen)
    (h : Laid sh (Ow (lo + 1) w.heap.size) w ys xs xs.length) : RowOwn sh t (Ow lo w.heap.size) w (.slice (some ⟨g, 0, none⟩) xs.length xs.length) xs :=
  ⟨hl, ys, owns_lo (Nat.zero_le _) hg, owns_in hg, h.mono (Ow.mono (by omega) (Nat.le_refl _))⟩

/-- How much a row holds, as the law counts it. -/
def wtRow {α : Type} (f : α → Nat) (xs : List α) : Nat := (xs.map fun x => 1 + f x).sum
theorem wtRow_take {α : Type} (f : α → Nat) (xs : List α) (k : Nat) (h : k < xs.length) : wtRow f (xs.take (k + 1)) = wtRow f (xs.take k) + (1 + f xs[k]) := by
  rw [wtRow, wtRow, List.take_succ_eq_append_getElem h]; simp only [List.map_append, List.sum_append, List.map_cons, List.map_nil, List.sum_cons, List.sum_nil, Nat.add_zero]
theorem wtRow_split {α : Type} (f : α → Nat) (xs : List α) (k : Nat) : wtRow f xs = wtRow f (xs.take k) + wtRow f (xs.drop k) := by
  rw [wtRow, wtRow, wtRow, ← List.sum_append, ← List.map_append, List.take_append_drop]
theorem len_wtRow {α : Type} (f : α → Nat) (xs : List α) : xs.length ≤ wtRow f xs := by
  induction xs with
  | nil => simp [wtRow]
  | cons d ds ih => simp [wtRow] at ih ⊢; omega
theorem wt_wtRow {α : Type} (f : α → Nat) {xs : List α} {x : α} (h : x ∈ xs) : f x ≤ wtRow f xs := by
  induction xs with
  | nil => simp at h
  | cons y xs ih =>
    simp [wtRow] at ih ⊢
    rcases List.mem_cons.1 h with rfl | h
    · omega
    · have := ih h; omega
theorem leftW_seq {a b : Nat} {left : Int} (h : 0 ≤ leftW a left) : leftW b (leftW a left) = leftW (a + b) left := by
  have ha : (a : Int) ≤ left := by
    by_cases h2 : (a : Int) ≤ left
    · exact h2
    · rw [leftW_bad h2] at h; omega
  rw [leftW_good ha]
  by_cases h2 : (b : Int) ≤ left - (a : Int)
  · rw [leftW_good h2, leftW_good (by omega)]; omega
  · rw [leftW_bad h2, leftW_bad (by omega)]
theorem leftW_neg {a b : Nat} {left : Int} (hl : 0 ≤ left) (h : leftW a left < 0) : leftW (a + b) left = -1 := by
  unfold leftW at h ⊢
  split at h
  · omega
  · rw [if_neg (by omega)]
theorem leftW_one {a : Nat} {left : Int} (h : leftW a left < 0) : leftW a left = -1 := by
  unfold leftW at h ⊢
  split at h
  · omega
  · rw [if_neg (by assumption)]
theorem leftW_le {a : Nat} {left : Int} (h : left ≤ 1048576) : leftW a left ≤ 1048576 := by
  unfold leftW; split <;> omega
theorem leftS_eqW (ss : List ByteArray) (left : Int) : leftS ss left = leftW (bulkS ss) left := rfl

/-- A parameter that was put into a block of its own is still there behind a call. -/
theorem boxAt {w w1 : World} {o : Obj} (hb : Below (w.alloc o).heap.size (w.alloc o) w1) : w1.heap[w.heap.size]? = some o := by
  rw [hb.block _ (by simp), vheap_new]
end Go.Proofs.YtkkhnldhipfneaaGreatDoor

/-! How much a list of texts holds, as the law's own helper reckons it, from what is left on: a contract for the walks; conditions: at most 2 to the 20 is left, the list lies in memory. -/
namespace Go.Proofs.YtkkhnldhipfneaaGreatDoor
open Go.RowKit
set_option linter.unusedSimpArgs false
set_option linter.unusedVariables false

set_option maxHeartbeats 1000000 in
set_option maxRecDepth 100000 in
theorem sizeStrsM_c (v : Value) (ss : List ByteArray) (w : World) (left : Int) (hl0 : 0 ≤ left) (hl1 : left ≤ 1048576) (hv : Reads w v (strsV ss)) (hn : ss.length ≤ maxLen) (hs : ∀ s ∈ ss, s.size ≤ maxLen) :
    Calls Tryz.prog 31 #[v, .int .i64 left] w fun e w' => e = .returned (.int .i64 (leftS ss left)) ∧ w = w' := by
  obtain ⟨a, cap, rfl, _, hc⟩ := reads_strs hv
  clear hv
  unfold maxLen at hn hs
  by_cases h0 : left < (ss.length : Int)
  · have hneg : left - (ss.length : Int) < 0 := by omega
    have e : leftS ss left = -1 := by rw [leftS, bulkS, if_neg (by omega)]
    rw [e]
    clear hc hs
    go_enter Tryz.func31, Tryz.ntmps31
    go_wp2
    go_ret
    exact ⟨rfl, rfl⟩
  · have hpos : ¬ (left - (ss.length : Int) < 0) := by omega
    rcases hc with rfl | ⟨b, off, rfl, hlt, hc⟩
    · go_enter Tryz.func31, Tryz.ntmps31
      go_wp2
      go_loop [1, 5] (fun vl vi => vl = .int .i64 left ∧ vi = .int .i64 0) (fun _ _ => 0)
      case atStart => exact ⟨rfl, rfl⟩
      case round =>
        obtain ⟨rfl, rfl⟩ := hrel
        go_wp2
        go_ret
        exact ⟨by rw [show leftS [] left = left by simp [leftS, bulkS, hl0]]; rfl, rfl⟩
    · go_enter Tryz.func31, Tryz.ntmps31
      go_wp2
      go_loop [1, 5] (fun vl vi => ∃ (k : Nat) (l : Int), k ≤ ss.length ∧ vi = .int .i64 (k : Int) ∧ vl = .int .i64 l ∧ 0 ≤ l ∧ l ≤ 1048576 ∧ Hid (l = left - (ss.length : Int) - (((ss.take k).map ByteArray.size).sum : Int))) (fun _ vi => ss.length - (intOf vi).toNat)
      case atStart => exact ⟨0, _, Nat.zero_le _, rfl, rfl, by omega, by omega, by show _ = _; simp⟩
      case round =>
        obtain ⟨k, l, hk, rfl, rfl, hq0, hq1, hl⟩ := hrel
        by_cases hlt' : k < ss.length
        · have hcx := hc k hlt'
          have hsk := hs ss[k] (List.getElem_mem hlt')
          have hsum := sum_take_succ ss k hlt'
          obtain ⟨t, ht⟩ : ∃ t, t = ss[k] := ⟨_, rfl⟩
          rw [← ht] at hcx hsk hsum
          have HS : Hid (((ss.take (k + 1)).map ByteArray.size).sum = ((ss.take k).map ByteArray.size).sum + t.size) := hsum
          have hki : (k : Int) < (ss.length : Int) := by omega
          clear hc hs ht hsum
          by_cases hneg : l - (t.size : Int) < 0
          · have e : leftS ss left = -1 := by
              have h1 := HS.out; have h2 := hl.out; have h3 := sum_take_le ss (k + 1)
              rw [leftS, bulkS, if_neg (by omega)]
            have HE : Hid (leftS ss left = -1) := e
            clear e
            go_wp2
            go_ret
            exact ⟨by rw [HE.out]; rfl, rfl⟩
          · go_wp2
            go_round
            case rel => exact ⟨k + 1, l - (t.size : Int), by omega, by go_num, rfl, by omega, by omega, (by show _ = _; rw [HS.out, hl.out]; omega)⟩
            case measure => simp [intOf]; omega
        · have he : k = ss.length := by omega
          subst he
          have e : leftS ss left = l := by
            have h2 := hl.out
            rw [List.take_length] at h2
            rw [leftS, bulkS, if_pos (by omega)]; omega
          have HE : Hid (leftS ss left = l) := e
          clear hc hs e
          go_wp2
          go_ret
          exact ⟨by rw [HE.out]; rfl, rfl⟩
end Go.Proofs.YtkkhnldhipfneaaGreatDoor

/-! What the law's helpers over versions answer (how much there is, a copy, whether two are alike): contracts for the walks; conditions: the lists of texts lie in memory as told. -/
namespace Go.Proofs.YtkkhnldhipfneaaGreatDoor
open Go.RowKit
set_option linter.unusedSimpArgs false
set_option linter.unusedVariables false

theorem owns_set {w : World} {base : Nat} {e : TypeId} {v : Value} {n : Nat} {xs : List Value} (h : w.ownsRow base e 1 v n xs) {p : Addr} (hp : p.block < base) (x : Value) : (w.setCell p x).ownsRow base e 1 v n xs := by
  obtain ⟨h1, h2⟩ := h
  refine ⟨h1, ?_⟩
  rcases h2 with h2 | ⟨g, cap, cur, a, b, c, d⟩
  · exact .inl h2
  · exact .inr ⟨g, cap, cur, a, b, by rw [Below.heap_setCell _ _ _ _ (by omega)]; exact c, d⟩

/-- A parameter that was put into a block of its own is still there behind a call. -/
theorem box4 {w w1 : World} {c0 c1 c2 c3 : Value} {t : TypeId} (hb : Below (w.alloc (.cells #[c0, c1, c2, c3] t)).heap.size (w.alloc (.cells #[c0, c1, c2, c3] t)) w1) :
    w1.cell? ⟨w.heap.size, 0, none⟩ = some c0 ∧ w1.cell? ⟨w.heap.size, 1, none⟩ = some c1 ∧ w1.cell? ⟨w.heap.size, 2, none⟩ = some c2 ∧ w1.cell? ⟨w.heap.size, 3, none⟩ = some c3 := by
  have h : ∀ j, w1.cell? ⟨w.heap.size, j, none⟩ = (#[c0, c1, c2, c3] : Array Value)[j]? := fun j => by
    rw [hb.cell (p := ⟨w.heap.size, j, none⟩) (by simp)]
    exact vblk_cell (vheap_new _ _) j
  exact ⟨h 0, h 1, h 2, h 3⟩

def saneP (ps : List ByteArray) : Prop := ps.length ≤ maxLen ∧ ∀ s ∈ ps, s.size ≤ maxLen

set_option maxHeartbeats 1000000 in
set_option maxRecDepth 100000 in
theorem sizeStrsL_c (v : Value) (ss : List ByteArray) (w : World) (left : Int) (hl0 : 0 ≤ left) (hl1 : left ≤ 1048576) (hv : Reads w v (strsV ss)) (hn : ss.length ≤ maxLen) (hs : ∀ s ∈ ss, s.size ≤ maxLen) :
    Calls Tryz.prog 31 #[v, .int .i64 left] w fun e w' => e = .returned (.int .i64 (leftS ss left)) ∧ w = w' := by
  obtain ⟨a, cap, rfl, _, hc⟩ := reads_strs hv
  clear hv
  unfold maxLen at hn hs
  by_cases h0 : left < (ss.length : Int)
  · have hneg : left - (ss.length : Int) < 0 := by omega
    have e : leftS ss left = -1 := by rw [leftS, bulkS, if_neg (by omega)]
    rw [e]
    clear hc hs
    go_enter Tryz.func31, Tryz.ntmps31
    go_wp2
    go_ret
    exact ⟨rfl, rfl⟩
  · have hpos : ¬ (left - (ss.length : Int) < 0) := by omega
    rcases hc with rfl | ⟨b, off, rfl, hlt, hc⟩
    · go_enter Tryz.func31, Tryz.ntmps31
      go_wp2
      go_loop [1, 5] (fun vl vi => vl = .int .i64 left ∧ vi = .int .i64 0) (fun _ _ => 0)
      case atStart => exact ⟨rfl, rfl⟩
      case round =>
        obtain ⟨rfl, rfl⟩ := hrel
        go_wp2
        go_ret
        exact ⟨by rw [show leftS [] left = left by simp [leftS, bulkS, hl0]]; rfl, rfl⟩
    · go_enter Tryz.func31, Tryz.ntmps31
      go_wp2
      go_loop [1, 5] (fun vl vi => ∃ (k : Nat) (l : Int), k ≤ ss.length ∧ vi = .int .i64 (k : Int) ∧ vl = .int .i64 l ∧ 0 ≤ l ∧ l ≤ 1048576 ∧ Hid (l = left - (ss.length : Int) - (((ss.take k).map ByteArray.size).sum : Int))) (fun _ vi => ss.length - (intOf vi).toNat)
      case atStart => exact ⟨0, _, Nat.zero_le _, rfl, rfl, by omega, by omega, by show _ = _; simp⟩
      case round =>
        obtain ⟨k, l, hk, rfl, rfl, hq0, hq1, hl⟩ := hrel
        by_cases hlt' : k < ss.length
        · have hcx := hc k hlt'
          have hsk := hs ss[k] (List.getElem_mem hlt')
          have hsum := sum_take_succ ss k hlt'
          obtain ⟨t, ht⟩ : ∃ t, t = ss[k] := ⟨_, rfl⟩
          rw [← ht] at hcx hsk hsum
          have HS : Hid (((ss.take (k + 1)).map ByteArray.size).sum = ((ss.take k).map ByteArray.size).sum + t.size) := hsum
          have hki : (k : Int) < (ss.length : Int) := by omega
          clear hc hs ht hsum
          by_cases hneg : l - (t.size : Int) < 0
          · have e : leftS ss left = -1 := by
              have h1 := HS.out; have h2 := hl.out; have h3 := sum_take_le ss (k + 1)
              rw [leftS, bulkS, if_neg (by omega)]
            have HE : Hid (leftS ss left = -1) := e
            clear e
            go_wp2
            go_ret
            exact ⟨by rw [HE.out]; rfl, rfl⟩
          · go_wp2
            go_round
            case rel => exact ⟨k + 1, l - (t.size : Int), by omega, by go_num, rfl, by omega, by omega, (by show _ = _; rw [HS.out, hl.out]; omega)⟩
            case measure => simp [intOf]; omega
        · have he : k = ss.length := by omega
          subst he
          have e : leftS ss left = l := by
            have h2 := hl.out
            rw [List.take_length] at h2
            rw [leftS, bulkS, if_pos (by omega)]; omega
          have HE : Hid (leftS ss left = l) := e
          clear hc hs e
          go_wp2
          go_ret
          exact ⟨by rw [HE.out]; rfl, rfl⟩

theorem vthree {w w1 : World} {A R O : Obj} (hb : Below (((w.alloc A).alloc R).alloc O).heap.size (((w.alloc A).alloc R).alloc O) w1) :
    w1.heap[w.heap.size]? = some A ∧ w1.heap[w.heap.size + 1]? = some R ∧ w1.heap[w.heap.size + 1 + 1]? = some O := by
  have s1 : (w.alloc A).heap.size = w.heap.size + 1 := by simp
  have s2 : ((w.alloc A).alloc R).heap.size = w.heap.size + 1 + 1 := by simp
  refine ⟨?_, ?_, ?_⟩
  · rw [hb.block _ (by simp; omega), vheap_old _ _ (by simp; omega), vheap_old _ _ (by simp), vheap_new]
  · rw [hb.block _ (by simp), vheap_old _ _ (by simp), ← s1, vheap_new]
  · rw [hb.block _ (by simp), ← s2, vheap_new]

end Go.Proofs.YtkkhnldhipfneaaGreatDoor

/-! Needs, commands and packs that lie in memory: what they are, and how much they hold, as the law counts it: contracts for the walks; conditions: at most 2 to the 20 is left to count. -/
namespace Go.Proofs.YtkkhnldhipfneaaGreatDoor
open Go.RowKit
set_option linter.unusedSimpArgs false
set_option linter.unusedVariables false

theorem lw (n : Nat) (l : Int) : ((n : Int) ≤ l ∧ leftW n l = l - (n : Int)) ∨ (l < (n : Int) ∧ leftW n l = -1) := by
  by_cases h : (n : Int) ≤ l
  · exact .inl ⟨h, leftW_good h⟩
  · exact .inr ⟨by omega, leftW_bad h⟩

/-- A list of texts that may be written. -/
def StrsOwn (S : Nat → Prop) (w : World) (u : Value) (ss : List ByteArray) : Prop := w.ownsRow 0 9 1 u ss.length (strsV ss) ∧ ∀ g, u.ownBlock = some g → S g
theorem StrsOwn.keep {S : Nat → Prop} {w w' : World} {u : Value} {ss : List ByteArray} (hk : Kp S w w') (h : StrsOwn S w u ss) : StrsOwn S w' u ss := ⟨owns_kept hk h.2 h.1, h.2⟩
theorem StrsOwn.mono {S S' : Nat → Prop} {w : World} {u : Value} {ss : List ByteArray} (hS : ∀ b, S b → S' b) (h : StrsOwn S w u ss) : StrsOwn S' w u ss := ⟨h.1, fun g hg => hS g (h.2 g hg)⟩
theorem StrsOwn.plain {S : Nat → Prop} {w : World} {u : Value} {ss : List ByteArray} (h : StrsOwn S w u ss) : RdB S w u (strsV ss) := by
  obtain ⟨a, cap, hv, hc, hx⟩ := reads_of_owns h.1
  refine ⟨a, cap, hv, hc, ?_⟩
  rcases hx with hx | ⟨b, off, rfl, hlt, hx⟩
  · exact .inl hx
  · exact .inr ⟨b, off, rfl, h.2 b (by rw [hv]; rfl), hx⟩

structure NeedD where
  n : ByteArray
  r : ByteArray
def wtNeed (d : NeedD) : Nat := d.n.size + d.r.size
def shNeed : Sh NeedD where
  n := 2
  lies S w cs d := cs = [.string d.n, .string d.r] ∧ d.n.size ≤ maxLen ∧ d.r.size ≤ maxLen
  keep hk h := by obtain ⟨h0, h1, h2⟩ := h; exact ⟨h0, h1, h2⟩
  mono hS h := by obtain ⟨h0, h1, h2⟩ := h; exact ⟨h0, h1, h2⟩

structure CmdD where
  t : ByteArray
  acts : List ByteArray
def wtCmd (d : CmdD) : Nat := d.t.size + bulkS d.acts
def shCmd : Sh CmdD where
  n := 2
  lies S w cs d := ∃ u0, cs = [.string d.t, u0] ∧ d.t.size ≤ maxLen ∧ RdB S w u0 (strsV d.acts) ∧ saneP d.acts
  keep hk h := by obtain ⟨u0, h0, h1, h2, h3⟩ := h; exact ⟨u0, h0, h1, h2.keep hk, h3⟩
  mono hS h := by obtain ⟨u0, h0, h1, h2, h3⟩ := h; exact ⟨u0, h0, h1, h2.mono hS, h3⟩
def shCmdO : Sh CmdD where
  n := 2
  lies S w cs d := ∃ u0, cs = [.string d.t, u0] ∧ d.t.size ≤ maxLen ∧ StrsOwn S w u0 d.acts ∧ saneP d.acts
  keep hk h := by obtain ⟨u0, h0, h1, h2, h3⟩ := h; exact ⟨u0, h0, h1, h2.keep hk, h3⟩
  mono hS h := by obtain ⟨u0, h0, h1, h2, h3⟩ := h; exact ⟨u0, h0, h1, h2.mono hS, h3⟩
theorem liesCmd_plain {S : Nat → Prop} {w : World} {cs : List Value} {d : CmdD} (h : shCmdO.lies S w cs d) : shCmd.lies S w cs d := by
  obtain ⟨u0, e0, s_t, r0, p0⟩ := h
  exact ⟨u0, e0, s_t, r0.plain, p0⟩

structure PackD where
  name : ByteArray
  uses : List ByteArray
  needs : List NeedD
  cmds : List CmdD
def wtPack (d : PackD) : Nat := d.name.size + bulkS d.uses + wtRow wtNeed d.needs + wtRow wtCmd d.cmds
def shPack : Sh PackD where
  n := 4
  lies S w cs d := ∃ u0 u1 u2, cs = [.string d.name, u0, u1, u2] ∧ d.name.size ≤ maxLen ∧ RdB S w u0 (strsV d.uses) ∧ saneP d.uses ∧ RowIn shNeed S w u1 d.needs ∧ RowIn shCmd S w u2 d.cmds
  keep hk h := by obtain ⟨u0, u1, u2, h0, h1, h2, h3, h4, h5⟩ := h; exact ⟨u0, u1, u2, h0, h1, h2.keep hk, h3, h4.keep hk, h5.keep hk⟩
  mono hS h := by obtain ⟨u0, u1, u2, h0, h1, h2, h3, h4, h5⟩ := h; exact ⟨u0, u1, u2, h0, h1, h2.mono hS, h3, h4.mono hS, h5.mono hS⟩
def shPackO : Sh PackD where
  n := 4
  lies S w cs d := ∃ u0 u1 u2, cs = [.string d.name, u0, u1, u2] ∧ d.name.size ≤ maxLen ∧ StrsOwn S w u0 d.uses ∧ saneP d.uses ∧ RowOwn shNeed 211 S w u1 d.needs ∧ RowOwn shCmdO 170 S w u2 d.cmds
  keep hk h := by obtain ⟨u0, u1, u2, h0, h1, h2, h3, h4, h5⟩ := h; exact ⟨u0, u1, u2, h0, h1, h2.keep hk, h3, h4.keep hk, h5.keep hk⟩
  mono hS h := by obtain ⟨u0, u1, u2, h0, h1, h2, h3, h4, h5⟩ := h; exact ⟨u0, u1, u2, h0, h1, h2.mono hS, h3, h4.mono hS, h5.mono hS⟩
theorem liesPack_plain {S : Nat → Prop} {w : World} {cs : List Value} {d : PackD} (h : shPackO.lies S w cs d) : shPack.lies S w cs d := by
  obtain ⟨u0, u1, u2, e0, s_name, r0, p0, r1, r2⟩ := h
  exact ⟨u0, u1, u2, e0, s_name, r0.plain, p0, r1.plain, (RowIn.as (sh := shCmdO) (sh' := shCmd) rfl (fun S w cs x h => liesCmd_plain h) r2.plain)⟩

end Go.Proofs.YtkkhnldhipfneaaGreatDoor

/-! Rules that lie in memory: what they are: no condition. -/
namespace Go.Proofs.YtkkhnldhipfneaaGreatDoor
open Go.RowKit
set_option linter.unusedSimpArgs false
set_option linter.unusedVariables false

structure RuleD where
  task : ByteArray
  on : List ByteArray
  ins : List ByteArray
  envs : List ByteArray
  keep : Bool
def wtRule (d : RuleD) : Nat := d.task.size + bulkS d.on + bulkS d.ins + bulkS d.envs
def shRule : Sh RuleD where
  n := 5
  lies S w cs d := ∃ u0 u1 u2, cs = [.string d.task, u0, u1, u2, .bool d.keep] ∧ d.task.size ≤ maxLen ∧ RdB S w u0 (strsV d.on) ∧ saneP d.on ∧ RdB S w u1 (strsV d.ins) ∧ saneP d.ins ∧ RdB S w u2 (strsV d.envs) ∧ saneP d.envs
  keep hk h := by obtain ⟨u0, u1, u2, h0, h1, h2, h3, h4, h5, h6, h7⟩ := h; exact ⟨u0, u1, u2, h0, h1, h2.keep hk, h3, h4.keep hk, h5, h6.keep hk, h7⟩
  mono hS h := by obtain ⟨u0, u1, u2, h0, h1, h2, h3, h4, h5, h6, h7⟩ := h; exact ⟨u0, u1, u2, h0, h1, h2.mono hS, h3, h4.mono hS, h5, h6.mono hS, h7⟩
def shRuleO : Sh RuleD where
  n := 5
  lies S w cs d := ∃ u0 u1 u2, cs = [.string d.task, u0, u1, u2, .bool d.keep] ∧ d.task.size ≤ maxLen ∧ StrsOwn S w u0 d.on ∧ saneP d.on ∧ StrsOwn S w u1 d.ins ∧ saneP d.ins ∧ StrsOwn S w u2 d.envs ∧ saneP d.envs
  keep hk h := by obtain ⟨u0, u1, u2, h0, h1, h2, h3, h4, h5, h6, h7⟩ := h; exact ⟨u0, u1, u2, h0, h1, h2.keep hk, h3, h4.keep hk, h5, h6.keep hk, h7⟩
  mono hS h := by obtain ⟨u0, u1, u2, h0, h1, h2, h3, h4, h5, h6, h7⟩ := h; exact ⟨u0, u1, u2, h0, h1, h2.mono hS, h3, h4.mono hS, h5, h6.mono hS, h7⟩
theorem liesRule_plain {S : Nat → Prop} {w : World} {cs : List Value} {d : RuleD} (h : shRuleO.lies S w cs d) : shRule.lies S w cs d := by
  obtain ⟨u0, u1, u2, e0, s_task, r0, p0, r1, p1, r2, p2⟩ := h
  exact ⟨u0, u1, u2, e0, s_task, r0.plain, p0, r1.plain, p1, r2.plain, p2⟩
end Go.Proofs.YtkkhnldhipfneaaGreatDoor

/-! Rows that are right one by one and ascend, and the first of a row that is taken: pure facts, no condition. -/
namespace Go.Proofs.YtkkhnldhipfneaaGreatDoor
open Go.RowKit
set_option linter.unusedSimpArgs false
set_option linter.unusedVariables false

/-- What is asked of an element beside the one ahead of it. -/
def rowOk {α : Type} (p : α → Bool) (key : α → ByteArray) (d : α) (pre : Option α) : Bool := p d && (match pre with | none => true | some c => Op.bytesLess (key c).toList (key d).toList)
def preX {α : Type} (xs : List α) : Nat → Option α
  | 0 => none
  | j + 1 => xs[j]?
def rowUpto {α : Type} (p : α → Bool) (key : α → ByteArray) (xs : List α) : Nat → Bool
  | 0 => true
  | k + 1 => rowUpto p key xs k && (match xs[k]? with | none => true | some d => rowOk p key d (preX xs k))
def rowB {α : Type} (p : α → Bool) (key : α → ByteArray) (xs : List α) : Bool := rowUpto p key xs xs.length
theorem rowUpto_step {α : Type} {p : α → Bool} {key : α → ByteArray} {xs : List α} {k : Nat} (hk : k < xs.length) (h : rowUpto p key xs k = true) (h2 : rowOk p key xs[k] (preX xs k) = true) : rowUpto p key xs (k + 1) = true := by
  rw [rowUpto, h, List.getElem?_eq_getElem hk]; simpa using h2
theorem rowUpto_bad {α : Type} {p : α → Bool} {key : α → ByteArray} {xs : List α} {k : Nat} (hk : k < xs.length) (h2 : rowOk p key xs[k] (preX xs k) = false) : ∀ n, k < n → rowUpto p key xs n = false
  | 0, h => by omega
  | n + 1, h => by
    rw [rowUpto]
    by_cases e : k = n
    · subst e; rw [List.getElem?_eq_getElem hk]; simp [h2]
    · rw [rowUpto_bad hk h2 n (by omega)]; rfl
theorem rowOk_no {α : Type} {p : α → Bool} {key : α → ByteArray} {d : α} {o : Option α} (h : p d = false) : rowOk p key d o = false := by simp [rowOk, h]
theorem rowOk_first {α : Type} {p : α → Bool} {key : α → ByteArray} {d : α} (h : p d = true) : rowOk p key d none = true := by simp [rowOk, h]
theorem rowOk_some {α : Type} {p : α → Bool} {key : α → ByteArray} {d c : α} (h : p d = true) : rowOk p key d (some c) = Op.bytesLess (key c).toList (key d).toList := by simp [rowOk, h]
theorem rowOk_less {α : Type} {p : α → Bool} {key : α → ByteArray} {d c : α} (h : Op.bytesLess (key c).toList (key d).toList = false) : rowOk p key d (some c) = false := by simp [rowOk, h]

def ascB (ts : List ByteArray) : Bool := rowB (fun _ => true) id ts
theorem asc_one (ts : List ByteArray) : rowUpto (fun _ => true) id ts 1 = true := by
  rw [rowUpto, rowUpto]
  cases ts with
  | nil => rfl
  | cons t ts => rfl
theorem asc_end {ts : List ByteArray} {k : Nat} (h1 : 1 ≤ k) (h2 : ¬ k < ts.length) (h3 : k ≤ ts.length ∨ k = 1) (h : rowUpto (fun _ => true) id ts k = true) : ascB ts = true := by
  cases ts with
  | nil => rfl
  | cons t ts =>
    have : k = (t :: ts).length := by
      rcases h3 with h3 | h3
      · omega
      · simp at h2 ⊢; omega
    rw [this] at h
    exact h
theorem rowUpto_split {α : Type} (p : α → Bool) (key : α → ByteArray) (xs : List α) : ∀ k, k ≤ xs.length → rowUpto p key xs k = ((xs.take k).all p && rowUpto (fun _ => true) id (xs.map key) k)
  | 0, _ => rfl
  | k + 1, h => by
    have hk : k < xs.length := by omega
    rw [rowUpto, rowUpto_split p key xs k (by omega), List.getElem?_eq_getElem hk, List.take_succ_eq_append_getElem hk, List.all_append]
    have hm : (xs.map key)[k]? = some (key xs[k]) := by simp [hk]
    have hp : preX (xs.map key) k = (preX xs k).map key := by
      cases k with
      | zero => rfl
      | succ j => simp [preX]
    simp only [rowUpto, hm, hp, rowOk, List.all_cons, List.all_nil, Bool.and_true, Bool.true_and]
    cases preX xs k with
    | none => simp only [Option.map_none]; cases (xs.take k).all p <;> cases rowUpto (fun _ => true) id (xs.map key) k <;> cases p xs[k] <;> rfl
    | some c => simp only [Option.map_some, id]; cases (xs.take k).all p <;> cases rowUpto (fun _ => true) id (xs.map key) k <;> cases p xs[k] <;> cases Op.bytesLess (key c).toList (key xs[k]).toList <;> rfl
theorem rowB_split {α : Type} (p : α → Bool) (key : α → ByteArray) (xs : List α) : rowB p key xs = (xs.all p && ascB (xs.map key)) := by
  unfold rowB ascB rowB
  rw [rowUpto_split p key xs _ (Nat.le_refl _), List.take_length, List.length_map]

/-- The place of the first that p takes, or -1. -/
def firstI {α : Type} (p : α → Bool) (xs : List α) : Int := if xs.findIdx p < xs.length then (xs.findIdx p : Int) else -1
theorem firstI_here {α : Type} {p : α → Bool} {xs : List α} {k : Nat} (h : k < xs.length) (hy : p xs[k] = true) (hn : ∀ j (hj : j < xs.length), j < k → p xs[j] = false) : firstI p xs = (k : Int) := by
  have e : xs.findIdx p = k := by
    rw [List.findIdx_eq h]
    exact ⟨hy, fun j hj => hn j (by omega) hj⟩
  unfold firstI
  rw [e, if_pos h]
theorem firstI_none {α : Type} {p : α → Bool} {xs : List α} (hn : ∀ j (hj : j < xs.length), p xs[j] = false) : firstI p xs = -1 := by
  have e : xs.findIdx p = xs.length := by
    rw [List.findIdx_eq_length]
    intro x hx
    obtain ⟨j, hj, rfl⟩ := List.mem_iff_getElem.1 hx
    exact hn j hj
  unfold firstI
  rw [e, if_neg (by omega)]
theorem firstI_any {α : Type} (p : α → Bool) (xs : List α) : decide (0 ≤ firstI p xs) = xs.any p := by
  unfold firstI
  by_cases h : xs.findIdx p < xs.length
  · rw [if_pos h, decide_eq_true (by omega)]
    have := List.findIdx_lt_length.1 h
    obtain ⟨x, hx, hp⟩ := this
    exact (List.any_eq_true.2 ⟨x, hx, hp⟩).symm
  · rw [if_neg h, decide_eq_false (by omega)]
    have e : xs.findIdx p = xs.length := by have := List.findIdx_le_length (xs := xs) (p := p); omega
    rw [List.findIdx_eq_length] at e
    cases ha : xs.any p with
    | false => rfl
    | true =>
      obtain ⟨x, hx, hp⟩ := List.any_eq_true.1 ha
      have := e x hx
      simp_all
theorem firstI_ge {α : Type} (p : α → Bool) (xs : List α) : -1 ≤ firstI p xs := by unfold firstI; split <;> omega
theorem firstI_le {α : Type} (p : α → Bool) (xs : List α) : firstI p xs ≤ (xs.length : Int) := by unfold firstI; split <;> omega

end Go.Proofs.YtkkhnldhipfneaaGreatDoor

/-! What a text falls into between the bytes c, and what the specification's Split answers: just that list; conditions: the text has at most 2 to the 20 bytes and a few more. -/
namespace Go.Proofs.YtkkhnldhipfneaaGreatDoor
open Go.RowKit
set_option linter.unusedSimpArgs false
set_option linter.unusedVariables false

/-- The pieces behind place i, the piece at hand having begun at place b. -/
def splitGo (s : ByteArray) (c : Int) : Nat → Nat → Nat → List ByteArray
  | 0, _, b => [s.extract b s.size]
  | f + 1, i, b => if ((s.data[i]!).toNat : Int) = c then s.extract b i :: splitGo s c f (i + 1) (i + 1) else splitGo s c f (i + 1) b
def splitS (s : ByteArray) (c : Int) : List ByteArray := splitGo s c s.size 0 0

theorem splitGo_hit (s : ByteArray) (c : Int) (i b : Nat) (hi : i < s.size) (h : ((s.data[i]!).toNat : Int) = c) : splitGo s c (s.size - i) i b = s.extract b i :: splitGo s c (s.size - (i + 1)) (i + 1) (i + 1) := by
  obtain ⟨f, hf⟩ : ∃ f, s.size - i = f + 1 := ⟨s.size - i - 1, by omega⟩
  rw [hf, splitGo, if_pos h, show s.size - (i + 1) = f by omega]
theorem splitGo_miss (s : ByteArray) (c : Int) (i b : Nat) (hi : i < s.size) (h : ¬ ((s.data[i]!).toNat : Int) = c) : splitGo s c (s.size - i) i b = splitGo s c (s.size - (i + 1)) (i + 1) b := by
  obtain ⟨f, hf⟩ : ∃ f, s.size - i = f + 1 := ⟨s.size - i - 1, by omega⟩
  rw [hf, splitGo, if_neg h, show s.size - (i + 1) = f by omega]
theorem splitGo_end (s : ByteArray) (c : Int) (b : Nat) : splitGo s c (s.size - s.size) s.size b = [s.extract b s.size] := by
  rw [Nat.sub_self, splitGo]

theorem strs_append (xs ys : List ByteArray) : strsV xs ++ strsV ys = strsV (xs ++ ys) := by simp [strsV]

set_option maxHeartbeats 2000000 in
set_option maxRecDepth 100000 in
theorem specSplit_c (s : ByteArray) (c : Int) (w : World) (hs : s.size ≤ 1048576) :
    Calls Tryz.prog 128 #[.string s, .int .u8 c] w fun e w' => ∃ v, e = .returned v ∧ w'.ownsRow w.heap.size 9 1 v (splitS s c).length (strsV (splitS s c)) ∧ Below w.heap.size w w' := by
  obtain ⟨i0, hi, hz0, hz1, hz2⟩ := info_parts infoS
  have ho : (w.alloc (.cells #[] 9)).ownsRow w.heap.size 9 1 (.slice (some ⟨w.heap.size, 0, none⟩) 0 0) 0 [] := World.ownsRow_lit w #[] 0 (Nat.le_refl _) (by unfold maxLen; omega) rfl
  go_enter Tryz.func128, Tryz.ntmps128
  go_wp2
  go_loopw [5, 6, 7] (fun vo vb vi wr => ∃ (i b : Nat) (xs : List ByteArray), vi = .int .i64 (i : Int) ∧ vb = .int .i64 (b : Int) ∧ i ≤ s.size + 1 ∧ b ≤ i ∧ xs.length ≤ i ∧ wr.ownsRow w.heap.size 9 1 vo xs.length (strsV xs) ∧ Hid ((i ≤ s.size ∧ xs ++ splitGo s c (s.size - i) i b = splitS s c) ∨ (i = s.size + 1 ∧ xs = splitS s c)) ∧ Below w.heap.size w wr) (fun _ _ vi _ => s.size + 1 - (intOf vi).toNat)
  case atStart => exact ⟨0, 0, [], rfl, rfl, by omega, by omega, by simp, ho, .inl ⟨by omega, rfl⟩, (Below.refl _ _).alloc (Nat.le_refl _) _⟩
  case round =>
    obtain ⟨i, b, xs, rfl, rfl, hi1, hbi, hxl, hown, hh, hbr⟩ := hrel
    clear ho
    by_cases hle : i ≤ s.size
    · have hh1 : xs ++ splitGo s c (s.size - i) i b = splitS s c := by
        rcases hh.out with h | h
        · exact h.2
        · omega
      have HH : Hid (xs ++ splitGo s c (s.size - i) i b = splitS s c) := hh1
      have hlei : (i : Int) ≤ (s.size : Int) := by omega
      clear hh hh1
      by_cases heq : i = s.size
      · subst heq
        have heq' : ((s.size : Int) == (s.size : Int)) = true := by simp
        go_wp2_with (at_builtin; refine wpList_append_own _ rfl _ _ 26 rfl w.heap.size 9 i0 (.string ⟨#[]⟩) 1 16 Tryz.underlying26 hi hz0 hz1 hz2 rfl (by decide) _ xs.length (strsV xs) rfl (hown.alloc _) ⟨wr.heap.size, 0, none⟩ 1 1 (strsV [s.extract b s.size]) rfl rfl (cell_one_new _ _ _) (fun u hu => by simp [strsV] at hu; subst hu; rfl) (by unfold maxLen; omega) (by omega) (by have := hbr.size; simp; omega) ?_)
        intro v2 w2 o2 gr2 _
        rw [strs_append] at o2
        have hb2 : Below w.heap.size w w2 := Below.grown (hbr.alloc hbr.size _) gr2 (by have := hbr.size; simp; omega) (fun j hj => (hown.lt _ hj).1)
        have HT : Hid (xs ++ [s.extract b s.size] = splitS s c) := by have := HH.out; rw [splitGo_end] at this; exact this
        have hl2 : (xs ++ [s.extract b s.size]).length = xs.length + 1 := by simp
        rw [← hl2] at o2
        clear gr2 hown hbr hl2
        go_wp2
        go_roundw
        case rel => exact ⟨s.size + 1, s.size + 1, _, by go_num, by go_num, by omega, by omega, (by simp; omega), o2, .inr ⟨rfl, HT.out⟩, hb2⟩
        case measure => simp [intOf]
      · have hlt : i < s.size := by omega
        have heq' : ((i : Int) == (s.size : Int)) = false := by rw [beq_eq_false_iff_ne]; omega
        have hbang := byteBang s i hlt
        cases hc : (((s[i]).toNat : Int) == c) with
        | true =>
          have HT : Hid ((xs ++ [s.extract b i]) ++ splitGo s c (s.size - (i + 1)) (i + 1) (i + 1) = splitS s c) := by
            have := HH.out
            rw [splitGo_hit s c i b hlt (by rw [hbang]; simpa using hc)] at this
            show _ = _
            rw [List.append_assoc]; exact this
          clear hbang
          go_wp2_with (at_builtin; refine wpList_append_own _ rfl _ _ 26 rfl w.heap.size 9 i0 (.string ⟨#[]⟩) 1 16 Tryz.underlying26 hi hz0 hz1 hz2 rfl (by decide) _ xs.length (strsV xs) rfl (hown.alloc _) ⟨wr.heap.size, 0, none⟩ 1 1 (strsV [s.extract b i]) rfl rfl (cell_one_new _ _ _) (fun u hu => by simp [strsV] at hu; subst hu; rfl) (by unfold maxLen; omega) (by omega) (by have := hbr.size; simp; omega) ?_)
          intro v2 w2 o2 gr2 _
          rw [strs_append] at o2
          have hb2 : Below w.heap.size w w2 := Below.grown (hbr.alloc hbr.size _) gr2 (by have := hbr.size; simp; omega) (fun j hj => (hown.lt _ hj).1)
          have hl2 : (xs ++ [s.extract b i]).length = xs.length + 1 := by simp
          rw [← hl2] at o2
          clear gr2 hown hbr hl2
          go_wp2
          go_roundw
          case rel => exact ⟨i + 1, i + 1, _, by go_num, by go_num, by omega, by omega, (by simp; omega), o2, .inl ⟨by omega, HT.out⟩, hb2⟩
          case measure => simp [intOf]; omega
        | false =>
          have HT : Hid (xs ++ splitGo s c (s.size - (i + 1)) (i + 1) b = splitS s c) := by
            have := HH.out
            rw [splitGo_miss s c i b hlt (by rw [hbang]; simpa using hc)] at this
            exact this
          clear hbang
          go_wp2
          go_roundw
          case rel => exact ⟨i + 1, b, xs, by go_num, rfl, by omega, by omega, by omega, hown, .inl ⟨by omega, HT.out⟩, hbr⟩
          case measure => simp [intOf]; omega
    · have hlei : ¬ (i : Int) ≤ (s.size : Int) := by omega
      have e : xs = splitS s c := by
        rcases hh.out with h | h
        · omega
        · exact h.2
      go_wp2
      go_ret
      rw [← e]
      exact ⟨_, rfl, hown, hbr⟩
end Go.Proofs.YtkkhnldhipfneaaGreatDoor

/-! Contracts of two functions of the library (the first place of a byte in a text; a copy of a text), taken over from the library of contracts at the numbers of this program; conditions as each says. -/
namespace Go.Proofs
open Go.Shelf
def Tryz.lays137_ren : Go.Shelf.Ren := ⟨fun | 137 => 300 | 217 => 236 | 266 => 264 | n => n, fun | 9 => 9 | 5 => 5 | 3 => 3 | n => n, fun | n => n⟩
theorem Tryz.lays137 : Go.Proofs.Lays.n137 Tryz.prog Tryz.lays137_ren := {
  mixed := by kernel_rfl
  f137 := Tryz.func300.trans (congrArg some (by kernel_rfl))
  f217 := Tryz.func236.trans (congrArg some (by kernel_rfl))
  f266 := Tryz.func264.trans (congrArg some (by kernel_rfl))
  t3 := Tryz.underlying3
  a3 := Tryz.isAgg3
  z3 := Tryz.sizeOf3
  v3 := Tryz.zeroValue3
  t5 := Tryz.underlying5
  a5 := Tryz.isAgg5
  z5 := Tryz.sizeOf5
  v5 := Tryz.zeroValue5
  t9 := Tryz.underlying9
  a9 := Tryz.isAgg9
  z9 := Tryz.sizeOf9
  v9 := Tryz.zeroValue9 }
open Go.RowKit in
theorem Tryz.strings_IndexByte (s : ByteArray) (c : Int) (w : World) :
    Calls Tryz.prog 300 #[.string s, .int .u8 c] w fun e w' => e = .returned (.int .i64 (Lib.indexByte s.data.toList c.toNat.toUInt8)) ∧ w' = w := Any.strings_IndexByte Tryz.lays137 s c w
def Tryz.laysM316_ren : Go.Shelf.Ren := ⟨fun | 316 => 141 | n => n, fun | 9 => 9 | 3 => 3 | 4 => 4 | 37 => 22 | 0 => 0 | 127 => 231 | 5 => 5 | n => n, fun | n => n⟩
theorem Tryz.laysM316 : Go.Proofs.LaysM.n316 Tryz.prog Tryz.laysM316_ren := {
  mixed := by kernel_rfl
  f316 := Tryz.func141.trans (congrArg some (by kernel_rfl))
  t0 := Tryz.underlying0
  a0 := Tryz.isAgg0
  z0 := Tryz.sizeOf0
  v0 := Tryz.zeroValue0
  t3 := Tryz.underlying3
  a3 := Tryz.isAgg3
  z3 := Tryz.sizeOf3
  v3 := Tryz.zeroValue3
  t4 := Tryz.underlying4
  a4 := Tryz.isAgg4
  z4 := Tryz.sizeOf4
  v4 := Tryz.zeroValue4
  t9 := Tryz.underlying9
  a9 := Tryz.isAgg9
  z9 := Tryz.sizeOf9
  v9 := Tryz.zeroValue9
  t37 := Tryz.underlying22
  a37 := Tryz.isAgg22
  z37 := Tryz.sizeOf22
  v37 := Tryz.zeroValue22
  t127 := Tryz.underlying231
  a127 := Tryz.isAgg231
  z127 := Tryz.sizeOf231
  v127 := Tryz.zeroValue231
  t5 := Tryz.underlying5
  a5 := Tryz.isAgg5
  z5 := Tryz.sizeOf5
  v5 := Tryz.zeroValue5
  i0 := by kernel_rfl
  i3 := by kernel_rfl
  i4 := by kernel_rfl
  i5 := by kernel_rfl
  i9 := by kernel_rfl
  i37 := by kernel_rfl
  i127 := by kernel_rfl }
open Go.RowKit in
theorem Tryz.stringslite_Clone (s : ByteArray) (w : World) (hlim : s.size ≤ 281474976710656) :
    Calls Tryz.prog 141 #[.string s] w fun e w' => e = .returned (.string s) ∧ Below w.heap.size w w' := Any.stringslite_Clone Tryz.laysM316 s w hlim
def Tryz.lays217_ren : Go.Shelf.Ren := ⟨fun | 217 => 236 | 266 => 264 | n => n, fun | 9 => 9 | 5 => 5 | 3 => 3 | n => n, fun | n => n⟩
theorem Tryz.lays217 : Go.Proofs.Lays.n217 Tryz.prog Tryz.lays217_ren := {
  mixed := by kernel_rfl
  f217 := Tryz.func236.trans (congrArg some (by kernel_rfl))
  f266 := Tryz.func264.trans (congrArg some (by kernel_rfl))
  t3 := Tryz.underlying3
  a3 := Tryz.isAgg3
  z3 := Tryz.sizeOf3
  v3 := Tryz.zeroValue3
  t5 := Tryz.underlying5
  a5 := Tryz.isAgg5
  z5 := Tryz.sizeOf5
  v5 := Tryz.zeroValue5
  t9 := Tryz.underlying9
  a9 := Tryz.isAgg9
  z9 := Tryz.sizeOf9
  v9 := Tryz.zeroValue9 }
open Go.RowKit Go.Lib in
theorem Tryz.stringslite_IndexByte (s : ByteArray) (c : Int) (w : World) :
    Calls Tryz.prog 236 #[.string s, .int .u8 c] w fun e w' => e = .returned (.int .i64 (Lib.indexByte s.data.toList c.toNat.toUInt8)) ∧ w' = w := Any.stringslite_IndexByte Tryz.lays217 s c w
end Go.Proofs

/-! What the program's Split answers: the same list as the specification's, in memory of its own; condition: the text has at most 2 to the 20 bytes. -/
namespace Go.Proofs.YtkkhnldhipfneaaGreatDoor
open Go.RowKit
set_option linter.unusedSimpArgs false
set_option linter.unusedVariables false

theorem split_none (s : ByteArray) (c : Int) (b : Nat) : ∀ (n i : Nat), n = s.size - i → i ≤ s.size → (∀ j, i ≤ j → j < s.size → ¬ ((s.data[j]!).toNat : Int) = c) → splitGo s c (s.size - i) i b = [s.extract b s.size]
  | 0, i, hn, hi, h => by
    have : i = s.size := by omega
    subst this
    exact splitGo_end s c b
  | n + 1, i, hn, hi, h => by
    rw [splitGo_miss s c i b (by omega) (h i (Nat.le_refl _) (by omega))]
    exact split_none s c b n (i + 1) (by omega) (by omega) (fun j h1 h2 => h j (by omega) h2)
theorem split_some (s : ByteArray) (c : Int) (b j : Nat) (hj : j < s.size) (hc : ((s.data[j]!).toNat : Int) = c) : ∀ (n i : Nat), n = j - i → i ≤ j → (∀ k, i ≤ k → k < j → ¬ ((s.data[k]!).toNat : Int) = c) → splitGo s c (s.size - i) i b = s.extract b j :: splitGo s c (s.size - (j + 1)) (j + 1) (j + 1)
  | 0, i, hn, hi, h => by
    have : i = j := by omega
    subst this
    exact splitGo_hit s c i b hj hc
  | n + 1, i, hn, hi, h => by
    rw [splitGo_miss s c i b (by omega) (h i (Nat.le_refl _) (by omega))]
    exact split_some s c b j hj hc n (i + 1) (by omega) (by omega) (fun k h1 h2 => h k (by omega) h2)

def strSize : Value → Nat | .string s => s.size | _ => 0

theorem ext_list {a b : ByteArray} (h : a.data.toList = b.data.toList) : a = b := ByteArray.ext (Array.toList_inj.1 h)
theorem extract_list (s : ByteArray) (a b : Nat) : (s.extract a b).data.toList = (s.data.toList.drop a).take (b - a) := Lib.extract_data s a b
theorem len_list (s : ByteArray) : s.data.toList.length = s.size := by rw [Array.length_toList]; rfl
theorem size_tail (s : ByteArray) (b : Nat) (h : b ≤ s.size) : (s.extract b s.size).size = s.size - b := by
  rw [← len_list, extract_list, List.length_take, List.length_drop, len_list]; omega
theorem tail_list (s : ByteArray) (b : Nat) : (s.extract b s.size).data.toList = s.data.toList.drop b := by
  rw [extract_list, List.take_of_length_le (by rw [List.length_drop, len_list]; omega)]
theorem tail_head (s : ByteArray) (b k : Nat) : (s.extract b s.size).extract 0 k = s.extract b (b + k) := by
  apply ext_list
  rw [extract_list, tail_list, extract_list]
  simp
theorem tail_tail (s : ByteArray) (b k : Nat) : (s.extract b s.size).extract k (s.extract b s.size).size = s.extract (b + k) s.size := by
  apply ext_list
  rw [tail_list, tail_list, tail_list, List.drop_drop]

theorem bang_list (s : ByteArray) (j : Nat) (h : j < s.size) : s.data.toList[j]? = some (s.data[j]!) := by
  rw [byteBang s j h, List.getElem?_eq_getElem (by rw [len_list]; exact h)]
  rfl

/-- What the search for the byte says of the text behind place b. -/
theorem search (s : ByteArray) (c : Int) (b : Nat) (hb : b ≤ s.size) (h0 : 0 ≤ c) (h1 : c ≤ 255) :
    (Lib.indexByte (s.extract b s.size).data.toList c.toNat.toUInt8 = -1 ∧ splitGo s c (s.size - b) b b = [s.extract b s.size]) ∨
    ∃ k : Nat, Lib.indexByte (s.extract b s.size).data.toList c.toNat.toUInt8 = (k : Int) ∧ b + k < s.size ∧ splitGo s c (s.size - b) b b = s.extract b (b + k) :: splitGo s c (s.size - (b + k + 1)) (b + k + 1) (b + k + 1) := by
  have hcn : ∀ u : UInt8, (u.toNat : Int) = c ↔ u = c.toNat.toUInt8 := fun u => by
    have hu := u.toNat_lt
    constructor
    · intro e
      have : u.toNat = c.toNat := by omega
      rw [← this]; simp
    · intro e
      subst e
      simp [UInt8.toNat_ofNat']
      omega
  rw [tail_list]
  have hge := Lib.indexByte_ge (s.data.toList.drop b) c.toNat.toUInt8
  by_cases hm : Lib.indexByte (s.data.toList.drop b) c.toNat.toUInt8 = -1
  · refine .inl ⟨hm, split_none s c b _ b rfl hb (fun j h1 h2 e => ?_)⟩
    have := Lib.indexByte_none hm (j - b)
    rw [List.getElem?_drop, show b + (j - b) = j by omega, bang_list s j h2] at this
    exact this (by rw [(hcn _).1 e])
  · obtain ⟨k, hk⟩ := Int.eq_ofNat_of_zero_le (show 0 ≤ Lib.indexByte (s.data.toList.drop b) c.toNat.toUInt8 by omega)
    obtain ⟨hh, hbef⟩ := Lib.indexByte_some hk
    rw [List.getElem?_drop] at hh
    have hlt : b + k < s.size := by
      rw [← len_list]
      exact (List.getElem?_eq_some_iff.1 hh).1
    refine .inr ⟨k, hk, hlt, split_some s c b (b + k) hlt ?_ _ b rfl (by omega) (fun j h1 h2 e => ?_)⟩
    · rw [bang_list s _ hlt] at hh
      exact (hcn _).2 (by simpa using hh)
    · have := hbef (j - b) (by omega)
      rw [List.getElem?_drop, show b + (j - b) = j by omega, bang_list s j (by omega)] at this
      exact this (by rw [(hcn _).1 e])

set_option maxHeartbeats 1000000 in
theorem clone_c (s : ByteArray) (w : World) (h : s.size ≤ 1048576) : Calls Tryz.prog 73 #[.string s] w fun e w' => e = .returned (.string s) ∧ Below w.heap.size w w' := by
  go_enter Tryz.func73, Tryz.ntmps73
  go_wp2_with (go_at_call 141; refine (Tryz.stringslite_Clone s _ (by omega)).mono ?_; rintro e w1 ⟨rfl, b1⟩)
  go_ret
  exact ⟨rfl, b1⟩

set_option maxHeartbeats 2000000 in
set_option maxRecDepth 100000 in
theorem implSplit_c (s : ByteArray) (c : Int) (w : World) (hs : s.size ≤ 1048576) (h0 : 0 ≤ c) (h1 : c ≤ 255) :
    Calls Tryz.prog 281 #[.string s, .int .u8 c] w fun e w' => ∃ v, e = .returned v ∧ w'.ownsRow w.heap.size 9 1 v (splitS s c).length (strsV (splitS s c)) ∧ Below w.heap.size w w' := by
  obtain ⟨i0, hi, hz0, hz1, hz2⟩ := info_parts infoS
  go_enter Tryz.func281, Tryz.ntmps281
  go_wp2
  go_loopw [0, 5] (fun vs vo wr => ∃ (b : Nat) (r : ByteArray) (xs : List ByteArray), vs = .string r ∧ b ≤ s.size ∧ xs.length ≤ b ∧ Hid (r = s.extract b s.size) ∧ wr.ownsRow w.heap.size 9 1 vo xs.length (strsV xs) ∧ Hid (xs ++ splitGo s c (s.size - b) b b = splitS s c) ∧ Below w.heap.size w wr) (fun vs _ _ => strSize vs)
  case atStart => exact ⟨0, s, [], rfl, by omega, by simp, (by show _ = _; simp), World.ownsRow_nil _ _ _ _, rfl, Below.refl _ _⟩
  case round =>
    obtain ⟨b, r, xs, rfl, hb, hxl, hr, hown, hh, hbr⟩ := hrel
    have hsr : r.size = s.size - b := by rw [hr.out]; exact size_tail s b hb
    have hs2 := search s c b hb h0 h1
    rw [← hr.out] at hs2
    rcases hs2 with ⟨hidx, hsp⟩ | ⟨k, hidx, hkl, hsp⟩
    · have HT : Hid (xs ++ [r] = splitS s c) := by have := hh.out; rw [hsp] at this; exact this
      have hr20 : r.size ≤ 1048576 := by omega
      clear hsp hh hsr
      go_wp2_with (first
        | (go_at_call 300; refine (Tryz.strings_IndexByte r c _).mono ?_; rintro e w1 ⟨rfl, rfl⟩)
        | (go_at_call 73; refine (clone_c r _ hr20).mono ?_; rintro e w2 ⟨rfl, b2⟩
           have hown2 := owns_of_below hown b2)
        | (at_builtin; refine wpList_append_own _ rfl _ _ 26 rfl w.heap.size 9 i0 (.string ⟨#[]⟩) 1 16 Tryz.underlying26 hi hz0 hz1 hz2 rfl (by decide) _ xs.length (strsV xs) rfl (hown2.alloc _) ⟨w2.heap.size, 0, none⟩ 1 1 (strsV [r]) rfl rfl (cell_one_new _ _ _) (fun u hu => by simp [strsV] at hu; subst hu; rfl) (by unfold maxLen; omega) (by omega) (by have h1 := hbr.size; have h2 := b2.size; simp; omega) ?_))
      intro v3 w3 o3 gr3 _
      rw [strs_append] at o3
      have hb2 := hbr.trans (b2.mono hbr.size)
      have hb3 : Below w.heap.size w w3 := Below.grown (hb2.alloc hb2.size _) gr3 (by have := hb2.size; simp; omega) (fun j hj => (hown2.lt _ hj).1)
      have hl3 : (xs ++ [r]).length = xs.length + 1 := by simp
      rw [← hl3, HT.out] at o3
      go_wp2
      go_ret
      exact ⟨_, rfl, o3, hb3⟩
    · have hkr : k < r.size := by omega
      have HT : Hid ((xs ++ [r.extract 0 k]) ++ splitGo s c (s.size - (b + k + 1)) (b + k + 1) (b + k + 1) = splitS s c) := by
        have := hh.out
        rw [hsp, ← tail_head, ← hr.out] at this
        show _ = _
        rw [List.append_assoc]; exact this
      have HR : Hid (r.extract (k + 1) r.size = s.extract (b + k + 1) s.size) := by
        show _ = _
        rw [hr.out, tail_tail, Nat.add_assoc]
      have hz : (r.extract 0 k).size = k := by
        rw [← len_list, extract_list]; simp [len_list]; omega
      have hz2' : (r.extract (k + 1) r.size).size = r.size - (k + 1) := size_tail r (k + 1) (by omega)
      have hk20 : (r.extract 0 k).size ≤ 1048576 := by omega
      have hkI : (k : Int) < (r.size : Int) := by omega
      have hkn : ¬ ((k : Int) < 0) := by omega
      have hkm : k ≤ 1048576 := by omega
      have hsr2 : Hid (r.size = s.size - b) := hsr
      clear hsp hh hz hsr
      go_wp2_with (first
        | (go_at_call 300; refine (Tryz.strings_IndexByte r c _).mono ?_; rintro e w1 ⟨rfl, rfl⟩)
        | (go_at_call 73; refine (clone_c (r.extract 0 k) _ hk20).mono ?_; rintro e w2 ⟨rfl, b2⟩
           have hown2 := owns_of_below hown b2)
        | (at_builtin; refine wpList_append_own _ rfl _ _ 26 rfl w.heap.size 9 i0 (.string ⟨#[]⟩) 1 16 Tryz.underlying26 hi hz0 hz1 hz2 rfl (by decide) _ xs.length (strsV xs) rfl (hown2.alloc _) ⟨w2.heap.size, 0, none⟩ 1 1 (strsV [r.extract 0 k]) rfl rfl (cell_one_new _ _ _) (fun u hu => by simp [strsV] at hu; subst hu; rfl) (by unfold maxLen; omega) (by omega) (by have h1 := hbr.size; have h2 := b2.size; simp; omega) ?_))
      intro v3 w3 o3 gr3 _
      rw [strs_append] at o3
      have hb2 := hbr.trans (b2.mono hbr.size)
      have hb3 : Below w.heap.size w w3 := Below.grown (hb2.alloc hb2.size _) gr3 (by have := hb2.size; simp; omega) (fun j hj => (hown2.lt _ hj).1)
      have hl3 : (xs ++ [r.extract 0 k]).length = xs.length + 1 := by simp
      rw [← hl3] at o3
      clear gr3 hown2 hown hbr hb2 b2 hl3
      go_wp2
      go_roundw
      case rel => exact ⟨b + k + 1, _, _, rfl, by omega, (by simp; omega), HR, o3, HT, hb3⟩
      case measure => simp only [strSize]; omega
end Go.Proofs.YtkkhnldhipfneaaGreatDoor

/-! What the library's Cut answers where a text is cut at one byte: contracts for the walks; condition: the text has at most 2 to the 20 bytes. -/
namespace Go.Proofs.YtkkhnldhipfneaaGreatDoor
open Go.RowKit
set_option linter.unusedSimpArgs false
set_option linter.unusedVariables false

/-- A text cut at the first place of a byte. -/
def cutD (s : ByteArray) (c : UInt8) : ByteArray × ByteArray × Bool := if Lib.indexByte s.data.toList c = -1 then (s, ⟨#[]⟩, false) else (s.extract 0 (Lib.indexByte s.data.toList c).toNat, s.extract ((Lib.indexByte s.data.toList c).toNat + 1) s.size, true)
theorem cutD_none {s : ByteArray} {c : UInt8} (h : Lib.indexByte s.data.toList c = -1) : cutD s c = (s, ⟨#[]⟩, false) := by unfold cutD; rw [if_pos h]
theorem cutD_some {s : ByteArray} {c : UInt8} {k : Nat} (h : Lib.indexByte s.data.toList c = (k : Int)) : cutD s c = (s.extract 0 k, s.extract (k + 1) s.size, true) := by
  unfold cutD
  rw [if_neg (by omega), h]
  rfl
theorem index_lt {s : ByteArray} {c : UInt8} {k : Nat} (h : Lib.indexByte s.data.toList c = (k : Int)) : k < s.size := by
  have h1 := (Lib.indexByte_some h).1
  have h2 := (List.getElem?_eq_some_iff.1 h1).1
  have h3 : s.data.toList.length = s.size := by rw [Array.length_toList]; rfl
  omega

set_option maxHeartbeats 8000000 in
set_option maxRecDepth 100000 in
theorem index35_c (s : ByteArray) (w : World) (hs : s.size ≤ 1048576) :
    Calls Tryz.prog 196 #[.string s, .string ⟨#[35]⟩] w fun e w' => e = .returned (.int .i64 (Lib.indexByte s.data.toList 35)) ∧ w = w' := by
  by_cases he : s = ⟨#[35]⟩
  · subst he
    go_enter Tryz.func196, Tryz.ntmps196
    go_wp2
    go_ret
    exact ⟨rfl, rfl⟩
  · have hne : ((⟨#[35]⟩ : ByteArray).toList == s.toList) = false := by
      rw [beq_eq_false_iff_ne]
      intro h
      have h2 : [35] = s.data.toList := by simpa [ByteArray.toList_eq] using h
      exact he (ByteArray.ext (Array.toList_inj.1 h2.symm))
    have e7 : (⟨#[35]⟩ : ByteArray).toList = [35] := by simp [ByteArray.toList_eq]
    have hne2 : ([35] == s.toList) = false := by rw [e7] at hne; exact hne
    clear e7
    have HI := hidden (Tryz.stringslite_IndexByte s 35)
    have hu : (35 : Int).toNat.toUInt8 = 35 := rfl
    rw [hu] at HI
    go_enter Tryz.func196, Tryz.ntmps196
    go_wp2_with (go_at_call 236; refine (HI.out _).mono ?_; rintro e w' ⟨rfl, rfl⟩)
    go_ret
    exact ⟨rfl, rfl⟩

set_option maxHeartbeats 8000000 in
set_option maxRecDepth 100000 in
theorem cutS35_c (s : ByteArray) (w : World) (hs : s.size ≤ 1048576) :
    Calls Tryz.prog 138 #[.string s, .string ⟨#[35]⟩] w fun e w' => e = .returned (.tuple #[.string (cutD s 35).1, .string (cutD s 35).2.1, .bool (cutD s 35).2.2]) ∧ Below w.heap.size w w' := by
  have HI := hidden (fun w1 => index35_c s w1 hs)
  by_cases hm : Lib.indexByte s.data.toList 35 = -1
  · rw [hm] at HI
    rw [cutD_none hm]
    clear hm
    go_enter Tryz.func138, Tryz.ntmps138
    go_wp2_with (go_at_call 196; refine (HI.out _).mono ?_; rintro e w' ⟨rfl, rfl⟩)
    go_ret3
    exact ⟨rfl, Below.refl _ _⟩
  · have hge := Lib.indexByte_ge s.data.toList 35
    obtain ⟨k, hk⟩ := Int.eq_ofNat_of_zero_le (show 0 ≤ Lib.indexByte s.data.toList 35 by omega)
    have hlt := index_lt hk
    rw [hk] at HI
    rw [cutD_some hk]
    have h0 : (0 : Int) ≤ (k : Int) := by omega
    have h1 : (k : Int) ≤ (s.size : Int) := by omega
    have h2 : (k : Int) + 1 ≤ (s.size : Int) := by omega
    have h3 : (0 : Int) ≤ (k : Int) + 1 := by omega
    have hwr : IntKind.i64.wrap ((k : Int) + 1) = (k : Int) + 1 := IntWalk.i64_in _ ⟨by omega, by omega⟩
    have htn : ((k : Int) + 1).toNat = k + 1 := by omega
    clear hm hk hge
    go_enter Tryz.func138, Tryz.ntmps138
    go_wp2_with (go_at_call 196; refine (HI.out _).mono ?_; rintro e w' ⟨rfl, rfl⟩)
    refine wp_region_held_drew (S := (fun _ => True)) (by kernel_rfl) ?SR30 (fun hHeld => ?_)
    case SR30 => (exact True.intro)
    refine wpAnyH_take (i := 0) (oi := _) (v := ?vR30) rfl (by kernel_rfl) (by kernel_rfl) (by kernel_rfl) (fun _ _ _ h => h) (Or.inl ⟨by rfl, ?yR30⟩) hHeld ?_
    case yR30 => (intro w hSw; (try dsimp only at hSw); go_simp <;> with_reducible rfl)
    try simp only [Act.put, List.getElem_toArray, List.getElem_cons_zero, List.getElem_cons_succ, List.setIfInBounds_toArray, List.set_cons_zero, List.set_cons_succ]
    refine wpAnyH_take (i := 1) (oi := _) (v := ?vR31) rfl (by kernel_rfl) (by kernel_rfl) (by kernel_rfl) (fun _ _ _ h => h) (Or.inl ⟨by rfl, ?yR31⟩) hHeld ?_
    case yR31 => (intro w hSw; (try dsimp only at hSw); go_simp <;> with_reducible rfl)
    try simp only [Act.put, List.getElem_toArray, List.getElem_cons_zero, List.getElem_cons_succ, List.setIfInBounds_toArray, List.set_cons_zero, List.set_cons_succ]
    refine wpAnyH_take (i := 2) (oi := _) (v := ?vR32) rfl (by kernel_rfl) (by kernel_rfl) (by kernel_rfl) (fun _ _ _ h => h) (Or.inl ⟨by rfl, ?yR32⟩) hHeld ?_
    case yR32 => (intro w hSw; (try dsimp only at hSw); go_simp <;> with_reducible rfl)
    try simp only [Act.put, List.getElem_toArray, List.getElem_cons_zero, List.getElem_cons_succ, List.setIfInBounds_toArray, List.set_cons_zero, List.set_cons_succ]
    refine wpAnyH_take (i := 3) (oi := _) (v := ?vR33) rfl (by kernel_rfl) (by kernel_rfl) (by kernel_rfl) (fun _ _ _ h => h) (Or.inl ⟨by rfl, ?yR33⟩) hHeld ?_
    case yR33 => (intro w hSw; (try dsimp only at hSw); go_simp <;> with_reducible rfl)
    try simp only [Act.put, List.getElem_toArray, List.getElem_cons_zero, List.getElem_cons_succ, List.setIfInBounds_toArray, List.set_cons_zero, List.set_cons_succ]
    refine wpAnyH_take (i := 4) (oi := _) (v := ?vR34) rfl (by kernel_rfl) (by kernel_rfl) (by kernel_rfl) (fun _ _ _ h => h) (Or.inl ⟨by rfl, ?yR34⟩) hHeld ?_
    case yR34 => (intro w hSw; (try dsimp only at hSw); go_simp <;> with_reducible rfl)
    try simp only [Act.put, List.getElem_toArray, List.getElem_cons_zero, List.getElem_cons_succ, List.setIfInBounds_toArray, List.set_cons_zero, List.set_cons_succ]
    refine wpAnyH_take (i := 5) (oi := _) (v := ?vR35) rfl (by kernel_rfl) (by kernel_rfl) (by kernel_rfl) (fun _ _ _ h => h) (Or.inl ⟨by rfl, ?yR35⟩) hHeld ?_
    case yR35 => (intro w hSw; (try dsimp only at hSw); go_simp <;> with_reducible rfl)
    try simp only [Act.put, List.getElem_toArray, List.getElem_cons_zero, List.getElem_cons_succ, List.setIfInBounds_toArray, List.set_cons_zero, List.set_cons_succ]
    refine wpAnyH_take (i := 6) (oi := _) (v := ?vR36) rfl (by kernel_rfl) (by kernel_rfl) (by kernel_rfl) (fun _ _ _ h => h) (Or.inl ⟨by rfl, ?yR36⟩) hHeld ?_
    case yR36 => (intro w hSw; (try dsimp only at hSw); go_simp <;> with_reducible rfl)
    try simp only [Act.put, List.getElem_toArray, List.getElem_cons_zero, List.getElem_cons_succ, List.setIfInBounds_toArray, List.set_cons_zero, List.set_cons_succ]
    refine wpAnyH_take (i := 7) (oi := _) (v := ?vR37) rfl (by kernel_rfl) (by kernel_rfl) (by kernel_rfl) (fun _ _ _ h => h) (Or.inl ⟨by rfl, ?yR37⟩) hHeld ?_
    case yR37 => (intro w hSw; (try dsimp only at hSw); go_simp <;> with_reducible rfl)
    try simp only [Act.put, List.getElem_toArray, List.getElem_cons_zero, List.getElem_cons_succ, List.setIfInBounds_toArray, List.set_cons_zero, List.set_cons_succ]
    refine wpAnyH_take (i := 8) (oi := _) (v := ?vR38) rfl (by kernel_rfl) (by kernel_rfl) (by kernel_rfl) (fun _ _ _ h => h) (Or.inl ⟨by rfl, ?yR38⟩) hHeld ?_
    case yR38 => (intro w hSw; (try dsimp only at hSw); go_simp <;> with_reducible rfl)
    try simp only [Act.put, List.getElem_toArray, List.getElem_cons_zero, List.getElem_cons_succ, List.setIfInBounds_toArray, List.set_cons_zero, List.set_cons_succ]
    refine wpAnyH_take (i := 9) (oi := _) (v := ?vR39) rfl (by kernel_rfl) (by kernel_rfl) (by kernel_rfl) (fun _ _ _ h => h) (Or.inl ⟨by rfl, ?yR39⟩) hHeld ?_
    case yR39 => (intro w hSw; (try dsimp only at hSw); go_simp <;> with_reducible rfl)
    try simp only [Act.put, List.getElem_toArray, List.getElem_cons_zero, List.getElem_cons_succ, List.setIfInBounds_toArray, List.set_cons_zero, List.set_cons_succ]
    refine wpAnyH_take (i := 10) (oi := _) (v := ?vR310) rfl (by kernel_rfl) (by kernel_rfl) (by kernel_rfl) (fun _ _ _ h => h) (Or.inl ⟨by rfl, ?yR310⟩) hHeld ?_
    case yR310 => (intro w hSw; (try dsimp only at hSw); go_simp <;> with_reducible rfl)
    try simp only [Act.put, List.getElem_toArray, List.getElem_cons_zero, List.getElem_cons_succ, List.setIfInBounds_toArray, List.set_cons_zero, List.set_cons_succ]
    refine wpAnyH_take (i := 11) (oi := _) (v := ?vR311) rfl (by kernel_rfl) (by kernel_rfl) (by kernel_rfl) (fun _ _ _ h => h) (Or.inl ⟨by rfl, ?yR311⟩) hHeld ?_
    case yR311 => (intro w hSw; (try dsimp only at hSw); go_simp <;> with_reducible rfl)
    try simp only [Act.put, List.getElem_toArray, List.getElem_cons_zero, List.getElem_cons_succ, List.setIfInBounds_toArray, List.set_cons_zero, List.set_cons_succ]
    refine wpAnyH_done (by kernel_rfl) ?_ _
    go_wp2_with fail
    go_ret3
    exact ⟨rfl, (Below.refl _ _).drew⟩

theorem cut35_c (s : ByteArray) (w : World) (hs : s.size ≤ 1048576) :
    Calls Tryz.prog 71 #[.string s, .string ⟨#[35]⟩] w fun e w' => e = .returned (.tuple #[.string (cutD s 35).1, .string (cutD s 35).2.1, .bool (cutD s 35).2.2]) ∧ Below w.heap.size w w' := by
  have HI := cutS35_c s w hs
  obtain ⟨⟨x, y, z⟩, hx⟩ : ∃ p, p = cutD s 35 := ⟨_, rfl⟩
  rw [← hx] at HI ⊢
  clear hx
  have HI2 := hidden HI
  clear HI
  go_enter Tryz.func71, Tryz.ntmps71
  go_wp2_with (go_at_call 138; refine HI2.out.mono ?_; rintro e w' ⟨rfl, b1⟩)
  go_ret3
  exact ⟨rfl, b1⟩

end Go.Proofs.YtkkhnldhipfneaaGreatDoor
