/-
  Contracts for the walks, several texts in one: each part says what it proves, and under which conditions.
-/
import Derived.Shelf.Strings.Builder1
import Derived.Shelf.Strings.BuilderF
import Derived.Shelf.Strconv.Itoa0
import Derived.Shelf.Strconv.Itoa1
import Derived.Shelf.LaysM
import Derived.Shelf.Strconv.Itoa2
import Derived.Shelf.Strconv.Itoa3
import Derived.Shelf.Strconv.Clone
import Derived.Shelf.Strings.Search1
import Derived.Shelf.Strings.Search2
import Derived.Shelf.Strings.Cut
import Derived.Shelf.Strings.Shaped
import Derived.Test.YthmilkcghfaecaaDoorProg
import Derived.Laws.BytesArg
import Derived.Sort.Grow
import Derived.Lib.AppendIntMem
import Derived.Lib.OthersKept
import Derived.SliceStrings
import Derived.ChangeArms
import Derived.ChangeOld
import Derived.ChangeAt
import Derived.OpenShut
import Derived.ShutString
import Derived.Test.YthmilkcghfaecaaDoorQ2
import Derived.Test.YthmilkcghfaecaaDoorQ1

/-! What all texts of a list make with another text between them, and what the two functions Join (the program's, by a Builder, and the specification's) answer: just that text; conditions: at most 2 to the 20 texts and letters in the list, and as many in the text between. -/
namespace Go.Proofs.YthmilkcghfaecaaDoor
open Go.RowKit
set_option linter.unusedSimpArgs false
set_option linter.unusedVariables false

def joinUpto (ss : List ByteArray) (t : ByteArray) : Nat → ByteArray
  | 0 => ⟨#[]⟩
  | k + 1 => (if k = 0 then joinUpto ss t k else joinUpto ss t k ++ t) ++ ss.getD k ⟨#[]⟩
def joinS (ss : List ByteArray) (t : ByteArray) : ByteArray := joinUpto ss t ss.length

theorem joinUpto_size (ss : List ByteArray) (t : ByteArray) : ∀ k, k ≤ ss.length → (joinUpto ss t k).size ≤ k * t.size + ((ss.take k).map ByteArray.size).sum
  | 0, _ => by simp [joinUpto]; rfl
  | k + 1, h => by
    have ih := joinUpto_size ss t k (by omega)
    have hs := sum_take_succ ss k (by omega)
    have hg : ss.getD k ⟨#[]⟩ = ss[k] := by simp [List.getD_eq_getElem?_getD, show k < ss.length by omega]
    rw [joinUpto, ByteArray.size_append, hg, hs, Nat.succ_mul]
    split
    · omega
    · rw [ByteArray.size_append]; omega
theorem joinUpto_succ0 (ss : List ByteArray) (t : ByteArray) (h : 0 < ss.length) : joinUpto ss t 1 = joinUpto ss t 0 ++ ss[0] := by
  simp [joinUpto, List.getD_eq_getElem?_getD, h]
theorem joinUpto_succ (ss : List ByteArray) (t : ByteArray) (k : Nat) (hk : ¬ k = 0) (h : k < ss.length) : joinUpto ss t (k + 1) = joinUpto ss t k ++ t ++ ss[k] := by
  rw [joinUpto, if_neg hk]
  simp [List.getD_eq_getElem?_getD, h]

theorem join_bound (ss : List ByteArray) (t : ByteArray) (k : Nat) (hk : k ≤ ss.length) (hb : bulkS ss ≤ 1048576) (ht : t.size ≤ 1048576) : (joinUpto ss t k).size ≤ 1099512676352 := by
  have h1 := joinUpto_size ss t k hk
  have h2 := sum_take_le ss k
  have h3 : k * t.size ≤ 1048576 * 1048576 := Nat.mul_le_mul (by unfold bulkS at hb; omega) ht
  unfold bulkS at hb
  omega

set_option maxHeartbeats 1000000 in
set_option maxRecDepth 100000 in
theorem specJoin_c (v : Value) (ss : List ByteArray) (t : ByteArray) (w : World) (hv : Reads w v (strsV ss)) (hb : bulkS ss ≤ 1048576) (ht : t.size ≤ 1048576) :
    Calls Tryd.prog 34 #[v, .string t] w fun e w' => e = .returned (.string (joinS ss t)) ∧ w = w' := by
  obtain ⟨a, cap, rfl, _, hc⟩ := reads_strs hv
  clear hv
  have hn : ss.length ≤ 1048576 := by unfold bulkS at hb; omega
  rcases hc with rfl | ⟨b, off, rfl, hlt, hc⟩
  · go_enter Tryd.func34, Tryd.ntmps34
    go_wp2
    go_loop [5, 6] (fun vs vi => vs = .string ⟨#[]⟩ ∧ vi = .int .i64 0) (fun _ _ => 0)
    case atStart => exact ⟨rfl, rfl⟩
    case round =>
      obtain ⟨rfl, rfl⟩ := hrel
      go_wp2
      go_ret
      exact ⟨rfl, rfl⟩
  · go_enter Tryd.func34, Tryd.ntmps34
    go_wp2
    go_loop [5, 6] (fun vs vi => ∃ (k : Nat) (s : ByteArray), k ≤ ss.length ∧ vi = .int .i64 (k : Int) ∧ vs = .string s ∧ s.size ≤ 1099512676352 ∧ Hid (s = joinUpto ss t k)) (fun _ vi => ss.length - (intOf vi).toNat)
    case atStart => exact ⟨0, _, Nat.zero_le _, rfl, rfl, by decide, rfl⟩
    case round =>
      obtain ⟨k, s, hk, rfl, rfl, hsz, hs⟩ := hrel
      by_cases hlt' : k < ss.length
      · have hcx := hc k hlt'
        have hbk := join_bound ss t (k + 1) (by omega) hb ht
        have hki : (k : Int) < (ss.length : Int) := by omega
        have hu : ss[k].size ≤ 1048576 := by
          have h1 := sum_take_succ ss k hlt'; have h2 := sum_take_le ss (k + 1); unfold bulkS at hb; omega
        obtain ⟨u, hu'⟩ : ∃ u, u = ss[k] := ⟨_, rfl⟩
        by_cases hk0 : k = 0
        · have e : joinUpto ss t (k + 1) = joinUpto ss t k ++ ss[k] := by subst hk0; exact joinUpto_succ0 ss t hlt'
          rw [← hu'] at hcx hu e
          have HE : Hid (joinUpto ss t (k + 1) = joinUpto ss t k ++ u) := e
          have HK : Hid (k = 0) := hk0
          clear hc e hu' hk0
          go_wp2
          · exfalso; have := HK.out; omega
          go_round
          case rel => exact ⟨k + 1, s ++ u, by omega, by go_num, rfl, (by rw [hs.out, ← HE.out]; exact hbk), (by show _ = _; rw [HE.out, ← hs.out])⟩
          case measure => simp [intOf]; omega
        · have e := joinUpto_succ ss t k hk0 hlt'
          rw [← hu'] at hcx hu e
          have HE : Hid (joinUpto ss t (k + 1) = joinUpto ss t k ++ t ++ u) := e
          have hkp : (0 : Int) < (k : Int) := by omega
          have hst : (s ++ t).size = s.size + t.size := ByteArray.size_append
          clear hc e hu'
          go_wp2
          go_round
          case rel => exact ⟨k + 1, s ++ t ++ u, by omega, by go_num, rfl, (by rw [hs.out, ← HE.out]; exact hbk), (by show _ = _; rw [HE.out, ← hs.out])⟩
          case measure => simp [intOf]; omega
      · have he : k = ss.length := by omega
        subst he
        clear hc
        go_wp2
        go_ret
        exact ⟨by rw [joinS, ← hs.out]; rfl, rfl⟩

theorem strCells_append (a b : ByteArray) : Lib.strCells (a ++ b) = Lib.strCells a ++ Lib.strCells b := by
  simp [Lib.strCells, ByteArray.data_append]

theorem fresh_builder (w : World) : Lib.IsBuilder 48 5 w.heap.size w.heap.size [] (w.alloc (.cells #[.pointer none, .slice none 0 0] 48)) :=
  .inl ⟨Nat.le_refl _, .slice none 0 0, heap_alloc_new w _, World.ownsRow_nil _ _ _ _, by simp [Value.ownBlock]⟩

set_option maxHeartbeats 1000000 in
set_option maxRecDepth 100000 in
theorem implJoin_c (v : Value) (ss : List ByteArray) (t : ByteArray) (w : World) (hv : Reads w v (strsV ss)) (hb : bulkS ss ≤ 1048576) (ht : t.size ≤ 1048576) :
    Calls Tryd.prog 42 #[v, .string t] w fun e w' => e = .returned (.string (joinS ss t)) ∧ Below w.heap.size w w' := by
  obtain ⟨a, cap, rfl, _, hc⟩ := reads_strs hv
  clear hv
  have hn : ss.length ≤ 1048576 := by unfold bulkS at hb; omega
  have hfb := fresh_builder w
  rcases hc with rfl | ⟨b, off, rfl, hlt, hc⟩
  · go_enter Tryd.func42, Tryd.ntmps42
    go_wp2
    go_loopw [10] (fun vi wr => vi = .int .i64 0 ∧ wr = w.alloc (.cells #[.pointer none, .slice none 0 0] 48)) (fun _ _ => 0)
    case atStart => exact ⟨rfl, rfl⟩
    case round =>
      obtain ⟨rfl, hwr⟩ := hrel
      subst hwr
      go_wp2_with (go_at_call 21; refine (Tryd.Builder_String_any w.heap.size w.heap.size [] _ hfb (by simp)).mono ?_; rintro e w1 ⟨rfl, b1⟩)
      go_ret
      exact ⟨rfl, ((Below.refl _ _).alloc (Nat.le_refl _) _).trans b1⟩
  · go_enter Tryd.func42, Tryd.ntmps42
    go_wp2
    go_loopw [10] (fun vi wr => ∃ (k : Nat) (s : ByteArray), k ≤ ss.length ∧ vi = .int .i64 (k : Int) ∧ s.size ≤ 1099512676352 ∧ Hid (s = joinUpto ss t k) ∧ Lib.IsBuilder 48 5 w.heap.size w.heap.size (Lib.strCells s) wr ∧ Below w.heap.size w wr) (fun vi _ => ss.length - (intOf vi).toNat)
    case atStart => exact ⟨0, ⟨#[]⟩, Nat.zero_le _, rfl, by decide, rfl, hfb, (Below.refl _ _).alloc (Nat.le_refl _) _⟩
    case round =>
      obtain ⟨k, s, hk, rfl, hsz, hs, hB, hbr⟩ := hrel
      clear hfb
      by_cases hlt' : k < ss.length
      · have hcx : wr.cell? ⟨b, off + k, none⟩ = some (.string ss[k]) := (hbr.cell (p := ⟨b, off + k, none⟩) hlt).trans (hc k hlt')
        have hbk := join_bound ss t (k + 1) (by omega) hb ht
        have hki : (k : Int) < (ss.length : Int) := by omega
        have hu : ss[k].size ≤ 1048576 := by
          have h1 := sum_take_succ ss k hlt'; have h2 := sum_take_le ss (k + 1); unfold bulkS at hb; omega
        obtain ⟨u, hu'⟩ : ∃ u, u = ss[k] := ⟨_, rfl⟩
        by_cases hk0 : k = 0
        · have e : joinUpto ss t (k + 1) = joinUpto ss t k ++ ss[k] := by subst hk0; exact joinUpto_succ0 ss t hlt'
          rw [← hu'] at hcx hu e
          have HE : Hid (joinUpto ss t (k + 1) = joinUpto ss t k ++ u) := e
          have HK : Hid (k = 0) := hk0
          clear hc e hu' hk0
          go_wp2_with fail
          · exfalso; have := HK.out; omega
          go_at_call 19
          refine (write_c w.heap.size w.heap.size _ u _ hB (by rw [Lib.strCells_length]; omega) hbr.size).mono ?_
          rintro e w1 ⟨rfl, hB1, b1⟩
          go_wp2
          go_roundw
          case rel => exact ⟨k + 1, s ++ u, by omega, by go_num, (by rw [hs.out, ← HE.out]; exact hbk), (by show _ = _; rw [HE.out, ← hs.out]), .inr (by rw [strCells_append]; exact hB1), hbr.trans b1⟩
          case measure => simp [intOf]; omega
        · have e := joinUpto_succ ss t k hk0 hlt'
          rw [← hu'] at hcx hu e
          have HE : Hid (joinUpto ss t (k + 1) = joinUpto ss t k ++ t ++ u) := e
          have hkp : (0 : Int) < (k : Int) := by omega
          have hst : (s ++ t).size = s.size + t.size := ByteArray.size_append
          clear hc e hu'
          go_wp2_with fail
          go_at_call 19
          refine (write_c w.heap.size w.heap.size _ t _ hB (by rw [Lib.strCells_length]; omega) hbr.size).mono ?_
          rintro e w1 ⟨rfl, hB1, b1⟩
          rw [← strCells_append] at hB1
          have b2 := hbr.trans b1
          have hcx1 : w1.cell? ⟨b, off + k, none⟩ = some (.string u) := (b1.cell (p := ⟨b, off + k, none⟩) hlt).trans hcx
          clear hB hcx
          go_wp2_with fail
          go_at_call 19
          refine (write_c w.heap.size w.heap.size _ u _ (.inr hB1) (by rw [Lib.strCells_length]; omega) b2.size).mono ?_
          rintro e w2 ⟨rfl, hB2, b3⟩
          rw [← strCells_append] at hB2
          go_wp2
          go_roundw
          case rel => exact ⟨k + 1, s ++ t ++ u, by omega, by go_num, (by rw [hs.out, ← HE.out]; exact hbk), (by show _ = _; rw [HE.out, ← hs.out]), .inr hB2, b2.trans b3⟩
          case measure => simp [intOf]; omega
      · have he : k = ss.length := by omega
        subst he
        clear hc
        go_wp2_with (go_at_call 21; refine (Tryd.Builder_String_any w.heap.size w.heap.size s.data.toList _ hB hbr.size).mono ?_; rintro e w1 ⟨rfl, b1⟩)
        go_ret
        exact ⟨by rw [joinS, ← hs.out]; rfl, hbr.trans b1⟩
end Go.Proofs.YthmilkcghfaecaaDoor

/-! The contract of the library for the digits of a number, taken over from the library of contracts at the numbers of this program; conditions as it says. -/
namespace Go.Proofs
open Go.Shelf
def Tryd.laysM171_ren : Go.Shelf.Ren := ⟨fun | 171 => 63 | 243 => 76 | 246 => 81 | 283 => 87 | 284 => 88 | 285 => 89 | 286 => 90 | 129 => 94 | 317 => 93 | 318 => 95 | 319 => 96 | 320 => 97 | 337 => 98 | 338 => 99 | n => n, fun | 3 => 3 | 9 => 9 | 2 => 2 | 4 => 4 | 171 => 127 | 0 => 0 | 53 => 128 | 37 => 46 | 5 => 5 | 173 => 131 | 212 => 137 | 51 => 133 | 20 => 20 | 213 => 138 | 46 => 125 | 232 => 141 | 233 => 142 | n => n, fun | 17 => 2 | 18 => 3 | 19 => 4 | n => n⟩
theorem Tryd.laysM171 : Go.Proofs.LaysM.n171 Tryd.prog Tryd.laysM171_ren := {
  mixed := by kernel_rfl
  f129 := Tryd.func94.trans (congrArg some (by kernel_rfl))
  f171 := Tryd.func63.trans (congrArg some (by kernel_rfl))
  f243 := Tryd.func76.trans (congrArg some (by kernel_rfl))
  f246 := Tryd.func81.trans (congrArg some (by kernel_rfl))
  f283 := Tryd.func87.trans (congrArg some (by kernel_rfl))
  f284 := Tryd.func88.trans (congrArg some (by kernel_rfl))
  f285 := Tryd.func89.trans (congrArg some (by kernel_rfl))
  f286 := Tryd.func90.trans (congrArg some (by kernel_rfl))
  f317 := Tryd.func93.trans (congrArg some (by kernel_rfl))
  f318 := Tryd.func95.trans (congrArg some (by kernel_rfl))
  f319 := Tryd.func96.trans (congrArg some (by kernel_rfl))
  f320 := Tryd.func97.trans (congrArg some (by kernel_rfl))
  f337 := Tryd.func98.trans (congrArg some (by kernel_rfl))
  f338 := Tryd.func99.trans (congrArg some (by kernel_rfl))
  t0 := Tryd.underlying0
  a0 := Tryd.isAgg0
  z0 := Tryd.sizeOf0
  v0 := Tryd.zeroValue0
  t2 := Tryd.underlying2
  a2 := Tryd.isAgg2
  z2 := Tryd.sizeOf2
  v2 := Tryd.zeroValue2
  t3 := Tryd.underlying3
  a3 := Tryd.isAgg3
  z3 := Tryd.sizeOf3
  v3 := Tryd.zeroValue3
  t4 := Tryd.underlying4
  a4 := Tryd.isAgg4
  z4 := Tryd.sizeOf4
  v4 := Tryd.zeroValue4
  t5 := Tryd.underlying5
  a5 := Tryd.isAgg5
  z5 := Tryd.sizeOf5
  v5 := Tryd.zeroValue5
  t9 := Tryd.underlying9
  a9 := Tryd.isAgg9
  z9 := Tryd.sizeOf9
  v9 := Tryd.zeroValue9
  t20 := Tryd.underlying20
  a20 := Tryd.isAgg20
  z20 := Tryd.sizeOf20
  v20 := Tryd.zeroValue20
  t37 := Tryd.underlying46
  a37 := Tryd.isAgg46
  z37 := Tryd.sizeOf46
  v37 := Tryd.zeroValue46
  t46 := Tryd.underlying125
  a46 := Tryd.isAgg125
  z46 := Tryd.sizeOf125
  v46 := Tryd.zeroValue125
  t51 := Tryd.underlying133
  a51 := Tryd.isAgg133
  z51 := Tryd.sizeOf133
  v51 := Tryd.zeroValue133
  t53 := Tryd.underlying128
  a53 := Tryd.isAgg128
  z53 := Tryd.sizeOf128
  v53 := Tryd.zeroValue128
  t171 := Tryd.underlying127
  a171 := Tryd.isAgg127
  z171 := Tryd.sizeOf127
  v171 := Tryd.zeroValue127
  t173 := Tryd.underlying131
  a173 := Tryd.isAgg131
  z173 := Tryd.sizeOf131
  v173 := Tryd.zeroValue131
  t212 := Tryd.underlying137
  a212 := Tryd.isAgg137
  z212 := Tryd.sizeOf137
  v212 := Tryd.zeroValue137
  t213 := Tryd.underlying138
  a213 := Tryd.isAgg138
  z213 := Tryd.sizeOf138
  t232 := Tryd.underlying141
  a232 := Tryd.isAgg141
  z232 := Tryd.sizeOf141
  v232 := Tryd.zeroValue141
  t233 := Tryd.underlying142
  a233 := Tryd.isAgg142
  z233 := Tryd.sizeOf142
  v233 := Tryd.zeroValue142
  g17 := by kernel_rfl
  g18 := by kernel_rfl
  g19 := by kernel_rfl
  i0 := by kernel_rfl
  i2 := by kernel_rfl
  i3 := by kernel_rfl
  i4 := by kernel_rfl
  i5 := by kernel_rfl
  i9 := by kernel_rfl
  i20 := by kernel_rfl
  i37 := by kernel_rfl
  i46 := by kernel_rfl
  i51 := by kernel_rfl
  i53 := by kernel_rfl
  i171 := by kernel_rfl
  i173 := by kernel_rfl
  i212 := by kernel_rfl
  i232 := by kernel_rfl
  i233 := by kernel_rfl
  m17 := by kernel_rfl
  m18 := by kernel_rfl
  m19 := by kernel_rfl }
open Go.RowKit Go.Sort Go.Lib in
theorem Tryd.strconv_Itoa (n : Int) (h0 : -9223372036854775808 ≤ n) (h1 : n ≤ 9223372036854775807) (w : World) (htab : Lib.TabIs Tryd.prog w "internal/strconv.uint64pow10" .u64 Lib.pow10Tab) :
    Calls Tryd.prog 63 #[.int .i64 n] w fun e w' => e = .returned (.string ⟨(Lib.itoa n).toArray⟩) ∧ ∃ k os, w' = grow (w.drewN k) os := Any.strconv_Itoa Tryd.laysM171 n h0 h1 w htab
end Go.Proofs

/-! What the two functions NumText (the program's, by the library's Itoa, and the specification's) answer: the digits of the number, of 0 where it is below 0; condition: the library's table of powers of ten lies in memory as its initialiser lays it. -/
namespace Go.Proofs.YthmilkcghfaecaaDoor
open Go.RowKit
set_option linter.unusedSimpArgs false
set_option linter.unusedVariables false

def numStr (n : Nat) : ByteArray := ⟨(Lib.decDigits n).toArray⟩

theorem conv_digit {w : World} (x : Int) : (convert 46 9 (.slice (some ⟨w.heap.size, 0, none⟩) 1 1)).run Tryd.prog (w.alloc (.cells #[.int .u8 x] 5)) = .ok (.string (strOfNums [x])) (w.alloc (.cells #[.int .u8 x] 5)) := by
  refine run_convert_bytes_arg _ 46 5 Tryd.underlying46 Tryd.underlying5 _ 0 1 1 [x] rfl (fun i hi => ?_) 9 Tryd.underlying9
  have : i = 0 := by omega
  subst this
  simp

/-- What is told already, and what is left. -/
def DigitsLeft (N m : Nat) (s : ByteArray) : Prop := Lib.decDigits N = (if m < 10 then [] else Lib.decDigits (m / 10)) ++ s.data.toList

theorem digit_list (m : Nat) : (strOfNums [48 + (m : Int) % 10]).data.toList = [UInt8.ofNat (48 + m % 10)] := by
  rw [strOfNums_data]
  show [UInt8.ofNat (48 + (m : Int) % 10).toNat] = _
  have e : (48 + (m : Int) % 10).toNat = 48 + m % 10 := by omega
  rw [e]
theorem digits_start (N : Nat) : DigitsLeft N N (strOfNums [48 + (N : Int) % 10]) := by
  unfold DigitsLeft
  rw [digit_list]
  by_cases h : N < 10
  · rw [if_pos h, Lib.decDigits, dif_pos h, Nat.mod_eq_of_lt h]; rfl
  · rw [if_neg h, Lib.decDigits, dif_neg h]
theorem digits_step {N m : Nat} {s : ByteArray} (hm : ¬ m < 10) (h : DigitsLeft N m s) : DigitsLeft N (m / 10) (strOfNums [48 + ((m / 10 : Nat) : Int) % 10] ++ s) := by
  unfold DigitsLeft at *
  rw [h, if_neg hm, ByteArray.data_append, Array.toList_append, digit_list, ← List.append_assoc]
  congr 1
  by_cases h2 : m / 10 < 10
  · rw [if_pos h2, Lib.decDigits, dif_pos h2, Nat.mod_eq_of_lt h2]; rfl
  · rw [if_neg h2]
    conv => lhs; rw [Lib.decDigits, dif_neg h2]
theorem digits_end {N m : Nat} {s : ByteArray} (hm : m < 10) (h : DigitsLeft N m s) : s = numStr N := by
  unfold DigitsLeft at h
  rw [if_pos hm, List.nil_append] at h
  apply ByteArray.ext
  apply Array.toList_inj.1
  rw [← h, numStr]

set_option maxHeartbeats 1000000 in
set_option maxRecDepth 100000 in
theorem specNumText_pos (N : Nat) (w : World) (hN : N ≤ 9223372036854775807) :
    Calls Tryd.prog 33 #[.int .i64 (N : Int)] w fun e w' => e = .returned (.string (numStr N)) ∧ Below w.heap.size w w' := by
  have h0 : ¬ ((N : Int) < 0) := by omega
  have hcv0 := conv_digit (w := w) (48 + (N : Int) % 10)
  go_enter Tryd.func33, Tryd.ntmps33
  go_wp2
  go_loopw [0, 3] (fun vm vs wr => ∃ (m : Nat) (s : ByteArray), vm = .int .i64 (m : Int) ∧ vs = .string s ∧ m ≤ N ∧ s.size + m ≤ N + 1 ∧ Hid (DigitsLeft N m s) ∧ Below w.heap.size w wr) (fun vm _ _ => (intOf vm).toNat)
  case atStart => exact ⟨N, _, rfl, rfl, Nat.le_refl _, (by rw [strOfNums_size]; simp; omega), digits_start N, (Below.refl _ _).alloc (Nat.le_refl _) _⟩
  case round =>
    obtain ⟨m, s, rfl, rfl, hmN, hsz, hd, hbr⟩ := hrel
    clear hcv0
    by_cases hm : m < 10
    · have hm' : ¬ (9 : Int) < (m : Int) := by omega
      have e := digits_end hm hd.out
      go_wp2
      go_ret
      exact ⟨by rw [← e]; rfl, hbr⟩
    · have hm' : (9 : Int) < (m : Int) := by omega
      have hcv := conv_digit (w := wr) (48 + ((m / 10 : Nat) : Int) % 10)
      have ec : ((m / 10 : Nat) : Int) = (m : Int) / 10 := by omega
      rw [ec] at hcv
      have h1s : (strOfNums [48 + (m : Int) / 10 % 10]).size = 1 := strOfNums_size _
      have HD : Hid (DigitsLeft N (m / 10) (strOfNums [48 + (m : Int) / 10 % 10] ++ s)) := by
        have := digits_step hm hd.out
        rw [ec] at this
        exact this
      clear hd ec
      go_wp2
      go_roundw
      case rel => exact ⟨m / 10, _, by go_num, rfl, by omega, (by rw [ByteArray.size_append, h1s]; omega), HD, hbr.alloc hbr.size _⟩
      case measure => simp [intOf]; omega

set_option maxHeartbeats 1000000 in
set_option maxRecDepth 100000 in
theorem specNumText_neg (n : Int) (w : World) (hn : n < 0) :
    Calls Tryd.prog 33 #[.int .i64 n] w fun e w' => e = .returned (.string (numStr 0)) ∧ Below w.heap.size w w' := by
  have hcv0 := conv_digit (w := w) 48
  have HE : Hid (strOfNums [48] = numStr 0) := digits_end (m := 0) (by decide) (digits_start 0)
  go_enter Tryd.func33, Tryd.ntmps33
  go_wp2
  go_loopw [0, 3] (fun vm vs wr => vm = .int .i64 0 ∧ vs = .string (strOfNums [48]) ∧ wr = w.alloc (.cells #[.int .u8 48] 5)) (fun _ _ _ => 0)
  case atStart => exact ⟨rfl, rfl, rfl⟩
  case round =>
    obtain ⟨rfl, rfl, hwr⟩ := hrel
    subst hwr
    go_wp2
    go_ret
    exact ⟨by rw [← HE.out]; rfl, (Below.refl _ _).alloc (Nat.le_refl _) _⟩

theorem specNumText_c (n : Int) (w : World) (hn : n ≤ 9223372036854775807) :
    Calls Tryd.prog 33 #[.int .i64 n] w fun e w' => e = .returned (.string (numStr n.toNat)) ∧ Below w.heap.size w w' := by
  by_cases h : n < 0
  · rw [show n.toNat = 0 by omega]; exact specNumText_neg n w h
  · obtain ⟨N, rfl⟩ := Int.eq_ofNat_of_zero_le (show 0 ≤ n by omega)
    exact specNumText_pos N w (by omega)

theorem tabIs_below {w w' : World} {n : String} {k : IntKind} {zs : List Int} (b : Below w.heap.size w w') (h : Lib.TabIs Tryd.prog w n k zs) : Lib.TabIs Tryd.prog w' n k zs := Lib.tabBelow_of_tabIs h w' b

theorem below_grow (w : World) (k : Nat) (os : Array Obj) : Below w.heap.size w (Sort.grow (w.drewN k) os) :=
  ⟨rfl, rfl, rfl, by rw [Sort.size_grow]; exact Nat.le_add_right _ _, fun j hj => Sort.heap_grow_old _ _ hj⟩

set_option maxHeartbeats 1000000 in
set_option maxRecDepth 100000 in
theorem implNumText_c (n : Int) (w : World) (h0 : -9223372036854775808 ≤ n) (h1 : n ≤ 9223372036854775807) (htab : Lib.TabIs Tryd.prog w "internal/strconv.uint64pow10" .u64 Lib.pow10Tab) :
    Calls Tryd.prog 43 #[.int .i64 n] w fun e w' => e = .returned (.string (numStr n.toNat)) ∧ Below w.heap.size w w' := by
  have hc := Tryd.strconv_Itoa (max n 0) (by omega) (by omega) w htab
  have e : Lib.itoa (max n 0) = Lib.decDigits n.toNat := by
    rw [Lib.itoa, if_neg (by omega), show (max n 0).toNat = n.toNat by omega]
  rw [e] at hc
  clear htab e
  go_enter Tryd.func43, Tryd.ntmps43
  go_wp2_with (go_at_call 63; refine hc.mono ?_; rintro e w1 ⟨rfl, k, os, rfl⟩)
  go_ret
  exact ⟨rfl, below_grow w k os⟩
end Go.Proofs.YthmilkcghfaecaaDoor

/-! What VerText answers, the program's and the specification's: the same text; conditions: the list of texts lies in memory as told, and holds no more than 2 to the 20; the library's table of powers of ten lies in memory as its initialiser lays it. -/
namespace Go.Proofs.YthmilkcghfaecaaDoor
open Go.RowKit
set_option linter.unusedSimpArgs false
set_option linter.unusedVariables false

theorem numStr_four (n : Nat) (h : n ≤ 9999) : (numStr n).size ≤ 4 := by
  have e : (numStr n).size = (Lib.decDigits n).length := by simp [numStr, ByteArray.size]
  rw [e]
  have hl : ∀ m, ¬ m < 10 → (Lib.decDigits m).length = (Lib.decDigits (m / 10)).length + 1 := fun m hm => by rw [Lib.decDigits, dif_neg hm]; simp
  have h0 : ∀ m, m < 10 → (Lib.decDigits m).length = 1 := fun m hm => by rw [Lib.decDigits, dif_pos hm]; simp
  by_cases h1 : n < 10
  · rw [h0 n h1]; omega
  · rw [hl n h1]
    by_cases h2 : n / 10 < 10
    · rw [h0 _ h2]; omega
    · rw [hl _ h2]
      by_cases h3 : n / 10 / 10 < 10
      · rw [h0 _ h3]; omega
      · rw [hl _ h3, h0 _ (by omega)]; omega

def coreT (a b c : Int) : ByteArray := numStr a.toNat ++ ⟨#[46]⟩ ++ numStr b.toNat ++ ⟨#[46]⟩ ++ numStr c.toNat
def verT (a b c : Int) (ps : List ByteArray) : ByteArray := if verB a b c ps then (if 0 < ps.length then coreT a b c ++ ⟨#[45]⟩ ++ joinS ps ⟨#[46]⟩ else coreT a b c) else ⟨#[]⟩

theorem join_three (x y z t : ByteArray) : joinS [x, y, z] t = x ++ t ++ y ++ t ++ z := by
  have e : joinS [x, y, z] t = ((⟨#[]⟩ ++ x) ++ t ++ y) ++ t ++ z := rfl
  rw [e]
  congr 4

theorem reads_three {w w1 : World} (x y z : ByteArray) (hw : ∀ b, b < (w.alloc (.cells #[.string x, .string y, .string z] 9)).heap.size → w1.heap[b]? = (w.alloc (.cells #[.string x, .string y, .string z] 9)).heap[b]?) (hs : (w.alloc (.cells #[.string x, .string y, .string z] 9)).heap.size ≤ w1.heap.size) : Reads w1 (.slice (some ⟨w.heap.size, 0, none⟩) 3 3) (strsV [x, y, z]) := by
  refine ⟨some ⟨w.heap.size, 0, none⟩, 3, rfl, Nat.le_refl _, .inr ⟨w.heap.size, 0, rfl, Nat.lt_of_lt_of_le (by simp) hs, fun k hk => ?_⟩⟩
  have e : w1.heap[w.heap.size]? = some (.cells #[.string x, .string y, .string z] 9 (0, 0)) := (hw _ (by simp)).trans (vheap_new _ _)
  rw [vblk_cell e]
  match k, hk with
  | 0, _ => rfl
  | 1, _ => rfl
  | 2, _ => rfl

theorem in_range {a : Int} (h : inB a 0 9999 = true) : 0 ≤ a ∧ a ≤ 9999 := by simpa [inB] using h
theorem verB_nums {a b c : Int} {ps : List ByteArray} (h : verB a b c ps = true) : inB a 0 9999 = true ∧ inB b 0 9999 = true ∧ inB c 0 9999 = true := by
  simp only [verB, Bool.and_eq_true] at h
  exact ⟨h.1.1.1.2, h.1.1.2, h.1.2⟩

set_option maxHeartbeats 2000000 in
set_option maxRecDepth 100000 in
theorem implVerText_c (a b c : Int) (u : Value) (ps : List ByteArray) (w : World) (hu : Reads w u (strsV ps)) (hb : bulkS ps ≤ 1048576) (htab : Lib.TabIs Tryd.prog w "internal/strconv.uint64pow10" .u64 Lib.pow10Tab) :
    Calls Tryd.prog 20 #[.agg #[.int .i64 a, .int .i64 b, .int .i64 c, u]] w fun e w' => e = .returned (.string (verT a b c ps)) ∧ Below w.heap.size w w' := by
  have hbx : ∀ o, Below w.heap.size w (w.alloc o) := fun o => (Below.refl _ _).alloc (Nat.le_refl _) _
  have HV : Hid (∀ o, Calls Tryd.prog 41 #[.agg #[.int .i64 a, .int .i64 b, .int .i64 c, u]] (w.alloc o) fun e w' => e = .returned (.bool (verB a b c ps)) ∧ Below (w.alloc o).heap.size (w.alloc o) w') := fun o => implVerOk_c a b c u ps _ (hu.below (hbx o)) hb
  have hn : ps.length ≤ 1048576 := by unfold bulkS at hb; omega
  have HJ : Hid (∀ w1, Below w.heap.size w w1 → Calls Tryd.prog 42 #[u, .string ⟨#[46]⟩] w1 fun e w' => e = .returned (.string (joinS ps ⟨#[46]⟩)) ∧ Below w1.heap.size w1 w') := fun w1 h => implJoin_c u ps ⟨#[46]⟩ w1 (hu.below h) hb (by decide)
  obtain ⟨q, cap, hq, _, _⟩ := reads_strs hu
  subst hq
  clear hu
  cases hv : verB a b c ps with
  | false =>
    have e : verT a b c ps = ⟨#[]⟩ := by rw [verT, hv]; rfl
    rw [e]
    rw [hv] at HV
    go_enter Tryd.func20, Tryd.ntmps20
    go_wp2_with (go_at_call 41; refine (HV.out _).mono ?_; rintro e w1 ⟨rfl, b1⟩)
    go_ret
    exact ⟨rfl, (hbx _).trans (b1.mono (by simp))⟩
  | true =>
    rw [hv] at HV
    obtain ⟨ha, hb', hc⟩ := verB_nums hv
    obtain ⟨ha0, ha1⟩ := in_range ha
    obtain ⟨hb0, hb1⟩ := in_range hb'
    obtain ⟨hc0, hc1⟩ := in_range hc
    have HT : Hid (verT a b c ps = if 0 < ps.length then coreT a b c ++ ⟨#[45]⟩ ++ joinS ps ⟨#[46]⟩ else coreT a b c) := by show _ = _; rw [verT, hv]; rfl
    obtain ⟨x, hx⟩ : ∃ x, x = numStr a.toNat := ⟨_, rfl⟩
    obtain ⟨y, hy⟩ : ∃ y, y = numStr b.toNat := ⟨_, rfl⟩
    obtain ⟨z, hz⟩ : ∃ z, z = numStr c.toNat := ⟨_, rfl⟩
    have hxs : x.size ≤ 4 := by rw [hx]; exact numStr_four _ (by omega)
    have hys : y.size ≤ 4 := by rw [hy]; exact numStr_four _ (by omega)
    have hzs : z.size ≤ 4 := by rw [hz]; exact numStr_four _ (by omega)
    have NA : Hid (∀ w1, Below w.heap.size w w1 → Calls Tryd.prog 43 #[.int .i64 a] w1 fun e w' => e = .returned (.string x) ∧ Below w1.heap.size w1 w') := fun w1 h => by rw [hx]; exact implNumText_c a w1 (by omega) (by omega) (tabIs_below h htab)
    have NB : Hid (∀ w1, Below w.heap.size w w1 → Calls Tryd.prog 43 #[.int .i64 b] w1 fun e w' => e = .returned (.string y) ∧ Below w1.heap.size w1 w') := fun w1 h => by rw [hy]; exact implNumText_c b w1 (by omega) (by omega) (tabIs_below h htab)
    have NC : Hid (∀ w1, Below w.heap.size w w1 → Calls Tryd.prog 43 #[.int .i64 c] w1 fun e w' => e = .returned (.string z) ∧ Below w1.heap.size w1 w') := fun w1 h => by rw [hz]; exact implNumText_c c w1 (by omega) (by omega) (tabIs_below h htab)
    obtain ⟨cT, hcT⟩ : ∃ cT, cT = coreT a b c := ⟨_, rfl⟩
    have hcs : cT.size ≤ 14 := by rw [hcT, coreT, ← hx, ← hy, ← hz]; simp only [ByteArray.size_append]; have : (⟨#[46]⟩ : ByteArray).size = 1 := rfl; omega
    have HJ3 : Hid (∀ (w1 w2 : World), (∀ b, b < (w1.alloc (.cells #[.string x, .string y, .string z] 9)).heap.size → w2.heap[b]? = (w1.alloc (.cells #[.string x, .string y, .string z] 9)).heap[b]?) → (w1.alloc (.cells #[.string x, .string y, .string z] 9)).heap.size ≤ w2.heap.size → Calls Tryd.prog 42 #[.slice (some ⟨w1.heap.size, 0, none⟩) 3 3, .string ⟨#[46]⟩] w2 fun e w' => e = .returned (.string cT) ∧ Below w2.heap.size w2 w') := fun w1 w2 h1 h2 => by
      have := implJoin_c (.slice (some ⟨w1.heap.size, 0, none⟩) 3 3) [x, y, z] ⟨#[46]⟩ w2 (reads_three x y z h1 h2) (by simp [bulkS]; omega) (by decide)
      rw [join_three] at this
      rw [hcT, coreT, ← hx, ← hy, ← hz]
      exact this
    rw [← hcT] at HT
    have hJs : (joinS ps ⟨#[46]⟩).size ≤ 1099512676352 := join_bound ps ⟨#[46]⟩ ps.length (Nat.le_refl _) hb (by decide)
    obtain ⟨J, hJ⟩ : ∃ J, J = joinS ps ⟨#[46]⟩ := ⟨_, rfl⟩
    rw [← hJ] at HT HJ hJs
    clear hx hy hz hcT hJ ha hb' hc htab hv
    go_enter Tryd.func20, Tryd.ntmps20
    go_wp2_with fail
    go_at_call 41
    refine (HV.out _).mono ?_
    rintro e w1 ⟨rfl, b1⟩
    obtain ⟨x0, x1, x2, x3⟩ := box4 b1
    have F1 := (four_new w 40 (.int .i64 a) (.int .i64 b) (.int .i64 c) (.slice q ps.length cap)).keep b1
    have hw1 := (hbx _).trans (b1.mono (by simp))
    have NA' := NA.out w1.drew hw1.drew
    clear HV b1
    go_wp2_with fail
    go_region_held (fun w' => w'.cell? ⟨w.heap.size, 0, none⟩ = some (.int .i64 a) ∧ w'.cell? ⟨w.heap.size, 1, none⟩ = some (.int .i64 b) ∧ w'.cell? ⟨w.heap.size, 2, none⟩ = some (.int .i64 c) ∧ w'.cell? ⟨w.heap.size, 3, none⟩ = some (.slice q ps.length cap)) (go_keep) (first
      | (go_at_call 43
         refine NA'.mono ?_
         rintro e w2 ⟨rfl, b2⟩
         have F2 := F1.drew.keep b2
         have hw2 := hw1.drew.trans (b2.mono hw1.size)
         have NB' := NB.out w2 hw2
         obtain ⟨xx0, xx1, xx2, xx3⟩ := F2.cells
         clear NA' b2 F1)
      | (go_at_call 43
         refine NB'.mono ?_
         rintro e w3 ⟨rfl, b3⟩
         have F3 := F2.keep b3
         have hw3 := hw2.trans (b3.mono hw2.size)
         have NC' := NC.out w3 hw3
         obtain ⟨xy0, xy1, xy2, xy3⟩ := F3.cells
         clear NB' b3 F2)
      | (go_at_call 43
         refine NC'.mono ?_
         rintro e w4 ⟨rfl, b4⟩
         have F4 := F3.keep b4
         have hw4 := hw3.trans (b4.mono hw3.size)
         have la4 := F4.lt
         obtain ⟨xz0, xz1, xz2, xz3⟩ := F4.cells
         clear NC' b4 F3)
      | (go_at_call 42
         refine (HJ3.out w4 _ (fun _ _ => rfl) (Nat.le_refl _)).mono ?_
         rintro e w5 ⟨rfl, b5⟩
         have F5 := (four_old F4 (.cells #[.string x, .string y, .string z] 9)).keep b5
         have hw5 := (hw4.alloc hw4.size (.cells #[.string x, .string y, .string z] 9)).trans (b5.mono (hw4.alloc hw4.size _).size)
         obtain ⟨xw0, xw1, xw2, xw3⟩ := F5.cells
         clear b5 F4))
    by_cases hp : 0 < ps.length
    · have hp' : (0 : Int) < (ps.length : Int) := by omega
      go_wp2_with (go_at_call 42; refine (HJ.out _ hw5).mono ?_; rintro e w6 ⟨rfl, b6⟩)
      go_ret
      refine ⟨?_, hw5.trans (b6.mono hw5.size)⟩
      rw [HT.out, if_pos hp, ByteArray.append_assoc]
      rfl
    · have hp' : ¬ (0 : Int) < (ps.length : Int) := by omega
      go_wp2_with fail
      go_ret
      exact ⟨by rw [HT.out, if_neg hp]; rfl, hw5⟩
end Go.Proofs.YthmilkcghfaecaaDoor

/-! What the specification's VerText answers: a contract for the walks; conditions: the list of texts lies in memory as told, and holds no more than 2 to the 20. -/
namespace Go.Proofs.YthmilkcghfaecaaDoor
open Go.RowKit
set_option linter.unusedSimpArgs false
set_option linter.unusedVariables false

set_option maxHeartbeats 2000000 in
set_option maxRecDepth 100000 in
theorem specVerText_c (a b c : Int) (u : Value) (ps : List ByteArray) (w : World) (hu : Reads w u (strsV ps)) (hb : bulkS ps ≤ 1048576) :
    Calls Tryd.prog 16 #[.agg #[.int .i64 a, .int .i64 b, .int .i64 c, u]] w fun e w' => e = .returned (.string (verT a b c ps)) ∧ Below w.heap.size w w' := by
  have hbx : ∀ o, Below w.heap.size w (w.alloc o) := fun o => (Below.refl _ _).alloc (Nat.le_refl _) _
  have HV : Hid (∀ o, Calls Tryd.prog 32 #[.agg #[.int .i64 a, .int .i64 b, .int .i64 c, u]] (w.alloc o) fun e w' => e = .returned (.bool (verB a b c ps)) ∧ Below (w.alloc o).heap.size (w.alloc o) w') := fun o => specVerOk_c a b c u ps _ (hu.below (hbx o)) hb
  have hn : ps.length ≤ 1048576 := by unfold bulkS at hb; omega
  have HJ : Hid (∀ w1, Below w.heap.size w w1 → Calls Tryd.prog 34 #[u, .string ⟨#[46]⟩] w1 fun e w' => e = .returned (.string (joinS ps ⟨#[46]⟩)) ∧ w1 = w') := fun w1 h => specJoin_c u ps ⟨#[46]⟩ w1 (hu.below h) hb (by decide)
  obtain ⟨q, cap, hq, _, _⟩ := reads_strs hu
  subst hq
  clear hu
  cases hv : verB a b c ps with
  | false =>
    have e : verT a b c ps = ⟨#[]⟩ := by rw [verT, hv]; rfl
    rw [e]
    rw [hv] at HV
    go_enter Tryd.func16, Tryd.ntmps16
    go_wp2_with (go_at_call 32; refine (HV.out _).mono ?_; rintro e w1 ⟨rfl, b1⟩)
    go_ret
    exact ⟨rfl, (hbx _).trans (b1.mono (by simp))⟩
  | true =>
    rw [hv] at HV
    obtain ⟨ha, hb', hc⟩ := verB_nums hv
    obtain ⟨ha0, ha1⟩ := in_range ha
    obtain ⟨hb0, hb1⟩ := in_range hb'
    obtain ⟨hc0, hc1⟩ := in_range hc
    have HT : Hid (verT a b c ps = if 0 < ps.length then coreT a b c ++ ⟨#[45]⟩ ++ joinS ps ⟨#[46]⟩ else coreT a b c) := by show _ = _; rw [verT, hv]; rfl
    obtain ⟨x, hx⟩ : ∃ x, x = numStr a.toNat := ⟨_, rfl⟩
    obtain ⟨y, hy⟩ : ∃ y, y = numStr b.toNat := ⟨_, rfl⟩
    obtain ⟨z, hz⟩ : ∃ z, z = numStr c.toNat := ⟨_, rfl⟩
    have hxs : x.size ≤ 4 := by rw [hx]; exact numStr_four _ (by omega)
    have hys : y.size ≤ 4 := by rw [hy]; exact numStr_four _ (by omega)
    have hzs : z.size ≤ 4 := by rw [hz]; exact numStr_four _ (by omega)
    have NA : Hid (∀ w1, Calls Tryd.prog 33 #[.int .i64 a] w1 fun e w' => e = .returned (.string x) ∧ Below w1.heap.size w1 w') := fun w1 => by rw [hx]; exact specNumText_c a w1 (by omega)
    have NB : Hid (∀ w1, Calls Tryd.prog 33 #[.int .i64 b] w1 fun e w' => e = .returned (.string y) ∧ Below w1.heap.size w1 w') := fun w1 => by rw [hy]; exact specNumText_c b w1 (by omega)
    have NC : Hid (∀ w1, Calls Tryd.prog 33 #[.int .i64 c] w1 fun e w' => e = .returned (.string z) ∧ Below w1.heap.size w1 w') := fun w1 => by rw [hz]; exact specNumText_c c w1 (by omega)
    have HCT : Hid (coreT a b c = x ++ ⟨#[46]⟩ ++ y ++ ⟨#[46]⟩ ++ z) := by show _ = _; rw [coreT, ← hx, ← hy, ← hz]
    have hJs : (joinS ps ⟨#[46]⟩).size ≤ 1099512676352 := join_bound ps ⟨#[46]⟩ ps.length (Nat.le_refl _) hb (by decide)
    obtain ⟨J, hJ⟩ : ∃ J, J = joinS ps ⟨#[46]⟩ := ⟨_, rfl⟩
    rw [← hJ] at HT HJ hJs
    clear hx hy hz hJ ha hb' hc hv
    go_enter Tryd.func16, Tryd.ntmps16
    go_wp2_with fail
    go_at_call 32
    refine (HV.out _).mono ?_
    rintro e w1 ⟨rfl, b1⟩
    obtain ⟨x0, x1, x2, x3⟩ := box4 b1
    have F1 := (four_new w 40 (.int .i64 a) (.int .i64 b) (.int .i64 c) (.slice q ps.length cap)).keep b1
    have hw1 := (hbx _).trans (b1.mono (by simp))
    have NA' := NA.out w1.drew
    clear HV b1
    go_wp2_with fail
    go_region_held (fun w' => w'.cell? ⟨w.heap.size, 0, none⟩ = some (.int .i64 a) ∧ w'.cell? ⟨w.heap.size, 1, none⟩ = some (.int .i64 b) ∧ w'.cell? ⟨w.heap.size, 2, none⟩ = some (.int .i64 c) ∧ w'.cell? ⟨w.heap.size, 3, none⟩ = some (.slice q ps.length cap)) (go_keep) (first
      | (go_at_call 33
         refine NA'.mono ?_
         rintro e w2 ⟨rfl, b2⟩
         have F2 := F1.drew.keep b2
         have hw2 := hw1.drew.trans (b2.mono hw1.size)
         have NB' := NB.out w2
         obtain ⟨xx0, xx1, xx2, xx3⟩ := F2.cells
         clear NA' b2 F1)
      | (go_at_call 33
         refine NB'.mono ?_
         rintro e w3 ⟨rfl, b3⟩
         have F3 := F2.keep b3
         have hw3 := hw2.trans (b3.mono hw2.size)
         have NC' := NC.out w3
         obtain ⟨xy0, xy1, xy2, xy3⟩ := F3.cells
         clear NB' b3 F2)
      | (go_at_call 33
         refine NC'.mono ?_
         rintro e w4 ⟨rfl, b4⟩
         have F4 := F3.keep b4
         have hw4 := hw3.trans (b4.mono hw3.size)
         have la4 := F4.lt
         obtain ⟨xz0, xz1, xz2, xz3⟩ := F4.cells
         clear NC' b4 F3))
    all_goals (
      by_cases hp : 0 < ps.length
      · have hp' : (0 : Int) < (ps.length : Int) := by omega
        go_wp2_with (go_at_call 34; refine (HJ.out _ hw4).mono ?_; rintro e w6 ⟨rfl, rfl⟩)
        go_ret
        exact ⟨by rw [HT.out, if_pos hp, HCT.out]; rfl, hw4⟩
      · have hp' : ¬ (0 : Int) < (ps.length : Int) := by omega
        go_wp2_with fail
        go_ret
        exact ⟨by rw [HT.out, if_neg hp, HCT.out]; rfl, hw4⟩)
end Go.Proofs.YthmilkcghfaecaaDoor

/-! The text of picks, and what LockText answers, the program's and the specification's: that text; conditions: the picks lie in memory and hold at most 2 to the 20; the library's table of powers of ten lies in memory as its initialiser lays it. -/
namespace Go.Proofs.YthmilkcghfaecaaDoor
open Go.RowKit
set_option linter.unusedSimpArgs false
set_option linter.unusedVariables false

def lineT (d : PickD) : ByteArray := d.name ++ ⟨#[64]⟩ ++ verT d.vA d.vB d.vC d.vP ++ ⟨#[10]⟩
def lockUpto (xs : List PickD) : Nat → ByteArray
  | 0 => ⟨#[]⟩
  | k + 1 => lockUpto xs k ++ (match xs[k]? with | none => ⟨#[]⟩ | some d => lineT d)
def lockT (xs : List PickD) : ByteArray := if picksB xs then lockUpto xs xs.length else ⟨#[]⟩
theorem verT_size {a b c : Int} {ps : List ByteArray} (hb : bulkS ps ≤ 1048576) : (verT a b c ps).size ≤ 1099512676400 := by
  unfold verT
  by_cases hv : verB a b c ps = true
  · obtain ⟨h1, h2, h3⟩ := verB_nums hv
    obtain ⟨_, h1⟩ := in_range h1
    obtain ⟨_, h2⟩ := in_range h2
    obtain ⟨_, h3⟩ := in_range h3
    have e1 := numStr_four a.toNat (by omega)
    have e2 := numStr_four b.toNat (by omega)
    have e3 := numStr_four c.toNat (by omega)
    have e4 : (⟨#[46]⟩ : ByteArray).size = 1 := rfl
    have e5 : (⟨#[45]⟩ : ByteArray).size = 1 := rfl
    have hc : (coreT a b c).size ≤ 14 := by unfold coreT; simp only [ByteArray.size_append]; omega
    have hj := join_bound ps ⟨#[46]⟩ ps.length (Nat.le_refl _) hb (by decide)
    rw [if_pos hv]
    split
    · have hj2 : (joinS ps ⟨#[46]⟩).size ≤ 1099512676352 := hj
      simp only [ByteArray.size_append]; omega
    · omega
  · rw [if_neg hv]; exact Nat.zero_le _
theorem lineT_size {d : PickD} (h : wtPick d ≤ 1048576) : (lineT d).size ≤ 1100000000000 := by
  unfold wtPick at h
  have e1 := verT_size (a := d.vA) (b := d.vB) (c := d.vC) (ps := d.vP) (by omega)
  have e4 : (⟨#[64]⟩ : ByteArray).size = 1 := rfl
  have e5 : (⟨#[10]⟩ : ByteArray).size = 1 := rfl
  unfold lineT
  simp only [ByteArray.size_append]
  omega
theorem lockUpto_succ (xs : List PickD) (k : Nat) (h : k < xs.length) : lockUpto xs (k + 1) = lockUpto xs k ++ lineT xs[k] := by
  rw [lockUpto, List.getElem?_eq_getElem h]
theorem lockUpto_size (xs : List PickD) (hw : ∀ d ∈ xs, wtPick d ≤ 1048576) : ∀ k, k ≤ xs.length → (lockUpto xs k).size ≤ k * 1100000000000
  | 0, _ => by rw [lockUpto]; exact Nat.zero_le _
  | k + 1, h => by
    have ih := lockUpto_size xs hw k (by omega)
    have hl := lineT_size (hw xs[k] (List.getElem_mem (by omega)))
    rw [lockUpto_succ xs k (by omega), ByteArray.size_append, Nat.succ_mul]
    omega

theorem box_belowP {w w' : World} {g : Nat} {o : Obj} (hb : w.heap[g]? = some o) (h : Below w.heap.size w w') : w'.heap[g]? = some o :=
  (h.block g (Array.getElem?_eq_some_iff.1 hb).1).trans hb
theorem builder_belowP {T e : TypeId} {B b : Nat} {bs : List Value} {w w' : World} (h : Lib.IsBuilder T e B b bs w) (k : Below w.heap.size w w') : Lib.IsBuilder T e B b bs w' := by
  rcases h with ⟨h1, v, h2, h3, h4⟩ | ⟨h1, v, h2, h3, h4⟩
  · exact .inl ⟨h1, v, box_belowP h2 k, owns_of_below h3 k, h4⟩
  · exact .inr ⟨h1, v, box_belowP h2 k, owns_of_below h3 k, h4⟩

theorem check_k (B b : Nat) (bs : List Value) (w : World) (h : Lib.IsBuilder 48 5 B b bs w) :
    Calls Tryd.prog 40 #[.pointer (some ⟨b, 0, none⟩)] w fun e w' => e = .returned (.tuple #[]) ∧ (Lib.BuilderAt 48 5 B b (.pointer (some ⟨b, 0, none⟩)) bs w' ∧ Below B w w' ∧ Lib.OthersKept 5 (some b) w w') := by
  rcases h with h | h
  · exact (check_fresh b w h.cell0 h.shape h.frozen0).mono fun e w' ⟨h1, h2⟩ => by
      subst h2
      exact ⟨h1, h.used _, (Below.refl B w).setCell (p := ⟨b, 0, none⟩) h.1 _, Lib.OthersKept.setCell (b := b) (Lib.OthersKept.refl _ _ _) ⟨b, 0, none⟩ rfl _⟩
  · exact (check_used b w h.cell0).mono fun e w' ⟨h1, h2⟩ => by
      subst h2
      exact ⟨h1, h, Below.refl B _, Lib.OthersKept.refl _ _ _⟩

set_option maxHeartbeats 2000000 in
set_option maxRecDepth 100000 in
theorem write_k (B b : Nat) (bs : List Value) (s : ByteArray) (w : World) (h : Lib.IsBuilder 48 5 B b bs w) (hlen : bs.length + s.size ≤ 140737488355328) (hBw : B ≤ w.heap.size) :
    Calls Tryd.prog 19 #[.pointer (some ⟨b, 0, none⟩), .string s] w fun e w' => e = .returned (.tuple #[.int .i64 s.size, .nilIface]) ∧ (Lib.BuilderAt 48 5 B b (.pointer (some ⟨b, 0, none⟩)) (bs ++ Lib.strCells s) w' ∧ Below B w w' ∧ Lib.OthersKept 5 (some b) w w') := by
  obtain ⟨i0, hi, hz0, hz1, hz2⟩ := info_parts info5
  go_enter Tryd.func19, Tryd.ntmps19
  go_wp2_with (first
    | (go_at_call 40
       refine (check_k B b bs _ h).mono ?_
       rintro e w1 ⟨rfl, h1, hb1, ho1⟩
       obtain ⟨hB, v, hbk, hown, hne⟩ := h1
       have c0 : w1.cell? ⟨b, 0, none⟩ = some (.pointer (some ⟨b, 0, none⟩)) := by rw [Lib.cell_of_heap hbk]; rfl
       have c1 : w1.cell? ⟨b, 1, none⟩ = some v := by rw [Lib.cell_of_heap hbk]; rfl)
    | (at_builtin; refine Lib.wpList_append_own_string _ rfl _ _ 46 9 rfl B 5 i0 Tryd.underlying46 Tryd.underlying9 hi hz0 hz1 hz2 _ bs.length bs rfl hown s rfl (by unfold maxLen; omega) hlen (Nat.le_trans hBw hb1.size) ?_))
  intro v' w2 hown' hgrow hnil
  have hlt : b < w1.heap.size := (Array.getElem?_eq_some_iff.1 hbk).1
  have hb2 : w2.heap[b]? = some (.cells #[.pointer (some ⟨b, 0, none⟩), v] 48 (0, 0)) := by
    rw [hgrow.block b hlt (fun e => hne e.symm)]
    exact hbk
  have d0 : w2.cell? ⟨b, 0, none⟩ = some (.pointer (some ⟨b, 0, none⟩)) := by rw [Lib.cell_of_heap hb2]; rfl
  have d1 : w2.cell? ⟨b, 1, none⟩ = some v := by rw [Lib.cell_of_heap hb2]; rfl
  have f1 : w2.frozen? ⟨b, 1, none⟩ = false := Lib.frozen_of_heap hb2 1
  have hex : ∃ ao cap, v' = .slice ao (bs.length + s.size) cap := by
    rcases hown'.2 with ⟨hv, h0⟩ | ⟨g, cap, cur, hv, _⟩
    · exact ⟨none, 0, by rw [hv, h0]⟩
    · exact ⟨_, cap, hv⟩
  have hbel : Below B w (w2.setCell ⟨b, 1, none⟩ v') := (hb1.grown hgrow (Nat.le_trans hBw hb1.size) (fun k hk => (hown.lt k hk).1)).setCell (p := ⟨b, 1, none⟩) hB _
  have hoth : Lib.OthersKept 5 (some b) w (w2.setCell ⟨b, 1, none⟩ v') := (ho1.grown hgrow (fun g hg => by
    rcases hown.2 with ⟨hv, h0⟩ | ⟨g', cap, cur, hv, _, hgg, _⟩
    · rw [hv] at hg; simp [Value.ownBlock] at hg
    · rw [hv] at hg; simp [Value.ownBlock] at hg; subst hg; exact ⟨_, _, hgg⟩)).setCell ⟨b, 1, none⟩ rfl _
  have hput : Lib.BuilderAt 48 5 B b (.pointer (some ⟨b, 0, none⟩)) (bs ++ Lib.strCells s) (w2.setCell ⟨b, 1, none⟩ v') :=
    Lib.BuilderAt.put hB hb2 (bs' := bs ++ Lib.strCells s) (by rw [List.length_append, Lib.strCells_length]; exact hown') (by decide)
  obtain ⟨ao, cap, hv⟩ := hex
  subst hv
  clear hnil
  go_wp2
  go_ret2
  exact ⟨rfl, hput, hbel, hoth⟩

theorem picksB_len {xs : List PickD} (h : picksB xs = true) : xs.length ≤ 12 := by
  unfold picksB at h
  exact of_decide_eq_true (Bool.and_eq_true_iff.1 h).2

set_option maxHeartbeats 8000000 in
set_option maxRecDepth 100000 in
theorem implLockText_c (S : Nat → Prop) (v : Value) (xs : List PickD) (w : World) (hv : RowIn shPick S w v xs) (hB : ∀ b, S b → b < w.heap.size) (hw : ∀ d ∈ xs, wtPick d ≤ 1048576) (htab : Lib.TabIs Tryd.prog w "internal/strconv.uint64pow10" .u64 Lib.pow10Tab) :
    Calls Tryd.prog 8 #[v] w fun e w' => e = .returned (.string (lockT xs)) ∧ Below w.heap.size w w' := by
  have HP := implPicksOk_c S v xs w hv hB hw
  rw [picks_alike] at HP
  have HT : Hid (lockT xs = if picksB xs then lockUpto xs xs.length else ⟨#[]⟩) := rfl
  have HSZ := hidden (lockUpto_size xs hw)
  have HL := hidden (fun h : picksB xs = true => picksB_len h)
  obtain ⟨p, hp⟩ : ∃ p, p = picksB xs := ⟨_, rfl⟩
  rw [← hp] at HP HT HL
  have HP2 := hidden HP
  clear hp HP
  obtain ⟨a, cap, rfl, hl, hc, ha⟩ := hv
  unfold maxLen at hl
  cases p with
  | false =>
    rw [show lockT xs = ⟨#[]⟩ from HT.out]
    clear ha HSZ HL HT
    go_enter Tryd.func8, Tryd.ntmps8
    go_wp2_with (go_at_call 18; refine HP2.out.mono ?_; rintro e w1 ⟨rfl, b1⟩)
    go_ret
    exact ⟨rfl, b1⟩
  | true =>
  have h12 := HL.out rfl
  clear HL
  go_enter Tryd.func8, Tryd.ntmps8
  go_wp2_with (go_at_call 18; refine HP2.out.mono ?_; rintro e w1 ⟨rfl, b1⟩)
  have hfb := fresh_builder w1
  have hk1 : Below w.heap.size w (w1.alloc (.cells #[.pointer none, .slice none 0 0] 48)) := b1.alloc b1.size _
  go_loopw [11] (fun vi wr => ∃ (k : Nat) (s : ByteArray), k ≤ xs.length ∧ vi = .int .i64 (k : Int) ∧ s.size ≤ 13200000000000 ∧ Hid (s = lockUpto xs k) ∧ Lib.IsBuilder 48 5 w1.heap.size w1.heap.size (Lib.strCells s) wr ∧ Below w.heap.size w wr ∧ w1.heap.size ≤ wr.heap.size) (fun vi _ => xs.length - (intOf vi).toNat)
  case atStart => exact ⟨0, ⟨#[]⟩, Nat.zero_le _, rfl, by decide, rfl, hfb, hk1, by simp⟩
  case round =>
    obtain ⟨k, s, hk, rfl, hsz, hs, hBd, hbr, hle⟩ := hrel
    clear hfb hk1
    by_cases hlt' : k < xs.length
    · rcases ha with rfl | ⟨b, off, rfl, hlt, ha⟩
      · simp at hlt'
      have hBr : ∀ b, S b → b < wr.heap.size := fun b h => Nat.lt_of_lt_of_le (hB b h) hbr.size
      obtain ⟨cs, hL, hcell⟩ := ha k hlt'
      replace hL := shPick.keep (.of hbr hB) hL
      replace hcell := hcell.keep (.of hbr hB) hlt
      have hwd : wtPick xs[k] ≤ 1048576 := hw _ (List.getElem_mem hlt')
      have HE := hidden (lockUpto_succ xs k hlt')
      have hsz2 := HSZ.out (k + 1) (by omega)
      have hsz3 : (lockUpto xs (k + 1)).size ≤ 13200000000000 := by omega
      replace hsz3 := hidden hsz3
      have hln := lineT_size hwd
      obtain ⟨d, hd⟩ : ∃ d, d = xs[k] := ⟨_, rfl⟩
      rw [← hd] at hL HE hwd hln
      obtain ⟨u0, rfl, s_n, r0, p0⟩ := hL
      have hbk : bulkS d.vP ≤ 1048576 := by unfold wtPick at hwd; omega
      have hns : d.name.size ≤ 1048576 := by unfold wtPick at hwd; omega
      have H1 : ∀ w2, Below wr.heap.size wr w2 → Calls Tryd.prog 20 #[.agg #[.int .i64 d.vA, .int .i64 d.vB, .int .i64 d.vC, u0]] w2 fun e w' => e = .returned (.string (verT d.vA d.vB d.vC d.vP)) ∧ Below w2.heap.size w2 w' := fun w2 h => implVerText_c _ _ _ u0 d.vP w2 ((r0.keep (.of h hBr)).reads (fun b hb => Nat.lt_of_lt_of_le (hBr b hb) h.size)) hbk (tabIs_below (below_nextP hbr h) htab)
      have hvs := verT_size (a := d.vA) (b := d.vB) (c := d.vC) hbk
      have HLN : Hid (lineT d = d.name ++ ⟨#[64]⟩ ++ verT d.vA d.vB d.vC d.vP ++ ⟨#[10]⟩) := rfl
      obtain ⟨t, ht⟩ : ∃ t, t = verT d.vA d.vB d.vC d.vP := ⟨_, rfl⟩
      rw [← ht] at H1 hvs HLN
      replace H1 := hidden H1
      obtain ⟨a0, cap0, eu0, _⟩ := id r0
      rw [length_strsV] at eu0
      subst eu0
      have hki : (k : Int) < (xs.length : Int) := by omega
      have e0 : wr.cell? ⟨b, off + k * 5, none⟩ = some (.string d.name) := hcell 0 (by simp)
      have e1 : wr.cell? ⟨b, off + k * 5 + 1, none⟩ = some (.int .i64 d.vA) := hcell 1 (by simp)
      have e2 : wr.cell? ⟨b, off + k * 5 + 2, none⟩ = some (.int .i64 d.vB) := hcell 2 (by simp)
      have e3 : wr.cell? ⟨b, off + k * 5 + 3, none⟩ = some (.int .i64 d.vC) := hcell 3 (by simp)
      have e4 : wr.cell? ⟨b, off + k * 5 + 4, none⟩ = some (.slice a0 d.vP.length cap0) := hcell 4 (by simp)
      obtain ⟨O, hO⟩ : ∃ O, O = Obj.cells #[.string d.name, .int .i64 d.vA, .int .i64 d.vB, .int .i64 d.vC, .slice a0 d.vP.length cap0] 42 := ⟨_, rfl⟩
      have hd0 : Below wr.heap.size wr (wr.alloc O).drew := ((Below.refl _ _).alloc (Nat.le_refl _) _).drew
      have KEEP : Hid (∀ w2, Below (wr.alloc O).heap.size (wr.alloc O) w2 → w2.cell? ⟨wr.heap.size, 0, none⟩ = some (.string d.name) ∧ w2.cell? ⟨wr.heap.size, 1, none⟩ = some (.int .i64 d.vA) ∧ w2.cell? ⟨wr.heap.size, 2, none⟩ = some (.int .i64 d.vB) ∧ w2.cell? ⟨wr.heap.size, 3, none⟩ = some (.int .i64 d.vC) ∧ w2.cell? ⟨wr.heap.size, 4, none⟩ = some (.slice a0 d.vP.length cap0)) := fun w2 h => by
        have hx := boxAt h
        rw [hO] at hx
        exact ⟨vblk_cell hx 0, vblk_cell hx 1, vblk_cell hx 2, vblk_cell hx 3, vblk_cell hx 4⟩
      have hq0 : Below (wr.alloc O).heap.size (wr.alloc O) (wr.alloc O).drew := (Below.refl _ _).drew
      have hns2 : (d.name ++ ⟨#[64]⟩ : ByteArray).size = d.name.size + 1 := by rw [ByteArray.size_append]; rfl
      have hns3 : (d.name ++ ⟨#[64]⟩ ++ t : ByteArray).size = d.name.size + 1 + t.size := by rw [ByteArray.size_append, hns2]
      have hz1 : ¬ 9223372036854775807 < d.name.size + 1 := by omega
      have hz2 : ¬ 9223372036854775807 < d.name.size + 1 + t.size := by omega
      have hz3 : ¬ 9223372036854775807 < d.name.size + 1 + t.size + 1 := by omega
      have hne : w1.heap.size < wr.heap.size := by
        rcases hBd with h | h
        · exact h.lt
        · exact h.lt
      have HB0 := hidden (builder_belowP hBd ((Below.refl _ _).alloc (Nat.le_refl _) O))
      subst hO
      clear ha hd hcell s_n r0 p0 hbk hwd ht HSZ hsz2 hBd
      go_wp2_with fail
      refine wp_region_held_drew (S := (fun w' => w'.cell? ⟨wr.heap.size, 0, none⟩ = some (.string d.name) ∧ w'.cell? ⟨wr.heap.size, 1, none⟩ = some (.int .i64 d.vA) ∧ w'.cell? ⟨wr.heap.size, 2, none⟩ = some (.int .i64 d.vB) ∧ w'.cell? ⟨wr.heap.size, 3, none⟩ = some (.int .i64 d.vC) ∧ w'.cell? ⟨wr.heap.size, 4, none⟩ = some (.slice a0 d.vP.length cap0))) (by kernel_rfl) ?SR10 (fun hHeld => ?_)
      case SR10 => (first | exact K3.out | (with_reducible exact KEEP.out _ hq1) | (with_reducible exact KEEP.out _ hq0))
      refine wpAnyH_take (i := 0) (oi := _) (v := ?vR10) rfl (by kernel_rfl) (by kernel_rfl) (by kernel_rfl) (fun _ _ _ h => h) (Or.inl ⟨by rfl, ?yR10⟩) hHeld ?_
      case yR10 => (intro w hSw; (try dsimp only at hSw); go_simp <;> with_reducible rfl)
      try simp only [Act.put, List.getElem_toArray, List.getElem_cons_zero, List.getElem_cons_succ, List.setIfInBounds_toArray, List.set_cons_zero, List.set_cons_succ]
      refine wpAnyH_take (i := 1) (oi := _) (v := ?vR11) rfl (by kernel_rfl) (by kernel_rfl) (by kernel_rfl) (fun _ _ _ h => h) (Or.inl ⟨by rfl, ?yR11⟩) hHeld ?_
      case yR11 => (intro w hSw; (try dsimp only at hSw); go_simp <;> with_reducible rfl)
      try simp only [Act.put, List.getElem_toArray, List.getElem_cons_zero, List.getElem_cons_succ, List.setIfInBounds_toArray, List.set_cons_zero, List.set_cons_succ]
      refine wpAnyH_take (i := 2) (oi := _) (v := ?vR12) rfl (by kernel_rfl) (by kernel_rfl) (by kernel_rfl) (fun _ _ _ h => h) (Or.inl ⟨by rfl, ?yR12⟩) hHeld ?_
      case yR12 => (intro w hSw; (try dsimp only at hSw); go_simp <;> with_reducible rfl)
      try simp only [Act.put, List.getElem_toArray, List.getElem_cons_zero, List.getElem_cons_succ, List.setIfInBounds_toArray, List.set_cons_zero, List.set_cons_succ]
      refine wpAnyH_take (i := 3) (oi := _) (v := ?vR13) rfl (by kernel_rfl) (by kernel_rfl) (by kernel_rfl) (fun _ _ _ h => h) (Or.inl ⟨by rfl, ?yR13⟩) hHeld ?_
      case yR13 => (intro w hSw; (try dsimp only at hSw); go_simp <;> with_reducible rfl)
      try simp only [Act.put, List.getElem_toArray, List.getElem_cons_zero, List.getElem_cons_succ, List.setIfInBounds_toArray, List.set_cons_zero, List.set_cons_succ]
      refine wpAnyH_take (i := 4) (oi := _) (v := ?vR14) rfl (by kernel_rfl) (by kernel_rfl) (by kernel_rfl) (fun _ _ _ h => h) (Or.inl ⟨by rfl, ?yR14⟩) hHeld ?_
      case yR14 => (intro w hSw; (try dsimp only at hSw); go_simp <;> with_reducible rfl)
      try simp only [Act.put, List.getElem_toArray, List.getElem_cons_zero, List.getElem_cons_succ, List.setIfInBounds_toArray, List.set_cons_zero, List.set_cons_succ]
      refine wpAnyH_ready (rs := [5]) (by kernel_rfl) (by simp) ?_
      refine AllReadyH.cons rfl (fun K hK => ?_) AllReadyH.nil
      go_simp
      go_wp2_with (go_at_call 20; refine (H1.out _ hd0).mono ?_; rintro e w2 ⟨rfl, b2⟩; have hd1 : Below wr.heap.size wr w2 := hd0.trans (b2.mono hd0.size); have hq1 := below_nextP hq0 b2; have HB1 := hidden (builder_belowP HB0.out hq1))
      clear hHeld
      refine hK.out _ _ ?SR16 (fun hHeld => ?_)
      case SR16 => ((try dsimp only); first | exact K3.out | (with_reducible exact KEEP.out _ hq1) | (with_reducible exact KEEP.out _ hq0))
      clear hK K
      refine wpAnyH_take (i := 6) (oi := _) (v := ?vR16) rfl (by kernel_rfl) (by kernel_rfl) (by kernel_rfl) (fun _ _ _ h => h) (Or.inl ⟨by rfl, ?yR16⟩) hHeld ?_
      case yR16 => (intro w hSw; (try dsimp only at hSw); go_simp <;> with_reducible rfl)
      try simp only [Act.put, List.getElem_toArray, List.getElem_cons_zero, List.getElem_cons_succ, List.setIfInBounds_toArray, List.set_cons_zero, List.set_cons_succ]
      refine wpAnyH_take (i := 7) (oi := _) (v := ?vR17) rfl (by kernel_rfl) (by kernel_rfl) (by kernel_rfl) (fun _ _ _ h => h) (Or.inl ⟨by rfl, ?yR17⟩) hHeld ?_
      case yR17 => (intro w hSw; (try dsimp only at hSw); go_simp <;> with_reducible rfl)
      try simp only [Act.put, List.getElem_toArray, List.getElem_cons_zero, List.getElem_cons_succ, List.setIfInBounds_toArray, List.set_cons_zero, List.set_cons_succ]
      refine wpAnyH_ready (rs := [8]) (by kernel_rfl) (by simp) ?_
      refine AllReadyH.cons rfl (fun K hK => ?_) AllReadyH.nil
      go_simp
      go_wp2_with fail
      go_at_call 19
      have hh10 : (⟨#[10]⟩ : ByteArray).size = 1 := rfl
      refine (write_k w1.heap.size w1.heap.size _ _ _ HB1.out (by rw [Lib.strCells_length, ByteArray.size_append, hns3]; omega) (Nat.le_trans hle hd1.size)).mono ?_
      rintro e w3 ⟨rfl, hB3, b3, o3⟩
      have hd2 : Below w.heap.size w w3 := (hbr.trans (hd1.mono hbr.size)).trans (b3.mono b1.size)
      have hx3 := o3 _ _ (boxAt hq1) (by intro h; injection h with h; omega) (by intro c fz h; cases h)
      have K3 := hidden (And.intro (vblk_cell hx3 0) (And.intro (vblk_cell hx3 1) (And.intro (vblk_cell hx3 2) (And.intro (vblk_cell hx3 3) (vblk_cell hx3 4)))))
      go_wp2_with fail
      clear hHeld
      refine hK.out _ _ ?SR1_8 (fun hHeld => ?_)
      case SR1_8 => ((try dsimp only); exact K3.out)
      clear hK K
      refine wpAnyH_done (by kernel_rfl) ?_ _
      go_wp2
      go_roundw
      case rel => exact ⟨k + 1, s ++ lineT d, by omega, by go_num, (by rw [hs.out, ← HE.out]; exact hsz3.out), (by show _ = _; rw [HE.out, ← hs.out]), .inr (by rw [strCells_append, HLN.out]; exact hB3), hd2, by have := b3.size; have := hd1.size; omega⟩
      case measure => simp [intOf]; omega
    · have he : k = xs.length := by omega
      subst he
      have HT2 : Hid (lockT xs = s) := by show _ = _; rw [hs.out]; exact HT.out
      clear ha HSZ HT hs
      go_wp2_with (go_at_call 21; refine (Tryd.Builder_String_any w1.heap.size w1.heap.size s.data.toList _ hBd hle).mono ?_; rintro e w2 ⟨rfl, b2⟩)
      go_ret
      exact ⟨by rw [HT2.out]; rfl, hbr.trans (b2.mono b1.size)⟩

set_option maxHeartbeats 8000000 in
set_option maxRecDepth 100000 in
theorem specLockText_c (S : Nat → Prop) (v : Value) (xs : List PickD) (w : World) (hv : RowIn shPick S w v xs) (hB : ∀ b, S b → b < w.heap.size) (hw : ∀ d ∈ xs, wtPick d ≤ 1048576) :
    Calls Tryd.prog 6 #[v] w fun e w' => e = .returned (.string (lockT xs)) ∧ Below w.heap.size w w' := by
  have HP := l10Ok_c S v xs w hv hB hw
  have HT : Hid (lockT xs = if picksB xs then lockUpto xs xs.length else ⟨#[]⟩) := rfl
  have HSZ := hidden (lockUpto_size xs hw)
  have HL := hidden (fun h : picksB xs = true => picksB_len h)
  obtain ⟨p, hp⟩ : ∃ p, p = picksB xs := ⟨_, rfl⟩
  rw [← hp] at HP HT HL
  have HP2 := hidden HP
  clear hp HP
  obtain ⟨a, cap, rfl, hl, hc, ha⟩ := hv
  unfold maxLen at hl
  cases p with
  | false =>
    rw [show lockT xs = ⟨#[]⟩ from HT.out]
    clear ha HSZ HL HT
    go_enter Tryd.func6, Tryd.ntmps6
    go_wp2_with (go_at_call 15; refine HP2.out.mono ?_; rintro e w1 ⟨rfl, b1⟩)
    go_ret
    exact ⟨rfl, b1⟩
  | true =>
  have h12 := HL.out rfl
  clear HL
  go_enter Tryd.func6, Tryd.ntmps6
  go_wp2_with (go_at_call 15; refine HP2.out.mono ?_; rintro e w1 ⟨rfl, b1⟩)
  go_loopw [3, 4] (fun vs vi wr => ∃ (k : Nat) (s : ByteArray), k ≤ xs.length ∧ vi = .int .i64 (k : Int) ∧ vs = .string s ∧ s.size ≤ 13200000000000 ∧ Hid (s = lockUpto xs k) ∧ Below w.heap.size w wr) (fun _ vi _ => xs.length - (intOf vi).toNat)
  case atStart => exact ⟨0, ⟨#[]⟩, Nat.zero_le _, rfl, rfl, by decide, rfl, b1⟩
  case round =>
    obtain ⟨k, s, hk, rfl, rfl, hsz, hs, hbr⟩ := hrel
    by_cases hlt' : k < xs.length
    · rcases ha with rfl | ⟨b, off, rfl, hlt, ha⟩
      · simp at hlt'
      have hbb : b < wr.heap.size := Nat.lt_of_lt_of_le (hB b hlt) hbr.size
      have hBr : ∀ b, S b → b < wr.heap.size := fun b h => Nat.lt_of_lt_of_le (hB b h) hbr.size
      obtain ⟨cs, hL, hcell⟩ := ha k hlt'
      replace hL := shPick.keep (.of hbr hB) hL
      replace hcell := hcell.keep (.of hbr hB) hlt
      have hwd : wtPick xs[k] ≤ 1048576 := hw _ (List.getElem_mem hlt')
      have HE := hidden (lockUpto_succ xs k hlt')
      have hsz2 := HSZ.out (k + 1) (by omega)
      have hsz3 : (lockUpto xs (k + 1)).size ≤ 13200000000000 := by omega
      replace hsz3 := hidden hsz3
      obtain ⟨d, hd⟩ : ∃ d, d = xs[k] := ⟨_, rfl⟩
      rw [← hd] at hL HE hwd
      obtain ⟨u0, rfl, s_n, r0, p0⟩ := hL
      have hbk : bulkS d.vP ≤ 1048576 := by unfold wtPick at hwd; omega
      have hns : d.name.size ≤ 1048576 := by unfold wtPick at hwd; omega
      have H1 : ∀ w2, Below wr.heap.size wr w2 → Calls Tryd.prog 16 #[.agg #[.int .i64 d.vA, .int .i64 d.vB, .int .i64 d.vC, u0]] w2 fun e w' => e = .returned (.string (verT d.vA d.vB d.vC d.vP)) ∧ Below w2.heap.size w2 w' := fun w2 h => specVerText_c _ _ _ u0 d.vP w2 ((r0.keep (.of h hBr)).reads (fun b hb => Nat.lt_of_lt_of_le (hBr b hb) h.size)) hbk
      have hvs := verT_size (a := d.vA) (b := d.vB) (c := d.vC) hbk
      have HLN : Hid (lineT d = d.name ++ ⟨#[64]⟩ ++ verT d.vA d.vB d.vC d.vP ++ ⟨#[10]⟩) := rfl
      obtain ⟨t, ht⟩ : ∃ t, t = verT d.vA d.vB d.vC d.vP := ⟨_, rfl⟩
      rw [← ht] at H1 hvs HLN
      replace H1 := hidden H1
      obtain ⟨a0, cap0, eu0, _⟩ := id r0
      rw [length_strsV] at eu0
      subst eu0
      have hki : (k : Int) < (xs.length : Int) := by omega
      have e0 : wr.cell? ⟨b, off + k * 5, none⟩ = some (.string d.name) := hcell 0 (by simp)
      have e1 : wr.cell? ⟨b, off + k * 5 + 1, none⟩ = some (.int .i64 d.vA) := hcell 1 (by simp)
      have e2 : wr.cell? ⟨b, off + k * 5 + 2, none⟩ = some (.int .i64 d.vB) := hcell 2 (by simp)
      have e3 : wr.cell? ⟨b, off + k * 5 + 3, none⟩ = some (.int .i64 d.vC) := hcell 3 (by simp)
      have e4 : wr.cell? ⟨b, off + k * 5 + 4, none⟩ = some (.slice a0 d.vP.length cap0) := hcell 4 (by simp)
      have hd0 : Below wr.heap.size wr wr.drew := (Below.refl _ _).drew
      have KEEP : Hid (∀ w2, Below wr.heap.size wr w2 → w2.cell? ⟨b, off + k * 5, none⟩ = some (.string d.name) ∧ w2.cell? ⟨b, off + k * 5 + 1, none⟩ = some (.int .i64 d.vA) ∧ w2.cell? ⟨b, off + k * 5 + 2, none⟩ = some (.int .i64 d.vB) ∧ w2.cell? ⟨b, off + k * 5 + 3, none⟩ = some (.int .i64 d.vC) ∧ w2.cell? ⟨b, off + k * 5 + 4, none⟩ = some (.slice a0 d.vP.length cap0)) := fun w2 h => ⟨(h.cell (by simpa using hbb)).trans e0, (h.cell (by simpa using hbb)).trans e1, (h.cell (by simpa using hbb)).trans e2, (h.cell (by simpa using hbb)).trans e3, (h.cell (by simpa using hbb)).trans e4⟩
      have hn1 : (s ++ d.name : ByteArray).size = s.size + d.name.size := ByteArray.size_append
      have hn2 : (s ++ d.name ++ ⟨#[64]⟩ : ByteArray).size = s.size + d.name.size + 1 := by rw [ByteArray.size_append, hn1]; rfl
      have hn3 : (s ++ d.name ++ ⟨#[64]⟩ ++ t : ByteArray).size = s.size + d.name.size + 1 + t.size := by rw [ByteArray.size_append, hn2]
      have hz0 : ¬ 9223372036854775807 < s.size + d.name.size := by omega
      have hz1 : ¬ 9223372036854775807 < s.size + d.name.size + 1 := by omega
      have hz2 : ¬ 9223372036854775807 < s.size + d.name.size + 1 + t.size := by omega
      have hz3 : ¬ 9223372036854775807 < s.size + d.name.size + 1 + t.size + 1 := by omega
      have HSL : Hid (s ++ d.name ++ ⟨#[64]⟩ ++ t ++ ⟨#[10]⟩ = s ++ lineT d) := by show _ = _; rw [HLN.out]; simp only [ByteArray.append_assoc]
      clear ha hd hcell s_n r0 p0 hbk hwd ht HSZ hsz2 e0 e1 e2 e3 e4
      go_wp2_with fail
      refine wp_region_held_drew (S := (fun w' => w'.cell? ⟨b, off + k * 5, none⟩ = some (.string d.name) ∧ w'.cell? ⟨b, off + k * 5 + 1, none⟩ = some (.int .i64 d.vA) ∧ w'.cell? ⟨b, off + k * 5 + 2, none⟩ = some (.int .i64 d.vB) ∧ w'.cell? ⟨b, off + k * 5 + 3, none⟩ = some (.int .i64 d.vC) ∧ w'.cell? ⟨b, off + k * 5 + 4, none⟩ = some (.slice a0 d.vP.length cap0))) (by kernel_rfl) ?SR20 (fun hHeld => ?_)
      case SR20 => (first | (with_reducible exact KEEP.out _ hd1) | (with_reducible exact KEEP.out _ hd0))
      refine wpAnyH_take (i := 0) (oi := _) (v := ?vR20) rfl (by kernel_rfl) (by kernel_rfl) (by kernel_rfl) (fun _ _ _ h => h) (Or.inl ⟨by rfl, ?yR20⟩) hHeld ?_
      case yR20 => (intro w hSw; (try dsimp only at hSw); go_simp <;> with_reducible rfl)
      try simp only [Act.put, List.getElem_toArray, List.getElem_cons_zero, List.getElem_cons_succ, List.setIfInBounds_toArray, List.set_cons_zero, List.set_cons_succ]
      refine wpAnyH_take (i := 1) (oi := _) (v := ?vR21) rfl (by kernel_rfl) (by kernel_rfl) (by kernel_rfl) (fun _ _ _ h => h) (Or.inl ⟨by rfl, ?yR21⟩) hHeld ?_
      case yR21 => (intro w hSw; (try dsimp only at hSw); go_simp <;> with_reducible rfl)
      try simp only [Act.put, List.getElem_toArray, List.getElem_cons_zero, List.getElem_cons_succ, List.setIfInBounds_toArray, List.set_cons_zero, List.set_cons_succ]
      refine wpAnyH_take (i := 2) (oi := _) (v := ?vR22) rfl (by kernel_rfl) (by kernel_rfl) (by kernel_rfl) (fun _ _ _ h => h) (Or.inl ⟨by rfl, ?yR22⟩) hHeld ?_
      case yR22 => (intro w hSw; (try dsimp only at hSw); go_simp <;> with_reducible rfl)
      try simp only [Act.put, List.getElem_toArray, List.getElem_cons_zero, List.getElem_cons_succ, List.setIfInBounds_toArray, List.set_cons_zero, List.set_cons_succ]
      refine wpAnyH_take (i := 3) (oi := _) (v := ?vR23) rfl (by kernel_rfl) (by kernel_rfl) (by kernel_rfl) (fun _ _ _ h => h) (Or.inl ⟨by rfl, ?yR23⟩) hHeld ?_
      case yR23 => (intro w hSw; (try dsimp only at hSw); go_simp <;> with_reducible rfl)
      try simp only [Act.put, List.getElem_toArray, List.getElem_cons_zero, List.getElem_cons_succ, List.setIfInBounds_toArray, List.set_cons_zero, List.set_cons_succ]
      refine wpAnyH_take (i := 4) (oi := _) (v := ?vR24) rfl (by kernel_rfl) (by kernel_rfl) (by kernel_rfl) (fun _ _ _ h => h) (Or.inl ⟨by rfl, ?yR24⟩) hHeld ?_
      case yR24 => (intro w hSw; (try dsimp only at hSw); go_simp <;> with_reducible rfl)
      try simp only [Act.put, List.getElem_toArray, List.getElem_cons_zero, List.getElem_cons_succ, List.setIfInBounds_toArray, List.set_cons_zero, List.set_cons_succ]
      refine wpAnyH_take (i := 5) (oi := _) (v := ?vR25) rfl (by kernel_rfl) (by kernel_rfl) (by kernel_rfl) (fun _ _ _ h => h) (Or.inl ⟨by rfl, ?yR25⟩) hHeld ?_
      case yR25 => (intro w hSw; (try dsimp only at hSw); go_simp <;> with_reducible rfl)
      try simp only [Act.put, List.getElem_toArray, List.getElem_cons_zero, List.getElem_cons_succ, List.setIfInBounds_toArray, List.set_cons_zero, List.set_cons_succ]
      refine wpAnyH_take (i := 6) (oi := _) (v := ?vR26) rfl (by kernel_rfl) (by kernel_rfl) (by kernel_rfl) (fun _ _ _ h => h) (Or.inl ⟨by rfl, ?yR26⟩) hHeld ?_
      case yR26 => (intro w hSw; (try dsimp only at hSw); go_simp <;> with_reducible rfl)
      try simp only [Act.put, List.getElem_toArray, List.getElem_cons_zero, List.getElem_cons_succ, List.setIfInBounds_toArray, List.set_cons_zero, List.set_cons_succ]
      refine wpAnyH_take (i := 7) (oi := _) (v := ?vR27) rfl (by kernel_rfl) (by kernel_rfl) (by kernel_rfl) (fun _ _ _ h => h) (Or.inl ⟨by rfl, ?yR27⟩) hHeld ?_
      case yR27 => (intro w hSw; (try dsimp only at hSw); go_simp <;> with_reducible rfl)
      try simp only [Act.put, List.getElem_toArray, List.getElem_cons_zero, List.getElem_cons_succ, List.setIfInBounds_toArray, List.set_cons_zero, List.set_cons_succ]
      refine wpAnyH_take (i := 8) (oi := _) (v := ?vR28) rfl (by kernel_rfl) (by kernel_rfl) (by kernel_rfl) (fun _ _ _ h => h) (Or.inl ⟨by rfl, ?yR28⟩) hHeld ?_
      case yR28 => (intro w hSw; (try dsimp only at hSw); go_simp <;> with_reducible rfl)
      try simp only [Act.put, List.getElem_toArray, List.getElem_cons_zero, List.getElem_cons_succ, List.setIfInBounds_toArray, List.set_cons_zero, List.set_cons_succ]
      refine wpAnyH_take (i := 9) (oi := _) (v := ?vR29) rfl (by kernel_rfl) (by kernel_rfl) (by kernel_rfl) (fun _ _ _ h => h) (Or.inl ⟨by rfl, ?yR29⟩) hHeld ?_
      case yR29 => (intro w hSw; (try dsimp only at hSw); go_simp <;> with_reducible rfl)
      try simp only [Act.put, List.getElem_toArray, List.getElem_cons_zero, List.getElem_cons_succ, List.setIfInBounds_toArray, List.set_cons_zero, List.set_cons_succ]
      refine wpAnyH_take (i := 10) (oi := _) (v := ?vR210) rfl (by kernel_rfl) (by kernel_rfl) (by kernel_rfl) (fun _ _ _ h => h) (Or.inl ⟨by rfl, ?yR210⟩) hHeld ?_
      case yR210 => (intro w hSw; (try dsimp only at hSw); go_simp <;> with_reducible rfl)
      try simp only [Act.put, List.getElem_toArray, List.getElem_cons_zero, List.getElem_cons_succ, List.setIfInBounds_toArray, List.set_cons_zero, List.set_cons_succ]
      refine wpAnyH_take (i := 11) (oi := _) (v := ?vR211) rfl (by kernel_rfl) (by kernel_rfl) (by kernel_rfl) (fun _ _ _ h => h) (Or.inl ⟨by rfl, ?yR211⟩) hHeld ?_
      case yR211 => (intro w hSw; (try dsimp only at hSw); go_simp <;> with_reducible rfl)
      try simp only [Act.put, List.getElem_toArray, List.getElem_cons_zero, List.getElem_cons_succ, List.setIfInBounds_toArray, List.set_cons_zero, List.set_cons_succ]
      refine wpAnyH_take (i := 12) (oi := _) (v := ?vR212) rfl (by kernel_rfl) (by kernel_rfl) (by kernel_rfl) (fun _ _ _ h => h) (Or.inl ⟨by rfl, ?yR212⟩) hHeld ?_
      case yR212 => (intro w hSw; (try dsimp only at hSw); go_simp <;> with_reducible rfl)
      try simp only [Act.put, List.getElem_toArray, List.getElem_cons_zero, List.getElem_cons_succ, List.setIfInBounds_toArray, List.set_cons_zero, List.set_cons_succ]
      refine wpAnyH_ready (rs := [13]) (by kernel_rfl) (by simp) ?_
      refine AllReadyH.cons rfl (fun K hK => ?_) AllReadyH.nil
      go_simp
      go_wp2_with (go_at_call 16; refine (H1.out _ hd0).mono ?_; rintro e w2 ⟨rfl, b2⟩; have hd1 : Below wr.heap.size wr w2 := hd0.trans (b2.mono hd0.size))
      clear hHeld
      refine hK.out _ _ ?SR214 (fun hHeld => ?_)
      case SR214 => ((try dsimp only); first | (with_reducible exact KEEP.out _ hd1) | (with_reducible exact KEEP.out _ hd0))
      clear hK K
      refine wpAnyH_take (i := 14) (oi := _) (v := ?vR214) rfl (by kernel_rfl) (by kernel_rfl) (by kernel_rfl) (fun _ _ _ h => h) (Or.inl ⟨by rfl, ?yR214⟩) hHeld ?_
      case yR214 => (intro w hSw; (try dsimp only at hSw); go_simp <;> with_reducible rfl)
      try simp only [Act.put, List.getElem_toArray, List.getElem_cons_zero, List.getElem_cons_succ, List.setIfInBounds_toArray, List.set_cons_zero, List.set_cons_succ]
      refine wpAnyH_take (i := 15) (oi := _) (v := ?vR215) rfl (by kernel_rfl) (by kernel_rfl) (by kernel_rfl) (fun _ _ _ h => h) (Or.inl ⟨by rfl, ?yR215⟩) hHeld ?_
      case yR215 => (intro w hSw; (try dsimp only at hSw); go_simp <;> with_reducible rfl)
      try simp only [Act.put, List.getElem_toArray, List.getElem_cons_zero, List.getElem_cons_succ, List.setIfInBounds_toArray, List.set_cons_zero, List.set_cons_succ]
      refine wpAnyH_take (i := 16) (oi := _) (v := ?vR216) rfl (by kernel_rfl) (by kernel_rfl) (by kernel_rfl) (fun _ _ _ h => h) (Or.inl ⟨by rfl, ?yR216⟩) hHeld ?_
      case yR216 => (intro w hSw; (try dsimp only at hSw); go_simp <;> with_reducible rfl)
      try simp only [Act.put, List.getElem_toArray, List.getElem_cons_zero, List.getElem_cons_succ, List.setIfInBounds_toArray, List.set_cons_zero, List.set_cons_succ]
      refine wpAnyH_done (by kernel_rfl) ?_ _
      go_wp2
      go_roundw
      case rel => exact ⟨k + 1, s ++ lineT d, by omega, by go_num, (by first | rfl | exact congrArg Value.string HSL.out), (by rw [hs.out, ← HE.out]; exact hsz3.out), (by show _ = _; rw [HE.out, ← hs.out]), hbr.trans (hd1.mono hbr.size)⟩
      case measure => simp [intOf]; omega
    · have he : k = xs.length := by omega
      subst he
      have HT2 : Hid (lockT xs = s) := by show _ = _; rw [hs.out]; exact HT.out
      clear ha HSZ HT hs
      go_wp2
      go_ret
      exact ⟨by rw [HT2.out]; rfl, hbr⟩

end Go.Proofs.YthmilkcghfaecaaDoor

/-! How much needs hold, as the law counts it: contracts for the walks; conditions: at most 2 to the 20 is left to count. -/
namespace Go.Proofs.YthmilkcghfaecaaDoor
open Go.RowKit
set_option linter.unusedSimpArgs false
set_option linter.unusedVariables false

end Go.Proofs.YthmilkcghfaecaaDoor

/-! How much they hold, as the law counts it: contracts for the walks; conditions: at most 2 to the 20 is left to count. -/
namespace Go.Proofs.YthmilkcghfaecaaDoor
open Go.RowKit
set_option linter.unusedSimpArgs false
set_option linter.unusedVariables false

set_option maxHeartbeats 2000000 in
set_option maxRecDepth 100000 in
theorem szPick_c (S : Nat → Prop) (d : PickD) (cs : List Value) (left : Int) (h0 : 0 ≤ left) (h1 : left ≤ 1048576) (w : World) (hd : shPick.lies S w cs d) (hB : ∀ b, S b → b < w.heap.size) :
    Calls Tryd.prog 14 #[.agg cs.toArray, .int .i64 left] w fun e w' => e = .returned (.int .i64 (leftW (wtPick d) left)) ∧ Below w.heap.size w w' := by
  obtain ⟨u0, rfl, s_name, r0, p0⟩ := hd
  unfold maxLen at s_name
  have hbx : ∀ o, Below w.heap.size w (w.alloc o) := fun o => (Below.refl _ _).alloc (Nat.le_refl _) _
  obtain ⟨R, hR⟩ : ∃ R, R = leftW (wtPick d) left := ⟨_, rfl⟩
  rw [← hR]
  obtain ⟨q0, hq0⟩ : ∃ q, q = leftW (bulkS d.vP) (left - (d.name.size : Int)) := ⟨_, rfl⟩
  have HS0 : Hid (0 ≤ (left - (d.name.size : Int)) → (left - (d.name.size : Int)) ≤ 1048576 → ∀ w1, Below w.heap.size w w1 → Calls Tryd.prog 30 #[.agg #[.int .i64 d.vA, .int .i64 d.vB, .int .i64 d.vC, u0], .int .i64 (left - (d.name.size : Int))] w1 fun e w' => e = .returned (.int .i64 q0) ∧ Below w1.heap.size w1 w') := fun a b w1 hb => by
    rw [hq0]; exact szVer_c _ _ _ u0 d.vP _ a b w1 ((r0.keep (.of hb hB)).reads (fun b h => Nat.lt_of_lt_of_le (hB b h) hb.size)) p0
  obtain ⟨a0, cap0, eu0, _⟩ := id r0
  rw [length_strsV] at eu0
  subst eu0
  clear r0
  have lt := lw (wtPick d) left
  have l0 := lw (bulkS d.vP) (left - (d.name.size : Int))
  rw [← hq0] at l0
  rw [← hR] at lt
  unfold wtPick at lt
  clear hq0 hR
  by_cases n0 : (left - (d.name.size : Int)) < 0
  · have HR : Hid (R = -1) := by show _ = _; omega
    clear lt l0
    clear HS0
    go_enter Tryd.func14, Tryd.ntmps14
    go_wp2_with fail
    go_ret
    exact ⟨by rw [HR.out]; rfl, (hbx _)⟩
  by_cases n1 : q0 < 0
  · have HR : Hid (R = -1) := by show _ = _; omega
    have g0a : 0 ≤ (left - (d.name.size : Int)) := by omega
    have g0b : (left - (d.name.size : Int)) ≤ 1048576 := by omega
    have HC0 := HS0.out g0a g0b
    have HD0 := hidden HC0
    clear HC0
    clear lt l0
    clear HS0
    go_enter Tryd.func14, Tryd.ntmps14
    go_wp2_with fail
    go_at_call 30
    refine (HD0.out _ (hbx _)).mono ?_
    rintro e w1 ⟨rfl, b1⟩
    have k1 : Below w.heap.size w w1 := ((hbx _)).trans (b1.mono (by first | exact ((hbx _)).size | (simp; omega)))
    have hx1 := boxAt b1
    have x0 := vblk_cell hx1 0
    have x1 := vblk_cell hx1 1
    have x2 := vblk_cell hx1 2
    have x3 := vblk_cell hx1 3
    have x4 := vblk_cell hx1 4
    simp only [List.getElem?_toArray, List.getElem?_cons_succ, List.getElem?_cons_zero] at x0 x1 x2 x3 x4
    go_wp2_with fail
    go_ret
    exact ⟨by rw [HR.out]; rfl, k1⟩
  have HR : Hid (R = q0) := by show _ = _; omega
  have g0a : 0 ≤ (left - (d.name.size : Int)) := by omega
  have g0b : (left - (d.name.size : Int)) ≤ 1048576 := by omega
  have HC0 := HS0.out g0a g0b
  have HD0 := hidden HC0
  clear HC0
  clear lt l0
  clear HS0
  go_enter Tryd.func14, Tryd.ntmps14
  go_wp2_with fail
  go_at_call 30
  refine (HD0.out _ (hbx _)).mono ?_
  rintro e w1 ⟨rfl, b1⟩
  have k1 : Below w.heap.size w w1 := ((hbx _)).trans (b1.mono (by first | exact ((hbx _)).size | (simp; omega)))
  have hx1 := boxAt b1
  have x0 := vblk_cell hx1 0
  have x1 := vblk_cell hx1 1
  have x2 := vblk_cell hx1 2
  have x3 := vblk_cell hx1 3
  have x4 := vblk_cell hx1 4
  simp only [List.getElem?_toArray, List.getElem?_cons_succ, List.getElem?_cons_zero] at x0 x1 x2 x3 x4
  go_wp2_with fail
  go_ret
  exact ⟨by rw [HR.out]; rfl, k1⟩

set_option maxHeartbeats 2000000 in
set_option maxRecDepth 100000 in
theorem szPickS_c (S : Nat → Prop) (v : Value) (xs : List PickD) (left : Int) (h0 : 0 ≤ left) (h1 : left ≤ 1048576) (w : World) (hv : RowIn shPick S w v xs) (hB : ∀ b, S b → b < w.heap.size) :
    Calls Tryd.prog 5 #[v, .int .i64 left] w fun e w' => e = .returned (.int .i64 (leftW (wtRow wtPick xs) left)) ∧ Below w.heap.size w w' := by
  obtain ⟨a, cap, rfl, hl, hc, ha⟩ := hv
  unfold maxLen at hl
  by_cases hneg : left - (xs.length : Int) < 0
  · have e : leftW (wtRow wtPick xs) left = -1 := leftW_bad (by have := len_wtRow wtPick xs; omega)
    rw [e]
    clear ha
    go_enter Tryd.func5, Tryd.ntmps5
    go_wp2_with fail
    go_ret
    exact ⟨rfl, Below.refl _ _⟩
  · go_enter Tryd.func5, Tryd.ntmps5
    go_wp2_with fail
    go_loopw [1, 5] (fun vl vi wr => ∃ (k : Nat) (q : Int), k ≤ xs.length ∧ vi = .int .i64 (k : Int) ∧ vl = .int .i64 q ∧ 0 ≤ q ∧ q ≤ 1048576 ∧ Hid (q = left - (xs.length : Int) - (wtRow wtPick (xs.take k) : Int) + (k : Int)) ∧ Below w.heap.size w wr) (fun _ vi _ => xs.length - (intOf vi).toNat)
    case atStart => exact ⟨0, _, Nat.zero_le _, rfl, rfl, by omega, by omega, by show _ = _; simp [wtRow], Below.refl _ _⟩
    case round =>
      obtain ⟨k, q, hk, rfl, rfl, hq0, hq1, hq, hbr⟩ := hrel
      by_cases hlt' : k < xs.length
      · rcases ha with rfl | ⟨b, off, rfl, hlt, ha⟩
        · simp at hlt'
        obtain ⟨cs, hL, hcell⟩ := ha k hlt'
        have hL2 := shPick.keep (.of hbr hB) hL
        have hcell2 := hcell.keep (.of hbr hB) hlt
        have hBr : ∀ b, S b → b < wr.heap.size := fun b h => Nat.lt_of_lt_of_le (hB b h) hbr.size
        have hwt := wtRow_take wtPick xs k hlt'
        have hsp := wtRow_split wtPick xs (k + 1)
        have hln := len_wtRow wtPick (xs.drop (k + 1))
        have hdl : (xs.drop (k + 1)).length = xs.length - (k + 1) := by simp
        obtain ⟨d, hd⟩ : ∃ d, d = xs[k] := ⟨_, rfl⟩
        rw [← hd] at hL2 hwt
        have HW : Hid (wtRow wtPick (xs.take (k + 1)) = wtRow wtPick (xs.take k) + (1 + wtPick d)) := hwt
        have HSP : Hid (wtRow wtPick xs = wtRow wtPick (xs.take (k + 1)) + wtRow wtPick (xs.drop (k + 1)) ∧ xs.length - (k + 1) ≤ wtRow wtPick (xs.drop (k + 1))) := ⟨hsp, by omega⟩
        have hki : (k : Int) < (xs.length : Int) := by omega
        obtain ⟨p, hp⟩ : ∃ p, p = leftW (wtPick d) q := ⟨_, rfl⟩
        have HP : Hid (p = leftW (wtPick d) q) := hp
        have HC := szPick_c S d cs q hq0 hq1 wr hL2 hBr
        rw [← hp] at HC
        clear hL hcell ha hwt hd hp hsp hln hdl
        obtain ⟨u0, rfl, s_name, r0, p0⟩ := hL2
        clear s_name p0
        obtain ⟨a0, cap0, eu0, _⟩ := id r0
        rw [length_strsV] at eu0
        subst eu0
        clear r0
        have e0 : wr.cell? ⟨b, off + k * 5, none⟩ = some (.string d.name) := hcell2 0 (by simp)
        have e1 : wr.cell? ⟨b, off + k * 5 + 1, none⟩ = some (.int .i64 d.vA) := hcell2 1 (by simp)
        have e2 : wr.cell? ⟨b, off + k * 5 + 2, none⟩ = some (.int .i64 d.vB) := hcell2 2 (by simp)
        have e3 : wr.cell? ⟨b, off + k * 5 + 3, none⟩ = some (.int .i64 d.vC) := hcell2 3 (by simp)
        have e4 : wr.cell? ⟨b, off + k * 5 + 4, none⟩ = some (.slice a0 d.vP.length cap0) := hcell2 4 (by simp)
        have HC2 := hidden HC
        clear hcell2 HC
        by_cases hpn : p < 0
        · go_wp2_with (go_at_call 14; refine HC2.out.mono ?_; rintro e w1 ⟨rfl, hb1⟩)
          go_ret
          have e : leftW (wtRow wtPick xs) left = -1 := by
            have h2 := HP.out; have h3 := hq.out; have h4 := HW.out; have h5 := HSP.out
            refine leftW_bad ?_
            by_cases h6 : ((wtPick d : Nat) : Int) ≤ q
            · rw [leftW_good h6] at h2; omega
            · omega
          exact ⟨by rw [e]; rfl, hbr.trans (hb1.mono hbr.size)⟩
        · go_wp2_with (go_at_call 14; refine HC2.out.mono ?_; rintro e w1 ⟨rfl, hb1⟩)
          go_roundw
          case rel =>
            have h2 := HP.out; have h3 := hq.out; have h4 := HW.out
            have h6 : ((wtPick d : Nat) : Int) ≤ q := by
              by_cases h6 : ((wtPick d : Nat) : Int) ≤ q
              · exact h6
              · rw [leftW_bad (by omega)] at h2; omega
            rw [leftW_good h6] at h2
            exact ⟨k + 1, p, by omega, by go_num, rfl, by omega, by omega, (by show _ = _; omega), hbr.trans (hb1.mono hbr.size)⟩
          case measure => simp [intOf]; omega
      · have he : k = xs.length := by omega
        subst he
        clear ha
        go_wp2_with fail
        go_ret
        have e : leftW (wtRow wtPick xs) left = q := by
          have h3 := hq.out
          rw [List.take_length] at h3
          rw [leftW_good (by omega)]; omega
        exact ⟨by rw [e]; rfl, hbr⟩

end Go.Proofs.YthmilkcghfaecaaDoor

/-! Entries that lie in memory: what they are: no condition. -/
namespace Go.Proofs.YthmilkcghfaecaaDoor
open Go.RowKit
set_option linter.unusedSimpArgs false
set_option linter.unusedVariables false

structure EntryD where
  name : ByteArray
  vA : Int
  vB : Int
  vC : Int
  vP : List ByteArray
  needs : List NeedD
def wtEntry (d : EntryD) : Nat := d.name.size + bulkS d.vP + wtRow wtNeed d.needs
def shEntry : Sh EntryD where
  n := 6
  lies S w cs d := ∃ u0 u1, cs = [.string d.name, .int .i64 d.vA, .int .i64 d.vB, .int .i64 d.vC, u0, u1] ∧ d.name.size ≤ maxLen ∧ RdB S w u0 (strsV d.vP) ∧ saneP d.vP ∧ RowIn shNeed S w u1 d.needs
  keep hk h := by obtain ⟨u0, u1, h0, h1, h2, h3, h4⟩ := h; exact ⟨u0, u1, h0, h1, h2.keep hk, h3, h4.keep hk⟩
  mono hS h := by obtain ⟨u0, u1, h0, h1, h2, h3, h4⟩ := h; exact ⟨u0, u1, h0, h1, h2.mono hS, h3, h4.mono hS⟩
end Go.Proofs.YthmilkcghfaecaaDoor

/-! Copies of needs and commands, and of rows of them, in memory of their own, as the law makes them: contracts for the walks; condition: what is copied holds at most 2 to the 20. -/
namespace Go.Proofs.YthmilkcghfaecaaDoor
open Go.RowKit
set_option linter.unusedSimpArgs false
set_option linter.unusedVariables false

theorem owns_sliceP {w : World} {lo : Nat} {e : TypeId} {sz n : Nat} {v : Value} {xs : List Value} (hg : w.ownsRow lo e sz v n xs) : ∃ q cap, v = .slice q n cap := by
  rcases hg.2 with ⟨h1, h2⟩ | ⟨g, cap, cur, h1, _⟩
  · exact ⟨none, 0, by rw [h1, h2]⟩
  · exact ⟨_, _, h1⟩
theorem StrsOwn.slice {S : Nat → Prop} {w : World} {u : Value} {ss : List ByteArray} (h : StrsOwn S w u ss) : ∃ q cap, u = .slice q ss.length cap := owns_sliceP h.1
theorem RowOwn.slice {α : Type} {sh : Sh α} {t : TypeId} {S : Nat → Prop} {w : World} {v : Value} {xs : List α} (h : RowOwn sh t S w v xs) : ∃ q cap, v = .slice q xs.length cap := by
  obtain ⟨_, ys, h1, _⟩ := h; exact owns_sliceP h1

end Go.Proofs.YthmilkcghfaecaaDoor

/-! Copies in memory of their own, as the law makes them: contracts for the walks; condition: what is copied holds at most 2 to the 20. -/
namespace Go.Proofs.YthmilkcghfaecaaDoor
open Go.RowKit
set_option linter.unusedSimpArgs false
set_option linter.unusedVariables false

set_option maxHeartbeats 2000000 in
set_option maxRecDepth 100000 in
theorem toVerO_c (a b c : Int) (u : Value) (ps : List ByteArray) (w : World) (hu : Reads w u (strsV ps)) (hn : ps.length ≤ 1048576) :
    Calls Tryd.prog 35 #[.agg #[.int .i64 a, .int .i64 b, .int .i64 c, u]] w fun e w' => ∃ g, e = .returned (.agg #[.int .i64 a, .int .i64 b, .int .i64 c, .slice (some ⟨g, 0, none⟩) ps.length ps.length]) ∧ StrsOwn (Ow w.heap.size w'.heap.size) w' (.slice (some ⟨g, 0, none⟩) ps.length ps.length) ps ∧ Below w.heap.size w w' := by
  have huA : ∀ w1, Below w.heap.size w w1 → Reads w1 u (strsV ps) := fun w1 h1 => hu.below h1
  obtain ⟨q, cap, rfl, _, _⟩ := reads_strs hu
  clear hu
  go_enter Tryd.func35, Tryd.ntmps35
  have hb3 : ∀ A R O, Below w.heap.size w (((w.alloc A).alloc R).alloc O) := fun A R O => (((Below.refl _ _).alloc (Nat.le_refl _) _).alloc (by simp) _).alloc (by simp; omega) _
  go_wp2_with (
    go_at_call 57
    refine (toStrs_c _ ps _ (huA _ (hb3 _ _ _)) (by omega)).mono ?_
    rintro e w1 ⟨g, rfl, hM, hb1⟩
    obtain ⟨hA, hR, hO⟩ := vthree hb1
    have o0 := vblk_cell hO 0
    have o1 := vblk_cell hO 1
    have o2 := vblk_cell hO 2
    have o3 := vblk_cell hO 3
    have r0 := vblk_cell hR 0
    have r1 := vblk_cell hR 1
    have r2 := vblk_cell hR 2
    have r3 := vblk_cell hR 3
    have fo := vblk_frozen hO
    have fr := vblk_frozen hR
    simp only [List.getElem?_toArray, List.getElem?_cons_succ, List.getElem?_cons_zero] at o0 o1 o2 o3 r0 r1 r2 r3)
  have s3 : ∀ A R O, (((w.alloc A).alloc R).alloc O).heap.size = w.heap.size + 1 + 1 + 1 := fun A R O => by simp
  rw [s3] at hb1 hM
  have hN : w.heap.size + 1 + 1 + 1 ≤ w1.heap.size := by have := hb1.size; rw [s3] at this; exact this
  refine bodyPost_ret (v := .agg #[.int .i64 a, .int .i64 b, .int .i64 c, .slice (some ⟨g, 0, none⟩) ps.length ps.length]) (by simp [results, Tryd.results35, go_sem, o0, o1, o2, o3, r0, r1, r2, r3]) rfl ⟨_, rfl, ?_, ?_⟩
  · have hX : ∀ {W : World}, W.ownsRow (w.heap.size + 1 + 1 + 1) 9 1 (.slice (some ⟨g, 0, none⟩) ps.length ps.length) ps.length (strsV ps) → StrsOwn (Ow w.heap.size W.heap.size) W (.slice (some ⟨g, 0, none⟩) ps.length ps.length) ps := fun h => ⟨owns_lo (Nat.zero_le _) h, fun b hb => Ow.mono (by omega) (Nat.le_refl _) b (owns_in h b hb)⟩
    refine hX ?_
    refine owns_set (owns_set (owns_set (owns_set (owns_set hM ?_ _) ?_ _) ?_ _) ?_ _) ?_ _ <;> simp
  · have b1 := ((hb3 _ _ _).trans (hb1.mono (by omega)))
    refine Below.setCell (Below.setCell (Below.setCell (Below.setCell (Below.setCell b1 ?_ _) ?_ _) ?_ _) ?_ _) ?_ _ <;> simp <;> omega

end Go.Proofs.YthmilkcghfaecaaDoor

/-! Copies in memory of their own, as the law makes them: contracts for the walks; condition: what is copied holds at most 2 to the 20. -/
namespace Go.Proofs.YthmilkcghfaecaaDoor
open Go.RowKit
set_option linter.unusedSimpArgs false
set_option linter.unusedVariables false

set_option maxHeartbeats 2000000 in
set_option maxRecDepth 100000 in
theorem toPick_c (S : Nat → Prop) (d : PickD) (cs : List Value) (w : World) (hd : shPick.lies S w cs d) (hB : ∀ b, S b → b < w.heap.size) (hw : wtPick d ≤ 1048576) :
    Calls Tryd.prog 17 #[.agg cs.toArray] w fun e w' => ∃ cs', e = .returned (.agg cs'.toArray) ∧ shPickO.lies (Ow w.heap.size w'.heap.size) w' cs' d ∧ Below w.heap.size w w' := by
  obtain ⟨u0, rfl, s_name, r0, p0⟩ := hd
  have hb3 : ∀ A R O, Below w.heap.size w (((w.alloc A).alloc R).alloc O) := fun A R O => (((Below.refl _ _).alloc (Nat.le_refl _) _).alloc (by simp) _).alloc (by simp; omega) _
  unfold wtPick at hw
  have HS0 : Hid (∀ w1, Below w.heap.size w w1 → Calls Tryd.prog 35 #[.agg #[.int .i64 d.vA, .int .i64 d.vB, .int .i64 d.vC, u0]] w1 fun e w' => ∃ g, e = .returned (.agg #[.int .i64 d.vA, .int .i64 d.vB, .int .i64 d.vC, .slice (some ⟨g, 0, none⟩) d.vP.length d.vP.length]) ∧ StrsOwn (Ow w1.heap.size w'.heap.size) w' (.slice (some ⟨g, 0, none⟩) d.vP.length d.vP.length) d.vP ∧ Below w1.heap.size w1 w') := fun w1 hb =>
    toVerO_c _ _ _ u0 d.vP w1 ((r0.keep (.of hb hB)).reads (fun b h => Nat.lt_of_lt_of_le (hB b h) hb.size)) (by unfold bulkS at hw; omega)
  obtain ⟨a0, cap0, eu0, _⟩ := id r0
  rw [length_strsV] at eu0
  subst eu0
  clear r0
  go_enter Tryd.func17, Tryd.ntmps17
  go_wp2_with fail
  go_at_call 35
  refine (HS0.out _ (hb3 _ _ _)).mono ?_
  rintro e w1 ⟨g1, rfl, R0, b1⟩
  obtain ⟨hA1, hR1, hO1⟩ := vthree b1
  have s3 : ∀ A R O, (((w.alloc A).alloc R).alloc O).heap.size = w.heap.size + 1 + 1 + 1 := fun A R O => by simp
  rw [s3] at b1 R0
  have m1 : w.heap.size + 3 ≤ w1.heap.size := by have := b1.size; rw [s3] at this; omega
  have kw1 : Below w.heap.size w w1 := (hb3 _ _ _).trans (b1.mono (by omega))
  replace R0 := R0.mono (S' := Ow (w.heap.size + 3) w1.heap.size) (Ow.mono (by omega) (Nat.le_refl _))
  have m1' : w.heap.size + 3 ≤ w1.heap.size := by omega
  have o0 := vblk_cell hO1 0
  have q0 := vblk_cell hR1 0
  have y0 := vblk_cell hA1 0
  have o1 := vblk_cell hO1 1
  have q1 := vblk_cell hR1 1
  have y1 := vblk_cell hA1 1
  have o2 := vblk_cell hO1 2
  have q2 := vblk_cell hR1 2
  have y2 := vblk_cell hA1 2
  have o3 := vblk_cell hO1 3
  have q3 := vblk_cell hR1 3
  have y3 := vblk_cell hA1 3
  have o4 := vblk_cell hO1 4
  have q4 := vblk_cell hR1 4
  have y4 := vblk_cell hA1 4
  have fo := vblk_frozen hO1
  have fr := vblk_frozen hR1
  simp only [List.getElem?_toArray, List.getElem?_cons_succ, List.getElem?_cons_zero, List.setIfInBounds_toArray, List.set_cons_succ, List.set_cons_zero] at o0 q0 y0 o1 q1 y1 o2 q2 y2 o3 q3 y3 o4 q4 y4
  go_wp2_with fail
  refine bodyPost_ret (v := .agg #[.string d.name, .int .i64 d.vA, .int .i64 d.vB, .int .i64 d.vC, .slice (some ⟨g1, 0, none⟩) d.vP.length d.vP.length]) (by simp [results, Tryd.results17, go_sem, o0, q0, o1, q1, o2, q2, o3, q3, o4, q4]) rfl ⟨[.string d.name, .int .i64 d.vA, .int .i64 d.vB, .int .i64 d.vC, .slice (some ⟨g1, 0, none⟩) d.vP.length d.vP.length], rfl, ?_, ?_⟩
  · have hS : ∀ {W : World}, w1.heap.size ≤ W.heap.size → ∀ b, Ow (w.heap.size + 3) w1.heap.size b → Ow w.heap.size W.heap.size b := fun h => Ow.mono (by omega) h
    refine ⟨_, rfl, s_name, (R0.keep ?_).mono (hS ?_), p0⟩
    all_goals first
      | (simp [World.setCell]; done)
      | ((repeat (refine Kp.trans ?_ (Kp.set (Ow.not (by omega))))); exact fun b hb => rfl)
  · refine ?_
    (repeat (refine Below.setCell ?_ (by simp <;> omega) _))
    exact kw1

set_option maxHeartbeats 2000000 in
set_option maxRecDepth 100000 in
theorem infoPick : (Tryd.prog.info? 42).map (fun i => (i.zero, i.size, i.bytes)) = some (some (.agg #[.string ⟨#[]⟩, .int .i64 0, .int .i64 0, .int .i64 0, .slice none 0 0]), 5, 64) := by kernel_rfl
set_option maxHeartbeats 2000000 in
set_option maxRecDepth 100000 in
theorem toPickS_c (S : Nat → Prop) (v : Value) (xs : List PickD) (w : World) (hv : RowIn shPick S w v xs) (hB : ∀ b, S b → b < w.heap.size) (hw : wtRow wtPick xs ≤ 1048576) :
    Calls Tryd.prog 7 #[v] w fun e w' => ∃ g, e = .returned (.slice (some ⟨g, 0, none⟩) xs.length xs.length) ∧ RowOwn shPickO 42 (Ow w.heap.size w'.heap.size) w' (.slice (some ⟨g, 0, none⟩) xs.length xs.length) xs ∧ Below w.heap.size w w' := by
  obtain ⟨a, cap, rfl, hl, hc, ha⟩ := hv
  have hn := len_wtRow wtPick xs
  have hlm : xs.length ≤ maxLen := hl
  unfold maxLen at hl
  obtain ⟨i0, hi, hz0, hz1, hz2⟩ := info_parts infoPick
  go_enter Tryd.func7, Tryd.ntmps7
  go_wp2_with (first
    | (at_make; refine wpList_make_full _ rfl _ _ 25 rfl w.heap.size 42 i0 _ 5 Tryd.underlying25 hi hz0 hz1 _ _ _ _ xs.length rfl rfl rfl rfl (by rw [hz2]; omega) (by unfold maxLen; omega) (Nat.le_refl _) ?_))
  intro w1 hown hgrow
  have hb1 := below_of_grown hgrow
  have hs1 : w.heap.size + 1 ≤ w1.heap.size := by
    rcases hown.2 with ⟨h, _⟩ | ⟨g, cap, cur, h, _, hg, _⟩
    · simp at h
    · simp at h
      have := (Array.getElem?_eq_some_iff.1 hg).1
      omega
  obtain ⟨ys1, hown1⟩ : ∃ ys, w1.ownsRow w.heap.size 42 5 (.slice (some ⟨w.heap.size, 0, none⟩) xs.length xs.length) xs.length ys := ⟨_, hown⟩
  clear hgrow hown
  go_wp2_with fail
  go_loopw [4] (fun vi wr => ∃ (k : Nat) (ys : List Value), k ≤ xs.length ∧ vi = .int .i64 (k : Int) ∧ wr.ownsRow w.heap.size 42 5 (.slice (some ⟨w.heap.size, 0, none⟩) xs.length xs.length) xs.length ys ∧ Hid (Laid shPickO (Ow (w.heap.size + 1) wr.heap.size) wr ys xs k) ∧ Below w.heap.size w wr ∧ w.heap.size + 1 ≤ wr.heap.size) (fun vi _ => xs.length - (intOf vi).toNat)
  case atStart => exact ⟨0, ys1, Nat.zero_le _, rfl, hown1, (fun i h h0 => by omega), hb1, hs1⟩
  case round =>
    obtain ⟨k, ys, hk, rfl, hownr, hy, hbr, hsr⟩ := hrel
    by_cases hlt' : k < xs.length
    · rcases ha with rfl | ⟨b, off, rfl, hlt, ha⟩
      · simp at hlt'
      obtain ⟨cs, hL, hcell⟩ := ha k hlt'
      have hL2 := shPick.keep (.of hbr hB) hL
      have hcell2 := hcell.keep (.of hbr hB) hlt
      have hBr : ∀ b, S b → b < wr.heap.size := fun b h => Nat.lt_of_lt_of_le (hB b h) hbr.size
      have hwt : wtPick xs[k] ≤ 1048576 := by have := wt_wtRow wtPick (List.getElem_mem hlt'); omega
      have hown2 : ∀ w2, Below wr.heap.size wr w2 → w2.ownsRow w.heap.size 42 5 (.slice (some ⟨w.heap.size, 0, none⟩) xs.length xs.length) xs.length ys := fun w2 h2 => hownr.kept (grown_of_below h2 none) (by simp [Value.ownBlock])
      have hlen := hownr.1
      have HC : Hid (∀ w2, Below wr.heap.size wr w2 → ∀ j, j < 5 → ∃ x, w2.cell? ⟨w.heap.size, k * 5 + j, none⟩ = some x) := fun w2 h2 j hj => ⟨ys.getD (k * 5 + j) undef, by rw [(hown2 w2 h2).cellAt _ (by omega)]; simp [List.getD_eq_getElem?_getD, show k * 5 + j < ys.length by omega]⟩
      have HF : Hid (∀ w2, Below wr.heap.size wr w2 → ∀ j, w2.frozen? ⟨w.heap.size, j, none⟩ = false) := fun w2 h2 j => (hown2 w2 h2).frozenAt j
      have HO : Hid (∀ w2, Below wr.heap.size wr w2 → w2.ownsRow w.heap.size 42 5 (.slice (some ⟨w.heap.size, 0, none⟩) xs.length xs.length) xs.length ys) := hown2
      have HST : Hid (∀ w2 cs, Below wr.heap.size wr w2 → cs.length = 5 → shPickO.lies (Ow (w.heap.size + 1) w2.heap.size) w2 cs xs[k] → Laid shPickO (Ow (w.heap.size + 1) (setW w2 w.heap.size (k * 5) cs).heap.size) (setW w2 w.heap.size (k * 5) cs) (putL ys (k * 5) cs) xs (k + 1)) := fun w2 cs h2 hc hr => hy.out.step (sh := shPickO) hlt' hlen h2 (by omega) hc hr
      obtain ⟨d, hd⟩ : ∃ d, d = xs[k] := ⟨_, rfl⟩
      rw [← hd] at hL2 hwt HST
      have HC1 := toPick_c S d cs wr hL2 hBr hwt
      clear ha hL hcell hd hown2 hi hz0 hz1 hz2 hown1 hb1 hlen hwt
      obtain ⟨u0, rfl, s_name, r0, p0⟩ := hL2
      clear s_name p0
      obtain ⟨a0, cap0, eu0, _⟩ := id r0
      rw [length_strsV] at eu0
      subst eu0
      clear r0
      have e0 : wr.cell? ⟨b, off + k * 5, none⟩ = some (.string d.name) := hcell2 0 (by simp)
      have e1 : wr.cell? ⟨b, off + k * 5 + 1, none⟩ = some (.int .i64 d.vA) := hcell2 1 (by simp)
      have e2 : wr.cell? ⟨b, off + k * 5 + 2, none⟩ = some (.int .i64 d.vB) := hcell2 2 (by simp)
      have e3 : wr.cell? ⟨b, off + k * 5 + 3, none⟩ = some (.int .i64 d.vC) := hcell2 3 (by simp)
      have e4 : wr.cell? ⟨b, off + k * 5 + 4, none⟩ = some (.slice a0 d.vP.length cap0) := hcell2 4 (by simp)
      have HC2 := hidden HC1
      have hki : (k : Int) < (xs.length : Int) := by omega
      clear hcell2 HC1
      go_wp2_with (go_at_call 17; refine HC2.out.mono ?_; rintro e w2 ⟨cs, rfl, hX, hb2⟩; have HX := hidden (HST.out w2 cs hb2 (by have h := hX; obtain ⟨u0, h9, s_name, r0, p0⟩ := h; rw [h9]; rfl) (shPickO.mono (Ow.mono hsr (Nat.le_refl _)) hX)); obtain ⟨u0, rfl, s_name, z0, p0⟩ := hX; obtain ⟨b0, bap0, ev0⟩ := z0.slice; subst ev0; obtain ⟨y0, d0⟩ := HC.out w2 hb2 0 (by omega); obtain ⟨y1, d1⟩ := HC.out w2 hb2 1 (by omega); obtain ⟨y2, d2⟩ := HC.out w2 hb2 2 (by omega); obtain ⟨y3, d3⟩ := HC.out w2 hb2 3 (by omega); obtain ⟨y4, d4⟩ := HC.out w2 hb2 4 (by omega); rw [Nat.add_zero] at d0; have f9 := HF.out w2 hb2)
      go_roundw
      case rel =>
        refine ⟨k + 1, _, by omega, by go_num, setW_owns [.string d.name, .int .i64 d.vA, .int .i64 d.vB, .int .i64 d.vC, .slice b0 d.vP.length bap0] w2 ys (k * 5) (HO.out w2 hb2), HX.out, setW_below (Nat.le_refl _) [.string d.name, .int .i64 d.vA, .int .i64 d.vB, .int .i64 d.vC, .slice b0 d.vP.length bap0] w2 w (k * 5) (hbr.trans (hb2.mono hbr.size)), ?_⟩
        have h9 := setW_size [.string d.name, .int .i64 d.vA, .int .i64 d.vB, .int .i64 d.vC, .slice b0 d.vP.length bap0] w2 w.heap.size (k * 5)
        have := hb2.size
        exact Nat.le_trans (show w.heap.size + 1 ≤ w2.heap.size by omega) (Nat.le_of_eq h9.symm)
      case measure => simp [intOf]; omega
    · have he : k = xs.length := by omega
      subst he
      clear ha
      go_wp2_with fail
      go_ret
      exact ⟨_, rfl, rowOwn_of hownr hlm hy.out, hbr⟩

end Go.Proofs.YthmilkcghfaecaaDoor

/-! Needs and commands, and rows of them, that are the same are told so by the law's own comparison: contracts for what lies in memory and holds at most 2 to the 20. -/
namespace Go.Proofs.YthmilkcghfaecaaDoor
open Go.RowKit
set_option linter.unusedSimpArgs false
set_option linter.unusedVariables false

theorem boxTwo {w w1 : World} {A R : Obj} (hb : Below ((w.alloc A).alloc R).heap.size ((w.alloc A).alloc R) w1) : w1.heap[w.heap.size]? = some A ∧ w1.heap[w.heap.size + 1]? = some R := by
  have s1 : (w.alloc A).heap.size = w.heap.size + 1 := by simp
  refine ⟨?_, ?_⟩
  · rw [hb.block _ (by simp; omega), vheap_old _ _ (by simp), vheap_new]
  · rw [hb.block _ (by simp), ← s1, vheap_new]

end Go.Proofs.YthmilkcghfaecaaDoor

/-! What is the same is told so by the law's own comparison: contracts for what lies in memory and holds at most 2 to the 20. -/
namespace Go.Proofs.YthmilkcghfaecaaDoor
open Go.RowKit
set_option linter.unusedSimpArgs false
set_option linter.unusedVariables false

set_option maxHeartbeats 2000000 in
set_option maxRecDepth 100000 in
theorem eqPick_c (S S' : Nat → Prop) (d : PickD) (cs cs' : List Value) (w : World) (hd : shPick.lies S w cs d) (hd' : shPick.lies S' w cs' d) (hB : ∀ b, S b → b < w.heap.size) (hB' : ∀ b, S' b → b < w.heap.size) (hw : wtPick d ≤ 1048576) :
    Calls Tryd.prog 22 #[.agg cs.toArray, .agg cs'.toArray] w fun e w' => e = .returned (.bool true) ∧ Below w.heap.size w w' := by
  obtain ⟨xu0, rfl, xs_name, xr0, xp0⟩ := hd
  obtain ⟨yu0, rfl, ys_name, yr0, yp0⟩ := hd'
  have hb2 : ∀ A R, Below w.heap.size w ((w.alloc A).alloc R) := fun A R => ((Below.refl _ _).alloc (Nat.le_refl _) _).alloc (by simp) _
  unfold wtPick at hw
  have HS0 : Hid (∀ w1, Below w.heap.size w w1 → Calls Tryd.prog 44 #[.agg #[.int .i64 d.vA, .int .i64 d.vB, .int .i64 d.vC, xu0], .agg #[.int .i64 d.vA, .int .i64 d.vB, .int .i64 d.vC, yu0]] w1 fun e w' => e = .returned (.bool true) ∧ Below w1.heap.size w1 w') := fun w1 hb =>
    eqVer_c _ _ _ xu0 yu0 d.vP w1 ((xr0.keep (.of hb hB)).reads (fun b h => Nat.lt_of_lt_of_le (hB b h) hb.size)) ((yr0.keep (.of hb hB')).reads (fun b h => Nat.lt_of_lt_of_le (hB' b h) hb.size)) (by unfold bulkS at hw; omega)
  obtain ⟨xa0, xc0, xe0, _⟩ := id xr0
  rw [length_strsV] at xe0
  subst xe0
  clear xr0
  obtain ⟨ya0, yc0, ye0, _⟩ := id yr0
  rw [length_strsV] at ye0
  subst ye0
  clear yr0
  go_enter Tryd.func22, Tryd.ntmps22
  go_wp2_with fail
  go_at_call 44
  refine (HS0.out _ (hb2 _ _)).mono ?_
  rintro e w1 ⟨rfl, b1⟩
  obtain ⟨hA1, hR1⟩ := boxTwo b1
  have k1 : Below w.heap.size w w1 := (hb2 _ _).trans (b1.mono (hb2 _ _).size)
  go_wp2_with fail
  go_ret
  exact ⟨rfl, k1⟩

set_option maxHeartbeats 2000000 in
set_option maxRecDepth 100000 in
theorem eqPickS_c (S S' : Nat → Prop) (v u : Value) (xs : List PickD) (w : World) (hv : RowIn shPick S w v xs) (hv' : RowIn shPick S' w u xs) (hB : ∀ b, S b → b < w.heap.size) (hB' : ∀ b, S' b → b < w.heap.size) (hw : wtRow wtPick xs ≤ 1048576) :
    Calls Tryd.prog 9 #[v, u] w fun e w' => e = .returned (.bool true) ∧ Below w.heap.size w w' := by
  obtain ⟨a, cap, rfl, hl, hc, ha⟩ := hv
  obtain ⟨a', cap', rfl, _, hc', ha'⟩ := hv'
  unfold maxLen at hl
  go_enter Tryd.func9, Tryd.ntmps9
  go_wp2_with fail
  go_loopw [5] (fun vi wr => ∃ k : Nat, k ≤ xs.length ∧ vi = .int .i64 (k : Int) ∧ Below w.heap.size w wr) (fun vi _ => xs.length - (intOf vi).toNat)
  case atStart => exact ⟨0, Nat.zero_le _, rfl, Below.refl _ _⟩
  case round =>
    obtain ⟨k, hk, rfl, hbr⟩ := hrel
    by_cases hlt' : k < xs.length
    · rcases ha with rfl | ⟨b, off, rfl, hlt, ha⟩
      · simp at hlt'
      rcases ha' with rfl | ⟨b', off', rfl, hlt3, ha'⟩
      · simp at hlt'
      obtain ⟨cs, hL, hcell⟩ := ha k hlt'
      obtain ⟨cs', hL', hcell'⟩ := ha' k hlt'
      have hwt : wtPick xs[k] ≤ 1048576 := by have := wt_wtRow wtPick (List.getElem_mem hlt'); omega
      have HC := eqPick_c S S' xs[k] cs cs' wr.drew (shPick.keep (.of hbr.drew hB) hL) (shPick.keep (.of hbr.drew hB') hL') (fun b h => Nat.lt_of_lt_of_le (hB b h) hbr.size) (fun b h => Nat.lt_of_lt_of_le (hB' b h) hbr.size) hwt
      replace hL := shPick.keep (.of hbr hB) hL
      replace hL' := shPick.keep (.of hbr hB') hL'
      replace hcell := hcell.keep (.of hbr hB) hlt
      replace hcell' := hcell'.keep (.of hbr hB') hlt3
      obtain ⟨d, hd⟩ : ∃ d, d = xs[k] := ⟨_, rfl⟩
      rw [← hd] at hL hL' hwt
      clear ha ha' hd
      obtain ⟨xu0, rfl, xs_name, xr0, xp0⟩ := hL
      obtain ⟨yu0, rfl, ys_name, yr0, yp0⟩ := hL'
      clear xs_name xp0 ys_name yp0
      obtain ⟨xa0, xc0, xe0, _⟩ := id xr0
      rw [length_strsV] at xe0
      subst xe0
      clear xr0
      have xv0 : wr.cell? ⟨b, off + k * 5, none⟩ = some (.string d.name) := hcell 0 (by simp)
      have xv1 : wr.cell? ⟨b, off + k * 5 + 1, none⟩ = some (.int .i64 d.vA) := hcell 1 (by simp)
      have xv2 : wr.cell? ⟨b, off + k * 5 + 2, none⟩ = some (.int .i64 d.vB) := hcell 2 (by simp)
      have xv3 : wr.cell? ⟨b, off + k * 5 + 3, none⟩ = some (.int .i64 d.vC) := hcell 3 (by simp)
      have xv4 : wr.cell? ⟨b, off + k * 5 + 4, none⟩ = some (.slice xa0 d.vP.length xc0) := hcell 4 (by simp)
      obtain ⟨ya0, yc0, ye0, _⟩ := id yr0
      rw [length_strsV] at ye0
      subst ye0
      clear yr0
      have yv0 : wr.cell? ⟨b', off' + k * 5, none⟩ = some (.string d.name) := hcell' 0 (by simp)
      have yv1 : wr.cell? ⟨b', off' + k * 5 + 1, none⟩ = some (.int .i64 d.vA) := hcell' 1 (by simp)
      have yv2 : wr.cell? ⟨b', off' + k * 5 + 2, none⟩ = some (.int .i64 d.vB) := hcell' 2 (by simp)
      have yv3 : wr.cell? ⟨b', off' + k * 5 + 3, none⟩ = some (.int .i64 d.vC) := hcell' 3 (by simp)
      have yv4 : wr.cell? ⟨b', off' + k * 5 + 4, none⟩ = some (.slice ya0 d.vP.length yc0) := hcell' 4 (by simp)
      have HC2 := hidden HC
      have hki : (k : Int) < (xs.length : Int) := by omega
      clear hcell hcell' HC hwt
      go_wp2_with fail
      go_region_with (go_at_call 22; refine HC2.out.mono ?_; rintro e w2 ⟨rfl, hb2⟩)
      all_goals go_wp2_with fail
      all_goals go_roundw
      all_goals first
        | exact ⟨k + 1, by omega, by go_num, hbr.drew.trans (hb2.mono hbr.size)⟩
        | (simp [intOf]; omega)
    · have he : k = xs.length := by omega
      subst he
      clear ha ha'
      go_wp2_with fail
      go_ret
      exact ⟨rfl, hbr⟩

end Go.Proofs.YthmilkcghfaecaaDoor

/-! The law on LockText, walked: whatever comes in, the program and the specification answer alike and nothing is written into an argument; condition: what comes in lies in memory, and the library's table of powers of ten holds what it is laid with. -/
namespace Go.Proofs.YthmilkcghfaecaaDoor
open Go.RowKit
set_option linter.unusedSimpArgs false
set_option linter.unusedVariables false

set_option maxHeartbeats 8000000 in
set_option maxRecDepth 100000 in
theorem lockText_walk (a0 : Value) (z0 : List PickD) (w : World) (r0 : RowIn shPick (· < w.heap.size) w a0 z0) (htab : Lib.TabIs Tryd.prog w "internal/strconv.uint64pow10" .u64 Lib.pow10Tab) :
    Calls Tryd.prog 3 #[a0] w fun e w' => e = .returned (.bool true) ∧ Below w.heap.size w w' := by
  have hin : ∀ w1, Below w.heap.size w w1 → RowIn shPick (· < w1.heap.size) w1 a0 z0 := fun w1 h => r0.below h
  have HZ : Hid (∀ w1, Below w.heap.size w w1 → Calls Tryd.prog 5 #[a0, .int .i64 1048576] w1 fun e w' => e = .returned (.int .i64 (leftW (wtRow wtPick z0) 1048576)) ∧ Below w1.heap.size w1 w') := fun w1 h => szPickS_c _ _ z0 _ (by omega) (by omega) w1 (hin w1 h) (fun b h => h)
  obtain ⟨q0, cap0, hq0⟩ := r0.slice
  subst hq0
  by_cases hbig : 1048576 < wtRow wtPick z0
  · have e1 : leftW (wtRow wtPick z0) 1048576 = -1 := leftW_bad (by omega)
    rw [e1] at HZ
    clear e1 hin r0 htab
    go_enter Tryd.func3, Tryd.ntmps3
    go_wp2_with (go_at_call 5; refine (HZ.out _ (Below.refl _ _)).mono ?_; rintro e w1 ⟨rfl, hb1⟩)
    go_ret
    exact ⟨rfl, hb1⟩
  have hwt : wtRow wtPick z0 ≤ 1048576 := by omega
  have hwe : ∀ d ∈ z0, wtPick d ≤ 1048576 := fun d hd => Nat.le_trans (wt_wtRow wtPick hd) hwt
  obtain ⟨p, hp⟩ : ∃ p, p = leftW (wtRow wtPick z0) 1048576 := ⟨_, rfl⟩
  rw [← hp] at HZ
  have hp0 : 0 ≤ p := by rw [hp, leftW_good (by omega)]; omega
  clear hp
  obtain ⟨T, hT⟩ : ∃ T, T = lockT z0 := ⟨_, rfl⟩
  have HT : Hid (∀ w1, Below w.heap.size w w1 → Calls Tryd.prog 7 #[.slice q0 z0.length cap0] w1 fun e w' => ∃ g, e = .returned (.slice (some ⟨g, 0, none⟩) z0.length z0.length) ∧ RowOwn shPickO 42 (Ow w1.heap.size w'.heap.size) w' (.slice (some ⟨g, 0, none⟩) z0.length z0.length) z0 ∧ Below w1.heap.size w1 w') := fun w1 h => toPickS_c _ _ z0 w1 (hin w1 h) (fun b h => h) hwt
  have HSP : Hid (∀ w1 g lo, RowOwn shPickO 42 (Ow lo w1.heap.size) w1 (.slice (some ⟨g, 0, none⟩) z0.length z0.length) z0 → Calls Tryd.prog 6 #[.slice (some ⟨g, 0, none⟩) z0.length z0.length] w1 fun e w' => e = .returned (.string T) ∧ Below w1.heap.size w1 w') := fun w1 g lo h => by rw [hT]; exact specLockText_c (Ow lo w1.heap.size) _ z0 w1 (RowIn.as (sh := shPickO) (sh' := shPick) rfl (fun S w cs x h => liesPick_plain h) h.plain) (fun b hb => hb.2) hwe
  have HIM : Hid (∀ w1 g lo, Below w.heap.size w w1 → RowOwn shPickO 42 (Ow lo w1.heap.size) w1 (.slice (some ⟨g, 0, none⟩) z0.length z0.length) z0 → Calls Tryd.prog 8 #[.slice (some ⟨g, 0, none⟩) z0.length z0.length] w1 fun e w' => e = .returned (.string T) ∧ Below w1.heap.size w1 w') := fun w1 g lo hb h => by rw [hT]; exact implLockText_c (Ow lo w1.heap.size) _ z0 w1 (RowIn.as (sh := shPickO) (sh' := shPick) rfl (fun S w cs x h => liesPick_plain h) h.plain) (fun b hb => hb.2) hwe (tabIs_below hb htab)
  have HES : Hid (∀ W g g' l1 h1 l2 h2, RowOwn shPickO 42 (Ow l1 h1) W (.slice (some ⟨g, 0, none⟩) z0.length z0.length) z0 → h1 ≤ W.heap.size → RowOwn shPickO 42 (Ow l2 h2) W (.slice (some ⟨g', 0, none⟩) z0.length z0.length) z0 → h2 ≤ W.heap.size → Calls Tryd.prog 9 #[.slice (some ⟨g, 0, none⟩) z0.length z0.length, .slice (some ⟨g', 0, none⟩) z0.length z0.length] W fun e w' => e = .returned (.bool true) ∧ Below W.heap.size W w') := fun W g g' l1 h1 l2 h2 a c b d => eqPickS_c (Ow l1 h1) (Ow l2 h2) _ _ z0 W (RowIn.as (sh := shPickO) (sh' := shPick) rfl (fun S w cs x h => liesPick_plain h) a.plain) (RowIn.as (sh := shPickO) (sh' := shPick) rfl (fun S w cs x h => liesPick_plain h) b.plain) (fun b hb => Nat.lt_of_lt_of_le hb.2 c) (fun b hb => Nat.lt_of_lt_of_le hb.2 d) hwt
  clear hT hin r0 hbig hwe hwt htab
  go_enter Tryd.func3, Tryd.ntmps3
  go_wp2_with fail
  go_at_call 5
  refine (HZ.out _ (Below.refl _ _)).mono ?_
  rintro e w1 ⟨rfl, k1⟩
  clear HZ
  go_wp2_with fail
  go_at_call 7
  refine (HT.out _ k1).mono ?_
  rintro e w2 ⟨g2, rfl, o2, b2⟩
  have k2 := below_nextP k1 b2
  go_wp2_with fail
  go_at_call 6
  refine (HSP.out _ _ _ o2).mono ?_
  rintro e w3 ⟨rfl, b3⟩
  have k3 := below_nextP k2 b3
  clear o2 b2 b3 HSP
  go_wp2_with fail
  go_at_call 7
  refine (HT.out _ k3).mono ?_
  rintro e w4 ⟨g4, rfl, o4, b4⟩
  have k4 := below_nextP k3 b4
  go_wp2_with fail
  go_at_call 8
  refine (HIM.out _ _ _ k4 o4).mono ?_
  rintro e w5 ⟨rfl, b5⟩
  have k5 := below_nextP k4 b5
  have o5 := o4.keep (.of b5 (fun b hb => hb.2))
  have l5 := b5.size
  clear o4 HIM
  go_wp2_with fail
  go_at_call 7
  refine (HT.out _ k5).mono ?_
  rintro e w6 ⟨g6, rfl, o6, b6⟩
  have k6 := below_nextP k5 b6
  have o7 := o5.keep (.of b6 (fun b hb => Nat.lt_of_lt_of_le hb.2 l5))
  clear o5 HT
  go_wp2_with fail
  go_at_call 9
  refine (HES.out _ _ _ _ _ _ _ o7 (Nat.le_trans l5 b6.size) o6 (Nat.le_refl _)).mono ?_
  rintro e w7 ⟨rfl, b7⟩
  have k7 := below_nextP k6 b7
  go_wp2_with fail
  go_ret
  exact ⟨rfl, k7⟩
end Go.Proofs.YthmilkcghfaecaaDoor

/-! What comes in as a version of the laws' own type: three numbers, and a list of texts that lies in memory: no condition. -/
namespace Go.Proofs.YthmilkcghfaecaaDoor
open Go.ChangeShapes Go.WideShapes Go.ChangeAt Go.RowKit
set_option linter.unusedSimpArgs false
set_option linter.unusedVariables false

theorem vaddr_add (b off i : Nat) : ((⟨b, off, none⟩ : Addr).add i) = ⟨b, off + i, none⟩ := by unfold Addr.add; split <;> simp_all
theorem list4 {cs : List Value} (h : cs.length = 4) : ∃ c0 c1 c2 c3, cs = [c0, c1, c2, c3] := by
  match cs, h with
  | [c0, c1, c2, c3], _ => exact ⟨c0, c1, c2, c3, rfl⟩

theorem vreads_open {H : Type} {enc : TypeId × Value → H} {w : World} {spare : Nat → Bool} {held : Bool} {fuel : Nat} {c : Value} {x : DataW H × List MemPlace}
    (hf : DataW.trod enc Tryd.prog w 0 spare held fuel 34 [c] = some x) : ∃ ks, Reads w c (strsV ks) ∧ saneP ks := by
  rcases open_strings Tryd.underlying34 Tryd.underlying9 (by kernel_rfl) hf with ⟨hcs, _⟩ | ⟨x, l, cap, zs, hcs, _, hl, hm, hz, _, hcell, hwz⟩
  · simp at hcs
    subst hcs
    exact ⟨[], ⟨none, 0, rfl, Nat.le_refl _, .inl rfl⟩, by simp [saneP]⟩
  · simp at hcs
    subst hcs
    have hz' : l ≤ zs.length := by rw [hz]; split <;> omega
    have hlen : (zs.take l).length = l := by simp; omega
    refine ⟨zs.take l, ?_, by rw [hlen]; omega, fun s hs => hwz s (List.mem_of_mem_take hs)⟩
    by_cases h0 : l = 0
    · subst h0
      exact ⟨some x, cap, by simp [strsV], by simp [strsV], .inl (by simp [strsV])⟩
    · obtain ⟨b, off, spot⟩ := x
      have hc0 := hcell 0 (by omega)
      have hspot : spot = none := by simpa [Addr.add] using World.cell?_spot hc0
      subst hspot
      refine ⟨some ⟨b, off, none⟩, cap, by simp [strsV]; omega, by simp [strsV]; omega, .inr ⟨b, off, rfl, ?_, fun i hi => ?_⟩⟩
      · rw [vaddr_add] at hc0; exact World.block_lt_of_cell? w _ hc0
      · have hi' : i < l := by simp [strsV] at hi; omega
        have := hcell i (by omega)
        rw [vaddr_add] at this
        rw [this]
        simp [strsV, List.getD_eq_getElem?_getD, show i < zs.length by omega]

set_option maxRecDepth 100000 in
theorem ver_of_trod {H : Type} {enc : TypeId × Value → H} {w : World} {spare : Nat → Bool} {held : Bool} (fuel : Nat) (cs : List Value) (x : DataW H × List MemPlace)
    (h : DataW.trod enc Tryd.prog w 0 spare held fuel 36 cs = some x) : ∃ a b c u ps, cs = [.int .i64 a, .int .i64 b, .int .i64 c, u] ∧ Reads w u (strsV ps) ∧ saneP ps := by
  obtain ⟨xs, n, rfl, _, hlen, hxl, hf⟩ := DataW.trod_struct Tryd.underlying36 h
  have h4 : Tryd.prog.cellsOf 36 = 4 := by kernel_rfl
  obtain ⟨c0, c1, c2, c3, rfl⟩ := list4 (hlen.trans h4)
  have hx : ∀ i, i < 4 → ∃ y, xs[i]? = some y := fun i hi => ⟨xs[i]'(by rw [hxl]; exact hi), by rw [List.getElem?_eq_getElem]⟩
  obtain ⟨y0, e0⟩ := hx 0 (by omega)
  obtain ⟨y1, e1⟩ := hx 1 (by omega)
  obtain ⟨y2, e2⟩ := hx 2 (by omega)
  obtain ⟨y3, e3⟩ := hx 3 (by omega)
  have k3 : Tryd.prog.cellsOf 3 = 1 := by kernel_rfl
  have kS : Tryd.prog.cellsOf 34 = 1 := by kernel_rfl
  have f0 : DataW.trod enc Tryd.prog w 0 spare held n 3 [c0] = some y0 := by
    have h : DataW.trod enc Tryd.prog w 0 spare held n 3 ((([c0, c1, c2, c3] : List Value).drop 0).take (Tryd.prog.cellsOf 3)) = some y0 := (hf 0 _ rfl).trans e0
    rw [k3] at h; exact h
  have f1 : DataW.trod enc Tryd.prog w 0 spare held n 3 [c1] = some y1 := by
    have h : DataW.trod enc Tryd.prog w 0 spare held n 3 ((([c0, c1, c2, c3] : List Value).drop 1).take (Tryd.prog.cellsOf 3)) = some y1 := (hf 1 _ rfl).trans e1
    rw [k3] at h; exact h
  have f2 : DataW.trod enc Tryd.prog w 0 spare held n 3 [c2] = some y2 := by
    have h : DataW.trod enc Tryd.prog w 0 spare held n 3 ((([c0, c1, c2, c3] : List Value).drop 2).take (Tryd.prog.cellsOf 3)) = some y2 := (hf 2 _ rfl).trans e2
    rw [k3] at h; exact h
  have f3 : DataW.trod enc Tryd.prog w 0 spare held n 34 [c3] = some y3 := by
    have h : DataW.trod enc Tryd.prog w 0 spare held n 34 ((([c0, c1, c2, c3] : List Value).drop 3).take (Tryd.prog.cellsOf 34)) = some y3 := (hf 3 _ rfl).trans e3
    rw [kS] at h; exact h
  obtain ⟨k, hk, _, _⟩ := DataW.trod_int Tryd.underlying3 f0
  obtain ⟨m, hm, _, _⟩ := DataW.trod_int Tryd.underlying3 f1
  obtain ⟨r, hr, _, _⟩ := DataW.trod_int Tryd.underlying3 f2
  simp at hk hm hr
  subst hk hm hr
  obtain ⟨ks, hr, hsane⟩ := vreads_open f3
  exact ⟨_, _, _, _, _, rfl, hr, hsane⟩
#print axioms ver_of_trod
end Go.Proofs.YthmilkcghfaecaaDoor

/-! What comes in as packs of the laws' own type: packs that lie in memory: no condition. -/
namespace Go.Proofs.YthmilkcghfaecaaDoor
open Go.ChangeShapes Go.WideShapes Go.ChangeAt Go.RowKit
set_option linter.unusedSimpArgs false
set_option linter.unusedVariables false

theorem olist2 {cs : List Value} (h : cs.length = 2) : ∃ c0 c1, cs = [c0, c1] := by
  match cs, h with
  | [c0, c1], _ => exact ⟨c0, c1, rfl⟩
theorem olist4 {cs : List Value} (h : cs.length = 4) : ∃ c0 c1 c2 c3, cs = [c0, c1, c2, c3] := by
  match cs, h with
  | [c0, c1, c2, c3], _ => exact ⟨c0, c1, c2, c3, rfl⟩
theorem olist_of {α : Type} {P : Nat → α → Prop} : ∀ n, (∀ i, i < n → ∃ a, P i a) → ∃ l : List α, l.length = n ∧ ∀ i (h : i < l.length), P i l[i]
  | 0, _ => ⟨[], rfl, fun i h => by simp at h⟩
  | n + 1, h => by
    obtain ⟨l, hl, hp⟩ := olist_of n (fun i hi => h i (by omega))
    obtain ⟨a, ha⟩ := h n (by omega)
    refine ⟨l ++ [a], by simp [hl], fun i hi => ?_⟩
    by_cases h1 : i < l.length
    · rw [List.getElem_append_left h1]; exact hp i h1
    · have : i = n := by simp at hi; omega
      subst this
      rw [List.getElem_append_right (by omega)]
      simpa using ha

/-- A row that comes in, out of what its elements are. -/
theorem rows_of_trod {α H : Type} {P : Program} {enc : TypeId × Value → H} {w : World} {spare : Nat → Bool} {held : Bool} (sh : Sh α) {ts te : TypeId} (hu : P.underlying ts = some (.slice te)) (hn : P.cellsOf te = sh.n) (hpos : 0 < sh.n)
    (helem : ∀ n cs y, DataW.trod enc P w 0 spare held n te cs = some y → ∃ a, sh.lies (· < w.heap.size) w cs a) (fuel : Nat) (c : Value) (x : DataW H × List MemPlace)
    (h : DataW.trod enc P w 0 spare held fuel ts [c] = some x) : ∃ xs, RowIn sh (· < w.heap.size) w c xs := by
  rcases DataW.trod_slice hu h with ⟨hcs, _⟩ | ⟨a, len, cap, elems, rest, n', hn', hcs, _, _, hl, hcm, hel, hat, _, _⟩
  · simp at hcs
    subst hcs
    exact ⟨[], none, 0, rfl, by simp, Nat.le_refl _, .inl rfl⟩
  · simp at hcs
    subst hcs
    rw [hn] at hat
    have heach : ∀ i, i < len → ∃ q : α, ∃ cs, cs.length = sh.n ∧ sh.lies (· < w.heap.size) w cs q ∧ ∀ j (hj : j < cs.length), w.cell? ((a.add (i * sh.n)).add j) = some cs[j] := fun i hi => by
      have hb := hat i hi
      rw [List.getElem?_eq_getElem (by omega)] at hb
      obtain ⟨cs', hc1, hc2⟩ := Option.bind_eq_some_iff.1 hb
      obtain ⟨q, hq⟩ := helem _ cs' _ hc2
      obtain ⟨hb1, hl5, hcell⟩ := World.cells?_some hc1
      exact ⟨q, cs', hl5, hq, fun j hj => (hcell j (by omega)).trans (List.getElem?_eq_getElem hj)⟩
    obtain ⟨q, hq, hqp⟩ := olist_of len heach
    refine ⟨q, some a, cap, by rw [hq], by rw [hq]; omega, by rw [hq]; omega, ?_⟩
    by_cases h0 : len = 0
    · left; exact List.eq_nil_of_length_eq_zero (by omega)
    · right
      obtain ⟨b, off, spot⟩ := a
      obtain ⟨cs0, hl0, _, hc0⟩ := hqp 0 (by omega)
      have hc0 := hc0 0 (by omega)
      have hspot : spot = none := by
        have := World.cell?_spot hc0
        simpa [Addr.add] using this
      subst hspot
      refine ⟨b, off, rfl, ?_, fun i hi => ?_⟩
      · rw [vaddr_add, vaddr_add] at hc0; exact World.block_lt_of_cell? w _ hc0
      · obtain ⟨cs, h1, h2, h3⟩ := hqp i hi
        refine ⟨cs, h2, fun j hj => ?_⟩
        have := h3 j hj
        rw [vaddr_add, vaddr_add] at this
        exact this

end Go.Proofs.YthmilkcghfaecaaDoor

/-! What comes in of the laws' own type lies in memory: no condition. -/
namespace Go.Proofs.YthmilkcghfaecaaDoor
open Go.ChangeShapes Go.WideShapes Go.ChangeAt Go.RowKit
set_option linter.unusedSimpArgs false
set_option linter.unusedVariables false

theorem olist5 {cs : List Value} (h : cs.length = 5) : ∃ c0 c1 c2 c3 c4, cs = [c0, c1, c2, c3, c4] := by
  match cs, h with
  | [c0, c1, c2, c3, c4], _ => exact ⟨c0, c1, c2, c3, c4, rfl⟩
set_option maxRecDepth 100000 in
theorem pick_of_trod {H : Type} {enc : TypeId × Value → H} {w : World} {spare : Nat → Bool} {held : Bool} (fuel : Nat) (cs : List Value) (x : DataW H × List MemPlace)
    (h : DataW.trod enc Tryd.prog w 0 spare held fuel 38 cs = some x) : ∃ d : PickD, shPick.lies (· < w.heap.size) w cs d := by
  obtain ⟨xs, n, rfl, _, hlen, hxl, hf⟩ := DataW.trod_struct Tryd.underlying38 h
  have hN : Tryd.prog.cellsOf 38 = 5 := by kernel_rfl
  obtain ⟨c0, c1, c2, c3, c4, rfl⟩ := olist5 (hlen.trans hN)
  have hx : ∀ i, i < 2 → ∃ y, xs[i]? = some y := fun i hi => ⟨xs[i]'(by rw [hxl]; exact hi), by rw [List.getElem?_eq_getElem]⟩
  obtain ⟨y0, e0⟩ := hx 0 (by omega)
  have k0 : Tryd.prog.cellsOf 9 = 1 := by kernel_rfl
  have f0 : DataW.trod enc Tryd.prog w 0 spare held n 9 [c0] = some y0 := by
    have h : DataW.trod enc Tryd.prog w 0 spare held n 9 ((([c0, c1, c2, c3, c4] : List Value).drop 0).take (Tryd.prog.cellsOf 9)) = some y0 := (hf 0 _ rfl).trans e0
    rw [k0] at h; exact h
  obtain ⟨y1, e1⟩ := hx 1 (by omega)
  have k1 : Tryd.prog.cellsOf 36 = 4 := by kernel_rfl
  have f1 : DataW.trod enc Tryd.prog w 0 spare held n 36 [c1, c2, c3, c4] = some y1 := by
    have h : DataW.trod enc Tryd.prog w 0 spare held n 36 ((([c0, c1, c2, c3, c4] : List Value).drop 1).take (Tryd.prog.cellsOf 36)) = some y1 := (hf 1 _ rfl).trans e1
    rw [k1] at h; exact h
  obtain ⟨t0, ht0, _, hl0⟩ := DataW.trod_string Tryd.underlying9 f0
  simp at ht0
  subst ht0
  obtain ⟨va1, vb1, vc1, vu1, vp1, hv1, hr1, hs1⟩ := ver_of_trod n _ _ f1
  simp at hv1
  obtain ⟨rfl, rfl, rfl, rfl⟩ := hv1
  exact ⟨⟨t0, va1, vb1, vc1, vp1⟩, _, rfl, hl0, RdB.of hr1, hs1⟩
set_option maxRecDepth 100000 in
theorem picks_of_trod {H : Type} {enc : TypeId × Value → H} {w : World} {spare : Nat → Bool} {held : Bool} (fuel : Nat) (c : Value) (x : DataW H × List MemPlace)
    (h : DataW.trod enc Tryd.prog w 0 spare held fuel 22 [c] = some x) : ∃ xs, RowIn shPick (· < w.heap.size) w c xs :=
  rows_of_trod shPick Tryd.underlying22 (by kernel_rfl) (by decide) (fun n cs y hh => pick_of_trod n cs y hh) fuel c x h

end Go.Proofs.YthmilkcghfaecaaDoor
