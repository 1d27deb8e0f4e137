/-
  Contracts for the walks, several texts in one: each part says what it proves, and under which conditions.
-/
import Derived.Shelf.Strings.Builder1
import Derived.Shelf.Small.Utf8
import Derived.Shelf.Small.Bits
import Derived.Shelf.Small.Strs
import Derived.Shelf.Small.Wraps
import Derived.Shelf.Strings.BuilderF
import Derived.Shelf.Utf8.RuneCount
import Derived.Shelf.Strconv.Itoa0
import Derived.Shelf.Strconv.Itoa1
import Derived.Shelf.LaysM
import Derived.Shelf.Strconv.Itoa2
import Derived.Shelf.Strconv.Itoa3
import Derived.Shelf.Strconv.Clone
import Derived.Shelf.Strings.Search1
import Derived.Shelf.Strings.Search2
import Derived.Shelf.Strings.Search3
import Derived.Shelf.Strings.Cut
import Derived.Shelf.Strings.Count
import Derived.Shelf.Strings.Shaped
import Derived.Shelf.Strings.Prefix
import Derived.Shelf.Strings.Split
import Derived.Shelf.Strings.SplitShaped
import Derived.Shelf.Unicode.Decode
import Derived.Shelf.Strings.Runes
import Derived.Shelf.Strings.RuneCount
import Derived.Shelf.Strings.AsciiSet
import Derived.Shelf.Strings.Explode
import Derived.Shelf.Unicode.DecodeSlow
import Derived.Shelf.Unicode.DecodeAny
import Derived.Shelf.Unicode.DecodeLast
import Derived.Shelf.Slices.Equal
import Derived.Shelf.Slices.CompactS
import Derived.Ground.Names2Prog
import Derived.Shelf.Slices.SearchI
import Derived.Shelf.Slices.Cells
import Derived.Test.YtlfmefojcmpfeaaGreatDoorProg
import Derived.Laws.BytesArg
import Derived.Sort.Grow
import Derived.Lib.AppendIntMem
import Derived.Maps.AppendAt
import Derived.Test.YtlfmefojcmpfeaaGreatDoorQ2
import Derived.Test.YtlfmefojcmpfeaaGreatDoorQ1

/-! What all texts of a list make with another text between them, and what the two functions Join (the program's, by a Builder, and the specification's) answer: just that text; conditions: at most 2 to the 20 texts and letters in the list, and as many in the text between. -/
namespace Go.Proofs.YtlfmefojcmpfeaaGreatDoor
open Go.RowKit
set_option linter.unusedSimpArgs false
set_option linter.unusedVariables false

def joinUpto (ss : List ByteArray) (t : ByteArray) : Nat → ByteArray
  | 0 => ⟨#[]⟩
  | k + 1 => (if k = 0 then joinUpto ss t k else joinUpto ss t k ++ t) ++ ss.getD k ⟨#[]⟩
def joinS (ss : List ByteArray) (t : ByteArray) : ByteArray := joinUpto ss t ss.length

theorem joinUpto_size (ss : List ByteArray) (t : ByteArray) : ∀ k, k ≤ ss.length → (joinUpto ss t k).size ≤ k * t.size + ((ss.take k).map ByteArray.size).sum
  | 0, _ => by simp [joinUpto]; rfl
  | k + 1, h => by
    have ih := joinUpto_size ss t k (by omega)
    have hs := sum_take_succ ss k (by omega)
    have hg : ss.getD k ⟨#[]⟩ = ss[k] := by simp [List.getD_eq_getElem?_getD, show k < ss.length by omega]
    rw [joinUpto, ByteArray.size_append, hg, hs, Nat.succ_mul]
    split
    · omega
    · rw [ByteArray.size_append]; omega
theorem joinUpto_succ0 (ss : List ByteArray) (t : ByteArray) (h : 0 < ss.length) : joinUpto ss t 1 = joinUpto ss t 0 ++ ss[0] := by
  simp [joinUpto, List.getD_eq_getElem?_getD, h]
theorem joinUpto_succ (ss : List ByteArray) (t : ByteArray) (k : Nat) (hk : ¬ k = 0) (h : k < ss.length) : joinUpto ss t (k + 1) = joinUpto ss t k ++ t ++ ss[k] := by
  rw [joinUpto, if_neg hk]
  simp [List.getD_eq_getElem?_getD, h]

theorem join_bound (ss : List ByteArray) (t : ByteArray) (k : Nat) (hk : k ≤ ss.length) (hb : bulkS ss ≤ 1048576) (ht : t.size ≤ 1048576) : (joinUpto ss t k).size ≤ 1099512676352 := by
  have h1 := joinUpto_size ss t k hk
  have h2 := sum_take_le ss k
  have h3 : k * t.size ≤ 1048576 * 1048576 := Nat.mul_le_mul (by unfold bulkS at hb; omega) ht
  unfold bulkS at hb
  omega

set_option maxHeartbeats 1000000 in
set_option maxRecDepth 100000 in
theorem specJoin_c (v : Value) (ss : List ByteArray) (t : ByteArray) (w : World) (hv : Reads w v (strsV ss)) (hb : bulkS ss ≤ 1048576) (ht : t.size ≤ 1048576) :
    Calls Tryz.prog 202 #[v, .string t] w fun e w' => e = .returned (.string (joinS ss t)) ∧ w = w' := by
  obtain ⟨a, cap, rfl, _, hc⟩ := reads_strs hv
  clear hv
  have hn : ss.length ≤ 1048576 := by unfold bulkS at hb; omega
  rcases hc with rfl | ⟨b, off, rfl, hlt, hc⟩
  · go_enter Tryz.func202, Tryz.ntmps202
    go_wp2
    go_loop [5, 6] (fun vs vi => vs = .string ⟨#[]⟩ ∧ vi = .int .i64 0) (fun _ _ => 0)
    case atStart => exact ⟨rfl, rfl⟩
    case round =>
      obtain ⟨rfl, rfl⟩ := hrel
      go_wp2
      go_ret
      exact ⟨rfl, rfl⟩
  · go_enter Tryz.func202, Tryz.ntmps202
    go_wp2
    go_loop [5, 6] (fun vs vi => ∃ (k : Nat) (s : ByteArray), k ≤ ss.length ∧ vi = .int .i64 (k : Int) ∧ vs = .string s ∧ s.size ≤ 1099512676352 ∧ Hid (s = joinUpto ss t k)) (fun _ vi => ss.length - (intOf vi).toNat)
    case atStart => exact ⟨0, _, Nat.zero_le _, rfl, rfl, by decide, rfl⟩
    case round =>
      obtain ⟨k, s, hk, rfl, rfl, hsz, hs⟩ := hrel
      by_cases hlt' : k < ss.length
      · have hcx := hc k hlt'
        have hbk := join_bound ss t (k + 1) (by omega) hb ht
        have hki : (k : Int) < (ss.length : Int) := by omega
        have hu : ss[k].size ≤ 1048576 := by
          have h1 := sum_take_succ ss k hlt'; have h2 := sum_take_le ss (k + 1); unfold bulkS at hb; omega
        obtain ⟨u, hu'⟩ : ∃ u, u = ss[k] := ⟨_, rfl⟩
        by_cases hk0 : k = 0
        · have e : joinUpto ss t (k + 1) = joinUpto ss t k ++ ss[k] := by subst hk0; exact joinUpto_succ0 ss t hlt'
          rw [← hu'] at hcx hu e
          have HE : Hid (joinUpto ss t (k + 1) = joinUpto ss t k ++ u) := e
          have HK : Hid (k = 0) := hk0
          clear hc e hu' hk0
          go_wp2
          · exfalso; have := HK.out; omega
          go_round
          case rel => exact ⟨k + 1, s ++ u, by omega, by go_num, rfl, (by rw [hs.out, ← HE.out]; exact hbk), (by show _ = _; rw [HE.out, ← hs.out])⟩
          case measure => simp [intOf]; omega
        · have e := joinUpto_succ ss t k hk0 hlt'
          rw [← hu'] at hcx hu e
          have HE : Hid (joinUpto ss t (k + 1) = joinUpto ss t k ++ t ++ u) := e
          have hkp : (0 : Int) < (k : Int) := by omega
          have hst : (s ++ t).size = s.size + t.size := ByteArray.size_append
          clear hc e hu'
          go_wp2
          go_round
          case rel => exact ⟨k + 1, s ++ t ++ u, by omega, by go_num, rfl, (by rw [hs.out, ← HE.out]; exact hbk), (by show _ = _; rw [HE.out, ← hs.out])⟩
          case measure => simp [intOf]; omega
      · have he : k = ss.length := by omega
        subst he
        clear hc
        go_wp2
        go_ret
        exact ⟨by rw [joinS, ← hs.out]; rfl, rfl⟩

theorem strCells_append (a b : ByteArray) : Lib.strCells (a ++ b) = Lib.strCells a ++ Lib.strCells b := by
  simp [Lib.strCells, ByteArray.data_append]

theorem fresh_builder (w : World) : Lib.IsBuilder 155 5 w.heap.size w.heap.size [] (w.alloc (.cells #[.pointer none, .slice none 0 0] 155)) :=
  .inl ⟨Nat.le_refl _, .slice none 0 0, heap_alloc_new w _, World.ownsRow_nil _ _ _ _, by simp [Value.ownBlock]⟩

set_option maxHeartbeats 1000000 in
set_option maxRecDepth 100000 in
theorem implJoin_c (v : Value) (ss : List ByteArray) (t : ByteArray) (w : World) (hv : Reads w v (strsV ss)) (hb : bulkS ss ≤ 1048576) (ht : t.size ≤ 1048576) :
    Calls Tryz.prog 192 #[v, .string t] w fun e w' => e = .returned (.string (joinS ss t)) ∧ Below w.heap.size w w' := by
  obtain ⟨a, cap, rfl, _, hc⟩ := reads_strs hv
  clear hv
  have hn : ss.length ≤ 1048576 := by unfold bulkS at hb; omega
  have hfb := fresh_builder w
  rcases hc with rfl | ⟨b, off, rfl, hlt, hc⟩
  · go_enter Tryz.func192, Tryz.ntmps192
    go_wp2
    go_loopw [10] (fun vi wr => vi = .int .i64 0 ∧ wr = w.alloc (.cells #[.pointer none, .slice none 0 0] 155)) (fun _ _ => 0)
    case atStart => exact ⟨rfl, rfl⟩
    case round =>
      obtain ⟨rfl, hwr⟩ := hrel
      subst hwr
      go_wp2_with (go_at_call 124; refine (Tryz.Builder_String_any w.heap.size w.heap.size [] _ hfb (by simp)).mono ?_; rintro e w1 ⟨rfl, b1⟩)
      go_ret
      exact ⟨rfl, ((Below.refl _ _).alloc (Nat.le_refl _) _).trans b1⟩
  · go_enter Tryz.func192, Tryz.ntmps192
    go_wp2
    go_loopw [10] (fun vi wr => ∃ (k : Nat) (s : ByteArray), k ≤ ss.length ∧ vi = .int .i64 (k : Int) ∧ s.size ≤ 1099512676352 ∧ Hid (s = joinUpto ss t k) ∧ Lib.IsBuilder 155 5 w.heap.size w.heap.size (Lib.strCells s) wr ∧ Below w.heap.size w wr) (fun vi _ => ss.length - (intOf vi).toNat)
    case atStart => exact ⟨0, ⟨#[]⟩, Nat.zero_le _, rfl, by decide, rfl, hfb, (Below.refl _ _).alloc (Nat.le_refl _) _⟩
    case round =>
      obtain ⟨k, s, hk, rfl, hsz, hs, hB, hbr⟩ := hrel
      clear hfb
      by_cases hlt' : k < ss.length
      · have hcx : wr.cell? ⟨b, off + k, none⟩ = some (.string ss[k]) := (hbr.cell (p := ⟨b, off + k, none⟩) hlt).trans (hc k hlt')
        have hbk := join_bound ss t (k + 1) (by omega) hb ht
        have hki : (k : Int) < (ss.length : Int) := by omega
        have hu : ss[k].size ≤ 1048576 := by
          have h1 := sum_take_succ ss k hlt'; have h2 := sum_take_le ss (k + 1); unfold bulkS at hb; omega
        obtain ⟨u, hu'⟩ : ∃ u, u = ss[k] := ⟨_, rfl⟩
        by_cases hk0 : k = 0
        · have e : joinUpto ss t (k + 1) = joinUpto ss t k ++ ss[k] := by subst hk0; exact joinUpto_succ0 ss t hlt'
          rw [← hu'] at hcx hu e
          have HE : Hid (joinUpto ss t (k + 1) = joinUpto ss t k ++ u) := e
          have HK : Hid (k = 0) := hk0
          clear hc e hu' hk0
          go_wp2_with fail
          · exfalso; have := HK.out; omega
          go_at_call 122
          refine (write_c w.heap.size w.heap.size _ u _ hB (by rw [Lib.strCells_length]; omega) hbr.size).mono ?_
          rintro e w1 ⟨rfl, hB1, b1⟩
          go_wp2
          go_roundw
          case rel => exact ⟨k + 1, s ++ u, by omega, by go_num, (by rw [hs.out, ← HE.out]; exact hbk), (by show _ = _; rw [HE.out, ← hs.out]), .inr (by rw [strCells_append]; exact hB1), hbr.trans b1⟩
          case measure => simp [intOf]; omega
        · have e := joinUpto_succ ss t k hk0 hlt'
          rw [← hu'] at hcx hu e
          have HE : Hid (joinUpto ss t (k + 1) = joinUpto ss t k ++ t ++ u) := e
          have hkp : (0 : Int) < (k : Int) := by omega
          have hst : (s ++ t).size = s.size + t.size := ByteArray.size_append
          clear hc e hu'
          go_wp2_with fail
          go_at_call 122
          refine (write_c w.heap.size w.heap.size _ t _ hB (by rw [Lib.strCells_length]; omega) hbr.size).mono ?_
          rintro e w1 ⟨rfl, hB1, b1⟩
          rw [← strCells_append] at hB1
          have b2 := hbr.trans b1
          have hcx1 : w1.cell? ⟨b, off + k, none⟩ = some (.string u) := (b1.cell (p := ⟨b, off + k, none⟩) hlt).trans hcx
          clear hB hcx
          go_wp2_with fail
          go_at_call 122
          refine (write_c w.heap.size w.heap.size _ u _ (.inr hB1) (by rw [Lib.strCells_length]; omega) b2.size).mono ?_
          rintro e w2 ⟨rfl, hB2, b3⟩
          rw [← strCells_append] at hB2
          go_wp2
          go_roundw
          case rel => exact ⟨k + 1, s ++ t ++ u, by omega, by go_num, (by rw [hs.out, ← HE.out]; exact hbk), (by show _ = _; rw [HE.out, ← hs.out]), .inr hB2, b2.trans b3⟩
          case measure => simp [intOf]; omega
      · have he : k = ss.length := by omega
        subst he
        clear hc
        go_wp2_with (go_at_call 124; refine (Tryz.Builder_String_any w.heap.size w.heap.size s.data.toList _ hB hbr.size).mono ?_; rintro e w1 ⟨rfl, b1⟩)
        go_ret
        exact ⟨by rw [joinS, ← hs.out]; rfl, hbr.trans b1⟩
end Go.Proofs.YtlfmefojcmpfeaaGreatDoor

/-! The contract of the library for the digits of a number, taken over from the library of contracts at the numbers of this program; conditions as it says. -/
namespace Go.Proofs
open Go.Shelf
def Tryz.laysM171_ren : Go.Shelf.Ren := ⟨fun | 171 => 217 | 243 => 268 | 246 => 296 | 283 => 319 | 284 => 320 | 285 => 321 | 286 => 322 | 129 => 254 | 317 => 327 | 318 => 328 | 319 => 329 | 320 => 330 | 337 => 332 | 338 => 333 | n => n, fun | 3 => 3 | 9 => 9 | 2 => 2 | 4 => 4 | 171 => 356 | 0 => 0 | 53 => 284 | 37 => 22 | 5 => 5 | 173 => 358 | 212 => 367 | 51 => 282 | 20 => 20 | 213 => 368 | 46 => 226 | 232 => 369 | 233 => 370 | n => n, fun | 17 => 5 | 18 => 6 | 19 => 7 | n => n⟩
theorem Tryz.laysM171 : Go.Proofs.LaysM.n171 Tryz.prog Tryz.laysM171_ren := {
  mixed := by kernel_rfl
  f129 := Tryz.func254.trans (congrArg some (by kernel_rfl))
  f171 := Tryz.func217.trans (congrArg some (by kernel_rfl))
  f243 := Tryz.func268.trans (congrArg some (by kernel_rfl))
  f246 := Tryz.func296.trans (congrArg some (by kernel_rfl))
  f283 := Tryz.func319.trans (congrArg some (by kernel_rfl))
  f284 := Tryz.func320.trans (congrArg some (by kernel_rfl))
  f285 := Tryz.func321.trans (congrArg some (by kernel_rfl))
  f286 := Tryz.func322.trans (congrArg some (by kernel_rfl))
  f317 := Tryz.func327.trans (congrArg some (by kernel_rfl))
  f318 := Tryz.func328.trans (congrArg some (by kernel_rfl))
  f319 := Tryz.func329.trans (congrArg some (by kernel_rfl))
  f320 := Tryz.func330.trans (congrArg some (by kernel_rfl))
  f337 := Tryz.func332.trans (congrArg some (by kernel_rfl))
  f338 := Tryz.func333.trans (congrArg some (by kernel_rfl))
  t0 := Tryz.underlying0
  a0 := Tryz.isAgg0
  z0 := Tryz.sizeOf0
  v0 := Tryz.zeroValue0
  t2 := Tryz.underlying2
  a2 := Tryz.isAgg2
  z2 := Tryz.sizeOf2
  v2 := Tryz.zeroValue2
  t3 := Tryz.underlying3
  a3 := Tryz.isAgg3
  z3 := Tryz.sizeOf3
  v3 := Tryz.zeroValue3
  t4 := Tryz.underlying4
  a4 := Tryz.isAgg4
  z4 := Tryz.sizeOf4
  v4 := Tryz.zeroValue4
  t5 := Tryz.underlying5
  a5 := Tryz.isAgg5
  z5 := Tryz.sizeOf5
  v5 := Tryz.zeroValue5
  t9 := Tryz.underlying9
  a9 := Tryz.isAgg9
  z9 := Tryz.sizeOf9
  v9 := Tryz.zeroValue9
  t20 := Tryz.underlying20
  a20 := Tryz.isAgg20
  z20 := Tryz.sizeOf20
  v20 := Tryz.zeroValue20
  t37 := Tryz.underlying22
  a37 := Tryz.isAgg22
  z37 := Tryz.sizeOf22
  v37 := Tryz.zeroValue22
  t46 := Tryz.underlying226
  a46 := Tryz.isAgg226
  z46 := Tryz.sizeOf226
  v46 := Tryz.zeroValue226
  t51 := Tryz.underlying282
  a51 := Tryz.isAgg282
  z51 := Tryz.sizeOf282
  v51 := Tryz.zeroValue282
  t53 := Tryz.underlying284
  a53 := Tryz.isAgg284
  z53 := Tryz.sizeOf284
  v53 := Tryz.zeroValue284
  t171 := Tryz.underlying356
  a171 := Tryz.isAgg356
  z171 := Tryz.sizeOf356
  v171 := Tryz.zeroValue356
  t173 := Tryz.underlying358
  a173 := Tryz.isAgg358
  z173 := Tryz.sizeOf358
  v173 := Tryz.zeroValue358
  t212 := Tryz.underlying367
  a212 := Tryz.isAgg367
  z212 := Tryz.sizeOf367
  v212 := Tryz.zeroValue367
  t213 := Tryz.underlying368
  a213 := Tryz.isAgg368
  z213 := Tryz.sizeOf368
  t232 := Tryz.underlying369
  a232 := Tryz.isAgg369
  z232 := Tryz.sizeOf369
  v232 := Tryz.zeroValue369
  t233 := Tryz.underlying370
  a233 := Tryz.isAgg370
  z233 := Tryz.sizeOf370
  v233 := Tryz.zeroValue370
  g17 := by kernel_rfl
  g18 := by kernel_rfl
  g19 := by kernel_rfl
  i0 := by kernel_rfl
  i2 := by kernel_rfl
  i3 := by kernel_rfl
  i4 := by kernel_rfl
  i5 := by kernel_rfl
  i9 := by kernel_rfl
  i20 := by kernel_rfl
  i37 := by kernel_rfl
  i46 := by kernel_rfl
  i51 := by kernel_rfl
  i53 := by kernel_rfl
  i171 := by kernel_rfl
  i173 := by kernel_rfl
  i212 := by kernel_rfl
  i232 := by kernel_rfl
  i233 := by kernel_rfl
  m17 := by kernel_rfl
  m18 := by kernel_rfl
  m19 := by kernel_rfl }
open Go.RowKit Go.Sort Go.Lib in
theorem Tryz.strconv_Itoa (n : Int) (h0 : -9223372036854775808 ≤ n) (h1 : n ≤ 9223372036854775807) (w : World) (htab : Lib.TabIs Tryz.prog w "internal/strconv.uint64pow10" .u64 Lib.pow10Tab) :
    Calls Tryz.prog 217 #[.int .i64 n] w fun e w' => e = .returned (.string ⟨(Lib.itoa n).toArray⟩) ∧ ∃ k os, w' = grow (w.drewN k) os := Any.strconv_Itoa Tryz.laysM171 n h0 h1 w htab
end Go.Proofs

/-! What the two functions NumText (the program's, by the library's Itoa, and the specification's) answer: the digits of the number, of 0 where it is below 0; condition: the library's table of powers of ten lies in memory as its initialiser lays it. -/
namespace Go.Proofs.YtlfmefojcmpfeaaGreatDoor
open Go.RowKit
set_option linter.unusedSimpArgs false
set_option linter.unusedVariables false

def numStr (n : Nat) : ByteArray := ⟨(Lib.decDigits n).toArray⟩

theorem conv_digit {w : World} (x : Int) : (convert 22 9 (.slice (some ⟨w.heap.size, 0, none⟩) 1 1)).run Tryz.prog (w.alloc (.cells #[.int .u8 x] 5)) = .ok (.string (strOfNums [x])) (w.alloc (.cells #[.int .u8 x] 5)) := by
  refine run_convert_bytes_arg _ 22 5 Tryz.underlying22 Tryz.underlying5 _ 0 1 1 [x] rfl (fun i hi => ?_) 9 Tryz.underlying9
  have : i = 0 := by omega
  subst this
  simp

/-- What is told already, and what is left. -/
def DigitsLeft (N m : Nat) (s : ByteArray) : Prop := Lib.decDigits N = (if m < 10 then [] else Lib.decDigits (m / 10)) ++ s.data.toList

theorem digit_list (m : Nat) : (strOfNums [48 + (m : Int) % 10]).data.toList = [UInt8.ofNat (48 + m % 10)] := by
  rw [strOfNums_data]
  show [UInt8.ofNat (48 + (m : Int) % 10).toNat] = _
  have e : (48 + (m : Int) % 10).toNat = 48 + m % 10 := by omega
  rw [e]
theorem digits_start (N : Nat) : DigitsLeft N N (strOfNums [48 + (N : Int) % 10]) := by
  unfold DigitsLeft
  rw [digit_list]
  by_cases h : N < 10
  · rw [if_pos h, Lib.decDigits, dif_pos h, Nat.mod_eq_of_lt h]; rfl
  · rw [if_neg h, Lib.decDigits, dif_neg h]
theorem digits_step {N m : Nat} {s : ByteArray} (hm : ¬ m < 10) (h : DigitsLeft N m s) : DigitsLeft N (m / 10) (strOfNums [48 + ((m / 10 : Nat) : Int) % 10] ++ s) := by
  unfold DigitsLeft at *
  rw [h, if_neg hm, ByteArray.data_append, Array.toList_append, digit_list, ← List.append_assoc]
  congr 1
  by_cases h2 : m / 10 < 10
  · rw [if_pos h2, Lib.decDigits, dif_pos h2, Nat.mod_eq_of_lt h2]; rfl
  · rw [if_neg h2]
    conv => lhs; rw [Lib.decDigits, dif_neg h2]
theorem digits_end {N m : Nat} {s : ByteArray} (hm : m < 10) (h : DigitsLeft N m s) : s = numStr N := by
  unfold DigitsLeft at h
  rw [if_pos hm, List.nil_append] at h
  apply ByteArray.ext
  apply Array.toList_inj.1
  rw [← h, numStr]

set_option maxHeartbeats 1000000 in
set_option maxRecDepth 100000 in
theorem specNumText_pos (N : Nat) (w : World) (hN : N ≤ 9223372036854775807) :
    Calls Tryz.prog 120 #[.int .i64 (N : Int)] w fun e w' => e = .returned (.string (numStr N)) ∧ Below w.heap.size w w' := by
  have h0 : ¬ ((N : Int) < 0) := by omega
  have hcv0 := conv_digit (w := w) (48 + (N : Int) % 10)
  go_enter Tryz.func120, Tryz.ntmps120
  go_wp2
  go_loopw [0, 3] (fun vm vs wr => ∃ (m : Nat) (s : ByteArray), vm = .int .i64 (m : Int) ∧ vs = .string s ∧ m ≤ N ∧ s.size + m ≤ N + 1 ∧ Hid (DigitsLeft N m s) ∧ Below w.heap.size w wr) (fun vm _ _ => (intOf vm).toNat)
  case atStart => exact ⟨N, _, rfl, rfl, Nat.le_refl _, (by rw [strOfNums_size]; simp; omega), digits_start N, (Below.refl _ _).alloc (Nat.le_refl _) _⟩
  case round =>
    obtain ⟨m, s, rfl, rfl, hmN, hsz, hd, hbr⟩ := hrel
    clear hcv0
    by_cases hm : m < 10
    · have hm' : ¬ (9 : Int) < (m : Int) := by omega
      have e := digits_end hm hd.out
      go_wp2
      go_ret
      exact ⟨by rw [← e]; rfl, hbr⟩
    · have hm' : (9 : Int) < (m : Int) := by omega
      have hcv := conv_digit (w := wr) (48 + ((m / 10 : Nat) : Int) % 10)
      have ec : ((m / 10 : Nat) : Int) = (m : Int) / 10 := by omega
      rw [ec] at hcv
      have h1s : (strOfNums [48 + (m : Int) / 10 % 10]).size = 1 := strOfNums_size _
      have HD : Hid (DigitsLeft N (m / 10) (strOfNums [48 + (m : Int) / 10 % 10] ++ s)) := by
        have := digits_step hm hd.out
        rw [ec] at this
        exact this
      clear hd ec
      go_wp2
      go_roundw
      case rel => exact ⟨m / 10, _, by go_num, rfl, by omega, (by rw [ByteArray.size_append, h1s]; omega), HD, hbr.alloc hbr.size _⟩
      case measure => simp [intOf]; omega

set_option maxHeartbeats 1000000 in
set_option maxRecDepth 100000 in
theorem specNumText_neg (n : Int) (w : World) (hn : n < 0) :
    Calls Tryz.prog 120 #[.int .i64 n] w fun e w' => e = .returned (.string (numStr 0)) ∧ Below w.heap.size w w' := by
  have hcv0 := conv_digit (w := w) 48
  have HE : Hid (strOfNums [48] = numStr 0) := digits_end (m := 0) (by decide) (digits_start 0)
  go_enter Tryz.func120, Tryz.ntmps120
  go_wp2
  go_loopw [0, 3] (fun vm vs wr => vm = .int .i64 0 ∧ vs = .string (strOfNums [48]) ∧ wr = w.alloc (.cells #[.int .u8 48] 5)) (fun _ _ _ => 0)
  case atStart => exact ⟨rfl, rfl, rfl⟩
  case round =>
    obtain ⟨rfl, rfl, hwr⟩ := hrel
    subst hwr
    go_wp2
    go_ret
    exact ⟨by rw [← HE.out]; rfl, (Below.refl _ _).alloc (Nat.le_refl _) _⟩

theorem specNumText_c (n : Int) (w : World) (hn : n ≤ 9223372036854775807) :
    Calls Tryz.prog 120 #[.int .i64 n] w fun e w' => e = .returned (.string (numStr n.toNat)) ∧ Below w.heap.size w w' := by
  by_cases h : n < 0
  · rw [show n.toNat = 0 by omega]; exact specNumText_neg n w h
  · obtain ⟨N, rfl⟩ := Int.eq_ofNat_of_zero_le (show 0 ≤ n by omega)
    exact specNumText_pos N w (by omega)

theorem tabIs_below {w w' : World} {n : String} {k : IntKind} {zs : List Int} (b : Below w.heap.size w w') (h : Lib.TabIs Tryz.prog w n k zs) : Lib.TabIs Tryz.prog w' n k zs := Lib.tabBelow_of_tabIs h w' b

theorem below_grow (w : World) (k : Nat) (os : Array Obj) : Below w.heap.size w (Sort.grow (w.drewN k) os) :=
  ⟨rfl, rfl, rfl, by rw [Sort.size_grow]; exact Nat.le_add_right _ _, fun j hj => Sort.heap_grow_old _ _ hj⟩

set_option maxHeartbeats 1000000 in
set_option maxRecDepth 100000 in
theorem implNumText_c (n : Int) (w : World) (h0 : -9223372036854775808 ≤ n) (h1 : n ≤ 9223372036854775807) (htab : Lib.TabIs Tryz.prog w "internal/strconv.uint64pow10" .u64 Lib.pow10Tab) :
    Calls Tryz.prog 193 #[.int .i64 n] w fun e w' => e = .returned (.string (numStr n.toNat)) ∧ Below w.heap.size w w' := by
  have hc := Tryz.strconv_Itoa (max n 0) (by omega) (by omega) w htab
  have e : Lib.itoa (max n 0) = Lib.decDigits n.toNat := by
    rw [Lib.itoa, if_neg (by omega), show (max n 0).toNat = n.toNat by omega]
  rw [e] at hc
  clear htab e
  go_enter Tryz.func193, Tryz.ntmps193
  go_wp2_with (go_at_call 217; refine hc.mono ?_; rintro e w1 ⟨rfl, k, os, rfl⟩)
  go_ret
  exact ⟨rfl, below_grow w k os⟩
end Go.Proofs.YtlfmefojcmpfeaaGreatDoor

/-! What VerText answers, the program's and the specification's: the same text; conditions: the list of texts lies in memory as told, and holds no more than 2 to the 20; the library's table of powers of ten lies in memory as its initialiser lays it. -/
namespace Go.Proofs.YtlfmefojcmpfeaaGreatDoor
open Go.RowKit
set_option linter.unusedSimpArgs false
set_option linter.unusedVariables false

theorem numStr_four (n : Nat) (h : n ≤ 9999) : (numStr n).size ≤ 4 := by
  have e : (numStr n).size = (Lib.decDigits n).length := by simp [numStr, ByteArray.size]
  rw [e]
  have hl : ∀ m, ¬ m < 10 → (Lib.decDigits m).length = (Lib.decDigits (m / 10)).length + 1 := fun m hm => by rw [Lib.decDigits, dif_neg hm]; simp
  have h0 : ∀ m, m < 10 → (Lib.decDigits m).length = 1 := fun m hm => by rw [Lib.decDigits, dif_pos hm]; simp
  by_cases h1 : n < 10
  · rw [h0 n h1]; omega
  · rw [hl n h1]
    by_cases h2 : n / 10 < 10
    · rw [h0 _ h2]; omega
    · rw [hl _ h2]
      by_cases h3 : n / 10 / 10 < 10
      · rw [h0 _ h3]; omega
      · rw [hl _ h3, h0 _ (by omega)]; omega

def coreT (a b c : Int) : ByteArray := numStr a.toNat ++ ⟨#[46]⟩ ++ numStr b.toNat ++ ⟨#[46]⟩ ++ numStr c.toNat
def verT (a b c : Int) (ps : List ByteArray) : ByteArray := if verB a b c ps then (if 0 < ps.length then coreT a b c ++ ⟨#[45]⟩ ++ joinS ps ⟨#[46]⟩ else coreT a b c) else ⟨#[]⟩

theorem join_three (x y z t : ByteArray) : joinS [x, y, z] t = x ++ t ++ y ++ t ++ z := by
  have e : joinS [x, y, z] t = ((⟨#[]⟩ ++ x) ++ t ++ y) ++ t ++ z := rfl
  rw [e]
  congr 4

theorem reads_three {w w1 : World} (x y z : ByteArray) (hw : ∀ b, b < (w.alloc (.cells #[.string x, .string y, .string z] 9)).heap.size → w1.heap[b]? = (w.alloc (.cells #[.string x, .string y, .string z] 9)).heap[b]?) (hs : (w.alloc (.cells #[.string x, .string y, .string z] 9)).heap.size ≤ w1.heap.size) : Reads w1 (.slice (some ⟨w.heap.size, 0, none⟩) 3 3) (strsV [x, y, z]) := by
  refine ⟨some ⟨w.heap.size, 0, none⟩, 3, rfl, Nat.le_refl _, .inr ⟨w.heap.size, 0, rfl, Nat.lt_of_lt_of_le (by simp) hs, fun k hk => ?_⟩⟩
  have e : w1.heap[w.heap.size]? = some (.cells #[.string x, .string y, .string z] 9 (0, 0)) := (hw _ (by simp)).trans (vheap_new _ _)
  rw [vblk_cell e]
  match k, hk with
  | 0, _ => rfl
  | 1, _ => rfl
  | 2, _ => rfl

theorem in_range {a : Int} (h : inB a 0 9999 = true) : 0 ≤ a ∧ a ≤ 9999 := by simpa [inB] using h
theorem verB_nums {a b c : Int} {ps : List ByteArray} (h : verB a b c ps = true) : inB a 0 9999 = true ∧ inB b 0 9999 = true ∧ inB c 0 9999 = true := by
  simp only [verB, Bool.and_eq_true] at h
  exact ⟨h.1.1.1.2, h.1.1.2, h.1.2⟩

set_option maxHeartbeats 2000000 in
set_option maxRecDepth 100000 in
theorem implVerText_c (a b c : Int) (u : Value) (ps : List ByteArray) (w : World) (hu : Reads w u (strsV ps)) (hb : bulkS ps ≤ 1048576) (htab : Lib.TabIs Tryz.prog w "internal/strconv.uint64pow10" .u64 Lib.pow10Tab) :
    Calls Tryz.prog 123 #[.agg #[.int .i64 a, .int .i64 b, .int .i64 c, u]] w fun e w' => e = .returned (.string (verT a b c ps)) ∧ Below w.heap.size w w' := by
  have hbx : ∀ o, Below w.heap.size w (w.alloc o) := fun o => (Below.refl _ _).alloc (Nat.le_refl _) _
  have HV : Hid (∀ o, Calls Tryz.prog 161 #[.agg #[.int .i64 a, .int .i64 b, .int .i64 c, u]] (w.alloc o) fun e w' => e = .returned (.bool (verB a b c ps)) ∧ Below (w.alloc o).heap.size (w.alloc o) w') := fun o => implVerOk_c a b c u ps _ (hu.below (hbx o)) hb
  have hn : ps.length ≤ 1048576 := by unfold bulkS at hb; omega
  have HJ : Hid (∀ w1, Below w.heap.size w w1 → Calls Tryz.prog 192 #[u, .string ⟨#[46]⟩] w1 fun e w' => e = .returned (.string (joinS ps ⟨#[46]⟩)) ∧ Below w1.heap.size w1 w') := fun w1 h => implJoin_c u ps ⟨#[46]⟩ w1 (hu.below h) hb (by decide)
  obtain ⟨q, cap, hq, _, _⟩ := reads_strs hu
  subst hq
  clear hu
  cases hv : verB a b c ps with
  | false =>
    have e : verT a b c ps = ⟨#[]⟩ := by rw [verT, hv]; rfl
    rw [e]
    rw [hv] at HV
    go_enter Tryz.func123, Tryz.ntmps123
    go_wp2_with (go_at_call 161; refine (HV.out _).mono ?_; rintro e w1 ⟨rfl, b1⟩)
    go_ret
    exact ⟨rfl, (hbx _).trans (b1.mono (by simp))⟩
  | true =>
    rw [hv] at HV
    obtain ⟨ha, hb', hc⟩ := verB_nums hv
    obtain ⟨ha0, ha1⟩ := in_range ha
    obtain ⟨hb0, hb1⟩ := in_range hb'
    obtain ⟨hc0, hc1⟩ := in_range hc
    have HT : Hid (verT a b c ps = if 0 < ps.length then coreT a b c ++ ⟨#[45]⟩ ++ joinS ps ⟨#[46]⟩ else coreT a b c) := by show _ = _; rw [verT, hv]; rfl
    obtain ⟨x, hx⟩ : ∃ x, x = numStr a.toNat := ⟨_, rfl⟩
    obtain ⟨y, hy⟩ : ∃ y, y = numStr b.toNat := ⟨_, rfl⟩
    obtain ⟨z, hz⟩ : ∃ z, z = numStr c.toNat := ⟨_, rfl⟩
    have hxs : x.size ≤ 4 := by rw [hx]; exact numStr_four _ (by omega)
    have hys : y.size ≤ 4 := by rw [hy]; exact numStr_four _ (by omega)
    have hzs : z.size ≤ 4 := by rw [hz]; exact numStr_four _ (by omega)
    have NA : Hid (∀ w1, Below w.heap.size w w1 → Calls Tryz.prog 193 #[.int .i64 a] w1 fun e w' => e = .returned (.string x) ∧ Below w1.heap.size w1 w') := fun w1 h => by rw [hx]; exact implNumText_c a w1 (by omega) (by omega) (tabIs_below h htab)
    have NB : Hid (∀ w1, Below w.heap.size w w1 → Calls Tryz.prog 193 #[.int .i64 b] w1 fun e w' => e = .returned (.string y) ∧ Below w1.heap.size w1 w') := fun w1 h => by rw [hy]; exact implNumText_c b w1 (by omega) (by omega) (tabIs_below h htab)
    have NC : Hid (∀ w1, Below w.heap.size w w1 → Calls Tryz.prog 193 #[.int .i64 c] w1 fun e w' => e = .returned (.string z) ∧ Below w1.heap.size w1 w') := fun w1 h => by rw [hz]; exact implNumText_c c w1 (by omega) (by omega) (tabIs_below h htab)
    obtain ⟨cT, hcT⟩ : ∃ cT, cT = coreT a b c := ⟨_, rfl⟩
    have hcs : cT.size ≤ 14 := by rw [hcT, coreT, ← hx, ← hy, ← hz]; simp only [ByteArray.size_append]; have : (⟨#[46]⟩ : ByteArray).size = 1 := rfl; omega
    have HJ3 : Hid (∀ (w1 w2 : World), (∀ b, b < (w1.alloc (.cells #[.string x, .string y, .string z] 9)).heap.size → w2.heap[b]? = (w1.alloc (.cells #[.string x, .string y, .string z] 9)).heap[b]?) → (w1.alloc (.cells #[.string x, .string y, .string z] 9)).heap.size ≤ w2.heap.size → Calls Tryz.prog 192 #[.slice (some ⟨w1.heap.size, 0, none⟩) 3 3, .string ⟨#[46]⟩] w2 fun e w' => e = .returned (.string cT) ∧ Below w2.heap.size w2 w') := fun w1 w2 h1 h2 => by
      have := implJoin_c (.slice (some ⟨w1.heap.size, 0, none⟩) 3 3) [x, y, z] ⟨#[46]⟩ w2 (reads_three x y z h1 h2) (by simp [bulkS]; omega) (by decide)
      rw [join_three] at this
      rw [hcT, coreT, ← hx, ← hy, ← hz]
      exact this
    rw [← hcT] at HT
    have hJs : (joinS ps ⟨#[46]⟩).size ≤ 1099512676352 := join_bound ps ⟨#[46]⟩ ps.length (Nat.le_refl _) hb (by decide)
    obtain ⟨J, hJ⟩ : ∃ J, J = joinS ps ⟨#[46]⟩ := ⟨_, rfl⟩
    rw [← hJ] at HT HJ hJs
    clear hx hy hz hcT hJ ha hb' hc htab hv
    go_enter Tryz.func123, Tryz.ntmps123
    go_wp2_with fail
    go_at_call 161
    refine (HV.out _).mono ?_
    rintro e w1 ⟨rfl, b1⟩
    obtain ⟨x0, x1, x2, x3⟩ := box4 b1
    have F1 := (four_new w 30 (.int .i64 a) (.int .i64 b) (.int .i64 c) (.slice q ps.length cap)).keep b1
    have hw1 := (hbx _).trans (b1.mono (by simp))
    have NA' := NA.out w1.drew hw1.drew
    clear HV b1
    go_wp2_with fail
    go_region_held (fun w' => w'.cell? ⟨w.heap.size, 0, none⟩ = some (.int .i64 a) ∧ w'.cell? ⟨w.heap.size, 1, none⟩ = some (.int .i64 b) ∧ w'.cell? ⟨w.heap.size, 2, none⟩ = some (.int .i64 c) ∧ w'.cell? ⟨w.heap.size, 3, none⟩ = some (.slice q ps.length cap)) (go_keep) (first
      | (go_at_call 193
         refine NA'.mono ?_
         rintro e w2 ⟨rfl, b2⟩
         have F2 := F1.drew.keep b2
         have hw2 := hw1.drew.trans (b2.mono hw1.size)
         have NB' := NB.out w2 hw2
         obtain ⟨xx0, xx1, xx2, xx3⟩ := F2.cells
         clear NA' b2 F1)
      | (go_at_call 193
         refine NB'.mono ?_
         rintro e w3 ⟨rfl, b3⟩
         have F3 := F2.keep b3
         have hw3 := hw2.trans (b3.mono hw2.size)
         have NC' := NC.out w3 hw3
         obtain ⟨xy0, xy1, xy2, xy3⟩ := F3.cells
         clear NB' b3 F2)
      | (go_at_call 193
         refine NC'.mono ?_
         rintro e w4 ⟨rfl, b4⟩
         have F4 := F3.keep b4
         have hw4 := hw3.trans (b4.mono hw3.size)
         have la4 := F4.lt
         obtain ⟨xz0, xz1, xz2, xz3⟩ := F4.cells
         clear NC' b4 F3)
      | (go_at_call 192
         refine (HJ3.out w4 _ (fun _ _ => rfl) (Nat.le_refl _)).mono ?_
         rintro e w5 ⟨rfl, b5⟩
         have F5 := (four_old F4 (.cells #[.string x, .string y, .string z] 9)).keep b5
         have hw5 := (hw4.alloc hw4.size (.cells #[.string x, .string y, .string z] 9)).trans (b5.mono (hw4.alloc hw4.size _).size)
         obtain ⟨xw0, xw1, xw2, xw3⟩ := F5.cells
         clear b5 F4))
    by_cases hp : 0 < ps.length
    · have hp' : (0 : Int) < (ps.length : Int) := by omega
      go_wp2_with (go_at_call 192; refine (HJ.out _ hw5).mono ?_; rintro e w6 ⟨rfl, b6⟩)
      go_ret
      refine ⟨?_, hw5.trans (b6.mono hw5.size)⟩
      rw [HT.out, if_pos hp, ByteArray.append_assoc]
      rfl
    · have hp' : ¬ (0 : Int) < (ps.length : Int) := by omega
      go_wp2_with fail
      go_ret
      exact ⟨by rw [HT.out, if_neg hp]; rfl, hw5⟩
end Go.Proofs.YtlfmefojcmpfeaaGreatDoor

/-! Digits that tell a number are the number's digits; what a text's pieces make with dots between is the text; no condition. -/
namespace Go.Proofs.YtlfmefojcmpfeaaGreatDoor
open Go.RowKit
set_option linter.unusedSimpArgs false
set_option linter.unusedVariables false

theorem vdec_step {n : Nat} (h : ¬ n < 10) : Lib.decDigits n = Lib.decDigits (n / 10) ++ [UInt8.ofNat (48 + n % 10)] := by
  conv => lhs; rw [Lib.decDigits, dif_neg h]
theorem vdec_one {n : Nat} (h : n < 10) : Lib.decDigits n = [UInt8.ofNat (48 + n)] := by
  rw [Lib.decDigits, dif_pos h]
theorem allUpto_at {p : Nat → Int → Bool} {s : ByteArray} : ∀ {n : Nat}, allUpto p s n = true → ∀ k, k < n → p k ((s.data[k]!).toNat : Int) = true
  | 0, _, k, hk => by omega
  | n + 1, h, k, hk => by
    rw [allUpto, Bool.and_eq_true] at h
    by_cases e : k = n
    · subst e; exact h.2
    · exact allUpto_at h.1 k (by omega)
theorem vtake_snoc (s : ByteArray) (k : Nat) (h : k < s.size) : s.data.toList.take (k + 1) = s.data.toList.take k ++ [s.data[k]!] := by
  rw [List.take_succ_eq_append_getElem (by rw [vlen]; exact h)]
  congr 2
  rw [getElem!_pos s.data k h]
  rfl
theorem u8_back (u : UInt8) (h : 48 ≤ u.toNat) : UInt8.ofNat (48 + (u.toNat - 48)) = u := by
  rw [show 48 + (u.toNat - 48) = u.toNat by omega]
  simp

/-- The digits of what the first k bytes tell are these bytes. -/
theorem dec_back (s : ByteArray) (hd : allUpto okDigit s s.size = true) (hz : 1 < s.size → ¬ ((s.data[0]!).toNat : Int) = 48) : ∀ k, k < s.size → 0 ≤ numUpto s (k + 1) ∧ (1 < s.size → 1 ≤ numUpto s (k + 1)) ∧ Lib.decDigits (numUpto s (k + 1)).toNat = s.data.toList.take (k + 1)
  | 0, hk => by
    have h0 := digit_bounds (allUpto_at hd 0 hk)
    have e : numUpto s (0 + 1) = ((s.data[0]!).toNat : Int) - 48 := by simp [numUpto]
    rw [e]
    refine ⟨by omega, fun h1 => by have := hz h1; omega, ?_⟩
    rw [vdec_one (by omega), vtake_snoc s 0 hk]
    have : (((s.data[0]!).toNat : Int) - 48).toNat = (s.data[0]!).toNat - 48 := by omega
    rw [this, u8_back _ (by omega)]
    rfl
  | k + 1, hk => by
    obtain ⟨h1, h2, h3⟩ := dec_back s hd hz k (by omega)
    have h2 := h2 (by omega)
    have hb := digit_bounds (allUpto_at hd (k + 1) hk)
    have e : numUpto s (k + 1 + 1) = numUpto s (k + 1) * 10 + (((s.data[k + 1]!).toNat : Int) - 48) := rfl
    rw [e]
    generalize numUpto s (k + 1) = m at *
    refine ⟨by omega, fun _ => by omega, ?_⟩
    rw [vdec_step (by omega), vtake_snoc s (k + 1) hk, ← h3]
    have e1 : (m * 10 + (((s.data[k + 1]!).toNat : Int) - 48)).toNat / 10 = m.toNat := by omega
    have e2 : (m * 10 + (((s.data[k + 1]!).toNat : Int) - 48)).toNat % 10 = (s.data[k + 1]!).toNat - 48 := by omega
    rw [e1, e2, u8_back _ (by omega)]

theorem num_str {t : ByteArray} {most : Int} (h : numGood t most = true) : numStr (numOut t most).toNat = t ∧ 0 ≤ numOut t most := by
  have h0 := h
  simp only [numGood, Bool.and_eq_true, Bool.not_eq_true'] at h
  obtain ⟨⟨⟨h1, h2⟩, h3⟩, h4⟩ := h
  have hs := in17 h1
  have hz : 1 < t.size → ¬ ((t.data[0]!).toNat : Int) = 48 := fun hl he => by
    rw [decide_eq_true hl, he] at h3
    simp at h3
  obtain ⟨p1, p2, p3⟩ := dec_back t h2 hz (t.size - 1) (by omega)
  rw [show t.size - 1 + 1 = t.size by omega] at p1 p3
  rw [numOut_good h0]
  refine ⟨?_, p1⟩
  apply vext
  show (Lib.decDigits (numUpto t t.size).toNat).toArray.toList = _
  rw [p3]
  simp
  exact List.take_of_length_le (by rw [vlen]; omega)
#print axioms num_str
end Go.Proofs.YtlfmefojcmpfeaaGreatDoor

/-! What the program's reader of versions does at the end of a word, and at a sign: contracts for the walks; condition: what it holds lies in memory as told. -/
namespace Go.Proofs.YtlfmefojcmpfeaaGreatDoor
open Go.RowKit
set_option linter.unusedSimpArgs false
set_option linter.unusedVariables false

def intsV (zs : List Int) : List Value := zs.map (Value.int .i64)
@[simp] theorem length_intsV (zs : List Int) : (intsV zs).length = zs.length := by simp [intsV]
@[simp] theorem length_bytesV' (zs : List Int) : (bytesV zs).length = zs.length := by simp [bytesV]
theorem infoI : (Tryz.prog.info? 3).map (fun i => (i.zero, i.size, i.bytes)) = some (some (.int .i64 0), 1, 8) := by kernel_rfl

/-- Of the blocks below base nothing has turned but block R. -/
structure Only (R base : Nat) (w w' : World) : Prop where
  os : w'.os = w.os
  tape : w'.tape = w.tape
  output : w'.output = w.output
  size : w.heap.size ≤ w'.heap.size
  block : ∀ k, k < base → k ≠ R → w'.heap[k]? = w.heap[k]?
theorem Only.refl (R base : Nat) (w : World) : Only R base w w := ⟨rfl, rfl, rfl, Nat.le_refl _, fun _ _ _ => rfl⟩
theorem Only.trans {R base : Nat} {a b c : World} (h : Only R base a b) (k : Only R base b c) : Only R base a c :=
  ⟨k.os.trans h.os, k.tape.trans h.tape, k.output.trans h.output, Nat.le_trans h.size k.size, fun i h1 h2 => (k.block i h1 h2).trans (h.block i h1 h2)⟩
theorem Only.set {R base : Nat} (w : World) (j : Nat) (v : Value) : Only R base w (w.setCell ⟨R, j, none⟩ v) :=
  ⟨rfl, rfl, rfl, by simp [World.setCell], fun k _ hk => Below.heap_setCell w ⟨R, j, none⟩ v k hk⟩
theorem Only.grown {R base : Nat} {w w' : World} {row : Option Nat} (h : w.grownBy w' row) (hb : base ≤ w.heap.size) (hrow : ∀ k, row = some k → base ≤ k) : Only R base w w' :=
  ⟨h.os, h.tape, h.output, h.size, fun k h1 _ => h.block k (by omega) (fun e => by have := hrow k e.symm; omega)⟩
theorem Only.below {R base : Nat} {w w' : World} (h : Below w.heap.size w w') (hb : base ≤ w.heap.size) : Only R base w w' :=
  ⟨h.os, h.tape, h.output, h.size, fun k h1 _ => h.block k (by omega)⟩
theorem Only.alloc {R base : Nat} {w : World} (o : Obj) (hb : base ≤ w.heap.size) : Only R base w (w.alloc o) := Only.below ((Below.refl _ _).alloc (Nat.le_refl _) _) hb

theorem four_set {w : World} {R : Nat} {t : TypeId} {c0 c1 c2 c3 : Value} (h : Four w R t c0 c1 c2 c3) (v : Value) :
    Four (w.setCell ⟨R, 0, none⟩ v) R t v c1 c2 c3 ∧ Four (w.setCell ⟨R, 1, none⟩ v) R t c0 v c2 c3 ∧ Four (w.setCell ⟨R, 2, none⟩ v) R t c0 c1 v c3 ∧ Four (w.setCell ⟨R, 3, none⟩ v) R t c0 c1 c2 v := by
  refine ⟨?_, ?_, ?_, ?_⟩ <;> (unfold Four at *; rw [heap_setCell_same w R _ _ t v h]; rfl)
theorem Four.grown {w w' : World} {R base : Nat} {t : TypeId} {c0 c1 c2 c3 : Value} {row : Option Nat} (h : Four w R t c0 c1 c2 c3) (hg : w.grownBy w' row) (hR : R < base) (hrow : ∀ k, row = some k → base ≤ k) : Four w' R t c0 c1 c2 c3 :=
  (hg.block R h.lt (fun e => by have := hrow R e.symm; omega)).trans h
theorem Four.frozen {w : World} {N : Nat} {t : TypeId} {c0 c1 c2 c3 : Value} (h : Four w N t c0 c1 c2 c3) (j : Nat) : w.frozen? ⟨N, j, none⟩ = false := vblk_frozen h j

/-- Two rows of two types are two blocks. -/
theorem rows_apart {w : World} {base e e' : Nat} {v v' : Value} {n n' : Nat} {xs xs' : List Value} (h : w.ownsRow base e 1 v n xs) (h' : w.ownsRow base e' 1 v' n' xs') (hne : e ≠ e') : v'.ownBlock = none ∨ v'.ownBlock ≠ v.ownBlock := by
  rcases h.2 with ⟨rfl, _⟩ | ⟨g, cap, cur, rfl, _, hg, _⟩
  · rcases h'.2 with ⟨rfl, _⟩ | ⟨g', cap', cur', rfl, _, hg', _⟩
    · exact .inl rfl
    · exact .inr (by simp [Value.ownBlock])
  · rcases h'.2 with ⟨rfl, _⟩ | ⟨g', cap', cur', rfl, _, hg', _⟩
    · exact .inl rfl
    · refine .inr fun e1 => hne ?_
      simp only [Value.ownBlock, Option.some.injEq] at e1
      subst e1
      rw [hg] at hg'
      simp only [Option.some.injEq, Obj.cells.injEq] at hg'
      exact hg'.2.1

/-- The reader at block R. -/
def Rd (w : World) (R base : Nat) (ws ns : List Int) (ps : List ByteArray) (inP : Bool) : Prop :=
  ∃ vw vn vp, Four w R 335 vw vn vp (.bool inP) ∧ w.ownsRow base 5 1 vw ws.length (bytesV ws) ∧ w.ownsRow base 3 1 vn ns.length (intsV ns) ∧ w.ownsRow base 9 1 vp ps.length (strsV ps)

theorem row_empty {w : World} {base : Nat} {e : TypeId} {g n cap : Nat} {xs : List Value} (h : w.ownsRow base e 1 (.slice (some ⟨g, 0, none⟩) n cap) n xs) : w.ownsRow base e 1 (.slice (some ⟨g, 0, none⟩) 0 cap) 0 [] := by
  rcases h.2 with ⟨h, _⟩ | ⟨g', cap', cur, hv, hb, hg, hn, hc, hs, ht⟩
  · cases h
  · cases hv
    exact ⟨rfl, .inr ⟨g, cap, cur, rfl, hb, hg, Nat.zero_le _, hc, hs, rfl⟩⟩

theorem conv_word {w : World} {base : Nat} {vw : Value} {ws : List Int} (h : w.ownsRow base 5 1 vw ws.length (bytesV ws)) : (convert 22 9 vw).run Tryz.prog w = .ok (.string (strOfNums ws)) w := by
  rcases h.2 with ⟨rfl, h0⟩ | ⟨g, cap, cur, rfl, hb, hg, hn, hc, hs, ht⟩
  · have : ws = [] := List.eq_nil_of_length_eq_zero h0
    subst this
    exact run_convert_bytes_nil w 22 5 Tryz.underlying22 Tryz.underlying5 0 0 9 Tryz.underlying9
  · refine run_convert_bytes_arg _ 22 5 Tryz.underlying22 Tryz.underlying5 _ 0 ws.length cap ws rfl (fun i hi => ?_) 9 Tryz.underlying9
    rw [Nat.zero_add, h.cellAt i (by simpa using hi)]
    simp [bytesV, List.getD_eq_getElem?_getD, hi]

theorem cell_str (w : World) (t : ByteArray) : ∀ j u, [Value.string t][j]? = some u → (w.alloc (.cells #[.string t] 9)).cell? ((⟨w.heap.size, 0, none⟩ : Addr).add j) = some u := cell_one_new _ _ _

set_option maxHeartbeats 2000000 in
set_option maxRecDepth 100000 in
theorem ends_in (R base : Nat) (ws ns : List Int) (ps : List ByteArray) (w : World) (h : Rd w R base ws ns ps true) (hR : R < base) (hbw : base ≤ w.heap.size) (hw : ws.length ≤ 1048576) (hps : ps.length ≤ 1048576) :
    Calls Tryz.prog 293 #[.pointer (some ⟨R, 0, none⟩)] w fun e w' => e = .returned (.bool (endOk ns ps true (strOfNums ws))) ∧ Rd w' R base [] (endNs ns true (strOfNums ws)) (endPs ps true (strOfNums ws)) true ∧ Only R base w w' := by
  obtain ⟨i0, hi, hz0, hz1, hz2⟩ := info_parts infoS
  obtain ⟨vw, vn, vp, hF, hWr, hNr, hPr⟩ := h
  have hcv := conv_word hWr
  have htz : (strOfNums ws).size ≤ maxLen := by rw [strOfNums_size]; unfold maxLen; omega
  obtain ⟨t, ht⟩ : ∃ t, t = strOfNums ws := ⟨_, rfl⟩
  rw [← ht] at hcv htz ⊢
  clear ht
  obtain ⟨v0, hv0, hW0⟩ : ∃ v0, (vw = .slice none 0 0 ∧ v0 = .slice none 0 0 ∨ ∃ g n cap, vw = .slice (some ⟨g, 0, none⟩) n cap ∧ v0 = .slice (some ⟨g, 0, none⟩) 0 cap ∧ n ≤ cap) ∧ w.ownsRow base 5 1 v0 0 [] := by
    rcases hWr.2 with ⟨rfl, _⟩ | ⟨g, cap, cur, rfl, _, _, hn, _⟩
    · exact ⟨_, .inl ⟨rfl, rfl⟩, World.ownsRow_nil _ _ _ _⟩
    · exact ⟨_, .inr ⟨g, ws.length, cap, rfl, rfl, hn⟩, row_empty hWr⟩
  have F1 := (four_set hF v0).1
  have hW1 := owns_set hW0 (p := ⟨R, 0, none⟩) hR v0
  have hN1 := owns_set hNr (p := ⟨R, 0, none⟩) hR v0
  have hP1 := owns_set hPr (p := ⟨R, 0, none⟩) hR v0
  have O1 : Only R base w (w.setCell ⟨R, 0, none⟩ v0) := Only.set w 0 v0
  have hb1 : base ≤ (w.setCell ⟨R, 0, none⟩ v0).heap.size := Nat.le_trans hbw O1.size
  obtain ⟨c0, c1, c2, c3⟩ := hF.cells
  have f0 := hF.frozen 0
  obtain ⟨d0, d1, d2, d3⟩ := F1.cells
  have g2 := F1.frozen 2
  have hlR := F1.lt
  have hsz : (w.setCell ⟨R, 0, none⟩ v0).heap.size = w.heap.size := by simp [World.setCell]
  have hcs := cell_str (w.setCell ⟨R, 0, none⟩ v0) t
  rw [hsz] at hcs
  have HC : Hid (∀ j u, (strsV [t])[j]? = some u → ((w.setCell ⟨R, 0, none⟩ v0).alloc (.cells #[.string t] 9)).cell? ((⟨w.heap.size, 0, none⟩ : Addr).add j) = some u) := hcs
  have hPA := hP1.alloc (.cells #[.string t] 9)
  have hNA := hN1.alloc (.cells #[.string t] 9)
  have hWA := hW1.alloc (.cells #[.string t] 9)
  have FA := four_old F1 (.cells #[.string t] 9)
  have OA : Only R base w ((w.setCell ⟨R, 0, none⟩ v0).alloc (.cells #[.string t] 9)) := O1.trans (Only.alloc _ hb1)
  have hbA : base ≤ ((w.setCell ⟨R, 0, none⟩ v0).alloc (.cells #[.string t] 9)).heap.size := Nat.le_trans hbw OA.size
  have HP : Hid (((w.setCell ⟨R, 0, none⟩ v0).alloc (.cells #[.string t] 9)).ownsRow base 9 1 vp ps.length (strsV ps)) := hPA
  obtain ⟨vpa, vpn, vpc, rfl⟩ : ∃ a n cap, vp = .slice a n cap := by rcases hPr.2 with ⟨rfl, _⟩ | ⟨g, cap, cur, rfl, _⟩ <;> exact ⟨_, _, _, rfl⟩
  clear hWr hNr hPr hF hcs hP1 hN1 hW1 hPA hsz
  rcases hv0 with ⟨rfl, rfl⟩ | ⟨gb, n, cap, rfl, rfl, hn⟩
  all_goals (
    go_enter Tryz.func293, Tryz.ntmps293
    go_wp2_with (at_builtin; refine wpList_append_own _ rfl _ _ 28 rfl base 9 i0 (.string ⟨#[]⟩) 1 16 Tryz.underlying28 hi hz0 hz1 hz2 rfl (by decide) _ ps.length (strsV ps) rfl HP.out ⟨w.heap.size, 0, none⟩ 1 1 (strsV [t]) rfl rfl HC.out (fun u hu => by simp [strsV] at hu; subst hu; rfl) (by unfold maxLen; omega) (by omega) hbA ?_)
    intro v2 w2 o2 gr2 _
    rw [show strsV ps ++ strsV [t] = strsV (ps ++ [t]) by simp [strsV]] at o2
    have hrow : ∀ k, Value.ownBlock (.slice vpa vpn vpc) = some k → base ≤ k := fun k hk => (HP.out.lt k hk).1
    have F2 := FA.grown gr2 hR hrow
    have hN2 := hNA.kept gr2 (rows_apart HP.out hNA (by decide))
    have hW2 := hWA.kept gr2 (rows_apart HP.out hWA (by decide))
    have O2 := OA.trans (Only.grown gr2 hbA hrow)
    have hb2 := Nat.le_trans hbw O2.size
    clear gr2 HP hNA hWA FA OA hbA HC F1 O1
    obtain ⟨e0, e1, e2, e3⟩ := F2.cells
    have h2 := F2.frozen 2
    have F3 := (four_set F2 v2).2.2.1
    have hN3 := owns_set hN2 (p := ⟨R, 2, none⟩) hR v2
    have hW3 := owns_set hW2 (p := ⟨R, 2, none⟩) hR v2
    have hP3 := owns_set o2 (p := ⟨R, 2, none⟩) hR v2
    have O3 := O2.trans (Only.set w2 2 v2)
    have hb3 := Nat.le_trans hbw O3.size
    obtain ⟨k0, k1, k2, k3⟩ := F3.cells
    obtain ⟨q2, cap2, hv2⟩ : ∃ q cap, v2 = .slice q (ps.length + 1) cap := by
      rcases o2.2 with ⟨_, h⟩ | ⟨g, cap, cur, rfl, _⟩
      · omega
      · exact ⟨_, _, rfl⟩
    subst hv2
    clear o2 hN2 hW2 F2 O2 hb2 d0 d1 d2 d3 c0 c1 c2 c3
    have hRd : Rd (w2.setCell ⟨R, 2, none⟩ (.slice q2 (ps.length + 1) cap2)) R base [] ns (ps ++ [t]) true := ⟨_, _, _, F3, hW3, hN3, by simpa using hP3⟩
    clear F3 hN3 hW3 hP3
    by_cases hl : ps.length + 1 ≤ 3
    · have hl' : (ps.length : Int) + 1 ≤ 3 := by omega
      go_wp2_with (go_at_call 232; refine (implPart_c t htz _).mono ?_; rintro e w4 ⟨rfl, b4⟩)
      go_ret
      refine ⟨ret_bool (by simp [endOk, hl]), ?_, O3.trans (Only.below b4 hb3)⟩
      obtain ⟨x1, x2, x3, y1, y2, y3, y4⟩ := hRd
      exact ⟨x1, x2, x3, y1.keep b4, owns_of_below y2 b4, owns_of_below y3 b4, owns_of_below y4 b4⟩
    · have hl' : ¬ (ps.length : Int) + 1 ≤ 3 := by omega
      go_wp2
      go_ret
      exact ⟨ret_bool (by simp [endOk, hl]), hRd, O3⟩)
end Go.Proofs.YtlfmefojcmpfeaaGreatDoor

/-! What the program's reader of versions does at the end of a word of digits, and at each sign: contracts for the walks; condition: what it holds lies in memory as told. -/
namespace Go.Proofs.YtlfmefojcmpfeaaGreatDoor
open Go.RowKit
set_option linter.unusedSimpArgs false
set_option linter.unusedVariables false

theorem cell_int (w : World) (n : Int) : ∀ j u, [Value.int .i64 n][j]? = some u → (w.alloc (.cells #[.int .i64 n] 3)).cell? ((⟨w.heap.size, 0, none⟩ : Addr).add j) = some u := cell_one_new _ _ _
theorem cell_byte (w : World) (n : Int) : ∀ j u, [Value.int .u8 n][j]? = some u → (w.alloc (.cells #[.int .u8 n] 5)).cell? ((⟨w.heap.size, 0, none⟩ : Addr).add j) = some u := cell_one_new _ _ _
theorem Rd.keep {w w' : World} {R base : Nat} {ws ns : List Int} {ps : List ByteArray} {inP : Bool} (h : Rd w R base ws ns ps inP) (b : Below w.heap.size w w') : Rd w' R base ws ns ps inP := by
  obtain ⟨x1, x2, x3, y1, y2, y3, y4⟩ := h
  exact ⟨x1, x2, x3, y1.keep b, owns_of_below y2 b, owns_of_below y3 b, owns_of_below y4 b⟩

set_option maxHeartbeats 2000000 in
set_option maxRecDepth 100000 in
theorem ends_out (R base : Nat) (ws ns : List Int) (ps : List ByteArray) (w : World) (h : Rd w R base ws ns ps false) (hR : R < base) (hbw : base ≤ w.heap.size) (hw : ws.length ≤ 1048576) (hns : ns.length ≤ 1048576) :
    Calls Tryz.prog 293 #[.pointer (some ⟨R, 0, none⟩)] w fun e w' => e = .returned (.bool (endOk ns ps false (strOfNums ws))) ∧ Rd w' R base [] (endNs ns false (strOfNums ws)) (endPs ps false (strOfNums ws)) false ∧ Only R base w w' := by
  obtain ⟨i0, hi, hz0, hz1, hz2⟩ := info_parts infoI
  obtain ⟨vw, vn, vp, hF, hWr, hNr, hPr⟩ := h
  have hcv := conv_word hWr
  have htz : (strOfNums ws).size ≤ maxLen := by rw [strOfNums_size]; unfold maxLen; omega
  obtain ⟨t, ht⟩ : ∃ t, t = strOfNums ws := ⟨_, rfl⟩
  rw [← ht] at hcv htz ⊢
  clear ht
  obtain ⟨v0, hv0, hW0⟩ : ∃ v0, (vw = .slice none 0 0 ∧ v0 = .slice none 0 0 ∨ ∃ g n cap, vw = .slice (some ⟨g, 0, none⟩) n cap ∧ v0 = .slice (some ⟨g, 0, none⟩) 0 cap ∧ n ≤ cap) ∧ w.ownsRow base 5 1 v0 0 [] := by
    rcases hWr.2 with ⟨rfl, _⟩ | ⟨g, cap, cur, rfl, _, _, hn, _⟩
    · exact ⟨_, .inl ⟨rfl, rfl⟩, World.ownsRow_nil _ _ _ _⟩
    · exact ⟨_, .inr ⟨g, ws.length, cap, rfl, rfl, hn⟩, row_empty hWr⟩
  have F1 := (four_set hF v0).1
  have hW1 := owns_set hW0 (p := ⟨R, 0, none⟩) hR v0
  have hN1 := owns_set hNr (p := ⟨R, 0, none⟩) hR v0
  have hP1 := owns_set hPr (p := ⟨R, 0, none⟩) hR v0
  have O1 : Only R base w (w.setCell ⟨R, 0, none⟩ v0) := Only.set w 0 v0
  have hb1 : base ≤ (w.setCell ⟨R, 0, none⟩ v0).heap.size := Nat.le_trans hbw O1.size
  obtain ⟨c0, c1, c2, c3⟩ := hF.cells
  have f0 := hF.frozen 0
  obtain ⟨d0, d1, d2, d3⟩ := F1.cells
  have g2 := F1.frozen 1
  have hlR := F1.lt
  obtain ⟨m, hm⟩ : ∃ m, m = numOut t 9999 := ⟨_, rfl⟩
  have HNum : Hid (∀ w1, Calls Tryz.prog 301 #[.string t, .int .i64 9999] w1 fun e w' => e = .returned (.tuple #[.int .i64 m, .bool (numGood t 9999)]) ∧ w1 = w') := fun w1 => by rw [hm]; exact implNum_c t 9999 htz w1
  have HM : Hid (m = numOut t 9999) := hm
  clear hm
  have hsz : (w.setCell ⟨R, 0, none⟩ v0).heap.size = w.heap.size := by simp [World.setCell]
  have hcs := cell_int (w.setCell ⟨R, 0, none⟩ v0) m
  rw [hsz] at hcs
  have HC : Hid (∀ j u, (intsV [m])[j]? = some u → ((w.setCell ⟨R, 0, none⟩ v0).alloc (.cells #[.int .i64 m] 3)).cell? ((⟨w.heap.size, 0, none⟩ : Addr).add j) = some u) := hcs
  have hPA := hP1.alloc (.cells #[.int .i64 m] 3)
  have hNA := hN1.alloc (.cells #[.int .i64 m] 3)
  have hWA := hW1.alloc (.cells #[.int .i64 m] 3)
  have FA := four_old F1 (.cells #[.int .i64 m] 3)
  have OA : Only R base w ((w.setCell ⟨R, 0, none⟩ v0).alloc (.cells #[.int .i64 m] 3)) := O1.trans (Only.alloc _ hb1)
  have hbA : base ≤ ((w.setCell ⟨R, 0, none⟩ v0).alloc (.cells #[.int .i64 m] 3)).heap.size := Nat.le_trans hbw OA.size
  have HP : Hid (((w.setCell ⟨R, 0, none⟩ v0).alloc (.cells #[.int .i64 m] 3)).ownsRow base 3 1 vn ns.length (intsV ns)) := hNA
  obtain ⟨vna, vnn, vnc, rfl⟩ : ∃ a n cap, vn = .slice a n cap := by rcases hNr.2 with ⟨rfl, _⟩ | ⟨g, cap, cur, rfl, _⟩ <;> exact ⟨_, _, _, rfl⟩
  clear hWr hNr hPr hF hcs hP1 hN1 hW1 hNA hsz
  rcases hv0 with ⟨rfl, rfl⟩ | ⟨gb, n, cap, rfl, rfl, hn⟩
  all_goals (
    go_enter Tryz.func293, Tryz.ntmps293
    go_wp2_with (first
      | (go_at_call 301; refine (HNum.out _).mono ?_; rintro e w1 ⟨rfl, rfl⟩)
      | (at_builtin; refine wpList_append_own _ rfl _ _ 149 rfl base 3 i0 (.int .i64 0) 1 8 Tryz.underlying149 hi hz0 hz1 hz2 rfl (by decide) _ ns.length (intsV ns) rfl HP.out ⟨w.heap.size, 0, none⟩ 1 1 (intsV [m]) rfl rfl HC.out (fun u hu => by simp [intsV] at hu; subst hu; rfl) (by unfold maxLen; omega) (by omega) hbA ?_))
    intro v2 w2 o2 gr2 _
    rw [show intsV ns ++ intsV [m] = intsV (ns ++ [m]) by simp [intsV]] at o2
    have hrow : ∀ k, Value.ownBlock (.slice vna vnn vnc) = some k → base ≤ k := fun k hk => (HP.out.lt k hk).1
    have F2 := FA.grown gr2 hR hrow
    have hP2 := hPA.kept gr2 (rows_apart HP.out hPA (by decide))
    have hW2 := hWA.kept gr2 (rows_apart HP.out hWA (by decide))
    have O2 := OA.trans (Only.grown gr2 hbA hrow)
    have hb2 := Nat.le_trans hbw O2.size
    clear gr2 HP hPA hWA FA OA hbA HC F1 O1
    obtain ⟨e0, e1, e2, e3⟩ := F2.cells
    have h2 := F2.frozen 1
    have F3 := (four_set F2 v2).2.1
    have hN3 := owns_set o2 (p := ⟨R, 1, none⟩) hR v2
    have hW3 := owns_set hW2 (p := ⟨R, 1, none⟩) hR v2
    have hP3 := owns_set hP2 (p := ⟨R, 1, none⟩) hR v2
    have O3 := O2.trans (Only.set w2 1 v2)
    have hb3 := Nat.le_trans hbw O3.size
    obtain ⟨k0, k1, k2, k3⟩ := F3.cells
    obtain ⟨q2, cap2, hv2⟩ : ∃ q cap, v2 = .slice q (ns.length + 1) cap := by
      rcases o2.2 with ⟨_, h⟩ | ⟨g, cap, cur, rfl, _⟩
      · omega
      · exact ⟨_, _, rfl⟩
    subst hv2
    clear o2 hP2 hW2 F2 O2 hb2 d0 d1 d2 d3 c0 c1 c2 c3
    have hRd : Rd (w2.setCell ⟨R, 1, none⟩ (.slice q2 (ns.length + 1) cap2)) R base [] (ns ++ [m]) ps false := ⟨_, _, _, F3, hW3, by simpa using hN3, hP3⟩
    rw [HM.out] at hRd
    clear F3 hN3 hW3 hP3
    cases hg : numGood t 9999 with
    | true =>
      go_wp2
      go_ret
      refine ⟨ret_bool ?_, hRd, O3⟩
      rw [endOk, if_neg (by simp), hg, Bool.eq_iff_iff]
      simp; try omega
    | false =>
      go_wp2
      go_ret
      exact ⟨ret_bool (by rw [endOk, if_neg (by simp), hg]; rfl), hRd, O3⟩)

theorem ends_c (R base : Nat) (ws ns : List Int) (ps : List ByteArray) (inP : Bool) (w : World) (h : Rd w R base ws ns ps inP) (hR : R < base) (hbw : base ≤ w.heap.size) (hw : ws.length ≤ 1048576) (hns : ns.length ≤ 1048576) (hps : ps.length ≤ 1048576) :
    Calls Tryz.prog 293 #[.pointer (some ⟨R, 0, none⟩)] w fun e w' => e = .returned (.bool (endOk ns ps inP (strOfNums ws))) ∧ Rd w' R base [] (endNs ns inP (strOfNums ws)) (endPs ps inP (strOfNums ws)) inP ∧ Only R base w w' := by
  cases inP
  · exact ends_out R base ws ns ps w h hR hbw hw hns
  · exact ends_in R base ws ns ps w h hR hbw hw hps
end Go.Proofs.YtlfmefojcmpfeaaGreatDoor

/-! What the program's reader of versions does at each sign: contracts for the walks; condition: what it holds lies in memory as told. -/
namespace Go.Proofs.YtlfmefojcmpfeaaGreatDoor
open Go.RowKit
set_option linter.unusedSimpArgs false
set_option linter.unusedVariables false

set_option maxHeartbeats 2000000 in
set_option maxRecDepth 100000 in
theorem takes_dot (R base : Nat) (ws ns : List Int) (ps : List ByteArray) (inP : Bool) (w : World) (h : Rd w R base ws ns ps inP) (hR : R < base) (hbw : base ≤ w.heap.size) (hw : ws.length ≤ 1048576) (hns : ns.length ≤ 1048576) (hps : ps.length ≤ 1048576) :
    Calls Tryz.prog 292 #[.pointer (some ⟨R, 0, none⟩), .int .i32 46] w fun e w' => e = .returned (.bool (endOk ns ps inP (strOfNums ws))) ∧ Rd w' R base [] (endNs ns inP (strOfNums ws)) (endPs ps inP (strOfNums ws)) inP ∧ Only R base w w' := by
  have HE := ends_c R base ws ns ps inP w h hR hbw hw hns hps
  clear h
  go_enter Tryz.func292, Tryz.ntmps292
  go_wp2_with (go_at_call 293; refine HE.mono ?_; rintro e w1 ⟨rfl, h1, o1⟩)
  go_ret
  exact ⟨rfl, h1, o1⟩

set_option maxHeartbeats 2000000 in
set_option maxRecDepth 100000 in
theorem takes_dash (R base : Nat) (ws ns : List Int) (ps : List ByteArray) (w : World) (h : Rd w R base ws ns ps false) (hR : R < base) (hbw : base ≤ w.heap.size) (hw : ws.length ≤ 1048576) (hns : ns.length ≤ 1048576) (hps : ps.length ≤ 1048576) :
    Calls Tryz.prog 292 #[.pointer (some ⟨R, 0, none⟩), .int .i32 45] w fun e w' => e = .returned (.bool (endOk ns ps false (strOfNums ws))) ∧ Rd w' R base [] (endNs ns false (strOfNums ws)) (endPs ps false (strOfNums ws)) true ∧ Only R base w w' := by
  have HE := ends_c R base ws ns ps false w h hR hbw hw hns hps
  obtain ⟨vw, vn, vp, hF, hWr, hNr, hPr⟩ := h
  obtain ⟨c0, c1, c2, c3⟩ := hF.cells
  clear hWr hNr hPr hF
  go_enter Tryz.func292, Tryz.ntmps292
  go_wp2_with fail
  go_at_call 293
  refine HE.mono ?_
  rintro e w1 ⟨rfl, ⟨vw', vn', vp', F1, hW1, hN1, hP1⟩, o1⟩
  obtain ⟨d0, d1, d2, d3⟩ := F1.cells
  have g3 := F1.frozen 3
  go_wp2_with fail
  go_ret
  exact ⟨rfl, ⟨_, _, _, (four_set F1 (.bool true)).2.2.2, owns_set hW1 (p := ⟨R, 3, none⟩) hR _, owns_set hN1 (p := ⟨R, 3, none⟩) hR _, owns_set hP1 (p := ⟨R, 3, none⟩) hR _⟩, o1.trans (Only.set w1 3 _)⟩

theorem pre_range {c : Int} (h : preB c = true) : 45 ≤ c ∧ c ≤ 122 := by
  simp [preB, smallB, inB, digitB] at h; omega

set_option maxHeartbeats 2000000 in
set_option maxRecDepth 100000 in
theorem takes_sign (R base : Nat) (ws ns : List Int) (ps : List ByteArray) (inP : Bool) (c : Int) (w : World) (h : Rd w R base ws ns ps inP) (hR : R < base) (hbw : base ≤ w.heap.size) (hw : ws.length ≤ 1048576) (hc1 : ¬ c = 46) (hc2 : ¬ (c = 45 ∧ inP = false)) (hp : preB c = true) :
    Calls Tryz.prog 292 #[.pointer (some ⟨R, 0, none⟩), .int .i32 c] w fun e w' => e = .returned (.bool true) ∧ Rd w' R base (ws ++ [c]) ns ps inP ∧ Only R base w w' := by
  obtain ⟨i0, hi, hz0, hz1, hz2⟩ := info_parts info5
  have hcr := pre_range hp
  obtain ⟨hcl, hch⟩ := hcr
  obtain ⟨vw, vn, vp, hF, hWr, hNr, hPr⟩ := h
  obtain ⟨c0, c1, c2, c3⟩ := hF.cells
  have f0 := hF.frozen 0
  have hlR := hF.lt
  have e1 : (c == 46) = false := by simpa using hc1
  have HC : Hid (∀ j u, (bytesV [c])[j]? = some u → (w.alloc (.cells #[.int .u8 c] 5)).cell? ((⟨w.heap.size, 0, none⟩ : Addr).add j) = some u) := cell_byte w c
  have hPA := hPr.alloc (.cells #[.int .u8 c] 5)
  have hNA := hNr.alloc (.cells #[.int .u8 c] 5)
  have hWA := hWr.alloc (.cells #[.int .u8 c] 5)
  have FA := four_old hF (.cells #[.int .u8 c] 5)
  have OA : Only R base w (w.alloc (.cells #[.int .u8 c] 5)) := Only.alloc _ hbw
  have hbA : base ≤ (w.alloc (.cells #[.int .u8 c] 5)).heap.size := Nat.le_trans hbw OA.size
  have HP : Hid ((w.alloc (.cells #[.int .u8 c] 5)).ownsRow base 5 1 vw ws.length (bytesV ws)) := hWA
  obtain ⟨vna, vnn, vnc, rfl⟩ : ∃ a n cap, vw = .slice a n cap := by rcases hWr.2 with ⟨rfl, _⟩ | ⟨g, cap, cur, rfl, _⟩ <;> exact ⟨_, _, _, rfl⟩
  have hwu : IntKind.u8.wrap c = c := by simp [IntKind.wrap, IntKind.signed, IntKind.bits]; omega
  clear hWr hNr hPr hF hWA
  have hfin : ∀ v2 w2, w2.ownsRow base 5 1 v2 (ws.length + 1) (bytesV ws ++ bytesV [c]) → (w.alloc (.cells #[.int .u8 c] 5)).grownBy w2 (Value.ownBlock (.slice vna vnn vnc)) → Four w2 R 335 (.slice vna vnn vnc) vn vp (.bool inP) ∧ Rd (w2.setCell ⟨R, 0, none⟩ v2) R base (ws ++ [c]) ns ps inP ∧ Only R base w (w2.setCell ⟨R, 0, none⟩ v2) := fun v2 w2 o2 gr2 => by
    have hrow : ∀ k, Value.ownBlock (.slice vna vnn vnc) = some k → base ≤ k := fun k hk => (HP.out.lt k hk).1
    have F2 := FA.grown gr2 hR hrow
    have hP2 := hPA.kept gr2 (rows_apart HP.out hPA (by decide))
    have hN2 := hNA.kept gr2 (rows_apart HP.out hNA (by decide))
    rw [show bytesV ws ++ bytesV [c] = bytesV (ws ++ [c]) by simp [bytesV]] at o2
    refine ⟨F2, ⟨_, _, _, (four_set F2 v2).1, by simpa using owns_set o2 (p := ⟨R, 0, none⟩) hR v2, owns_set hN2 (p := ⟨R, 0, none⟩) hR v2, owns_set hP2 (p := ⟨R, 0, none⟩) hR v2⟩, (OA.trans (Only.grown gr2 hbA hrow)).trans (Only.set w2 0 v2)⟩
  have HF : Hid (∀ v2 w2, w2.ownsRow base 5 1 v2 (ws.length + 1) (bytesV ws ++ bytesV [c]) → (w.alloc (.cells #[.int .u8 c] 5)).grownBy w2 (Value.ownBlock (.slice vna vnn vnc)) → Four w2 R 335 (.slice vna vnn vnc) vn vp (.bool inP) ∧ Rd (w2.setCell ⟨R, 0, none⟩ v2) R base (ws ++ [c]) ns ps inP ∧ Only R base w (w2.setCell ⟨R, 0, none⟩ v2)) := hfin
  clear hfin hPA hNA FA OA
  by_cases hd : c = 45
  · have hin : inP = true := by cases inP with | true => rfl | false => exact absurd ⟨hd, rfl⟩ hc2
    subst hin
    have e2 : (c == 45) = true := by simpa using hd
    clear hd hc2 hc1
    go_enter Tryz.func292, Tryz.ntmps292
    go_wp2_with (first
      | (go_at_call 282; refine (isPreSign_c _ _).mono ?_; rintro e w1 ⟨rfl, rfl⟩)
      | (at_builtin; refine wpList_append_own _ rfl _ _ 22 rfl base 5 i0 (.int .u8 0) 1 1 Tryz.underlying22 hi hz0 hz1 hz2 rfl (by decide) _ ws.length (bytesV ws) rfl HP.out ⟨w.heap.size, 0, none⟩ 1 1 (bytesV [c]) rfl rfl HC.out (fun u hu => by simp [bytesV] at hu; subst hu; rfl) (by unfold maxLen; omega) (by omega) hbA ?_))
    intro v2 w2 o2 gr2 _
    obtain ⟨F2, hRd, O2⟩ := HF.out v2 w2 o2 gr2
    obtain ⟨d0, d1, d2, d3⟩ := F2.cells
    have g0 := F2.frozen 0
    obtain ⟨q2, cap2, hv2⟩ : ∃ q cap, v2 = .slice q (ws.length + 1) cap := by
      rcases o2.2 with ⟨_, h⟩ | ⟨g, cap, cur, rfl, _⟩
      · omega
      · exact ⟨_, _, rfl⟩
    subst hv2
    clear o2 gr2 HF HP HC
    go_wp2_with fail
    go_ret
    exact ⟨rfl, hRd, O2⟩
  · have e2 : (c == 45) = false := by simpa using hd
    clear hd hc2 hc1
    go_enter Tryz.func292, Tryz.ntmps292
    go_wp2_with (first
      | (go_at_call 282; refine (isPreSign_c _ _).mono ?_; rintro e w1 ⟨rfl, rfl⟩)
      | (at_builtin; refine wpList_append_own _ rfl _ _ 22 rfl base 5 i0 (.int .u8 0) 1 1 Tryz.underlying22 hi hz0 hz1 hz2 rfl (by decide) _ ws.length (bytesV ws) rfl HP.out ⟨w.heap.size, 0, none⟩ 1 1 (bytesV [c]) rfl rfl HC.out (fun u hu => by simp [bytesV] at hu; subst hu; rfl) (by unfold maxLen; omega) (by omega) hbA ?_))
    intro v2 w2 o2 gr2 _
    obtain ⟨F2, hRd, O2⟩ := HF.out v2 w2 o2 gr2
    obtain ⟨d0, d1, d2, d3⟩ := F2.cells
    have g0 := F2.frozen 0
    obtain ⟨q2, cap2, hv2⟩ : ∃ q cap, v2 = .slice q (ws.length + 1) cap := by
      rcases o2.2 with ⟨_, h⟩ | ⟨g, cap, cur, rfl, _⟩
      · omega
      · exact ⟨_, _, rfl⟩
    subst hv2
    clear o2 gr2 HF HP HC
    go_wp2_with fail
    go_ret
    exact ⟨rfl, hRd, O2⟩

set_option maxHeartbeats 2000000 in
set_option maxRecDepth 100000 in
theorem takes_bad (R base : Nat) (ws ns : List Int) (ps : List ByteArray) (inP : Bool) (c : Int) (w : World) (h : Rd w R base ws ns ps inP) (hc1 : ¬ c = 46) (hc2 : ¬ c = 45) (hp : preB c = false) :
    Calls Tryz.prog 292 #[.pointer (some ⟨R, 0, none⟩), .int .i32 c] w fun e w' => e = .returned (.bool false) ∧ w = w' := by
  have e1 : (c == 46) = false := by simpa using hc1
  have e2 : (c == 45) = false := by simpa using hc2
  clear hc1 hc2 h
  go_enter Tryz.func292, Tryz.ntmps292
  go_wp2_with (go_at_call 282; refine (isPreSign_c _ _).mono ?_; rintro e w1 ⟨rfl, rfl⟩)
  go_ret
  exact ⟨rfl, rfl⟩
end Go.Proofs.YtlfmefojcmpfeaaGreatDoor

/-! What the program's ParseVer answers: what its reader tells of the text's bytes: a contract for the walks; condition: the text has at most 2 to the 20 bytes. -/
namespace Go.Proofs.YtlfmefojcmpfeaaGreatDoor
open Go.RowKit
set_option linter.unusedSimpArgs false
set_option linter.unusedVariables false

def wordL (s : ByteArray) (b i : Nat) : List Int := (s.extract b i).data.toList.map fun u => (u.toNat : Int)
theorem word_str (s : ByteArray) (b i : Nat) : strOfNums (wordL s b i) = s.extract b i := by
  apply vext
  rw [strOfNums_data, wordL, List.map_map]
  conv => rhs; rw [← List.map_id (s.extract b i).data.toList]
  apply List.map_congr_left
  intro u _
  simp
theorem word_nil (s : ByteArray) (b : Nat) : wordL s b b = [] := by rw [wordL, vextract, Nat.sub_self]; rfl
theorem word_snoc (s : ByteArray) (b i : Nat) (hb : b ≤ i) (hi : i < s.size) : wordL s b (i + 1) = wordL s b i ++ [((s.data[i]!).toNat : Int)] := by
  rw [wordL, wordL, vextract, vextract, show i + 1 - b = (i - b) + 1 by omega, List.take_succ_eq_append_getElem (by rw [List.length_drop, vlen]; omega), List.map_append, List.getElem_drop]
  have e : s.data.toList[b + (i - b)]'(by rw [vlen]; omega) = s.data[i]! := by
    rw [getElem!_pos s.data i hi]
    simp [show b + (i - b) = i by omega]
  rw [e]; rfl
theorem word_len (s : ByteArray) (b i : Nat) (hb : b ≤ i) (hi : i ≤ s.size) : (wordL s b i).length = i - b := by
  rw [wordL, List.length_map, vlen, vsize s b i hb hi]

/-- What a sign does. -/
def endsB (c : Int) (inP : Bool) : Bool := c == 46 || (c == 45 && !inP)
def takeOk (c : Int) (ns : List Int) (ps : List ByteArray) (inP : Bool) (t : ByteArray) : Bool := if endsB c inP then endOk ns ps inP t else preB c
def takeNs (c : Int) (ns : List Int) (inP : Bool) (t : ByteArray) : List Int := if endsB c inP then endNs ns inP t else ns
def takePs (c : Int) (ps : List ByteArray) (inP : Bool) (t : ByteArray) : List ByteArray := if endsB c inP then endPs ps inP t else ps
def takeIn (c : Int) (inP : Bool) : Bool := inP || c == 45
def takeWs (c : Int) (ws : List Int) (inP : Bool) : List Int := if endsB c inP then [] else ws ++ [c]

theorem takes_c (R base : Nat) (ws ns : List Int) (ps : List ByteArray) (inP : Bool) (c : Int) (w : World) (h : Rd w R base ws ns ps inP) (hR : R < base) (hbw : base ≤ w.heap.size) (hw : ws.length ≤ 1048576) (hns : ns.length ≤ 1048576) (hps : ps.length ≤ 1048576) :
    Calls Tryz.prog 292 #[.pointer (some ⟨R, 0, none⟩), .int .i32 c] w fun e w' => e = .returned (.bool (takeOk c ns ps inP (strOfNums ws))) ∧ (takeOk c ns ps inP (strOfNums ws) = true → Rd w' R base (takeWs c ws inP) (takeNs c ns inP (strOfNums ws)) (takePs c ps inP (strOfNums ws)) (takeIn c inP)) ∧ Only R base w w' := by
  by_cases h1 : c = 46
  · subst h1
    refine (takes_dot R base ws ns ps inP w h hR hbw hw hns hps).mono ?_
    rintro e w' ⟨rfl, h1, o1⟩
    have e : endsB 46 inP = true := by simp [endsB]
    have e2 : takeIn 46 inP = inP := by simp [takeIn]
    rw [takeOk, takeWs, takeNs, takePs, e, e2]
    exact ⟨rfl, fun _ => h1, o1⟩
  · by_cases h2 : c = 45 ∧ inP = false
    · obtain ⟨rfl, rfl⟩ := h2
      refine (takes_dash R base ws ns ps w h hR hbw hw hns hps).mono ?_
      rintro e w' ⟨rfl, h1, o1⟩
      exact ⟨rfl, fun _ => h1, o1⟩
    · have e : endsB c inP = false := by
        cases inP
        · have : ¬ c = 45 := fun h => h2 ⟨h, rfl⟩
          simp [endsB, h1, this]
        · simp [endsB, h1]
      rw [takeOk, takeWs, takeNs, takePs, e]
      cases hp : preB c with
      | true =>
        refine (takes_sign R base ws ns ps inP c w h hR hbw hw h1 h2 hp).mono ?_
        rintro e w' ⟨rfl, h1, o1⟩
        have e2 : takeIn c inP = inP := by
          cases inP
          · have : ¬ c = 45 := fun h => h2 ⟨h, rfl⟩
            simp [takeIn, this]
          · simp [takeIn]
        rw [e2]
        exact ⟨rfl, fun _ => h1, o1⟩
      | false =>
        have h3 : ¬ c = 45 := fun h => by subst h; exact absurd hp (by decide)
        refine (takes_bad R base ws ns ps inP c w h h1 h3 hp).mono ?_
        rintro e w' ⟨rfl, rfl⟩
        exact ⟨rfl, fun h => by simp at h, Only.refl _ _ _⟩

theorem reads_step (s : ByteArray) (i b : Nat) (ns : List Int) (ps : List ByteArray) (inP : Bool) (hi : i < s.size) (c : Int) (hc : c = ((s.data[i]!).toNat : Int)) :
    reads s (s.size - i) i b ns ps inP = if takeOk c ns ps inP (s.extract b i) then reads s (s.size - (i + 1)) (i + 1) (if endsB c inP then i + 1 else b) (takeNs c ns inP (s.extract b i)) (takePs c ps inP (s.extract b i)) (takeIn c inP) else none := by
  subst hc
  rw [show s.size - i = (s.size - (i + 1)) + 1 by omega, reads]
  generalize ((s.data[i]!).toNat : Int) = c
  by_cases h1 : c = 46
  · subst h1
    simp [takeOk, takeNs, takePs, takeIn, endsB]
  · rw [if_neg h1]
    by_cases h2 : c = 45 ∧ inP = false
    · obtain ⟨rfl, rfl⟩ := h2
      simp [takeOk, takeNs, takePs, takeIn, endsB]
    · rw [if_neg h2]
      have e : endsB c inP = false := by
        cases inP
        · have : ¬ c = 45 := fun h => h2 ⟨h, rfl⟩
          simp [endsB, h1, this]
        · simp [endsB, h1]
      have e2 : takeIn c inP = inP := by
        cases inP
        · have : ¬ c = 45 := fun h => h2 ⟨h, rfl⟩
          simp [takeIn, this]
        · simp [takeIn]
      rw [takeOk, takeNs, takePs, e, e2]
      simp

theorem take_len {c : Int} {ns : List Int} {ps : List ByteArray} {inP : Bool} {t : ByteArray} (h : takeOk c ns ps inP t = true) (hn : ns.length ≤ 3) (hp : ps.length ≤ 3) : (takeNs c ns inP t).length ≤ 3 ∧ (takePs c ps inP t).length ≤ 3 := by
  unfold takeOk takeNs takePs at *
  cases he : endsB c inP
  · simp [he, hn, hp]
  · rw [he] at h
    cases inP
    · simp [endOk, endNs, endPs] at *; omega
    · simp [endOk, endNs, endPs] at *; omega

theorem iter_four {w : World} {R k : Nat} {t : TypeId} {c0 c1 c2 c3 : Value} (h : Four w R t c0 c1 c2 c3) (hk : R ≠ k) (s : ByteArray) (p : Nat) : Four (w.iterAt k s p) R t c0 c1 c2 c3 := (Lib.iterAt_other w k R s p hk).trans h
theorem iter_owns {w : World} {base : Nat} {e : TypeId} {v : Value} {n : Nat} {xs : List Value} (h : w.ownsRow base e 1 v n xs) {k : Nat} (hk : k < base) (s : ByteArray) (p : Nat) : (w.iterAt k s p).ownsRow base e 1 v n xs := by
  obtain ⟨h1, h2⟩ := h
  refine ⟨h1, ?_⟩
  rcases h2 with h2 | ⟨g, cap, cur, a, b, c, d⟩
  · exact .inl h2
  · exact .inr ⟨g, cap, cur, a, b, by rw [Lib.iterAt_other _ _ _ _ _ (by omega)]; exact c, d⟩
theorem Rd.iter {w : World} {R base : Nat} {ws ns : List Int} {ps : List ByteArray} {inP : Bool} (h : Rd w R base ws ns ps inP) {k : Nat} (hk : k < base) (hR : R ≠ k) (s : ByteArray) (p : Nat) : Rd (w.iterAt k s p) R base ws ns ps inP := by
  obtain ⟨x1, x2, x3, y1, y2, y3, y4⟩ := h
  exact ⟨x1, x2, x3, iter_four y1 hR s p, iter_owns y2 hk s p, iter_owns y3 hk s p, iter_owns y4 hk s p⟩

def resAll (s : ByteArray) : Option (List Int × List ByteArray) := reads s s.size 0 0 [] [] false
def resOk (s : ByteArray) : Bool := (resAll s).isSome
def resN (s : ByteArray) (j : Nat) : Int := match resAll s with | some (ns, _) => ns.getD j 0 | none => 0
def resP (s : ByteArray) : List ByteArray := match resAll s with | some (_, ps) => ps | none => []
end Go.Proofs.YtlfmefojcmpfeaaGreatDoor

/-! What the program's ParseVer answers: what its reader tells of the text's bytes: a contract for the walks; condition: the text has at most 2 to the 20 bytes. -/
namespace Go.Proofs.YtlfmefojcmpfeaaGreatDoor
open Go.RowKit
set_option linter.unusedSimpArgs false
set_option linter.unusedVariables false

def zeroVer : Value := .agg #[.int .i64 0, .int .i64 0, .int .i64 0, .slice none 0 0]
def verOut (s : ByteArray) (u : Value) : Value := .tuple #[.agg #[.int .i64 (resN s 0), .int .i64 (resN s 1), .int .i64 (resN s 2), u], .bool (resOk s)]
theorem out_none {s : ByteArray} (h : resAll s = none) : verOut s (.slice none 0 0) = .tuple #[.agg #[.int .i64 0, .int .i64 0, .int .i64 0, .slice none 0 0], .bool false] ∧ resP s = [] := by
  simp [verOut, resN, resOk, resP, h]
theorem out_some {s : ByteArray} {ns : List Int} {ps : List ByteArray} (h : resAll s = some (ns, ps)) (u : Value) : verOut s u = .tuple #[.agg #[.int .i64 (ns.getD 0 0), .int .i64 (ns.getD 1 0), .int .i64 (ns.getD 2 0), u], .bool true] ∧ resP s = ps := by
  simp [verOut, resN, resOk, resP, h]
theorem Only.four {R base N : Nat} {w w' : World} {t : TypeId} {c0 c1 c2 c3 : Value} (h : Only R base w w') (hF : Four w N t c0 c1 c2 c3) (hN : N < base) (hR : N ≠ R) : Four w' N t c0 c1 c2 c3 := (h.block N hN hR).trans hF
theorem Only.belowW {R base B : Nat} {w0 w w' : World} (h : Only R base w w') (hb : Below B w0 w) (hB : B ≤ base) (hR : B ≤ R) : Below B w0 w' :=
  hb.trans ⟨h.os, h.tape, h.output, h.size, fun k hk => h.block k (by omega) (by omega)⟩

theorem far4 {w : World} {N g j : Nat} {v0 v1 v2 v3 : Value} (h : g ≠ N) : ((((w.setCell ⟨N, 0, none⟩ v0).setCell ⟨N, 1, none⟩ v1).setCell ⟨N, 2, none⟩ v2).setCell ⟨N, 3, none⟩ v3).drew.cell? ⟨g, j, none⟩ = w.cell? ⟨g, j, none⟩ := by
  have hh : ∀ (a : World) (i : Nat) (x : Value), (a.setCell ⟨N, i, none⟩ x).cell? ⟨g, j, none⟩ = a.cell? ⟨g, j, none⟩ := fun a i x => World.cell?_setCell_other _ _ _ _ (by intro e; injection e; omega)
  show ((((w.setCell ⟨N, 0, none⟩ v0).setCell ⟨N, 1, none⟩ v1).setCell ⟨N, 2, none⟩ v2).setCell ⟨N, 3, none⟩ v3).cell? ⟨g, j, none⟩ = _
  rw [hh, hh, hh, hh]
theorem owns_lower {w : World} {base base' : Nat} {e : TypeId} {v : Value} {n : Nat} {xs : List Value} (h : w.ownsRow base e 1 v n xs) (hb : base' ≤ base) : w.ownsRow base' e 1 v n xs := by
  obtain ⟨h1, h2⟩ := h
  refine ⟨h1, ?_⟩
  rcases h2 with h2 | ⟨g, cap, cur, a, b, c⟩
  · exact .inl h2
  · exact .inr ⟨g, cap, cur, a, Nat.le_trans hb b, c⟩
theorem endNs_len {ns : List Int} {inP : Bool} {t : ByteArray} (h : ns.length ≤ 3) : (endNs ns inP t).length ≤ 4 := by
  cases inP <;> simp [endNs] <;> omega
theorem two_new {w : World} (o o' : Obj) : Below w.heap.size w ((w.alloc o).alloc o') := ((Below.refl _ _).alloc (Nat.le_refl _) _).alloc (by simp) _

set_option maxHeartbeats 4000000 in
set_option maxRecDepth 100000 in
theorem implParse_c (s : ByteArray) (hs : s.size ≤ 1048576) (w : World) :
    Calls Tryz.prog 258 #[.string s] w fun e w' => ∃ u, e = .returned (verOut s u) ∧ w'.ownsRow w.heap.size 9 1 u (resP s).length (strsV (resP s)) ∧ Below w.heap.size w w' := by
  obtain ⟨A0, B0⟩ := four_two w 30 335 (.int .i64 0) (.int .i64 0) (.int .i64 0) (.slice none 0 0) (.slice none 0 0) (.slice none 0 0) (.slice none 0 0) (.bool false)
  have hbW := two_new (w := w) (.cells #[.int .i64 0, .int .i64 0, .int .i64 0, .slice none 0 0] 30) (.cells #[.slice none 0 0, .slice none 0 0, .slice none 0 0, .bool false] 335)
  have hsW : ((w.alloc (.cells #[.int .i64 0, .int .i64 0, .int .i64 0, .slice none 0 0] 30)).alloc (.cells #[.slice none 0 0, .slice none 0 0, .slice none 0 0, .bool false] 335)).heap.size = w.heap.size + 1 + 1 := by simp
  go_enter Tryz.func258, Tryz.ntmps258
  go_wp2
  go_loopw [6] (fun _ wr => ∃ (pos b : Nat) (ns : List Int) (ps : List ByteArray) (inP : Bool), pos ≤ s.size ∧ b ≤ pos ∧ ns.length ≤ 3 ∧ ps.length ≤ 3 ∧ wr.heap[w.heap.size + 1 + 1]? = some (.stringIter s pos) ∧ Rd wr (w.heap.size + 1) (w.heap.size + 1 + 1 + 1) (wordL s b pos) ns ps inP ∧ Hid (reads s (s.size - pos) pos b ns ps inP = resAll s) ∧ Below w.heap.size w wr ∧ Four wr w.heap.size 30 (.int .i64 0) (.int .i64 0) (.int .i64 0) (.slice none 0 0) ∧ w.heap.size + 1 + 1 + 1 ≤ wr.heap.size) (fun _ wr => s.size - wr.iterPos (w.heap.size + 1 + 1))
  case atStart =>
    refine ⟨0, 0, [], [], false, Nat.zero_le _, Nat.le_refl _, by simp, by simp, ?_, ⟨_, _, _, four_old B0 _, ?_, ?_, ?_⟩, rfl, hbW.alloc hbW.size _, four_old A0 _, by simp [World.iter]⟩
    · have := World.iter_heap ((w.alloc (.cells #[.int .i64 0, .int .i64 0, .int .i64 0, .slice none 0 0] 30)).alloc (.cells #[.slice none 0 0, .slice none 0 0, .slice none 0 0, .bool false] 335)) s 0
      rw [hsW] at this
      exact this
    · rw [word_nil]; exact World.ownsRow_nil _ _ _ _
    · exact World.ownsRow_nil _ _ _ _
    · exact World.ownsRow_nil _ _ _ _
  case round =>
    obtain ⟨pos, b, ns, ps, inP, hk, hbp, hns, hps, hit, hRd, hh, hbw, hA, hsz⟩ := hrel
    have hpos0 := iterPos_of hit
    clear A0 B0 hbW hsW
    by_cases hp : pos < s.size
    · obtain ⟨c, d, hd, hc⟩ : ∃ (c : Int) (d : Nat), (∀ ty, (Instr.next (.pointer (some ⟨w.heap.size + 1 + 1, 0, none⟩)) true ty).run Tryz.prog wr = .ok (.tuple #[.bool true, .int .i64 pos, .int .i32 c]) (wr.iterAt (w.heap.size + 1 + 1) s (pos + d))) ∧ ((c = ((s.data[pos]!).toNat : Int) ∧ d = 1) ∨ (128 ≤ c ∧ 128 ≤ ((s.data[pos]!).toNat : Int))) := by
        by_cases ha : (s[pos]).toNat < 128
        · exact ⟨_, 1, fun ty => Lib.run_next_ascii_at wr _ s pos ty hit hp ha, .inl ⟨by rw [byteBang s pos hp], rfl⟩⟩
        · exact ⟨_, _, fun ty => Lib.run_next_any_at wr _ s pos ty hit hp, .inr ⟨by have := (decode_high s pos hp (by omega)).1; omega, by rw [byteBang s pos hp]; omega⟩⟩
      have hit2 := Lib.iterAt_heap wr (w.heap.size + 1 + 1) s pos (pos + d) hit
      have hbw2 := Lib.below_iterAt hbw (k := w.heap.size + 1 + 1) (by omega) s (pos + d)
      have hRd2 := hRd.iter (k := w.heap.size + 1 + 1) (by omega) (by omega) s (pos + d)
      have hA2 := iter_four hA (k := w.heap.size + 1 + 1) (by omega) s (pos + d)
      have hsz2 : w.heap.size + 1 + 1 + 1 ≤ (wr.iterAt (w.heap.size + 1 + 1) s (pos + d)).heap.size := by
        have := (Array.getElem?_eq_some_iff.1 hit2).1; omega
      obtain ⟨W1, hW1⟩ : ∃ W1, W1 = wr.iterAt (w.heap.size + 1 + 1) s (pos + d) := ⟨_, rfl⟩
      rw [← hW1] at hd hit2 hbw2 hRd2 hA2 hsz2
      clear hW1 hit hbw hRd hA hsz
      have HT := takes_c (w.heap.size + 1) (w.heap.size + 1 + 1 + 1) (wordL s b pos) ns ps inP c W1 hRd2 (by omega) hsz2 (by rw [word_len s b pos hbp (by omega)]; omega) (by omega) (by omega)
      rw [word_str] at HT
      have HH : Hid (takeOk c ns ps inP (s.extract b pos) = false → resAll s = none) := fun h => by
        rw [← hh.out]
        rcases hc with ⟨hc, _⟩ | ⟨h1, h2⟩
        · rw [reads_step s pos b ns ps inP hp c hc, if_neg (by rw [h]; simp)]
        · rw [reads_step s pos b ns ps inP hp _ rfl]
          have e : takeOk ((s.data[pos]!).toNat : Int) ns ps inP (s.extract b pos) = false := by
            have e1 : endsB ((s.data[pos]!).toNat : Int) inP = false := by simp [endsB]; omega
            rw [takeOk, e1, if_neg (by simp), pre_high h2]
          rw [if_neg (by rw [e]; simp)]
      have HG : Hid (takeOk c ns ps inP (s.extract b pos) = true → d = 1 ∧ c = ((s.data[pos]!).toNat : Int)) := fun h => by
        rcases hc with ⟨hc, hd⟩ | ⟨h1, h2⟩
        · exact ⟨hd, hc⟩
        · have e1 : endsB c inP = false := by simp [endsB]; omega
          rw [takeOk, e1, if_neg (by simp), pre_high h1] at h
          cases h
      clear hc hRd2
      obtain ⟨ok, hok⟩ : ∃ ok, ok = takeOk c ns ps inP (s.extract b pos) := ⟨_, rfl⟩
      rw [← hok] at HT HH HG
      have HOK : Hid (ok = takeOk c ns ps inP (s.extract b pos)) := hok
      clear hok
      cases ok with
      | false =>
        go_wp2_with fail
        go_at_call 292
        refine HT.mono ?_
        rintro e w2 ⟨rfl, _, o2⟩
        have hA3 := o2.four hA2 (by omega) (by omega)
        obtain ⟨x0, x1, x2, x3⟩ := hA3.cells
        have f0 := hA3.frozen
        have hb3 := o2.belowW hbw2 (by omega) (by omega)
        have hnone := HH.out (by trivial)
        go_wp2_with fail
        obtain ⟨ho1, ho2⟩ := out_none hnone
        refine bodyPost_ret (v := .tuple #[.agg #[.int .i64 0, .int .i64 0, .int .i64 0, .slice none 0 0], .bool false]) (by simp [results, Tryz.results258, go_sem, x0, x1, x2, x3]) rfl ⟨.slice none 0 0, by rw [ho1], ?_, ?_⟩
        · rw [ho2]; exact World.ownsRow_nil _ _ _ _
        · exact (((hb3.setCell (by simp) _).setCell (by simp) _).setCell (by simp) _).setCell (by simp) _
      | true =>
        go_wp2_with fail
        go_at_call 292
        refine HT.mono ?_
        rintro e w2 ⟨rfl, hR3, o2⟩
        go_wp2_with fail
        obtain ⟨hd1, hc1⟩ := HG.out (by trivial)
        have hA3 := o2.four hA2 (by omega) (by omega)
        have hl := take_len HOK.out.symm hns hps
        have hit3 := (o2.block (w.heap.size + 1 + 1) (by omega) (by omega)).trans hit2
        subst hd1
        go_roundw
        case rel =>
          refine ⟨pos + 1, if endsB c inP then pos + 1 else b, takeNs c ns inP (s.extract b pos), takePs c ps inP (s.extract b pos), takeIn c inP, by omega, by split <;> omega, hl.1, hl.2, hit3, ?_, ?_, o2.belowW hbw2 (by omega) (by omega), hA3, Nat.le_trans hsz2 o2.size⟩
          · have e : wordL s (if endsB c inP then pos + 1 else b) (pos + 1) = takeWs c (wordL s b pos) inP := by
              unfold takeWs
              split
              · rw [word_nil]
              · rw [word_snoc s b pos hbp hp, ← hc1]
            rw [e]; exact hR3 (by trivial)
          · show _ = _
            rw [← hh.out, reads_step s pos b ns ps inP hp c hc1, if_pos HOK.out.symm]
        case measure => rw [iterPos_of hit3, hpos0]; omega
    · have hnx : ∀ ty, (Instr.next (.pointer (some ⟨w.heap.size + 1 + 1, 0, none⟩)) true ty).run Tryz.prog wr = _ := fun ty => Lib.run_next_end_at wr (w.heap.size + 1 + 1) s pos ty hit hp
      have he : pos = s.size := by omega
      subst he
      have HE := ends_c (w.heap.size + 1) (w.heap.size + 1 + 1 + 1) (wordL s b s.size) ns ps inP wr hRd (by omega) hsz (by rw [word_len s b s.size hbp (by omega)]; omega) (by omega) (by omega)
      rw [word_str] at HE
      have HR : Hid (resAll s = if endOk ns ps inP (s.extract b s.size) && decide (3 ≤ (endNs ns inP (s.extract b s.size)).length) then some (endNs ns inP (s.extract b s.size), endPs ps inP (s.extract b s.size)) else none) := by
        show _ = _
        rw [← hh.out, Nat.sub_self, reads]
      obtain ⟨ok, hok⟩ : ∃ ok, ok = endOk ns ps inP (s.extract b s.size) := ⟨_, rfl⟩
      obtain ⟨ns2, hns2⟩ : ∃ x, x = endNs ns inP (s.extract b s.size) := ⟨_, rfl⟩
      obtain ⟨ps2, hps2⟩ : ∃ x, x = endPs ps inP (s.extract b s.size) := ⟨_, rfl⟩
      have hl2 : ns2.length ≤ 4 := by rw [hns2]; exact endNs_len hns
      rw [← hok, ← hns2, ← hps2] at HE HR
      clear hok hns2 hps2 hRd hh hit
      go_wp2_with fail
      go_at_call 293
      refine HE.mono ?_
      rintro e w2 ⟨rfl, ⟨vw, vn, vp, hF, hWr, hNr, hPr⟩, o2⟩
      have hA3 := o2.four hA (by omega) (by omega)
      obtain ⟨x0, x1, x2, x3⟩ := hA3.cells
      have f0 := hA3.frozen
      have hb3 := o2.belowW hbw (by omega) (by omega)
      have hsz3 := Nat.le_trans hsz o2.size
      obtain ⟨k0, k1, k2, k3⟩ := hF.cells
      have hNN : vn = .slice none 0 0 ∧ ns2 = [] ∨ ∃ g cap, vn = .slice (some ⟨g, 0, none⟩) ns2.length cap ∧ ∀ j (h : j < ns2.length), w2.cell? ⟨g, j, none⟩ = some (.int .i64 ns2[j]) := by
        rcases hNr.2 with ⟨rfl, h0⟩ | ⟨g, cap, cur, rfl, _⟩
        · exact .inl ⟨rfl, List.eq_nil_of_length_eq_zero h0⟩
        · exact .inr ⟨g, cap, rfl, fun j h => by rw [hNr.cellAt j (by simpa using h)]; simp [intsV, h]⟩
      clear hA hbw hWr HE hF
      cases ok with
      | false =>
        have hnone : resAll s = none := by rw [HR.out]; rfl
        obtain ⟨ho1, ho2⟩ := out_none hnone
        go_wp2_with fail
        refine bodyPost_ret (v := .tuple #[.agg #[.int .i64 0, .int .i64 0, .int .i64 0, .slice none 0 0], .bool false]) (by simp [results, Tryz.results258, go_sem, x0, x1, x2, x3]) rfl ⟨.slice none 0 0, by rw [ho1], ?_, ?_⟩
        · rw [ho2]; exact World.ownsRow_nil _ _ _ _
        · exact (((hb3.setCell (by simp) _).setCell (by simp) _).setCell (by simp) _).setCell (by simp) _
      | true =>
        rcases hNN with ⟨rfl, rfl⟩ | ⟨gn, cap, rfl, hcn⟩
        · have hnone : resAll s = none := by rw [HR.out]; rfl
          obtain ⟨ho1, ho2⟩ := out_none hnone
          go_wp2_with fail
          refine bodyPost_ret (v := .tuple #[.agg #[.int .i64 0, .int .i64 0, .int .i64 0, .slice none 0 0], .bool false]) (by simp [results, Tryz.results258, go_sem, x0, x1, x2, x3]) rfl ⟨.slice none 0 0, by rw [ho1], ?_, ?_⟩
          · rw [ho2]; exact World.ownsRow_nil _ _ _ _
          · exact (((hb3.setCell (by simp) _).setCell (by simp) _).setCell (by simp) _).setCell (by simp) _
        · by_cases h3 : ns2.length < 3
          · have h3' : (ns2.length : Int) < 3 := by omega
            have hnone : resAll s = none := by rw [HR.out, if_neg (by simp; omega)]
            clear hcn
            obtain ⟨ho1, ho2⟩ := out_none hnone
            go_wp2_with fail
            refine bodyPost_ret (v := .tuple #[.agg #[.int .i64 0, .int .i64 0, .int .i64 0, .slice none 0 0], .bool false]) (by simp [results, Tryz.results258, go_sem, x0, x1, x2, x3]) rfl ⟨.slice none 0 0, by rw [ho1], ?_, ?_⟩
            · rw [ho2]; exact World.ownsRow_nil _ _ _ _
            · exact (((hb3.setCell (by simp) _).setCell (by simp) _).setCell (by simp) _).setCell (by simp) _
          · have h3' : ¬ (ns2.length : Int) < 3 := by omega
            have hsome : resAll s = some (ns2, ps2) := by rw [HR.out, if_pos (by simp; omega)]
            have y0 := hcn 0 (by omega)
            have y1 := hcn 1 (by omega)
            have y2 := hcn 2 (by omega)
            obtain ⟨m0, hm0⟩ : ∃ m, m = ns2[0] := ⟨_, rfl⟩
            obtain ⟨m1, hm1⟩ : ∃ m, m = ns2[1] := ⟨_, rfl⟩
            obtain ⟨m2, hm2⟩ : ∃ m, m = ns2[2] := ⟨_, rfl⟩
            rw [← hm0] at y0
            rw [← hm1] at y1
            rw [← hm2] at y2
            have M0 : Hid (ns2.getD 0 0 = m0) := by show _ = _; rw [hm0]; simp [List.getD_eq_getElem?_getD, show 0 < ns2.length by omega]
            have M1 : Hid (ns2.getD 1 0 = m1) := by show _ = _; rw [hm1]; simp [List.getD_eq_getElem?_getD, show 1 < ns2.length by omega]
            have M2 : Hid (ns2.getD 2 0 = m2) := by show _ = _; rw [hm2]; simp [List.getD_eq_getElem?_getD, show 2 < ns2.length by omega]
            have i1 : (0 : Int) < (ns2.length : Int) := by omega
            have i2 : (1 : Int) < (ns2.length : Int) := by omega
            have i3 : (2 : Int) < (ns2.length : Int) := by omega
            clear hcn hm0 hm1 hm2 HR
            obtain ⟨pa, pn, pc, rfl⟩ : ∃ a n cap, vp = .slice a n cap := by rcases hPr.2 with ⟨rfl, _⟩ | ⟨g, cap, cur, rfl, _⟩ <;> exact ⟨_, _, _, rfl⟩
            have hgN : gn ≠ w.heap.size := by have := (hNr.lt gn rfl).1; omega
            have KEEP : Hid (∀ v0 v1 v2 v3, ((((w2.setCell ⟨w.heap.size, 0, none⟩ v0).setCell ⟨w.heap.size, 1, none⟩ v1).setCell ⟨w.heap.size, 2, none⟩ v2).setCell ⟨w.heap.size, 3, none⟩ v3).drew.cell? ⟨w.heap.size + 1, 1, none⟩ = some (.slice (some ⟨gn, 0, none⟩) ns2.length cap) ∧ ((((w2.setCell ⟨w.heap.size, 0, none⟩ v0).setCell ⟨w.heap.size, 1, none⟩ v1).setCell ⟨w.heap.size, 2, none⟩ v2).setCell ⟨w.heap.size, 3, none⟩ v3).drew.cell? ⟨w.heap.size + 1, 2, none⟩ = some (.slice pa pn pc) ∧ ((((w2.setCell ⟨w.heap.size, 0, none⟩ v0).setCell ⟨w.heap.size, 1, none⟩ v1).setCell ⟨w.heap.size, 2, none⟩ v2).setCell ⟨w.heap.size, 3, none⟩ v3).drew.cell? ⟨gn, 0, none⟩ = some (.int .i64 m0) ∧ ((((w2.setCell ⟨w.heap.size, 0, none⟩ v0).setCell ⟨w.heap.size, 1, none⟩ v1).setCell ⟨w.heap.size, 2, none⟩ v2).setCell ⟨w.heap.size, 3, none⟩ v3).drew.cell? ⟨gn, 1, none⟩ = some (.int .i64 m1) ∧ ((((w2.setCell ⟨w.heap.size, 0, none⟩ v0).setCell ⟨w.heap.size, 1, none⟩ v1).setCell ⟨w.heap.size, 2, none⟩ v2).setCell ⟨w.heap.size, 3, none⟩ v3).drew.cell? ⟨gn, 2, none⟩ = some (.int .i64 m2)) := fun v0 v1 v2 v3 => ⟨(far4 (Nat.succ_ne_self _)).trans k1, (far4 (Nat.succ_ne_self _)).trans k2, (far4 hgN).trans y0, (far4 hgN).trans y1, (far4 hgN).trans y2⟩
            go_wp2_with fail
            go_region_held (fun w' => w'.cell? ⟨w.heap.size + 1, 1, none⟩ = some (.slice (some ⟨gn, 0, none⟩) ns2.length cap) ∧ w'.cell? ⟨w.heap.size + 1, 2, none⟩ = some (.slice pa pn pc) ∧ w'.cell? ⟨gn, 0, none⟩ = some (.int .i64 m0) ∧ w'.cell? ⟨gn, 1, none⟩ = some (.int .i64 m1) ∧ w'.cell? ⟨gn, 2, none⟩ = some (.int .i64 m2)) (first | (with_reducible exact KEEP.out _ _ _ _) | go_keep) (fail)
            obtain ⟨ho1, ho2⟩ := out_some hsome (.slice pa pn pc)
            go_wp2_with fail
            refine bodyPost_ret (v := .tuple #[.agg #[.int .i64 m0, .int .i64 m1, .int .i64 m2, .slice pa pn pc], .bool true]) (by simp [results, Tryz.results258, go_sem, x0, x1, x2, x3]) rfl ⟨.slice pa pn pc, by rw [ho1, M0.out, M1.out, M2.out], ?_, ?_⟩
            · rw [ho2]
              have h4 := owns_set (owns_set (owns_set (owns_set hPr (p := ⟨w.heap.size, 0, none⟩) (by simp; omega) (.int .i64 m0)) (p := ⟨w.heap.size, 1, none⟩) (by simp; omega) (.int .i64 m1)) (p := ⟨w.heap.size, 2, none⟩) (by simp; omega) (.int .i64 m2)) (p := ⟨w.heap.size, 3, none⟩) (by simp; omega) (.slice pa pn pc)
              exact owns_lower h4 (by omega)
            · exact ((((hb3.setCell (by simp) _).setCell (by simp) _).setCell (by simp) _).setCell (by simp) _).drew
end Go.Proofs.YtlfmefojcmpfeaaGreatDoor
