/-
  Contracts for the walks, several texts in one: each part says what it proves, and under which conditions.
-/
import Derived.Lib.OthersKept
import Derived.Laws.RangeAny
import Derived.BigQuiet
import Derived.Deep.QuietTactic
import Derived.Deep.RegionHeld
import Derived.Test.YtkijckpkojcdcaaDoorQ1
import Derived.Test.YtkijckpkojcdcaaDoorQ2
import Derived.Test.YtkijckpkojcdcaaDoorQ4
import Derived.Test.YtkijckpkojcdcaaDoorQ7

/-! What the two functions ParseNum (the program's and the specification's) answer: one and the same pair for every string and every bound; no condition but that a string is no longer than an int can count. -/
namespace Go.Proofs.YtkijckpkojcdcaaDoor
open Go.RowKit
set_option linter.unusedSimpArgs false
set_option linter.unusedVariables false

/-- The number that the first k bytes tell. -/
def numUpto (s : ByteArray) : Nat → Int
  | 0 => 0
  | k + 1 => numUpto s k * 10 + (((s.data[k]!).toNat : Int) - 48)

def okDigit (_ : Nat) (c : Int) : Bool := digitB c

theorem digit_bounds {c : Int} (h : digitB c = true) : 48 ≤ c ∧ c ≤ 57 := by
  simpa [digitB] using h

theorem numUpto_bounds (s : ByteArray) : ∀ k, allUpto okDigit s k = true → 0 ≤ numUpto s k ∧ numUpto s k < (10 : Int) ^ k
  | 0, _ => by simp [numUpto]
  | k + 1, h => by
    rw [allUpto, Bool.and_eq_true] at h
    have ih := numUpto_bounds s k h.1
    have hd := digit_bounds (c := ((s.data[k]!).toNat : Int)) h.2
    rw [numUpto, Int.pow_succ]
    omega

theorem numUpto_step {s : ByteArray} {k : Nat} (hk : k < s.size) : numUpto s (k + 1) = numUpto s k * 10 + (((s[k]).toNat : Int) - 48) := by
  rw [numUpto, byteBang s k hk]

theorem num_small {s : ByteArray} {k : Nat} (h : allUpto okDigit s k = true) (h8 : k ≤ 8) : 0 ≤ numUpto s k ∧ numUpto s k < 100000000 := by
  have hb := numUpto_bounds s k h
  have : (10 : Int) ^ k ≤ 10 ^ 8 := by
    have : (10 : Nat) ^ k ≤ 10 ^ 8 := Nat.pow_le_pow_right (by decide) h8
    exact_mod_cast this
  omega

/-- What both answer. -/
def numGood (s : ByteArray) (most : Int) : Bool :=
  inB s.size 1 7 && allUpto okDigit s s.size && !(decide (1 < s.size) && ((s.data[0]!).toNat : Int) == 48) && decide (numUpto s s.size ≤ most)
def numOut (s : ByteArray) (most : Int) : Int := if numGood s most then numUpto s s.size else 0

theorem numOut_bad {s : ByteArray} {most : Int} (h : numGood s most = false) : numOut s most = 0 := by simp [numOut, h]
theorem numOut_good {s : ByteArray} {most : Int} (h : numGood s most = true) : numOut s most = numUpto s s.size := by simp [numOut, h]

theorem bad_digit {s : ByteArray} {most : Int} {k : Nat} (hk : k < s.size) (h : digitB ((s[k]).toNat : Int) = false) : numGood s most = false := by
  rw [numGood, end_false (p := okDigit) hk h]; simp
theorem bad_size {s : ByteArray} {most : Int} (h : inB s.size 1 7 = false) : numGood s most = false := by
  rw [numGood, h]; simp
theorem bad_nought {s : ByteArray} {most : Int} (h1 : 1 < s.size) (h : (((s[0]).toNat : Int) == 48) = true) : numGood s most = false := by
  rw [numGood, byteBang s 0 (by omega), h, decide_eq_true h1]; simp
theorem bad_most {s : ByteArray} {most : Int} (h : most < numUpto s s.size) : numGood s most = false := by
  rw [numGood, decide_eq_false (p := numUpto s s.size ≤ most) (by omega)]; simp
theorem good_all {s : ByteArray} {most : Int} (h1 : inB s.size 1 7 = true) (h2 : allUpto okDigit s s.size = true) (h3 : ∀ h : 1 < s.size, (((s[0]).toNat : Int) == 48) = false) (h4 : numUpto s s.size ≤ most) : numGood s most = true := by
  rw [numGood, h1, h2, decide_eq_true h4]
  by_cases h : 1 < s.size
  · rw [byteBang s 0 (by omega), h3 h]; simp
  · simp [h]

theorem in17 {s : ByteArray} (h : inB s.size 1 7 = true) : 1 ≤ s.size ∧ s.size ≤ 7 := by
  simp only [inB, Bool.and_eq_true, decide_eq_true_eq] at h
  omega
theorem out17 {s : ByteArray} (h : ¬ inB s.size 1 7 = true) : inB s.size 1 7 = false := by simpa using h

theorem pair_bad {s : ByteArray} {most : Int} (h : numGood s most = false) : Ending.returned (.tuple #[.int .i64 0, .bool false]) = Ending.returned (.tuple #[.int .i64 (numOut s most), .bool (numGood s most)]) := by
  rw [numOut_bad h, h]
theorem pair_good {s : ByteArray} {most n : Int} (h : numGood s most = true) (hn : n = numUpto s s.size) : Ending.returned (.tuple #[.int .i64 n, .bool true]) = Ending.returned (.tuple #[.int .i64 (numOut s most), .bool (numGood s most)]) := by
  rw [numOut_good h, h, hn]

theorem in_false {s : ByteArray} (h : s.size = 0 ∨ 7 < s.size) : inB s.size 1 7 = false := by
  simp only [inB, Bool.and_eq_false_iff, decide_eq_false_iff_not]
  omega
theorem in_true {s : ByteArray} (h0 : 0 < s.size) (h : s.size ≤ 7) : inB s.size 1 7 = true := by
  simp only [inB, Bool.and_eq_true, decide_eq_true_eq]
  omega

end Go.Proofs.YtkijckpkojcdcaaDoor

/-! What the functions that look at one text of a Pre answer (the program's and the specification's): contracts for the walks; condition: a string is no longer than an int can count. -/
namespace Go.Proofs.YtkijckpkojcdcaaDoor
open Go.RowKit
set_option linter.unusedSimpArgs false
set_option linter.unusedVariables false

def preB (c : Int) : Bool := smallB c || inB c 65 90 || digitB c || c == 45
def okPre (_ : Nat) (c : Int) : Bool := preB c
def digitsB (s : ByteArray) : Bool := allUpto okDigit s s.size
def firstB (s : ByteArray) : Bool := ((s.data[0]!).toNat : Int) == 48
def partB (s : ByteArray) : Bool := allUpto okPre s s.size && inB s.size 1 8 && (!digitsB s || decide (s.size = 1) || !firstB s)

theorem ret_bool {a b : Bool} (h : a = b) : Ending.returned (.bool a) = .returned (.bool b) := by rw [h]

theorem pre_high {c : Int} (h : 128 ≤ c) : preB c = false := by
  rw [Bool.eq_false_iff]; simp [preB, smallB, inB, digitB]; omega

theorem partB_out {s : ByteArray} (h : s.size = 0 ∨ 8 < s.size) : partB s = false := by
  have : inB s.size 1 8 = false := by
    simp only [inB, Bool.and_eq_false_iff, decide_eq_false_iff_not]
    omega
  rw [partB, this, Bool.and_false, Bool.false_and]
theorem partB_bad {s : ByteArray} (h : allUpto okPre s s.size = false) : partB s = false := by rw [partB, h]; rfl
theorem partB_in {s : ByteArray} (h0 : 0 < s.size) (h1 : s.size ≤ 8) (h : allUpto okPre s s.size = true) : partB s = (!digitsB s || decide (s.size = 1) || !firstB s) := by
  have : inB s.size 1 8 = true := by
    simp only [inB, Bool.and_eq_true, decide_eq_true_eq]
    omega
  rw [partB, this, h]; rfl
theorem firstB_eq {s : ByteArray} (h0 : 0 < s.size) : firstB s = (((s[0]).toNat : Int) == 48) := by rw [firstB, byteBang s 0 h0]

theorem pre_1 {c : Int} (k : Nat) (h : digitB c = true) : okPre k c = true := by simp [okPre, preB, h]
theorem pre_2 {c : Int} (k : Nat) (h : smallB c = true) : okPre k c = true := by simp [okPre, preB, h]
theorem pre_3 {c : Int} (k : Nat) (h : inB c 65 90 = true) : okPre k c = true := by simp [okPre, preB, h]
theorem pre_4 {c : Int} (k : Nat) (h : (c != 45) = false) : okPre k c = true := by
  have : (c == 45) = true := by simpa using h
  simp only [okPre, preB, this, Bool.or_true]

end Go.Proofs.YtkijckpkojcdcaaDoor

/-! What the specification's look at one text of a Pre answers: a contract for the walks; condition: the string is no longer than an int can count. -/
namespace Go.Proofs.YtkijckpkojcdcaaDoor
open Go.RowKit
set_option linter.unusedSimpArgs false
set_option linter.unusedVariables false

theorem pre_none {c : Int} (k : Nat) (h1 : ¬ digitB c = true) (h2 : ¬ smallB c = true) (h3 : ¬ inB c 65 90 = true) (h4 : (c != 45) = true) : okPre k c = false := by
  have h5 : (c == 45) = false := by simpa using h4
  simp only [okPre, preB, h1, h2, h3, h5]; rfl

end Go.Proofs.YtkijckpkojcdcaaDoor

/-! What the program's look at one text of a Pre answers (it goes over the text's runes): a contract for the walks; condition: the string is no longer than an int can count. -/
namespace Go.Proofs.YtkijckpkojcdcaaDoor
open Go.RowKit
set_option linter.unusedSimpArgs false
set_option linter.unusedVariables false

theorem iterPos_of {w : World} {k : Nat} {s : ByteArray} {p : Nat} (h : w.heap[k]? = some (.stringIter s p)) : w.iterPos k = p := by simp [World.iterPos, h]
theorem rune_high (s : ByteArray) (pos : Nat) (h : pos < s.size) (ha : 128 ≤ (s[pos]).toNat) : preB ((Utf8.decode s pos).1 : Int) = false := pre_high (by have := (decode_high s pos h ha).1; omega)
theorem byte_high (s : ByteArray) (pos : Nat) (h : pos < s.size) (ha : 128 ≤ (s[pos]).toNat) : preB ((s[pos]).toNat : Int) = false := pre_high (by omega)

end Go.Proofs.YtkijckpkojcdcaaDoor

/-! What VerOk answers, the program's and the specification's: contracts for the walks; conditions: the list of texts lies in memory as told, and is no longer than 2 to the 20, with all that it holds. -/
namespace Go.Proofs.YtkijckpkojcdcaaDoor
open Go.RowKit
set_option linter.unusedSimpArgs false
set_option linter.unusedVariables false

def partsUpto (ps : List ByteArray) : Nat → Bool
  | 0 => true
  | k + 1 => partsUpto ps k && partB (ps.getD k ⟨#[]⟩)
def verB (a b c : Int) (ps : List ByteArray) : Bool := partsUpto ps ps.length && inB a 0 9999 && inB b 0 9999 && inB c 0 9999 && decide (ps.length ≤ 3)

theorem partsUpto_cut (ps : List ByteArray) (k : Nat) (h : partB (ps.getD k ⟨#[]⟩) = false) : ∀ n, k < n → partsUpto ps n = false
  | 0, h0 => by omega
  | n + 1, hk => by
    unfold partsUpto
    by_cases e : k = n
    · subst e; rw [h, Bool.and_false]
    · rw [partsUpto_cut ps k h n (by omega)]; rfl
theorem parts_end {ps : List ByteArray} {k : Nat} (hk : k < ps.length) (h : partB ps[k] = false) : partsUpto ps ps.length = false :=
  partsUpto_cut ps k (by simpa [List.getD_eq_getElem?_getD, hk] using h) _ hk
theorem parts_step {ps : List ByteArray} {k : Nat} (hk : k < ps.length) (hh : Hid (partsUpto ps k = true)) (h : partB ps[k] = true) : Hid (partsUpto ps (k + 1) = true) := by
  show _ = _
  rw [partsUpto, hh.out]
  simpa [List.getD_eq_getElem?_getD, hk] using h
theorem verB_parts {a b c : Int} {ps : List ByteArray} (h : partsUpto ps ps.length = false) : verB a b c ps = false := by rw [verB, h]; rfl
theorem verB_all {a b c : Int} {ps : List ByteArray} (h : partsUpto ps ps.length = true) : verB a b c ps = (inB a 0 9999 && inB b 0 9999 && inB c 0 9999 && decide (ps.length ≤ 3)) := by rw [verB, h]; rfl

theorem le_sum_of_mem : ∀ {ps : List ByteArray} {s : ByteArray}, s ∈ ps → s.size ≤ (ps.map ByteArray.size).sum
  | p :: ps, s, h => by
    rw [List.map_cons, List.sum_cons]
    rcases List.mem_cons.1 h with rfl | h
    · omega
    · have := le_sum_of_mem h; omega
theorem size_of_bulk {ps : List ByteArray} {s : ByteArray} (h : s ∈ ps) : s.size ≤ bulkS ps := by
  unfold bulkS
  have := le_sum_of_mem h
  omega

theorem verB_num {a b c : Int} {ps : List ByteArray} (h : inB a 0 9999 = false ∨ inB b 0 9999 = false ∨ inB c 0 9999 = false ∨ 3 < ps.length) : verB a b c ps = false := by
  rw [verB]
  rcases h with h | h | h | h
  · rw [h]; simp
  · rw [h]; simp
  · rw [h]; simp
  · have : decide (ps.length ≤ 3) = false := by simp; omega
    rw [this, Bool.and_false]

end Go.Proofs.YtkijckpkojcdcaaDoor

/-! What SameVer answers, the program's and the specification's: contracts for the walks; conditions: the lists of texts lie in memory as told, and are no longer than 2 to the 40. -/
namespace Go.Proofs.YtkijckpkojcdcaaDoor
open Go.RowKit
set_option linter.unusedSimpArgs false
set_option linter.unusedVariables false

set_option maxHeartbeats 1000000 in
set_option maxRecDepth 100000 in
theorem sameTexts_c (v u : Value) (ss ts : List ByteArray) (w : World) (hv : Reads w v (strsV ss)) (hu : Reads w u (strsV ts)) (hn : ss.length ≤ 1099511627776) :
    Calls Tryd.prog 57 #[v, u] w fun e w' => e = .returned (.bool (decide (ss = ts))) ∧ Below w.heap.size w w' := by
  obtain ⟨a, cap, rfl, _, hc⟩ := reads_strs hv
  obtain ⟨a2, cap2, rfl, _, hc2⟩ := reads_strs hu
  clear hv hu
  by_cases hl : ss.length = ts.length
  · rcases hc with rfl | ⟨b, off, rfl, hlt, hc⟩
    · have : ts = [] := List.eq_nil_of_length_eq_zero (by simpa using hl.symm)
      subst this
      go_enter Tryd.func57, Tryd.ntmps57
      go_wp2
      go_loopw [5] (fun vi wr => vi = .int .i64 0 ∧ wr = w) (fun _ _ => 0)
      case atStart => exact ⟨rfl, rfl⟩
      case round =>
        obtain ⟨rfl, rfl⟩ := hrel
        go_wp2
        go_ret
        exact ⟨rfl, Below.refl _ _⟩
    rcases hc2 with rfl | ⟨b2, off2, rfl, hlt2, hc2⟩
    · have : ss = [] := List.eq_nil_of_length_eq_zero (by simpa using hl)
      subst this
      go_enter Tryd.func57, Tryd.ntmps57
      go_wp2
      go_loopw [5] (fun vi wr => vi = .int .i64 0 ∧ wr = w) (fun _ _ => 0)
      case atStart => exact ⟨rfl, rfl⟩
      case round =>
        obtain ⟨rfl, rfl⟩ := hrel
        go_wp2
        go_ret
        exact ⟨rfl, Below.refl _ _⟩
    · have HL : Hid (ss.length = ts.length) := hl
      have hc2' : ∀ k (h : k < ts.length), w.cell? ⟨b2, off2 + k, none⟩ = some (.string ts[k]) := hc2
      have HC2 : Hid (∀ k (h : k < ts.length), w.cell? ⟨b2, off2 + k, none⟩ = some (.string ts[k])) := hc2'
      rw [← hl]
      clear hl hc2 hc2'
      go_enter Tryd.func57, Tryd.ntmps57
      go_wp2
      go_loopw [5] (fun vi wr => ∃ k : Nat, k ≤ ss.length ∧ vi = .int .i64 (k : Int) ∧ Hid (∀ j (h1 : j < ss.length) (h2 : j < ts.length), j < k → ss[j] = ts[j]) ∧ Below w.heap.size w wr) (fun vi _ => ss.length - (intOf vi).toNat)
      case atStart => exact ⟨0, Nat.zero_le _, rfl, fun j h1 h2 hj => by omega, Below.refl _ _⟩
      case round =>
        obtain ⟨k, hk, rfl, hy, hbr⟩ := hrel
        by_cases hlt' : k < ss.length
        · have hlt2' : k < ts.length := by have := HL.out; omega
          have hcx : wr.cell? ⟨b, off + k, none⟩ = some (.string ss[k]) := (hbr.cell (p := ⟨b, off + k, none⟩) hlt).trans (hc k hlt')
          have hcy : wr.cell? ⟨b2, off2 + k, none⟩ = some (.string ts[k]) := (hbr.cell (p := ⟨b2, off2 + k, none⟩) hlt2).trans (HC2.out k hlt2')
          obtain ⟨x, hx⟩ : ∃ x, x = ss[k] := ⟨_, rfl⟩
          obtain ⟨y, hy'⟩ : ∃ y, y = ts[k] := ⟨_, rfl⟩
          rw [← hx] at hcx
          rw [← hy'] at hcy
          have HX : Hid (x = ss[k]) := hx
          have HY : Hid (y = ts[k]) := hy'
          have hki : (k : Int) < (ss.length : Int) := by omega
          clear hc hx hy'
          go_wp2
          go_quiet (fail)
          go_wp2
          · have hne : (!x.toList == y.toList) = true := by assumption
            have hne' : ¬ ss = ts := fun e => by
              have e1 := HX.out; have e2 := HY.out; subst e; rw [← e2] at e1; subst e1; simp at hne
            go_ret
            exact ⟨by simp [hne'], below_drewN' hbr _⟩
          · have he : (!x.toList == y.toList) = false := by assumption
            have he' : x = y := bytes_eq_of_toList (by simpa using he)
            go_roundw
            case rel => exact ⟨k + 1, by omega, by go_num, fun j h1 h2 hj => (by
              by_cases e : j = k
              · subst e; rw [← HX.out, ← HY.out]; exact he'
              · exact hy.out j h1 h2 (by omega)), below_drewN' hbr _⟩
            case measure => simp [intOf]; omega
        · clear hc
          have he : k = ss.length := by omega
          subst he
          have e : ss = ts := strs_done HL.out (fun j h1 h2 => hy.out j h1 h2 h1)
          go_wp2
          go_ret
          exact ⟨by simp [e], hbr⟩
  · have hne : ¬ ss = ts := fun e => hl (by rw [e])
    have hl' : ((ss.length : Int) != (ts.length : Int)) = true := by simp; omega
    rw [decide_eq_false hne]
    clear hc hc2
    go_enter Tryd.func57, Tryd.ntmps57
    go_wp2
    go_ret
    exact ⟨rfl, Below.refl _ _⟩

theorem boxes_pre {w w1 : World} {c0 c1 c2 c3 d0 d1 d2 d3 : Value} {t t' : TypeId} (hb : Below ((w.alloc (.cells #[c0, c1, c2, c3] t)).alloc (.cells #[d0, d1, d2, d3] t')).heap.size ((w.alloc (.cells #[c0, c1, c2, c3] t)).alloc (.cells #[d0, d1, d2, d3] t')) w1) :
    w1.cell? ⟨w.heap.size, 3, none⟩ = some c3 ∧ w1.cell? ⟨w.heap.size + 1, 3, none⟩ = some d3 := by
  have s1 : ∀ o, (w.alloc o).heap.size = w.heap.size + 1 := fun o => by simp
  refine ⟨?_, ?_⟩
  · rw [hb.cell (p := ⟨w.heap.size, 3, none⟩) (by simp; omega)]
    exact vblk_cell ((vheap_old _ _ (by simp)).trans (vheap_new _ _)) 3
  · rw [hb.cell (p := ⟨w.heap.size + 1, 3, none⟩) (by simp)]
    have h := vheap_new (w.alloc (.cells #[c0, c1, c2, c3] t)) (.cells #[d0, d1, d2, d3] t')
    rw [s1] at h
    exact vblk_cell h 3


def coreB (a b c a' b' c' : Int) : Bool := a == a' && b == b' && c == c'
def sameB (a b c : Int) (ps : List ByteArray) (a' b' c' : Int) (ps' : List ByteArray) : Bool := coreB a b c a' b' c' && decide (ps = ps')

theorem two_box {w : World} (o o' : Obj) : Below w.heap.size w ((w.alloc o).alloc o') := ((Below.refl _ _).alloc (Nat.le_refl _) _).alloc (by simp) _

set_option maxHeartbeats 1000000 in
set_option maxRecDepth 100000 in
theorem core_c (a b c : Int) (q : Option Addr) (n cap : Nat) (a' b' c' : Int) (q' : Option Addr) (n' cap' : Nat) (w : World) :
    Calls Tryd.prog 56 #[.agg #[.int .i64 a, .int .i64 b, .int .i64 c, .slice q n cap], .agg #[.int .i64 a', .int .i64 b', .int .i64 c', .slice q' n' cap']] w fun e w' => e = .returned (.bool (coreB a b c a' b' c')) ∧ Below w.heap.size w w' := by
  cases ha : (a == a') with
  | false =>
    have e : coreB a b c a' b' c' = false := by rw [coreB, ha]; rfl
    rw [e]
    go_enter Tryd.func56, Tryd.ntmps56
    go_wp2
    go_ret
    exact ⟨rfl, two_box _ _⟩
  | true =>
  cases hb : (b == b') with
  | false =>
    have e : coreB a b c a' b' c' = false := by rw [coreB, hb, Bool.and_false]; rfl
    rw [e]
    go_enter Tryd.func56, Tryd.ntmps56
    go_wp2
    go_ret
    exact ⟨rfl, two_box _ _⟩
  | true =>
    have e : coreB a b c a' b' c' = (c == c') := by rw [coreB, ha, hb]; rfl
    rw [e]
    clear e
    go_enter Tryd.func56, Tryd.ntmps56
    go_wp2
    go_ret
    exact ⟨rfl, two_box _ _⟩

set_option maxHeartbeats 1000000 in
set_option maxRecDepth 100000 in
theorem specSame_c (a b c : Int) (u : Value) (ps : List ByteArray) (a' b' c' : Int) (u' : Value) (ps' : List ByteArray) (w : World) (hu : Reads w u (strsV ps)) (hu' : Reads w u' (strsV ps')) (hn : ps.length ≤ 1048576) :
    Calls Tryd.prog 34 #[.agg #[.int .i64 a, .int .i64 b, .int .i64 c, u], .agg #[.int .i64 a', .int .i64 b', .int .i64 c', u']] w fun e w' => e = .returned (.bool (sameB a b c ps a' b' c' ps')) ∧ Below w.heap.size w w' := by
  have hru : ∀ w1, Below w.heap.size w w1 → Reads w1 u (strsV ps) ∧ Reads w1 u' (strsV ps') := fun w1 h => ⟨hu.below h, hu'.below h⟩
  have HS : Hid (∀ w1, Below w.heap.size w w1 → Calls Tryd.prog 57 #[u, u'] w1 fun e w' => e = .returned (.bool (decide (ps = ps'))) ∧ Below w1.heap.size w1 w') := fun w1 h => sameTexts_c u u' ps ps' w1 (hru w1 h).1 (hru w1 h).2 (by omega)
  obtain ⟨q, cap, rfl, _, _⟩ := reads_strs hu
  obtain ⟨q', cap', rfl, _, _⟩ := reads_strs hu'
  clear hu hu' hru
  cases hc : coreB a b c a' b' c' with
  | false =>
    have e : sameB a b c ps a' b' c' ps' = false := by rw [sameB, hc]; rfl
    rw [e]
    go_enter Tryd.func34, Tryd.ntmps34
    go_wp2_with (go_at_call 56; refine (core_c _ _ _ _ _ _ _ _ _ _ _ _ _).mono ?_; rintro e w1 ⟨rfl, b1⟩)
    go_ret
    exact ⟨rfl, (two_box _ _).trans (b1.mono (by simp; omega))⟩
  | true =>
    have e : sameB a b c ps a' b' c' ps' = decide (ps = ps') := by rw [sameB, hc]; rfl
    rw [e]
    clear e
    go_enter Tryd.func34, Tryd.ntmps34
    go_wp2_with (first
      | (go_at_call 56; refine (core_c _ _ _ _ _ _ _ _ _ _ _ _ _).mono ?_; rintro e w1 ⟨rfl, b1⟩
         have hw1 : Below w.heap.size w w1 := (two_box _ _).trans (b1.mono (by simp; omega))
         obtain ⟨x3, y3⟩ := boxes_pre b1)
      | (go_at_call 57; refine (HS.out _ hw1).mono ?_; rintro e w2 ⟨rfl, b2⟩))
    go_ret
    exact ⟨rfl, hw1.trans (b2.mono hw1.size)⟩

end Go.Proofs.YtkijckpkojcdcaaDoor

/-! The place of the pack of a name, the program's and the specification's: contracts for the walks; conditions: the row of packs lies in memory. -/
namespace Go.Proofs.YtkijckpkojcdcaaDoor
open Go.RowKit
set_option linter.unusedSimpArgs false
set_option linter.unusedVariables false

/-- The place of the first pack of this name, or -1. -/
def findP (xs : List PackD) (s : ByteArray) : Int := if xs.findIdx (fun d => decide (d.name = s)) < xs.length then (xs.findIdx (fun d => decide (d.name = s)) : Int) else -1
theorem findP_here {xs : List PackD} {s : ByteArray} {k : Nat} (h : k < xs.length) (hy : xs[k].name = s) (hn : ∀ j (hj : j < xs.length), j < k → ¬ xs[j].name = s) : findP xs s = (k : Int) := by
  have e : xs.findIdx (fun d => decide (d.name = s)) = k := by
    rw [List.findIdx_eq h]
    exact ⟨by simpa using hy, fun j hj => by simpa using hn j (by omega) hj⟩
  unfold findP
  rw [e, if_pos h]
theorem findP_none {xs : List PackD} {s : ByteArray} (hn : ∀ j (hj : j < xs.length), ¬ xs[j].name = s) : findP xs s = -1 := by
  have e : xs.findIdx (fun d => decide (d.name = s)) = xs.length := by
    rw [List.findIdx_eq_length]
    intro x hx
    obtain ⟨j, hj, rfl⟩ := List.mem_iff_getElem.1 hx
    simpa using hn j hj
  unfold findP
  rw [e, if_neg (by omega)]
theorem name_alike (a b : ByteArray) : (a.toList == b.toList) = decide (a = b) := by
  by_cases h : a = b
  · subst h; simp
  · rw [decide_eq_false h]
    cases hh : (a.toList == b.toList) with
    | false => rfl
    | true => exact absurd (bytes_eq_of_toList (by simpa using hh)) h

end Go.Proofs.YtkijckpkojcdcaaDoor

/-! EntryOf, as the specification answers it: a contract for the walks; conditions: what comes in lies in memory, and holds at most 2 to the 20. -/
namespace Go.Proofs.YtkijckpkojcdcaaDoor
open Go.RowKit
set_option linter.unusedSimpArgs false
set_option linter.unusedVariables false

theorem same_key (d : EntryD) (n : ByteArray) (a b c : Int) (ps : List ByteArray) : sameK ⟨n, a, b, c, ⟨(preL ps).toArray⟩⟩ d = (decide (d.name = n) && sameB d.vA d.vB d.vC d.vP a b c ps) := by
  have e : decide ((⟨(preL d.vP).toArray⟩ : ByteArray) = ⟨(preL ps).toArray⟩) = decide (d.vP = ps) := by
    by_cases h : d.vP = ps
    · rw [h]; simp
    · rw [decide_eq_false h, decide_eq_false]
      intro h2
      have h3 := congrArg ByteArray.data h2
      exact h (preL_inj (by simpa using h3))
  have hq : ∀ x y : Int, (x == y) = decide (x = y) := fun x y => by rw [Bool.eq_iff_iff]; simp
  unfold sameK sameB coreB
  simp only [e, hq]
  cases decide (d.name = n) <;> cases decide (d.vA = a) <;> cases decide (d.vB = b) <;> cases decide (d.vC = c) <;> cases decide (d.vP = ps) <;> rfl
theorem firstK_at {xs : List EntryD} {q : KeyE} {k : Nat} (h : k < xs.length) (hy : sameK q xs[k] = true) (hn : ∀ j (hj : j < xs.length), j < k → sameK q xs[j] = false) : firstK xs q = some k := by
  unfold firstK
  rw [List.findIdx?_eq_some_iff_getElem]
  exact ⟨h, hy, fun j hj => by simp [hn j (by omega) hj]⟩
theorem firstK_none {xs : List EntryD} {q : KeyE} (hn : ∀ j (hj : j < xs.length), sameK q xs[j] = false) : firstK xs q = none := by
  unfold firstK
  rw [List.findIdx?_eq_none_iff]
  intro x hx
  obtain ⟨j, hj, rfl⟩ := List.mem_iff_getElem.1 hx
  exact hn j hj
theorem zero_liesO (S : Nat → Prop) (w : World) : shEntryO.lies S w [.string ⟨#[]⟩, .int .i64 0, .int .i64 0, .int .i64 0, .slice none 0 0, .slice none 0 0] zeroD :=
  ⟨_, _, rfl, Nat.zero_le _, ⟨⟨rfl, .inl ⟨rfl, rfl⟩⟩, fun g h => by simp [Value.ownBlock] at h⟩, ⟨Nat.zero_le _, fun s h => by cases h⟩, ⟨Nat.zero_le _, [], ⟨rfl, .inl ⟨rfl, rfl⟩⟩, fun g h => by simp [Value.ownBlock] at h, fun i h => by simp [zeroD] at h⟩⟩

set_option maxHeartbeats 8000000 in
set_option maxRecDepth 100000 in
theorem specEntry_c (S : Nat → Prop) (v : Value) (xs : List EntryD) (n : ByteArray) (a b c : Int) (u : Value) (ps : List ByteArray) (w : World) (hv : RowIn shEntryO S w v xs) (hB : ∀ b, S b → b < w.heap.size) (hw : wtRow wtEntry xs ≤ 1048576)
    (hu : Reads w u (strsV ps)) (hb : bulkS ps ≤ 1048576) :
    Calls Tryd.prog 12 #[v, .string n, .agg #[.int .i64 a, .int .i64 b, .int .i64 c, u]] w fun e w' => ∃ cs, e = .returned (.tuple #[.agg cs.toArray, .bool (firstK xs ⟨n, a, b, c, ⟨(preL ps).toArray⟩⟩).isSome]) ∧ shEntryO.lies (Ow w.heap.size w'.heap.size) w' cs (atD xs (firstK xs ⟨n, a, b, c, ⟨(preL ps).toArray⟩⟩)) ∧ Below w.heap.size w w' := by
  have hb2 : ∀ A R, Below w.heap.size w ((w.alloc A).alloc R) := fun A R => ((Below.refl _ _).alloc (Nat.le_refl _) _).alloc (by simp) _
  have hwe : ∀ d ∈ xs, wtEntry d ≤ 1048576 := fun d hd => Nat.le_trans (wt_wtRow wtEntry hd) hw
  have hru : ∀ w1, Below w.heap.size w w1 → Reads w1 u (strsV ps) := fun w1 h => hu.below h
  obtain ⟨q, cap, rfl, _, _⟩ := reads_strs hu
  obtain ⟨av, cv, rfl, hl, hc, ha⟩ := hv
  unfold maxLen at hl
  have HSK : Hid (∀ d : EntryD, sameK ⟨n, a, b, c, ⟨(preL ps).toArray⟩⟩ d = (decide (d.name = n) && sameB d.vA d.vB d.vC d.vP a b c ps)) := fun d => same_key d n a b c ps
  obtain ⟨KD, hKD⟩ : ∃ K : KeyE, K = ⟨n, a, b, c, ⟨(preL ps).toArray⟩⟩ := ⟨_, rfl⟩
  rw [← hKD] at HSK
  rw [← hKD]
  obtain ⟨hAz, hRz⟩ := two_boxes (w := w) (.cells #[.int .i64 a, .int .i64 b, .int .i64 c, .slice q ps.length cap] 39 (0, 0)) (.cells #[.string ⟨#[]⟩, .int .i64 0, .int .i64 0, .int .i64 0, .slice none 0 0, .slice none 0 0] 42 (0, 0))
  have hwz := hb2 (.cells #[.int .i64 a, .int .i64 b, .int .i64 c, .slice q ps.length cap] 39 (0, 0)) (.cells #[.string ⟨#[]⟩, .int .i64 0, .int .i64 0, .int .i64 0, .slice none 0 0, .slice none 0 0] 42 (0, 0))
  have hsz : ((w.alloc (.cells #[.int .i64 a, .int .i64 b, .int .i64 c, .slice q ps.length cap] 39 (0, 0))).alloc (.cells #[.string ⟨#[]⟩, .int .i64 0, .int .i64 0, .int .i64 0, .slice none 0 0, .slice none 0 0] 42 (0, 0))).heap.size = w.heap.size + 2 := by simp
  clear hKD hu
  go_enter Tryd.func12, Tryd.ntmps12
  go_wp2_with fail
  obtain ⟨wz, hW⟩ : ∃ wz, wz = (w.alloc (.cells #[.int .i64 a, .int .i64 b, .int .i64 c, .slice q ps.length cap] 39 (0, 0))).alloc (.cells #[.string ⟨#[]⟩, .int .i64 0, .int .i64 0, .int .i64 0, .slice none 0 0, .slice none 0 0] 42 (0, 0)) := ⟨_, rfl⟩
  rw [← hW] at hAz hRz hwz hsz
  rw [← hW]
  clear hW
  go_loopw [8] (fun vi wr => ∃ k : Nat, k ≤ xs.length ∧ vi = .int .i64 (k : Int) ∧ Hid (∀ j (hj : j < xs.length), j < k → sameK KD xs[j] = false) ∧ Below wz.heap.size wz wr) (fun vi _ => xs.length - (intOf vi).toNat)
  case atStart => exact ⟨0, Nat.zero_le _, rfl, (fun j hj h => by omega), Below.refl _ _⟩
  case round =>
    obtain ⟨k, hk, rfl, hno, hbz⟩ := hrel
    have hbr : Below w.heap.size w wr := hwz.trans (hbz.mono (by omega))
    have hAr := (hbz.block w.heap.size (by omega)).trans hAz
    have hRr := (hbz.block (w.heap.size + 1) (by omega)).trans hRz
    have hszr := hbz.size
    by_cases hlt' : k < xs.length
    · rcases ha with rfl | ⟨b0, off, rfl, hlt, ha⟩
      · simp at hlt'
      obtain ⟨cs, hL, hcell⟩ := ha k hlt'
      replace hcell := hcell.keep (.of hbr hB) hlt
      replace hL := shEntryO.keep (.of hbr hB) hL
      have hbb : b0 < wr.heap.size := Nat.lt_of_lt_of_le (hB b0 hlt) hbr.size
      have hBr : ∀ b, S b → b < wr.heap.size := fun b h => Nat.lt_of_lt_of_le (hB b h) hbr.size
      have hwk := hwe xs[k] (List.getElem_mem hlt')
      have HY : Hid (sameK KD xs[k] = true → firstK xs KD = some k) := fun h => firstK_at hlt' h hno.out
      have HN : Hid (sameK KD xs[k] = false → ∀ j (hj : j < xs.length), j < k + 1 → sameK KD xs[j] = false) := fun h j hj hjk => by
        by_cases e : j = k
        · subst e; exact h
        · exact hno.out j hj (by omega)
      have HAT : Hid (atD xs (some k) = xs[k]) := by show _ = _; simp [atD, hlt']
      obtain ⟨d, hd⟩ : ∃ d, d = xs[k] := ⟨_, rfl⟩
      rw [← hd] at hL hwk HY HN HAT
      have hsk := HSK.out d
      rw [hsk] at HY HN
      have HC' : ∀ w1, Below wr.heap.size wr w1 → Calls Tryd.prog 35 #[.agg cs.toArray] w1 fun e w' => ∃ cs', e = .returned (.agg cs'.toArray) ∧ shEntryO.lies (Ow w1.heap.size w'.heap.size) w' cs' d ∧ Below w1.heap.size w1 w' := fun w1 h => l8Copy_c S d cs w1 (shEntryO.keep (.of h hBr) hL) (fun b hb => Nat.lt_of_lt_of_le (hBr b hb) h.size) hwk
      obtain ⟨u0, u1, rfl, s_n, r0, p0, r1⟩ := hL
      have hbk : bulkS d.vP ≤ 1048576 := by unfold wtEntry at hwk; omega
      have hpl : d.vP.length ≤ 1048576 := by unfold bulkS at hbk; omega
      have HS' : ∀ w1, Below wr.heap.size wr w1 → Calls Tryd.prog 34 #[.agg #[.int .i64 d.vA, .int .i64 d.vB, .int .i64 d.vC, u0], .agg #[.int .i64 a, .int .i64 b, .int .i64 c, .slice q ps.length cap]] w1 fun e w' => e = .returned (.bool (sameB d.vA d.vB d.vC d.vP a b c ps)) ∧ Below w1.heap.size w1 w' := fun w1 h => specSame_c _ _ _ u0 d.vP _ _ _ _ ps w1 ((r0.plain.keep (.of h hBr)).reads (fun b hb => Nat.lt_of_lt_of_le (hBr b hb) h.size)) (hru w1 (hbr.trans (h.mono hbr.size))) hpl
      obtain ⟨a0, cap0, eu0⟩ := r0.slice
      subst eu0
      obtain ⟨a1, cap1, eu1⟩ := r1.slice
      subst eu1
      obtain ⟨SB, hSB⟩ : ∃ r, r = sameB d.vA d.vB d.vC d.vP a b c ps := ⟨_, rfl⟩
      simp only [← hSB] at HS'
      rw [← hSB] at HY HN
      have HS := hidden HS'
      have HC := hidden HC'
      have e0 : wr.cell? ⟨b0, off + k * 6, none⟩ = some (.string d.name) := hcell 0 (by simp)
      have e1 : wr.cell? ⟨b0, off + k * 6 + 1, none⟩ = some (.int .i64 d.vA) := hcell 1 (by simp)
      have e2 : wr.cell? ⟨b0, off + k * 6 + 2, none⟩ = some (.int .i64 d.vB) := hcell 2 (by simp)
      have e3 : wr.cell? ⟨b0, off + k * 6 + 3, none⟩ = some (.int .i64 d.vC) := hcell 3 (by simp)
      have e4 : wr.cell? ⟨b0, off + k * 6 + 4, none⟩ = some (.slice a0 d.vP.length cap0) := hcell 4 (by simp)
      have e5 : wr.cell? ⟨b0, off + k * 6 + 5, none⟩ = some (.slice a1 d.needs.length cap1) := hcell 5 (by simp)
      have hki : (k : Int) < (xs.length : Int) := by omega
      have hd0 : Below wr.heap.size wr wr.drew := (Below.refl _ _).drew
      have hnm := name_alike d.name n
      have KEEP : Hid (∀ w1, Below wr.heap.size wr w1 → w1.cell? ⟨b0, off + k * 6, none⟩ = some (.string d.name) ∧ w1.cell? ⟨b0, off + k * 6 + 1, none⟩ = some (.int .i64 d.vA) ∧ w1.cell? ⟨b0, off + k * 6 + 2, none⟩ = some (.int .i64 d.vB) ∧ w1.cell? ⟨b0, off + k * 6 + 3, none⟩ = some (.int .i64 d.vC) ∧ w1.cell? ⟨b0, off + k * 6 + 4, none⟩ = some (.slice a0 d.vP.length cap0) ∧ w1.cell? ⟨b0, off + k * 6 + 5, none⟩ = some (.slice a1 d.needs.length cap1) ∧ w1.cell? ⟨w.heap.size, 0, none⟩ = some (.int .i64 a) ∧ w1.cell? ⟨w.heap.size, 1, none⟩ = some (.int .i64 b) ∧ w1.cell? ⟨w.heap.size, 2, none⟩ = some (.int .i64 c) ∧ w1.cell? ⟨w.heap.size, 3, none⟩ = some (.slice q ps.length cap)) := fun w1 h => by
        have hA := (h.block w.heap.size (by omega)).trans hAr
        exact ⟨(h.cell (by simpa using hbb)).trans e0, (h.cell (by simpa using hbb)).trans e1, (h.cell (by simpa using hbb)).trans e2, (h.cell (by simpa using hbb)).trans e3, (h.cell (by simpa using hbb)).trans e4, (h.cell (by simpa using hbb)).trans e5, vblk_cell hA 0, vblk_cell hA 1, vblk_cell hA 2, vblk_cell hA 3⟩
      clear ha hd hcell hsk HS' HC' r0 r1 p0 s_n hSB hwk hbk hpl hno HSK
      clear e0 e1 e2 e3 e4 e5
      by_cases hnn : d.name = n
      · rw [decide_eq_true hnn, Bool.true_and] at HY HN
        rw [decide_eq_true hnn] at hnm
        clear hnn
        cases SB with
        | false =>
          have HN2 := hidden (HN.out rfl)
          clear HY HN
          go_wp2_with fail
          refine wp_region_held_drew (S := (fun w' => w'.cell? ⟨b0, off + k * 6, none⟩ = some (.string d.name) ∧ w'.cell? ⟨b0, off + k * 6 + 1, none⟩ = some (.int .i64 d.vA) ∧ w'.cell? ⟨b0, off + k * 6 + 2, none⟩ = some (.int .i64 d.vB) ∧ w'.cell? ⟨b0, off + k * 6 + 3, none⟩ = some (.int .i64 d.vC) ∧ w'.cell? ⟨b0, off + k * 6 + 4, none⟩ = some (.slice a0 d.vP.length cap0) ∧ w'.cell? ⟨b0, off + k * 6 + 5, none⟩ = some (.slice a1 d.needs.length cap1) ∧ w'.cell? ⟨w.heap.size, 0, none⟩ = some (.int .i64 a) ∧ w'.cell? ⟨w.heap.size, 1, none⟩ = some (.int .i64 b) ∧ w'.cell? ⟨w.heap.size, 2, none⟩ = some (.int .i64 c) ∧ w'.cell? ⟨w.heap.size, 3, none⟩ = some (.slice q ps.length cap))) (by kernel_rfl) ?SR10 (fun hHeld => ?_)
          case SR10 => (first | (with_reducible exact KEEP.out _ hd1) | (with_reducible exact KEEP.out _ hd0))
          refine wpAnyH_take (i := 0) (oi := _) (v := ?vR10) rfl (by kernel_rfl) (by kernel_rfl) (by kernel_rfl) (fun _ _ _ h => h) (Or.inl ⟨by rfl, ?yR10⟩) hHeld ?_
          case yR10 => (intro w hSw; (try dsimp only at hSw); go_simp <;> with_reducible rfl)
          try simp only [Act.put, List.getElem_toArray, List.getElem_cons_zero, List.getElem_cons_succ, List.setIfInBounds_toArray, List.set_cons_zero, List.set_cons_succ]
          refine wpAnyH_take (i := 1) (oi := _) (v := ?vR11) rfl (by kernel_rfl) (by kernel_rfl) (by kernel_rfl) (fun _ _ _ h => h) (Or.inl ⟨by rfl, ?yR11⟩) hHeld ?_
          case yR11 => (intro w hSw; (try dsimp only at hSw); go_simp <;> with_reducible rfl)
          try simp only [Act.put, List.getElem_toArray, List.getElem_cons_zero, List.getElem_cons_succ, List.setIfInBounds_toArray, List.set_cons_zero, List.set_cons_succ]
          refine wpAnyH_take (i := 2) (oi := _) (v := ?vR12) rfl (by kernel_rfl) (by kernel_rfl) (by kernel_rfl) (fun _ _ _ h => h) (Or.inl ⟨by rfl, ?yR12⟩) hHeld ?_
          case yR12 => (intro w hSw; (try dsimp only at hSw); go_simp <;> with_reducible rfl)
          try simp only [Act.put, List.getElem_toArray, List.getElem_cons_zero, List.getElem_cons_succ, List.setIfInBounds_toArray, List.set_cons_zero, List.set_cons_succ]
          refine wpAnyH_take (i := 3) (oi := _) (v := ?vR13) rfl (by kernel_rfl) (by kernel_rfl) (by kernel_rfl) (fun _ _ _ h => h) (Or.inl ⟨by rfl, ?yR13⟩) hHeld ?_
          case yR13 => (intro w hSw; (try dsimp only at hSw); go_simp <;> with_reducible rfl)
          try simp only [Act.put, List.getElem_toArray, List.getElem_cons_zero, List.getElem_cons_succ, List.setIfInBounds_toArray, List.set_cons_zero, List.set_cons_succ]
          refine wpAnyH_take (i := 4) (oi := _) (v := ?vR14) rfl (by kernel_rfl) (by kernel_rfl) (by kernel_rfl) (fun _ _ _ h => h) (Or.inl ⟨by rfl, ?yR14⟩) hHeld ?_
          case yR14 => (intro w hSw; (try dsimp only at hSw); go_simp <;> with_reducible rfl)
          try simp only [Act.put, List.getElem_toArray, List.getElem_cons_zero, List.getElem_cons_succ, List.setIfInBounds_toArray, List.set_cons_zero, List.set_cons_succ]
          refine wpAnyH_take (i := 5) (oi := _) (v := ?vR15) rfl (by kernel_rfl) (by kernel_rfl) (by kernel_rfl) (fun _ _ _ h => h) (Or.inl ⟨by rfl, ?yR15⟩) hHeld ?_
          case yR15 => (intro w hSw; (try dsimp only at hSw); go_simp <;> with_reducible rfl)
          try simp only [Act.put, List.getElem_toArray, List.getElem_cons_zero, List.getElem_cons_succ, List.setIfInBounds_toArray, List.set_cons_zero, List.set_cons_succ]
          refine wpAnyH_take (i := 6) (oi := _) (v := ?vR16) rfl (by kernel_rfl) (by kernel_rfl) (by kernel_rfl) (fun _ _ _ h => h) (Or.inl ⟨by rfl, ?yR16⟩) hHeld ?_
          case yR16 => (intro w hSw; (try dsimp only at hSw); go_simp <;> with_reducible rfl)
          try simp only [Act.put, List.getElem_toArray, List.getElem_cons_zero, List.getElem_cons_succ, List.setIfInBounds_toArray, List.set_cons_zero, List.set_cons_succ]
          refine wpAnyH_take (i := 7) (oi := _) (v := ?vR17) rfl (by kernel_rfl) (by kernel_rfl) (by kernel_rfl) (fun _ _ _ h => h) (Or.inl ⟨by rfl, ?yR17⟩) hHeld ?_
          case yR17 => (intro w hSw; (try dsimp only at hSw); go_simp <;> with_reducible rfl)
          try simp only [Act.put, List.getElem_toArray, List.getElem_cons_zero, List.getElem_cons_succ, List.setIfInBounds_toArray, List.set_cons_zero, List.set_cons_succ]
          refine wpAnyH_take (i := 8) (oi := _) (v := ?vR18) rfl (by kernel_rfl) (by kernel_rfl) (by kernel_rfl) (fun _ _ _ h => h) (Or.inl ⟨by rfl, ?yR18⟩) hHeld ?_
          case yR18 => (intro w hSw; (try dsimp only at hSw); go_simp <;> with_reducible rfl)
          try simp only [Act.put, List.getElem_toArray, List.getElem_cons_zero, List.getElem_cons_succ, List.setIfInBounds_toArray, List.set_cons_zero, List.set_cons_succ]
          refine wpAnyH_take (i := 9) (oi := _) (v := ?vR19) rfl (by kernel_rfl) (by kernel_rfl) (by kernel_rfl) (fun _ _ _ h => h) (Or.inl ⟨by rfl, ?yR19⟩) hHeld ?_
          case yR19 => (intro w hSw; (try dsimp only at hSw); go_simp <;> with_reducible rfl)
          try simp only [Act.put, List.getElem_toArray, List.getElem_cons_zero, List.getElem_cons_succ, List.setIfInBounds_toArray, List.set_cons_zero, List.set_cons_succ]
          refine wpAnyH_take (i := 10) (oi := _) (v := ?vR110) rfl (by kernel_rfl) (by kernel_rfl) (by kernel_rfl) (fun _ _ _ h => h) (Or.inl ⟨by rfl, ?yR110⟩) hHeld ?_
          case yR110 => (intro w hSw; (try dsimp only at hSw); go_simp <;> with_reducible rfl)
          try simp only [Act.put, List.getElem_toArray, List.getElem_cons_zero, List.getElem_cons_succ, List.setIfInBounds_toArray, List.set_cons_zero, List.set_cons_succ]
          refine wpAnyH_take (i := 11) (oi := _) (v := ?vR111) rfl (by kernel_rfl) (by kernel_rfl) (by kernel_rfl) (fun _ _ _ h => h) (Or.inl ⟨by rfl, ?yR111⟩) hHeld ?_
          case yR111 => (intro w hSw; (try dsimp only at hSw); go_simp <;> with_reducible rfl)
          try simp only [Act.put, List.getElem_toArray, List.getElem_cons_zero, List.getElem_cons_succ, List.setIfInBounds_toArray, List.set_cons_zero, List.set_cons_succ]
          refine wpAnyH_take (i := 12) (oi := _) (v := ?vR112) rfl (by kernel_rfl) (by kernel_rfl) (by kernel_rfl) (fun _ _ _ h => h) (Or.inl ⟨by rfl, ?yR112⟩) hHeld ?_
          case yR112 => (intro w hSw; (try dsimp only at hSw); go_simp <;> with_reducible rfl)
          try simp only [Act.put, List.getElem_toArray, List.getElem_cons_zero, List.getElem_cons_succ, List.setIfInBounds_toArray, List.set_cons_zero, List.set_cons_succ]
          refine wpAnyH_take (i := 13) (oi := _) (v := ?vR113) rfl (by kernel_rfl) (by kernel_rfl) (by kernel_rfl) (fun _ _ _ h => h) (Or.inl ⟨by rfl, ?yR113⟩) hHeld ?_
          case yR113 => (intro w hSw; (try dsimp only at hSw); go_simp <;> with_reducible rfl)
          try simp only [Act.put, List.getElem_toArray, List.getElem_cons_zero, List.getElem_cons_succ, List.setIfInBounds_toArray, List.set_cons_zero, List.set_cons_succ]
          refine wpAnyH_ready (rs := [14]) (by kernel_rfl) (by simp) ?_
          refine AllReadyH.cons rfl (fun K hK => ?_) AllReadyH.nil
          go_simp
          go_wp2_with (go_at_call 34; refine (HS.out _ hd0).mono ?_; rintro e w1 ⟨rfl, b1⟩; have hd1 : Below wr.heap.size wr w1 := hd0.trans (b1.mono hd0.size))
          clear hHeld
          refine hK.out _ _ ?SR115 (fun hHeld => ?_)
          case SR115 => ((try dsimp only); first | (with_reducible exact KEEP.out _ hd1) | (with_reducible exact KEEP.out _ hd0))
          clear hK K
          refine wpAnyH_take (i := 15) (oi := _) (v := ?vR115) rfl (by kernel_rfl) (by kernel_rfl) (by kernel_rfl) (fun _ _ _ h => h) (Or.inl ⟨by rfl, ?yR115⟩) hHeld ?_
          case yR115 => (intro w hSw; (try dsimp only at hSw); go_simp <;> with_reducible rfl)
          try simp only [Act.put, List.getElem_toArray, List.getElem_cons_zero, List.getElem_cons_succ, List.setIfInBounds_toArray, List.set_cons_zero, List.set_cons_succ]
          refine wpAnyH_done (by kernel_rfl) ?_ _
          go_wp2_with fail
          go_roundw
          case rel => exact ⟨k + 1, by omega, by go_num, HN2.out, hbz.trans (hd1.mono hbz.size)⟩
          case measure => simp [intOf]; omega
        | true =>
          have HY2 := hidden (HY.out rfl)
          clear HY HN
          go_wp2_with fail
          refine wp_region_held_drew (S := (fun w' => w'.cell? ⟨b0, off + k * 6, none⟩ = some (.string d.name) ∧ w'.cell? ⟨b0, off + k * 6 + 1, none⟩ = some (.int .i64 d.vA) ∧ w'.cell? ⟨b0, off + k * 6 + 2, none⟩ = some (.int .i64 d.vB) ∧ w'.cell? ⟨b0, off + k * 6 + 3, none⟩ = some (.int .i64 d.vC) ∧ w'.cell? ⟨b0, off + k * 6 + 4, none⟩ = some (.slice a0 d.vP.length cap0) ∧ w'.cell? ⟨b0, off + k * 6 + 5, none⟩ = some (.slice a1 d.needs.length cap1) ∧ w'.cell? ⟨w.heap.size, 0, none⟩ = some (.int .i64 a) ∧ w'.cell? ⟨w.heap.size, 1, none⟩ = some (.int .i64 b) ∧ w'.cell? ⟨w.heap.size, 2, none⟩ = some (.int .i64 c) ∧ w'.cell? ⟨w.heap.size, 3, none⟩ = some (.slice q ps.length cap))) (by kernel_rfl) ?SR20 (fun hHeld => ?_)
          case SR20 => (first | (with_reducible exact KEEP.out _ hd1) | (with_reducible exact KEEP.out _ hd0))
          refine wpAnyH_take (i := 0) (oi := _) (v := ?vR20) rfl (by kernel_rfl) (by kernel_rfl) (by kernel_rfl) (fun _ _ _ h => h) (Or.inl ⟨by rfl, ?yR20⟩) hHeld ?_
          case yR20 => (intro w hSw; (try dsimp only at hSw); go_simp <;> with_reducible rfl)
          try simp only [Act.put, List.getElem_toArray, List.getElem_cons_zero, List.getElem_cons_succ, List.setIfInBounds_toArray, List.set_cons_zero, List.set_cons_succ]
          refine wpAnyH_take (i := 1) (oi := _) (v := ?vR21) rfl (by kernel_rfl) (by kernel_rfl) (by kernel_rfl) (fun _ _ _ h => h) (Or.inl ⟨by rfl, ?yR21⟩) hHeld ?_
          case yR21 => (intro w hSw; (try dsimp only at hSw); go_simp <;> with_reducible rfl)
          try simp only [Act.put, List.getElem_toArray, List.getElem_cons_zero, List.getElem_cons_succ, List.setIfInBounds_toArray, List.set_cons_zero, List.set_cons_succ]
          refine wpAnyH_take (i := 2) (oi := _) (v := ?vR22) rfl (by kernel_rfl) (by kernel_rfl) (by kernel_rfl) (fun _ _ _ h => h) (Or.inl ⟨by rfl, ?yR22⟩) hHeld ?_
          case yR22 => (intro w hSw; (try dsimp only at hSw); go_simp <;> with_reducible rfl)
          try simp only [Act.put, List.getElem_toArray, List.getElem_cons_zero, List.getElem_cons_succ, List.setIfInBounds_toArray, List.set_cons_zero, List.set_cons_succ]
          refine wpAnyH_take (i := 3) (oi := _) (v := ?vR23) rfl (by kernel_rfl) (by kernel_rfl) (by kernel_rfl) (fun _ _ _ h => h) (Or.inl ⟨by rfl, ?yR23⟩) hHeld ?_
          case yR23 => (intro w hSw; (try dsimp only at hSw); go_simp <;> with_reducible rfl)
          try simp only [Act.put, List.getElem_toArray, List.getElem_cons_zero, List.getElem_cons_succ, List.setIfInBounds_toArray, List.set_cons_zero, List.set_cons_succ]
          refine wpAnyH_take (i := 4) (oi := _) (v := ?vR24) rfl (by kernel_rfl) (by kernel_rfl) (by kernel_rfl) (fun _ _ _ h => h) (Or.inl ⟨by rfl, ?yR24⟩) hHeld ?_
          case yR24 => (intro w hSw; (try dsimp only at hSw); go_simp <;> with_reducible rfl)
          try simp only [Act.put, List.getElem_toArray, List.getElem_cons_zero, List.getElem_cons_succ, List.setIfInBounds_toArray, List.set_cons_zero, List.set_cons_succ]
          refine wpAnyH_take (i := 5) (oi := _) (v := ?vR25) rfl (by kernel_rfl) (by kernel_rfl) (by kernel_rfl) (fun _ _ _ h => h) (Or.inl ⟨by rfl, ?yR25⟩) hHeld ?_
          case yR25 => (intro w hSw; (try dsimp only at hSw); go_simp <;> with_reducible rfl)
          try simp only [Act.put, List.getElem_toArray, List.getElem_cons_zero, List.getElem_cons_succ, List.setIfInBounds_toArray, List.set_cons_zero, List.set_cons_succ]
          refine wpAnyH_take (i := 6) (oi := _) (v := ?vR26) rfl (by kernel_rfl) (by kernel_rfl) (by kernel_rfl) (fun _ _ _ h => h) (Or.inl ⟨by rfl, ?yR26⟩) hHeld ?_
          case yR26 => (intro w hSw; (try dsimp only at hSw); go_simp <;> with_reducible rfl)
          try simp only [Act.put, List.getElem_toArray, List.getElem_cons_zero, List.getElem_cons_succ, List.setIfInBounds_toArray, List.set_cons_zero, List.set_cons_succ]
          refine wpAnyH_take (i := 7) (oi := _) (v := ?vR27) rfl (by kernel_rfl) (by kernel_rfl) (by kernel_rfl) (fun _ _ _ h => h) (Or.inl ⟨by rfl, ?yR27⟩) hHeld ?_
          case yR27 => (intro w hSw; (try dsimp only at hSw); go_simp <;> with_reducible rfl)
          try simp only [Act.put, List.getElem_toArray, List.getElem_cons_zero, List.getElem_cons_succ, List.setIfInBounds_toArray, List.set_cons_zero, List.set_cons_succ]
          refine wpAnyH_take (i := 8) (oi := _) (v := ?vR28) rfl (by kernel_rfl) (by kernel_rfl) (by kernel_rfl) (fun _ _ _ h => h) (Or.inl ⟨by rfl, ?yR28⟩) hHeld ?_
          case yR28 => (intro w hSw; (try dsimp only at hSw); go_simp <;> with_reducible rfl)
          try simp only [Act.put, List.getElem_toArray, List.getElem_cons_zero, List.getElem_cons_succ, List.setIfInBounds_toArray, List.set_cons_zero, List.set_cons_succ]
          refine wpAnyH_take (i := 9) (oi := _) (v := ?vR29) rfl (by kernel_rfl) (by kernel_rfl) (by kernel_rfl) (fun _ _ _ h => h) (Or.inl ⟨by rfl, ?yR29⟩) hHeld ?_
          case yR29 => (intro w hSw; (try dsimp only at hSw); go_simp <;> with_reducible rfl)
          try simp only [Act.put, List.getElem_toArray, List.getElem_cons_zero, List.getElem_cons_succ, List.setIfInBounds_toArray, List.set_cons_zero, List.set_cons_succ]
          refine wpAnyH_take (i := 10) (oi := _) (v := ?vR210) rfl (by kernel_rfl) (by kernel_rfl) (by kernel_rfl) (fun _ _ _ h => h) (Or.inl ⟨by rfl, ?yR210⟩) hHeld ?_
          case yR210 => (intro w hSw; (try dsimp only at hSw); go_simp <;> with_reducible rfl)
          try simp only [Act.put, List.getElem_toArray, List.getElem_cons_zero, List.getElem_cons_succ, List.setIfInBounds_toArray, List.set_cons_zero, List.set_cons_succ]
          refine wpAnyH_take (i := 11) (oi := _) (v := ?vR211) rfl (by kernel_rfl) (by kernel_rfl) (by kernel_rfl) (fun _ _ _ h => h) (Or.inl ⟨by rfl, ?yR211⟩) hHeld ?_
          case yR211 => (intro w hSw; (try dsimp only at hSw); go_simp <;> with_reducible rfl)
          try simp only [Act.put, List.getElem_toArray, List.getElem_cons_zero, List.getElem_cons_succ, List.setIfInBounds_toArray, List.set_cons_zero, List.set_cons_succ]
          refine wpAnyH_take (i := 12) (oi := _) (v := ?vR212) rfl (by kernel_rfl) (by kernel_rfl) (by kernel_rfl) (fun _ _ _ h => h) (Or.inl ⟨by rfl, ?yR212⟩) hHeld ?_
          case yR212 => (intro w hSw; (try dsimp only at hSw); go_simp <;> with_reducible rfl)
          try simp only [Act.put, List.getElem_toArray, List.getElem_cons_zero, List.getElem_cons_succ, List.setIfInBounds_toArray, List.set_cons_zero, List.set_cons_succ]
          refine wpAnyH_take (i := 13) (oi := _) (v := ?vR213) rfl (by kernel_rfl) (by kernel_rfl) (by kernel_rfl) (fun _ _ _ h => h) (Or.inl ⟨by rfl, ?yR213⟩) hHeld ?_
          case yR213 => (intro w hSw; (try dsimp only at hSw); go_simp <;> with_reducible rfl)
          try simp only [Act.put, List.getElem_toArray, List.getElem_cons_zero, List.getElem_cons_succ, List.setIfInBounds_toArray, List.set_cons_zero, List.set_cons_succ]
          refine wpAnyH_ready (rs := [14]) (by kernel_rfl) (by simp) ?_
          refine AllReadyH.cons rfl (fun K hK => ?_) AllReadyH.nil
          go_simp
          go_wp2_with (go_at_call 34; refine (HS.out _ hd0).mono ?_; rintro e w1 ⟨rfl, b1⟩; have hd1 : Below wr.heap.size wr w1 := hd0.trans (b1.mono hd0.size))
          clear hHeld
          refine hK.out _ _ ?SR215 (fun hHeld => ?_)
          case SR215 => ((try dsimp only); first | (with_reducible exact KEEP.out _ hd1) | (with_reducible exact KEEP.out _ hd0))
          clear hK K
          refine wpAnyH_take (i := 15) (oi := _) (v := ?vR215) rfl (by kernel_rfl) (by kernel_rfl) (by kernel_rfl) (fun _ _ _ h => h) (Or.inl ⟨by rfl, ?yR215⟩) hHeld ?_
          case yR215 => (intro w hSw; (try dsimp only at hSw); go_simp <;> with_reducible rfl)
          try simp only [Act.put, List.getElem_toArray, List.getElem_cons_zero, List.getElem_cons_succ, List.setIfInBounds_toArray, List.set_cons_zero, List.set_cons_succ]
          refine wpAnyH_done (by kernel_rfl) ?_ _
          obtain ⟨x0, x1, x2, x3, x4, x5, _⟩ := KEEP.out _ hd1
          go_wp2_with fail
          go_at_call 35
          refine (HC.out _ hd1).mono ?_
          rintro e wC ⟨cs9, rfl, hl9, bC⟩
          have kC : Below wz.heap.size wz wC := (hbz.trans (hd1.mono hbz.size)).trans (bC.mono (hbz.trans (hd1.mono hbz.size)).size)
          have hRC := (kC.block (w.heap.size + 1) (by omega)).trans hRz
          have sC := hd1.size
          have HO : Hid (∀ W : World, W.heap.size = wC.heap.size → Kp (fun b => b ≠ w.heap.size + 1) wC W → shEntryO.lies (Ow w.heap.size W.heap.size) W cs9 d) := fun W hs hk => shEntryO.mono (Ow.mono (by omega) (by omega)) (shEntryO.keep (S := Ow w1.heap.size wC.heap.size) (fun b hb => hk b (by have := hb.1; show b ≠ _; omega)) hl9)
          obtain ⟨v0, v1, rfl, _, q0, _, q1⟩ := id hl9
          obtain ⟨f0, m0, ef0⟩ := q0.slice
          subst ef0
          obtain ⟨f1, m1, ef1⟩ := q1.slice
          subst ef1
          have fr := vblk_frozen hRC
          have r0 := vblk_cell hRC 0
          have r1 := vblk_cell hRC 1
          have r2 := vblk_cell hRC 2
          have r3 := vblk_cell hRC 3
          have r4 := vblk_cell hRC 4
          have r5 := vblk_cell hRC 5
          simp only [List.getElem?_toArray, List.getElem?_cons_succ, List.getElem?_cons_zero] at r0 r1 r2 r3 r4 r5
          clear hl9 q0 q1 HC HS KEEP hRC x0 x1 x2 x3 x4 x5 hHeld
          go_wp2_with fail
          refine bodyPost_ret (v := .tuple #[.agg #[.string d.name, .int .i64 d.vA, .int .i64 d.vB, .int .i64 d.vC, .slice f0 d.vP.length m0, .slice f1 d.needs.length m1], .bool true]) (by simp [results, Tryd.results12, go_sem, r0, r1, r2, r3, r4, r5]) rfl ?_
          rw [HY2.out, HAT.out]
          refine ⟨_, rfl, HO.out _ (by simp [World.setCell]) ?_, ?_⟩
          · (repeat (refine Kp.trans ?_ (Kp.set (by simp))))
            exact fun b hb => rfl
          · (repeat (refine Below.setCell ?_ (by simp) _))
            exact hwz.trans (kC.mono (by omega))
      · rw [decide_eq_false hnn, Bool.false_and] at HN
        rw [decide_eq_false hnn] at hnm
        have HN2 := hidden (HN.out rfl)
        clear HY HN hnn
        go_wp2_with fail
        refine wp_region_held_drew (S := (fun w' => w'.cell? ⟨b0, off + k * 6, none⟩ = some (.string d.name) ∧ w'.cell? ⟨b0, off + k * 6 + 1, none⟩ = some (.int .i64 d.vA) ∧ w'.cell? ⟨b0, off + k * 6 + 2, none⟩ = some (.int .i64 d.vB) ∧ w'.cell? ⟨b0, off + k * 6 + 3, none⟩ = some (.int .i64 d.vC) ∧ w'.cell? ⟨b0, off + k * 6 + 4, none⟩ = some (.slice a0 d.vP.length cap0) ∧ w'.cell? ⟨b0, off + k * 6 + 5, none⟩ = some (.slice a1 d.needs.length cap1) ∧ w'.cell? ⟨w.heap.size, 0, none⟩ = some (.int .i64 a) ∧ w'.cell? ⟨w.heap.size, 1, none⟩ = some (.int .i64 b) ∧ w'.cell? ⟨w.heap.size, 2, none⟩ = some (.int .i64 c) ∧ w'.cell? ⟨w.heap.size, 3, none⟩ = some (.slice q ps.length cap))) (by kernel_rfl) ?SR30 (fun hHeld => ?_)
        case SR30 => (first | (with_reducible exact KEEP.out _ hd1) | (with_reducible exact KEEP.out _ hd0))
        refine wpAnyH_take (i := 0) (oi := _) (v := ?vR30) rfl (by kernel_rfl) (by kernel_rfl) (by kernel_rfl) (fun _ _ _ h => h) (Or.inl ⟨by rfl, ?yR30⟩) hHeld ?_
        case yR30 => (intro w hSw; (try dsimp only at hSw); go_simp <;> with_reducible rfl)
        try simp only [Act.put, List.getElem_toArray, List.getElem_cons_zero, List.getElem_cons_succ, List.setIfInBounds_toArray, List.set_cons_zero, List.set_cons_succ]
        refine wpAnyH_take (i := 1) (oi := _) (v := ?vR31) rfl (by kernel_rfl) (by kernel_rfl) (by kernel_rfl) (fun _ _ _ h => h) (Or.inl ⟨by rfl, ?yR31⟩) hHeld ?_
        case yR31 => (intro w hSw; (try dsimp only at hSw); go_simp <;> with_reducible rfl)
        try simp only [Act.put, List.getElem_toArray, List.getElem_cons_zero, List.getElem_cons_succ, List.setIfInBounds_toArray, List.set_cons_zero, List.set_cons_succ]
        refine wpAnyH_take (i := 2) (oi := _) (v := ?vR32) rfl (by kernel_rfl) (by kernel_rfl) (by kernel_rfl) (fun _ _ _ h => h) (Or.inl ⟨by rfl, ?yR32⟩) hHeld ?_
        case yR32 => (intro w hSw; (try dsimp only at hSw); go_simp <;> with_reducible rfl)
        try simp only [Act.put, List.getElem_toArray, List.getElem_cons_zero, List.getElem_cons_succ, List.setIfInBounds_toArray, List.set_cons_zero, List.set_cons_succ]
        refine wpAnyH_take (i := 3) (oi := _) (v := ?vR33) rfl (by kernel_rfl) (by kernel_rfl) (by kernel_rfl) (fun _ _ _ h => h) (Or.inl ⟨by rfl, ?yR33⟩) hHeld ?_
        case yR33 => (intro w hSw; (try dsimp only at hSw); go_simp <;> with_reducible rfl)
        try simp only [Act.put, List.getElem_toArray, List.getElem_cons_zero, List.getElem_cons_succ, List.setIfInBounds_toArray, List.set_cons_zero, List.set_cons_succ]
        refine wpAnyH_take (i := 4) (oi := _) (v := ?vR34) rfl (by kernel_rfl) (by kernel_rfl) (by kernel_rfl) (fun _ _ _ h => h) (Or.inl ⟨by rfl, ?yR34⟩) hHeld ?_
        case yR34 => (intro w hSw; (try dsimp only at hSw); go_simp <;> with_reducible rfl)
        try simp only [Act.put, List.getElem_toArray, List.getElem_cons_zero, List.getElem_cons_succ, List.setIfInBounds_toArray, List.set_cons_zero, List.set_cons_succ]
        refine wpAnyH_take (i := 5) (oi := _) (v := ?vR35) rfl (by kernel_rfl) (by kernel_rfl) (by kernel_rfl) (fun _ _ _ h => h) (Or.inl ⟨by rfl, ?yR35⟩) hHeld ?_
        case yR35 => (intro w hSw; (try dsimp only at hSw); go_simp <;> with_reducible rfl)
        try simp only [Act.put, List.getElem_toArray, List.getElem_cons_zero, List.getElem_cons_succ, List.setIfInBounds_toArray, List.set_cons_zero, List.set_cons_succ]
        refine wpAnyH_take (i := 6) (oi := _) (v := ?vR36) rfl (by kernel_rfl) (by kernel_rfl) (by kernel_rfl) (fun _ _ _ h => h) (Or.inl ⟨by rfl, ?yR36⟩) hHeld ?_
        case yR36 => (intro w hSw; (try dsimp only at hSw); go_simp <;> with_reducible rfl)
        try simp only [Act.put, List.getElem_toArray, List.getElem_cons_zero, List.getElem_cons_succ, List.setIfInBounds_toArray, List.set_cons_zero, List.set_cons_succ]
        refine wpAnyH_take (i := 7) (oi := _) (v := ?vR37) rfl (by kernel_rfl) (by kernel_rfl) (by kernel_rfl) (fun _ _ _ h => h) (Or.inl ⟨by rfl, ?yR37⟩) hHeld ?_
        case yR37 => (intro w hSw; (try dsimp only at hSw); go_simp <;> with_reducible rfl)
        try simp only [Act.put, List.getElem_toArray, List.getElem_cons_zero, List.getElem_cons_succ, List.setIfInBounds_toArray, List.set_cons_zero, List.set_cons_succ]
        refine wpAnyH_take (i := 8) (oi := _) (v := undef) rfl (by kernel_rfl) (by kernel_rfl) (by kernel_rfl) (fun _ _ _ h => h) (Or.inr ⟨by rfl, rfl⟩) hHeld ?_
        try simp only [Act.put, List.getElem_toArray, List.getElem_cons_zero, List.getElem_cons_succ, List.setIfInBounds_toArray, List.set_cons_zero, List.set_cons_succ]
        refine wpAnyH_take (i := 9) (oi := _) (v := undef) rfl (by kernel_rfl) (by kernel_rfl) (by kernel_rfl) (fun _ _ _ h => h) (Or.inr ⟨by rfl, rfl⟩) hHeld ?_
        try simp only [Act.put, List.getElem_toArray, List.getElem_cons_zero, List.getElem_cons_succ, List.setIfInBounds_toArray, List.set_cons_zero, List.set_cons_succ]
        refine wpAnyH_take (i := 10) (oi := _) (v := undef) rfl (by kernel_rfl) (by kernel_rfl) (by kernel_rfl) (fun _ _ _ h => h) (Or.inr ⟨by rfl, rfl⟩) hHeld ?_
        try simp only [Act.put, List.getElem_toArray, List.getElem_cons_zero, List.getElem_cons_succ, List.setIfInBounds_toArray, List.set_cons_zero, List.set_cons_succ]
        refine wpAnyH_take (i := 11) (oi := _) (v := undef) rfl (by kernel_rfl) (by kernel_rfl) (by kernel_rfl) (fun _ _ _ h => h) (Or.inr ⟨by rfl, rfl⟩) hHeld ?_
        try simp only [Act.put, List.getElem_toArray, List.getElem_cons_zero, List.getElem_cons_succ, List.setIfInBounds_toArray, List.set_cons_zero, List.set_cons_succ]
        refine wpAnyH_take (i := 12) (oi := _) (v := undef) rfl (by kernel_rfl) (by kernel_rfl) (by kernel_rfl) (fun _ _ _ h => h) (Or.inr ⟨by rfl, rfl⟩) hHeld ?_
        try simp only [Act.put, List.getElem_toArray, List.getElem_cons_zero, List.getElem_cons_succ, List.setIfInBounds_toArray, List.set_cons_zero, List.set_cons_succ]
        refine wpAnyH_take (i := 13) (oi := _) (v := undef) rfl (by kernel_rfl) (by kernel_rfl) (by kernel_rfl) (fun _ _ _ h => h) (Or.inr ⟨by rfl, rfl⟩) hHeld ?_
        try simp only [Act.put, List.getElem_toArray, List.getElem_cons_zero, List.getElem_cons_succ, List.setIfInBounds_toArray, List.set_cons_zero, List.set_cons_succ]
        refine wpAnyH_take (i := 14) (oi := _) (v := undef) rfl (by kernel_rfl) (by kernel_rfl) (by kernel_rfl) (fun _ _ _ h => h) (Or.inr ⟨by rfl, rfl⟩) hHeld ?_
        try simp only [Act.put, List.getElem_toArray, List.getElem_cons_zero, List.getElem_cons_succ, List.setIfInBounds_toArray, List.set_cons_zero, List.set_cons_succ]
        refine wpAnyH_take (i := 15) (oi := _) (v := ?vR315) rfl (by kernel_rfl) (by kernel_rfl) (by kernel_rfl) (fun _ _ _ h => h) (Or.inl ⟨by rfl, ?yR315⟩) hHeld ?_
        case yR315 => (intro w hSw; (try dsimp only at hSw); go_simp <;> with_reducible rfl)
        try simp only [Act.put, List.getElem_toArray, List.getElem_cons_zero, List.getElem_cons_succ, List.setIfInBounds_toArray, List.set_cons_zero, List.set_cons_succ]
        refine wpAnyH_done (by kernel_rfl) ?_ _
        go_wp2_with fail
        go_roundw
        case rel => exact ⟨k + 1, by omega, by go_num, HN2.out, hbz.trans (hd0.mono hbz.size)⟩
        case measure => simp [intOf]; omega
    · have he : k = xs.length := by omega
      subst he
      have HE := hidden (firstK_none (fun j hj => hno.out j hj hj))
      have fr := vblk_frozen hRr
      have r0 := vblk_cell hRr 0
      have r1 := vblk_cell hRr 1
      have r2 := vblk_cell hRr 2
      have r3 := vblk_cell hRr 3
      have r4 := vblk_cell hRr 4
      have r5 := vblk_cell hRr 5
      simp only [List.getElem?_toArray, List.getElem?_cons_succ, List.getElem?_cons_zero] at r0 r1 r2 r3 r4 r5
      clear ha hno HSK hRr hAr
      go_wp2_with fail
      refine bodyPost_ret (v := .tuple #[.agg #[.string ⟨#[]⟩, .int .i64 0, .int .i64 0, .int .i64 0, .slice none 0 0, .slice none 0 0], .bool false]) (by simp [results, Tryd.results12, go_sem, r0, r1, r2, r3, r4, r5]) rfl ?_
      rw [HE.out]
      refine ⟨[.string ⟨#[]⟩, .int .i64 0, .int .i64 0, .int .i64 0, .slice none 0 0, .slice none 0 0], rfl, zero_liesO _ _, ?_⟩
      (repeat (refine Below.setCell ?_ (by simp) _))
      exact hbr
end Go.Proofs.YtkijckpkojcdcaaDoor

/-! Copies of packs, and of rows of them, in memory of their own, as the law makes them: contracts for the walks; condition: what is copied holds at most 2 to the 20. -/
namespace Go.Proofs.YtkijckpkojcdcaaDoor
open Go.RowKit
set_option linter.unusedSimpArgs false
set_option linter.unusedVariables false

end Go.Proofs.YtkijckpkojcdcaaDoor
