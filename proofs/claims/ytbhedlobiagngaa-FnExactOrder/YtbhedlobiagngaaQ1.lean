/-
  Contracts for the walks, several texts in one: each part says what it proves, and under which conditions.
-/
import Derived.Test.YtbhedlobiagngaaRows
import Derived.WalkKit
import Derived.WalkSpells
import Derived.WalkLawsBesides
import Derived.Lib.Strings
import Derived.Deep.LoopGhost
import Derived.Deep.QuietTactic
import Derived.BigQuiet
import Derived.WalkSmall
import Derived.Laws.BytesArg
import Derived.Deep.RegionWith
import Derived.Maps.OwnSet
import Derived.Sort.OwnSorted
import Derived.Lib.SlicesCompact

/-! What the functions that look at one byte, and the two functions NameOk (the program's and the specification's), answer: contracts for the walks; no conditions but that a string is no longer than an int can count. -/
namespace Go.Proofs.Ytbhedlobiagngaa
open Go.RowKit
set_option linter.unusedSimpArgs false
set_option linter.unusedVariables false

def smallB (c : Int) : Bool := decide (97 ≤ c) && decide (c ≤ 122)
def digitB (c : Int) : Bool := decide (48 ≤ c) && decide (c ≤ 57)
def plainB (c : Int) : Bool := decide (32 ≤ c) && decide (c ≤ 126)
def inB (x lo hi : Int) : Bool := decide (lo ≤ x) && decide (x ≤ hi)

def allUpto (p : Nat → Int → Bool) (s : ByteArray) : Nat → Bool
  | 0 => true
  | k + 1 => allUpto p s k && p k ((s.data[k]!).toNat : Int)

theorem byteBang (s : ByteArray) (j : Nat) (hj : j < s.size) : s.data[j]! = s[j] := by
  rw [getElem!_pos s.data j (by simpa using hj)]; rfl

theorem allUpto_cut (p : Nat → Int → Bool) (s : ByteArray) (k : Nat) (h : p k ((s.data[k]!).toNat : Int) = false) :
    ∀ n, k < n → allUpto p s n = false
  | 0, h0 => by omega
  | n + 1, hk => by
    unfold allUpto
    by_cases e : k = n
    · subst e; simp [h]
    · rw [allUpto_cut p s k h n (by omega)]; rfl

theorem step_true {p : Nat → Int → Bool} {s : ByteArray} {k : Nat} (hk : k < s.size) (hh : Hid (allUpto p s k = true)) (h : p k ((s[k]).toNat : Int) = true) : Hid (allUpto p s (k + 1) = true) := by
  show _ = _
  rw [allUpto, hh.out, byteBang s k hk, h]; rfl

theorem end_false {p : Nat → Int → Bool} {s : ByteArray} {k : Nat} (hk : k < s.size) (h : p k ((s[k]).toNat : Int) = false) : allUpto p s s.size = false :=
  allUpto_cut p s k (by rw [byteBang s k hk]; exact h) _ hk

theorem byte0 (u : UInt8) : (0 : Int) ≤ (u.toNat : Int) := by omega
theorem wrap_byte (u : UInt8) : wrap64 (u.toNat : Int) = (u.toNat : Int) := by
  have := u.toNat_lt
  rw [wrap64]; omega
theorem byte255 (u : UInt8) : (u.toNat : Int) ≤ 255 := by have := u.toNat_lt; omega

def okName (k : Nat) (c : Int) : Bool := smallB c || (k != 0 && (digitB c || c == 45))
def nameB (s : ByteArray) : Bool := allUpto okName s s.size && inB s.size 1 10

theorem size_ne {s : ByteArray} (h : ¬ s.size = 0) : ((s.size : Int) == 0) = false := by
  rw [beq_eq_false_iff_ne]; omega

theorem nameB_out {s : ByteArray} (h : s.size = 0 ∨ 10 < s.size) : nameB s = false := by
  have : inB s.size 1 10 = false := by
    simp only [inB, Bool.and_eq_false_iff, decide_eq_false_iff_not]
    omega
  rw [nameB, this, Bool.and_false]

theorem nameB_first {s : ByteArray} (h0 : 0 < s.size) (h : smallB ((s[0]).toNat : Int) = false) : nameB s = false := by
  rw [nameB, end_false h0 (by simp [okName, h])]; rfl

theorem nameB_in {s : ByteArray} (h0 : 0 < s.size) (h1 : s.size ≤ 10) (h : allUpto okName s s.size = true) : nameB s = true := by
  have : inB s.size 1 10 = true := by
    simp only [inB, Bool.and_eq_true, decide_eq_true_eq]
    omega
  rw [nameB, this, h]; rfl

def okPlain (_ : Nat) (c : Int) : Bool := plainB c
def plainAll (s : ByteArray) (most : Int) : Bool := allUpto okPlain s s.size && decide ((s.size : Int) ≤ most)

end Go.Proofs.Ytbhedlobiagngaa

/-! What the helpers over lists of bytes answer (a copy, whether two are alike, marking, whether the marks are held): contracts for the walks, over any world; conditions: the lists lie in memory as told, and are no longer than 2 to the 48. -/
namespace Go.Proofs.Ytbhedlobiagngaa
open Go.RowKit
set_option linter.unusedSimpArgs false
set_option linter.unusedVariables false

/-- The slice value v reads as the list xs in the world w. -/
def Reads (w : World) (v : Value) (xs : List Value) : Prop :=
  ∃ a cap, v = .slice a xs.length cap ∧ xs.length ≤ cap ∧ (xs = [] ∨ ∃ b off, a = some ⟨b, off, none⟩ ∧ b < w.heap.size ∧ ∀ i (h : i < xs.length), w.cell? ⟨b, off + i, none⟩ = some xs[i])

theorem Reads.below {w w' : World} {v : Value} {xs : List Value} (h : Reads w v xs) (hb : Below w.heap.size w w') : Reads w' v xs := by
  obtain ⟨a, cap, hv, hcp, h | ⟨b, off, ha, hlt, hc⟩⟩ := h
  · exact ⟨a, cap, hv, hcp, .inl h⟩
  · exact ⟨a, cap, hv, hcp, .inr ⟨b, off, ha, Nat.lt_of_lt_of_le hlt hb.size, fun i hi => by rw [hb.cell (p := ⟨b, off + i, none⟩) hlt]; exact hc i hi⟩⟩

theorem below_of_grown {w w' : World} (h : w.grownBy w' none) : Below w.heap.size w w' := ⟨h.os, h.tape, h.output, h.size, fun k hk => h.block k hk (by simp)⟩
theorem grown_of_below {w w' : World} (h : Below w.heap.size w w') (row : Option Nat) : w.grownBy w' row := ⟨h.os, h.tape, h.output, h.size, fun k hk _ => h.block k hk⟩

theorem reads_of_owns {w : World} {base : Nat} {e : TypeId} {v : Value} {n : Nat} {xs : List Value} (h : w.ownsRow base e 1 v n xs) : Reads w v xs := by
  obtain ⟨hl, h⟩ := h
  rw [Nat.mul_one] at hl
  rcases h with ⟨rfl, hn⟩ | ⟨g, cap, cur, rfl, hb, hg, hn, hcap, hsz, htake⟩
  · have : xs = [] := List.eq_nil_of_length_eq_zero (by omega)
    subst this
    exact ⟨none, 0, rfl, Nat.le_refl _, .inl rfl⟩
  · refine ⟨some ⟨g, 0, none⟩, cap, by rw [hl], by omega, .inr ⟨g, 0, rfl, (Array.getElem?_eq_some_iff.1 hg).1, fun i hi => ?_⟩⟩
    rw [Nat.zero_add]
    have := World.ownsRow.cellAt (w := w) (base := base) (e := e) (size := 1) (g := g) (n := n) (cap := cap) (xs := xs) ⟨by omega, .inr ⟨g, cap, cur, rfl, hb, hg, hn, hcap, hsz, htake⟩⟩ i (by omega)
    rw [this]
    simp [hi]

theorem owns_of_below {w w' : World} {base : Nat} {e : TypeId} {v : Value} {n : Nat} {xs : List Value} (h : w.ownsRow base e 1 v n xs) (hb : Below w.heap.size w w') : w'.ownsRow base e 1 v n xs :=
  h.kept (grown_of_below hb none) (by cases hv : v.ownBlock <;> simp)

theorem owns_empty {w : World} {base : Nat} {e : TypeId} {v : Value} {xs : List Value} (h : w.ownsRow base e 1 v 0 xs) : w.ownsRow base e 1 v 0 [] := by
  have : xs = [] := List.eq_nil_of_length_eq_zero (by simpa using h.1)
  subst this
  exact h

theorem info5 : (Try.prog.info? 5).map (fun i => (i.zero, i.size, i.bytes)) = some (some (.int .u8 0), 1, 1) := by kernel_rfl

theorem set_step {ys xs : List Value} {n k : Nat} {u : Value} (hk : k < n) (h : ys.length = n ∧ ∀ j, j < k → ys[j]? = xs[j]?) (hu : xs[k]? = some u) :
    Hid ((ys.set k u).length = n ∧ ∀ j, j < k + 1 → (ys.set k u)[j]? = xs[j]?) := by
  refine ⟨by simp [h.1], fun j hj => ?_⟩
  rw [List.getElem?_set]
  by_cases e : k = j
  · subst e; simp [h.1, hk, hu]
  · rw [if_neg e]; exact h.2 j (by omega)

theorem list_done {ys xs : List Value} {n : Nat} (h1 : ys.length = n) (h2 : xs.length = n) (h : ∀ j, j < n → ys[j]? = xs[j]?) : ys = xs := by
  apply List.ext_getElem?
  intro j
  by_cases hj : j < n
  · exact h j hj
  · rw [List.getElem?_eq_none (by omega), List.getElem?_eq_none (by omega)]

def bytesV (zs : List Int) : List Value := zs.map (Value.int .u8)
@[simp] theorem length_bytesV (zs : List Int) : (bytesV zs).length = zs.length := by simp [bytesV]

/-- A byte list's cells, as the walk asks for them. -/
theorem reads_bytes {w : World} {v : Value} {zs : List Int} (h : Reads w v (bytesV zs)) :
    ∃ a cap, v = .slice a zs.length cap ∧ zs.length ≤ cap ∧ (zs = [] ∨ ∃ b off, a = some ⟨b, off, none⟩ ∧ b < w.heap.size ∧ ∀ k, k < zs.length → w.cell? ⟨b, off + k, none⟩ = some (.int .u8 (zs.getD k 0))) := by
  obtain ⟨a, cap, hv, hcp, hc⟩ := h
  rw [length_bytesV] at hv hcp
  refine ⟨a, cap, hv, hcp, ?_⟩
  rcases hc with hc | ⟨b, off, rfl, hlt, hc⟩
  · exact .inl (by simpa [bytesV] using hc)
  · refine .inr ⟨b, off, rfl, hlt, fun k hk => ?_⟩
    rw [hc k (by simpa using hk)]
    simp [bytesV, List.getD_eq_getElem?_getD, hk]

theorem below_drewN' {B : Nat} {a w : World} (h : Below B a w) (n : Nat) : Below B a (w.drewN n) := h.trans ⟨rfl, rfl, rfl, Nat.le_refl _, fun _ _ => rfl⟩

theorem eq_step {zs ys : List Int} {k : Nat} (h : ∀ j, j < k → zs.getD j 0 = ys.getD j 0) (hk : zs.getD k 0 = ys.getD k 0) : Hid (∀ j, j < k + 1 → zs.getD j 0 = ys.getD j 0) := fun j hj => by
  by_cases e : j = k
  · subst e; exact hk
  · exact h j (by omega)

theorem ints_done {zs ys : List Int} (hl : zs.length = ys.length) (h : ∀ j, j < zs.length → zs.getD j 0 = ys.getD j 0) : zs = ys := by
  apply List.ext_getElem hl
  intro j h1 h2
  have := h j h1
  simpa [List.getD_eq_getElem?_getD, h1, h2] using this

/-- The marks k, k + 1 .. as bytes. -/
def marksB (k : Int) (n : Nat) : List Int := (List.range n).map fun (j : Nat) => (k + (j : Int)) % 256
@[simp] theorem length_marksB (k : Int) (n : Nat) : (marksB k n).length = n := by simp [marksB]
theorem marksB_at (k : Int) (n j : Nat) (h : j < n) : (bytesV (marksB k n))[j]? = some (.int .u8 ((k + (j : Int)) % 256)) := by
  simp [bytesV, marksB, h]

theorem grown_trans {a b c : World} {r : Option Nat} (h : a.grownBy b r) (k : b.grownBy c r) : a.grownBy c r :=
  ⟨k.os.trans h.os, k.tape.trans h.tape, k.output.trans h.output, Nat.le_trans h.size k.size, fun i hi hne => (k.block i (Nat.lt_of_lt_of_le hi h.size) hne).trans (h.block i hi hne)⟩

end Go.Proofs.Ytbhedlobiagngaa

/-! What the helper that tells a number as a mark answers: one text for each number; it makes memory of its own and writes into nothing else; condition: the number is at least 1 and at most 2 to the 40. -/
namespace Go.Proofs.Ytbhedlobiagngaa
open Go.RowKit
set_option linter.unusedSimpArgs false
set_option linter.unusedVariables false

def markLoop : Nat → Nat → ByteArray → ByteArray
  | 0, _, out => out
  | f + 1, k, out => if k = 0 then out else markLoop f (k / 10) (strOfNums [48 + (k : Int) % 10] ++ out)
def markStr (k : Nat) : ByteArray := ⟨#[109]⟩ ++ markLoop k k ⟨#[]⟩

theorem conv_one {w : World} (x : Int) : (convert 22 9 (.slice (some ⟨w.heap.size, 0, none⟩) 1 1)).run Try.prog (w.alloc (.cells #[.int .u8 x] 5)) = .ok (.string (strOfNums [x])) (w.alloc (.cells #[.int .u8 x] 5)) := by
  refine run_convert_bytes_arg _ 22 5 Try.underlying22 Try.underlying5 _ 0 1 1 [x] rfl (fun i hi => ?_) 9 Try.underlying9
  have : i = 0 := by omega
  subst this
  simp

set_option maxHeartbeats 1000000 in
set_option maxRecDepth 100000 in
theorem markText_c (k0 : Nat) (w : World) (h1 : 1 ≤ k0) (h2 : k0 ≤ 1099511627776) :
    Calls Try.prog 45 #[.int .i64 (k0 : Int)] w fun e w' => e = .returned (.string (markStr k0)) ∧ Below w.heap.size w w' := by
  have h0 : ¬ ((k0 : Int) ≤ 0) := by omega
  go_enter Try.func45, Try.ntmps45
  go_wp2
  go_loopw [0, 3] (fun vk vo wr => ∃ (k f : Nat) (out : ByteArray), vk = .int .i64 (k : Int) ∧ vo = .string out ∧ k ≤ f ∧ k ≤ k0 ∧ out.size + k ≤ k0 ∧ Hid (markLoop f k out = markLoop k0 k0 ⟨#[]⟩) ∧ Below w.heap.size w wr) (fun vk _ _ => (intOf vk).toNat)
  case atStart => exact ⟨k0, k0, _, rfl, rfl, Nat.le_refl _, Nat.le_refl _, Nat.le_of_eq (Nat.zero_add _), rfl, Below.refl _ _⟩
  case round =>
    obtain ⟨k, f, out, rfl, rfl, hkf, hk0, hsz, hh, hbr⟩ := hrel
    have hcv := conv_one (w := wr) (48 + (k : Int) % 10)
    have h1s : (strOfNums [48 + (k : Int) % 10]).size = 1 := strOfNums_size _
    go_wp2
    · have hkp : 0 < k := by omega
      obtain ⟨f, rfl⟩ : ∃ f', f = f' + 1 := ⟨f - 1, by omega⟩
      go_roundw
      case rel =>
        refine ⟨k / 10, f, _, by go_num, rfl, by omega, by omega, ?_, ?_, hbr.alloc hbr.size _⟩
        · rw [ByteArray.size_append, h1s]; omega
        · show _ = _
          rw [← hh.out, markLoop, if_neg (by omega)]
      case measure => simp [intOf]; omega
    · have hk : k = 0 := by omega
      subst hk
      have e : markLoop f 0 out = out := by cases f <;> simp [markLoop]
      go_ret
      exact ⟨by rw [markStr, ← hh.out, e]; rfl, hbr⟩
end Go.Proofs.Ytbhedlobiagngaa

/-! What the helpers over lists of texts answer (a copy, whether two are alike, marking, whether the marks are held, how much there is): contracts for the walks, over any world; conditions: the lists lie in memory as told, and are no longer than 2 to the 40. -/
namespace Go.Proofs.Ytbhedlobiagngaa
open Go.RowKit
set_option linter.unusedSimpArgs false
set_option linter.unusedVariables false

def strsV (ss : List ByteArray) : List Value := ss.map Value.string
@[simp] theorem length_strsV (ss : List ByteArray) : (strsV ss).length = ss.length := by simp [strsV]
theorem strsV_at (ss : List ByteArray) (j : Nat) (h : j < ss.length) : (strsV ss)[j]? = some (.string ss[j]) := by simp [strsV, h]
theorem infoS : (Try.prog.info? 9).map (fun i => (i.zero, i.size, i.bytes)) = some (some (.string ⟨#[]⟩), 1, 16) := by kernel_rfl

theorem reads_strs {w : World} {v : Value} {ss : List ByteArray} (h : Reads w v (strsV ss)) :
    ∃ a cap, v = .slice a ss.length cap ∧ ss.length ≤ cap ∧ (ss = [] ∨ ∃ b off, a = some ⟨b, off, none⟩ ∧ b < w.heap.size ∧ ∀ k (h : k < ss.length), w.cell? ⟨b, off + k, none⟩ = some (.string ss[k])) := by
  obtain ⟨a, cap, hv, hcp, hc⟩ := h
  rw [length_strsV] at hv hcp
  refine ⟨a, cap, hv, hcp, ?_⟩
  rcases hc with hc | ⟨b, off, rfl, hlt, hc⟩
  · exact .inl (by simpa [strsV] using hc)
  · refine .inr ⟨b, off, rfl, hlt, fun k hk => ?_⟩
    rw [hc k (by simpa using hk)]
    simp [strsV]

set_option maxHeartbeats 1000000 in
set_option maxRecDepth 100000 in
theorem toStrs_c (v : Value) (ss : List ByteArray) (w : World) (hr : Reads w v (strsV ss)) (hn : ss.length ≤ 1099511627776) :
    Calls Try.prog 69 #[v] w fun e w' => ∃ g, e = .returned (.slice (some ⟨g, 0, none⟩) ss.length ss.length) ∧ w'.ownsRow w.heap.size 9 1 (.slice (some ⟨g, 0, none⟩) ss.length ss.length) ss.length (strsV ss) ∧ Below w.heap.size w w' := by
  obtain ⟨a, cap, rfl, _, hc⟩ := reads_strs hr
  clear hr
  obtain ⟨i0, hi, hz0, hz1, hz2⟩ := info_parts infoS
  rcases hc with rfl | ⟨b, off, rfl, hlt, hc⟩
  · go_enter Try.func69, Try.ntmps69
    go_wp2_with (first
      | (at_make; refine wpList_make_full _ rfl _ _ 26 rfl w.heap.size 9 i0 (.string ⟨#[]⟩) 1 Try.underlying26 hi hz0 hz1 _ _ _ _ 0 rfl rfl rfl rfl (by omega) (by unfold maxLen; omega) (Nat.le_refl _) ?_))
    intro w1 hown hgrow
    have hb1 := below_of_grown hgrow
    go_wp2
    go_loopw [4] (fun vi wr => vi = .int .i64 0 ∧ wr = w1) (fun _ _ => 0)
    case atStart => exact ⟨rfl, rfl⟩
    case round =>
      obtain ⟨rfl, rfl⟩ := hrel
      go_wp2
      go_ret
      exact ⟨_, rfl, owns_empty hown, hb1⟩
  · go_enter Try.func69, Try.ntmps69
    go_wp2_with (first
      | (at_make; refine wpList_make_full _ rfl _ _ 26 rfl w.heap.size 9 i0 (.string ⟨#[]⟩) 1 Try.underlying26 hi hz0 hz1 _ _ _ _ ss.length rfl rfl rfl rfl (by rw [hz2]; omega) (by unfold maxLen; omega) (Nat.le_refl _) ?_))
    intro w1 hown hgrow
    have hb1 := below_of_grown hgrow
    obtain ⟨ys1, hl1, hown1⟩ : ∃ ys, ys.length = ss.length ∧ w1.ownsRow w.heap.size 9 1 (.slice (some ⟨w.heap.size, 0, none⟩) ss.length ss.length) ss.length ys := ⟨_, by simpa using hown.1, hown⟩
    clear hgrow hown
    go_wp2
    go_loopw [4] (fun vi wr => ∃ (k : Nat) (ys : List Value), k ≤ ss.length ∧ vi = .int .i64 (k : Int) ∧ wr.ownsRow w.heap.size 9 1 (.slice (some ⟨w.heap.size, 0, none⟩) ss.length ss.length) ss.length ys ∧ Hid (ys.length = ss.length ∧ ∀ j, j < k → ys[j]? = (strsV ss)[j]?) ∧ Below w.heap.size w wr) (fun vi _ => ss.length - (intOf vi).toNat)
    case atStart => exact ⟨0, ys1, Nat.zero_le _, rfl, hown1, ⟨hl1, fun j hj => by omega⟩, hb1⟩
    case round =>
      obtain ⟨k, ys, hk, rfl, hownr, hy, hbr⟩ := hrel
      by_cases hlt' : k < ss.length
      · have hcx : wr.cell? ⟨b, off + k, none⟩ = some (.string ss[k]) := (hbr.cell (p := ⟨b, off + k, none⟩) hlt).trans (hc k hlt')
        have hcy : wr.cell? ⟨w.heap.size, k, none⟩ = some (ys.getD k undef) := by
          rw [hownr.cellAt k (by omega)]; simp [List.getD_eq_getElem?_getD, hy.out.1, hlt']
        have hfr := hownr.frozenAt k
        have hat := strsV_at ss k hlt'
        obtain ⟨t, ht⟩ : ∃ t, t = ss[k] := ⟨_, rfl⟩
        rw [← ht] at hcx hat
        have HA : Hid ((strsV ss)[k]? = some (.string t)) := hat
        have hki : (k : Int) < (ss.length : Int) := by omega
        clear hc hown1 hb1 hi hz0 hz1 hz2 hl1 ht hat
        go_wp2
        go_roundw
        case rel => exact ⟨k + 1, ys.set k (.string t), by omega, by go_num, (hownr.stored k _).1, set_step hlt' hy.out HA.out, hbr.setCell (Nat.le_refl _) _⟩
        case measure => simp [intOf]; omega
      · have he : k = ss.length := by omega
        subst he
        clear hc hown1 hb1 hi hz0 hz1 hz2 hl1
        go_wp2
        go_ret
        refine ⟨_, rfl, ?_, hbr⟩
        have e : ys = strsV ss := list_done hy.out.1 (by simp) hy.out.2
        rw [← e]
        exact hownr

theorem bytes_eq_of_toList {a b : ByteArray} (h : a.toList = b.toList) : a = b := by
  rw [ByteArray.toList_eq, ByteArray.toList_eq] at h
  exact ByteArray.ext (Array.toList_inj.1 h)

theorem strs_done {ss ts : List ByteArray} (hl : ss.length = ts.length) (h : ∀ j (h1 : j < ss.length) (h2 : j < ts.length), ss[j] = ts[j]) : ss = ts := List.ext_getElem hl h

set_option maxHeartbeats 1000000 in
set_option maxRecDepth 100000 in
theorem eqStrs_c (v u : Value) (ss ts : List ByteArray) (w : World) (hv : Reads w v (strsV ss)) (hu : Reads w u (strsV ts)) (hn : ss.length ≤ 1099511627776) :
    Calls Try.prog 19 #[v, u] w fun e w' => e = .returned (.bool (decide (ss = ts))) ∧ Below w.heap.size w w' := by
  obtain ⟨a, cap, rfl, _, hc⟩ := reads_strs hv
  obtain ⟨a2, cap2, rfl, _, hc2⟩ := reads_strs hu
  clear hv hu
  by_cases hl : ss.length = ts.length
  · rcases hc with rfl | ⟨b, off, rfl, hlt, hc⟩
    · have : ts = [] := List.eq_nil_of_length_eq_zero (by simpa using hl.symm)
      subst this
      go_enter Try.func19, Try.ntmps19
      go_wp2
      go_loopw [5] (fun vi wr => vi = .int .i64 0 ∧ wr = w) (fun _ _ => 0)
      case atStart => exact ⟨rfl, rfl⟩
      case round =>
        obtain ⟨rfl, rfl⟩ := hrel
        go_wp2
        go_ret
        exact ⟨rfl, Below.refl _ _⟩
    rcases hc2 with rfl | ⟨b2, off2, rfl, hlt2, hc2⟩
    · have : ss = [] := List.eq_nil_of_length_eq_zero (by simpa using hl)
      subst this
      go_enter Try.func19, Try.ntmps19
      go_wp2
      go_loopw [5] (fun vi wr => vi = .int .i64 0 ∧ wr = w) (fun _ _ => 0)
      case atStart => exact ⟨rfl, rfl⟩
      case round =>
        obtain ⟨rfl, rfl⟩ := hrel
        go_wp2
        go_ret
        exact ⟨rfl, Below.refl _ _⟩
    · have HL : Hid (ss.length = ts.length) := hl
      have hc2' : ∀ k (h : k < ts.length), w.cell? ⟨b2, off2 + k, none⟩ = some (.string ts[k]) := hc2
      have HC2 : Hid (∀ k (h : k < ts.length), w.cell? ⟨b2, off2 + k, none⟩ = some (.string ts[k])) := hc2'
      rw [← hl]
      clear hl hc2 hc2'
      go_enter Try.func19, Try.ntmps19
      go_wp2
      go_loopw [5] (fun vi wr => ∃ k : Nat, k ≤ ss.length ∧ vi = .int .i64 (k : Int) ∧ Hid (∀ j (h1 : j < ss.length) (h2 : j < ts.length), j < k → ss[j] = ts[j]) ∧ Below w.heap.size w wr) (fun vi _ => ss.length - (intOf vi).toNat)
      case atStart => exact ⟨0, Nat.zero_le _, rfl, fun j h1 h2 hj => by omega, Below.refl _ _⟩
      case round =>
        obtain ⟨k, hk, rfl, hy, hbr⟩ := hrel
        by_cases hlt' : k < ss.length
        · have hlt2' : k < ts.length := by have := HL.out; omega
          have hcx : wr.cell? ⟨b, off + k, none⟩ = some (.string ss[k]) := (hbr.cell (p := ⟨b, off + k, none⟩) hlt).trans (hc k hlt')
          have hcy : wr.cell? ⟨b2, off2 + k, none⟩ = some (.string ts[k]) := (hbr.cell (p := ⟨b2, off2 + k, none⟩) hlt2).trans (HC2.out k hlt2')
          obtain ⟨x, hx⟩ : ∃ x, x = ss[k] := ⟨_, rfl⟩
          obtain ⟨y, hy'⟩ : ∃ y, y = ts[k] := ⟨_, rfl⟩
          rw [← hx] at hcx
          rw [← hy'] at hcy
          have HX : Hid (x = ss[k]) := hx
          have HY : Hid (y = ts[k]) := hy'
          have hki : (k : Int) < (ss.length : Int) := by omega
          clear hc hx hy'
          go_wp2
          go_quiet (fail)
          go_wp2
          · have hne : (!x.toList == y.toList) = true := by assumption
            have hne' : ¬ ss = ts := fun e => by
              have e1 := HX.out; have e2 := HY.out; subst e; rw [← e2] at e1; subst e1; simp at hne
            go_ret
            exact ⟨by simp [hne'], below_drewN' hbr _⟩
          · have he : (!x.toList == y.toList) = false := by assumption
            have he' : x = y := bytes_eq_of_toList (by simpa using he)
            go_roundw
            case rel => exact ⟨k + 1, by omega, by go_num, fun j h1 h2 hj => (by
              by_cases e : j = k
              · subst e; rw [← HX.out, ← HY.out]; exact he'
              · exact hy.out j h1 h2 (by omega)), below_drewN' hbr _⟩
            case measure => simp [intOf]; omega
        · clear hc
          have he : k = ss.length := by omega
          subst he
          have e : ss = ts := strs_done HL.out (fun j h1 h2 => hy.out j h1 h2 h1)
          go_wp2
          go_ret
          exact ⟨by simp [e], hbr⟩
  · have hne : ¬ ss = ts := fun e => hl (by rw [e])
    have hl' : ((ss.length : Int) != (ts.length : Int)) = true := by simp; omega
    rw [decide_eq_false hne]
    clear hc hc2
    go_enter Try.func19, Try.ntmps19
    go_wp2
    go_ret
    exact ⟨rfl, Below.refl _ _⟩

/-- The marks k, k + 1 .. as texts. -/
def marksS (k n : Nat) : List ByteArray := (List.range n).map fun j => markStr (k + j)
@[simp] theorem length_marksS (k n : Nat) : (marksS k n).length = n := by simp [marksS]
theorem marksS_at (k n j : Nat) (h : j < n) : (strsV (marksS k n))[j]? = some (.string (markStr (k + j))) := by
  simp [strsV, marksS, h]

set_option maxHeartbeats 1000000 in
set_option maxRecDepth 100000 in
theorem markStrs_c (v : Value) (base n : Nat) (xs : List Value) (k0 : Nat) (w : World) (hv : w.ownsRow base 9 1 v n xs) (h0 : 1 ≤ k0) (h1 : k0 ≤ 4294967296) (hn : n ≤ 4294967296) (hbw : base ≤ w.heap.size) :
    Calls Try.prog 22 #[v, .int .i64 (k0 : Int)] w fun e w' => e = .returned (.int .i64 ((k0 : Int) + (n : Int))) ∧ w'.ownsRow base 9 1 v n (strsV (marksS k0 n)) ∧ w.grownBy w' v.ownBlock := by
  have hv0 := hv
  rcases hv.2 with ⟨rfl, rfl⟩ | ⟨g, cap, cur, rfl, hb, hg, hcap, hmax, hsz, htake⟩
  · clear hv0
    go_enter Try.func22, Try.ntmps22
    go_wp2
    go_loopw [1, 5] (fun vk vi wr => vk = .int .i64 (k0 : Int) ∧ vi = .int .i64 0 ∧ wr = w) (fun _ _ _ => 0)
    case atStart => exact ⟨rfl, rfl, rfl⟩
    case round =>
      obtain ⟨rfl, rfl, rfl⟩ := hrel
      go_wp2
      go_ret
      exact ⟨by simp, by rw [show strsV (marksS k0 0) = [] from rfl]; exact owns_empty hv, World.grownBy.refl _ _⟩
  · have hl : xs.length = n := by simpa using hv.1
    have hgl := (Array.getElem?_eq_some_iff.1 hg).1
    clear hb hg hsz htake hv0
    go_enter Try.func22, Try.ntmps22
    go_wp2
    go_loopw [1, 5] (fun vk vi wr => ∃ (k : Nat) (ys : List Value), k ≤ n ∧ vi = .int .i64 (k : Int) ∧ vk = .int .i64 ((k0 : Int) + (k : Int)) ∧ wr.ownsRow base 9 1 (.slice (some ⟨g, 0, none⟩) n cap) n ys ∧ Hid (ys.length = n ∧ ∀ j, j < k → ys[j]? = (strsV (marksS k0 n))[j]?) ∧ w.grownBy wr (some g)) (fun _ vi _ => n - (intOf vi).toNat)
    case atStart => exact ⟨0, xs, Nat.zero_le _, rfl, by simp, hv, ⟨hl, fun j hj => by omega⟩, World.grownBy.refl _ _⟩
    case round =>
      obtain ⟨k, ys, hk, rfl, rfl, hownr, hy, hbr⟩ := hrel
      clear hv hl
      by_cases hlt' : k < n
      · have hki : (k : Int) < (n : Int) := by omega
        have hm := markText_c (k0 + k) wr (by omega) (by omega)
        have ec : ((k0 + k : Nat) : Int) = (k0 : Int) + (k : Int) := Int.natCast_add k0 k
        rw [ec] at hm
        go_wp2_with (
          go_at_call 45
          refine hm.mono ?_
          rintro e w1 ⟨rfl, b1⟩
          have hown1 := owns_of_below hownr b1
          have hcy : w1.cell? ⟨g, k, none⟩ = some (ys.getD k undef) := by
            rw [hown1.cellAt k (by omega)]; simp [List.getD_eq_getElem?_getD, hy.out.1, hlt']
          have hfr := hown1.frozenAt k
          clear hm hownr)
        go_roundw
        case rel => exact ⟨k + 1, ys.set k _, by omega, by go_num, by go_num, (hown1.stored k _).1, set_step hlt' hy.out (marksS_at k0 n k hlt'), grown_trans (grown_trans hbr (grown_of_below b1 _)) (hown1.stored k _).2⟩
        case measure => simp [intOf]; omega
      · have he : k = n := by omega
        subst he
        have e : ys = strsV (marksS k0 k) := list_done hy.out.1 (by simp) hy.out.2
        go_wp2
        go_ret
        refine ⟨rfl, ?_, hbr⟩
        rw [← e]
        exact hownr

set_option maxHeartbeats 1000000 in
set_option maxRecDepth 100000 in
theorem heldStrs_c (v : Value) (n : Nat) (k0 : Nat) (w : World) (hv : Reads w v (strsV (marksS k0 n))) (h0 : 1 ≤ k0) (h1 : k0 ≤ 4294967296) (hn : n ≤ 4294967296) :
    Calls Try.prog 23 #[v, .int .i64 (k0 : Int)] w fun e w' => e = .returned (.int .i64 ((k0 : Int) + (n : Int))) ∧ Below w.heap.size w w' := by
  obtain ⟨a, cap, hvv, _, hc⟩ := reads_strs hv
  rw [length_marksS] at hvv
  subst hvv
  clear hv
  rcases hc with hc | ⟨b, off, rfl, hlt, hc⟩
  · have : n = 0 := by have := congrArg List.length hc; simpa using this
    subst this
    go_enter Try.func23, Try.ntmps23
    go_wp2
    go_loop [1, 5] (fun vk vi => vk = .int .i64 (k0 : Int) ∧ vi = .int .i64 0) (fun _ _ => 0)
    case atStart => exact ⟨rfl, rfl⟩
    case round =>
      obtain ⟨rfl, rfl⟩ := hrel
      go_wp2
      go_ret
      exact ⟨by simp, Below.refl _ _⟩
  · have hc' : ∀ k, k < n → w.cell? ⟨b, off + k, none⟩ = some (.string (markStr (k0 + k))) := fun k hk => by
      rw [hc k (by simpa using hk)]
      simp [marksS]
    clear hc
    go_enter Try.func23, Try.ntmps23
    go_wp2
    go_loopw [1, 5] (fun vk vi wr => ∃ k : Nat, k ≤ n ∧ vi = .int .i64 (k : Int) ∧ vk = .int .i64 ((k0 : Int) + (k : Int)) ∧ Below w.heap.size w wr) (fun _ vi _ => n - (intOf vi).toNat)
    case atStart => exact ⟨0, Nat.zero_le _, rfl, by simp, Below.refl _ _⟩
    case round =>
      obtain ⟨k, hk, rfl, rfl, hbr⟩ := hrel
      by_cases hlt' : k < n
      · have hki : (k : Int) < (n : Int) := by omega
        obtain ⟨ms, hms⟩ : ∃ ms, ms = markStr (k0 + k) := ⟨_, rfl⟩
        have hm := fun w' => markText_c (k0 + k) w' (by omega) (by omega)
        have ec : ((k0 + k : Nat) : Int) = (k0 : Int) + (k : Int) := by omega
        have hcx : ∀ w', Below wr.heap.size wr w' → w'.cell? ⟨b, off + k, none⟩ = some (.string (markStr (k0 + k))) := fun w' hb' => (hb'.cell (p := ⟨b, off + k, none⟩) (Nat.lt_of_lt_of_le hlt hbr.size)).trans ((hbr.cell (p := ⟨b, off + k, none⟩) hlt).trans (hc' k hlt'))
        rw [ec] at hm
        rw [← hms] at hm hcx
        have hcx0 := hcx wr (Below.refl _ _)
        clear hc' hms
        go_wp2
        go_region_with (
          go_at_call 45
          refine (hm _).mono ?_
          rintro e w1 ⟨rfl, b1⟩
          have b1' : Below wr.heap.size wr w1 := ⟨b1.os, b1.tape, b1.output, b1.size, b1.block⟩
          have hcx1 := hcx w1 b1'
          clear b1)
        all_goals (
          have hb2 := hbr.trans (b1'.mono hbr.size)
          clear hm hcx
          go_wp2
          go_roundw
          case rel => exact ⟨k + 1, by omega, by go_num, by go_num, hb2⟩
          case measure => simp [intOf]; omega)
      · have he : k = n := by omega
        subst he
        clear hc'
        go_wp2
        go_ret
        exact ⟨rfl, hbr⟩

/-- How many texts and letters there are. -/
def bulkS (ss : List ByteArray) : Nat := ss.length + (ss.map ByteArray.size).sum

theorem sum_take_succ (ss : List ByteArray) (k : Nat) (h : k < ss.length) : ((ss.take (k + 1)).map ByteArray.size).sum = ((ss.take k).map ByteArray.size).sum + ss[k].size := by
  rw [List.take_succ_eq_append_getElem h, List.map_append, List.sum_append]
  simp
theorem sum_take_le (ss : List ByteArray) (k : Nat) : ((ss.take k).map ByteArray.size).sum ≤ (ss.map ByteArray.size).sum := by
  have h : (ss.map ByteArray.size).sum = ((ss.take k).map ByteArray.size).sum + ((ss.drop k).map ByteArray.size).sum := by
    rw [← List.sum_append, ← List.map_append, List.take_append_drop]
  omega

/-- What the count answers: what is left, or -1. -/
def leftS (ss : List ByteArray) (left : Int) : Int := if (bulkS ss : Int) ≤ left then left - (bulkS ss : Int) else -1

set_option maxHeartbeats 1000000 in
set_option maxRecDepth 100000 in
theorem sizeStrs_c (v : Value) (ss : List ByteArray) (w : World) (hv : Reads w v (strsV ss)) (hn : ss.length ≤ maxLen) (hs : ∀ s ∈ ss, s.size ≤ maxLen) :
    Calls Try.prog 66 #[v, .int .i64 1048576] w fun e w' => e = .returned (.int .i64 (leftS ss 1048576)) ∧ w = w' := by
  obtain ⟨a, cap, rfl, _, hc⟩ := reads_strs hv
  clear hv
  unfold maxLen at hn hs
  by_cases h0 : 1048576 < ss.length
  · have hneg : (1048576 : Int) - (ss.length : Int) < 0 := by omega
    have e : leftS ss 1048576 = -1 := by rw [leftS, bulkS, if_neg (by omega)]
    rw [e]
    clear hc hs
    go_enter Try.func66, Try.ntmps66
    go_wp2
    go_ret
    exact ⟨rfl, rfl⟩
  · have hpos : ¬ ((1048576 : Int) - (ss.length : Int) < 0) := by omega
    rcases hc with rfl | ⟨b, off, rfl, hlt, hc⟩
    · go_enter Try.func66, Try.ntmps66
      go_wp2
      go_loop [1, 5] (fun vl vi => vl = .int .i64 1048576 ∧ vi = .int .i64 0) (fun _ _ => 0)
      case atStart => exact ⟨rfl, rfl⟩
      case round =>
        obtain ⟨rfl, rfl⟩ := hrel
        go_wp2
        go_ret
        exact ⟨rfl, rfl⟩
    · go_enter Try.func66, Try.ntmps66
      go_wp2
      go_loop [1, 5] (fun vl vi => ∃ (k : Nat) (l : Int), k ≤ ss.length ∧ vi = .int .i64 (k : Int) ∧ vl = .int .i64 l ∧ 0 ≤ l ∧ l ≤ 1048576 ∧ Hid (l = 1048576 - (ss.length : Int) - (((ss.take k).map ByteArray.size).sum : Int))) (fun _ vi => ss.length - (intOf vi).toNat)
      case atStart => exact ⟨0, _, Nat.zero_le _, rfl, rfl, by omega, by omega, by show _ = _; simp⟩
      case round =>
        obtain ⟨k, l, hk, rfl, rfl, hl0, hl1, hl⟩ := hrel
        by_cases hlt' : k < ss.length
        · have hcx := hc k hlt'
          have hsk := hs ss[k] (List.getElem_mem hlt')
          have hsum := sum_take_succ ss k hlt'
          obtain ⟨t, ht⟩ : ∃ t, t = ss[k] := ⟨_, rfl⟩
          rw [← ht] at hcx hsk hsum
          have HS : Hid (((ss.take (k + 1)).map ByteArray.size).sum = ((ss.take k).map ByteArray.size).sum + t.size) := hsum
          have hki : (k : Int) < (ss.length : Int) := by omega
          clear hc hs ht hsum
          by_cases hneg : l - (t.size : Int) < 0
          · have e : leftS ss 1048576 = -1 := by
              have h1 := HS.out; have h2 := hl.out; have h3 := sum_take_le ss (k + 1)
              rw [leftS, bulkS, if_neg (by omega)]
            have HE : Hid (leftS ss 1048576 = -1) := e
            clear e
            go_wp2
            go_ret
            exact ⟨by rw [HE.out]; rfl, rfl⟩
          · go_wp2
            go_round
            case rel => exact ⟨k + 1, l - (t.size : Int), by omega, by go_num, rfl, by omega, by omega, (by show _ = _; rw [HS.out, hl.out]; omega)⟩
            case measure => simp [intOf]; omega
        · have he : k = ss.length := by omega
          subst he
          have e : leftS ss 1048576 = l := by
            have h2 := hl.out
            rw [List.take_length] at h2
            rw [leftS, bulkS, if_pos (by omega)]; omega
          have HE : Hid (leftS ss 1048576 = l) := e
          clear hc hs e
          go_wp2
          go_ret
          exact ⟨by rw [HE.out]; rfl, rfl⟩
end Go.Proofs.Ytbhedlobiagngaa

/-! What is kept of memory between two worlds, block by block, and lists of texts that lie in blocks of a set S: no condition. -/
namespace Go.Proofs.Ytbhedlobiagngaa
open Go.RowKit
set_option linter.unusedSimpArgs false
set_option linter.unusedVariables false

/-- In blocks of S the world w' is as w was. -/
def Kp (S : Nat → Prop) (w w' : World) : Prop := ∀ b, S b → w'.heap[b]? = w.heap[b]?
theorem Kp.cell {S : Nat → Prop} {w w' : World} (h : Kp S w w') {b : Nat} (hb : S b) (o : Nat) : w'.cell? ⟨b, o, none⟩ = w.cell? ⟨b, o, none⟩ := World.cell?_of_block (w := w) (h b hb)
theorem Kp.trans {S : Nat → Prop} {a b c : World} (h : Kp S a b) (k : Kp S b c) : Kp S a c := fun i hi => (k i hi).trans (h i hi)
theorem Kp.of {S : Nat → Prop} {B : Nat} {w w' : World} (hb : Below B w w') (hS : ∀ b, S b → b < B) : Kp S w w' := fun b h => hb.block b (hS b h)
theorem Kp.set {S : Nat → Prop} {w : World} {g j : Nat} {v : Value} (h : ¬ S g) : Kp S w (w.setCell ⟨g, j, none⟩ v) := fun b hb => Below.heap_setCell w ⟨g, j, none⟩ v b (fun e => by have e' : b = g := e; subst e'; exact h hb)

/-- The blocks from lo on, below hi. -/
def Ow (lo hi : Nat) (b : Nat) : Prop := lo ≤ b ∧ b < hi
theorem Ow.mono {lo lo' hi hi' : Nat} (h1 : lo' ≤ lo) (h2 : hi ≤ hi') : ∀ b, Ow lo hi b → Ow lo' hi' b := fun b h => ⟨Nat.le_trans h1 h.1, Nat.lt_of_lt_of_le h.2 h2⟩
theorem Ow.below {lo : Nat} {w w' : World} (h : Below w.heap.size w w') : Kp (Ow lo w.heap.size) w w' := fun b hb => h.block b hb.2
theorem Ow.not {lo hi g : Nat} (h : g < lo) : ¬ Ow lo hi g := fun k => by have := k.1; omega

/-- A list of texts that lies in blocks of S. -/
def RdB (S : Nat → Prop) (w : World) (v : Value) (xs : List Value) : Prop :=
  ∃ a cap, v = .slice a xs.length cap ∧ xs.length ≤ cap ∧ (xs = [] ∨ ∃ b off, a = some ⟨b, off, none⟩ ∧ S b ∧ ∀ k (h : k < xs.length), w.cell? ⟨b, off + k, none⟩ = some xs[k])
theorem RdB.reads {S : Nat → Prop} {w : World} {v : Value} {xs : List Value} (h : RdB S w v xs) (hS : ∀ b, S b → b < w.heap.size) : Reads w v xs := by
  obtain ⟨a, cap, hv, hc, h⟩ := h
  refine ⟨a, cap, hv, hc, ?_⟩
  rcases h with h | ⟨b, off, ha, hb, h⟩
  · exact .inl h
  · exact .inr ⟨b, off, ha, hS b hb, h⟩
theorem RdB.of {w : World} {v : Value} {xs : List Value} (h : Reads w v xs) : RdB (· < w.heap.size) w v xs := h
theorem RdB.keep {S : Nat → Prop} {w w' : World} {v : Value} {xs : List Value} (hb : Kp S w w') (h : RdB S w v xs) : RdB S w' v xs := by
  obtain ⟨a, cap, hv, hc, h⟩ := h
  refine ⟨a, cap, hv, hc, ?_⟩
  rcases h with h | ⟨b, off, ha, hlt, h⟩
  · exact .inl h
  · exact .inr ⟨b, off, ha, hlt, fun k hk => (hb.cell hlt _).trans (h k hk)⟩
theorem RdB.mono {S S' : Nat → Prop} {w : World} {v : Value} {xs : List Value} (hB : ∀ b, S b → S' b) (h : RdB S w v xs) : RdB S' w v xs := by
  obtain ⟨a, cap, hv, hc, h⟩ := h
  refine ⟨a, cap, hv, hc, ?_⟩
  rcases h with h | ⟨b, off, ha, hlt, h⟩
  · exact .inl h
  · exact .inr ⟨b, off, ha, hB b hlt, h⟩
theorem rdB_owns {w : World} {base : Nat} {e : TypeId} {v : Value} {n : Nat} {xs : List Value} (h : w.ownsRow base e 1 v n xs) : RdB (Ow base w.heap.size) w v xs := by
  have h0 := reads_of_owns h
  obtain ⟨a, cap, hv, hc, hx⟩ := h0
  refine ⟨a, cap, hv, hc, ?_⟩
  rcases hx with hx | ⟨b, off, rfl, hlt, hx⟩
  · exact .inl hx
  · refine .inr ⟨b, off, rfl, ⟨?_, hlt⟩, hx⟩
    rcases h.2 with ⟨hn, _⟩ | ⟨g, cap', cur, hv', hg, _⟩
    · rw [hn] at hv; simp at hv
    · rw [hv'] at hv
      simp only [Value.slice.injEq, Option.some.injEq, Addr.mk.injEq] at hv
      omega

def leftW (n : Nat) (left : Int) : Int := if (n : Int) ≤ left then left - (n : Int) else -1
theorem leftW_good {n : Nat} {left : Int} (h : (n : Int) ≤ left) : leftW n left = left - (n : Int) := if_pos h
theorem leftW_bad {n : Nat} {left : Int} (h : ¬ (n : Int) ≤ left) : leftW n left = -1 := if_neg h
theorem vheap_new (w : World) (o : Obj) : (w.alloc o).heap[w.heap.size]? = some o := by show (w.heap.push _)[w.heap.size]? = _; simp
theorem vheap_old (w : World) (o : Obj) {b : Nat} (h : b < w.heap.size) : (w.alloc o).heap[b]? = w.heap[b]? := Below.heap_alloc w o b h
theorem vblk_cell {w : World} {b : Nat} {cs : Array Value} {t : TypeId} (h : w.heap[b]? = some (.cells cs t (0, 0))) (j : Nat) : w.cell? ⟨b, j, none⟩ = cs[j]? := cell_of_row w b j cs t (0, 0) h
theorem vblk_frozen {w : World} {b : Nat} {cs : Array Value} {t : TypeId} (h : w.heap[b]? = some (.cells cs t (0, 0))) (j : Nat) : w.frozen? ⟨b, j, none⟩ = false := frozen_of_row w b j cs t h
end Go.Proofs.Ytbhedlobiagngaa

/-! Rows of structs that lie in memory: what an element's cells are is handed in; that they are kept, copied cell by cell, and how much they hold; no condition. -/
namespace Go.Proofs.Ytbhedlobiagngaa
open Go.RowKit
set_option linter.unusedSimpArgs false
set_option linter.unusedVariables false

theorem hidden {p : Prop} (h : p) : Hid p := h

/-- An element of a row: how many cells, and when these are it, what it refers to lying in blocks of a set. -/
structure Sh (α : Type) where
  n : Nat
  lies : (Nat → Prop) → World → List Value → α → Prop
  keep : ∀ {S : Nat → Prop} {w w' : World} {cs : List Value} {x : α}, Kp S w w' → lies S w cs x → lies S w' cs x
  mono : ∀ {S S' : Nat → Prop} {w : World} {cs : List Value} {x : α}, (∀ b, S b → S' b) → lies S w cs x → lies S' w cs x

/-- From place j of block b on lie these cells. -/
def CellsAt (w : World) (b j : Nat) (cs : List Value) : Prop := ∀ i (h : i < cs.length), w.cell? ⟨b, j + i, none⟩ = some cs[i]
theorem CellsAt.keep {S : Nat → Prop} {w w' : World} {b j : Nat} {cs : List Value} (hk : Kp S w w') (hb : S b) (h : CellsAt w b j cs) : CellsAt w' b j cs := fun i hi => (hk.cell hb _).trans (h i hi)

/-- The row v is xs. -/
def RowIn {α : Type} (sh : Sh α) (S : Nat → Prop) (w : World) (v : Value) (xs : List α) : Prop :=
  ∃ q cap, v = .slice q xs.length cap ∧ xs.length ≤ maxLen ∧ xs.length ≤ cap ∧ (xs = [] ∨ ∃ (b off : Nat), q = some ⟨b, off, none⟩ ∧ S b ∧ ∀ k (h : k < xs.length), ∃ cs, sh.lies S w cs xs[k] ∧ CellsAt w b (off + k * sh.n) cs)
theorem RowIn.keep {α : Type} {sh : Sh α} {S : Nat → Prop} {w w' : World} {v : Value} {xs : List α} (hk : Kp S w w') (h : RowIn sh S w v xs) : RowIn sh S w' v xs := by
  obtain ⟨q, cap, hv, hm, hc, h⟩ := h
  refine ⟨q, cap, hv, hm, hc, ?_⟩
  rcases h with h | ⟨b, off, hq, hb, h⟩
  · exact .inl h
  · exact .inr ⟨b, off, hq, hb, fun k hh => by obtain ⟨cs, h1, h2⟩ := h k hh; exact ⟨cs, sh.keep hk h1, h2.keep hk hb⟩⟩
theorem RowIn.mono {α : Type} {sh : Sh α} {S S' : Nat → Prop} {w : World} {v : Value} {xs : List α} (hS : ∀ b, S b → S' b) (h : RowIn sh S w v xs) : RowIn sh S' w v xs := by
  obtain ⟨q, cap, hv, hm, hc, h⟩ := h
  refine ⟨q, cap, hv, hm, hc, ?_⟩
  rcases h with h | ⟨b, off, hq, hb, h⟩
  · exact .inl h
  · exact .inr ⟨b, off, hq, hS b hb, fun k hh => by obtain ⟨cs, h1, h2⟩ := h k hh; exact ⟨cs, sh.mono hS h1, h2⟩⟩
theorem RowIn.below {α : Type} {sh : Sh α} {w w' : World} {v : Value} {xs : List α} (h : RowIn sh (· < w.heap.size) w v xs) (hb : Below w.heap.size w w') : RowIn sh (· < w'.heap.size) w' v xs :=
  (h.keep (.of hb (fun b h => h))).mono (fun b h => Nat.lt_of_lt_of_le h hb.size)
theorem RowIn.as {α : Type} {sh sh' : Sh α} {S : Nat → Prop} {w : World} {v : Value} {xs : List α} (hn : sh.n = sh'.n) (hl : ∀ S w cs x, sh.lies S w cs x → sh'.lies S w cs x) (h : RowIn sh S w v xs) : RowIn sh' S w v xs := by
  obtain ⟨q, cap, hv, hm, hc, h⟩ := h
  refine ⟨q, cap, hv, hm, hc, ?_⟩
  rcases h with h | ⟨b, off, hq, hb, h⟩
  · exact .inl h
  · exact .inr ⟨b, off, hq, hb, fun k hh => by obtain ⟨cs, h1, h2⟩ := h k hh; exact ⟨cs, hl _ _ _ _ h1, by rw [← hn]; exact h2⟩⟩
theorem RowIn.len {α : Type} {sh : Sh α} {S : Nat → Prop} {w : World} {v : Value} {xs : List α} (h : RowIn sh S w v xs) : xs.length ≤ maxLen := by
  obtain ⟨q, cap, hv, hm, hc, h⟩ := h; exact hm
theorem RowIn.slice {α : Type} {sh : Sh α} {S : Nat → Prop} {w : World} {v : Value} {xs : List α} (h : RowIn sh S w v xs) : ∃ q cap, v = .slice q xs.length cap := by
  obtain ⟨q, cap, hv, hm, hc, h⟩ := h; exact ⟨q, cap, hv⟩
theorem RowIn.at {α : Type} {sh : Sh α} {S : Nat → Prop} {w : World} {v : Value} {xs : List α} (h : RowIn sh S w v xs) {k : Nat} (hk : k < xs.length) : ∃ cs, sh.lies S w cs xs[k] := by
  obtain ⟨q, cap, hv, hm, hc, h⟩ := h
  rcases h with rfl | ⟨b, off, hq, hb, h⟩
  · simp at hk
  · obtain ⟨cs, h1, _⟩ := h k hk; exact ⟨cs, h1⟩

/-- The elements below k lie in the cells ys of a row. -/
def Laid {α : Type} (sh : Sh α) (S : Nat → Prop) (w : World) (ys : List Value) (xs : List α) (k : Nat) : Prop :=
  ∀ i (h : i < xs.length), i < k → ∃ cs, cs.length = sh.n ∧ sh.lies S w cs xs[i] ∧ ∀ j (hj : j < cs.length), ys[i * sh.n + j]? = some cs[j]
/-- The row v is xs, and may be written. -/
def RowOwn {α : Type} (sh : Sh α) (t : TypeId) (S : Nat → Prop) (w : World) (v : Value) (xs : List α) : Prop :=
  xs.length ≤ maxLen ∧ ∃ ys, w.ownsRow 0 t sh.n v xs.length ys ∧ (∀ g, v.ownBlock = some g → S g) ∧ Laid sh S w ys xs xs.length
theorem owns_lo {w : World} {lo lo' : Nat} {e : TypeId} {sz n : Nat} {v : Value} {xs : List Value} (h : lo' ≤ lo) (hg : w.ownsRow lo e sz v n xs) : w.ownsRow lo' e sz v n xs := by
  refine ⟨hg.1, ?_⟩
  rcases hg.2 with h1 | ⟨g, cap, cur, h1, h2, h3⟩
  · exact .inl h1
  · exact .inr ⟨g, cap, cur, h1, by omega, h3⟩
theorem owns_kept {S : Nat → Prop} {w w' : World} {lo : Nat} {e : TypeId} {sz n : Nat} {v : Value} {xs : List Value} (hk : Kp S w w') (hS : ∀ g, v.ownBlock = some g → S g) (hg : w.ownsRow lo e sz v n xs) : w'.ownsRow lo e sz v n xs := by
  refine ⟨hg.1, ?_⟩
  rcases hg.2 with h1 | ⟨g, cap, cur, h1, h2, h3, h4⟩
  · exact .inl h1
  · exact .inr ⟨g, cap, cur, h1, h2, (hk g (hS g (by rw [h1]; rfl))).trans h3, h4⟩
theorem owns_in {w : World} {lo : Nat} {e : TypeId} {sz n : Nat} {v : Value} {xs : List Value} (hg : w.ownsRow lo e sz v n xs) : ∀ g, v.ownBlock = some g → Ow lo w.heap.size g := fun g h => by
  rcases hg.2 with ⟨h1, _⟩ | ⟨g', cap, cur, h1, h2, h3, h4⟩
  · rw [h1] at h; simp [Value.ownBlock] at h
  · rw [h1] at h; simp [Value.ownBlock] at h; subst h
    exact ⟨h2, (Array.getElem?_eq_some_iff.1 h3).1⟩
theorem Laid.keep {α : Type} {sh : Sh α} {S : Nat → Prop} {w w' : World} {ys : List Value} {xs : List α} {k : Nat} (hk : Kp S w w') (h : Laid sh S w ys xs k) : Laid sh S w' ys xs k := fun i hi hik => by
  obtain ⟨cs, h1, h2, h3⟩ := h i hi hik; exact ⟨cs, h1, sh.keep hk h2, h3⟩
theorem Laid.mono {α : Type} {sh : Sh α} {S S' : Nat → Prop} {w : World} {ys : List Value} {xs : List α} {k : Nat} (hS : ∀ b, S b → S' b) (h : Laid sh S w ys xs k) : Laid sh S' w ys xs k := fun i hi hik => by
  obtain ⟨cs, h1, h2, h3⟩ := h i hi hik; exact ⟨cs, h1, sh.mono hS h2, h3⟩
theorem RowOwn.keep {α : Type} {sh : Sh α} {t : TypeId} {S : Nat → Prop} {w w' : World} {v : Value} {xs : List α} (hk : Kp S w w') (h : RowOwn sh t S w v xs) : RowOwn sh t S w' v xs := by
  obtain ⟨h0, ys, h1, h2, h3⟩ := h
  exact ⟨h0, ys, owns_kept hk h2 h1, h2, h3.keep hk⟩
theorem RowOwn.mono {α : Type} {sh : Sh α} {t : TypeId} {S S' : Nat → Prop} {w : World} {v : Value} {xs : List α} (hS : ∀ b, S b → S' b) (h : RowOwn sh t S w v xs) : RowOwn sh t S' w v xs := by
  obtain ⟨h0, ys, h1, h2, h3⟩ := h
  exact ⟨h0, ys, h1, fun g hg => hS g (h2 g hg), h3.mono hS⟩
theorem RowOwn.plain {α : Type} {sh : Sh α} {t : TypeId} {S : Nat → Prop} {w : World} {v : Value} {xs : List α} (h : RowOwn sh t S w v xs) : RowIn sh S w v xs := by
  obtain ⟨hm, ys, h1, h2, h3⟩ := h
  rcases id h1.2 with ⟨rfl, h0⟩ | ⟨g, cap, cur, rfl, _, hg, hc, _⟩
  · exact ⟨none, 0, by rw [h0], hm, by omega, .inl (List.eq_nil_of_length_eq_zero h0)⟩
  · refine ⟨_, _, rfl, hm, hc, .inr ⟨g, 0, rfl, h2 g rfl, fun k hk => ?_⟩⟩
    obtain ⟨cs, e1, e2, e3⟩ := h3 k hk hk
    refine ⟨cs, e2, fun i hi => ?_⟩
    have hlt : k * sh.n + i < xs.length * sh.n := by
      have : (k + 1) * sh.n ≤ xs.length * sh.n := Nat.mul_le_mul_right _ hk
      rw [Nat.add_mul, Nat.one_mul] at this
      omega
    rw [Nat.zero_add, h1.cellAt _ hlt]
    exact e3 i hi

/-- Cells put one behind the other, from place j on. -/
def putL (ys : List Value) (j : Nat) : List Value → List Value
  | [] => ys
  | c :: cs => putL (ys.set j c) (j + 1) cs
def setW (w : World) (g j : Nat) : List Value → World
  | [] => w
  | c :: cs => setW (w.setCell ⟨g, j, none⟩ c) g (j + 1) cs
theorem putL_length (cs : List Value) : ∀ (ys : List Value) (j : Nat), (putL ys j cs).length = ys.length := by
  induction cs with
  | nil => intro ys j; rfl
  | cons c cs ih => intro ys j; show (putL (ys.set j c) (j + 1) cs).length = _; rw [ih]; simp
theorem putL_out (cs : List Value) : ∀ (ys : List Value) (j i : Nat), (i < j ∨ j + cs.length ≤ i) → (putL ys j cs)[i]? = ys[i]? := by
  induction cs with
  | nil => intro ys j i h; rfl
  | cons c cs ih =>
    intro ys j i h
    show (putL (ys.set j c) (j + 1) cs)[i]? = _
    simp at h
    rw [ih _ _ _ (by omega), List.getElem?_set_ne (by omega)]
theorem putL_in (cs : List Value) : ∀ (ys : List Value) (j i : Nat), j + cs.length ≤ ys.length → i < cs.length → (putL ys j cs)[j + i]? = cs[i]? := by
  induction cs with
  | nil => intro ys j i h hi; simp at hi
  | cons c cs ih =>
    intro ys j i h hi
    show (putL (ys.set j c) (j + 1) cs)[j + i]? = _
    simp at h hi
    cases i with
    | zero => rw [putL_out _ _ _ _ (by omega)]; simp [List.getElem?_set, show j < ys.length by omega]
    | succ i => rw [show j + (i + 1) = (j + 1) + i by omega, ih _ _ _ (by simp; omega) (by omega)]; simp
theorem setW_size (cs : List Value) : ∀ (w : World) (g j : Nat), (setW w g j cs).heap.size = w.heap.size := by
  induction cs with
  | nil => intro w g j; rfl
  | cons c cs ih => intro w g j; show (setW (w.setCell ⟨g, j, none⟩ c) g (j + 1) cs).heap.size = _; rw [ih]; simp [World.setCell]
theorem setW_kp {S : Nat → Prop} {g : Nat} (hg : ¬ S g) (cs : List Value) : ∀ (w : World) (j : Nat), Kp S w (setW w g j cs) := by
  induction cs with
  | nil => intro w j b hb; rfl
  | cons c cs ih => intro w j; exact (Kp.set hg).trans (ih _ _)
theorem setW_below {B g : Nat} (hg : B ≤ g) (cs : List Value) : ∀ (w w0 : World) (j : Nat), Below B w0 w → Below B w0 (setW w g j cs) := by
  induction cs with
  | nil => intro w w0 j h; exact h
  | cons c cs ih => intro w w0 j h; exact ih _ _ _ (Below.setCell h hg _)
theorem setW_owns {lo g n cap sz : Nat} {t : TypeId} (cs : List Value) : ∀ (w : World) (ys : List Value) (j : Nat), w.ownsRow lo t sz (.slice (some ⟨g, 0, none⟩) n cap) n ys → (setW w g j cs).ownsRow lo t sz (.slice (some ⟨g, 0, none⟩) n cap) n (putL ys j cs) := by
  induction cs with
  | nil => intro w ys j h; exact h
  | cons c cs ih => intro w ys j h; exact ih _ _ _ (h.stored j c).1

theorem Laid.step {α : Type} {sh : Sh α} {lo : Nat} {w w2 : World} {ys : List Value} {xs : List α} {k : Nat} (h : Laid sh (Ow lo w.heap.size) w ys xs k) (hk : k < xs.length) (hy : ys.length = xs.length * sh.n) (hb : Below w.heap.size w w2) {g : Nat} (hg : g < lo) {cs : List Value}
    (hn : cs.length = sh.n) (hu : sh.lies (Ow lo w2.heap.size) w2 cs xs[k]) : Laid sh (Ow lo (setW w2 g (k * sh.n) cs).heap.size) (setW w2 g (k * sh.n) cs) (putL ys (k * sh.n) cs) xs (k + 1) := fun i hi hik => by
  rw [setW_size]
  have hle : (k + 1) * sh.n ≤ xs.length * sh.n := Nat.mul_le_mul_right _ hk
  rw [Nat.add_mul, Nat.one_mul] at hle
  by_cases e : i = k
  · subst e
    refine ⟨cs, hn, sh.keep (setW_kp (Ow.not hg) _ _ _) hu, fun j hj => ?_⟩
    rw [putL_in _ _ _ _ (by omega) hj, List.getElem?_eq_getElem]
  · obtain ⟨cs', h1, h2, h3⟩ := h i hi (by omega)
    refine ⟨cs', h1, sh.keep (setW_kp (Ow.not hg) _ _ _) (sh.mono (Ow.mono (Nat.le_refl _) hb.size) (sh.keep (Ow.below hb) h2)), fun j hj => ?_⟩
    have hle2 : (i + 1) * sh.n ≤ k * sh.n := Nat.mul_le_mul_right _ (by omega)
    rw [Nat.add_mul, Nat.one_mul] at hle2
    rw [putL_out _ _ _ _ (by omega)]
    exact h3 j hj
theorem rowOwn_of {α : Type} {sh : Sh α} {t : TypeId} {w : World} {lo g : Nat} {ys : List Value} {xs : List α} (hg : w.ownsRow lo t sh.n (.slice (some ⟨g, 0, none⟩) xs.length xs.length) xs.length ys) (hl : xs.length ≤ maxLen)
    (h : Laid sh (Ow (lo + 1) w.heap.size) w ys xs xs.length) : RowOwn sh t (Ow lo w.heap.size) w (.slice (some ⟨g, 0, none⟩) xs.length xs.length) xs :=
  ⟨hl, ys, owns_lo (Nat.zero_le _) hg, owns_in hg, h.mono (Ow.mono (by omega) (Nat.le_refl _))⟩

/-- How much a row holds, as the law counts it. -/
def wtRow {α : Type} (f : α → Nat) (xs : List α) : Nat := (xs.map fun x => 1 + f x).sum
theorem wtRow_take {α : Type} (f : α → Nat) (xs : List α) (k : Nat) (h : k < xs.length) : wtRow f (xs.take (k + 1)) = wtRow f (xs.take k) + (1 + f xs[k]) := by
  rw [wtRow, wtRow, List.take_succ_eq_append_getElem h]; simp only [List.map_append, List.sum_append, List.map_cons, List.map_nil, List.sum_cons, List.sum_nil, Nat.add_zero]
theorem wtRow_split {α : Type} (f : α → Nat) (xs : List α) (k : Nat) : wtRow f xs = wtRow f (xs.take k) + wtRow f (xs.drop k) := by
  rw [wtRow, wtRow, wtRow, ← List.sum_append, ← List.map_append, List.take_append_drop]
theorem len_wtRow {α : Type} (f : α → Nat) (xs : List α) : xs.length ≤ wtRow f xs := by
  induction xs with
  | nil => simp [wtRow]
  | cons d ds ih => simp [wtRow] at ih ⊢; omega
theorem wt_wtRow {α : Type} (f : α → Nat) {xs : List α} {x : α} (h : x ∈ xs) : f x ≤ wtRow f xs := by
  induction xs with
  | nil => simp at h
  | cons y xs ih =>
    simp [wtRow] at ih ⊢
    rcases List.mem_cons.1 h with rfl | h
    · omega
    · have := ih h; omega
theorem leftW_seq {a b : Nat} {left : Int} (h : 0 ≤ leftW a left) : leftW b (leftW a left) = leftW (a + b) left := by
  have ha : (a : Int) ≤ left := by
    by_cases h2 : (a : Int) ≤ left
    · exact h2
    · rw [leftW_bad h2] at h; omega
  rw [leftW_good ha]
  by_cases h2 : (b : Int) ≤ left - (a : Int)
  · rw [leftW_good h2, leftW_good (by omega)]; omega
  · rw [leftW_bad h2, leftW_bad (by omega)]
theorem leftW_neg {a b : Nat} {left : Int} (hl : 0 ≤ left) (h : leftW a left < 0) : leftW (a + b) left = -1 := by
  unfold leftW at h ⊢
  split at h
  · omega
  · rw [if_neg (by omega)]
theorem leftW_one {a : Nat} {left : Int} (h : leftW a left < 0) : leftW a left = -1 := by
  unfold leftW at h ⊢
  split at h
  · omega
  · rw [if_neg (by assumption)]
theorem leftW_le {a : Nat} {left : Int} (h : left ≤ 1048576) : leftW a left ≤ 1048576 := by
  unfold leftW; split <;> omega
theorem leftS_eqW (ss : List ByteArray) (left : Int) : leftS ss left = leftW (bulkS ss) left := rfl

/-- A parameter that was put into a block of its own is still there behind a call. -/
theorem boxAt {w w1 : World} {o : Obj} (hb : Below (w.alloc o).heap.size (w.alloc o) w1) : w1.heap[w.heap.size]? = some o := by
  rw [hb.block _ (by simp), vheap_new]
end Go.Proofs.Ytbhedlobiagngaa

/-! Which names come in order one behind the other, the first that can be next always: told as a plain function; no condition. -/
namespace Go.Proofs.Ytbhedlobiagngaa
open Go.RowKit
set_option linter.unusedSimpArgs false
set_option linter.unusedVariables false

/-- Can a name be next, where these are done? -/
def rdyN (ns : List ByteArray) (nx : ByteArray → List ByteArray) (done : List ByteArray) (s : ByteArray) : Prop := s ∉ done ∧ ∀ x ∈ nx s, x ∈ done ∨ x ∉ ns
open Classical in
/-- The first name that can be next. -/
noncomputable def pickN (ns : List ByteArray) (nx : ByteArray → List ByteArray) (done : List ByteArray) : Option ByteArray := ns.find? fun s => decide (rdyN ns nx done s)
/-- What is in order behind so many steps. -/
noncomputable def ordN (ns : List ByteArray) (nx : ByteArray → List ByteArray) : Nat → List ByteArray
  | 0 => []
  | m + 1 => match pickN ns nx (ordN ns nx m) with
    | none => ordN ns nx m
    | some s => ordN ns nx m ++ [s]
theorem ordN_len (ns : List ByteArray) (nx : ByteArray → List ByteArray) (m : Nat) : (ordN ns nx m).length ≤ m := by
  induction m with
  | zero => simp [ordN]
  | succ m ih =>
    unfold ordN
    cases pickN ns nx (ordN ns nx m) with
    | none => simp; omega
    | some s => simp; omega
theorem ordN_stuck {ns : List ByteArray} {nx : ByteArray → List ByteArray} {m : Nat} (h : pickN ns nx (ordN ns nx m) = none) (j : Nat) : ordN ns nx (m + j) = ordN ns nx m := by
  induction j with
  | zero => rfl
  | succ j ih =>
    show ordN ns nx (m + j + 1) = _
    rw [ordN, ih, h]
theorem ordN_step {ns : List ByteArray} {nx : ByteArray → List ByteArray} {m : Nat} {s : ByteArray} (h : pickN ns nx (ordN ns nx m) = some s) : ordN ns nx (m + 1) = ordN ns nx m ++ [s] := by
  rw [ordN, h]
theorem pickN_some {ns : List ByteArray} {nx : ByteArray → List ByteArray} {done : List ByteArray} {k : Nat} (hk : k < ns.length) (hr : rdyN ns nx done ns[k]) (hn : ∀ j (hj : j < ns.length), j < k → ¬ rdyN ns nx done ns[j]) : pickN ns nx done = some ns[k] := by
  unfold pickN
  rw [List.find?_eq_some_iff_getElem]
  exact ⟨by simpa using hr, k, hk, rfl, fun j hj => by simpa using hn j (by omega) hj⟩
theorem pickN_none {ns : List ByteArray} {nx : ByteArray → List ByteArray} {done : List ByteArray} (hn : ∀ j (hj : j < ns.length), ¬ rdyN ns nx done ns[j]) : pickN ns nx done = none := by
  unfold pickN
  rw [List.find?_eq_none]
  intro s hs
  obtain ⟨j, hj, rfl⟩ := List.mem_iff_getElem.1 hs
  simpa using hn j hj
theorem pickN_mem {ns : List ByteArray} {nx : ByteArray → List ByteArray} {done : List ByteArray} {s : ByteArray} (h : pickN ns nx done = some s) : s ∈ ns ∧ s ∉ done := by
  unfold pickN at h
  have h1 := List.find?_some h
  exact ⟨List.mem_of_find?_eq_some h, (by simpa using h1 : rdyN ns nx done s).1⟩
theorem ordN_sub (ns : List ByteArray) (nx : ByteArray → List ByteArray) (m : Nat) : (ordN ns nx m).Nodup ∧ ∀ s ∈ ordN ns nx m, s ∈ ns := by
  induction m with
  | zero => simp [ordN]
  | succ m ih =>
    cases h : pickN ns nx (ordN ns nx m) with
    | none => rw [ordN, h]; exact ih
    | some s =>
      rw [ordN_step h]
      obtain ⟨h1, h2⟩ := pickN_mem h
      refine ⟨?_, fun x hx => ?_⟩
      · rw [List.nodup_append]
        exact ⟨ih.1, by simp, fun a ha b hb => by simp at hb; subst hb; exact fun e => h2 (e ▸ ha)⟩
      · rcases List.mem_append.1 hx with hx | hx
        · exact ih.2 x hx
        · simp at hx; subst hx; exact h1
/-- The answer: all names in order and true, or none and false. -/
noncomputable def ordR (ns : List ByteArray) (nx : ByteArray → List ByteArray) : List ByteArray × Bool := if (ordN ns nx ns.length).length = ns.length then (ordN ns nx ns.length, true) else ([], false)
theorem ordR_full {ns : List ByteArray} {nx : ByteArray → List ByteArray} {out : List ByteArray} (h : out = ordN ns nx out.length) (hl : out.length = ns.length) : ordR ns nx = (out, true) := by
  unfold ordR
  rw [← hl, ← h, if_pos rfl]
theorem ordR_stuck {ns : List ByteArray} {nx : ByteArray → List ByteArray} {out : List ByteArray} (h : out = ordN ns nx out.length) (hl : out.length < ns.length) (hp : pickN ns nx out = none) : ordR ns nx = ([], false) := by
  unfold ordR
  have h1 : pickN ns nx (ordN ns nx out.length) = none := by rw [← h]; exact hp
  have h2 := ordN_stuck h1 (ns.length - out.length)
  rw [show out.length + (ns.length - out.length) = ns.length by omega, ← h] at h2
  rw [h2, if_neg (by omega)]
theorem nodup_sub_len {α : Type} [DecidableEq α] : ∀ (a b : List α), a.Nodup → (∀ x ∈ a, x ∈ b) → a.length ≤ b.length
  | [], b, _, _ => by simp
  | x :: a, b, h, hs => by
    obtain ⟨h1, h2⟩ := List.nodup_cons.1 h
    have hx := hs x (by simp)
    have h3 := nodup_sub_len a (b.erase x) h2 (fun y hy => (List.mem_erase_of_ne (fun e : y = x => h1 (e ▸ hy))).2 (hs y (by simp [hy])))
    rw [List.length_erase_of_mem hx] at h3
    have := List.length_pos_of_mem hx
    simp; omega
/-- Two of one name: never all. -/
theorem ordR_few {ns : List ByteArray} {nx : ByteArray → List ByteArray} (dn : List ByteArray) (hs : ∀ x ∈ ns, x ∈ dn) (hl : dn.length < ns.length) : ordR ns nx = ([], false) := by
  unfold ordR
  obtain ⟨h1, h2⟩ := ordN_sub ns nx ns.length
  have := nodup_sub_len _ dn h1 (fun x hx => hs x (h2 x hx))
  rw [if_neg (by omega)]
end Go.Proofs.Ytbhedlobiagngaa

/-! A graph by numbers, told as plain lists: names are numbered, what is used is laid over them; no condition. -/
namespace Go.Proofs.Ytbhedlobiagngaa
open Go.RowKit
set_option linter.unusedSimpArgs false
set_option linter.unusedVariables false

/-- The place of a name, or how many there are. -/
def posN (N : List ByteArray) (s : ByteArray) : Nat := N.findIdx fun d => decide (d = s)
theorem posN_lt {N : List ByteArray} {s : ByteArray} : posN N s < N.length ↔ s ∈ N := by
  unfold posN
  rw [List.findIdx_lt_length]
  exact ⟨fun ⟨x, hx, h⟩ => by have := of_decide_eq_true h; subst this; exact hx, fun h => ⟨s, h, by simp⟩⟩
theorem posN_get {N : List ByteArray} {s : ByteArray} (h : posN N s < N.length) : N[posN N s] = s := by
  have := List.findIdx_getElem (xs := N) (p := fun d => decide (d = s)) (w := h)
  exact of_decide_eq_true this
theorem posN_le (N : List ByteArray) (s : ByteArray) : posN N s ≤ N.length := List.findIdx_le_length
theorem posN_not {N : List ByteArray} {s : ByteArray} (h : s ∉ N) : posN N s = N.length := by
  have h1 := posN_le N s
  have h2 : ¬ posN N s < N.length := fun h3 => h (posN_lt.1 h3)
  omega
theorem nodup_inj {N : List ByteArray} (hn : N.Nodup) {i j : Nat} (hi : i < N.length) (hj : j < N.length) (h : N[i] = N[j]) : i = j := by
  rw [List.nodup_iff_pairwise_ne, List.pairwise_iff_getElem] at hn
  rcases Nat.lt_trichotomy i j with h1 | h1 | h1
  · exact absurd h (hn i j hi hj h1)
  · exact h1
  · exact absurd h.symm (hn j i hj hi h1)
theorem posN_at {N : List ByteArray} (hn : N.Nodup) {i : Nat} (hi : i < N.length) : posN N N[i] = i := by
  have h : posN N N[i] < N.length := posN_lt.2 (List.getElem_mem hi)
  exact nodup_inj hn h hi (posN_get h)
theorem posN_app {N M : List ByteArray} {s : ByteArray} (h : s ∈ N) : posN (N ++ M) s = posN N s := by
  have h1 := posN_lt.2 h
  unfold posN at *
  rw [List.findIdx_append, if_pos h1]
/-- A graph by numbers: names, of each what it uses, and by what it is used. -/
structure GD where
  N : List ByteArray
  U : List (List Nat)
  B : List (List Nat)
open Classical in
/-- A name is numbered. -/
noncomputable def GD.add (g : GD) (s : ByteArray) : GD := if s ∈ g.N then g else ⟨g.N ++ [s], g.U ++ [[]], g.B ++ [[]]⟩
/-- What stands at a place. -/
def rowAt (L : List (List Nat)) (i : Nat) : List Nat := (L[i]?).getD []
/-- One more at a place. -/
def putAt (L : List (List Nat)) (i x : Nat) : List (List Nat) := L.set i (rowAt L i ++ [x])
theorem putAt_len (L : List (List Nat)) (i x : Nat) : (putAt L i x).length = L.length := by unfold putAt; simp
theorem rowAt_put (L : List (List Nat)) (i x j : Nat) (hi : i < L.length) : rowAt (putAt L i x) j = if i = j then rowAt L j ++ [x] else rowAt L j := by
  unfold rowAt putAt
  by_cases h : i = j
  · subst h; simp [hi, rowAt]
  · simp [List.getElem?_set, h]
theorem rowAt_app (L : List (List Nat)) (j : Nat) : rowAt (L ++ [[]]) j = rowAt L j := by
  unfold rowAt
  rcases Nat.lt_trichotomy j L.length with h | h | h
  · rw [List.getElem?_append_left h]
  · subst h; simp
  · rw [List.getElem?_eq_none (by simp; omega), List.getElem?_eq_none (by omega)]
/-- One uses another. -/
def GD.edge (g : GD) (a b : Nat) : GD := ⟨g.N, putAt g.U a b, putAt g.B b a⟩
/-- One more that is used. -/
noncomputable def GD.use (a : Nat) (g : GD) (o : ByteArray) : GD := (g.add o).edge a (posN (g.add o).N o)
/-- All that a pack uses. -/
noncomputable def GD.uses (g : GD) (s : ByteArray) (os : List ByteArray) : GD := os.foldl (GD.use (posN (g.add s).N s)) (g.add s)
/-- Names and lists are as many, no name is there twice, and numbers are numbers of names; what uses is told as often as it is used. -/
structure GD.ok (g : GD) : Prop where
  nd : g.N.Nodup
  u : g.U.length = g.N.length
  b : g.B.length = g.N.length
  lt : ∀ i, ∀ t ∈ rowAt g.U i, t < g.N.length
  cnt : ∀ i t, (rowAt g.U i).count t = (rowAt g.B t).count i
theorem rowAt_out {L : List (List Nat)} {i : Nat} (h : L.length ≤ i) : rowAt L i = [] := by unfold rowAt; rw [List.getElem?_eq_none h]; rfl
theorem GD.ok.blt {g : GD} (h : g.ok) {t i : Nat} (hi : i ∈ rowAt g.B t) : i < g.N.length := by
  have h1 := List.count_pos_iff.2 hi
  rw [← h.cnt] at h1
  refine Classical.byContradiction fun hn => ?_
  rw [rowAt_out (by rw [h.u]; omega)] at h1
  simp at h1
theorem GD.ok.iff {g : GD} (h : g.ok) {t i : Nat} : i ∈ rowAt g.B t ↔ t ∈ rowAt g.U i := by
  rw [← List.count_pos_iff, ← List.count_pos_iff, h.cnt]
theorem GD.add_N (g : GD) (s : ByteArray) : ∃ M, (g.add s).N = g.N ++ M := by
  unfold GD.add
  split
  · exact ⟨[], by simp⟩
  · exact ⟨[s], rfl⟩
theorem GD.add_mem (g : GD) (s : ByteArray) : s ∈ (g.add s).N := by
  unfold GD.add
  split
  · assumption
  · simp
theorem GD.add_row (g : GD) (s : ByteArray) (i : Nat) : rowAt (g.add s).U i = rowAt g.U i ∧ rowAt (g.add s).B i = rowAt g.B i := by
  unfold GD.add
  split
  · exact ⟨rfl, rfl⟩
  · exact ⟨rowAt_app _ _, rowAt_app _ _⟩
theorem GD.ok.add {g : GD} (h : g.ok) (s : ByteArray) : (g.add s).ok := by
  have hr := GD.add_row g s
  obtain ⟨M, hM⟩ := GD.add_N g s
  refine ⟨?_, ?_, ?_, fun i t ht => ?_, fun i t => ?_⟩
  · unfold GD.add
    split
    · exact h.nd
    · rename_i hs
      rw [List.nodup_append]
      exact ⟨h.nd, by simp, fun a ha b hb e => by simp at hb; subst hb; subst e; exact hs ha⟩
  · unfold GD.add; split
    · exact h.u
    · simp [h.u]
  · unfold GD.add; split
    · exact h.b
    · simp [h.b]
  · rw [(hr i).1] at ht
    have := h.lt i t ht
    rw [hM, List.length_append]; omega
  · rw [(hr i).1, (hr t).2]; exact h.cnt i t
theorem GD.ok.edge {g : GD} (h : g.ok) {a b : Nat} (ha : a < g.N.length) (hb : b < g.N.length) : (g.edge a b).ok := by
  refine ⟨h.nd, by unfold GD.edge; rw [putAt_len]; exact h.u, by unfold GD.edge; rw [putAt_len]; exact h.b, fun i t ht => ?_, fun i t => ?_⟩
  · unfold GD.edge at ht
    rw [rowAt_put _ _ _ _ (by rw [h.u]; exact ha)] at ht
    by_cases e : a = i
    · rw [if_pos e] at ht
      rcases List.mem_append.1 ht with ht | ht
      · exact h.lt i t ht
      · simp at ht; subst ht; exact hb
    · rw [if_neg e] at ht; exact h.lt i t ht
  · unfold GD.edge
    rw [rowAt_put _ _ _ _ (by rw [h.u]; exact ha), rowAt_put _ _ _ _ (by rw [h.b]; exact hb)]
    have hc := h.cnt i t
    by_cases e1 : a = i <;> by_cases e2 : b = t
    · subst e1; subst e2; simp [hc]
    · rw [if_pos e1, if_neg e2, List.count_append, hc]
      have : List.count t [b] = 0 := by rw [List.count_eq_zero]; simp; exact fun e => e2 e.symm
      omega
    · rw [if_neg e1, if_pos e2, List.count_append, hc]
      have : List.count i [a] = 0 := by rw [List.count_eq_zero]; simp; exact fun e => e1 e.symm
      omega
    · rw [if_neg e1, if_neg e2]; exact hc
theorem GD.ok.use {g : GD} (h : g.ok) {a : Nat} (ha : a < g.N.length) (o : ByteArray) : (GD.use a g o).ok ∧ a < (GD.use a g o).N.length := by
  obtain ⟨M, hM⟩ := GD.add_N g o
  have h1 : a < (g.add o).N.length := by rw [hM, List.length_append]; omega
  exact ⟨(h.add o).edge h1 (posN_lt.2 (GD.add_mem g o)), h1⟩
/-- The names by which numbers go. -/
def nmOf (N : List ByteArray) (i : Nat) : ByteArray := (N[i]?).getD ⟨#[]⟩
theorem nmOf_app {N M : List ByteArray} {i : Nat} (h : i < N.length) : nmOf (N ++ M) i = nmOf N i := by unfold nmOf; rw [List.getElem?_append_left h]
theorem nmOf_lt {N : List ByteArray} {i : Nat} (h : i < N.length) : nmOf N i = N[i] := by unfold nmOf; simp [h]
theorem nmOf_pos {N : List ByteArray} {s : ByteArray} (h : s ∈ N) : nmOf N (posN N s) = s := by
  have := posN_lt.2 h
  rw [nmOf_lt this, posN_get this]
theorem map_nm_app {N M : List ByteArray} {l : List Nat} (h : ∀ t ∈ l, t < N.length) : l.map (nmOf (N ++ M)) = l.map (nmOf N) := List.map_congr_left fun t ht => nmOf_app (h t ht)
/-- A fold over what a pack uses: names are added behind, and its own list grows by what it uses. -/
theorem GD.fold_use (a : Nat) (os : List ByteArray) : ∀ (g : GD), g.ok → a < g.N.length → (os.foldl (GD.use a) g).ok ∧ (∃ M, (os.foldl (GD.use a) g).N = g.N ++ M) ∧ (∀ i, (rowAt (os.foldl (GD.use a) g).U i).map (nmOf (os.foldl (GD.use a) g).N) = (rowAt g.U i).map (nmOf g.N) ++ (if a = i then os else [])) ∧ (∀ x ∈ (os.foldl (GD.use a) g).N, x ∈ g.N ∨ x ∈ os) := by
  induction os with
  | nil => intro g h ha; exact ⟨h, ⟨[], by simp⟩, fun i => by simp, fun x hx => .inl hx⟩
  | cons o os ih =>
    intro g h ha
    obtain ⟨h1, h2⟩ := h.use ha o
    obtain ⟨i1, ⟨M, i2⟩, i3, i4⟩ := ih (GD.use a g o) h1 h2
    obtain ⟨M1, hM1⟩ := GD.add_N g o
    have hN : (GD.use a g o).N = g.N ++ M1 := hM1
    have ha1 : a < (g.add o).U.length := by rw [(h.add o).u, hM1, List.length_append]; omega
    refine ⟨i1, ⟨M1 ++ M, by rw [List.foldl_cons, i2, hN, List.append_assoc]⟩, fun i => ?_, fun x hx => ?_⟩
    · rw [List.foldl_cons, i3 i]
      have e1 : rowAt (GD.use a g o).U i = if a = i then rowAt g.U i ++ [posN (g.add o).N o] else rowAt g.U i := by
        show rowAt (putAt (g.add o).U a _) i = _
        rw [rowAt_put _ _ _ _ ha1, (GD.add_row g o i).1]
      have e2 : (rowAt g.U i).map (nmOf (g.N ++ M1)) = (rowAt g.U i).map (nmOf g.N) := map_nm_app (h.lt i)
      rw [e1, hN]
      by_cases e : a = i
      · rw [if_pos e, if_pos e, if_pos e, List.map_append, e2, List.append_assoc]
        have e3 : nmOf (g.N ++ M1) (posN (g.add o).N o) = o := by rw [← hM1]; exact nmOf_pos (GD.add_mem g o)
        simp [e3]
      · rw [if_neg e, if_neg e, if_neg e, e2]
    · rcases i4 x hx with hx | hx
      · have hx2 : x ∈ (g.add o).N := hx
        unfold GD.add at hx2
        split at hx2
        · exact .inl hx2
        · rcases List.mem_append.1 hx2 with h3 | h3
          · exact .inl h3
          · simp at h3; subst h3; exact .inr (by simp)
      · exact .inr (by simp [hx])
end Go.Proofs.Ytbhedlobiagngaa

/-! Which numbers come in order one behind the other, and what is counted meanwhile: told as plain functions; no condition. -/
namespace Go.Proofs.Ytbhedlobiagngaa
open Go.RowKit
set_option linter.unusedSimpArgs false
set_option linter.unusedVariables false

/-- How many of what a number leads to are packs that are not out yet. -/
def cntI (own : Nat) (U : List (List Nat)) (out : List Nat) (i : Nat) : Nat := ((rowAt U i).filter fun t => decide (t < own) && !out.contains t).length
/-- The first number that can be next. -/
def pickI (own : Nat) (U : List (List Nat)) (out : List Nat) : Option Nat := (List.range own).find? fun i => !out.contains i && cntI own U out i == 0
/-- What is in order behind so many steps, by numbers. -/
def ordI (own : Nat) (U : List (List Nat)) : Nat → List Nat
  | 0 => []
  | m + 1 => match pickI own U (ordI own U m) with
    | none => ordI own U m
    | some i => ordI own U m ++ [i]
theorem ordI_step {own : Nat} {U : List (List Nat)} {m i : Nat} (h : pickI own U (ordI own U m) = some i) : ordI own U (m + 1) = ordI own U m ++ [i] := by rw [ordI, h]
theorem pickI_some {own : Nat} {U : List (List Nat)} {out : List Nat} {i : Nat} (hi : i < own) (ho : i ∉ out) (hc : cntI own U out i = 0) (hn : ∀ j, j < i → j ∉ out → cntI own U out j ≠ 0) : pickI own U out = some i := by
  unfold pickI
  rw [List.find?_eq_some_iff_getElem]
  refine ⟨by simp [ho, hc], i, by simpa using hi, by simp, fun j hj => ?_⟩
  simp only [List.getElem_range]
  by_cases h : j ∈ out
  · simp [h]
  · simp [h, hn j hj h]
theorem pickI_none {own : Nat} {U : List (List Nat)} {out : List Nat} (hn : ∀ j, j < own → j ∉ out → cntI own U out j ≠ 0) : pickI own U out = none := by
  unfold pickI
  rw [List.find?_eq_none]
  intro j hj
  have hj2 := List.mem_range.1 hj
  by_cases h : j ∈ out
  · simp [h]
  · simp [h, hn j hj2 h]
theorem cntI_zero {own : Nat} {U : List (List Nat)} {out : List Nat} {i : Nat} : cntI own U out i = 0 ↔ ∀ t ∈ rowAt U i, t < own → t ∈ out := by
  unfold cntI
  rw [List.length_eq_zero_iff, List.filter_eq_nil_iff]
  constructor
  · intro h t ht hl
    have := h t ht
    simp [hl] at this
    exact this
  · intro h t ht hc
    simp at hc
    exact hc.2 (h t ht hc.1)
theorem cntI_snoc (own : Nat) (U : List (List Nat)) (out : List Nat) (at_ i : Nat) (ha : at_ < own) (ho : at_ ∉ out) : cntI own U out i = cntI own U (out ++ [at_]) i + (rowAt U i).count at_ := by
  unfold cntI
  induction rowAt U i with
  | nil => rfl
  | cons t l ih =>
    by_cases e : t = at_
    · subst e
      rw [List.filter_cons_of_pos (by simp [ha, ho]), List.filter_cons_of_neg (by simp), List.count_cons_self, List.length_cons, ih]
      omega
    · rw [List.count_cons_of_ne e]
      by_cases h : (decide (t < own) && !out.contains t) = true
      · have h2 : (decide (t < own) && !(out ++ [at_]).contains t) = true := by simp at h ⊢; exact ⟨h.1, h.2, e⟩
        rw [List.filter_cons, List.filter_cons, if_pos h, if_pos h2, List.length_cons, List.length_cons, ih]
        omega
      · have h2 : ¬ (decide (t < own) && !(out ++ [at_]).contains t) = true := by simp at h ⊢; exact fun h3 h4 => absurd (h h3) h4
        rw [List.filter_cons, List.filter_cons, if_neg h, if_neg h2, ih]
/-- What is counted while the order is made. -/
structure OrdInv (own : Nat) (U : List (List Nat)) (out : List Nat) (ws : List Int) : Prop where
  nd : out.Nodup
  lt : ∀ i ∈ out, i < own
  len : ws.length = own
  wait : ∀ i, i < own → i ∉ out → ws[i]? = some (cntI own U out i : Int)
  done : ∀ i ∈ out, ws[i]? = some (-1) ∧ cntI own U out i = 0
  proc : out = ordI own U out.length
/-- One more is out: each that uses it waits for one less. -/
theorem OrdInv.next {own at_ : Nat} {U : List (List Nat)} {out : List Nat} {ws ws' : List Int} {L : List Nat} (h : OrdInv own U out ws) (ha : at_ < own) (h0 : ws[at_]? = some 0) (hn : ∀ j, j < at_ → j ∉ out → ws[j]? ≠ some 0)
    (hl : ws'.length = own) (hL : ∀ i, i < own → L.count i = (rowAt U i).count at_) (hw : ∀ i, i < own → ws'[i]? = ((ws.set at_ (-1))[i]?).map fun z => z - (L.count i : Int)) : OrdInv own U (out ++ [at_]) ws' := by
  have ho : at_ ∉ out := fun hm => by rw [(h.done at_ hm).1] at h0; simp at h0
  have hc : cntI own U out at_ = 0 := by have := h.wait at_ ha ho; rw [h0] at this; have := Option.some.inj this; omega
  have hcz : ∀ i ∈ out ++ [at_], cntI own U out i = 0 := fun i hi => by
    rcases List.mem_append.1 hi with hi | hi
    · exact (h.done i hi).2
    · simp at hi; subst hi; exact hc
  have hct : ∀ i ∈ out ++ [at_], (rowAt U i).count at_ = 0 ∧ cntI own U (out ++ [at_]) i = 0 := fun i hi => by
    have h1 := cntI_snoc own U out at_ i ha ho
    rw [hcz i hi] at h1
    omega
  refine ⟨?_, fun i hi => ?_, hl, fun i hi hio => ?_, fun i hi => ?_, ?_⟩
  · rw [List.nodup_append]
    exact ⟨h.nd, by simp, fun a ha9 b hb e => by simp at hb; subst hb; subst e; exact ho ha9⟩
  · rcases List.mem_append.1 hi with hi | hi
    · exact h.lt i hi
    · simp at hi; subst hi; exact ha
  · have hia : i ≠ at_ := fun e => hio (by simp [e])
    have hio2 : i ∉ out := fun e => hio (by simp [e])
    rw [hw i hi, List.getElem?_set_ne (fun e => hia e.symm), h.wait i hi hio2, hL i hi, cntI_snoc own U out at_ i ha ho]
    simp only [Option.map_some, Option.some.injEq]
    omega
  · obtain ⟨h1, h2⟩ := hct i hi
    have hlt : i < own := by
      rcases List.mem_append.1 hi with hi | hi
      · exact h.lt i hi
      · simp at hi; subst hi; exact ha
    refine ⟨?_, h2⟩
    rw [hw i hlt, hL i hlt, h1]
    rcases List.mem_append.1 hi with hi | hi
    · have hia : i ≠ at_ := fun e => ho (e ▸ hi)
      rw [List.getElem?_set_ne (fun e => hia e.symm), (h.done i hi).1]
      rfl
    · simp at hi; subst hi
      rw [List.getElem?_set_self (by rw [h.len]; exact ha)]
      rfl
  · have hp : pickI own U (ordI own U out.length) = some at_ := by
      rw [← h.proc]
      refine pickI_some ha ho hc fun j hj hjo hcz => ?_
      have h3 := h.wait j (by omega) hjo
      rw [hcz] at h3
      exact hn j hj hjo h3
    rw [List.length_append, List.length_singleton, ordI_step hp, ← h.proc]
theorem OrdInv.start {own : Nat} {U : List (List Nat)} {ws : List Int} (hl : ws.length = own) (hw : ∀ i, i < own → ws[i]? = some (cntI own U [] i : Int)) : OrdInv own U [] ws :=
  ⟨List.nodup_nil, fun i hi => (nomatch hi), hl, fun i hi _ => hw i hi, fun i hi => (nomatch hi), rfl⟩
theorem OrdInv.few {own : Nat} {U : List (List Nat)} {out : List Nat} {ws : List Int} (h : OrdInv own U out ws) : out.length ≤ own := by
  have := nodup_sub_len out (List.range own) h.nd (fun i hi => List.mem_range.2 (h.lt i hi))
  simpa using this
theorem find_congr {α : Type} {p q : α → Bool} : ∀ {l : List α}, (∀ x ∈ l, p x = q x) → l.find? p = l.find? q
  | [], _ => rfl
  | x :: l, h => by rw [List.find?_cons, List.find?_cons, h x (by simp), find_congr fun y hy => h y (by simp [hy])]
/-- Numbers and names come in the same order. -/
theorem ordI_names (own : Nat) (U : List (List Nat)) (ns : List ByteArray) (nx : ByteArray → List ByteArray) (f : Nat → ByteArray) (hns : ns = (List.range own).map f)
    (hr : ∀ out, (∀ i ∈ out, i < own) → ∀ i, i < own → (rdyN ns nx (out.map f) (f i) ↔ i ∉ out ∧ cntI own U out i = 0)) : ∀ m, ordN ns nx m = (ordI own U m).map f ∧ ∀ i ∈ ordI own U m, i < own := by
  have hp : ∀ out, (∀ i ∈ out, i < own) → pickN ns nx (out.map f) = (pickI own U out).map f := fun out ho => by
    unfold pickN pickI
    rw [hns, List.find?_map]
    congr 1
    refine find_congr fun i hi => ?_
    have hi2 := List.mem_range.1 hi
    simp only [Function.comp_apply]
    rw [Bool.eq_iff_iff]
    have h1 := hr out ho i hi2
    rw [hns] at h1
    simp only [decide_eq_true_eq, Bool.and_eq_true, Bool.not_eq_true', beq_iff_eq]
    rw [h1]
    simp
  intro m
  induction m with
  | zero => exact ⟨rfl, fun i hi => by cases hi⟩
  | succ m ih =>
    have h1 := hp _ ih.2
    cases hq : pickI own U (ordI own U m) with
    | none =>
      rw [hq] at h1
      rw [ordI, hq, ordN, ih.1, h1]
      exact ⟨rfl, ih.2⟩
    | some i =>
      rw [hq] at h1
      have hi : i < own := by unfold pickI at hq; exact List.mem_range.1 (List.mem_of_find?_eq_some hq)
      rw [ordI, hq, ordN, ih.1, h1]
      refine ⟨by simp, fun j hj => ?_⟩
      rcases List.mem_append.1 hj with hj | hj
      · exact ih.2 j hj
      · simp at hj; subst hj; exact hi
end Go.Proofs.Ytbhedlobiagngaa

/-! The graph of packs, told as plain lists: what its names, and what its numbers lead to, are; no condition. -/
namespace Go.Proofs.Ytbhedlobiagngaa
open Go.RowKit
set_option linter.unusedSimpArgs false
set_option linter.unusedVariables false

/-- Packs as names and what they use. -/
abbrev PL := List (ByteArray × List ByteArray)
/-- All that the packs of one name use. -/
def flatU (P : PL) (s : ByteArray) : List ByteArray := (P.filter fun d => decide (d.1 = s)).flatMap (·.2)
theorem flatU_snoc (P : PL) (d : ByteArray × List ByteArray) (s : ByteArray) : flatU (P ++ [d]) s = flatU P s ++ (if d.1 = s then d.2 else []) := by
  unfold flatU
  rw [List.filter_append, List.flatMap_append]
  by_cases e : d.1 = s
  · rw [if_pos e, List.filter_cons_of_pos (by simpa using e)]; simp
  · rw [if_neg e, List.filter_cons_of_neg (by simpa using e)]; simp
theorem flatU_none {P : PL} {s : ByteArray} (h : s ∉ P.map (·.1)) : flatU P s = [] := by
  unfold flatU
  rw [List.filter_eq_nil_iff.2]
  · rfl
  · intro d hd hs
    exact h (List.mem_map.2 ⟨d, hd, of_decide_eq_true hs⟩)
theorem mem_flatU {P : PL} {s x : ByteArray} : x ∈ flatU P s ↔ ∃ d ∈ P, d.1 = s ∧ x ∈ d.2 := by
  unfold flatU
  rw [List.mem_flatMap]
  constructor
  · rintro ⟨d, hd, hx⟩
    obtain ⟨h1, h2⟩ := List.mem_filter.1 hd
    exact ⟨d, h1, of_decide_eq_true h2, hx⟩
  · rintro ⟨d, h1, h2, h3⟩
    exact ⟨d, List.mem_filter.2 ⟨h1, by simpa using h2⟩, h3⟩
/-- Names are numbered. -/
noncomputable def gNames (ns : List ByteArray) : GD := ns.foldl GD.add ⟨[], [], []⟩
theorem gNames_snoc (ns : List ByteArray) (s : ByteArray) : gNames (ns ++ [s]) = (gNames ns).add s := by unfold gNames; rw [List.foldl_append]; rfl
theorem nil_ok : (⟨[], [], []⟩ : GD).ok := ⟨List.nodup_nil, rfl, rfl, fun i t ht => by simp [rowAt] at ht, fun i t => by simp [rowAt]⟩
theorem rev_ind {α : Type} {p : List α → Prop} (h0 : p []) (h1 : ∀ l a, p l → p (l ++ [a])) (l : List α) : p l := by
  rw [← List.reverse_reverse l]
  induction l.reverse with
  | nil => exact h0
  | cons a l ih => rw [List.reverse_cons]; exact h1 _ _ ih
theorem gNames_ok (ns : List ByteArray) : (gNames ns).ok ∧ (∀ x, x ∈ (gNames ns).N ↔ x ∈ ns) ∧ ((gNames ns).N = ns ∨ (gNames ns).N.length < ns.length) ∧ ∀ i, rowAt (gNames ns).U i = [] := by
  refine rev_ind (p := fun ns => (gNames ns).ok ∧ (∀ x, x ∈ (gNames ns).N ↔ x ∈ ns) ∧ ((gNames ns).N = ns ∨ (gNames ns).N.length < ns.length) ∧ ∀ i, rowAt (gNames ns).U i = []) ⟨nil_ok, fun x => Iff.rfl, .inl rfl, fun i => by simp [gNames, rowAt]⟩ (fun l a ⟨h1, h2, h3, h4⟩ => ?_) ns
  rw [gNames_snoc]
  refine ⟨h1.add a, fun x => ?_, ?_, fun i => by rw [(GD.add_row _ _ _).1]; exact h4 i⟩
  · unfold GD.add
    split
    · rename_i ha
      rw [h2 x, List.mem_append]
      have ha2 := (h2 a).1 ha
      exact ⟨.inl, fun h => h.elim id fun e => by simp at e; subst e; exact ha2⟩
    · rw [List.mem_append, List.mem_append, h2 x]
  · unfold GD.add
    split
    · rename_i ha
      right
      rcases h3 with h3 | h3
      · rw [h3, List.length_append]; simp
      · rw [List.length_append]; omega
    · rcases h3 with h3 | h3
      · left; show (gNames l).N ++ [a] = _; rw [h3]
      · right; show ((gNames l).N ++ [a]).length < _; rw [List.length_append, List.length_append]; omega
/-- What packs use is laid over their names. -/
noncomputable def gUses (g : GD) (P : PL) : GD := P.foldl (fun g d => g.uses d.1 d.2) g
theorem gUses_snoc (g : GD) (P : PL) (d : ByteArray × List ByteArray) : gUses g (P ++ [d]) = (gUses g P).uses d.1 d.2 := by unfold gUses; rw [List.foldl_append]; rfl
theorem GD.add_id {g : GD} {s : ByteArray} (h : s ∈ g.N) : g.add s = g := by unfold GD.add; rw [if_pos h]
theorem gUses_ok (g : GD) (hg : g.ok) (h0 : ∀ i, rowAt g.U i = []) (P : PL) (hP : ∀ d ∈ P, d.1 ∈ g.N) :
    (gUses g P).ok ∧ (∃ M, (gUses g P).N = g.N ++ M) ∧ (∀ i, i < (gUses g P).N.length → (rowAt (gUses g P).U i).map (nmOf (gUses g P).N) = flatU P (nmOf (gUses g P).N i)) ∧ (∀ i, ∀ t ∈ rowAt (gUses g P).U i, i < g.N.length) ∧ (∀ x ∈ (gUses g P).N, x ∈ g.N ∨ ∃ d ∈ P, x ∈ d.2) := by
  revert hP
  refine rev_ind (p := fun P => (∀ d ∈ P, d.1 ∈ g.N) → (gUses g P).ok ∧ (∃ M, (gUses g P).N = g.N ++ M) ∧ (∀ i, i < (gUses g P).N.length → (rowAt (gUses g P).U i).map (nmOf (gUses g P).N) = flatU P (nmOf (gUses g P).N i)) ∧ (∀ i, ∀ t ∈ rowAt (gUses g P).U i, i < g.N.length) ∧ (∀ x ∈ (gUses g P).N, x ∈ g.N ∨ ∃ d ∈ P, x ∈ d.2)) (fun _ => ⟨hg, ⟨[], by simp [gUses]⟩, fun i _ => by simp [gUses, h0 i, flatU], fun i t ht => by simp [gUses, h0 i] at ht, fun x hx => .inl hx⟩) (fun P d ih hP => ?_) P
  obtain ⟨i1, ⟨M, i2⟩, i3, i4, i5⟩ := ih (fun d hd => hP d (by simp [hd]))
  have hd := hP d (by simp)
  rw [gUses_snoc]
  obtain ⟨G, hG⟩ : ∃ G, G = gUses g P := ⟨_, rfl⟩
  rw [← hG] at i1 i2 i3 i4 i5 ⊢
  have hd1 : d.1 ∈ G.N := by rw [i2]; exact List.mem_append.2 (.inl hd)
  unfold GD.uses
  rw [GD.add_id hd1]
  obtain ⟨a, ha⟩ : ∃ a, a = posN G.N d.1 := ⟨_, rfl⟩
  rw [← ha]
  have halt : a < G.N.length := by rw [ha]; exact posN_lt.2 hd1
  have haown : a < g.N.length := by rw [ha, i2, posN_app hd]; exact posN_lt.2 hd
  obtain ⟨j1, ⟨M2, j2⟩, j3, j4⟩ := GD.fold_use a d.2 G i1 halt
  refine ⟨j1, ⟨M ++ M2, by rw [j2, i2, List.append_assoc]⟩, fun i hi => ?_, fun i t ht => ?_, fun x hx => ?_⟩
  · rw [j3 i, flatU_snoc]
    by_cases hiG : i < G.N.length
    · rw [i3 i hiG]
      have e : nmOf (List.foldl (GD.use a) G d.2).N i = nmOf G.N i := by rw [j2]; exact nmOf_app hiG
      rw [e]
      have e2 : (d.1 = nmOf G.N i) ↔ a = i := by
        rw [nmOf_lt hiG]
        constructor
        · intro h; rw [ha, h]; exact posN_at i1.nd hiG
        · intro h; subst h; subst ha; exact (posN_get halt).symm
      by_cases ea : a = i
      · rw [if_pos ea, if_pos (e2.2 ea)]
      · rw [if_neg ea, if_neg (fun h => ea (e2.1 h))]
    · have e1 : rowAt G.U i = [] := rowAt_out (by rw [i1.u]; omega)
      have hnn : ∀ x ∈ g.N, nmOf (List.foldl (GD.use a) G d.2).N i ≠ x := by
        intro x hx e
        have hx2 : x ∈ G.N := by rw [i2]; exact List.mem_append.2 (.inl hx)
        have h1 := posN_lt.2 hx2
        have h2 : nmOf (List.foldl (GD.use a) G d.2).N (posN G.N x) = x := by rw [j2, nmOf_app h1]; exact nmOf_pos hx2
        rw [nmOf_lt hi] at e
        have h3 : posN G.N x < (List.foldl (GD.use a) G d.2).N.length := by rw [j2, List.length_append]; omega
        rw [nmOf_lt h3] at h2
        have := nodup_inj j1.nd hi h3 (e.trans h2.symm)
        omega
      rw [e1, if_neg (by omega), if_neg (fun h => hnn d.1 hd h.symm), flatU_none]
      · rfl
      · intro hm
        obtain ⟨d', hd', e⟩ := List.mem_map.1 hm
        exact hnn d'.1 (hP d' (by simp [hd'])) e.symm
  · by_cases ea : a = i
    · omega
    · have h1 := j3 i
      rw [if_neg ea, List.append_nil] at h1
      have h2 : (rowAt (List.foldl (GD.use a) G d.2).U i).length = (rowAt G.U i).length := by have := congrArg List.length h1; simpa using this
      have h3 : rowAt G.U i ≠ [] := fun e => by rw [e] at h2; have := List.length_pos_of_mem ht; simp at h2; rw [h2] at this; simp at this
      obtain ⟨t', ht'⟩ := List.exists_mem_of_ne_nil _ h3
      exact i4 i t' ht'
  · rcases j4 x hx with h | h
    · rcases i5 x h with h | ⟨d', h1, h2⟩
      · exact .inl h
      · exact .inr ⟨d', by simp [h1], h2⟩
    · exact .inr ⟨d, by simp, h⟩
/-- The graph of packs. -/
noncomputable def gOf (P : PL) : GD := gUses (gNames (P.map (·.1))) P
/-- How many names are those of packs. -/
noncomputable def ownOf (P : PL) : Nat := (gNames (P.map (·.1))).N.length
theorem gOf_ok (P : PL) : (gOf P).ok ∧ (∃ M, (gOf P).N = (gNames (P.map (·.1))).N ++ M) ∧ (∀ i, i < (gOf P).N.length → (rowAt (gOf P).U i).map (nmOf (gOf P).N) = flatU P (nmOf (gOf P).N i)) ∧ (∀ i, ∀ t ∈ rowAt (gOf P).U i, i < ownOf P) ∧ (∀ x ∈ (gOf P).N, x ∈ P.map (·.1) ∨ ∃ d ∈ P, x ∈ d.2) := by
  obtain ⟨h1, h2, h3, h4⟩ := gNames_ok (P.map (·.1))
  obtain ⟨k1, k2, k3, k4, k5⟩ := gUses_ok _ h1 h4 P (fun d hd => (h2 _).2 (List.mem_map.2 ⟨d, hd, rfl⟩))
  exact ⟨k1, k2, k3, k4, fun x hx => (k5 x hx).imp_left fun h => (h2 x).1 h⟩
/-- Who uses whom, by numbers and by names. -/
theorem gOf_edge (P : PL) {i t : Nat} (hi : i < (gOf P).N.length) (ht : t < (gOf P).N.length) : t ∈ rowAt (gOf P).U i ↔ ∃ d ∈ P, d.1 = (gOf P).N[i] ∧ (gOf P).N[t] ∈ d.2 := by
  obtain ⟨k1, k2, k3, k4, k5⟩ := gOf_ok P
  have h := k3 i hi
  rw [nmOf_lt hi] at h
  rw [← mem_flatU, ← h, List.mem_map]
  constructor
  · intro hm; exact ⟨t, hm, nmOf_lt ht⟩
  · rintro ⟨t', hm, e⟩
    have ht' := k1.lt i t' hm
    rw [nmOf_lt ht'] at e
    have := nodup_inj k1.nd ht' ht e
    subst this
    exact hm
end Go.Proofs.Ytbhedlobiagngaa

/-! Numbers in a map by names: what the map in a block holds, told as a function from names; looked up, put: laws for the walks; no condition but that a name is no longer than an int can count. -/
namespace Go.Proofs.Ytbhedlobiagngaa
open Go.RowKit Go.Maps
set_option linter.unusedSimpArgs false
set_option linter.unusedVariables false

theorem keyedI : Keyed Try.prog 9 := string_keyed Try.underlying9
theorem zeroIv (w : World) : (zeroValue 3).run Try.prog w = .ok (.int .i64 0) w := by kernel_rfl
def klI (p : ByteArray) : Lit := .string p.data.toList
theorem klI_inj {p q : ByteArray} (h : klI p = klI q) : p = q := by
  simp only [klI, Lit.string.injEq] at h
  exact ByteArray.ext (Array.toList_inj.1 h)
theorem klI_key (p : ByteArray) : WideAt.IsKeyLit (klI p) := trivial
/-- An element as it stands. -/
def selfI (v : Value) : Option (DataW Value × List MemPlace) := some (.held v, [])

/-- Block b is a map of s entries (room for n was counted): what it holds at each name is m. -/
def MapI (w : World) (b n s : Nat) (m : ByteArray → Option Value) : Prop :=
  ∃ D : DataW Value, w.ownsMap Try.prog 9 selfI b n D ∧ Maps.size D = s ∧ ∀ p, Maps.has D (klI p) = (m p).isSome ∧ ∀ v, m p = some v → ∀ z, D.atKey (klI p) z = .held v
theorem MapI.lt {w : World} {b n s : Nat} {m : ByteArray → Option Value} (h : MapI w b n s m) : b < w.heap.size := by obtain ⟨D, h, _⟩ := h; exact h.lt
theorem MapI.drew {w : World} {b n s : Nat} {m : ByteArray → Option Value} (h : MapI w b n s m) : MapI w.drew b n s m := by obtain ⟨D, h, h2⟩ := h; exact ⟨D, h.drew, h2⟩
theorem MapI.below {w w' : World} {b n s : Nat} {m : ByteArray → Option Value} (h : MapI w b n s m) (hb : Below w.heap.size w w') : MapI w' b n s m := by obtain ⟨D, h, h2⟩ := h; exact ⟨D, h.kept (grown_of_below hb none) (by simp), h2⟩
theorem MapI.kept {w w' : World} {b n s : Nat} {m : ByteArray → Option Value} {r : Option Nat} (h : MapI w b n s m) (hb : w.grownBy w' r) (hr : r ≠ some b) : MapI w' b n s m := by
  obtain ⟨D, h, h2⟩ := h
  exact ⟨D, h.kept hb (by first | exact hr | exact fun e => hr e.symm | exact .inr hr | exact .inr (fun e => hr e.symm)), h2⟩
theorem MapI.setCell {w : World} {b n s : Nat} {m : ByteArray → Option Value} (h : MapI w b n s m) {a : Addr} (ha : b ≠ a.block) (u : Value) : MapI (w.setCell a u) b n s m := by obtain ⟨D, h, h2⟩ := h; exact ⟨D, h.setCell ha u, h2⟩
theorem MapI.mono {w : World} {b n n' s : Nat} {m : ByteArray → Option Value} (h : MapI w b n s m) (hn : n ≤ n') : MapI w b n' s m := by obtain ⟨D, h, h2⟩ := h; exact ⟨D, h.mono hn, h2⟩
theorem MapI.same {w : World} {b n s : Nat} {m m' : ByteArray → Option Value} (h : MapI w b n s m) (e : ∀ p, m' p = m p) : MapI w b n s m' := by have : m' = m := funext e; rw [this]; exact h
theorem MapI_made (w : World) : MapI (w.alloc (.map #[] 0)) w.heap.size 0 0 (fun _ => none) := ⟨_, World.ownsMap_made w _ _ _, rfl, fun p => ⟨rfl, fun f h => by cases h⟩⟩
theorem MapI.look {w : World} {b n s : Nat} {m : ByteArray → Option Value} (h : MapI w b n s m) {p : ByteArray} (hp : p.size ≤ maxLen) : (Instr.lookup 50 (.map (some b)) (.string p) true).run Try.prog w = .ok (.tuple #[(m p).getD (.int .i64 0), .bool (m p).isSome]) w := by
  obtain ⟨D, h, _, h2⟩ := h
  obtain ⟨v, ps, hrun, hv⟩ := h.look_ok keyedI Try.underlying50 (zeroIv w) (zd := .held (.int .i64 0)) (zp := []) rfl (WideMaps.keyOf_string_mk Try.underlying9 hp)
  rw [hrun]
  obtain ⟨h3, h4⟩ := h2 p
  have h3' : Maps.has D (.string p.data.toList) = (m p).isSome := h3
  rw [h3']
  simp only [selfI, Option.some.injEq, Prod.mk.injEq] at hv
  change DataW.held v = D.atKey (klI p) (DataW.held (.int .i64 0)) ∧ [] = ps at hv
  cases hm : m p with
  | none =>
    rw [hm] at h3
    rw [Maps.atKey_of_not_has h3] at hv
    have := hv.1
    simp only [DataW.held.injEq] at this
    rw [this]
    rfl
  | some x =>
    rw [h4 x hm] at hv
    have := hv.1
    simp only [DataW.held.injEq] at this
    rw [this]
    rfl

theorem MapI.heap {w : World} {b n s : Nat} {m : ByteArray → Option Value} (h : MapI w b n s m) : ∃ es c, w.heap[b]? = some (.map es c) := by obtain ⟨D, ⟨es, c, h, _⟩, _⟩ := h; exact ⟨es, c, h⟩

section
variable (w : World) {ops : Array Oper} {rest : List Oper} {o : Oper} {a : Act} {Q : Exit → Act → World → Prop}

theorem wpList_lookup_I (hg : o.guard = none) (mo x : Operand) (hop : o.op = Op.lookup 50 mo x true) (b n s : Nat) (m : ByteArray → Option Value) (hm : a.eval mo = .map (some b)) (hown : MapI w b n s m) (p : ByteArray) (hx : a.eval x = .string p) (hp : p.size ≤ maxLen) (r : Value) (hr : Value.tuple #[(m p).getD (.int .i64 0), .bool (m p).isSome] = r)
    (hK : wpList Try.prog ops Q rest (a.put o.dst r) w) : wpList Try.prog ops Q (o :: rest) a w := by
  subst hr
  refine wpList_plain hg fun K' hK' => ?_
  have hrun := hown.look hp
  unfold Oper.wp
  simp [execOp, hop, hm, hx, hrun, Result.andThen]
  exact hK' _ _ hK

theorem wpList_mapUpdate_I (hg : o.guard = none) (mo x v : Operand) (hop : o.op = Op.mapUpdate 50 mo x v) (b n s : Nat) (m : ByteArray → Option Value) (hm : a.eval mo = .map (some b)) (hown : MapI w b n s m) (hn : n < maxLen) (p : ByteArray) (hx : a.eval x = .string p) (hp : p.size ≤ maxLen)
    (val : Value) (hv : a.eval v = val) (hK : ∀ w', MapI w' b (n + 1) (if (m p).isSome = true then s else s + 1) (fun q => if q = p then some val else m q) → w.grownBy w' (some b) → wpList Try.prog ops Q rest (a.put o.dst undef) w') : wpList Try.prog ops Q (o :: rest) a w := by
  obtain ⟨D, h, hs, h2⟩ := hown
  refine wpList_mapUpdate_own w hg mo x v 50 hop 9 3 keyedI Try.underlying50 selfI b n D hm h hn _ _ (klI p) hx hv (WideMaps.keyOf_string_mk Try.underlying9 hp) (.held val) [] rfl (fun w' h' hg' => hK w' ⟨_, h', ?_, fun q => ?_⟩ hg')
  · rw [Maps.size_put (h.tidy keyedI), (h2 p).1, hs]
  dsimp only
  by_cases e : q = p
  · subst e
    rw [if_pos rfl]
    exact ⟨Maps.has_put_same h.isMap (klI_key q) _, fun g hg z => by rw [Maps.atKey_put_same h.isMap (klI_key q)]; cases hg; rfl⟩
  · have hne : klI q ≠ klI p := fun h => e (klI_inj h)
    rw [if_neg e, Maps.has_put_other hne]
    exact ⟨(h2 q).1, fun g hg z => by rw [Maps.atKey_put_other hne]; exact (h2 q).2 g hg z⟩

end
end Go.Proofs.Ytbhedlobiagngaa

/-! How much a list of texts holds, as the law's own helper reckons it, from what is left on: a contract for the walks; conditions: at most 2 to the 20 is left, the list lies in memory. -/
namespace Go.Proofs.Ytbhedlobiagngaa
open Go.RowKit
set_option linter.unusedSimpArgs false
set_option linter.unusedVariables false

set_option maxHeartbeats 1000000 in
set_option maxRecDepth 100000 in
theorem sizeStrsM_c (v : Value) (ss : List ByteArray) (w : World) (left : Int) (hl0 : 0 ≤ left) (hl1 : left ≤ 1048576) (hv : Reads w v (strsV ss)) (hn : ss.length ≤ maxLen) (hs : ∀ s ∈ ss, s.size ≤ maxLen) :
    Calls Try.prog 66 #[v, .int .i64 left] w fun e w' => e = .returned (.int .i64 (leftS ss left)) ∧ w = w' := by
  obtain ⟨a, cap, rfl, _, hc⟩ := reads_strs hv
  clear hv
  unfold maxLen at hn hs
  by_cases h0 : left < (ss.length : Int)
  · have hneg : left - (ss.length : Int) < 0 := by omega
    have e : leftS ss left = -1 := by rw [leftS, bulkS, if_neg (by omega)]
    rw [e]
    clear hc hs
    go_enter Try.func66, Try.ntmps66
    go_wp2
    go_ret
    exact ⟨rfl, rfl⟩
  · have hpos : ¬ (left - (ss.length : Int) < 0) := by omega
    rcases hc with rfl | ⟨b, off, rfl, hlt, hc⟩
    · go_enter Try.func66, Try.ntmps66
      go_wp2
      go_loop [1, 5] (fun vl vi => vl = .int .i64 left ∧ vi = .int .i64 0) (fun _ _ => 0)
      case atStart => exact ⟨rfl, rfl⟩
      case round =>
        obtain ⟨rfl, rfl⟩ := hrel
        go_wp2
        go_ret
        exact ⟨by rw [show leftS [] left = left by simp [leftS, bulkS, hl0]]; rfl, rfl⟩
    · go_enter Try.func66, Try.ntmps66
      go_wp2
      go_loop [1, 5] (fun vl vi => ∃ (k : Nat) (l : Int), k ≤ ss.length ∧ vi = .int .i64 (k : Int) ∧ vl = .int .i64 l ∧ 0 ≤ l ∧ l ≤ 1048576 ∧ Hid (l = left - (ss.length : Int) - (((ss.take k).map ByteArray.size).sum : Int))) (fun _ vi => ss.length - (intOf vi).toNat)
      case atStart => exact ⟨0, _, Nat.zero_le _, rfl, rfl, by omega, by omega, by show _ = _; simp⟩
      case round =>
        obtain ⟨k, l, hk, rfl, rfl, hq0, hq1, hl⟩ := hrel
        by_cases hlt' : k < ss.length
        · have hcx := hc k hlt'
          have hsk := hs ss[k] (List.getElem_mem hlt')
          have hsum := sum_take_succ ss k hlt'
          obtain ⟨t, ht⟩ : ∃ t, t = ss[k] := ⟨_, rfl⟩
          rw [← ht] at hcx hsk hsum
          have HS : Hid (((ss.take (k + 1)).map ByteArray.size).sum = ((ss.take k).map ByteArray.size).sum + t.size) := hsum
          have hki : (k : Int) < (ss.length : Int) := by omega
          clear hc hs ht hsum
          by_cases hneg : l - (t.size : Int) < 0
          · have e : leftS ss left = -1 := by
              have h1 := HS.out; have h2 := hl.out; have h3 := sum_take_le ss (k + 1)
              rw [leftS, bulkS, if_neg (by omega)]
            have HE : Hid (leftS ss left = -1) := e
            clear e
            go_wp2
            go_ret
            exact ⟨by rw [HE.out]; rfl, rfl⟩
          · go_wp2
            go_round
            case rel => exact ⟨k + 1, l - (t.size : Int), by omega, by go_num, rfl, by omega, by omega, (by show _ = _; rw [HS.out, hl.out]; omega)⟩
            case measure => simp [intOf]; omega
        · have he : k = ss.length := by omega
          subst he
          have e : leftS ss left = l := by
            have h2 := hl.out
            rw [List.take_length] at h2
            rw [leftS, bulkS, if_pos (by omega)]; omega
          have HE : Hid (leftS ss left = l) := e
          clear hc hs e
          go_wp2
          go_ret
          exact ⟨by rw [HE.out]; rfl, rfl⟩
end Go.Proofs.Ytbhedlobiagngaa

/-! What the law's helpers over versions answer (how much there is, a copy, whether two are alike): contracts for the walks; conditions: the lists of texts lie in memory as told. -/
namespace Go.Proofs.Ytbhedlobiagngaa
open Go.RowKit
set_option linter.unusedSimpArgs false
set_option linter.unusedVariables false

theorem owns_set {w : World} {base : Nat} {e : TypeId} {v : Value} {n : Nat} {xs : List Value} (h : w.ownsRow base e 1 v n xs) {p : Addr} (hp : p.block < base) (x : Value) : (w.setCell p x).ownsRow base e 1 v n xs := by
  obtain ⟨h1, h2⟩ := h
  refine ⟨h1, ?_⟩
  rcases h2 with h2 | ⟨g, cap, cur, a, b, c, d⟩
  · exact .inl h2
  · exact .inr ⟨g, cap, cur, a, b, by rw [Below.heap_setCell _ _ _ _ (by omega)]; exact c, d⟩

/-- A parameter that was put into a block of its own is still there behind a call. -/
theorem box4 {w w1 : World} {c0 c1 c2 c3 : Value} {t : TypeId} (hb : Below (w.alloc (.cells #[c0, c1, c2, c3] t)).heap.size (w.alloc (.cells #[c0, c1, c2, c3] t)) w1) :
    w1.cell? ⟨w.heap.size, 0, none⟩ = some c0 ∧ w1.cell? ⟨w.heap.size, 1, none⟩ = some c1 ∧ w1.cell? ⟨w.heap.size, 2, none⟩ = some c2 ∧ w1.cell? ⟨w.heap.size, 3, none⟩ = some c3 := by
  have h : ∀ j, w1.cell? ⟨w.heap.size, j, none⟩ = (#[c0, c1, c2, c3] : Array Value)[j]? := fun j => by
    rw [hb.cell (p := ⟨w.heap.size, j, none⟩) (by simp)]
    exact vblk_cell (vheap_new _ _) j
  exact ⟨h 0, h 1, h 2, h 3⟩

def saneP (ps : List ByteArray) : Prop := ps.length ≤ maxLen ∧ ∀ s ∈ ps, s.size ≤ maxLen

set_option maxHeartbeats 1000000 in
set_option maxRecDepth 100000 in
theorem sizeStrsL_c (v : Value) (ss : List ByteArray) (w : World) (left : Int) (hl0 : 0 ≤ left) (hl1 : left ≤ 1048576) (hv : Reads w v (strsV ss)) (hn : ss.length ≤ maxLen) (hs : ∀ s ∈ ss, s.size ≤ maxLen) :
    Calls Try.prog 66 #[v, .int .i64 left] w fun e w' => e = .returned (.int .i64 (leftS ss left)) ∧ w = w' := by
  obtain ⟨a, cap, rfl, _, hc⟩ := reads_strs hv
  clear hv
  unfold maxLen at hn hs
  by_cases h0 : left < (ss.length : Int)
  · have hneg : left - (ss.length : Int) < 0 := by omega
    have e : leftS ss left = -1 := by rw [leftS, bulkS, if_neg (by omega)]
    rw [e]
    clear hc hs
    go_enter Try.func66, Try.ntmps66
    go_wp2
    go_ret
    exact ⟨rfl, rfl⟩
  · have hpos : ¬ (left - (ss.length : Int) < 0) := by omega
    rcases hc with rfl | ⟨b, off, rfl, hlt, hc⟩
    · go_enter Try.func66, Try.ntmps66
      go_wp2
      go_loop [1, 5] (fun vl vi => vl = .int .i64 left ∧ vi = .int .i64 0) (fun _ _ => 0)
      case atStart => exact ⟨rfl, rfl⟩
      case round =>
        obtain ⟨rfl, rfl⟩ := hrel
        go_wp2
        go_ret
        exact ⟨by rw [show leftS [] left = left by simp [leftS, bulkS, hl0]]; rfl, rfl⟩
    · go_enter Try.func66, Try.ntmps66
      go_wp2
      go_loop [1, 5] (fun vl vi => ∃ (k : Nat) (l : Int), k ≤ ss.length ∧ vi = .int .i64 (k : Int) ∧ vl = .int .i64 l ∧ 0 ≤ l ∧ l ≤ 1048576 ∧ Hid (l = left - (ss.length : Int) - (((ss.take k).map ByteArray.size).sum : Int))) (fun _ vi => ss.length - (intOf vi).toNat)
      case atStart => exact ⟨0, _, Nat.zero_le _, rfl, rfl, by omega, by omega, by show _ = _; simp⟩
      case round =>
        obtain ⟨k, l, hk, rfl, rfl, hq0, hq1, hl⟩ := hrel
        by_cases hlt' : k < ss.length
        · have hcx := hc k hlt'
          have hsk := hs ss[k] (List.getElem_mem hlt')
          have hsum := sum_take_succ ss k hlt'
          obtain ⟨t, ht⟩ : ∃ t, t = ss[k] := ⟨_, rfl⟩
          rw [← ht] at hcx hsk hsum
          have HS : Hid (((ss.take (k + 1)).map ByteArray.size).sum = ((ss.take k).map ByteArray.size).sum + t.size) := hsum
          have hki : (k : Int) < (ss.length : Int) := by omega
          clear hc hs ht hsum
          by_cases hneg : l - (t.size : Int) < 0
          · have e : leftS ss left = -1 := by
              have h1 := HS.out; have h2 := hl.out; have h3 := sum_take_le ss (k + 1)
              rw [leftS, bulkS, if_neg (by omega)]
            have HE : Hid (leftS ss left = -1) := e
            clear e
            go_wp2
            go_ret
            exact ⟨by rw [HE.out]; rfl, rfl⟩
          · go_wp2
            go_round
            case rel => exact ⟨k + 1, l - (t.size : Int), by omega, by go_num, rfl, by omega, by omega, (by show _ = _; rw [HS.out, hl.out]; omega)⟩
            case measure => simp [intOf]; omega
        · have he : k = ss.length := by omega
          subst he
          have e : leftS ss left = l := by
            have h2 := hl.out
            rw [List.take_length] at h2
            rw [leftS, bulkS, if_pos (by omega)]; omega
          have HE : Hid (leftS ss left = l) := e
          clear hc hs e
          go_wp2
          go_ret
          exact ⟨by rw [HE.out]; rfl, rfl⟩

theorem vthree {w w1 : World} {A R O : Obj} (hb : Below (((w.alloc A).alloc R).alloc O).heap.size (((w.alloc A).alloc R).alloc O) w1) :
    w1.heap[w.heap.size]? = some A ∧ w1.heap[w.heap.size + 1]? = some R ∧ w1.heap[w.heap.size + 1 + 1]? = some O := by
  have s1 : (w.alloc A).heap.size = w.heap.size + 1 := by simp
  have s2 : ((w.alloc A).alloc R).heap.size = w.heap.size + 1 + 1 := by simp
  refine ⟨?_, ?_, ?_⟩
  · rw [hb.block _ (by simp; omega), vheap_old _ _ (by simp; omega), vheap_old _ _ (by simp), vheap_new]
  · rw [hb.block _ (by simp), vheap_old _ _ (by simp), ← s1, vheap_new]
  · rw [hb.block _ (by simp), ← s2, vheap_new]

end Go.Proofs.Ytbhedlobiagngaa

/-! Needs, commands and packs that lie in memory: what they are, and how much they hold, as the law counts it: contracts for the walks; conditions: at most 2 to the 20 is left to count. -/
namespace Go.Proofs.Ytbhedlobiagngaa
open Go.RowKit
set_option linter.unusedSimpArgs false
set_option linter.unusedVariables false

theorem lw (n : Nat) (l : Int) : ((n : Int) ≤ l ∧ leftW n l = l - (n : Int)) ∨ (l < (n : Int) ∧ leftW n l = -1) := by
  by_cases h : (n : Int) ≤ l
  · exact .inl ⟨h, leftW_good h⟩
  · exact .inr ⟨by omega, leftW_bad h⟩

/-- A list of texts that may be written. -/
def StrsOwn (S : Nat → Prop) (w : World) (u : Value) (ss : List ByteArray) : Prop := w.ownsRow 0 9 1 u ss.length (strsV ss) ∧ ∀ g, u.ownBlock = some g → S g
theorem StrsOwn.keep {S : Nat → Prop} {w w' : World} {u : Value} {ss : List ByteArray} (hk : Kp S w w') (h : StrsOwn S w u ss) : StrsOwn S w' u ss := ⟨owns_kept hk h.2 h.1, h.2⟩
theorem StrsOwn.mono {S S' : Nat → Prop} {w : World} {u : Value} {ss : List ByteArray} (hS : ∀ b, S b → S' b) (h : StrsOwn S w u ss) : StrsOwn S' w u ss := ⟨h.1, fun g hg => hS g (h.2 g hg)⟩
theorem StrsOwn.plain {S : Nat → Prop} {w : World} {u : Value} {ss : List ByteArray} (h : StrsOwn S w u ss) : RdB S w u (strsV ss) := by
  obtain ⟨a, cap, hv, hc, hx⟩ := reads_of_owns h.1
  refine ⟨a, cap, hv, hc, ?_⟩
  rcases hx with hx | ⟨b, off, rfl, hlt, hx⟩
  · exact .inl hx
  · exact .inr ⟨b, off, rfl, h.2 b (by rw [hv]; rfl), hx⟩

structure NeedD where
  n : ByteArray
  r : ByteArray
def wtNeed (d : NeedD) : Nat := d.n.size + d.r.size
def shNeed : Sh NeedD where
  n := 2
  lies S w cs d := cs = [.string d.n, .string d.r] ∧ d.n.size ≤ maxLen ∧ d.r.size ≤ maxLen
  keep hk h := by obtain ⟨h0, h1, h2⟩ := h; exact ⟨h0, h1, h2⟩
  mono hS h := by obtain ⟨h0, h1, h2⟩ := h; exact ⟨h0, h1, h2⟩

structure CmdD where
  t : ByteArray
  acts : List ByteArray
def wtCmd (d : CmdD) : Nat := d.t.size + bulkS d.acts
def shCmd : Sh CmdD where
  n := 2
  lies S w cs d := ∃ u0, cs = [.string d.t, u0] ∧ d.t.size ≤ maxLen ∧ RdB S w u0 (strsV d.acts) ∧ saneP d.acts
  keep hk h := by obtain ⟨u0, h0, h1, h2, h3⟩ := h; exact ⟨u0, h0, h1, h2.keep hk, h3⟩
  mono hS h := by obtain ⟨u0, h0, h1, h2, h3⟩ := h; exact ⟨u0, h0, h1, h2.mono hS, h3⟩
def shCmdO : Sh CmdD where
  n := 2
  lies S w cs d := ∃ u0, cs = [.string d.t, u0] ∧ d.t.size ≤ maxLen ∧ StrsOwn S w u0 d.acts ∧ saneP d.acts
  keep hk h := by obtain ⟨u0, h0, h1, h2, h3⟩ := h; exact ⟨u0, h0, h1, h2.keep hk, h3⟩
  mono hS h := by obtain ⟨u0, h0, h1, h2, h3⟩ := h; exact ⟨u0, h0, h1, h2.mono hS, h3⟩
theorem liesCmd_plain {S : Nat → Prop} {w : World} {cs : List Value} {d : CmdD} (h : shCmdO.lies S w cs d) : shCmd.lies S w cs d := by
  obtain ⟨u0, e0, s_t, r0, p0⟩ := h
  exact ⟨u0, e0, s_t, r0.plain, p0⟩

structure PackD where
  name : ByteArray
  uses : List ByteArray
  needs : List NeedD
  cmds : List CmdD
def wtPack (d : PackD) : Nat := d.name.size + bulkS d.uses + wtRow wtNeed d.needs + wtRow wtCmd d.cmds
def shPack : Sh PackD where
  n := 4
  lies S w cs d := ∃ u0 u1 u2, cs = [.string d.name, u0, u1, u2] ∧ d.name.size ≤ maxLen ∧ RdB S w u0 (strsV d.uses) ∧ saneP d.uses ∧ RowIn shNeed S w u1 d.needs ∧ RowIn shCmd S w u2 d.cmds
  keep hk h := by obtain ⟨u0, u1, u2, h0, h1, h2, h3, h4, h5⟩ := h; exact ⟨u0, u1, u2, h0, h1, h2.keep hk, h3, h4.keep hk, h5.keep hk⟩
  mono hS h := by obtain ⟨u0, u1, u2, h0, h1, h2, h3, h4, h5⟩ := h; exact ⟨u0, u1, u2, h0, h1, h2.mono hS, h3, h4.mono hS, h5.mono hS⟩
def shPackO : Sh PackD where
  n := 4
  lies S w cs d := ∃ u0 u1 u2, cs = [.string d.name, u0, u1, u2] ∧ d.name.size ≤ maxLen ∧ StrsOwn S w u0 d.uses ∧ saneP d.uses ∧ RowOwn shNeed 105 S w u1 d.needs ∧ RowOwn shCmdO 107 S w u2 d.cmds
  keep hk h := by obtain ⟨u0, u1, u2, h0, h1, h2, h3, h4, h5⟩ := h; exact ⟨u0, u1, u2, h0, h1, h2.keep hk, h3, h4.keep hk, h5.keep hk⟩
  mono hS h := by obtain ⟨u0, u1, u2, h0, h1, h2, h3, h4, h5⟩ := h; exact ⟨u0, u1, u2, h0, h1, h2.mono hS, h3, h4.mono hS, h5.mono hS⟩
theorem liesPack_plain {S : Nat → Prop} {w : World} {cs : List Value} {d : PackD} (h : shPackO.lies S w cs d) : shPack.lies S w cs d := by
  obtain ⟨u0, u1, u2, e0, s_name, r0, p0, r1, r2⟩ := h
  exact ⟨u0, u1, u2, e0, s_name, r0.plain, p0, r1.plain, (RowIn.as (sh := shCmdO) (sh' := shCmd) rfl (fun S w cs x h => liesCmd_plain h) r2.plain)⟩

end Go.Proofs.Ytbhedlobiagngaa

/-! The place of the pack of a name, the program's and the specification's: contracts for the walks; conditions: the row of packs lies in memory. -/
namespace Go.Proofs.Ytbhedlobiagngaa
open Go.RowKit
set_option linter.unusedSimpArgs false
set_option linter.unusedVariables false

/-- The place of the first pack of this name, or -1. -/
def findP (xs : List PackD) (s : ByteArray) : Int := if xs.findIdx (fun d => decide (d.name = s)) < xs.length then (xs.findIdx (fun d => decide (d.name = s)) : Int) else -1
theorem findP_here {xs : List PackD} {s : ByteArray} {k : Nat} (h : k < xs.length) (hy : xs[k].name = s) (hn : ∀ j (hj : j < xs.length), j < k → ¬ xs[j].name = s) : findP xs s = (k : Int) := by
  have e : xs.findIdx (fun d => decide (d.name = s)) = k := by
    rw [List.findIdx_eq h]
    exact ⟨by simpa using hy, fun j hj => by simpa using hn j (by omega) hj⟩
  unfold findP
  rw [e, if_pos h]
theorem findP_none {xs : List PackD} {s : ByteArray} (hn : ∀ j (hj : j < xs.length), ¬ xs[j].name = s) : findP xs s = -1 := by
  have e : xs.findIdx (fun d => decide (d.name = s)) = xs.length := by
    rw [List.findIdx_eq_length]
    intro x hx
    obtain ⟨j, hj, rfl⟩ := List.mem_iff_getElem.1 hx
    simpa using hn j hj
  unfold findP
  rw [e, if_neg (by omega)]
theorem name_alike (a b : ByteArray) : (a.toList == b.toList) = decide (a = b) := by
  by_cases h : a = b
  · subst h; simp
  · rw [decide_eq_false h]
    cases hh : (a.toList == b.toList) with
    | false => rfl
    | true => exact absurd (bytes_eq_of_toList (by simpa using hh)) h

set_option maxHeartbeats 1000000 in
set_option maxRecDepth 100000 in
theorem findFn_c (S : Nat → Prop) (d : PackD) (cs : List Value) (s : ByteArray) (B : Nat) (w : World) (hd : shPack.lies S w cs d) (hF : w.heap[B]? = some (.cells #[.string s] 9 (0, 0))) :
    Calls Try.prog 39 #[.agg cs.toArray, .pointer (some ⟨B, 0, none⟩)] w fun e w' => e = .returned (.bool (decide (d.name = s))) ∧ Below w.heap.size w w' := by
  obtain ⟨u0, u1, u2, rfl, _, r0, _, r1, r2⟩ := hd
  obtain ⟨a0, c0, rfl, _⟩ := id r0
  obtain ⟨a1, c1, rfl, _⟩ := id r1
  obtain ⟨a2, c2, rfl, _⟩ := id r2
  clear r0 r1 r2
  have hBl := (Array.getElem?_eq_some_iff.1 hF).1
  have y0 : ∀ o, (w.alloc o).cell? ⟨B, 0, none⟩ = some (.string s) := fun o => by
    have : w.cell? ⟨B, 0, none⟩ = some (.string s) := by rw [vblk_cell hF]; rfl
    rw [← this]
    exact ((Below.refl w.heap.size w).alloc (Nat.le_refl _) _).cell (by simpa using hBl)
  have kb : ∀ o, Below w.heap.size w (w.alloc o) := fun o => (Below.refl w.heap.size w).alloc (Nat.le_refl _) o
  have HG := hidden (name_alike d.name s)
  have hy := hidden y0
  clear hF y0
  rw [length_strsV]
  have y1 := hy.out (.cells #[.string d.name, .slice a0 d.uses.length c0, .slice a1 d.needs.length c1, .slice a2 d.cmds.length c2] 33)
  go_enter Try.func39, Try.ntmps39
  go_wp2_with fail
  go_ret
  exact ⟨by rw [← HG.out]; rfl, kb _⟩

set_option maxHeartbeats 2000000 in
set_option maxRecDepth 100000 in
theorem findAt_c (S : Nat → Prop) (v : Value) (xs : List PackD) (s : ByteArray) (B : Nat) (w : World) (hv : RowIn shPack S w v xs) (hB : ∀ b, S b → b < w.heap.size) (hF : w.heap[B]? = some (.cells #[.string s] 9 (0, 0))) :
    Calls Try.prog 38 #[v, .func (.func 39) #[] #[.pointer (some ⟨B, 0, none⟩)]] w fun e w' => e = .returned (.int .i64 (findP xs s)) ∧ Below w.heap.size w w' := by
  obtain ⟨a, cap, rfl, hl, hc, ha⟩ := hv
  unfold maxLen at hl
  have hBlt := (Array.getElem?_eq_some_iff.1 hF).1
  obtain ⟨R, hR⟩ : ∃ R, R = findP xs s := ⟨_, rfl⟩
  rw [← hR]
  have HR : Hid (R = findP xs s) := hR
  clear hR
  go_enter Try.func38, Try.ntmps38
  go_wp2_with fail
  go_loopw [8] (fun vi wr => ∃ k : Nat, k ≤ xs.length ∧ vi = .int .i64 (k : Int) ∧ Hid (∀ j (hj : j < xs.length), j < k → ¬ xs[j].name = s) ∧ Below w.heap.size w wr) (fun vi _ => xs.length - (intOf vi).toNat)
  case atStart => exact ⟨0, Nat.zero_le _, rfl, (fun j hj h => by omega), Below.refl _ _⟩
  case round =>
    obtain ⟨k, hk, rfl, hno, hbr⟩ := hrel
    by_cases hlt' : k < xs.length
    · rcases ha with rfl | ⟨b, off, rfl, hlt, ha⟩
      · simp at hlt'
      obtain ⟨cs, hL, hcell⟩ := ha k hlt'
      have hL2 := shPack.keep (.of hbr hB) hL
      have hcell2 := hcell.keep (.of hbr hB) hlt
      have HT : Hid (xs[k].name = s → R = (k : Int)) := fun h => HR.out.trans (findP_here hlt' h hno.out)
      have HN : Hid (¬ xs[k].name = s → ∀ j (hj : j < xs.length), j < k + 1 → ¬ xs[j].name = s) := fun h j hj hjk => by
        by_cases e : j = k
        · subst e; exact h
        · exact hno.out j hj (by omega)
      obtain ⟨d, hd⟩ : ∃ d, d = xs[k] := ⟨_, rfl⟩
      rw [← hd] at hL2 HT HN
      have HC := findFn_c S d cs s B wr hL2 ((hbr.block B hBlt).trans hF)
      obtain ⟨u0, u1, u2, rfl, _, r0, _, r1, r2⟩ := hL2
      obtain ⟨a0, c0, eu0, _⟩ := id r0
      rw [length_strsV] at eu0
      subst eu0
      obtain ⟨a1, c1, rfl, _⟩ := id r1
      obtain ⟨a2, c2, rfl, _⟩ := id r2
      clear r0 r1 r2
      have e0 : wr.cell? ⟨b, off + k * 4, none⟩ = some (.string d.name) := hcell2 0 (by simp)
      have e1 : wr.cell? ⟨b, off + k * 4 + 1, none⟩ = some (.slice a0 d.uses.length c0) := hcell2 1 (by simp)
      have e2 : wr.cell? ⟨b, off + k * 4 + 2, none⟩ = some (.slice a1 d.needs.length c1) := hcell2 2 (by simp)
      have e3 : wr.cell? ⟨b, off + k * 4 + 3, none⟩ = some (.slice a2 d.cmds.length c2) := hcell2 3 (by simp)
      have hki : (k : Int) < (xs.length : Int) := by omega
      obtain ⟨r, hr⟩ : ∃ r, r = decide (d.name = s) := ⟨_, rfl⟩
      rw [← hr] at HC
      have HC2 := hidden HC
      clear ha hd hcell hcell2 hno HR HC hF hL
      by_cases hts : d.name = s
      · have hr2 : r = true := by rw [hr]; simpa using hts
        subst hr2
        have HT2 := hidden (HT.out hts)
        clear HT HN hts hr
        go_wp2_with (go_at_call 39; refine HC2.out.mono ?_; rintro e w1 ⟨rfl, b1⟩)
        go_ret
        exact ⟨by rw [HT2.out]; rfl, hbr.trans (b1.mono hbr.size)⟩
      · have hr2 : r = false := by rw [hr]; simpa using hts
        subst hr2
        have HN2 := hidden (HN.out hts)
        clear HT HN hts hr
        go_wp2_with (go_at_call 39; refine HC2.out.mono ?_; rintro e w1 ⟨rfl, b1⟩)
        go_roundw
        case rel => exact ⟨k + 1, by omega, by go_num, HN2.out, hbr.trans (b1.mono hbr.size)⟩
        case measure => simp [intOf]; omega
    · have he : k = xs.length := by omega
      subst he
      have HE : Hid (R = -1) := HR.out.trans (findP_none (fun j hj => hno.out j hj hj))
      clear ha hno HR hF
      go_wp2_with fail
      go_ret
      exact ⟨by rw [HE.out]; rfl, hbr⟩

set_option maxHeartbeats 1000000 in
set_option maxRecDepth 100000 in
theorem implFind_c (S : Nat → Prop) (v : Value) (xs : List PackD) (s : ByteArray) (w : World) (hv : RowIn shPack S w v xs) (hB : ∀ b, S b → b < w.heap.size) :
    Calls Try.prog 15 #[v, .string s] w fun e w' => e = .returned (.int .i64 (findP xs s)) ∧ Below w.heap.size w w' := by
  have kb : ∀ o, Below w.heap.size w (w.alloc o) := fun o => (Below.refl w.heap.size w).alloc (Nat.le_refl _) o
  have HF := hidden (findAt_c S v xs s w.heap.size (w.alloc (.cells #[.string s] 9)) (hv.keep (.of (kb _) hB)) (fun b h => Nat.lt_of_lt_of_le (hB b h) (kb (.cells #[.string s] 9)).size) (vheap_new _ _))
  obtain ⟨a, cap, rfl, _⟩ := hv
  go_enter Try.func15, Try.ntmps15
  go_wp2_with (go_at_call 38; refine HF.out.mono ?_; rintro e w1 ⟨rfl, b1⟩)
  go_ret
  exact ⟨rfl, (kb _).trans (b1.mono (kb _).size)⟩
end Go.Proofs.Ytbhedlobiagngaa

/-! Lists of texts that rise: two of them with the same members are one list; the plain facts on the order of texts, byte by byte; no condition. -/
namespace Go.Proofs.Ytbhedlobiagngaa
open Go.RowKit
set_option linter.unusedSimpArgs false
set_option linter.unusedVariables false

theorem ltL_irrefl (x : List UInt8) : ¬ x < x := List.lt_irrefl x
theorem ltL_trans {x y z : List UInt8} (h : x < y) (k : y < z) : x < z := List.lt_trans h k
theorem ltL_total {x y : List UInt8} (h : ¬ x < y) (k : ¬ y < x) : x = y := List.le_antisymm (by simpa using k) (by simpa using h)

def Rises (l : List (List UInt8)) : Prop := l.Pairwise (· < ·)

theorem rises_eq : ∀ (a b : List (List UInt8)), Rises a → Rises b → (∀ x, x ∈ a ↔ x ∈ b) → a = b
  | [], [], _, _, _ => rfl
  | [], y :: b, _, _, h => by have := (h y).2 (by simp); simp at this
  | x :: a, [], _, _, h => by have := (h x).1 (by simp); simp at this
  | x :: a, y :: b, ha, hb, h => by
    have ha' := List.pairwise_cons.1 ha
    have hb' := List.pairwise_cons.1 hb
    have hxy : x = y := by
      rcases List.mem_cons.1 ((h x).1 (by simp)) with e | e
      · exact e
      · rcases List.mem_cons.1 ((h y).2 (by simp)) with e' | e'
        · exact e'.symm
        · exact absurd (ltL_trans (hb'.1 x e) (ha'.1 y e')) (ltL_irrefl _)
    subst hxy
    have hab : a = b := rises_eq a b ha'.2 hb'.2 (fun z => by
      constructor
      · intro hz
        rcases List.mem_cons.1 ((h z).1 (List.mem_cons_of_mem _ hz)) with e | e
        · subst e; exact absurd (ha'.1 z hz) (ltL_irrefl _)
        · exact e
      · intro hz
        rcases List.mem_cons.1 ((h z).2 (List.mem_cons_of_mem _ hz)) with e | e
        · subst e; exact absurd (hb'.1 z hz) (ltL_irrefl _)
        · exact e)
    rw [hab]

def bytesL (s : ByteArray) : List UInt8 := s.data.toList
theorem bytesL_inj {a b : ByteArray} (h : bytesL a = bytesL b) : a = b := ByteArray.ext (Array.toList_inj.1 h)
def risesS (ss : List ByteArray) : Prop := Rises (ss.map bytesL)

theorem risesS_eq {a b : List ByteArray} (ha : risesS a) (hb : risesS b) (h : ∀ x, x ∈ a ↔ x ∈ b) : a = b := by
  have e := rises_eq _ _ ha hb (fun x => by
    constructor
    · intro hx
      obtain ⟨s, hs, rfl⟩ := List.mem_map.1 hx
      exact List.mem_map.2 ⟨s, (h s).1 hs, rfl⟩
    · intro hx
      obtain ⟨s, hs, rfl⟩ := List.mem_map.1 hx
      exact List.mem_map.2 ⟨s, (h s).2 hs, rfl⟩)
  exact List.map_inj_right (fun _ _ => bytesL_inj) |>.1 e

/-- What is put in where all behind is greater and all ahead is less. -/
theorem rises_insert {xs : List ByteArray} {x : ByteArray} {k : Nat} (hk : k ≤ xs.length) (h : risesS xs) (hl : ∀ j (hj : j < xs.length), j < k → bytesL xs[j] < bytesL x) (hg : ∀ j (hj : j < xs.length), k ≤ j → bytesL x < bytesL xs[j]) :
    risesS (xs.take k ++ x :: xs.drop k) := by
  unfold risesS Rises at *
  rw [List.map_append, List.map_cons, List.pairwise_append]
  refine ⟨?_, ?_, ?_⟩
  · rw [List.map_take]; exact h.sublist (List.take_sublist _ _)
  · rw [List.pairwise_cons]
    refine ⟨fun y hy => ?_, ?_⟩
    · obtain ⟨s, hs, rfl⟩ := List.mem_map.1 hy
      obtain ⟨j, hj, rfl⟩ := List.getElem_of_mem hs
      rw [List.getElem_drop]
      simp at hj
      exact hg _ (by omega) (by omega)
    · rw [List.map_drop]; exact h.sublist (List.drop_sublist _ _)
  · intro a ha b hb
    obtain ⟨s, hs, rfl⟩ := List.mem_map.1 ha
    obtain ⟨j, hj, rfl⟩ := List.getElem_of_mem hs
    rw [List.getElem_take]
    simp at hj
    have h1 := hl j (by omega) (by omega)
    rcases List.mem_cons.1 hb with rfl | hb
    · exact h1
    · obtain ⟨s', hs', rfl⟩ := List.mem_map.1 hb
      obtain ⟨j', hj', rfl⟩ := List.getElem_of_mem hs'
      rw [List.getElem_drop]
      simp at hj'
      exact ltL_trans h1 (hg _ (by omega) (by omega))

theorem mem_insert (xs : List ByteArray) (x y : ByteArray) (k : Nat) : y ∈ xs.take k ++ x :: xs.drop k ↔ y = x ∨ y ∈ xs := by
  rw [List.mem_append, List.mem_cons]
  constructor
  · rintro (h | h | h)
    · exact .inr (List.mem_of_mem_take h)
    · exact .inl h
    · exact .inr (List.mem_of_mem_drop h)
  · rintro (h | h)
    · exact .inr (.inl h)
    · rw [← List.take_append_drop k xs, List.mem_append] at h
      rcases h with h | h
      · exact .inl h
      · exact .inr (.inr h)
end Go.Proofs.Ytbhedlobiagngaa
