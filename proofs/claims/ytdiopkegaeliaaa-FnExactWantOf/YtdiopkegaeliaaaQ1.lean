/-
  Contracts for the walks, several texts in one: each part says what it proves, and under which conditions.
-/
import Derived.Test.YtdiopkegaeliaaaRows
import Derived.WalkKit
import Derived.WalkSpells
import Derived.WalkLawsBesides
import Derived.Lib.Strings
import Derived.Deep.LoopGhost
import Derived.Deep.QuietTactic
import Derived.BigQuiet
import Derived.WalkSmall
import Derived.Laws.BytesArg
import Derived.Deep.RegionWith
import Derived.Maps.OwnSet
import Derived.Maps.OwnIn
import Derived.RangeFuncNested
import Derived.RangeFuncBound
import Derived.RangeFuncCalls
import Derived.RangeFuncLeaves
import Derived.Shelf.Abstract
import Derived.Shelf.RegionOpen
import Derived.OwnWalkIn
import Derived.TacticsInMore
import Derived.LoopNIn
import Derived.LoopIn
import Derived.Deep.RegionHeld
import Derived.Handy
import Derived.Sort.OwnSorted
import Derived.Lib.SlicesCompact

/-! What the functions that look at one byte, and the two functions NameOk (the program's and the specification's), answer: contracts for the walks; no conditions but that a string is no longer than an int can count. -/
namespace Go.Proofs.Ytdiopkegaeliaaa
open Go.RowKit
set_option linter.unusedSimpArgs false
set_option linter.unusedVariables false

def smallB (c : Int) : Bool := decide (97 ≤ c) && decide (c ≤ 122)
def digitB (c : Int) : Bool := decide (48 ≤ c) && decide (c ≤ 57)
def plainB (c : Int) : Bool := decide (32 ≤ c) && decide (c ≤ 126)
def inB (x lo hi : Int) : Bool := decide (lo ≤ x) && decide (x ≤ hi)

def allUpto (p : Nat → Int → Bool) (s : ByteArray) : Nat → Bool
  | 0 => true
  | k + 1 => allUpto p s k && p k ((s.data[k]!).toNat : Int)

theorem byteBang (s : ByteArray) (j : Nat) (hj : j < s.size) : s.data[j]! = s[j] := by
  rw [getElem!_pos s.data j (by simpa using hj)]; rfl

theorem allUpto_cut (p : Nat → Int → Bool) (s : ByteArray) (k : Nat) (h : p k ((s.data[k]!).toNat : Int) = false) :
    ∀ n, k < n → allUpto p s n = false
  | 0, h0 => by omega
  | n + 1, hk => by
    unfold allUpto
    by_cases e : k = n
    · subst e; simp [h]
    · rw [allUpto_cut p s k h n (by omega)]; rfl

theorem step_true {p : Nat → Int → Bool} {s : ByteArray} {k : Nat} (hk : k < s.size) (hh : Hid (allUpto p s k = true)) (h : p k ((s[k]).toNat : Int) = true) : Hid (allUpto p s (k + 1) = true) := by
  show _ = _
  rw [allUpto, hh.out, byteBang s k hk, h]; rfl

theorem end_false {p : Nat → Int → Bool} {s : ByteArray} {k : Nat} (hk : k < s.size) (h : p k ((s[k]).toNat : Int) = false) : allUpto p s s.size = false :=
  allUpto_cut p s k (by rw [byteBang s k hk]; exact h) _ hk

theorem byte0 (u : UInt8) : (0 : Int) ≤ (u.toNat : Int) := by omega
theorem wrap_byte (u : UInt8) : wrap64 (u.toNat : Int) = (u.toNat : Int) := by
  have := u.toNat_lt
  rw [wrap64]; omega
theorem byte255 (u : UInt8) : (u.toNat : Int) ≤ 255 := by have := u.toNat_lt; omega

def okName (k : Nat) (c : Int) : Bool := smallB c || (k != 0 && (digitB c || c == 45))
def nameB (s : ByteArray) : Bool := allUpto okName s s.size && inB s.size 1 10

theorem size_ne {s : ByteArray} (h : ¬ s.size = 0) : ((s.size : Int) == 0) = false := by
  rw [beq_eq_false_iff_ne]; omega

theorem nameB_out {s : ByteArray} (h : s.size = 0 ∨ 10 < s.size) : nameB s = false := by
  have : inB s.size 1 10 = false := by
    simp only [inB, Bool.and_eq_false_iff, decide_eq_false_iff_not]
    omega
  rw [nameB, this, Bool.and_false]

theorem nameB_first {s : ByteArray} (h0 : 0 < s.size) (h : smallB ((s[0]).toNat : Int) = false) : nameB s = false := by
  rw [nameB, end_false h0 (by simp [okName, h])]; rfl

theorem nameB_in {s : ByteArray} (h0 : 0 < s.size) (h1 : s.size ≤ 10) (h : allUpto okName s s.size = true) : nameB s = true := by
  have : inB s.size 1 10 = true := by
    simp only [inB, Bool.and_eq_true, decide_eq_true_eq]
    omega
  rw [nameB, this, h]; rfl

def okPlain (_ : Nat) (c : Int) : Bool := plainB c
def plainAll (s : ByteArray) (most : Int) : Bool := allUpto okPlain s s.size && decide ((s.size : Int) ≤ most)

end Go.Proofs.Ytdiopkegaeliaaa

/-! What the helpers over lists of bytes answer (a copy, whether two are alike, marking, whether the marks are held): contracts for the walks, over any world; conditions: the lists lie in memory as told, and are no longer than 2 to the 48. -/
namespace Go.Proofs.Ytdiopkegaeliaaa
open Go.RowKit
set_option linter.unusedSimpArgs false
set_option linter.unusedVariables false

/-- The slice value v reads as the list xs in the world w. -/
def Reads (w : World) (v : Value) (xs : List Value) : Prop :=
  ∃ a cap, v = .slice a xs.length cap ∧ xs.length ≤ cap ∧ (xs = [] ∨ ∃ b off, a = some ⟨b, off, none⟩ ∧ b < w.heap.size ∧ ∀ i (h : i < xs.length), w.cell? ⟨b, off + i, none⟩ = some xs[i])

theorem Reads.below {w w' : World} {v : Value} {xs : List Value} (h : Reads w v xs) (hb : Below w.heap.size w w') : Reads w' v xs := by
  obtain ⟨a, cap, hv, hcp, h | ⟨b, off, ha, hlt, hc⟩⟩ := h
  · exact ⟨a, cap, hv, hcp, .inl h⟩
  · exact ⟨a, cap, hv, hcp, .inr ⟨b, off, ha, Nat.lt_of_lt_of_le hlt hb.size, fun i hi => by rw [hb.cell (p := ⟨b, off + i, none⟩) hlt]; exact hc i hi⟩⟩

theorem below_of_grown {w w' : World} (h : w.grownBy w' none) : Below w.heap.size w w' := ⟨h.os, h.tape, h.output, h.size, fun k hk => h.block k hk (by simp)⟩
theorem grown_of_below {w w' : World} (h : Below w.heap.size w w') (row : Option Nat) : w.grownBy w' row := ⟨h.os, h.tape, h.output, h.size, fun k hk _ => h.block k hk⟩

theorem reads_of_owns {w : World} {base : Nat} {e : TypeId} {v : Value} {n : Nat} {xs : List Value} (h : w.ownsRow base e 1 v n xs) : Reads w v xs := by
  obtain ⟨hl, h⟩ := h
  rw [Nat.mul_one] at hl
  rcases h with ⟨rfl, hn⟩ | ⟨g, cap, cur, rfl, hb, hg, hn, hcap, hsz, htake⟩
  · have : xs = [] := List.eq_nil_of_length_eq_zero (by omega)
    subst this
    exact ⟨none, 0, rfl, Nat.le_refl _, .inl rfl⟩
  · refine ⟨some ⟨g, 0, none⟩, cap, by rw [hl], by omega, .inr ⟨g, 0, rfl, (Array.getElem?_eq_some_iff.1 hg).1, fun i hi => ?_⟩⟩
    rw [Nat.zero_add]
    have := World.ownsRow.cellAt (w := w) (base := base) (e := e) (size := 1) (g := g) (n := n) (cap := cap) (xs := xs) ⟨by omega, .inr ⟨g, cap, cur, rfl, hb, hg, hn, hcap, hsz, htake⟩⟩ i (by omega)
    rw [this]
    simp [hi]

theorem owns_of_below {w w' : World} {base : Nat} {e : TypeId} {v : Value} {n : Nat} {xs : List Value} (h : w.ownsRow base e 1 v n xs) (hb : Below w.heap.size w w') : w'.ownsRow base e 1 v n xs :=
  h.kept (grown_of_below hb none) (by cases hv : v.ownBlock <;> simp)

theorem owns_empty {w : World} {base : Nat} {e : TypeId} {v : Value} {xs : List Value} (h : w.ownsRow base e 1 v 0 xs) : w.ownsRow base e 1 v 0 [] := by
  have : xs = [] := List.eq_nil_of_length_eq_zero (by simpa using h.1)
  subst this
  exact h

theorem info5 : (Try.prog.info? 5).map (fun i => (i.zero, i.size, i.bytes)) = some (some (.int .u8 0), 1, 1) := by kernel_rfl

theorem set_step {ys xs : List Value} {n k : Nat} {u : Value} (hk : k < n) (h : ys.length = n ∧ ∀ j, j < k → ys[j]? = xs[j]?) (hu : xs[k]? = some u) :
    Hid ((ys.set k u).length = n ∧ ∀ j, j < k + 1 → (ys.set k u)[j]? = xs[j]?) := by
  refine ⟨by simp [h.1], fun j hj => ?_⟩
  rw [List.getElem?_set]
  by_cases e : k = j
  · subst e; simp [h.1, hk, hu]
  · rw [if_neg e]; exact h.2 j (by omega)

theorem list_done {ys xs : List Value} {n : Nat} (h1 : ys.length = n) (h2 : xs.length = n) (h : ∀ j, j < n → ys[j]? = xs[j]?) : ys = xs := by
  apply List.ext_getElem?
  intro j
  by_cases hj : j < n
  · exact h j hj
  · rw [List.getElem?_eq_none (by omega), List.getElem?_eq_none (by omega)]

def bytesV (zs : List Int) : List Value := zs.map (Value.int .u8)
@[simp] theorem length_bytesV (zs : List Int) : (bytesV zs).length = zs.length := by simp [bytesV]

/-- A byte list's cells, as the walk asks for them. -/
theorem reads_bytes {w : World} {v : Value} {zs : List Int} (h : Reads w v (bytesV zs)) :
    ∃ a cap, v = .slice a zs.length cap ∧ zs.length ≤ cap ∧ (zs = [] ∨ ∃ b off, a = some ⟨b, off, none⟩ ∧ b < w.heap.size ∧ ∀ k, k < zs.length → w.cell? ⟨b, off + k, none⟩ = some (.int .u8 (zs.getD k 0))) := by
  obtain ⟨a, cap, hv, hcp, hc⟩ := h
  rw [length_bytesV] at hv hcp
  refine ⟨a, cap, hv, hcp, ?_⟩
  rcases hc with hc | ⟨b, off, rfl, hlt, hc⟩
  · exact .inl (by simpa [bytesV] using hc)
  · refine .inr ⟨b, off, rfl, hlt, fun k hk => ?_⟩
    rw [hc k (by simpa using hk)]
    simp [bytesV, List.getD_eq_getElem?_getD, hk]

theorem below_drewN' {B : Nat} {a w : World} (h : Below B a w) (n : Nat) : Below B a (w.drewN n) := h.trans ⟨rfl, rfl, rfl, Nat.le_refl _, fun _ _ => rfl⟩

theorem eq_step {zs ys : List Int} {k : Nat} (h : ∀ j, j < k → zs.getD j 0 = ys.getD j 0) (hk : zs.getD k 0 = ys.getD k 0) : Hid (∀ j, j < k + 1 → zs.getD j 0 = ys.getD j 0) := fun j hj => by
  by_cases e : j = k
  · subst e; exact hk
  · exact h j (by omega)

theorem ints_done {zs ys : List Int} (hl : zs.length = ys.length) (h : ∀ j, j < zs.length → zs.getD j 0 = ys.getD j 0) : zs = ys := by
  apply List.ext_getElem hl
  intro j h1 h2
  have := h j h1
  simpa [List.getD_eq_getElem?_getD, h1, h2] using this

/-- The marks k, k + 1 .. as bytes. -/
def marksB (k : Int) (n : Nat) : List Int := (List.range n).map fun (j : Nat) => (k + (j : Int)) % 256
@[simp] theorem length_marksB (k : Int) (n : Nat) : (marksB k n).length = n := by simp [marksB]
theorem marksB_at (k : Int) (n j : Nat) (h : j < n) : (bytesV (marksB k n))[j]? = some (.int .u8 ((k + (j : Int)) % 256)) := by
  simp [bytesV, marksB, h]

theorem grown_trans {a b c : World} {r : Option Nat} (h : a.grownBy b r) (k : b.grownBy c r) : a.grownBy c r :=
  ⟨k.os.trans h.os, k.tape.trans h.tape, k.output.trans h.output, Nat.le_trans h.size k.size, fun i hi hne => (k.block i (Nat.lt_of_lt_of_le hi h.size) hne).trans (h.block i hi hne)⟩

end Go.Proofs.Ytdiopkegaeliaaa

/-! What the helper that tells a number as a mark answers: one text for each number; it makes memory of its own and writes into nothing else; condition: the number is at least 1 and at most 2 to the 40. -/
namespace Go.Proofs.Ytdiopkegaeliaaa
open Go.RowKit
set_option linter.unusedSimpArgs false
set_option linter.unusedVariables false

def markLoop : Nat → Nat → ByteArray → ByteArray
  | 0, _, out => out
  | f + 1, k, out => if k = 0 then out else markLoop f (k / 10) (strOfNums [48 + (k : Int) % 10] ++ out)
def markStr (k : Nat) : ByteArray := ⟨#[109]⟩ ++ markLoop k k ⟨#[]⟩

theorem conv_one {w : World} (x : Int) : (convert 72 9 (.slice (some ⟨w.heap.size, 0, none⟩) 1 1)).run Try.prog (w.alloc (.cells #[.int .u8 x] 5)) = .ok (.string (strOfNums [x])) (w.alloc (.cells #[.int .u8 x] 5)) := by
  refine run_convert_bytes_arg _ 72 5 Try.underlying72 Try.underlying5 _ 0 1 1 [x] rfl (fun i hi => ?_) 9 Try.underlying9
  have : i = 0 := by omega
  subst this
  simp

set_option maxHeartbeats 1000000 in
set_option maxRecDepth 100000 in
theorem markText_c (k0 : Nat) (w : World) (h1 : 1 ≤ k0) (h2 : k0 ≤ 1099511627776) :
    Calls Try.prog 25 #[.int .i64 (k0 : Int)] w fun e w' => e = .returned (.string (markStr k0)) ∧ Below w.heap.size w w' := by
  have h0 : ¬ ((k0 : Int) ≤ 0) := by omega
  go_enter Try.func25, Try.ntmps25
  go_wp2
  go_loopw [0, 3] (fun vk vo wr => ∃ (k f : Nat) (out : ByteArray), vk = .int .i64 (k : Int) ∧ vo = .string out ∧ k ≤ f ∧ k ≤ k0 ∧ out.size + k ≤ k0 ∧ Hid (markLoop f k out = markLoop k0 k0 ⟨#[]⟩) ∧ Below w.heap.size w wr) (fun vk _ _ => (intOf vk).toNat)
  case atStart => exact ⟨k0, k0, _, rfl, rfl, Nat.le_refl _, Nat.le_refl _, Nat.le_of_eq (Nat.zero_add _), rfl, Below.refl _ _⟩
  case round =>
    obtain ⟨k, f, out, rfl, rfl, hkf, hk0, hsz, hh, hbr⟩ := hrel
    have hcv := conv_one (w := wr) (48 + (k : Int) % 10)
    have h1s : (strOfNums [48 + (k : Int) % 10]).size = 1 := strOfNums_size _
    go_wp2
    · have hkp : 0 < k := by omega
      obtain ⟨f, rfl⟩ : ∃ f', f = f' + 1 := ⟨f - 1, by omega⟩
      go_roundw
      case rel =>
        refine ⟨k / 10, f, _, by go_num, rfl, by omega, by omega, ?_, ?_, hbr.alloc hbr.size _⟩
        · rw [ByteArray.size_append, h1s]; omega
        · show _ = _
          rw [← hh.out, markLoop, if_neg (by omega)]
      case measure => simp [intOf]; omega
    · have hk : k = 0 := by omega
      subst hk
      have e : markLoop f 0 out = out := by cases f <;> simp [markLoop]
      go_ret
      exact ⟨by rw [markStr, ← hh.out, e]; rfl, hbr⟩
end Go.Proofs.Ytdiopkegaeliaaa

/-! What the helpers over lists of texts answer (a copy, whether two are alike, marking, whether the marks are held, how much there is): contracts for the walks, over any world; conditions: the lists lie in memory as told, and are no longer than 2 to the 40. -/
namespace Go.Proofs.Ytdiopkegaeliaaa
open Go.RowKit
set_option linter.unusedSimpArgs false
set_option linter.unusedVariables false

def strsV (ss : List ByteArray) : List Value := ss.map Value.string
@[simp] theorem length_strsV (ss : List ByteArray) : (strsV ss).length = ss.length := by simp [strsV]
theorem strsV_at (ss : List ByteArray) (j : Nat) (h : j < ss.length) : (strsV ss)[j]? = some (.string ss[j]) := by simp [strsV, h]
theorem infoS : (Try.prog.info? 9).map (fun i => (i.zero, i.size, i.bytes)) = some (some (.string ⟨#[]⟩), 1, 16) := by kernel_rfl

theorem reads_strs {w : World} {v : Value} {ss : List ByteArray} (h : Reads w v (strsV ss)) :
    ∃ a cap, v = .slice a ss.length cap ∧ ss.length ≤ cap ∧ (ss = [] ∨ ∃ b off, a = some ⟨b, off, none⟩ ∧ b < w.heap.size ∧ ∀ k (h : k < ss.length), w.cell? ⟨b, off + k, none⟩ = some (.string ss[k])) := by
  obtain ⟨a, cap, hv, hcp, hc⟩ := h
  rw [length_strsV] at hv hcp
  refine ⟨a, cap, hv, hcp, ?_⟩
  rcases hc with hc | ⟨b, off, rfl, hlt, hc⟩
  · exact .inl (by simpa [strsV] using hc)
  · refine .inr ⟨b, off, rfl, hlt, fun k hk => ?_⟩
    rw [hc k (by simpa using hk)]
    simp [strsV]

set_option maxHeartbeats 1000000 in
set_option maxRecDepth 100000 in
theorem toStrs_c (v : Value) (ss : List ByteArray) (w : World) (hr : Reads w v (strsV ss)) (hn : ss.length ≤ 1099511627776) :
    Calls Try.prog 8 #[v] w fun e w' => ∃ g, e = .returned (.slice (some ⟨g, 0, none⟩) ss.length ss.length) ∧ w'.ownsRow w.heap.size 9 1 (.slice (some ⟨g, 0, none⟩) ss.length ss.length) ss.length (strsV ss) ∧ Below w.heap.size w w' := by
  obtain ⟨a, cap, rfl, _, hc⟩ := reads_strs hr
  clear hr
  obtain ⟨i0, hi, hz0, hz1, hz2⟩ := info_parts infoS
  rcases hc with rfl | ⟨b, off, rfl, hlt, hc⟩
  · go_enter Try.func8, Try.ntmps8
    go_wp2_with (first
      | (at_make; refine wpList_make_full _ rfl _ _ 23 rfl w.heap.size 9 i0 (.string ⟨#[]⟩) 1 Try.underlying23 hi hz0 hz1 _ _ _ _ 0 rfl rfl rfl rfl (by omega) (by unfold maxLen; omega) (Nat.le_refl _) ?_))
    intro w1 hown hgrow
    have hb1 := below_of_grown hgrow
    go_wp2
    go_loopw [4] (fun vi wr => vi = .int .i64 0 ∧ wr = w1) (fun _ _ => 0)
    case atStart => exact ⟨rfl, rfl⟩
    case round =>
      obtain ⟨rfl, rfl⟩ := hrel
      go_wp2
      go_ret
      exact ⟨_, rfl, owns_empty hown, hb1⟩
  · go_enter Try.func8, Try.ntmps8
    go_wp2_with (first
      | (at_make; refine wpList_make_full _ rfl _ _ 23 rfl w.heap.size 9 i0 (.string ⟨#[]⟩) 1 Try.underlying23 hi hz0 hz1 _ _ _ _ ss.length rfl rfl rfl rfl (by rw [hz2]; omega) (by unfold maxLen; omega) (Nat.le_refl _) ?_))
    intro w1 hown hgrow
    have hb1 := below_of_grown hgrow
    obtain ⟨ys1, hl1, hown1⟩ : ∃ ys, ys.length = ss.length ∧ w1.ownsRow w.heap.size 9 1 (.slice (some ⟨w.heap.size, 0, none⟩) ss.length ss.length) ss.length ys := ⟨_, by simpa using hown.1, hown⟩
    clear hgrow hown
    go_wp2
    go_loopw [4] (fun vi wr => ∃ (k : Nat) (ys : List Value), k ≤ ss.length ∧ vi = .int .i64 (k : Int) ∧ wr.ownsRow w.heap.size 9 1 (.slice (some ⟨w.heap.size, 0, none⟩) ss.length ss.length) ss.length ys ∧ Hid (ys.length = ss.length ∧ ∀ j, j < k → ys[j]? = (strsV ss)[j]?) ∧ Below w.heap.size w wr) (fun vi _ => ss.length - (intOf vi).toNat)
    case atStart => exact ⟨0, ys1, Nat.zero_le _, rfl, hown1, ⟨hl1, fun j hj => by omega⟩, hb1⟩
    case round =>
      obtain ⟨k, ys, hk, rfl, hownr, hy, hbr⟩ := hrel
      by_cases hlt' : k < ss.length
      · have hcx : wr.cell? ⟨b, off + k, none⟩ = some (.string ss[k]) := (hbr.cell (p := ⟨b, off + k, none⟩) hlt).trans (hc k hlt')
        have hcy : wr.cell? ⟨w.heap.size, k, none⟩ = some (ys.getD k undef) := by
          rw [hownr.cellAt k (by omega)]; simp [List.getD_eq_getElem?_getD, hy.out.1, hlt']
        have hfr := hownr.frozenAt k
        have hat := strsV_at ss k hlt'
        obtain ⟨t, ht⟩ : ∃ t, t = ss[k] := ⟨_, rfl⟩
        rw [← ht] at hcx hat
        have HA : Hid ((strsV ss)[k]? = some (.string t)) := hat
        have hki : (k : Int) < (ss.length : Int) := by omega
        clear hc hown1 hb1 hi hz0 hz1 hz2 hl1 ht hat
        go_wp2
        go_roundw
        case rel => exact ⟨k + 1, ys.set k (.string t), by omega, by go_num, (hownr.stored k _).1, set_step hlt' hy.out HA.out, hbr.setCell (Nat.le_refl _) _⟩
        case measure => simp [intOf]; omega
      · have he : k = ss.length := by omega
        subst he
        clear hc hown1 hb1 hi hz0 hz1 hz2 hl1
        go_wp2
        go_ret
        refine ⟨_, rfl, ?_, hbr⟩
        have e : ys = strsV ss := list_done hy.out.1 (by simp) hy.out.2
        rw [← e]
        exact hownr

theorem bytes_eq_of_toList {a b : ByteArray} (h : a.toList = b.toList) : a = b := by
  rw [ByteArray.toList_eq, ByteArray.toList_eq] at h
  exact ByteArray.ext (Array.toList_inj.1 h)

theorem strs_done {ss ts : List ByteArray} (hl : ss.length = ts.length) (h : ∀ j (h1 : j < ss.length) (h2 : j < ts.length), ss[j] = ts[j]) : ss = ts := List.ext_getElem hl h

set_option maxHeartbeats 1000000 in
set_option maxRecDepth 100000 in
theorem eqStrs_c (v u : Value) (ss ts : List ByteArray) (w : World) (hv : Reads w v (strsV ss)) (hu : Reads w u (strsV ts)) (hn : ss.length ≤ 1099511627776) :
    Calls Try.prog 10 #[v, u] w fun e w' => e = .returned (.bool (decide (ss = ts))) ∧ Below w.heap.size w w' := by
  obtain ⟨a, cap, rfl, _, hc⟩ := reads_strs hv
  obtain ⟨a2, cap2, rfl, _, hc2⟩ := reads_strs hu
  clear hv hu
  by_cases hl : ss.length = ts.length
  · rcases hc with rfl | ⟨b, off, rfl, hlt, hc⟩
    · have : ts = [] := List.eq_nil_of_length_eq_zero (by simpa using hl.symm)
      subst this
      go_enter Try.func10, Try.ntmps10
      go_wp2
      go_loopw [5] (fun vi wr => vi = .int .i64 0 ∧ wr = w) (fun _ _ => 0)
      case atStart => exact ⟨rfl, rfl⟩
      case round =>
        obtain ⟨rfl, rfl⟩ := hrel
        go_wp2
        go_ret
        exact ⟨rfl, Below.refl _ _⟩
    rcases hc2 with rfl | ⟨b2, off2, rfl, hlt2, hc2⟩
    · have : ss = [] := List.eq_nil_of_length_eq_zero (by simpa using hl)
      subst this
      go_enter Try.func10, Try.ntmps10
      go_wp2
      go_loopw [5] (fun vi wr => vi = .int .i64 0 ∧ wr = w) (fun _ _ => 0)
      case atStart => exact ⟨rfl, rfl⟩
      case round =>
        obtain ⟨rfl, rfl⟩ := hrel
        go_wp2
        go_ret
        exact ⟨rfl, Below.refl _ _⟩
    · have HL : Hid (ss.length = ts.length) := hl
      have hc2' : ∀ k (h : k < ts.length), w.cell? ⟨b2, off2 + k, none⟩ = some (.string ts[k]) := hc2
      have HC2 : Hid (∀ k (h : k < ts.length), w.cell? ⟨b2, off2 + k, none⟩ = some (.string ts[k])) := hc2'
      rw [← hl]
      clear hl hc2 hc2'
      go_enter Try.func10, Try.ntmps10
      go_wp2
      go_loopw [5] (fun vi wr => ∃ k : Nat, k ≤ ss.length ∧ vi = .int .i64 (k : Int) ∧ Hid (∀ j (h1 : j < ss.length) (h2 : j < ts.length), j < k → ss[j] = ts[j]) ∧ Below w.heap.size w wr) (fun vi _ => ss.length - (intOf vi).toNat)
      case atStart => exact ⟨0, Nat.zero_le _, rfl, fun j h1 h2 hj => by omega, Below.refl _ _⟩
      case round =>
        obtain ⟨k, hk, rfl, hy, hbr⟩ := hrel
        by_cases hlt' : k < ss.length
        · have hlt2' : k < ts.length := by have := HL.out; omega
          have hcx : wr.cell? ⟨b, off + k, none⟩ = some (.string ss[k]) := (hbr.cell (p := ⟨b, off + k, none⟩) hlt).trans (hc k hlt')
          have hcy : wr.cell? ⟨b2, off2 + k, none⟩ = some (.string ts[k]) := (hbr.cell (p := ⟨b2, off2 + k, none⟩) hlt2).trans (HC2.out k hlt2')
          obtain ⟨x, hx⟩ : ∃ x, x = ss[k] := ⟨_, rfl⟩
          obtain ⟨y, hy'⟩ : ∃ y, y = ts[k] := ⟨_, rfl⟩
          rw [← hx] at hcx
          rw [← hy'] at hcy
          have HX : Hid (x = ss[k]) := hx
          have HY : Hid (y = ts[k]) := hy'
          have hki : (k : Int) < (ss.length : Int) := by omega
          clear hc hx hy'
          go_wp2
          go_quiet (fail)
          go_wp2
          · have hne : (!x.toList == y.toList) = true := by assumption
            have hne' : ¬ ss = ts := fun e => by
              have e1 := HX.out; have e2 := HY.out; subst e; rw [← e2] at e1; subst e1; simp at hne
            go_ret
            exact ⟨by simp [hne'], below_drewN' hbr _⟩
          · have he : (!x.toList == y.toList) = false := by assumption
            have he' : x = y := bytes_eq_of_toList (by simpa using he)
            go_roundw
            case rel => exact ⟨k + 1, by omega, by go_num, fun j h1 h2 hj => (by
              by_cases e : j = k
              · subst e; rw [← HX.out, ← HY.out]; exact he'
              · exact hy.out j h1 h2 (by omega)), below_drewN' hbr _⟩
            case measure => simp [intOf]; omega
        · clear hc
          have he : k = ss.length := by omega
          subst he
          have e : ss = ts := strs_done HL.out (fun j h1 h2 => hy.out j h1 h2 h1)
          go_wp2
          go_ret
          exact ⟨by simp [e], hbr⟩
  · have hne : ¬ ss = ts := fun e => hl (by rw [e])
    have hl' : ((ss.length : Int) != (ts.length : Int)) = true := by simp; omega
    rw [decide_eq_false hne]
    clear hc hc2
    go_enter Try.func10, Try.ntmps10
    go_wp2
    go_ret
    exact ⟨rfl, Below.refl _ _⟩

/-- The marks k, k + 1 .. as texts. -/
def marksS (k n : Nat) : List ByteArray := (List.range n).map fun j => markStr (k + j)
@[simp] theorem length_marksS (k n : Nat) : (marksS k n).length = n := by simp [marksS]
theorem marksS_at (k n j : Nat) (h : j < n) : (strsV (marksS k n))[j]? = some (.string (markStr (k + j))) := by
  simp [strsV, marksS, h]

set_option maxHeartbeats 1000000 in
set_option maxRecDepth 100000 in
theorem markStrs_c (v : Value) (base n : Nat) (xs : List Value) (k0 : Nat) (w : World) (hv : w.ownsRow base 9 1 v n xs) (h0 : 1 ≤ k0) (h1 : k0 ≤ 4294967296) (hn : n ≤ 4294967296) (hbw : base ≤ w.heap.size) :
    Calls Try.prog 13 #[v, .int .i64 (k0 : Int)] w fun e w' => e = .returned (.int .i64 ((k0 : Int) + (n : Int))) ∧ w'.ownsRow base 9 1 v n (strsV (marksS k0 n)) ∧ w.grownBy w' v.ownBlock := by
  have hv0 := hv
  rcases hv.2 with ⟨rfl, rfl⟩ | ⟨g, cap, cur, rfl, hb, hg, hcap, hmax, hsz, htake⟩
  · clear hv0
    go_enter Try.func13, Try.ntmps13
    go_wp2
    go_loopw [1, 5] (fun vk vi wr => vk = .int .i64 (k0 : Int) ∧ vi = .int .i64 0 ∧ wr = w) (fun _ _ _ => 0)
    case atStart => exact ⟨rfl, rfl, rfl⟩
    case round =>
      obtain ⟨rfl, rfl, rfl⟩ := hrel
      go_wp2
      go_ret
      exact ⟨by simp, by rw [show strsV (marksS k0 0) = [] from rfl]; exact owns_empty hv, World.grownBy.refl _ _⟩
  · have hl : xs.length = n := by simpa using hv.1
    have hgl := (Array.getElem?_eq_some_iff.1 hg).1
    clear hb hg hsz htake hv0
    go_enter Try.func13, Try.ntmps13
    go_wp2
    go_loopw [1, 5] (fun vk vi wr => ∃ (k : Nat) (ys : List Value), k ≤ n ∧ vi = .int .i64 (k : Int) ∧ vk = .int .i64 ((k0 : Int) + (k : Int)) ∧ wr.ownsRow base 9 1 (.slice (some ⟨g, 0, none⟩) n cap) n ys ∧ Hid (ys.length = n ∧ ∀ j, j < k → ys[j]? = (strsV (marksS k0 n))[j]?) ∧ w.grownBy wr (some g)) (fun _ vi _ => n - (intOf vi).toNat)
    case atStart => exact ⟨0, xs, Nat.zero_le _, rfl, by simp, hv, ⟨hl, fun j hj => by omega⟩, World.grownBy.refl _ _⟩
    case round =>
      obtain ⟨k, ys, hk, rfl, rfl, hownr, hy, hbr⟩ := hrel
      clear hv hl
      by_cases hlt' : k < n
      · have hki : (k : Int) < (n : Int) := by omega
        have hm := markText_c (k0 + k) wr (by omega) (by omega)
        have ec : ((k0 + k : Nat) : Int) = (k0 : Int) + (k : Int) := Int.natCast_add k0 k
        rw [ec] at hm
        go_wp2_with (
          go_at_call 25
          refine hm.mono ?_
          rintro e w1 ⟨rfl, b1⟩
          have hown1 := owns_of_below hownr b1
          have hcy : w1.cell? ⟨g, k, none⟩ = some (ys.getD k undef) := by
            rw [hown1.cellAt k (by omega)]; simp [List.getD_eq_getElem?_getD, hy.out.1, hlt']
          have hfr := hown1.frozenAt k
          clear hm hownr)
        go_roundw
        case rel => exact ⟨k + 1, ys.set k _, by omega, by go_num, by go_num, (hown1.stored k _).1, set_step hlt' hy.out (marksS_at k0 n k hlt'), grown_trans (grown_trans hbr (grown_of_below b1 _)) (hown1.stored k _).2⟩
        case measure => simp [intOf]; omega
      · have he : k = n := by omega
        subst he
        have e : ys = strsV (marksS k0 k) := list_done hy.out.1 (by simp) hy.out.2
        go_wp2
        go_ret
        refine ⟨rfl, ?_, hbr⟩
        rw [← e]
        exact hownr

set_option maxHeartbeats 1000000 in
set_option maxRecDepth 100000 in
theorem heldStrs_c (v : Value) (n : Nat) (k0 : Nat) (w : World) (hv : Reads w v (strsV (marksS k0 n))) (h0 : 1 ≤ k0) (h1 : k0 ≤ 4294967296) (hn : n ≤ 4294967296) :
    Calls Try.prog 14 #[v, .int .i64 (k0 : Int)] w fun e w' => e = .returned (.int .i64 ((k0 : Int) + (n : Int))) ∧ Below w.heap.size w w' := by
  obtain ⟨a, cap, hvv, _, hc⟩ := reads_strs hv
  rw [length_marksS] at hvv
  subst hvv
  clear hv
  rcases hc with hc | ⟨b, off, rfl, hlt, hc⟩
  · have : n = 0 := by have := congrArg List.length hc; simpa using this
    subst this
    go_enter Try.func14, Try.ntmps14
    go_wp2
    go_loop [1, 5] (fun vk vi => vk = .int .i64 (k0 : Int) ∧ vi = .int .i64 0) (fun _ _ => 0)
    case atStart => exact ⟨rfl, rfl⟩
    case round =>
      obtain ⟨rfl, rfl⟩ := hrel
      go_wp2
      go_ret
      exact ⟨by simp, Below.refl _ _⟩
  · have hc' : ∀ k, k < n → w.cell? ⟨b, off + k, none⟩ = some (.string (markStr (k0 + k))) := fun k hk => by
      rw [hc k (by simpa using hk)]
      simp [marksS]
    clear hc
    go_enter Try.func14, Try.ntmps14
    go_wp2
    go_loopw [1, 5] (fun vk vi wr => ∃ k : Nat, k ≤ n ∧ vi = .int .i64 (k : Int) ∧ vk = .int .i64 ((k0 : Int) + (k : Int)) ∧ Below w.heap.size w wr) (fun _ vi _ => n - (intOf vi).toNat)
    case atStart => exact ⟨0, Nat.zero_le _, rfl, by simp, Below.refl _ _⟩
    case round =>
      obtain ⟨k, hk, rfl, rfl, hbr⟩ := hrel
      by_cases hlt' : k < n
      · have hki : (k : Int) < (n : Int) := by omega
        obtain ⟨ms, hms⟩ : ∃ ms, ms = markStr (k0 + k) := ⟨_, rfl⟩
        have hm := fun w' => markText_c (k0 + k) w' (by omega) (by omega)
        have ec : ((k0 + k : Nat) : Int) = (k0 : Int) + (k : Int) := by omega
        have hcx : ∀ w', Below wr.heap.size wr w' → w'.cell? ⟨b, off + k, none⟩ = some (.string (markStr (k0 + k))) := fun w' hb' => (hb'.cell (p := ⟨b, off + k, none⟩) (Nat.lt_of_lt_of_le hlt hbr.size)).trans ((hbr.cell (p := ⟨b, off + k, none⟩) hlt).trans (hc' k hlt'))
        rw [ec] at hm
        rw [← hms] at hm hcx
        have hcx0 := hcx wr (Below.refl _ _)
        clear hc' hms
        go_wp2
        go_region_with (
          go_at_call 25
          refine (hm _).mono ?_
          rintro e w1 ⟨rfl, b1⟩
          have b1' : Below wr.heap.size wr w1 := ⟨b1.os, b1.tape, b1.output, b1.size, b1.block⟩
          have hcx1 := hcx w1 b1'
          clear b1)
        all_goals (
          have hb2 := hbr.trans (b1'.mono hbr.size)
          clear hm hcx
          go_wp2
          go_roundw
          case rel => exact ⟨k + 1, by omega, by go_num, by go_num, hb2⟩
          case measure => simp [intOf]; omega)
      · have he : k = n := by omega
        subst he
        clear hc'
        go_wp2
        go_ret
        exact ⟨rfl, hbr⟩

/-- How many texts and letters there are. -/
def bulkS (ss : List ByteArray) : Nat := ss.length + (ss.map ByteArray.size).sum

theorem sum_take_succ (ss : List ByteArray) (k : Nat) (h : k < ss.length) : ((ss.take (k + 1)).map ByteArray.size).sum = ((ss.take k).map ByteArray.size).sum + ss[k].size := by
  rw [List.take_succ_eq_append_getElem h, List.map_append, List.sum_append]
  simp
theorem sum_take_le (ss : List ByteArray) (k : Nat) : ((ss.take k).map ByteArray.size).sum ≤ (ss.map ByteArray.size).sum := by
  have h : (ss.map ByteArray.size).sum = ((ss.take k).map ByteArray.size).sum + ((ss.drop k).map ByteArray.size).sum := by
    rw [← List.sum_append, ← List.map_append, List.take_append_drop]
  omega

/-- What the count answers: what is left, or -1. -/
def leftS (ss : List ByteArray) (left : Int) : Int := if (bulkS ss : Int) ≤ left then left - (bulkS ss : Int) else -1

set_option maxHeartbeats 1000000 in
set_option maxRecDepth 100000 in
theorem sizeStrs_c (v : Value) (ss : List ByteArray) (w : World) (hv : Reads w v (strsV ss)) (hn : ss.length ≤ maxLen) (hs : ∀ s ∈ ss, s.size ≤ maxLen) :
    Calls Try.prog 5 #[v, .int .i64 1048576] w fun e w' => e = .returned (.int .i64 (leftS ss 1048576)) ∧ w = w' := by
  obtain ⟨a, cap, rfl, _, hc⟩ := reads_strs hv
  clear hv
  unfold maxLen at hn hs
  by_cases h0 : 1048576 < ss.length
  · have hneg : (1048576 : Int) - (ss.length : Int) < 0 := by omega
    have e : leftS ss 1048576 = -1 := by rw [leftS, bulkS, if_neg (by omega)]
    rw [e]
    clear hc hs
    go_enter Try.func5, Try.ntmps5
    go_wp2
    go_ret
    exact ⟨rfl, rfl⟩
  · have hpos : ¬ ((1048576 : Int) - (ss.length : Int) < 0) := by omega
    rcases hc with rfl | ⟨b, off, rfl, hlt, hc⟩
    · go_enter Try.func5, Try.ntmps5
      go_wp2
      go_loop [1, 5] (fun vl vi => vl = .int .i64 1048576 ∧ vi = .int .i64 0) (fun _ _ => 0)
      case atStart => exact ⟨rfl, rfl⟩
      case round =>
        obtain ⟨rfl, rfl⟩ := hrel
        go_wp2
        go_ret
        exact ⟨rfl, rfl⟩
    · go_enter Try.func5, Try.ntmps5
      go_wp2
      go_loop [1, 5] (fun vl vi => ∃ (k : Nat) (l : Int), k ≤ ss.length ∧ vi = .int .i64 (k : Int) ∧ vl = .int .i64 l ∧ 0 ≤ l ∧ l ≤ 1048576 ∧ Hid (l = 1048576 - (ss.length : Int) - (((ss.take k).map ByteArray.size).sum : Int))) (fun _ vi => ss.length - (intOf vi).toNat)
      case atStart => exact ⟨0, _, Nat.zero_le _, rfl, rfl, by omega, by omega, by show _ = _; simp⟩
      case round =>
        obtain ⟨k, l, hk, rfl, rfl, hl0, hl1, hl⟩ := hrel
        by_cases hlt' : k < ss.length
        · have hcx := hc k hlt'
          have hsk := hs ss[k] (List.getElem_mem hlt')
          have hsum := sum_take_succ ss k hlt'
          obtain ⟨t, ht⟩ : ∃ t, t = ss[k] := ⟨_, rfl⟩
          rw [← ht] at hcx hsk hsum
          have HS : Hid (((ss.take (k + 1)).map ByteArray.size).sum = ((ss.take k).map ByteArray.size).sum + t.size) := hsum
          have hki : (k : Int) < (ss.length : Int) := by omega
          clear hc hs ht hsum
          by_cases hneg : l - (t.size : Int) < 0
          · have e : leftS ss 1048576 = -1 := by
              have h1 := HS.out; have h2 := hl.out; have h3 := sum_take_le ss (k + 1)
              rw [leftS, bulkS, if_neg (by omega)]
            have HE : Hid (leftS ss 1048576 = -1) := e
            clear e
            go_wp2
            go_ret
            exact ⟨by rw [HE.out]; rfl, rfl⟩
          · go_wp2
            go_round
            case rel => exact ⟨k + 1, l - (t.size : Int), by omega, by go_num, rfl, by omega, by omega, (by show _ = _; rw [HS.out, hl.out]; omega)⟩
            case measure => simp [intOf]; omega
        · have he : k = ss.length := by omega
          subst he
          have e : leftS ss 1048576 = l := by
            have h2 := hl.out
            rw [List.take_length] at h2
            rw [leftS, bulkS, if_pos (by omega)]; omega
          have HE : Hid (leftS ss 1048576 = l) := e
          clear hc hs e
          go_wp2
          go_ret
          exact ⟨by rw [HE.out]; rfl, rfl⟩
end Go.Proofs.Ytdiopkegaeliaaa

/-! What is kept of memory between two worlds, block by block, and lists of texts that lie in blocks of a set S: no condition. -/
namespace Go.Proofs.Ytdiopkegaeliaaa
open Go.RowKit
set_option linter.unusedSimpArgs false
set_option linter.unusedVariables false

/-- In blocks of S the world w' is as w was. -/
def Kp (S : Nat → Prop) (w w' : World) : Prop := ∀ b, S b → w'.heap[b]? = w.heap[b]?
theorem Kp.cell {S : Nat → Prop} {w w' : World} (h : Kp S w w') {b : Nat} (hb : S b) (o : Nat) : w'.cell? ⟨b, o, none⟩ = w.cell? ⟨b, o, none⟩ := World.cell?_of_block (w := w) (h b hb)
theorem Kp.trans {S : Nat → Prop} {a b c : World} (h : Kp S a b) (k : Kp S b c) : Kp S a c := fun i hi => (k i hi).trans (h i hi)
theorem Kp.of {S : Nat → Prop} {B : Nat} {w w' : World} (hb : Below B w w') (hS : ∀ b, S b → b < B) : Kp S w w' := fun b h => hb.block b (hS b h)
theorem Kp.set {S : Nat → Prop} {w : World} {g j : Nat} {v : Value} (h : ¬ S g) : Kp S w (w.setCell ⟨g, j, none⟩ v) := fun b hb => Below.heap_setCell w ⟨g, j, none⟩ v b (fun e => by have e' : b = g := e; subst e'; exact h hb)

/-- The blocks from lo on, below hi. -/
def Ow (lo hi : Nat) (b : Nat) : Prop := lo ≤ b ∧ b < hi
theorem Ow.mono {lo lo' hi hi' : Nat} (h1 : lo' ≤ lo) (h2 : hi ≤ hi') : ∀ b, Ow lo hi b → Ow lo' hi' b := fun b h => ⟨Nat.le_trans h1 h.1, Nat.lt_of_lt_of_le h.2 h2⟩
theorem Ow.below {lo : Nat} {w w' : World} (h : Below w.heap.size w w') : Kp (Ow lo w.heap.size) w w' := fun b hb => h.block b hb.2
theorem Ow.not {lo hi g : Nat} (h : g < lo) : ¬ Ow lo hi g := fun k => by have := k.1; omega

/-- A list of texts that lies in blocks of S. -/
def RdB (S : Nat → Prop) (w : World) (v : Value) (xs : List Value) : Prop :=
  ∃ a cap, v = .slice a xs.length cap ∧ xs.length ≤ cap ∧ (xs = [] ∨ ∃ b off, a = some ⟨b, off, none⟩ ∧ S b ∧ ∀ k (h : k < xs.length), w.cell? ⟨b, off + k, none⟩ = some xs[k])
theorem RdB.reads {S : Nat → Prop} {w : World} {v : Value} {xs : List Value} (h : RdB S w v xs) (hS : ∀ b, S b → b < w.heap.size) : Reads w v xs := by
  obtain ⟨a, cap, hv, hc, h⟩ := h
  refine ⟨a, cap, hv, hc, ?_⟩
  rcases h with h | ⟨b, off, ha, hb, h⟩
  · exact .inl h
  · exact .inr ⟨b, off, ha, hS b hb, h⟩
theorem RdB.of {w : World} {v : Value} {xs : List Value} (h : Reads w v xs) : RdB (· < w.heap.size) w v xs := h
theorem RdB.keep {S : Nat → Prop} {w w' : World} {v : Value} {xs : List Value} (hb : Kp S w w') (h : RdB S w v xs) : RdB S w' v xs := by
  obtain ⟨a, cap, hv, hc, h⟩ := h
  refine ⟨a, cap, hv, hc, ?_⟩
  rcases h with h | ⟨b, off, ha, hlt, h⟩
  · exact .inl h
  · exact .inr ⟨b, off, ha, hlt, fun k hk => (hb.cell hlt _).trans (h k hk)⟩
theorem RdB.mono {S S' : Nat → Prop} {w : World} {v : Value} {xs : List Value} (hB : ∀ b, S b → S' b) (h : RdB S w v xs) : RdB S' w v xs := by
  obtain ⟨a, cap, hv, hc, h⟩ := h
  refine ⟨a, cap, hv, hc, ?_⟩
  rcases h with h | ⟨b, off, ha, hlt, h⟩
  · exact .inl h
  · exact .inr ⟨b, off, ha, hB b hlt, h⟩
theorem rdB_owns {w : World} {base : Nat} {e : TypeId} {v : Value} {n : Nat} {xs : List Value} (h : w.ownsRow base e 1 v n xs) : RdB (Ow base w.heap.size) w v xs := by
  have h0 := reads_of_owns h
  obtain ⟨a, cap, hv, hc, hx⟩ := h0
  refine ⟨a, cap, hv, hc, ?_⟩
  rcases hx with hx | ⟨b, off, rfl, hlt, hx⟩
  · exact .inl hx
  · refine .inr ⟨b, off, rfl, ⟨?_, hlt⟩, hx⟩
    rcases h.2 with ⟨hn, _⟩ | ⟨g, cap', cur, hv', hg, _⟩
    · rw [hn] at hv; simp at hv
    · rw [hv'] at hv
      simp only [Value.slice.injEq, Option.some.injEq, Addr.mk.injEq] at hv
      omega

def leftW (n : Nat) (left : Int) : Int := if (n : Int) ≤ left then left - (n : Int) else -1
theorem leftW_good {n : Nat} {left : Int} (h : (n : Int) ≤ left) : leftW n left = left - (n : Int) := if_pos h
theorem leftW_bad {n : Nat} {left : Int} (h : ¬ (n : Int) ≤ left) : leftW n left = -1 := if_neg h
theorem vheap_new (w : World) (o : Obj) : (w.alloc o).heap[w.heap.size]? = some o := by show (w.heap.push _)[w.heap.size]? = _; simp
theorem vheap_old (w : World) (o : Obj) {b : Nat} (h : b < w.heap.size) : (w.alloc o).heap[b]? = w.heap[b]? := Below.heap_alloc w o b h
theorem vblk_cell {w : World} {b : Nat} {cs : Array Value} {t : TypeId} (h : w.heap[b]? = some (.cells cs t (0, 0))) (j : Nat) : w.cell? ⟨b, j, none⟩ = cs[j]? := cell_of_row w b j cs t (0, 0) h
theorem vblk_frozen {w : World} {b : Nat} {cs : Array Value} {t : TypeId} (h : w.heap[b]? = some (.cells cs t (0, 0))) (j : Nat) : w.frozen? ⟨b, j, none⟩ = false := frozen_of_row w b j cs t h
end Go.Proofs.Ytdiopkegaeliaaa

/-! Rows of structs that lie in memory: what an element's cells are is handed in; that they are kept, copied cell by cell, and how much they hold; no condition. -/
namespace Go.Proofs.Ytdiopkegaeliaaa
open Go.RowKit
set_option linter.unusedSimpArgs false
set_option linter.unusedVariables false

theorem hidden {p : Prop} (h : p) : Hid p := h

/-- An element of a row: how many cells, and when these are it, what it refers to lying in blocks of a set. -/
structure Sh (α : Type) where
  n : Nat
  lies : (Nat → Prop) → World → List Value → α → Prop
  keep : ∀ {S : Nat → Prop} {w w' : World} {cs : List Value} {x : α}, Kp S w w' → lies S w cs x → lies S w' cs x
  mono : ∀ {S S' : Nat → Prop} {w : World} {cs : List Value} {x : α}, (∀ b, S b → S' b) → lies S w cs x → lies S' w cs x

/-- From place j of block b on lie these cells. -/
def CellsAt (w : World) (b j : Nat) (cs : List Value) : Prop := ∀ i (h : i < cs.length), w.cell? ⟨b, j + i, none⟩ = some cs[i]
theorem CellsAt.keep {S : Nat → Prop} {w w' : World} {b j : Nat} {cs : List Value} (hk : Kp S w w') (hb : S b) (h : CellsAt w b j cs) : CellsAt w' b j cs := fun i hi => (hk.cell hb _).trans (h i hi)

/-- The row v is xs. -/
def RowIn {α : Type} (sh : Sh α) (S : Nat → Prop) (w : World) (v : Value) (xs : List α) : Prop :=
  ∃ q cap, v = .slice q xs.length cap ∧ xs.length ≤ maxLen ∧ xs.length ≤ cap ∧ (xs = [] ∨ ∃ (b off : Nat), q = some ⟨b, off, none⟩ ∧ S b ∧ ∀ k (h : k < xs.length), ∃ cs, sh.lies S w cs xs[k] ∧ CellsAt w b (off + k * sh.n) cs)
theorem RowIn.keep {α : Type} {sh : Sh α} {S : Nat → Prop} {w w' : World} {v : Value} {xs : List α} (hk : Kp S w w') (h : RowIn sh S w v xs) : RowIn sh S w' v xs := by
  obtain ⟨q, cap, hv, hm, hc, h⟩ := h
  refine ⟨q, cap, hv, hm, hc, ?_⟩
  rcases h with h | ⟨b, off, hq, hb, h⟩
  · exact .inl h
  · exact .inr ⟨b, off, hq, hb, fun k hh => by obtain ⟨cs, h1, h2⟩ := h k hh; exact ⟨cs, sh.keep hk h1, h2.keep hk hb⟩⟩
theorem RowIn.mono {α : Type} {sh : Sh α} {S S' : Nat → Prop} {w : World} {v : Value} {xs : List α} (hS : ∀ b, S b → S' b) (h : RowIn sh S w v xs) : RowIn sh S' w v xs := by
  obtain ⟨q, cap, hv, hm, hc, h⟩ := h
  refine ⟨q, cap, hv, hm, hc, ?_⟩
  rcases h with h | ⟨b, off, hq, hb, h⟩
  · exact .inl h
  · exact .inr ⟨b, off, hq, hS b hb, fun k hh => by obtain ⟨cs, h1, h2⟩ := h k hh; exact ⟨cs, sh.mono hS h1, h2⟩⟩
theorem RowIn.below {α : Type} {sh : Sh α} {w w' : World} {v : Value} {xs : List α} (h : RowIn sh (· < w.heap.size) w v xs) (hb : Below w.heap.size w w') : RowIn sh (· < w'.heap.size) w' v xs :=
  (h.keep (.of hb (fun b h => h))).mono (fun b h => Nat.lt_of_lt_of_le h hb.size)
theorem RowIn.as {α : Type} {sh sh' : Sh α} {S : Nat → Prop} {w : World} {v : Value} {xs : List α} (hn : sh.n = sh'.n) (hl : ∀ S w cs x, sh.lies S w cs x → sh'.lies S w cs x) (h : RowIn sh S w v xs) : RowIn sh' S w v xs := by
  obtain ⟨q, cap, hv, hm, hc, h⟩ := h
  refine ⟨q, cap, hv, hm, hc, ?_⟩
  rcases h with h | ⟨b, off, hq, hb, h⟩
  · exact .inl h
  · exact .inr ⟨b, off, hq, hb, fun k hh => by obtain ⟨cs, h1, h2⟩ := h k hh; exact ⟨cs, hl _ _ _ _ h1, by rw [← hn]; exact h2⟩⟩
theorem RowIn.len {α : Type} {sh : Sh α} {S : Nat → Prop} {w : World} {v : Value} {xs : List α} (h : RowIn sh S w v xs) : xs.length ≤ maxLen := by
  obtain ⟨q, cap, hv, hm, hc, h⟩ := h; exact hm
theorem RowIn.slice {α : Type} {sh : Sh α} {S : Nat → Prop} {w : World} {v : Value} {xs : List α} (h : RowIn sh S w v xs) : ∃ q cap, v = .slice q xs.length cap := by
  obtain ⟨q, cap, hv, hm, hc, h⟩ := h; exact ⟨q, cap, hv⟩
theorem RowIn.at {α : Type} {sh : Sh α} {S : Nat → Prop} {w : World} {v : Value} {xs : List α} (h : RowIn sh S w v xs) {k : Nat} (hk : k < xs.length) : ∃ cs, sh.lies S w cs xs[k] := by
  obtain ⟨q, cap, hv, hm, hc, h⟩ := h
  rcases h with rfl | ⟨b, off, hq, hb, h⟩
  · simp at hk
  · obtain ⟨cs, h1, _⟩ := h k hk; exact ⟨cs, h1⟩

/-- The elements below k lie in the cells ys of a row. -/
def Laid {α : Type} (sh : Sh α) (S : Nat → Prop) (w : World) (ys : List Value) (xs : List α) (k : Nat) : Prop :=
  ∀ i (h : i < xs.length), i < k → ∃ cs, cs.length = sh.n ∧ sh.lies S w cs xs[i] ∧ ∀ j (hj : j < cs.length), ys[i * sh.n + j]? = some cs[j]
/-- The row v is xs, and may be written. -/
def RowOwn {α : Type} (sh : Sh α) (t : TypeId) (S : Nat → Prop) (w : World) (v : Value) (xs : List α) : Prop :=
  xs.length ≤ maxLen ∧ ∃ ys, w.ownsRow 0 t sh.n v xs.length ys ∧ (∀ g, v.ownBlock = some g → S g) ∧ Laid sh S w ys xs xs.length
theorem owns_lo {w : World} {lo lo' : Nat} {e : TypeId} {sz n : Nat} {v : Value} {xs : List Value} (h : lo' ≤ lo) (hg : w.ownsRow lo e sz v n xs) : w.ownsRow lo' e sz v n xs := by
  refine ⟨hg.1, ?_⟩
  rcases hg.2 with h1 | ⟨g, cap, cur, h1, h2, h3⟩
  · exact .inl h1
  · exact .inr ⟨g, cap, cur, h1, by omega, h3⟩
theorem owns_kept {S : Nat → Prop} {w w' : World} {lo : Nat} {e : TypeId} {sz n : Nat} {v : Value} {xs : List Value} (hk : Kp S w w') (hS : ∀ g, v.ownBlock = some g → S g) (hg : w.ownsRow lo e sz v n xs) : w'.ownsRow lo e sz v n xs := by
  refine ⟨hg.1, ?_⟩
  rcases hg.2 with h1 | ⟨g, cap, cur, h1, h2, h3, h4⟩
  · exact .inl h1
  · exact .inr ⟨g, cap, cur, h1, h2, (hk g (hS g (by rw [h1]; rfl))).trans h3, h4⟩
theorem owns_in {w : World} {lo : Nat} {e : TypeId} {sz n : Nat} {v : Value} {xs : List Value} (hg : w.ownsRow lo e sz v n xs) : ∀ g, v.ownBlock = some g → Ow lo w.heap.size g := fun g h => by
  rcases hg.2 with ⟨h1, _⟩ | ⟨g', cap, cur, h1, h2, h3, h4⟩
  · rw [h1] at h; simp [Value.ownBlock] at h
  · rw [h1] at h; simp [Value.ownBlock] at h; subst h
    exact ⟨h2, (Array.getElem?_eq_some_iff.1 h3).1⟩
theorem Laid.keep {α : Type} {sh : Sh α} {S : Nat → Prop} {w w' : World} {ys : List Value} {xs : List α} {k : Nat} (hk : Kp S w w') (h : Laid sh S w ys xs k) : Laid sh S w' ys xs k := fun i hi hik => by
  obtain ⟨cs, h1, h2, h3⟩ := h i hi hik; exact ⟨cs, h1, sh.keep hk h2, h3⟩
theorem Laid.mono {α : Type} {sh : Sh α} {S S' : Nat → Prop} {w : World} {ys : List Value} {xs : List α} {k : Nat} (hS : ∀ b, S b → S' b) (h : Laid sh S w ys xs k) : Laid sh S' w ys xs k := fun i hi hik => by
  obtain ⟨cs, h1, h2, h3⟩ := h i hi hik; exact ⟨cs, h1, sh.mono hS h2, h3⟩
theorem RowOwn.keep {α : Type} {sh : Sh α} {t : TypeId} {S : Nat → Prop} {w w' : World} {v : Value} {xs : List α} (hk : Kp S w w') (h : RowOwn sh t S w v xs) : RowOwn sh t S w' v xs := by
  obtain ⟨h0, ys, h1, h2, h3⟩ := h
  exact ⟨h0, ys, owns_kept hk h2 h1, h2, h3.keep hk⟩
theorem RowOwn.mono {α : Type} {sh : Sh α} {t : TypeId} {S S' : Nat → Prop} {w : World} {v : Value} {xs : List α} (hS : ∀ b, S b → S' b) (h : RowOwn sh t S w v xs) : RowOwn sh t S' w v xs := by
  obtain ⟨h0, ys, h1, h2, h3⟩ := h
  exact ⟨h0, ys, h1, fun g hg => hS g (h2 g hg), h3.mono hS⟩
theorem RowOwn.plain {α : Type} {sh : Sh α} {t : TypeId} {S : Nat → Prop} {w : World} {v : Value} {xs : List α} (h : RowOwn sh t S w v xs) : RowIn sh S w v xs := by
  obtain ⟨hm, ys, h1, h2, h3⟩ := h
  rcases id h1.2 with ⟨rfl, h0⟩ | ⟨g, cap, cur, rfl, _, hg, hc, _⟩
  · exact ⟨none, 0, by rw [h0], hm, by omega, .inl (List.eq_nil_of_length_eq_zero h0)⟩
  · refine ⟨_, _, rfl, hm, hc, .inr ⟨g, 0, rfl, h2 g rfl, fun k hk => ?_⟩⟩
    obtain ⟨cs, e1, e2, e3⟩ := h3 k hk hk
    refine ⟨cs, e2, fun i hi => ?_⟩
    have hlt : k * sh.n + i < xs.length * sh.n := by
      have : (k + 1) * sh.n ≤ xs.length * sh.n := Nat.mul_le_mul_right _ hk
      rw [Nat.add_mul, Nat.one_mul] at this
      omega
    rw [Nat.zero_add, h1.cellAt _ hlt]
    exact e3 i hi

/-- Cells put one behind the other, from place j on. -/
def putL (ys : List Value) (j : Nat) : List Value → List Value
  | [] => ys
  | c :: cs => putL (ys.set j c) (j + 1) cs
def setW (w : World) (g j : Nat) : List Value → World
  | [] => w
  | c :: cs => setW (w.setCell ⟨g, j, none⟩ c) g (j + 1) cs
theorem putL_length (cs : List Value) : ∀ (ys : List Value) (j : Nat), (putL ys j cs).length = ys.length := by
  induction cs with
  | nil => intro ys j; rfl
  | cons c cs ih => intro ys j; show (putL (ys.set j c) (j + 1) cs).length = _; rw [ih]; simp
theorem putL_out (cs : List Value) : ∀ (ys : List Value) (j i : Nat), (i < j ∨ j + cs.length ≤ i) → (putL ys j cs)[i]? = ys[i]? := by
  induction cs with
  | nil => intro ys j i h; rfl
  | cons c cs ih =>
    intro ys j i h
    show (putL (ys.set j c) (j + 1) cs)[i]? = _
    simp at h
    rw [ih _ _ _ (by omega), List.getElem?_set_ne (by omega)]
theorem putL_in (cs : List Value) : ∀ (ys : List Value) (j i : Nat), j + cs.length ≤ ys.length → i < cs.length → (putL ys j cs)[j + i]? = cs[i]? := by
  induction cs with
  | nil => intro ys j i h hi; simp at hi
  | cons c cs ih =>
    intro ys j i h hi
    show (putL (ys.set j c) (j + 1) cs)[j + i]? = _
    simp at h hi
    cases i with
    | zero => rw [putL_out _ _ _ _ (by omega)]; simp [List.getElem?_set, show j < ys.length by omega]
    | succ i => rw [show j + (i + 1) = (j + 1) + i by omega, ih _ _ _ (by simp; omega) (by omega)]; simp
theorem setW_size (cs : List Value) : ∀ (w : World) (g j : Nat), (setW w g j cs).heap.size = w.heap.size := by
  induction cs with
  | nil => intro w g j; rfl
  | cons c cs ih => intro w g j; show (setW (w.setCell ⟨g, j, none⟩ c) g (j + 1) cs).heap.size = _; rw [ih]; simp [World.setCell]
theorem setW_kp {S : Nat → Prop} {g : Nat} (hg : ¬ S g) (cs : List Value) : ∀ (w : World) (j : Nat), Kp S w (setW w g j cs) := by
  induction cs with
  | nil => intro w j b hb; rfl
  | cons c cs ih => intro w j; exact (Kp.set hg).trans (ih _ _)
theorem setW_below {B g : Nat} (hg : B ≤ g) (cs : List Value) : ∀ (w w0 : World) (j : Nat), Below B w0 w → Below B w0 (setW w g j cs) := by
  induction cs with
  | nil => intro w w0 j h; exact h
  | cons c cs ih => intro w w0 j h; exact ih _ _ _ (Below.setCell h hg _)
theorem setW_owns {lo g n cap sz : Nat} {t : TypeId} (cs : List Value) : ∀ (w : World) (ys : List Value) (j : Nat), w.ownsRow lo t sz (.slice (some ⟨g, 0, none⟩) n cap) n ys → (setW w g j cs).ownsRow lo t sz (.slice (some ⟨g, 0, none⟩) n cap) n (putL ys j cs) := by
  induction cs with
  | nil => intro w ys j h; exact h
  | cons c cs ih => intro w ys j h; exact ih _ _ _ (h.stored j c).1

theorem Laid.step {α : Type} {sh : Sh α} {lo : Nat} {w w2 : World} {ys : List Value} {xs : List α} {k : Nat} (h : Laid sh (Ow lo w.heap.size) w ys xs k) (hk : k < xs.length) (hy : ys.length = xs.length * sh.n) (hb : Below w.heap.size w w2) {g : Nat} (hg : g < lo) {cs : List Value}
    (hn : cs.length = sh.n) (hu : sh.lies (Ow lo w2.heap.size) w2 cs xs[k]) : Laid sh (Ow lo (setW w2 g (k * sh.n) cs).heap.size) (setW w2 g (k * sh.n) cs) (putL ys (k * sh.n) cs) xs (k + 1) := fun i hi hik => by
  rw [setW_size]
  have hle : (k + 1) * sh.n ≤ xs.length * sh.n := Nat.mul_le_mul_right _ hk
  rw [Nat.add_mul, Nat.one_mul] at hle
  by_cases e : i = k
  · subst e
    refine ⟨cs, hn, sh.keep (setW_kp (Ow.not hg) _ _ _) hu, fun j hj => ?_⟩
    rw [putL_in _ _ _ _ (by omega) hj, List.getElem?_eq_getElem]
  · obtain ⟨cs', h1, h2, h3⟩ := h i hi (by omega)
    refine ⟨cs', h1, sh.keep (setW_kp (Ow.not hg) _ _ _) (sh.mono (Ow.mono (Nat.le_refl _) hb.size) (sh.keep (Ow.below hb) h2)), fun j hj => ?_⟩
    have hle2 : (i + 1) * sh.n ≤ k * sh.n := Nat.mul_le_mul_right _ (by omega)
    rw [Nat.add_mul, Nat.one_mul] at hle2
    rw [putL_out _ _ _ _ (by omega)]
    exact h3 j hj
theorem rowOwn_of {α : Type} {sh : Sh α} {t : TypeId} {w : World} {lo g : Nat} {ys : List Value} {xs : List α} (hg : w.ownsRow lo t sh.n (.slice (some ⟨g, 0, none⟩) xs.length xs.length) xs.length ys) (hl : xs.length ≤ maxLen)
    (h : Laid sh (Ow (lo + 1) w.heap.size) w ys xs xs.length) : RowOwn sh t (Ow lo w.heap.size) w (.slice (some ⟨g, 0, none⟩) xs.length xs.length) xs :=
  ⟨hl, ys, owns_lo (Nat.zero_le _) hg, owns_in hg, h.mono (Ow.mono (by omega) (Nat.le_refl _))⟩

/-- How much a row holds, as the law counts it. -/
def wtRow {α : Type} (f : α → Nat) (xs : List α) : Nat := (xs.map fun x => 1 + f x).sum
theorem wtRow_take {α : Type} (f : α → Nat) (xs : List α) (k : Nat) (h : k < xs.length) : wtRow f (xs.take (k + 1)) = wtRow f (xs.take k) + (1 + f xs[k]) := by
  rw [wtRow, wtRow, List.take_succ_eq_append_getElem h]; simp only [List.map_append, List.sum_append, List.map_cons, List.map_nil, List.sum_cons, List.sum_nil, Nat.add_zero]
theorem wtRow_split {α : Type} (f : α → Nat) (xs : List α) (k : Nat) : wtRow f xs = wtRow f (xs.take k) + wtRow f (xs.drop k) := by
  rw [wtRow, wtRow, wtRow, ← List.sum_append, ← List.map_append, List.take_append_drop]
theorem len_wtRow {α : Type} (f : α → Nat) (xs : List α) : xs.length ≤ wtRow f xs := by
  induction xs with
  | nil => simp [wtRow]
  | cons d ds ih => simp [wtRow] at ih ⊢; omega
theorem wt_wtRow {α : Type} (f : α → Nat) {xs : List α} {x : α} (h : x ∈ xs) : f x ≤ wtRow f xs := by
  induction xs with
  | nil => simp at h
  | cons y xs ih =>
    simp [wtRow] at ih ⊢
    rcases List.mem_cons.1 h with rfl | h
    · omega
    · have := ih h; omega
theorem leftW_seq {a b : Nat} {left : Int} (h : 0 ≤ leftW a left) : leftW b (leftW a left) = leftW (a + b) left := by
  have ha : (a : Int) ≤ left := by
    by_cases h2 : (a : Int) ≤ left
    · exact h2
    · rw [leftW_bad h2] at h; omega
  rw [leftW_good ha]
  by_cases h2 : (b : Int) ≤ left - (a : Int)
  · rw [leftW_good h2, leftW_good (by omega)]; omega
  · rw [leftW_bad h2, leftW_bad (by omega)]
theorem leftW_neg {a b : Nat} {left : Int} (hl : 0 ≤ left) (h : leftW a left < 0) : leftW (a + b) left = -1 := by
  unfold leftW at h ⊢
  split at h
  · omega
  · rw [if_neg (by omega)]
theorem leftW_one {a : Nat} {left : Int} (h : leftW a left < 0) : leftW a left = -1 := by
  unfold leftW at h ⊢
  split at h
  · omega
  · rw [if_neg (by assumption)]
theorem leftW_le {a : Nat} {left : Int} (h : left ≤ 1048576) : leftW a left ≤ 1048576 := by
  unfold leftW; split <;> omega
theorem leftS_eqW (ss : List ByteArray) (left : Int) : leftS ss left = leftW (bulkS ss) left := rfl

/-- A parameter that was put into a block of its own is still there behind a call. -/
theorem boxAt {w w1 : World} {o : Obj} (hb : Below (w.alloc o).heap.size (w.alloc o) w1) : w1.heap[w.heap.size]? = some o := by
  rw [hb.block _ (by simp), vheap_new]
end Go.Proofs.Ytdiopkegaeliaaa

/-! Slices in a map by names: what the map in a block holds, told as a function from names; looked up, put: laws for the walks; no condition but that a name is no longer than an int can count. -/
namespace Go.Proofs.Ytdiopkegaeliaaa
open Go.RowKit Go.Maps
set_option linter.unusedSimpArgs false
set_option linter.unusedVariables false

theorem keyedC : Keyed Try.prog 9 := string_keyed Try.underlying9
theorem zeroCv (w : World) : (zeroValue 66).run Try.prog w = .ok (.slice none 0 0) w := by kernel_rfl
def klC (p : ByteArray) : Lit := .string p.data.toList
theorem klC_inj {p q : ByteArray} (h : klC p = klC q) : p = q := by
  simp only [klC, Lit.string.injEq] at h
  exact ByteArray.ext (Array.toList_inj.1 h)
theorem klC_key (p : ByteArray) : WideAt.IsKeyLit (klC p) := trivial
/-- An element as it stands. -/
def selfC (v : Value) : Option (DataW Value × List MemPlace) := some (.held v, [])

/-- Block b is a map of s entries (room for n was counted): what it holds at each name is m. -/
def MapC (w : World) (b n s : Nat) (m : ByteArray → Option Value) : Prop :=
  ∃ D : DataW Value, w.ownsMap Try.prog 9 selfC b n D ∧ Maps.size D = s ∧ ∀ p, Maps.has D (klC p) = (m p).isSome ∧ ∀ v, m p = some v → ∀ z, D.atKey (klC p) z = .held v
theorem MapC.lt {w : World} {b n s : Nat} {m : ByteArray → Option Value} (h : MapC w b n s m) : b < w.heap.size := by obtain ⟨D, h, _⟩ := h; exact h.lt
theorem MapC.drew {w : World} {b n s : Nat} {m : ByteArray → Option Value} (h : MapC w b n s m) : MapC w.drew b n s m := by obtain ⟨D, h, h2⟩ := h; exact ⟨D, h.drew, h2⟩
theorem MapC.below {w w' : World} {b n s : Nat} {m : ByteArray → Option Value} (h : MapC w b n s m) (hb : Below w.heap.size w w') : MapC w' b n s m := by obtain ⟨D, h, h2⟩ := h; exact ⟨D, h.kept (grown_of_below hb none) (by simp), h2⟩
theorem MapC.kept {w w' : World} {b n s : Nat} {m : ByteArray → Option Value} {r : Option Nat} (h : MapC w b n s m) (hb : w.grownBy w' r) (hr : r ≠ some b) : MapC w' b n s m := by
  obtain ⟨D, h, h2⟩ := h
  exact ⟨D, h.kept hb (by first | exact hr | exact fun e => hr e.symm | exact .inr hr | exact .inr (fun e => hr e.symm)), h2⟩
theorem MapC.setCell {w : World} {b n s : Nat} {m : ByteArray → Option Value} (h : MapC w b n s m) {a : Addr} (ha : b ≠ a.block) (u : Value) : MapC (w.setCell a u) b n s m := by obtain ⟨D, h, h2⟩ := h; exact ⟨D, h.setCell ha u, h2⟩
theorem MapC.mono {w : World} {b n n' s : Nat} {m : ByteArray → Option Value} (h : MapC w b n s m) (hn : n ≤ n') : MapC w b n' s m := by obtain ⟨D, h, h2⟩ := h; exact ⟨D, h.mono hn, h2⟩
theorem MapC.same {w : World} {b n s : Nat} {m m' : ByteArray → Option Value} (h : MapC w b n s m) (e : ∀ p, m' p = m p) : MapC w b n s m' := by have : m' = m := funext e; rw [this]; exact h
theorem MapC_made (w : World) : MapC (w.alloc (.map #[] 0)) w.heap.size 0 0 (fun _ => none) := ⟨_, World.ownsMap_made w _ _ _, rfl, fun p => ⟨rfl, fun f h => by cases h⟩⟩
theorem MapC.look {w : World} {b n s : Nat} {m : ByteArray → Option Value} (h : MapC w b n s m) {p : ByteArray} (hp : p.size ≤ maxLen) : (Instr.lookup 47 (.map (some b)) (.string p) true).run Try.prog w = .ok (.tuple #[(m p).getD (.slice none 0 0), .bool (m p).isSome]) w := by
  obtain ⟨D, h, _, h2⟩ := h
  obtain ⟨v, ps, hrun, hv⟩ := h.look_ok keyedC Try.underlying47 (zeroCv w) (zd := .held (.slice none 0 0)) (zp := []) rfl (WideMaps.keyOf_string_mk Try.underlying9 hp)
  rw [hrun]
  obtain ⟨h3, h4⟩ := h2 p
  have h3' : Maps.has D (.string p.data.toList) = (m p).isSome := h3
  rw [h3']
  simp only [selfC, Option.some.injEq, Prod.mk.injEq] at hv
  change DataW.held v = D.atKey (klC p) (DataW.held (.slice none 0 0)) ∧ [] = ps at hv
  cases hm : m p with
  | none =>
    rw [hm] at h3
    rw [Maps.atKey_of_not_has h3] at hv
    have := hv.1
    simp only [DataW.held.injEq] at this
    rw [this]
    rfl
  | some x =>
    rw [h4 x hm] at hv
    have := hv.1
    simp only [DataW.held.injEq] at this
    rw [this]
    rfl

theorem MapC.heap {w : World} {b n s : Nat} {m : ByteArray → Option Value} (h : MapC w b n s m) : ∃ es c, w.heap[b]? = some (.map es c) := by obtain ⟨D, ⟨es, c, h, _⟩, _⟩ := h; exact ⟨es, c, h⟩

section
variable (w : World) {ops : Array Oper} {rest : List Oper} {o : Oper} {a : Act} {Q : Exit → Act → World → Prop}

theorem wpList_lookup_C (hg : o.guard = none) (mo x : Operand) (hop : o.op = Op.lookup 47 mo x true) (b n s : Nat) (m : ByteArray → Option Value) (hm : a.eval mo = .map (some b)) (hown : MapC w b n s m) (p : ByteArray) (hx : a.eval x = .string p) (hp : p.size ≤ maxLen) (r : Value) (hr : Value.tuple #[(m p).getD (.slice none 0 0), .bool (m p).isSome] = r)
    (hK : wpList Try.prog ops Q rest (a.put o.dst r) w) : wpList Try.prog ops Q (o :: rest) a w := by
  subst hr
  refine wpList_plain hg fun K' hK' => ?_
  have hrun := hown.look hp
  unfold Oper.wp
  simp [execOp, hop, hm, hx, hrun, Result.andThen]
  exact hK' _ _ hK

theorem wpList_mapUpdate_C (hg : o.guard = none) (mo x v : Operand) (hop : o.op = Op.mapUpdate 47 mo x v) (b n s : Nat) (m : ByteArray → Option Value) (hm : a.eval mo = .map (some b)) (hown : MapC w b n s m) (hn : n < maxLen) (p : ByteArray) (hx : a.eval x = .string p) (hp : p.size ≤ maxLen)
    (val : Value) (hv : a.eval v = val) (hK : ∀ w', MapC w' b (n + 1) (if (m p).isSome = true then s else s + 1) (fun q => if q = p then some val else m q) → w.grownBy w' (some b) → wpList Try.prog ops Q rest (a.put o.dst undef) w') : wpList Try.prog ops Q (o :: rest) a w := by
  obtain ⟨D, h, hs, h2⟩ := hown
  refine wpList_mapUpdate_own w hg mo x v 47 hop 9 66 keyedC Try.underlying47 selfC b n D hm h hn _ _ (klC p) hx hv (WideMaps.keyOf_string_mk Try.underlying9 hp) (.held val) [] rfl (fun w' h' hg' => hK w' ⟨_, h', ?_, fun q => ?_⟩ hg')
  · rw [Maps.size_put (h.tidy keyedC), (h2 p).1, hs]
  dsimp only
  by_cases e : q = p
  · subst e
    rw [if_pos rfl]
    exact ⟨Maps.has_put_same h.isMap (klC_key q) _, fun g hg z => by rw [Maps.atKey_put_same h.isMap (klC_key q)]; cases hg; rfl⟩
  · have hne : klC q ≠ klC p := fun h => e (klC_inj h)
    rw [if_neg e, Maps.has_put_other hne]
    exact ⟨(h2 q).1, fun g hg z => by rw [Maps.atKey_put_other hne]; exact (h2 q).2 g hg z⟩

end
theorem MapC.one {w : World} {b n s : Nat} {m : ByteArray → Option Value} (h : MapC w b n s m) {p : ByteArray} (hp : p.size ≤ maxLen) : (Instr.lookup 47 (.map (some b)) (.string p) false).run Try.prog w = .ok ((m p).getD (.slice none 0 0)) w := by
  obtain ⟨D, h, _, h2⟩ := h
  obtain ⟨v, ps, hrun, hv⟩ := h.lookup keyedC Try.underlying47 (zeroCv w) (zd := .held (.slice none 0 0)) (zp := []) rfl (WideMaps.keyOf_string_mk Try.underlying9 hp)
  rw [hrun]
  obtain ⟨h3, h4⟩ := h2 p
  simp only [selfC, Option.some.injEq, Prod.mk.injEq] at hv
  change DataW.held v = D.atKey (klC p) (DataW.held (.slice none 0 0)) ∧ [] = ps at hv
  cases hm : m p with
  | none =>
    rw [hm] at h3
    rw [Maps.atKey_of_not_has h3] at hv
    have := hv.1
    simp only [DataW.held.injEq] at this
    rw [this]
    rfl
  | some x =>
    rw [h4 x hm] at hv
    have := hv.1
    simp only [DataW.held.injEq] at this
    rw [this]
    rfl
section
variable {F : Fence} {nF : Nat} (w : World) {ops : Array Oper} {rest : List Oper} {o : Oper} {a : Act} {Q : Exit → Act → World → Prop}
theorem wpListIn_mapUpdate_C (hg : o.guard = none) (mo x v : Operand) (hop : o.op = Op.mapUpdate 47 mo x v) (b n s : Nat) (m : ByteArray → Option Value) (hm : a.eval mo = .map (some b)) (hown : MapC w b n s m) (hn : n < maxLen) (p : ByteArray) (hx : a.eval x = .string p) (hp : p.size ≤ maxLen)
    (val : Value) (hv : a.eval v = val) (hK : ∀ w', MapC w' b (n + 1) (if (m p).isSome = true then s else s + 1) (fun q => if q = p then some val else m q) → w.grownBy w' (some b) → wpListIn F nF Try.prog ops Q rest (a.put o.dst undef) w') : wpListIn F nF Try.prog ops Q (o :: rest) a w := by
  obtain ⟨D, h, hs, h2⟩ := hown
  refine wpListIn_mapUpdate_own w hg mo x v 47 hop 9 66 keyedC Try.underlying47 selfC b n D hm h hn _ _ (klC p) hx hv (WideMaps.keyOf_string_mk Try.underlying9 hp) (.held val) [] rfl (fun w' h' hg' => hK w' ⟨_, h', ?_, fun q => ?_⟩ hg')
  · rw [Maps.size_put (h.tidy keyedC), (h2 p).1, hs]
  dsimp only
  by_cases e : q = p
  · subst e
    rw [if_pos rfl]
    exact ⟨Maps.has_put_same h.isMap (klC_key q) _, fun g hg z => by rw [Maps.atKey_put_same h.isMap (klC_key q)]; cases hg; rfl⟩
  · have hne : klC q ≠ klC p := fun h => e (klC_inj h)
    rw [if_neg e, Maps.has_put_other hne]
    exact ⟨(h2 q).1, fun g hg z => by rw [Maps.atKey_put_other hne]; exact (h2 q).2 g hg z⟩
end
end Go.Proofs.Ytdiopkegaeliaaa

/-! How much a list of texts holds, as the law's own helper reckons it, from what is left on: a contract for the walks; conditions: at most 2 to the 20 is left, the list lies in memory. -/
namespace Go.Proofs.Ytdiopkegaeliaaa
open Go.RowKit
set_option linter.unusedSimpArgs false
set_option linter.unusedVariables false

set_option maxHeartbeats 1000000 in
set_option maxRecDepth 100000 in
theorem sizeStrsM_c (v : Value) (ss : List ByteArray) (w : World) (left : Int) (hl0 : 0 ≤ left) (hl1 : left ≤ 1048576) (hv : Reads w v (strsV ss)) (hn : ss.length ≤ maxLen) (hs : ∀ s ∈ ss, s.size ≤ maxLen) :
    Calls Try.prog 5 #[v, .int .i64 left] w fun e w' => e = .returned (.int .i64 (leftS ss left)) ∧ w = w' := by
  obtain ⟨a, cap, rfl, _, hc⟩ := reads_strs hv
  clear hv
  unfold maxLen at hn hs
  by_cases h0 : left < (ss.length : Int)
  · have hneg : left - (ss.length : Int) < 0 := by omega
    have e : leftS ss left = -1 := by rw [leftS, bulkS, if_neg (by omega)]
    rw [e]
    clear hc hs
    go_enter Try.func5, Try.ntmps5
    go_wp2
    go_ret
    exact ⟨rfl, rfl⟩
  · have hpos : ¬ (left - (ss.length : Int) < 0) := by omega
    rcases hc with rfl | ⟨b, off, rfl, hlt, hc⟩
    · go_enter Try.func5, Try.ntmps5
      go_wp2
      go_loop [1, 5] (fun vl vi => vl = .int .i64 left ∧ vi = .int .i64 0) (fun _ _ => 0)
      case atStart => exact ⟨rfl, rfl⟩
      case round =>
        obtain ⟨rfl, rfl⟩ := hrel
        go_wp2
        go_ret
        exact ⟨by rw [show leftS [] left = left by simp [leftS, bulkS, hl0]]; rfl, rfl⟩
    · go_enter Try.func5, Try.ntmps5
      go_wp2
      go_loop [1, 5] (fun vl vi => ∃ (k : Nat) (l : Int), k ≤ ss.length ∧ vi = .int .i64 (k : Int) ∧ vl = .int .i64 l ∧ 0 ≤ l ∧ l ≤ 1048576 ∧ Hid (l = left - (ss.length : Int) - (((ss.take k).map ByteArray.size).sum : Int))) (fun _ vi => ss.length - (intOf vi).toNat)
      case atStart => exact ⟨0, _, Nat.zero_le _, rfl, rfl, by omega, by omega, by show _ = _; simp⟩
      case round =>
        obtain ⟨k, l, hk, rfl, rfl, hq0, hq1, hl⟩ := hrel
        by_cases hlt' : k < ss.length
        · have hcx := hc k hlt'
          have hsk := hs ss[k] (List.getElem_mem hlt')
          have hsum := sum_take_succ ss k hlt'
          obtain ⟨t, ht⟩ : ∃ t, t = ss[k] := ⟨_, rfl⟩
          rw [← ht] at hcx hsk hsum
          have HS : Hid (((ss.take (k + 1)).map ByteArray.size).sum = ((ss.take k).map ByteArray.size).sum + t.size) := hsum
          have hki : (k : Int) < (ss.length : Int) := by omega
          clear hc hs ht hsum
          by_cases hneg : l - (t.size : Int) < 0
          · have e : leftS ss left = -1 := by
              have h1 := HS.out; have h2 := hl.out; have h3 := sum_take_le ss (k + 1)
              rw [leftS, bulkS, if_neg (by omega)]
            have HE : Hid (leftS ss left = -1) := e
            clear e
            go_wp2
            go_ret
            exact ⟨by rw [HE.out]; rfl, rfl⟩
          · go_wp2
            go_round
            case rel => exact ⟨k + 1, l - (t.size : Int), by omega, by go_num, rfl, by omega, by omega, (by show _ = _; rw [HS.out, hl.out]; omega)⟩
            case measure => simp [intOf]; omega
        · have he : k = ss.length := by omega
          subst he
          have e : leftS ss left = l := by
            have h2 := hl.out
            rw [List.take_length] at h2
            rw [leftS, bulkS, if_pos (by omega)]; omega
          have HE : Hid (leftS ss left = l) := e
          clear hc hs e
          go_wp2
          go_ret
          exact ⟨by rw [HE.out]; rfl, rfl⟩
end Go.Proofs.Ytdiopkegaeliaaa

/-! What the law's helpers over versions answer (how much there is, a copy, whether two are alike): contracts for the walks; conditions: the lists of texts lie in memory as told. -/
namespace Go.Proofs.Ytdiopkegaeliaaa
open Go.RowKit
set_option linter.unusedSimpArgs false
set_option linter.unusedVariables false

theorem owns_set {w : World} {base : Nat} {e : TypeId} {v : Value} {n : Nat} {xs : List Value} (h : w.ownsRow base e 1 v n xs) {p : Addr} (hp : p.block < base) (x : Value) : (w.setCell p x).ownsRow base e 1 v n xs := by
  obtain ⟨h1, h2⟩ := h
  refine ⟨h1, ?_⟩
  rcases h2 with h2 | ⟨g, cap, cur, a, b, c, d⟩
  · exact .inl h2
  · exact .inr ⟨g, cap, cur, a, b, by rw [Below.heap_setCell _ _ _ _ (by omega)]; exact c, d⟩

/-- A parameter that was put into a block of its own is still there behind a call. -/
theorem box4 {w w1 : World} {c0 c1 c2 c3 : Value} {t : TypeId} (hb : Below (w.alloc (.cells #[c0, c1, c2, c3] t)).heap.size (w.alloc (.cells #[c0, c1, c2, c3] t)) w1) :
    w1.cell? ⟨w.heap.size, 0, none⟩ = some c0 ∧ w1.cell? ⟨w.heap.size, 1, none⟩ = some c1 ∧ w1.cell? ⟨w.heap.size, 2, none⟩ = some c2 ∧ w1.cell? ⟨w.heap.size, 3, none⟩ = some c3 := by
  have h : ∀ j, w1.cell? ⟨w.heap.size, j, none⟩ = (#[c0, c1, c2, c3] : Array Value)[j]? := fun j => by
    rw [hb.cell (p := ⟨w.heap.size, j, none⟩) (by simp)]
    exact vblk_cell (vheap_new _ _) j
  exact ⟨h 0, h 1, h 2, h 3⟩

def saneP (ps : List ByteArray) : Prop := ps.length ≤ maxLen ∧ ∀ s ∈ ps, s.size ≤ maxLen

set_option maxHeartbeats 1000000 in
set_option maxRecDepth 100000 in
theorem sizeStrsL_c (v : Value) (ss : List ByteArray) (w : World) (left : Int) (hl0 : 0 ≤ left) (hl1 : left ≤ 1048576) (hv : Reads w v (strsV ss)) (hn : ss.length ≤ maxLen) (hs : ∀ s ∈ ss, s.size ≤ maxLen) :
    Calls Try.prog 5 #[v, .int .i64 left] w fun e w' => e = .returned (.int .i64 (leftS ss left)) ∧ w = w' := by
  obtain ⟨a, cap, rfl, _, hc⟩ := reads_strs hv
  clear hv
  unfold maxLen at hn hs
  by_cases h0 : left < (ss.length : Int)
  · have hneg : left - (ss.length : Int) < 0 := by omega
    have e : leftS ss left = -1 := by rw [leftS, bulkS, if_neg (by omega)]
    rw [e]
    clear hc hs
    go_enter Try.func5, Try.ntmps5
    go_wp2
    go_ret
    exact ⟨rfl, rfl⟩
  · have hpos : ¬ (left - (ss.length : Int) < 0) := by omega
    rcases hc with rfl | ⟨b, off, rfl, hlt, hc⟩
    · go_enter Try.func5, Try.ntmps5
      go_wp2
      go_loop [1, 5] (fun vl vi => vl = .int .i64 left ∧ vi = .int .i64 0) (fun _ _ => 0)
      case atStart => exact ⟨rfl, rfl⟩
      case round =>
        obtain ⟨rfl, rfl⟩ := hrel
        go_wp2
        go_ret
        exact ⟨by rw [show leftS [] left = left by simp [leftS, bulkS, hl0]]; rfl, rfl⟩
    · go_enter Try.func5, Try.ntmps5
      go_wp2
      go_loop [1, 5] (fun vl vi => ∃ (k : Nat) (l : Int), k ≤ ss.length ∧ vi = .int .i64 (k : Int) ∧ vl = .int .i64 l ∧ 0 ≤ l ∧ l ≤ 1048576 ∧ Hid (l = left - (ss.length : Int) - (((ss.take k).map ByteArray.size).sum : Int))) (fun _ vi => ss.length - (intOf vi).toNat)
      case atStart => exact ⟨0, _, Nat.zero_le _, rfl, rfl, by omega, by omega, by show _ = _; simp⟩
      case round =>
        obtain ⟨k, l, hk, rfl, rfl, hq0, hq1, hl⟩ := hrel
        by_cases hlt' : k < ss.length
        · have hcx := hc k hlt'
          have hsk := hs ss[k] (List.getElem_mem hlt')
          have hsum := sum_take_succ ss k hlt'
          obtain ⟨t, ht⟩ : ∃ t, t = ss[k] := ⟨_, rfl⟩
          rw [← ht] at hcx hsk hsum
          have HS : Hid (((ss.take (k + 1)).map ByteArray.size).sum = ((ss.take k).map ByteArray.size).sum + t.size) := hsum
          have hki : (k : Int) < (ss.length : Int) := by omega
          clear hc hs ht hsum
          by_cases hneg : l - (t.size : Int) < 0
          · have e : leftS ss left = -1 := by
              have h1 := HS.out; have h2 := hl.out; have h3 := sum_take_le ss (k + 1)
              rw [leftS, bulkS, if_neg (by omega)]
            have HE : Hid (leftS ss left = -1) := e
            clear e
            go_wp2
            go_ret
            exact ⟨by rw [HE.out]; rfl, rfl⟩
          · go_wp2
            go_round
            case rel => exact ⟨k + 1, l - (t.size : Int), by omega, by go_num, rfl, by omega, by omega, (by show _ = _; rw [HS.out, hl.out]; omega)⟩
            case measure => simp [intOf]; omega
        · have he : k = ss.length := by omega
          subst he
          have e : leftS ss left = l := by
            have h2 := hl.out
            rw [List.take_length] at h2
            rw [leftS, bulkS, if_pos (by omega)]; omega
          have HE : Hid (leftS ss left = l) := e
          clear hc hs e
          go_wp2
          go_ret
          exact ⟨by rw [HE.out]; rfl, rfl⟩

theorem vthree {w w1 : World} {A R O : Obj} (hb : Below (((w.alloc A).alloc R).alloc O).heap.size (((w.alloc A).alloc R).alloc O) w1) :
    w1.heap[w.heap.size]? = some A ∧ w1.heap[w.heap.size + 1]? = some R ∧ w1.heap[w.heap.size + 1 + 1]? = some O := by
  have s1 : (w.alloc A).heap.size = w.heap.size + 1 := by simp
  have s2 : ((w.alloc A).alloc R).heap.size = w.heap.size + 1 + 1 := by simp
  refine ⟨?_, ?_, ?_⟩
  · rw [hb.block _ (by simp; omega), vheap_old _ _ (by simp; omega), vheap_old _ _ (by simp), vheap_new]
  · rw [hb.block _ (by simp), vheap_old _ _ (by simp), ← s1, vheap_new]
  · rw [hb.block _ (by simp), ← s2, vheap_new]

end Go.Proofs.Ytdiopkegaeliaaa

/-! Needs, commands and packs that lie in memory: what they are, and how much they hold, as the law counts it: contracts for the walks; conditions: at most 2 to the 20 is left to count. -/
namespace Go.Proofs.Ytdiopkegaeliaaa
open Go.RowKit
set_option linter.unusedSimpArgs false
set_option linter.unusedVariables false

theorem lw (n : Nat) (l : Int) : ((n : Int) ≤ l ∧ leftW n l = l - (n : Int)) ∨ (l < (n : Int) ∧ leftW n l = -1) := by
  by_cases h : (n : Int) ≤ l
  · exact .inl ⟨h, leftW_good h⟩
  · exact .inr ⟨by omega, leftW_bad h⟩

/-- A list of texts that may be written. -/
def StrsOwn (S : Nat → Prop) (w : World) (u : Value) (ss : List ByteArray) : Prop := w.ownsRow 0 9 1 u ss.length (strsV ss) ∧ ∀ g, u.ownBlock = some g → S g
theorem StrsOwn.keep {S : Nat → Prop} {w w' : World} {u : Value} {ss : List ByteArray} (hk : Kp S w w') (h : StrsOwn S w u ss) : StrsOwn S w' u ss := ⟨owns_kept hk h.2 h.1, h.2⟩
theorem StrsOwn.mono {S S' : Nat → Prop} {w : World} {u : Value} {ss : List ByteArray} (hS : ∀ b, S b → S' b) (h : StrsOwn S w u ss) : StrsOwn S' w u ss := ⟨h.1, fun g hg => hS g (h.2 g hg)⟩
theorem StrsOwn.plain {S : Nat → Prop} {w : World} {u : Value} {ss : List ByteArray} (h : StrsOwn S w u ss) : RdB S w u (strsV ss) := by
  obtain ⟨a, cap, hv, hc, hx⟩ := reads_of_owns h.1
  refine ⟨a, cap, hv, hc, ?_⟩
  rcases hx with hx | ⟨b, off, rfl, hlt, hx⟩
  · exact .inl hx
  · exact .inr ⟨b, off, rfl, h.2 b (by rw [hv]; rfl), hx⟩

structure NeedD where
  n : ByteArray
  r : ByteArray
def wtNeed (d : NeedD) : Nat := d.n.size + d.r.size
def shNeed : Sh NeedD where
  n := 2
  lies S w cs d := cs = [.string d.n, .string d.r] ∧ d.n.size ≤ maxLen ∧ d.r.size ≤ maxLen
  keep hk h := by obtain ⟨h0, h1, h2⟩ := h; exact ⟨h0, h1, h2⟩
  mono hS h := by obtain ⟨h0, h1, h2⟩ := h; exact ⟨h0, h1, h2⟩

structure CmdD where
  t : ByteArray
  acts : List ByteArray
def wtCmd (d : CmdD) : Nat := d.t.size + bulkS d.acts
def shCmd : Sh CmdD where
  n := 2
  lies S w cs d := ∃ u0, cs = [.string d.t, u0] ∧ d.t.size ≤ maxLen ∧ RdB S w u0 (strsV d.acts) ∧ saneP d.acts
  keep hk h := by obtain ⟨u0, h0, h1, h2, h3⟩ := h; exact ⟨u0, h0, h1, h2.keep hk, h3⟩
  mono hS h := by obtain ⟨u0, h0, h1, h2, h3⟩ := h; exact ⟨u0, h0, h1, h2.mono hS, h3⟩
def shCmdO : Sh CmdD where
  n := 2
  lies S w cs d := ∃ u0, cs = [.string d.t, u0] ∧ d.t.size ≤ maxLen ∧ StrsOwn S w u0 d.acts ∧ saneP d.acts
  keep hk h := by obtain ⟨u0, h0, h1, h2, h3⟩ := h; exact ⟨u0, h0, h1, h2.keep hk, h3⟩
  mono hS h := by obtain ⟨u0, h0, h1, h2, h3⟩ := h; exact ⟨u0, h0, h1, h2.mono hS, h3⟩
theorem liesCmd_plain {S : Nat → Prop} {w : World} {cs : List Value} {d : CmdD} (h : shCmdO.lies S w cs d) : shCmd.lies S w cs d := by
  obtain ⟨u0, e0, s_t, r0, p0⟩ := h
  exact ⟨u0, e0, s_t, r0.plain, p0⟩

structure PackD where
  name : ByteArray
  uses : List ByteArray
  needs : List NeedD
  cmds : List CmdD
def wtPack (d : PackD) : Nat := d.name.size + bulkS d.uses + wtRow wtNeed d.needs + wtRow wtCmd d.cmds
def shPack : Sh PackD where
  n := 4
  lies S w cs d := ∃ u0 u1 u2, cs = [.string d.name, u0, u1, u2] ∧ d.name.size ≤ maxLen ∧ RdB S w u0 (strsV d.uses) ∧ saneP d.uses ∧ RowIn shNeed S w u1 d.needs ∧ RowIn shCmd S w u2 d.cmds
  keep hk h := by obtain ⟨u0, u1, u2, h0, h1, h2, h3, h4, h5⟩ := h; exact ⟨u0, u1, u2, h0, h1, h2.keep hk, h3, h4.keep hk, h5.keep hk⟩
  mono hS h := by obtain ⟨u0, u1, u2, h0, h1, h2, h3, h4, h5⟩ := h; exact ⟨u0, u1, u2, h0, h1, h2.mono hS, h3, h4.mono hS, h5.mono hS⟩
def shPackO : Sh PackD where
  n := 4
  lies S w cs d := ∃ u0 u1 u2, cs = [.string d.name, u0, u1, u2] ∧ d.name.size ≤ maxLen ∧ StrsOwn S w u0 d.uses ∧ saneP d.uses ∧ RowOwn shNeed 74 S w u1 d.needs ∧ RowOwn shCmdO 57 S w u2 d.cmds
  keep hk h := by obtain ⟨u0, u1, u2, h0, h1, h2, h3, h4, h5⟩ := h; exact ⟨u0, u1, u2, h0, h1, h2.keep hk, h3, h4.keep hk, h5.keep hk⟩
  mono hS h := by obtain ⟨u0, u1, u2, h0, h1, h2, h3, h4, h5⟩ := h; exact ⟨u0, u1, u2, h0, h1, h2.mono hS, h3, h4.mono hS, h5.mono hS⟩
theorem liesPack_plain {S : Nat → Prop} {w : World} {cs : List Value} {d : PackD} (h : shPackO.lies S w cs d) : shPack.lies S w cs d := by
  obtain ⟨u0, u1, u2, e0, s_name, r0, p0, r1, r2⟩ := h
  exact ⟨u0, u1, u2, e0, s_name, r0.plain, p0, r1.plain, (RowIn.as (sh := shCmdO) (sh' := shCmd) rfl (fun S w cs x h => liesCmd_plain h) r2.plain)⟩

end Go.Proofs.Ytdiopkegaeliaaa

/-! The place of the pack of a name, the program's and the specification's: contracts for the walks; conditions: the row of packs lies in memory. -/
namespace Go.Proofs.Ytdiopkegaeliaaa
open Go.RowKit
set_option linter.unusedSimpArgs false
set_option linter.unusedVariables false

/-- The place of the first pack of this name, or -1. -/
def findP (xs : List PackD) (s : ByteArray) : Int := if xs.findIdx (fun d => decide (d.name = s)) < xs.length then (xs.findIdx (fun d => decide (d.name = s)) : Int) else -1
theorem findP_here {xs : List PackD} {s : ByteArray} {k : Nat} (h : k < xs.length) (hy : xs[k].name = s) (hn : ∀ j (hj : j < xs.length), j < k → ¬ xs[j].name = s) : findP xs s = (k : Int) := by
  have e : xs.findIdx (fun d => decide (d.name = s)) = k := by
    rw [List.findIdx_eq h]
    exact ⟨by simpa using hy, fun j hj => by simpa using hn j (by omega) hj⟩
  unfold findP
  rw [e, if_pos h]
theorem findP_none {xs : List PackD} {s : ByteArray} (hn : ∀ j (hj : j < xs.length), ¬ xs[j].name = s) : findP xs s = -1 := by
  have e : xs.findIdx (fun d => decide (d.name = s)) = xs.length := by
    rw [List.findIdx_eq_length]
    intro x hx
    obtain ⟨j, hj, rfl⟩ := List.mem_iff_getElem.1 hx
    simpa using hn j hj
  unfold findP
  rw [e, if_neg (by omega)]
theorem name_alike (a b : ByteArray) : (a.toList == b.toList) = decide (a = b) := by
  by_cases h : a = b
  · subst h; simp
  · rw [decide_eq_false h]
    cases hh : (a.toList == b.toList) with
    | false => rfl
    | true => exact absurd (bytes_eq_of_toList (by simpa using hh)) h

set_option maxHeartbeats 2000000 in
set_option maxRecDepth 100000 in
theorem specFind_c (S : Nat → Prop) (v : Value) (xs : List PackD) (s : ByteArray) (w : World) (hv : RowIn shPack S w v xs) (hB : ∀ b, S b → b < w.heap.size) :
    Calls Try.prog 43 #[v, .string s] w fun e w' => e = .returned (.int .i64 (findP xs s)) ∧ Below w.heap.size w w' := by
  obtain ⟨a, cap, rfl, hl, hc, ha⟩ := hv
  unfold maxLen at hl
  obtain ⟨R, hR⟩ : ∃ R, R = findP xs s := ⟨_, rfl⟩
  rw [← hR]
  have HR : Hid (R = findP xs s) := hR
  clear hR
  go_enter Try.func43, Try.ntmps43
  go_wp2_with fail
  go_loopw [5] (fun vi wr => ∃ k : Nat, k ≤ xs.length ∧ vi = .int .i64 (k : Int) ∧ Hid (∀ j (hj : j < xs.length), j < k → ¬ xs[j].name = s) ∧ Below w.heap.size w wr) (fun vi _ => xs.length - (intOf vi).toNat)
  case atStart => exact ⟨0, Nat.zero_le _, rfl, (fun j hj h => by omega), Below.refl _ _⟩
  case round =>
    obtain ⟨k, hk, rfl, hno, hbr⟩ := hrel
    by_cases hlt' : k < xs.length
    · rcases ha with rfl | ⟨b, off, rfl, hlt, ha⟩
      · simp at hlt'
      obtain ⟨cs, hL, hcell⟩ := ha k hlt'
      have hcell2 := hcell.keep (.of hbr hB) hlt
      have HT : Hid (xs[k].name = s → R = (k : Int)) := fun h => HR.out.trans (findP_here hlt' h hno.out)
      have HN : Hid (¬ xs[k].name = s → ∀ j (hj : j < xs.length), j < k + 1 → ¬ xs[j].name = s) := fun h j hj hjk => by
        by_cases e : j = k
        · subst e; exact h
        · exact hno.out j hj (by omega)
      obtain ⟨d, hd⟩ : ∃ d, d = xs[k] := ⟨_, rfl⟩
      rw [← hd] at hL HT HN
      obtain ⟨u0, u1, u2, rfl, _⟩ := hL
      have e0 : wr.cell? ⟨b, off + k * 4, none⟩ = some (.string d.name) := hcell2 0 (by simp)
      have hki : (k : Int) < (xs.length : Int) := by omega
      obtain ⟨t, ht⟩ : ∃ t, t = d.name := ⟨_, rfl⟩
      rw [← ht] at e0 HT HN
      have hal := name_alike t s
      clear ha hd ht hcell hcell2 hno HR
      by_cases hts : t = s
      · have hq : (t.toList == s.toList) = true := by rw [hal]; simpa using hts
        have HT2 := hidden (HT.out hts)
        clear HT HN hts hal
        go_wp2_with fail
        try (go_quiet (fail); go_wp2_with fail)
        go_ret
        exact ⟨by rw [HT2.out]; rfl, by first | exact hbr | exact hbr.drew | exact below_drewN' hbr _⟩
      · have hq : (t.toList == s.toList) = false := by rw [hal]; simpa using hts
        have HN2 := hidden (HN.out hts)
        clear HT HN hts hal
        go_wp2_with fail
        try (go_quiet (fail); go_wp2_with fail)
        go_roundw
        case rel => exact ⟨k + 1, by omega, by go_num, HN2.out, by first | exact hbr | exact hbr.drew | exact below_drewN' hbr _⟩
        case measure => simp [intOf]; omega
    · have he : k = xs.length := by omega
      subst he
      have HE : Hid (R = -1) := HR.out.trans (findP_none (fun j hj => hno.out j hj hj))
      clear ha hno HR
      go_wp2_with fail
      go_ret
      exact ⟨by rw [HE.out]; rfl, hbr⟩

end Go.Proofs.Ytdiopkegaeliaaa

/-! The commands of packs by their names, as the program lays them down (a range over slices.Backward that fills a map): contracts for the walks; conditions: the packs lie in memory. -/
namespace Go.Proofs.Ytdiopkegaeliaaa
open Go.RowKit Go.Shelf
set_option linter.unusedSimpArgs false
set_option linter.unusedVariables false

attribute [local go_sem] Oper.semAt_some
/-- A pack at its place, as a round is handed it. -/
def PkAt (S : Nat → Prop) (w : World) (xs : List PackD) (k : Nat) (v : Value) (nm : ByteArray) (cv : Value) : Prop := ∃ h : k < xs.length, nm = xs[k].name ∧ nm.size ≤ maxLen ∧ (∃ q c, cv = .slice q xs[k].cmds.length c) ∧ RowIn shCmd S w cv xs[k].cmds ∧ ∃ a0 n0 c0 a1 n1 c1, v = .agg #[.string nm, .slice a0 n0 c0, .slice a1 n1 c1, cv]
abbrev PkX (S : Nat → Prop) (w : World) (xs : List PackD) := { x : Nat × Value × ByteArray × Value // PkAt S w xs x.1 x.2.1 x.2.2.1 x.2.2.2 }
/-- The rounds, from the last place down. -/
inductive Dn {α : Type} (ix : α → Nat) (n : Nat) : Nat → List α → Prop
  | nil : Dn ix n n []
  | snoc {k : Nat} {ys : List α} {x : α} : Dn ix n (k + 1) ys → ix x = k → Dn ix n k (ys ++ [x])
/-- What the map holds behind some rounds. -/
def mpX {S : Nat → Prop} {w : World} {xs : List PackD} (ys : List (PkX S w xs)) : ByteArray → Option Value := ys.foldl (fun m x => fun q => if q = x.1.2.2.1 then some x.1.2.2.2 else m q) (fun _ => none)
theorem mpX_snoc {S : Nat → Prop} {w : World} {xs : List PackD} (ys : List (PkX S w xs)) (x : PkX S w xs) : mpX (ys ++ [x]) = fun q => if q = x.1.2.2.1 then some x.1.2.2.2 else mpX ys q := by
  unfold mpX; rw [List.foldl_append]; rfl
/-- What is found of a name. -/
def Fnd (S : Nat → Prop) (w : World) : Option Value → Option PackD → Prop
  | none, none => True
  | some v, some d => RowIn shCmd S w v d.cmds
  | _, _ => False
theorem fnd_dn {S : Nat → Prop} {w : World} {xs : List PackD} {k : Nat} {ys : List (PkX S w xs)} (h : Dn (fun x : PkX S w xs => x.1.1) xs.length k ys) (p : ByteArray) : k ≤ xs.length ∧ Fnd S w (mpX ys p) ((xs.drop k).find? fun d => decide (d.name = p)) := by
  induction h with
  | nil => exact ⟨Nat.le_refl _, by rw [List.drop_length]; exact trivial⟩
  | @snoc k ys x h e ih =>
    obtain ⟨⟨k', v, nm, cv⟩, hk, h1, h2, h3, h4, h5⟩ := x
    dsimp only at e hk h1 h4
    subst e
    refine ⟨by omega, ?_⟩
    rw [mpX_snoc, List.drop_eq_getElem_cons hk, List.find?_cons]
    dsimp only
    by_cases e : p = nm
    · rw [if_pos e]
      have e2 : decide (xs[k'].name = p) = true := by simp [e, h1]
      rw [e2]
      exact h4
    · rw [if_neg e]
      have e2 : decide (xs[k'].name = p) = false := by simp only [decide_eq_false_iff_not]; intro e3; exact e (by rw [h1, e3])
      rw [e2]
      exact ih.2

def KpB (n₀ Bs : Nat) (A B : World) : Prop := Below n₀ A B ∧ ∀ cs t fz, A.heap[Bs]? = some (.cells cs t fz) → B.heap[Bs]? = some (.cells cs t fz)
theorem kpB_t {n₀ Bs : Nat} {A B C : World} (h : KpB n₀ Bs A B) (k : KpB n₀ Bs B C) : KpB n₀ Bs A C := ⟨h.1.trans k.1, fun cs t fz e => k.2 cs t fz (h.2 cs t fz e)⟩
theorem kpB_b {n₀ Bs m : Nat} (hm : n₀ ≤ m) (W : World) (l : Nat) (o o' : Obj) (h1 : m ≤ l) (h2 : W.heap[l]? = some o) (h3 : o.isCells = false) : KpB n₀ Bs W (W.putObj l o') := by
  have hg := grownBy_putObj' W l o'
  refine ⟨⟨hg.os, hg.tape, hg.output, hg.size, fun k hk => hg.block k (by have := (Array.getElem?_eq_some_iff.1 h2).1; omega) (fun e => by have := Option.some.inj e; omega)⟩, fun cs t fz e => ?_⟩
  rw [hg.block Bs (Array.getElem?_eq_some_iff.1 e).1 (fun e9 => by
    obtain rfl : Bs = l := Option.some.inj e9
    rw [h2] at e
    cases e
    simp [Obj.isCells] at h3)]
  exact e

set_option maxRecDepth 100000 in
set_option maxHeartbeats 4000000 in
theorem backward_stops (n : Nat) (hn : 1 ≤ n) (Bs n₀ : Nat) (S : Nat → Prop) (v : Value) (xs : List PackD) (w w0 : World) (hBs : Bs < w.heap.size) (hn₀ : n₀ ≤ w.heap.size) (hS : ∀ b, S b → b < n₀) (hw0 : Below n₀ w0 w)
    (hc : w.heap[Bs]? = some (.cells #[v] 27 (0, 0))) (hv : RowIn shPack S w0 v xs) (hlen : xs.length ≤ 1048576) :
    SeqStopsK Fence.wide n Try.prog 46 #[.pointer (some ⟨Bs, 0, none⟩)] (fun x : PkX S w0 xs => #[.int .i64 (x.1.1 : Int), x.1.2.1]) (KpB n₀ Bs) (Dn (fun x : PkX S w0 xs => x.1.1) xs.length 0) (fun _ => True) (xs.length + 1) w := fun l J Jx W hW _ _ hY h0 => by
  refine callsIn_of_wp Try.func46 rfl trivial ?_ rfl
  simp only [Try.ntmps46, List.size_toArray, List.length_cons, List.length_nil, Nat.reduceAdd, Nat.reduceSub, Array.replicate_succ, Array.replicate_zero, List.push_toArray, List.append_toArray, List.nil_append, List.cons_append]
  have hcW : W.heap[Bs]? = some (.cells #[v] 27 (0, 0)) := (hW.block Bs hBs).trans hc
  have hbW : Below n₀ w0 W := hw0.trans (hW.mono hn₀)
  have hv9 := hv
  obtain ⟨a, cap, rfl, hl, hcp, ha⟩ := hv
  unfold maxLen at hl
  have hx0 : W.cell? ⟨Bs, 0, none⟩ = some (.slice a xs.length cap) := vblk_cell hcW 0
  have HY := hidden hY
  clear hY hc hW
  gi_wp2
  gi_loopw [3] (fun i wr => ∃ (k : Nat) (pre : List (PkX S w0 xs)), k ≤ xs.length ∧ i = .int .i64 ((k : Int) - 1) ∧ Hid (Dn (fun x : PkX S w0 xs => x.1.1) xs.length k pre) ∧ Hid (J pre wr) ∧ wr.heap[Bs]? = some (.cells #[.slice a xs.length cap] 27 (0, 0)) ∧ Below n₀ w0 wr ∧ pre.length + k = xs.length) (fun i _ => ((intOf i) + 1).toNat)
  case atStart => exact ⟨xs.length, [], Nat.le_refl _, rfl, .nil, h0, hcW, hbW, by simp⟩
  case round =>
    clear hx0 hcW hbW h0
    obtain ⟨k, pre, hk, rfl, hD, hJ, hcr, hbr, hpl⟩ := hrel
    have hx0 : wr.cell? ⟨Bs, 0, none⟩ = some (.slice a xs.length cap) := vblk_cell hcr 0
    cases k with
    | zero =>
      have HE : Hid (J pre wr ∧ Dn (fun x : PkX S w0 xs => x.1.1) xs.length 0 pre) := ⟨hJ.out, hD.out⟩
      clear hJ hD HY ha
      gi_wp2
      go_end0
      exact ⟨⟨_, rfl⟩, .inl ⟨_, HE.out.2, HE.out.1⟩⟩
    | succ k =>
      have hlt' : k < xs.length := by omega
      rcases ha with rfl | ⟨b, off, rfl, hlt, ha⟩
      · simp at hlt'
      obtain ⟨cs, hL, hcell⟩ := ha k hlt'
      have hcell2 := hcell.keep (.of hbr hS) hlt
      obtain ⟨u0, u1, u2, rfl, s_name, r0, p0, r1, r2⟩ := hL
      obtain ⟨a0, c0, e0, j0⟩ := id r0
      rw [length_strsV] at e0
      subst e0
      obtain ⟨a1, c1, rfl, j1⟩ := id r1
      obtain ⟨a2, c2, e2, j2⟩ := id r2
      subst e2
      have e0 : wr.cell? ⟨b, off + k * 4, none⟩ = some (.string xs[k].name) := hcell2 0 (by simp)
      have e1 : wr.cell? ⟨b, off + k * 4 + 1, none⟩ = some (.slice a0 xs[k].uses.length c0) := hcell2 1 (by simp)
      have e2 : wr.cell? ⟨b, off + k * 4 + 2, none⟩ = some (.slice a1 xs[k].needs.length c1) := hcell2 2 (by simp)
      have e3 : wr.cell? ⟨b, off + k * 4 + 3, none⟩ = some (.slice a2 xs[k].cmds.length c2) := hcell2 3 (by simp)
      have hki : (k : Int) < (xs.length : Int) := by omega
      have hPK : PkAt S w0 xs k (.agg #[.string xs[k].name, .slice a0 xs[k].uses.length c0, .slice a1 xs[k].needs.length c1, .slice a2 xs[k].cmds.length c2]) xs[k].name (.slice a2 xs[k].cmds.length c2) := ⟨hlt', rfl, s_name, ⟨_, _, rfl⟩, r2, _, _, _, _, _, _, rfl⟩
      obtain ⟨fn, tmps, assign, body, hy, hR⟩ := HY.out pre ⟨(k, _, _, _), hPK⟩ wr hJ.out (by omega)
      dsimp only at hy
      have hDn : Hid (∀ (pre' : List (PkX S w0 xs)) (h : pre' = pre ++ [⟨(k, _, _, _), hPK⟩]), Dn (fun x : PkX S w0 xs => x.1.1) xs.length k pre') := fun pre' h => by subst h; exact .snoc hD.out rfl
      obtain ⟨pre', hpre⟩ : ∃ p, p = pre ++ [⟨(k, _, _, _), hPK⟩] := ⟨_, rfl⟩
      have hDn2 := hidden (hDn.out pre' hpre)
      have hpl2 : pre'.length + k = xs.length := by rw [hpre]; simp; omega
      rw [← hpre] at hR
      have HR := hidden hR
      clear hDn hpre hcell hcell2 ha j0 j1 j2 r0 r1 r2 p0 hD hJ HY hR hPK hv9 s_name
      generalize xs[k].name = nm0 at *
      generalize xs[k].uses.length = nu0 at *
      generalize xs[k].needs.length = nn0 at *
      generalize xs[k].cmds.length = nc0 at *
      gi_wp2
      refine HR.out.mono ?_
      rintro e W3 (⟨rfl, hJ3, hk3⟩ | ⟨rfl, hJx3⟩)
      · have hc3 := hk3.2 _ _ _ hcr
        have hb3 := hbr.trans hk3.1
        have HJ3 := hidden hJ3
        clear HR hk3 hJ3 hx0 e0 e1 e2 e3
        gi_wp2
        go_roundw
        case rel => exact ⟨k, pre', by omega, by go_num, hDn2.out, HJ3.out, hc3, hb3, hpl2⟩
        case measure => simp [intOf]
      · clear HR hx0 e0 e1 e2 e3
        gi_wp2
        refine bodyPost_ret (results_none rfl _ _ _) rfl ?_
        exact ⟨⟨_, rfl⟩, .inr ⟨_, trivial, hJx3⟩⟩
end Go.Proofs.Ytdiopkegaeliaaa

/-! The place of a task among commands, as the program finds it: contracts for the walks; condition: the commands lie in memory. -/
namespace Go.Proofs.Ytdiopkegaeliaaa
open Go.RowKit
set_option linter.unusedSimpArgs false
set_option linter.unusedVariables false

/-- The place of the first command of a task, or -1; whether there is one. -/
def isCm (t : ByteArray) (d : CmdD) : Bool := decide (d.t = t)
def idxC (xs : List CmdD) (t : ByteArray) : Int := if xs.findIdx (isCm t) < xs.length then (xs.findIdx (isCm t) : Int) else -1
theorem idxC_here {xs : List CmdD} {t : ByteArray} {k : Nat} (h : k < xs.length) (hy : isCm t xs[k] = true) (hn : ∀ j (hj : j < xs.length), j < k → isCm t xs[j] = false) : idxC xs t = (k : Int) := by
  have e : xs.findIdx (isCm t) = k := by
    rw [List.findIdx_eq h]
    exact ⟨hy, fun j hj => by simpa using hn j (by omega) hj⟩
  unfold idxC
  rw [e, if_pos h]
theorem idxC_none {xs : List CmdD} {t : ByteArray} (hn : ∀ j (hj : j < xs.length), isCm t xs[j] = false) : idxC xs t = -1 := by
  have e : xs.findIdx (isCm t) = xs.length := by
    rw [List.findIdx_eq_length]
    intro x hx
    obtain ⟨j, hj, rfl⟩ := List.mem_iff_getElem.1 hx
    exact hn j hj
  unfold idxC
  rw [e, if_neg (by omega)]
theorem idxC_any (xs : List CmdD) (t : ByteArray) : decide (0 ≤ idxC xs t) = xs.any (isCm t) := by
  unfold idxC
  by_cases h : xs.findIdx (isCm t) < xs.length
  · rw [if_pos h]
    have h2 : xs.any (isCm t) = true := List.any_eq_true.2 ⟨_, List.getElem_mem h, List.findIdx_getElem⟩
    rw [h2]; simp
  · rw [if_neg h]
    have h2 : xs.any (isCm t) = false := by
      cases hq : xs.any (isCm t) with
      | false => rfl
      | true =>
        obtain ⟨x, hx, hy⟩ := List.any_eq_true.1 hq
        exact absurd (List.findIdx_lt_length_of_exists ⟨x, hx, hy⟩) h
    rw [h2]; rfl

set_option maxHeartbeats 2000000 in
set_option maxRecDepth 100000 in
theorem taskOfC_c (a : ByteArray) (b : Value) (w : World) :
    Calls Try.prog 87 #[.agg #[.string a, b]] w fun e w' => e = .returned (.string a) ∧ Below w.heap.size w w' := by
  have kb : ∀ o, Below w.heap.size w (w.alloc o) := fun o => (Below.refl w.heap.size w).alloc (Nat.le_refl _) o
  go_enter Try.func87, Try.ntmps87
  go_wp2_with fail
  go_ret
  exact ⟨rfl, kb _⟩

set_option maxHeartbeats 2000000 in
set_option maxRecDepth 100000 in
theorem placeFC_c (S : Nat → Prop) (d : CmdD) (cs : List Value) (t : ByteArray) (b : Nat) (w : World) (hd : shCmd.lies S w cs d) (hc : w.cell? ⟨b, 0, none⟩ = some (.string t)) (hb : b < w.heap.size) :
    Calls Try.prog 48 #[.agg cs.toArray, .pointer (some ⟨b, 0, none⟩)] w fun e w' => e = .returned (.bool (isCm t d)) ∧ Below w.heap.size w w' := by
  obtain ⟨u0, rfl, s_task, r0, p0⟩ := hd
  have hal : (d.t.toList == t.toList) = isCm t d := name_alike d.t t
  have HB := vheap_new w (.cells #[.string d.t, u0] 57)
  obtain ⟨a0, c0, e0, _⟩ := id r0
  rw [length_strsV] at e0
  subst e0
  obtain ⟨r, hr⟩ : ∃ r, r = isCm t d := ⟨_, rfl⟩
  rw [← hr] at hal ⊢
  have kb : Below w.heap.size w (w.alloc (.cells #[.string d.t, .slice a0 d.acts.length c0] 57 (0, 0))) := (Below.refl w.heap.size w).alloc (Nat.le_refl _) _
  have hc1 := (kb.cell (p := ⟨b, 0, none⟩) hb).trans hc
  clear r0 p0 s_task hr hc
  go_enter Try.func48, Try.ntmps48
  go_wp2_with fail
  obtain ⟨wz, hW⟩ : ∃ wz, wz = w.alloc (.cells #[.string d.t, .slice a0 d.acts.length c0] 57 (0, 0)) := ⟨_, rfl⟩
  rw [← hW] at HB kb hc1
  rw [← hW]
  clear hW
  have h0 : Below wz.heap.size wz wz.drew := (Below.refl _ _).drew
  have hzb : w.heap.size < wz.heap.size := (Array.getElem?_eq_some_iff.1 HB).1
  have KEEP : Hid (∀ w1, Below wz.heap.size wz w1 → w1.cell? ⟨w.heap.size, 0, none⟩ = some (.string d.t) ∧ w1.cell? ⟨w.heap.size, 1, none⟩ = some (.slice a0 d.acts.length c0) ∧ w1.cell? ⟨b, 0, none⟩ = some (.string t)) := fun w1 h => by
    have hA := (h.block w.heap.size hzb).trans HB
    exact ⟨vblk_cell hA 0, vblk_cell hA 1, (h.cell (p := ⟨b, 0, none⟩) (by show b < _; omega)).trans hc1⟩
  refine wp_region_held_drew (S := (fun w1 => w1.cell? ⟨w.heap.size, 0, none⟩ = some (.string d.t) ∧ w1.cell? ⟨w.heap.size, 1, none⟩ = some (.slice a0 d.acts.length c0) ∧ w1.cell? ⟨b, 0, none⟩ = some (.string t))) (by kernel_rfl) ?SR20 (fun hHeld => ?_)
  case SR20 => (first | (with_reducible exact KEEP.out _ h1) | (with_reducible exact KEEP.out _ h0))
  refine wpAnyH_take (i := 0) (oi := _) (v := ?vR20) rfl (by kernel_rfl) (by kernel_rfl) (by kernel_rfl) (fun _ _ _ h => h) (Or.inl ⟨by rfl, ?yR20⟩) hHeld ?_
  case yR20 => (intro w hSw; (try dsimp only at hSw); go_simp <;> with_reducible rfl)
  try simp only [Act.put, List.getElem_toArray, List.getElem_cons_zero, List.getElem_cons_succ, List.setIfInBounds_toArray, List.set_cons_zero, List.set_cons_succ]
  refine wpAnyH_take (i := 1) (oi := _) (v := ?vR21) rfl (by kernel_rfl) (by kernel_rfl) (by kernel_rfl) (fun _ _ _ h => h) (Or.inl ⟨by rfl, ?yR21⟩) hHeld ?_
  case yR21 => (intro w hSw; (try dsimp only at hSw); go_simp <;> with_reducible rfl)
  try simp only [Act.put, List.getElem_toArray, List.getElem_cons_zero, List.getElem_cons_succ, List.setIfInBounds_toArray, List.set_cons_zero, List.set_cons_succ]
  refine wpAnyH_take (i := 3) (oi := _) (v := ?vR22) rfl (by kernel_rfl) (by kernel_rfl) (by kernel_rfl) (fun _ _ _ h => h) (Or.inl ⟨by rfl, ?yR22⟩) hHeld ?_
  case yR22 => (intro w hSw; (try dsimp only at hSw); go_simp <;> with_reducible rfl)
  try simp only [Act.put, List.getElem_toArray, List.getElem_cons_zero, List.getElem_cons_succ, List.setIfInBounds_toArray, List.set_cons_zero, List.set_cons_succ]
  refine wpAnyH_ready (rs := [2]) (by kernel_rfl) (by simp) ?_
  refine AllReadyH.cons rfl (fun K hK => ?_) AllReadyH.nil
  go_simp
  go_wp2_with (go_at_call 87; refine (taskOfC_c _ _ _).mono ?_; rintro e w1 ⟨rfl, b1⟩; have h1 : Below wz.heap.size wz w1 := h0.trans (b1.mono h0.size))
  clear hHeld
  refine hK.out _ _ ?SR24 (fun hHeld => ?_)
  case SR24 => ((try dsimp only); first | (with_reducible exact KEEP.out _ h1) | (with_reducible exact KEEP.out _ h0))
  clear hK K
  refine wpAnyH_take (i := 4) (oi := _) (v := ?vR24) rfl (by kernel_rfl) (by kernel_rfl) (by kernel_rfl) (fun _ _ _ h => h) (Or.inl ⟨by rfl, ?yR24⟩) hHeld ?_
  case yR24 => (intro w hSw; (try dsimp only at hSw); go_simp <;> with_reducible rfl)
  try simp only [Act.put, List.getElem_toArray, List.getElem_cons_zero, List.getElem_cons_succ, List.setIfInBounds_toArray, List.set_cons_zero, List.set_cons_succ]
  refine wpAnyH_take (i := 5) (oi := _) (v := ?vR25) rfl (by kernel_rfl) (by kernel_rfl) (by kernel_rfl) (fun _ _ _ h => h) (Or.inl ⟨by rfl, ?yR25⟩) hHeld ?_
  case yR25 => (intro w hSw; (try dsimp only at hSw); go_simp <;> with_reducible rfl)
  try simp only [Act.put, List.getElem_toArray, List.getElem_cons_zero, List.getElem_cons_succ, List.setIfInBounds_toArray, List.set_cons_zero, List.set_cons_succ]
  refine wpAnyH_done (by kernel_rfl) ?_ _
  have hE : Below w.heap.size w w1 := kb.trans (h1.mono kb.size)
  clear KEEP HB hc1 h0 h1 b1 hHeld
  go_wp2_with fail
  go_ret
  exact ⟨by first | rfl | (rw [hal]; rfl), hE⟩

set_option maxHeartbeats 2000000 in
set_option maxRecDepth 100000 in
theorem idxAtC_c (t : ByteArray) (bp : Nat) (S : Nat → Prop) (v : Value) (xs : List CmdD) (w : World) (hv : RowIn shCmd S w v xs) (hB : ∀ b, S b → b < w.heap.size) (hcp : w.cell? ⟨bp, 0, none⟩ = some (.string t)) (hbp : bp < w.heap.size) :
    Calls Try.prog 47 #[v, .func (.func 48) #[] #[.pointer (some ⟨bp, 0, none⟩)]] w fun e w' => e = .returned (.int .i64 (idxC xs t)) ∧ Below w.heap.size w w' := by
  obtain ⟨a, cap, rfl, hl, hc, ha⟩ := hv
  unfold maxLen at hl
  obtain ⟨R, hR⟩ : ∃ R, R = idxC xs t := ⟨_, rfl⟩
  rw [← hR]
  have HR := hidden hR
  clear hR
  go_enter Try.func47, Try.ntmps47
  go_wp2_with fail
  go_loopw [8] (fun vi wr => ∃ k : Nat, k ≤ xs.length ∧ vi = .int .i64 (k : Int) ∧ Hid (∀ j (hj : j < xs.length), j < k → isCm t xs[j] = false) ∧ Below w.heap.size w wr) (fun vi _ => xs.length - (intOf vi).toNat)
  case atStart => exact ⟨0, Nat.zero_le _, rfl, (fun j hj h => by omega), Below.refl _ _⟩
  case round =>
    obtain ⟨k, hk, rfl, hno, hbr⟩ := hrel
    by_cases hlt' : k < xs.length
    · rcases ha with rfl | ⟨b, off, rfl, hlt, ha⟩
      · simp at hlt'
      obtain ⟨cs, hL, hcell⟩ := ha k hlt'
      have hL2 := shCmd.keep (.of hbr hB) hL
      have hcell2 := hcell.keep (.of hbr hB) hlt
      have HT : Hid (isCm t xs[k] = true → R = (k : Int)) := fun h => HR.out.trans (idxC_here hlt' h hno.out)
      have HN : Hid (isCm t xs[k] = false → ∀ j (hj : j < xs.length), j < k + 1 → isCm t xs[j] = false) := fun h j hj hjk => by
        by_cases e : j = k
        · subst e; exact h
        · exact hno.out j hj (by omega)
      have HC : Calls Try.prog 48 #[.agg cs.toArray, .pointer (some ⟨bp, 0, none⟩)] wr fun e w' => e = .returned (.bool (isCm t xs[k])) ∧ Below wr.heap.size wr w' := placeFC_c S xs[k] cs t bp wr hL2 (hbr.cell (by simpa using hbp) |>.trans hcp) (Nat.lt_of_lt_of_le hbp hbr.size)
      obtain ⟨d, hd⟩ : ∃ d, d = xs[k] := ⟨_, rfl⟩
      rw [← hd] at hL2 HT HN HC
      obtain ⟨r, hr⟩ : ∃ r, r = isCm t d := ⟨_, rfl⟩
      rw [← hr] at HT HN HC
      clear ha hL hcell hd hr hno
      obtain ⟨u0, rfl, s_task, r0, p0⟩ := hL2
      obtain ⟨a0, c0, e0, _⟩ := id r0
      rw [length_strsV] at e0
      subst e0
      have e0 : wr.cell? ⟨b, off + k * 2, none⟩ = some (.string d.t) := hcell2 0 (by simp)
      have e1 : wr.cell? ⟨b, off + k * 2 + 1, none⟩ = some (.slice a0 d.acts.length c0) := hcell2 1 (by simp)
      have HC2 := hidden HC
      have hki : (k : Int) < (xs.length : Int) := by omega
      clear hcell2 HC r0
      cases r with
      | true =>
        have HT2 := hidden (HT.out rfl)
        clear HT HN
        go_wp2_with (go_at_call 48; refine HC2.out.mono ?_; rintro e w1 ⟨rfl, b1⟩)
        go_ret
        exact ⟨by rw [HT2.out]; rfl, hbr.trans (b1.mono hbr.size)⟩
      | false =>
        have HN2 := hidden (HN.out rfl)
        clear HT HN
        go_wp2_with (go_at_call 48; refine HC2.out.mono ?_; rintro e w1 ⟨rfl, b1⟩)
        go_roundw
        case rel => exact ⟨k + 1, by omega, by go_num, HN2.out, hbr.trans (b1.mono hbr.size)⟩
        case measure => simp [intOf]; omega
    · have he : k = xs.length := by omega
      subst he
      have HE : Hid (R = -1) := HR.out.trans (idxC_none (fun j hj => hno.out j hj hj))
      clear ha hno HR
      go_wp2_with fail
      go_ret
      exact ⟨by rw [HE.out]; rfl, hbr⟩

set_option maxHeartbeats 2000000 in
set_option maxRecDepth 100000 in
theorem placeC_c (S : Nat → Prop) (v : Value) (xs : List CmdD) (t : ByteArray) (w : World) (hv : RowIn shCmd S w v xs) (hB : ∀ b, S b → b < w.heap.size) :
    Calls Try.prog 35 #[v, .string t] w fun e w' => e = .returned (.int .i64 (idxC xs t)) ∧ Below w.heap.size w w' := by
  have hmf : ∀ (fn : Fn) (first cap : Array Value) (w : World), (Instr.makeFunc fn first cap).run Try.prog w = .ok (.func fn first cap) w := fun _ _ _ _ => rfl
  have hbx : ∀ o, Below w.heap.size w (w.alloc o) := fun o => (Below.refl _ _).alloc (Nat.le_refl _) _
  have HI : Hid (∀ T, Calls Try.prog 47 #[v, .func (.func 48) #[] #[.pointer (some ⟨w.heap.size, 0, none⟩)]] (w.alloc (.cells #[.string t] T)) fun e w' => e = .returned (.int .i64 (idxC xs t)) ∧ Below (w.alloc (.cells #[.string t] T)).heap.size (w.alloc (.cells #[.string t] T)) w') := fun T =>
    idxAtC_c t w.heap.size S v xs _ (hv.keep (.of (hbx _) hB)) (fun b hb => Nat.lt_of_lt_of_le (hB b hb) (hbx _).size) ((vblk_cell (vheap_new w (.cells #[.string t] T)) 0).trans rfl) (by simp)
  obtain ⟨R, hR⟩ : ∃ R, R = idxC xs t := ⟨_, rfl⟩
  rw [← hR] at HI ⊢
  obtain ⟨a, cap, rfl⟩ := hv.slice
  clear hv hR
  go_enter Try.func35, Try.ntmps35
  go_wp2_with fail
  go_at_call 47
  refine (HI.out _).mono ?_
  rintro e w1 ⟨rfl, b1⟩
  go_wp2_with fail
  go_ret
  exact ⟨rfl, (hbx _).trans (b1.mono (hbx _).size)⟩
end Go.Proofs.Ytdiopkegaeliaaa

/-! Whether a pack has a task, as the program asks it over a map of all commands: contracts for the walks; conditions: the packs lie in memory, and hold at most 2 to the 20. -/
namespace Go.Proofs.Ytdiopkegaeliaaa
open Go.RowKit Go.Shelf Go.Maps
set_option linter.unusedSimpArgs false
set_option linter.unusedVariables false

attribute [local go_sem] Oper.semAt_some
set_option maxHeartbeats 2000000 in
set_option maxRecDepth 100000 in
theorem backward_c (a : Option Addr) (n cap : Nat) (w : World) :
    Calls Try.prog 34 #[.slice a n cap] w fun e w' => e = .returned (.func (.func 46) #[] #[.pointer (some ⟨w.heap.size, 0, none⟩)]) ∧ w' = w.alloc (.cells #[.slice a n cap] 27) := by
  have hmf : ∀ (fn : Fn) (first cap : Array Value) (w : World), (Instr.makeFunc fn first cap).run Try.prog w = .ok (.func fn first cap) w := fun _ _ _ _ => rfl
  go_enter Try.func34, Try.ntmps34
  go_wp2_with fail
  go_ret
  exact ⟨rfl, rfl⟩

/-- What the loop keeps: the box of the map, the map. -/
def InvK9 (S : Nat → Prop) (w : World) (xs : List PackD) (pre : List (PkX S w xs)) (W : World) : Prop := W.heap[w.heap.size + 1]? = some (.cells #[.map (some w.heap.size)] 47 (0, 0)) ∧ (∃ sz, MapC W w.heap.size pre.length sz (mpX pre)) ∧ Below w.heap.size w W
theorem InvK9.kept {S : Nat → Prop} {w : World} {xs : List PackD} {pre : List (PkX S w xs)} {W W' : World} {row : Option Nat} (h : InvK9 S w xs pre W) (hg : W.grownBy W' row) (hr : ∀ r, row = some r → w.heap.size + 2 ≤ r) : InvK9 S w xs pre W' := by
  obtain ⟨h1, ⟨sz, h2⟩, h3⟩ := h
  refine ⟨(hg.block _ (Array.getElem?_eq_some_iff.1 h1).1 (fun e => by have := hr _ e.symm; omega)).trans h1, ⟨sz, h2.kept hg (fun e => by have := hr _ e; omega)⟩, h3.grown hg (by have := (Array.getElem?_eq_some_iff.1 h1).1; omega) (fun k e => by have := hr _ e; omega)⟩
theorem find_dec (xs : List PackD) (p : ByteArray) : xs.drop 0 = xs := rfl

set_option maxHeartbeats 8000000 in
set_option maxRecDepth 100000 in
theorem cmdsByPack_c (S : Nat → Prop) (v : Value) (xs : List PackD) (w : World) (hv : RowIn shPack S w v xs) (hB : ∀ b, S b → b < w.heap.size) (hw : wtRow wtPack xs ≤ 1048576) :
    Calls Try.prog 20 #[v] w fun e w' => ∃ mb n sz m, e = .returned (.map (some mb)) ∧ MapC w' mb n sz m ∧ (∀ p, Fnd S w (m p) (xs.find? fun d => decide (d.name = p))) ∧ Below w.heap.size w w' := by
  have hlen : xs.length ≤ 1048576 := by have := len_wtRow wtPack xs; omega
  have hmm := @run_makeMap Try.prog
  obtain ⟨a, cap, hvv⟩ := hv.slice
  subst hvv
  have hm0 := MapC_made w
  obtain ⟨A1, hA1⟩ : ∃ A, A = (w.alloc (.map #[] 0)).alloc (.cells #[.map (some w.heap.size)] 47) := ⟨_, rfl⟩
  have zA : A1.heap.size = w.heap.size + 2 := by rw [hA1]; simp
  have kA : Below w.heap.size w A1 := by rw [hA1]; exact ((Below.refl _ _).alloc (Nat.le_refl _) _).alloc (by simp) _
  have bA : A1.heap[w.heap.size + 1]? = some (.cells #[.map (some w.heap.size)] 47 (0, 0)) := by
    rw [hA1, show w.heap.size + 1 = (w.alloc (.map #[] 0)).heap.size by simp]; exact vheap_new _ _
  have mA : MapC A1 w.heap.size 0 0 (fun _ => none) := by rw [hA1]; exact hm0.kept (World.grownBy_alloc _ _ none) (by simp)
  have iA : InvK9 S w xs [] A1 := ⟨bA, ⟨0, mA⟩, kA⟩
  obtain ⟨A2, hA2⟩ : ∃ A, A = A1.alloc (.cells #[.slice a xs.length cap] 27) := ⟨_, rfl⟩
  have zA2 : A2.heap.size = w.heap.size + 3 := by rw [hA2]; simp [zA]
  have kA2 : Below w.heap.size w A2 := by rw [hA2]; exact kA.alloc (by omega) _
  have cA2 : A2.heap[w.heap.size + 2]? = some (.cells #[.slice a xs.length cap] 27 (0, 0)) := by rw [hA2, show w.heap.size + 2 = A1.heap.size by omega]; exact vheap_new _ _
  have iA2 : InvK9 S w xs [] A2 := by rw [hA2]; exact iA.kept (World.grownBy_alloc _ _ none) (fun r e => by cases e)
  have hseq := backward_stops 5 (by omega) (w.heap.size + 2) w.heap.size S (.slice a xs.length cap) xs A2 w (by omega) (by omega) hB kA2 cA2 hv hlen
  have HA1 : Hid ((w.alloc (.map #[] 0)).alloc (.cells #[.map (some w.heap.size)] 47) = A1) := hA1.symm
  have HA2 : Hid (A1.alloc (.cells #[.slice a xs.length cap] 27) = A2) := hA2.symm
  have HB0 := hidden (backward_c a xs.length cap A1)
  rw [zA] at HB0
  clear hA1 hA2 hm0 mA iA bA cA2 hv hw
  refine (callsIn_wide (n := 3)).1 (callsIn_of_wp_marks Try.func20 rfl trivial (wpIn_wide.2 ?_))
  simp only [Try.ntmps20, List.size_toArray, List.length_cons, List.length_nil, Nat.reduceAdd, Nat.reduceSub, Array.replicate_succ, Array.replicate_zero, List.push_toArray, List.append_toArray, List.nil_append, List.cons_append]
  go_wp2_with fail
  rw [HA1.out]
  go_at_call 34
  refine HB0.out.mono ?_
  rintro e A3 ⟨rfl, hA3⟩
  rw [HA2.out] at hA3
  have hA3' := hA3.symm
  subst hA3'
  clear hmm
  go_wp2_with fail
  refine (wpIn_wide (n := 6)).1 (wpIn_rangeFunc_ownH (F := Fence.wide) rfl (by omega) (gf := 46) rfl trivial (enters_of Try.func46 (by kernel_rfl) rfl) hseq kpB_t (fun W l o o' h1 h2 h3 _ => kpB_b (m := A2.heap.size) (by omega) W l o o' h1 h2 h3) (Below.refl _ _) (fun _ => rfl)
    (fun pre W => InvK9 S w xs pre W) (fun _ _ _ => False)
    (fun s X Y row hs hg hr => hs.kept hg (fun r e => by have := (hr r e).1; omega))
    (fun _ _ _ _ _ hs _ _ => hs) iA2
    (fun x a' W => ∃ Bx, w.heap.size + 2 ≤ Bx ∧ (∃ q0 n0 c0 q1 n1 c1, W.heap[Bx]? = some (.cells #[.string x.1.2.2.1, .slice q0 n0 c0, .slice q1 n1 c1, x.1.2.2.2] 44 (0, 0))) ∧ a' = { tmps := #[.slice a xs.length cap, undef, .map none, .pointer (some ⟨w.heap.size + 1, 0, none⟩), undef, .pointer (some ⟨Bx, 0, none⟩), .map (some w.heap.size), .slice a xs.length cap, .func (.func 46) #[] #[.pointer (some ⟨w.heap.size + 2, 0, none⟩)], .int .i64 (x.1.1 : Int), x.1.2.1, undef, undef, undef, undef, undef, undef], defers := [] })
    (fun x a' _ X Y row hs hg hr => by
      obtain ⟨Bx, h1, ⟨q0, n0, c0, q1, n1, c1, h2⟩, h3⟩ := hs
      exact ⟨Bx, h1, ⟨q0, n0, c0, q1, n1, c1, (hg.block Bx (Array.getElem?_eq_some_iff.1 h2).1 (fun e => by obtain ⟨_, o, ho, hc⟩ := hr Bx e.symm; rw [h2] at ho; cases ho; simp [Obj.isCells] at hc)).trans h2⟩, h3⟩)
    ?assign ?body ?done ?stop)
  case assign =>
    rintro l pre x W K hI hK
    obtain ⟨hk, h1, h2, ⟨q2, c2, e2⟩, h4, q0, n0, c0, q1, n1, c1, e3⟩ := id x.2
    have zW : w.heap.size + 2 ≤ W.heap.size := by have := (Array.getElem?_eq_some_iff.1 hI.1).1; omega
    have HK := hidden hK
    have HE3 := hidden e3
    have HE2 := hidden e2
    clear hK hseq
    dsimp only
    rw [e3, e2]
    clear e3 e2 h1
    gi_wp2
    refine HK.out _ _ ((KeepsOthers.alloc _ _).from _) ⟨(Below.refl _ W).alloc (by omega) _, fun cs t fz e => (vheap_old _ _ (Array.getElem?_eq_some_iff.1 e).1).trans e⟩ (hI.kept (World.grownBy_alloc _ _ none) (fun r e => by cases e)) ⟨W.heap.size, ?_, ⟨q0, n0, c0, q1, n1, c1, by rw [HE2.out]; exact vheap_new _ _⟩, by rw [HE3.out, HE2.out]⟩
    omega
  case body =>
    rintro l pre x a' W hl ⟨r, hr⟩ hI ⟨Bx, hBx, ⟨q0, n0, c0, q1, n1, c1, hbx⟩, rfl⟩ hN
    obtain ⟨hk, h1, h2, ⟨q2, c2, e2⟩, h4, _⟩ := id x.2
    obtain ⟨i1, ⟨sz, i2⟩, i3⟩ := hI
    have HSN : Hid (mpX (pre ++ [x]) = fun q => if q = x.1.2.2.1 then some x.1.2.2.2 else mpX pre q) := mpX_snoc _ _
    obtain ⟨nm, hnm⟩ : ∃ n, n = x.1.2.2.1 := ⟨_, rfl⟩
    obtain ⟨cv, hcv⟩ : ∃ n, n = x.1.2.2.2 := ⟨_, rfl⟩
    obtain ⟨pv, hpv⟩ : ∃ n, n = x.1.2.1 := ⟨_, rfl⟩
    obtain ⟨nc, hnc⟩ : ∃ n, n = xs[x.1.1].cmds.length := ⟨_, rfl⟩
    rw [← hcv, ← hnc] at e2
    rw [← hnm, ← hcv] at hbx HSN
    rw [← hnm] at h2
    rw [← hpv]
    have x0 : W.cell? ⟨w.heap.size + 1, 0, none⟩ = some (.map (some w.heap.size)) := vblk_cell i1 0
    have y0 : W.cell? ⟨Bx, 0, none⟩ = some (.string nm) := vblk_cell hbx 0
    have y3 : W.cell? ⟨Bx, 3, none⟩ = some cv := vblk_cell hbx 3
    have hpl : pre.length < maxLen := by unfold maxLen; omega
    have HE : Hid (∀ W2 sz2, MapC W2 w.heap.size (pre.length + 1) sz2 (fun q => if q = nm then some cv else mpX pre q) → W.grownBy W2 (some w.heap.size) → KeepsFrom A2.heap.size W W2 ∧ KpB w.heap.size (w.heap.size + 2) W W2 ∧ InvK9 S w xs (pre ++ [x]) W2) := fun W2 sz2 hm hg => by
      refine ⟨KeepsFrom.of_grownBy hg (fun j e => by cases e; omega), ⟨(Below.refl _ W).grown hg (by have := i3.size; omega) (fun k e => by have := Option.some.inj e; omega), fun cs t fz e => (hg.block _ (Array.getElem?_eq_some_iff.1 e).1 (fun e9 => by have := Option.some.inj e9; omega)).trans e⟩, (hg.block _ (Array.getElem?_eq_some_iff.1 i1).1 (fun e9 => by have := Option.some.inj e9; omega)).trans i1, ⟨sz2, ?_⟩, i3.grown hg i3.size (fun k e => by have := Option.some.inj e; omega)⟩
      rw [HSN.out, List.length_append]
      exact hm
    subst e2
    have HM := hidden i2
    clear i1 i2 i3 h4 h1 hseq hbx HSN hnc hnm hcv hpv
    gi_wp2_with (gi_at_mapUpdate; refine wpListIn_mapUpdate_C _ rfl _ _ _ rfl w.heap.size pre.length sz (mpX pre) rfl HM.out hpl nm rfl h2 _ rfl ?_; intro W2 hm2 hg2)
    exact HE.out _ _ hm2 hg2
  case done =>
    rintro D ys W hD hS hI hd
    obtain ⟨i1, ⟨sz, i2⟩, i3⟩ := hI
    have x0 : W.cell? ⟨w.heap.size + 1, 0, none⟩ = some (.map (some w.heap.size)) := vblk_cell i1 0
    have HF := hidden (fun p => (fnd_dn hS p).2)
    have hgp := grownBy_putObj' W D (.deferred none)
    have HM := hidden i2
    clear hseq i1 i2
    rename_i Q9 K9 hK9
    show K9 _ _
    refine hK9 _ _ ?_
    clear hK9
    go_wp2_with fail
    refine ⟨by simp, .inl ⟨_, _, rfl, run_takeDeferred hd, ?_⟩⟩
    refine ⟨.map (some w.heap.size), ?_, w.heap.size, ys.length, sz, mpX ys, rfl, HM.out.kept hgp (fun e => by have := Option.some.inj e; omega), fun p => HF.out p, ?_⟩
    · simp [results, Try.f20, go_sem]
    · exact i3.grown hgp i3.size (fun k e => by have := Option.some.inj e; omega)
  case stop =>
    rintro D c pre W _ _ h _
    exact h.elim

/-- Whether a pack has a task. -/
def hasT (xs : List PackD) (n t : ByteArray) : Bool := match xs.find? (fun d => decide (d.name = n)) with
  | some d => d.cmds.any (isCm t)
  | none => false
set_option maxHeartbeats 2000000 in
set_option maxRecDepth 100000 in
theorem hasT_c (S : Nat → Prop) (xs : List PackD) (p t : ByteArray) (mb n sz : Nat) (m : ByteArray → Option Value) (w0 w : World) (hm : MapC w mb n sz m) (hF : ∀ p, Fnd S w0 (m p) (xs.find? fun d => decide (d.name = p))) (hB : ∀ b, S b → b < w0.heap.size) (hb : Below w0.heap.size w0 w) (hp : p.size ≤ maxLen) :
    Calls Try.prog 21 #[.map (some mb), .string p, .string t] w fun e w' => e = .returned (.bool (hasT xs p t)) ∧ Below w.heap.size w w' := by
  have hlk := hm.one hp
  have hfp := hF p
  have HC : Hid (∀ u, u = (m p).getD (.slice none 0 0) → ∃ r : Int, decide (0 ≤ r) = hasT xs p t ∧ Calls Try.prog 35 #[u, .string t] w fun e w' => e = .returned (.int .i64 r) ∧ Below w.heap.size w w') := fun u hu => by
    subst hu
    unfold hasT
    cases h1 : m p with
    | none =>
      rw [h1] at hfp
      cases h2 : xs.find? (fun d => decide (d.name = p)) with
      | none => exact ⟨idxC [] t, by rw [idxC_any]; rfl, placeC_c S _ [] t w ⟨none, 0, rfl, Nat.zero_le _, Nat.zero_le _, .inl rfl⟩ (fun b hb' => Nat.lt_of_lt_of_le (hB b hb') hb.size)⟩
      | some d => rw [h2] at hfp; exact hfp.elim
    | some v =>
      rw [h1] at hfp
      cases h2 : xs.find? (fun d => decide (d.name = p)) with
      | none => rw [h2] at hfp; exact hfp.elim
      | some d =>
        rw [h2] at hfp
        exact ⟨idxC d.cmds t, idxC_any _ _, placeC_c S v d.cmds t w (RowIn.keep (.of hb hB) hfp) (fun b hb' => Nat.lt_of_lt_of_le (hB b hb') hb.size)⟩
  obtain ⟨u, hu⟩ : ∃ u, u = (m p).getD (.slice none 0 0) := ⟨_, rfl⟩
  rw [← hu] at hlk
  obtain ⟨r, hr, hc⟩ := HC.out u hu
  have HC2 := hidden hc
  have HR := hidden hr
  clear hc hr HC hu hfp hF hm
  go_enter Try.func21, Try.ntmps21
  go_wp2_with fail
  go_at_call 35
  refine HC2.out.mono ?_
  rintro e w1 ⟨rfl, b1⟩
  go_wp2_with fail
  go_ret
  exact ⟨by rw [← HR.out]; rfl, b1⟩
end Go.Proofs.Ytdiopkegaeliaaa

/-! Lists of texts that rise: two of them with the same members are one list; the plain facts on the order of texts, byte by byte; no condition. -/
namespace Go.Proofs.Ytdiopkegaeliaaa
open Go.RowKit
set_option linter.unusedSimpArgs false
set_option linter.unusedVariables false

theorem ltL_irrefl (x : List UInt8) : ¬ x < x := List.lt_irrefl x
theorem ltL_trans {x y z : List UInt8} (h : x < y) (k : y < z) : x < z := List.lt_trans h k
theorem ltL_total {x y : List UInt8} (h : ¬ x < y) (k : ¬ y < x) : x = y := List.le_antisymm (by simpa using k) (by simpa using h)

def Rises (l : List (List UInt8)) : Prop := l.Pairwise (· < ·)

theorem rises_eq : ∀ (a b : List (List UInt8)), Rises a → Rises b → (∀ x, x ∈ a ↔ x ∈ b) → a = b
  | [], [], _, _, _ => rfl
  | [], y :: b, _, _, h => by have := (h y).2 (by simp); simp at this
  | x :: a, [], _, _, h => by have := (h x).1 (by simp); simp at this
  | x :: a, y :: b, ha, hb, h => by
    have ha' := List.pairwise_cons.1 ha
    have hb' := List.pairwise_cons.1 hb
    have hxy : x = y := by
      rcases List.mem_cons.1 ((h x).1 (by simp)) with e | e
      · exact e
      · rcases List.mem_cons.1 ((h y).2 (by simp)) with e' | e'
        · exact e'.symm
        · exact absurd (ltL_trans (hb'.1 x e) (ha'.1 y e')) (ltL_irrefl _)
    subst hxy
    have hab : a = b := rises_eq a b ha'.2 hb'.2 (fun z => by
      constructor
      · intro hz
        rcases List.mem_cons.1 ((h z).1 (List.mem_cons_of_mem _ hz)) with e | e
        · subst e; exact absurd (ha'.1 z hz) (ltL_irrefl _)
        · exact e
      · intro hz
        rcases List.mem_cons.1 ((h z).2 (List.mem_cons_of_mem _ hz)) with e | e
        · subst e; exact absurd (hb'.1 z hz) (ltL_irrefl _)
        · exact e)
    rw [hab]

def bytesL (s : ByteArray) : List UInt8 := s.data.toList
theorem bytesL_inj {a b : ByteArray} (h : bytesL a = bytesL b) : a = b := ByteArray.ext (Array.toList_inj.1 h)
def risesS (ss : List ByteArray) : Prop := Rises (ss.map bytesL)

theorem risesS_eq {a b : List ByteArray} (ha : risesS a) (hb : risesS b) (h : ∀ x, x ∈ a ↔ x ∈ b) : a = b := by
  have e := rises_eq _ _ ha hb (fun x => by
    constructor
    · intro hx
      obtain ⟨s, hs, rfl⟩ := List.mem_map.1 hx
      exact List.mem_map.2 ⟨s, (h s).1 hs, rfl⟩
    · intro hx
      obtain ⟨s, hs, rfl⟩ := List.mem_map.1 hx
      exact List.mem_map.2 ⟨s, (h s).2 hs, rfl⟩)
  exact List.map_inj_right (fun _ _ => bytesL_inj) |>.1 e

/-- What is put in where all behind is greater and all ahead is less. -/
theorem rises_insert {xs : List ByteArray} {x : ByteArray} {k : Nat} (hk : k ≤ xs.length) (h : risesS xs) (hl : ∀ j (hj : j < xs.length), j < k → bytesL xs[j] < bytesL x) (hg : ∀ j (hj : j < xs.length), k ≤ j → bytesL x < bytesL xs[j]) :
    risesS (xs.take k ++ x :: xs.drop k) := by
  unfold risesS Rises at *
  rw [List.map_append, List.map_cons, List.pairwise_append]
  refine ⟨?_, ?_, ?_⟩
  · rw [List.map_take]; exact h.sublist (List.take_sublist _ _)
  · rw [List.pairwise_cons]
    refine ⟨fun y hy => ?_, ?_⟩
    · obtain ⟨s, hs, rfl⟩ := List.mem_map.1 hy
      obtain ⟨j, hj, rfl⟩ := List.getElem_of_mem hs
      rw [List.getElem_drop]
      simp at hj
      exact hg _ (by omega) (by omega)
    · rw [List.map_drop]; exact h.sublist (List.drop_sublist _ _)
  · intro a ha b hb
    obtain ⟨s, hs, rfl⟩ := List.mem_map.1 ha
    obtain ⟨j, hj, rfl⟩ := List.getElem_of_mem hs
    rw [List.getElem_take]
    simp at hj
    have h1 := hl j (by omega) (by omega)
    rcases List.mem_cons.1 hb with rfl | hb
    · exact h1
    · obtain ⟨s', hs', rfl⟩ := List.mem_map.1 hb
      obtain ⟨j', hj', rfl⟩ := List.getElem_of_mem hs'
      rw [List.getElem_drop]
      simp at hj'
      exact ltL_trans h1 (hg _ (by omega) (by omega))

theorem mem_insert (xs : List ByteArray) (x y : ByteArray) (k : Nat) : y ∈ xs.take k ++ x :: xs.drop k ↔ y = x ∨ y ∈ xs := by
  rw [List.mem_append, List.mem_cons]
  constructor
  · rintro (h | h | h)
    · exact .inr (List.mem_of_mem_take h)
    · exact .inl h
    · exact .inr (List.mem_of_mem_drop h)
  · rintro (h | h)
    · exact .inr (.inl h)
    · rw [← List.take_append_drop k xs, List.mem_append] at h
      rcases h with h | h
      · exact .inl h
      · exact .inr (.inr h)
end Go.Proofs.Ytdiopkegaeliaaa
