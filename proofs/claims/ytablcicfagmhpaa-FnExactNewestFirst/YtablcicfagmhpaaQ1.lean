/-
  Contracts for the walks, several texts in one: each part says what it proves, and under which conditions.
-/
import Derived.Test.YtablcicfagmhpaaRows
import Derived.WalkKit
import Derived.WalkSpells
import Derived.WalkLawsBesides
import Derived.Lib.Strings
import Derived.Deep.LoopGhost
import Derived.Deep.QuietTactic
import Derived.BigQuiet
import Derived.WalkSmall
import Derived.Laws.BytesArg
import Derived.Deep.RegionWith

/-! What the functions that look at one byte, and the two functions NameOk (the program's and the specification's), answer: contracts for the walks; no conditions but that a string is no longer than an int can count. -/
namespace Go.Proofs.Ytablcicfagmhpaa
open Go.RowKit
set_option linter.unusedSimpArgs false
set_option linter.unusedVariables false

def smallB (c : Int) : Bool := decide (97 ≤ c) && decide (c ≤ 122)
def digitB (c : Int) : Bool := decide (48 ≤ c) && decide (c ≤ 57)
def plainB (c : Int) : Bool := decide (32 ≤ c) && decide (c ≤ 126)
def inB (x lo hi : Int) : Bool := decide (lo ≤ x) && decide (x ≤ hi)

def allUpto (p : Nat → Int → Bool) (s : ByteArray) : Nat → Bool
  | 0 => true
  | k + 1 => allUpto p s k && p k ((s.data[k]!).toNat : Int)

theorem byteBang (s : ByteArray) (j : Nat) (hj : j < s.size) : s.data[j]! = s[j] := by
  rw [getElem!_pos s.data j (by simpa using hj)]; rfl

theorem allUpto_cut (p : Nat → Int → Bool) (s : ByteArray) (k : Nat) (h : p k ((s.data[k]!).toNat : Int) = false) :
    ∀ n, k < n → allUpto p s n = false
  | 0, h0 => by omega
  | n + 1, hk => by
    unfold allUpto
    by_cases e : k = n
    · subst e; simp [h]
    · rw [allUpto_cut p s k h n (by omega)]; rfl

theorem step_true {p : Nat → Int → Bool} {s : ByteArray} {k : Nat} (hk : k < s.size) (hh : Hid (allUpto p s k = true)) (h : p k ((s[k]).toNat : Int) = true) : Hid (allUpto p s (k + 1) = true) := by
  show _ = _
  rw [allUpto, hh.out, byteBang s k hk, h]; rfl

theorem end_false {p : Nat → Int → Bool} {s : ByteArray} {k : Nat} (hk : k < s.size) (h : p k ((s[k]).toNat : Int) = false) : allUpto p s s.size = false :=
  allUpto_cut p s k (by rw [byteBang s k hk]; exact h) _ hk

theorem in_c (x lo hi : Int) (w : World) :
    Calls Try.prog 60 #[.int .i64 x, .int .i64 lo, .int .i64 hi] w fun e w' => e = .returned (.bool (inB x lo hi)) ∧ w = w' := by
  by_cases h : lo ≤ x
  · by_cases h2 : x ≤ hi
    · have hb : inB x lo hi = true := by simp [inB, h, h2]
      rw [hb]
      go_enter Try.func60, Try.ntmps60
      go_wp2
      go_ret
      exact ⟨by simp [h2], rfl⟩
    · have hb : inB x lo hi = false := by simp [inB, h2]
      rw [hb]
      go_enter Try.func60, Try.ntmps60
      go_wp2
      go_ret
      exact ⟨by simp [h2], rfl⟩
  · have hb : inB x lo hi = false := by simp [inB, h]
    rw [hb]
    go_enter Try.func60, Try.ntmps60
    go_wp2
    go_ret
    exact ⟨rfl, rfl⟩

theorem digit_c (c : Int) (h0 : 0 ≤ c) (h1 : c ≤ 255) (w : World) :
    Calls Try.prog 58 #[.int .u8 c] w fun e w' => e = .returned (.bool (digitB c)) ∧ w = w' := by
  go_enter Try.func58, Try.ntmps58
  go_wp2_with (go_at_call 60; refine (in_c _ _ _ _).mono ?_; rintro e w' ⟨rfl, rfl⟩)
  go_ret
  exact ⟨rfl, rfl⟩

theorem isDigit_c (c : Int) (w : World) :
    Calls Try.prog 56 #[.int .u8 c] w fun e w' => e = .returned (.bool (digitB c)) ∧ w = w' := by
  by_cases h : 48 ≤ c
  · have hb : digitB c = decide (c ≤ 57) := by simp [digitB, h]
    rw [hb]
    go_enter Try.func56, Try.ntmps56
    go_wp2
    go_ret
    exact ⟨rfl, rfl⟩
  · have hb : digitB c = false := by simp [digitB, h]
    rw [hb]
    go_enter Try.func56, Try.ntmps56
    go_wp2
    go_ret
    exact ⟨rfl, rfl⟩

theorem byte0 (u : UInt8) : (0 : Int) ≤ (u.toNat : Int) := by omega
theorem wrap_byte (u : UInt8) : wrap64 (u.toNat : Int) = (u.toNat : Int) := by
  have := u.toNat_lt
  rw [wrap64]; omega
theorem byte255 (u : UInt8) : (u.toNat : Int) ≤ 255 := by have := u.toNat_lt; omega

def okName (k : Nat) (c : Int) : Bool := smallB c || (k != 0 && (digitB c || c == 45))
def nameB (s : ByteArray) : Bool := allUpto okName s s.size && inB s.size 1 10

theorem size_ne {s : ByteArray} (h : ¬ s.size = 0) : ((s.size : Int) == 0) = false := by
  rw [beq_eq_false_iff_ne]; omega

theorem nameB_out {s : ByteArray} (h : s.size = 0 ∨ 10 < s.size) : nameB s = false := by
  have : inB s.size 1 10 = false := by
    simp only [inB, Bool.and_eq_false_iff, decide_eq_false_iff_not]
    omega
  rw [nameB, this, Bool.and_false]

theorem nameB_first {s : ByteArray} (h0 : 0 < s.size) (h : smallB ((s[0]).toNat : Int) = false) : nameB s = false := by
  rw [nameB, end_false h0 (by simp [okName, h])]; rfl

theorem nameB_in {s : ByteArray} (h0 : 0 < s.size) (h1 : s.size ≤ 10) (h : allUpto okName s s.size = true) : nameB s = true := by
  have : inB s.size 1 10 = true := by
    simp only [inB, Bool.and_eq_true, decide_eq_true_eq]
    omega
  rw [nameB, this, h]; rfl

def okPlain (_ : Nat) (c : Int) : Bool := plainB c
def plainAll (s : ByteArray) (most : Int) : Bool := allUpto okPlain s s.size && decide ((s.size : Int) ≤ most)

end Go.Proofs.Ytablcicfagmhpaa

/-! What the helpers over lists of bytes answer (a copy, whether two are alike, marking, whether the marks are held): contracts for the walks, over any world; conditions: the lists lie in memory as told, and are no longer than 2 to the 48. -/
namespace Go.Proofs.Ytablcicfagmhpaa
open Go.RowKit
set_option linter.unusedSimpArgs false
set_option linter.unusedVariables false

/-- The slice value v reads as the list xs in the world w. -/
def Reads (w : World) (v : Value) (xs : List Value) : Prop :=
  ∃ a cap, v = .slice a xs.length cap ∧ xs.length ≤ cap ∧ (xs = [] ∨ ∃ b off, a = some ⟨b, off, none⟩ ∧ b < w.heap.size ∧ ∀ i (h : i < xs.length), w.cell? ⟨b, off + i, none⟩ = some xs[i])

theorem Reads.below {w w' : World} {v : Value} {xs : List Value} (h : Reads w v xs) (hb : Below w.heap.size w w') : Reads w' v xs := by
  obtain ⟨a, cap, hv, hcp, h | ⟨b, off, ha, hlt, hc⟩⟩ := h
  · exact ⟨a, cap, hv, hcp, .inl h⟩
  · exact ⟨a, cap, hv, hcp, .inr ⟨b, off, ha, Nat.lt_of_lt_of_le hlt hb.size, fun i hi => by rw [hb.cell (p := ⟨b, off + i, none⟩) hlt]; exact hc i hi⟩⟩

theorem below_of_grown {w w' : World} (h : w.grownBy w' none) : Below w.heap.size w w' := ⟨h.os, h.tape, h.output, h.size, fun k hk => h.block k hk (by simp)⟩
theorem grown_of_below {w w' : World} (h : Below w.heap.size w w') (row : Option Nat) : w.grownBy w' row := ⟨h.os, h.tape, h.output, h.size, fun k hk _ => h.block k hk⟩

theorem reads_of_owns {w : World} {base : Nat} {e : TypeId} {v : Value} {n : Nat} {xs : List Value} (h : w.ownsRow base e 1 v n xs) : Reads w v xs := by
  obtain ⟨hl, h⟩ := h
  rw [Nat.mul_one] at hl
  rcases h with ⟨rfl, hn⟩ | ⟨g, cap, cur, rfl, hb, hg, hn, hcap, hsz, htake⟩
  · have : xs = [] := List.eq_nil_of_length_eq_zero (by omega)
    subst this
    exact ⟨none, 0, rfl, Nat.le_refl _, .inl rfl⟩
  · refine ⟨some ⟨g, 0, none⟩, cap, by rw [hl], by omega, .inr ⟨g, 0, rfl, (Array.getElem?_eq_some_iff.1 hg).1, fun i hi => ?_⟩⟩
    rw [Nat.zero_add]
    have := World.ownsRow.cellAt (w := w) (base := base) (e := e) (size := 1) (g := g) (n := n) (cap := cap) (xs := xs) ⟨by omega, .inr ⟨g, cap, cur, rfl, hb, hg, hn, hcap, hsz, htake⟩⟩ i (by omega)
    rw [this]
    simp [hi]

theorem owns_of_below {w w' : World} {base : Nat} {e : TypeId} {v : Value} {n : Nat} {xs : List Value} (h : w.ownsRow base e 1 v n xs) (hb : Below w.heap.size w w') : w'.ownsRow base e 1 v n xs :=
  h.kept (grown_of_below hb none) (by cases hv : v.ownBlock <;> simp)

theorem owns_empty {w : World} {base : Nat} {e : TypeId} {v : Value} {xs : List Value} (h : w.ownsRow base e 1 v 0 xs) : w.ownsRow base e 1 v 0 [] := by
  have : xs = [] := List.eq_nil_of_length_eq_zero (by simpa using h.1)
  subst this
  exact h

theorem info5 : (Try.prog.info? 5).map (fun i => (i.zero, i.size, i.bytes)) = some (some (.int .u8 0), 1, 1) := by kernel_rfl

theorem set_step {ys xs : List Value} {n k : Nat} {u : Value} (hk : k < n) (h : ys.length = n ∧ ∀ j, j < k → ys[j]? = xs[j]?) (hu : xs[k]? = some u) :
    Hid ((ys.set k u).length = n ∧ ∀ j, j < k + 1 → (ys.set k u)[j]? = xs[j]?) := by
  refine ⟨by simp [h.1], fun j hj => ?_⟩
  rw [List.getElem?_set]
  by_cases e : k = j
  · subst e; simp [h.1, hk, hu]
  · rw [if_neg e]; exact h.2 j (by omega)

theorem list_done {ys xs : List Value} {n : Nat} (h1 : ys.length = n) (h2 : xs.length = n) (h : ∀ j, j < n → ys[j]? = xs[j]?) : ys = xs := by
  apply List.ext_getElem?
  intro j
  by_cases hj : j < n
  · exact h j hj
  · rw [List.getElem?_eq_none (by omega), List.getElem?_eq_none (by omega)]

def bytesV (zs : List Int) : List Value := zs.map (Value.int .u8)
@[simp] theorem length_bytesV (zs : List Int) : (bytesV zs).length = zs.length := by simp [bytesV]

/-- A byte list's cells, as the walk asks for them. -/
theorem reads_bytes {w : World} {v : Value} {zs : List Int} (h : Reads w v (bytesV zs)) :
    ∃ a cap, v = .slice a zs.length cap ∧ zs.length ≤ cap ∧ (zs = [] ∨ ∃ b off, a = some ⟨b, off, none⟩ ∧ b < w.heap.size ∧ ∀ k, k < zs.length → w.cell? ⟨b, off + k, none⟩ = some (.int .u8 (zs.getD k 0))) := by
  obtain ⟨a, cap, hv, hcp, hc⟩ := h
  rw [length_bytesV] at hv hcp
  refine ⟨a, cap, hv, hcp, ?_⟩
  rcases hc with hc | ⟨b, off, rfl, hlt, hc⟩
  · exact .inl (by simpa [bytesV] using hc)
  · refine .inr ⟨b, off, rfl, hlt, fun k hk => ?_⟩
    rw [hc k (by simpa using hk)]
    simp [bytesV, List.getD_eq_getElem?_getD, hk]

theorem below_drewN' {B : Nat} {a w : World} (h : Below B a w) (n : Nat) : Below B a (w.drewN n) := h.trans ⟨rfl, rfl, rfl, Nat.le_refl _, fun _ _ => rfl⟩

theorem eq_step {zs ys : List Int} {k : Nat} (h : ∀ j, j < k → zs.getD j 0 = ys.getD j 0) (hk : zs.getD k 0 = ys.getD k 0) : Hid (∀ j, j < k + 1 → zs.getD j 0 = ys.getD j 0) := fun j hj => by
  by_cases e : j = k
  · subst e; exact hk
  · exact h j (by omega)

theorem ints_done {zs ys : List Int} (hl : zs.length = ys.length) (h : ∀ j, j < zs.length → zs.getD j 0 = ys.getD j 0) : zs = ys := by
  apply List.ext_getElem hl
  intro j h1 h2
  have := h j h1
  simpa [List.getD_eq_getElem?_getD, h1, h2] using this

/-- The marks k, k + 1 .. as bytes. -/
def marksB (k : Int) (n : Nat) : List Int := (List.range n).map fun (j : Nat) => (k + (j : Int)) % 256
@[simp] theorem length_marksB (k : Int) (n : Nat) : (marksB k n).length = n := by simp [marksB]
theorem marksB_at (k : Int) (n j : Nat) (h : j < n) : (bytesV (marksB k n))[j]? = some (.int .u8 ((k + (j : Int)) % 256)) := by
  simp [bytesV, marksB, h]

theorem grown_trans {a b c : World} {r : Option Nat} (h : a.grownBy b r) (k : b.grownBy c r) : a.grownBy c r :=
  ⟨k.os.trans h.os, k.tape.trans h.tape, k.output.trans h.output, Nat.le_trans h.size k.size, fun i hi hne => (k.block i (Nat.lt_of_lt_of_le hi h.size) hne).trans (h.block i hi hne)⟩

end Go.Proofs.Ytablcicfagmhpaa

/-! What the helper that tells a number as a mark answers: one text for each number; it makes memory of its own and writes into nothing else; condition: the number is at least 1 and at most 2 to the 40. -/
namespace Go.Proofs.Ytablcicfagmhpaa
open Go.RowKit
set_option linter.unusedSimpArgs false
set_option linter.unusedVariables false

def markLoop : Nat → Nat → ByteArray → ByteArray
  | 0, _, out => out
  | f + 1, k, out => if k = 0 then out else markLoop f (k / 10) (strOfNums [48 + (k : Int) % 10] ++ out)
def markStr (k : Nat) : ByteArray := ⟨#[109]⟩ ++ markLoop k k ⟨#[]⟩

theorem conv_one {w : World} (x : Int) : (convert 65 9 (.slice (some ⟨w.heap.size, 0, none⟩) 1 1)).run Try.prog (w.alloc (.cells #[.int .u8 x] 5)) = .ok (.string (strOfNums [x])) (w.alloc (.cells #[.int .u8 x] 5)) := by
  refine run_convert_bytes_arg _ 65 5 Try.underlying65 Try.underlying5 _ 0 1 1 [x] rfl (fun i hi => ?_) 9 Try.underlying9
  have : i = 0 := by omega
  subst this
  simp

set_option maxHeartbeats 1000000 in
set_option maxRecDepth 100000 in
theorem markText_c (k0 : Nat) (w : World) (h1 : 1 ≤ k0) (h2 : k0 ≤ 1099511627776) :
    Calls Try.prog 20 #[.int .i64 (k0 : Int)] w fun e w' => e = .returned (.string (markStr k0)) ∧ Below w.heap.size w w' := by
  have h0 : ¬ ((k0 : Int) ≤ 0) := by omega
  go_enter Try.func20, Try.ntmps20
  go_wp2
  go_loopw [0, 3] (fun vk vo wr => ∃ (k f : Nat) (out : ByteArray), vk = .int .i64 (k : Int) ∧ vo = .string out ∧ k ≤ f ∧ k ≤ k0 ∧ out.size + k ≤ k0 ∧ Hid (markLoop f k out = markLoop k0 k0 ⟨#[]⟩) ∧ Below w.heap.size w wr) (fun vk _ _ => (intOf vk).toNat)
  case atStart => exact ⟨k0, k0, _, rfl, rfl, Nat.le_refl _, Nat.le_refl _, Nat.le_of_eq (Nat.zero_add _), rfl, Below.refl _ _⟩
  case round =>
    obtain ⟨k, f, out, rfl, rfl, hkf, hk0, hsz, hh, hbr⟩ := hrel
    have hcv := conv_one (w := wr) (48 + (k : Int) % 10)
    have h1s : (strOfNums [48 + (k : Int) % 10]).size = 1 := strOfNums_size _
    go_wp2
    · have hkp : 0 < k := by omega
      obtain ⟨f, rfl⟩ : ∃ f', f = f' + 1 := ⟨f - 1, by omega⟩
      go_roundw
      case rel =>
        refine ⟨k / 10, f, _, by go_num, rfl, by omega, by omega, ?_, ?_, hbr.alloc hbr.size _⟩
        · rw [ByteArray.size_append, h1s]; omega
        · show _ = _
          rw [← hh.out, markLoop, if_neg (by omega)]
      case measure => simp [intOf]; omega
    · have hk : k = 0 := by omega
      subst hk
      have e : markLoop f 0 out = out := by cases f <;> simp [markLoop]
      go_ret
      exact ⟨by rw [markStr, ← hh.out, e]; rfl, hbr⟩
end Go.Proofs.Ytablcicfagmhpaa

/-! What the helpers over lists of texts answer (a copy, whether two are alike, marking, whether the marks are held, how much there is): contracts for the walks, over any world; conditions: the lists lie in memory as told, and are no longer than 2 to the 40. -/
namespace Go.Proofs.Ytablcicfagmhpaa
open Go.RowKit
set_option linter.unusedSimpArgs false
set_option linter.unusedVariables false

def strsV (ss : List ByteArray) : List Value := ss.map Value.string
@[simp] theorem length_strsV (ss : List ByteArray) : (strsV ss).length = ss.length := by simp [strsV]
theorem strsV_at (ss : List ByteArray) (j : Nat) (h : j < ss.length) : (strsV ss)[j]? = some (.string ss[j]) := by simp [strsV, h]
theorem infoS : (Try.prog.info? 9).map (fun i => (i.zero, i.size, i.bytes)) = some (some (.string ⟨#[]⟩), 1, 16) := by kernel_rfl

theorem reads_strs {w : World} {v : Value} {ss : List ByteArray} (h : Reads w v (strsV ss)) :
    ∃ a cap, v = .slice a ss.length cap ∧ ss.length ≤ cap ∧ (ss = [] ∨ ∃ b off, a = some ⟨b, off, none⟩ ∧ b < w.heap.size ∧ ∀ k (h : k < ss.length), w.cell? ⟨b, off + k, none⟩ = some (.string ss[k])) := by
  obtain ⟨a, cap, hv, hcp, hc⟩ := h
  rw [length_strsV] at hv hcp
  refine ⟨a, cap, hv, hcp, ?_⟩
  rcases hc with hc | ⟨b, off, rfl, hlt, hc⟩
  · exact .inl (by simpa [strsV] using hc)
  · refine .inr ⟨b, off, rfl, hlt, fun k hk => ?_⟩
    rw [hc k (by simpa using hk)]
    simp [strsV]

set_option maxHeartbeats 1000000 in
set_option maxRecDepth 100000 in
theorem toStrs_c (v : Value) (ss : List ByteArray) (w : World) (hr : Reads w v (strsV ss)) (hn : ss.length ≤ 1099511627776) :
    Calls Try.prog 44 #[v] w fun e w' => ∃ g, e = .returned (.slice (some ⟨g, 0, none⟩) ss.length ss.length) ∧ w'.ownsRow w.heap.size 9 1 (.slice (some ⟨g, 0, none⟩) ss.length ss.length) ss.length (strsV ss) ∧ Below w.heap.size w w' := by
  obtain ⟨a, cap, rfl, _, hc⟩ := reads_strs hr
  clear hr
  obtain ⟨i0, hi, hz0, hz1, hz2⟩ := info_parts infoS
  rcases hc with rfl | ⟨b, off, rfl, hlt, hc⟩
  · go_enter Try.func44, Try.ntmps44
    go_wp2_with (first
      | (at_make; refine wpList_make_full _ rfl _ _ 31 rfl w.heap.size 9 i0 (.string ⟨#[]⟩) 1 Try.underlying31 hi hz0 hz1 _ _ _ _ 0 rfl rfl rfl rfl (by omega) (by unfold maxLen; omega) (Nat.le_refl _) ?_))
    intro w1 hown hgrow
    have hb1 := below_of_grown hgrow
    go_wp2
    go_loopw [4] (fun vi wr => vi = .int .i64 0 ∧ wr = w1) (fun _ _ => 0)
    case atStart => exact ⟨rfl, rfl⟩
    case round =>
      obtain ⟨rfl, rfl⟩ := hrel
      go_wp2
      go_ret
      exact ⟨_, rfl, owns_empty hown, hb1⟩
  · go_enter Try.func44, Try.ntmps44
    go_wp2_with (first
      | (at_make; refine wpList_make_full _ rfl _ _ 31 rfl w.heap.size 9 i0 (.string ⟨#[]⟩) 1 Try.underlying31 hi hz0 hz1 _ _ _ _ ss.length rfl rfl rfl rfl (by rw [hz2]; omega) (by unfold maxLen; omega) (Nat.le_refl _) ?_))
    intro w1 hown hgrow
    have hb1 := below_of_grown hgrow
    obtain ⟨ys1, hl1, hown1⟩ : ∃ ys, ys.length = ss.length ∧ w1.ownsRow w.heap.size 9 1 (.slice (some ⟨w.heap.size, 0, none⟩) ss.length ss.length) ss.length ys := ⟨_, by simpa using hown.1, hown⟩
    clear hgrow hown
    go_wp2
    go_loopw [4] (fun vi wr => ∃ (k : Nat) (ys : List Value), k ≤ ss.length ∧ vi = .int .i64 (k : Int) ∧ wr.ownsRow w.heap.size 9 1 (.slice (some ⟨w.heap.size, 0, none⟩) ss.length ss.length) ss.length ys ∧ Hid (ys.length = ss.length ∧ ∀ j, j < k → ys[j]? = (strsV ss)[j]?) ∧ Below w.heap.size w wr) (fun vi _ => ss.length - (intOf vi).toNat)
    case atStart => exact ⟨0, ys1, Nat.zero_le _, rfl, hown1, ⟨hl1, fun j hj => by omega⟩, hb1⟩
    case round =>
      obtain ⟨k, ys, hk, rfl, hownr, hy, hbr⟩ := hrel
      by_cases hlt' : k < ss.length
      · have hcx : wr.cell? ⟨b, off + k, none⟩ = some (.string ss[k]) := (hbr.cell (p := ⟨b, off + k, none⟩) hlt).trans (hc k hlt')
        have hcy : wr.cell? ⟨w.heap.size, k, none⟩ = some (ys.getD k undef) := by
          rw [hownr.cellAt k (by omega)]; simp [List.getD_eq_getElem?_getD, hy.out.1, hlt']
        have hfr := hownr.frozenAt k
        have hat := strsV_at ss k hlt'
        obtain ⟨t, ht⟩ : ∃ t, t = ss[k] := ⟨_, rfl⟩
        rw [← ht] at hcx hat
        have HA : Hid ((strsV ss)[k]? = some (.string t)) := hat
        have hki : (k : Int) < (ss.length : Int) := by omega
        clear hc hown1 hb1 hi hz0 hz1 hz2 hl1 ht hat
        go_wp2
        go_roundw
        case rel => exact ⟨k + 1, ys.set k (.string t), by omega, by go_num, (hownr.stored k _).1, set_step hlt' hy.out HA.out, hbr.setCell (Nat.le_refl _) _⟩
        case measure => simp [intOf]; omega
      · have he : k = ss.length := by omega
        subst he
        clear hc hown1 hb1 hi hz0 hz1 hz2 hl1
        go_wp2
        go_ret
        refine ⟨_, rfl, ?_, hbr⟩
        have e : ys = strsV ss := list_done hy.out.1 (by simp) hy.out.2
        rw [← e]
        exact hownr

theorem bytes_eq_of_toList {a b : ByteArray} (h : a.toList = b.toList) : a = b := by
  rw [ByteArray.toList_eq, ByteArray.toList_eq] at h
  exact ByteArray.ext (Array.toList_inj.1 h)

theorem strs_done {ss ts : List ByteArray} (hl : ss.length = ts.length) (h : ∀ j (h1 : j < ss.length) (h2 : j < ts.length), ss[j] = ts[j]) : ss = ts := List.ext_getElem hl h

set_option maxHeartbeats 1000000 in
set_option maxRecDepth 100000 in
theorem eqStrs_c (v u : Value) (ss ts : List ByteArray) (w : World) (hv : Reads w v (strsV ss)) (hu : Reads w u (strsV ts)) (hn : ss.length ≤ 1099511627776) :
    Calls Try.prog 52 #[v, u] w fun e w' => e = .returned (.bool (decide (ss = ts))) ∧ Below w.heap.size w w' := by
  obtain ⟨a, cap, rfl, _, hc⟩ := reads_strs hv
  obtain ⟨a2, cap2, rfl, _, hc2⟩ := reads_strs hu
  clear hv hu
  by_cases hl : ss.length = ts.length
  · rcases hc with rfl | ⟨b, off, rfl, hlt, hc⟩
    · have : ts = [] := List.eq_nil_of_length_eq_zero (by simpa using hl.symm)
      subst this
      go_enter Try.func52, Try.ntmps52
      go_wp2
      go_loopw [5] (fun vi wr => vi = .int .i64 0 ∧ wr = w) (fun _ _ => 0)
      case atStart => exact ⟨rfl, rfl⟩
      case round =>
        obtain ⟨rfl, rfl⟩ := hrel
        go_wp2
        go_ret
        exact ⟨rfl, Below.refl _ _⟩
    rcases hc2 with rfl | ⟨b2, off2, rfl, hlt2, hc2⟩
    · have : ss = [] := List.eq_nil_of_length_eq_zero (by simpa using hl)
      subst this
      go_enter Try.func52, Try.ntmps52
      go_wp2
      go_loopw [5] (fun vi wr => vi = .int .i64 0 ∧ wr = w) (fun _ _ => 0)
      case atStart => exact ⟨rfl, rfl⟩
      case round =>
        obtain ⟨rfl, rfl⟩ := hrel
        go_wp2
        go_ret
        exact ⟨rfl, Below.refl _ _⟩
    · have HL : Hid (ss.length = ts.length) := hl
      have hc2' : ∀ k (h : k < ts.length), w.cell? ⟨b2, off2 + k, none⟩ = some (.string ts[k]) := hc2
      have HC2 : Hid (∀ k (h : k < ts.length), w.cell? ⟨b2, off2 + k, none⟩ = some (.string ts[k])) := hc2'
      rw [← hl]
      clear hl hc2 hc2'
      go_enter Try.func52, Try.ntmps52
      go_wp2
      go_loopw [5] (fun vi wr => ∃ k : Nat, k ≤ ss.length ∧ vi = .int .i64 (k : Int) ∧ Hid (∀ j (h1 : j < ss.length) (h2 : j < ts.length), j < k → ss[j] = ts[j]) ∧ Below w.heap.size w wr) (fun vi _ => ss.length - (intOf vi).toNat)
      case atStart => exact ⟨0, Nat.zero_le _, rfl, fun j h1 h2 hj => by omega, Below.refl _ _⟩
      case round =>
        obtain ⟨k, hk, rfl, hy, hbr⟩ := hrel
        by_cases hlt' : k < ss.length
        · have hlt2' : k < ts.length := by have := HL.out; omega
          have hcx : wr.cell? ⟨b, off + k, none⟩ = some (.string ss[k]) := (hbr.cell (p := ⟨b, off + k, none⟩) hlt).trans (hc k hlt')
          have hcy : wr.cell? ⟨b2, off2 + k, none⟩ = some (.string ts[k]) := (hbr.cell (p := ⟨b2, off2 + k, none⟩) hlt2).trans (HC2.out k hlt2')
          obtain ⟨x, hx⟩ : ∃ x, x = ss[k] := ⟨_, rfl⟩
          obtain ⟨y, hy'⟩ : ∃ y, y = ts[k] := ⟨_, rfl⟩
          rw [← hx] at hcx
          rw [← hy'] at hcy
          have HX : Hid (x = ss[k]) := hx
          have HY : Hid (y = ts[k]) := hy'
          have hki : (k : Int) < (ss.length : Int) := by omega
          clear hc hx hy'
          go_wp2
          go_quiet (fail)
          go_wp2
          · have hne : (!x.toList == y.toList) = true := by assumption
            have hne' : ¬ ss = ts := fun e => by
              have e1 := HX.out; have e2 := HY.out; subst e; rw [← e2] at e1; subst e1; simp at hne
            go_ret
            exact ⟨by simp [hne'], below_drewN' hbr _⟩
          · have he : (!x.toList == y.toList) = false := by assumption
            have he' : x = y := bytes_eq_of_toList (by simpa using he)
            go_roundw
            case rel => exact ⟨k + 1, by omega, by go_num, fun j h1 h2 hj => (by
              by_cases e : j = k
              · subst e; rw [← HX.out, ← HY.out]; exact he'
              · exact hy.out j h1 h2 (by omega)), below_drewN' hbr _⟩
            case measure => simp [intOf]; omega
        · clear hc
          have he : k = ss.length := by omega
          subst he
          have e : ss = ts := strs_done HL.out (fun j h1 h2 => hy.out j h1 h2 h1)
          go_wp2
          go_ret
          exact ⟨by simp [e], hbr⟩
  · have hne : ¬ ss = ts := fun e => hl (by rw [e])
    have hl' : ((ss.length : Int) != (ts.length : Int)) = true := by simp; omega
    rw [decide_eq_false hne]
    clear hc hc2
    go_enter Try.func52, Try.ntmps52
    go_wp2
    go_ret
    exact ⟨rfl, Below.refl _ _⟩

/-- The marks k, k + 1 .. as texts. -/
def marksS (k n : Nat) : List ByteArray := (List.range n).map fun j => markStr (k + j)
@[simp] theorem length_marksS (k n : Nat) : (marksS k n).length = n := by simp [marksS]
theorem marksS_at (k n j : Nat) (h : j < n) : (strsV (marksS k n))[j]? = some (.string (markStr (k + j))) := by
  simp [strsV, marksS, h]

set_option maxHeartbeats 1000000 in
set_option maxRecDepth 100000 in
theorem markStrs_c (v : Value) (base n : Nat) (xs : List Value) (k0 : Nat) (w : World) (hv : w.ownsRow base 9 1 v n xs) (h0 : 1 ≤ k0) (h1 : k0 ≤ 4294967296) (hn : n ≤ 4294967296) (hbw : base ≤ w.heap.size) :
    Calls Try.prog 21 #[v, .int .i64 (k0 : Int)] w fun e w' => e = .returned (.int .i64 ((k0 : Int) + (n : Int))) ∧ w'.ownsRow base 9 1 v n (strsV (marksS k0 n)) ∧ w.grownBy w' v.ownBlock := by
  have hv0 := hv
  rcases hv.2 with ⟨rfl, rfl⟩ | ⟨g, cap, cur, rfl, hb, hg, hcap, hmax, hsz, htake⟩
  · clear hv0
    go_enter Try.func21, Try.ntmps21
    go_wp2
    go_loopw [1, 5] (fun vk vi wr => vk = .int .i64 (k0 : Int) ∧ vi = .int .i64 0 ∧ wr = w) (fun _ _ _ => 0)
    case atStart => exact ⟨rfl, rfl, rfl⟩
    case round =>
      obtain ⟨rfl, rfl, rfl⟩ := hrel
      go_wp2
      go_ret
      exact ⟨by simp, by rw [show strsV (marksS k0 0) = [] from rfl]; exact owns_empty hv, World.grownBy.refl _ _⟩
  · have hl : xs.length = n := by simpa using hv.1
    have hgl := (Array.getElem?_eq_some_iff.1 hg).1
    clear hb hg hsz htake hv0
    go_enter Try.func21, Try.ntmps21
    go_wp2
    go_loopw [1, 5] (fun vk vi wr => ∃ (k : Nat) (ys : List Value), k ≤ n ∧ vi = .int .i64 (k : Int) ∧ vk = .int .i64 ((k0 : Int) + (k : Int)) ∧ wr.ownsRow base 9 1 (.slice (some ⟨g, 0, none⟩) n cap) n ys ∧ Hid (ys.length = n ∧ ∀ j, j < k → ys[j]? = (strsV (marksS k0 n))[j]?) ∧ w.grownBy wr (some g)) (fun _ vi _ => n - (intOf vi).toNat)
    case atStart => exact ⟨0, xs, Nat.zero_le _, rfl, by simp, hv, ⟨hl, fun j hj => by omega⟩, World.grownBy.refl _ _⟩
    case round =>
      obtain ⟨k, ys, hk, rfl, rfl, hownr, hy, hbr⟩ := hrel
      clear hv hl
      by_cases hlt' : k < n
      · have hki : (k : Int) < (n : Int) := by omega
        have hm := markText_c (k0 + k) wr (by omega) (by omega)
        have ec : ((k0 + k : Nat) : Int) = (k0 : Int) + (k : Int) := Int.natCast_add k0 k
        rw [ec] at hm
        go_wp2_with (
          go_at_call 20
          refine hm.mono ?_
          rintro e w1 ⟨rfl, b1⟩
          have hown1 := owns_of_below hownr b1
          have hcy : w1.cell? ⟨g, k, none⟩ = some (ys.getD k undef) := by
            rw [hown1.cellAt k (by omega)]; simp [List.getD_eq_getElem?_getD, hy.out.1, hlt']
          have hfr := hown1.frozenAt k
          clear hm hownr)
        go_roundw
        case rel => exact ⟨k + 1, ys.set k _, by omega, by go_num, by go_num, (hown1.stored k _).1, set_step hlt' hy.out (marksS_at k0 n k hlt'), grown_trans (grown_trans hbr (grown_of_below b1 _)) (hown1.stored k _).2⟩
        case measure => simp [intOf]; omega
      · have he : k = n := by omega
        subst he
        have e : ys = strsV (marksS k0 k) := list_done hy.out.1 (by simp) hy.out.2
        go_wp2
        go_ret
        refine ⟨rfl, ?_, hbr⟩
        rw [← e]
        exact hownr

set_option maxHeartbeats 1000000 in
set_option maxRecDepth 100000 in
theorem heldStrs_c (v : Value) (n : Nat) (k0 : Nat) (w : World) (hv : Reads w v (strsV (marksS k0 n))) (h0 : 1 ≤ k0) (h1 : k0 ≤ 4294967296) (hn : n ≤ 4294967296) :
    Calls Try.prog 23 #[v, .int .i64 (k0 : Int)] w fun e w' => e = .returned (.int .i64 ((k0 : Int) + (n : Int))) ∧ Below w.heap.size w w' := by
  obtain ⟨a, cap, hvv, _, hc⟩ := reads_strs hv
  rw [length_marksS] at hvv
  subst hvv
  clear hv
  rcases hc with hc | ⟨b, off, rfl, hlt, hc⟩
  · have : n = 0 := by have := congrArg List.length hc; simpa using this
    subst this
    go_enter Try.func23, Try.ntmps23
    go_wp2
    go_loop [1, 5] (fun vk vi => vk = .int .i64 (k0 : Int) ∧ vi = .int .i64 0) (fun _ _ => 0)
    case atStart => exact ⟨rfl, rfl⟩
    case round =>
      obtain ⟨rfl, rfl⟩ := hrel
      go_wp2
      go_ret
      exact ⟨by simp, Below.refl _ _⟩
  · have hc' : ∀ k, k < n → w.cell? ⟨b, off + k, none⟩ = some (.string (markStr (k0 + k))) := fun k hk => by
      rw [hc k (by simpa using hk)]
      simp [marksS]
    clear hc
    go_enter Try.func23, Try.ntmps23
    go_wp2
    go_loopw [1, 5] (fun vk vi wr => ∃ k : Nat, k ≤ n ∧ vi = .int .i64 (k : Int) ∧ vk = .int .i64 ((k0 : Int) + (k : Int)) ∧ Below w.heap.size w wr) (fun _ vi _ => n - (intOf vi).toNat)
    case atStart => exact ⟨0, Nat.zero_le _, rfl, by simp, Below.refl _ _⟩
    case round =>
      obtain ⟨k, hk, rfl, rfl, hbr⟩ := hrel
      by_cases hlt' : k < n
      · have hki : (k : Int) < (n : Int) := by omega
        obtain ⟨ms, hms⟩ : ∃ ms, ms = markStr (k0 + k) := ⟨_, rfl⟩
        have hm := fun w' => markText_c (k0 + k) w' (by omega) (by omega)
        have ec : ((k0 + k : Nat) : Int) = (k0 : Int) + (k : Int) := by omega
        have hcx : ∀ w', Below wr.heap.size wr w' → w'.cell? ⟨b, off + k, none⟩ = some (.string (markStr (k0 + k))) := fun w' hb' => (hb'.cell (p := ⟨b, off + k, none⟩) (Nat.lt_of_lt_of_le hlt hbr.size)).trans ((hbr.cell (p := ⟨b, off + k, none⟩) hlt).trans (hc' k hlt'))
        rw [ec] at hm
        rw [← hms] at hm hcx
        have hcx0 := hcx wr (Below.refl _ _)
        clear hc' hms
        go_wp2
        go_region_with (
          go_at_call 20
          refine (hm _).mono ?_
          rintro e w1 ⟨rfl, b1⟩
          have b1' : Below wr.heap.size wr w1 := ⟨b1.os, b1.tape, b1.output, b1.size, b1.block⟩
          have hcx1 := hcx w1 b1'
          clear b1)
        all_goals (
          have hb2 := hbr.trans (b1'.mono hbr.size)
          clear hm hcx
          go_wp2
          go_roundw
          case rel => exact ⟨k + 1, by omega, by go_num, by go_num, hb2⟩
          case measure => simp [intOf]; omega)
      · have he : k = n := by omega
        subst he
        clear hc'
        go_wp2
        go_ret
        exact ⟨rfl, hbr⟩

/-- How many texts and letters there are. -/
def bulkS (ss : List ByteArray) : Nat := ss.length + (ss.map ByteArray.size).sum

theorem sum_take_succ (ss : List ByteArray) (k : Nat) (h : k < ss.length) : ((ss.take (k + 1)).map ByteArray.size).sum = ((ss.take k).map ByteArray.size).sum + ss[k].size := by
  rw [List.take_succ_eq_append_getElem h, List.map_append, List.sum_append]
  simp
theorem sum_take_le (ss : List ByteArray) (k : Nat) : ((ss.take k).map ByteArray.size).sum ≤ (ss.map ByteArray.size).sum := by
  have h : (ss.map ByteArray.size).sum = ((ss.take k).map ByteArray.size).sum + ((ss.drop k).map ByteArray.size).sum := by
    rw [← List.sum_append, ← List.map_append, List.take_append_drop]
  omega

/-- What the count answers: what is left, or -1. -/
def leftS (ss : List ByteArray) (left : Int) : Int := if (bulkS ss : Int) ≤ left then left - (bulkS ss : Int) else -1

set_option maxHeartbeats 1000000 in
set_option maxRecDepth 100000 in
theorem sizeStrs_c (v : Value) (ss : List ByteArray) (w : World) (hv : Reads w v (strsV ss)) (hn : ss.length ≤ maxLen) (hs : ∀ s ∈ ss, s.size ≤ maxLen) :
    Calls Try.prog 41 #[v, .int .i64 1048576] w fun e w' => e = .returned (.int .i64 (leftS ss 1048576)) ∧ w = w' := by
  obtain ⟨a, cap, rfl, _, hc⟩ := reads_strs hv
  clear hv
  unfold maxLen at hn hs
  by_cases h0 : 1048576 < ss.length
  · have hneg : (1048576 : Int) - (ss.length : Int) < 0 := by omega
    have e : leftS ss 1048576 = -1 := by rw [leftS, bulkS, if_neg (by omega)]
    rw [e]
    clear hc hs
    go_enter Try.func41, Try.ntmps41
    go_wp2
    go_ret
    exact ⟨rfl, rfl⟩
  · have hpos : ¬ ((1048576 : Int) - (ss.length : Int) < 0) := by omega
    rcases hc with rfl | ⟨b, off, rfl, hlt, hc⟩
    · go_enter Try.func41, Try.ntmps41
      go_wp2
      go_loop [1, 5] (fun vl vi => vl = .int .i64 1048576 ∧ vi = .int .i64 0) (fun _ _ => 0)
      case atStart => exact ⟨rfl, rfl⟩
      case round =>
        obtain ⟨rfl, rfl⟩ := hrel
        go_wp2
        go_ret
        exact ⟨rfl, rfl⟩
    · go_enter Try.func41, Try.ntmps41
      go_wp2
      go_loop [1, 5] (fun vl vi => ∃ (k : Nat) (l : Int), k ≤ ss.length ∧ vi = .int .i64 (k : Int) ∧ vl = .int .i64 l ∧ 0 ≤ l ∧ l ≤ 1048576 ∧ Hid (l = 1048576 - (ss.length : Int) - (((ss.take k).map ByteArray.size).sum : Int))) (fun _ vi => ss.length - (intOf vi).toNat)
      case atStart => exact ⟨0, _, Nat.zero_le _, rfl, rfl, by omega, by omega, by show _ = _; simp⟩
      case round =>
        obtain ⟨k, l, hk, rfl, rfl, hl0, hl1, hl⟩ := hrel
        by_cases hlt' : k < ss.length
        · have hcx := hc k hlt'
          have hsk := hs ss[k] (List.getElem_mem hlt')
          have hsum := sum_take_succ ss k hlt'
          obtain ⟨t, ht⟩ : ∃ t, t = ss[k] := ⟨_, rfl⟩
          rw [← ht] at hcx hsk hsum
          have HS : Hid (((ss.take (k + 1)).map ByteArray.size).sum = ((ss.take k).map ByteArray.size).sum + t.size) := hsum
          have hki : (k : Int) < (ss.length : Int) := by omega
          clear hc hs ht hsum
          by_cases hneg : l - (t.size : Int) < 0
          · have e : leftS ss 1048576 = -1 := by
              have h1 := HS.out; have h2 := hl.out; have h3 := sum_take_le ss (k + 1)
              rw [leftS, bulkS, if_neg (by omega)]
            have HE : Hid (leftS ss 1048576 = -1) := e
            clear e
            go_wp2
            go_ret
            exact ⟨by rw [HE.out]; rfl, rfl⟩
          · go_wp2
            go_round
            case rel => exact ⟨k + 1, l - (t.size : Int), by omega, by go_num, rfl, by omega, by omega, (by show _ = _; rw [HS.out, hl.out]; omega)⟩
            case measure => simp [intOf]; omega
        · have he : k = ss.length := by omega
          subst he
          have e : leftS ss 1048576 = l := by
            have h2 := hl.out
            rw [List.take_length] at h2
            rw [leftS, bulkS, if_pos (by omega)]; omega
          have HE : Hid (leftS ss 1048576 = l) := e
          clear hc hs e
          go_wp2
          go_ret
          exact ⟨by rw [HE.out]; rfl, rfl⟩
end Go.Proofs.Ytablcicfagmhpaa

/-! What is kept of memory between two worlds, block by block, and lists of texts that lie in blocks of a set S: no condition. -/
namespace Go.Proofs.Ytablcicfagmhpaa
open Go.RowKit
set_option linter.unusedSimpArgs false
set_option linter.unusedVariables false

/-- In blocks of S the world w' is as w was. -/
def Kp (S : Nat → Prop) (w w' : World) : Prop := ∀ b, S b → w'.heap[b]? = w.heap[b]?
theorem Kp.cell {S : Nat → Prop} {w w' : World} (h : Kp S w w') {b : Nat} (hb : S b) (o : Nat) : w'.cell? ⟨b, o, none⟩ = w.cell? ⟨b, o, none⟩ := World.cell?_of_block (w := w) (h b hb)
theorem Kp.trans {S : Nat → Prop} {a b c : World} (h : Kp S a b) (k : Kp S b c) : Kp S a c := fun i hi => (k i hi).trans (h i hi)
theorem Kp.of {S : Nat → Prop} {B : Nat} {w w' : World} (hb : Below B w w') (hS : ∀ b, S b → b < B) : Kp S w w' := fun b h => hb.block b (hS b h)
theorem Kp.set {S : Nat → Prop} {w : World} {g j : Nat} {v : Value} (h : ¬ S g) : Kp S w (w.setCell ⟨g, j, none⟩ v) := fun b hb => Below.heap_setCell w ⟨g, j, none⟩ v b (fun e => by have e' : b = g := e; subst e'; exact h hb)

/-- The blocks from lo on, below hi. -/
def Ow (lo hi : Nat) (b : Nat) : Prop := lo ≤ b ∧ b < hi
theorem Ow.mono {lo lo' hi hi' : Nat} (h1 : lo' ≤ lo) (h2 : hi ≤ hi') : ∀ b, Ow lo hi b → Ow lo' hi' b := fun b h => ⟨Nat.le_trans h1 h.1, Nat.lt_of_lt_of_le h.2 h2⟩
theorem Ow.below {lo : Nat} {w w' : World} (h : Below w.heap.size w w') : Kp (Ow lo w.heap.size) w w' := fun b hb => h.block b hb.2
theorem Ow.not {lo hi g : Nat} (h : g < lo) : ¬ Ow lo hi g := fun k => by have := k.1; omega

/-- A list of texts that lies in blocks of S. -/
def RdB (S : Nat → Prop) (w : World) (v : Value) (xs : List Value) : Prop :=
  ∃ a cap, v = .slice a xs.length cap ∧ xs.length ≤ cap ∧ (xs = [] ∨ ∃ b off, a = some ⟨b, off, none⟩ ∧ S b ∧ ∀ k (h : k < xs.length), w.cell? ⟨b, off + k, none⟩ = some xs[k])
theorem RdB.reads {S : Nat → Prop} {w : World} {v : Value} {xs : List Value} (h : RdB S w v xs) (hS : ∀ b, S b → b < w.heap.size) : Reads w v xs := by
  obtain ⟨a, cap, hv, hc, h⟩ := h
  refine ⟨a, cap, hv, hc, ?_⟩
  rcases h with h | ⟨b, off, ha, hb, h⟩
  · exact .inl h
  · exact .inr ⟨b, off, ha, hS b hb, h⟩
theorem RdB.of {w : World} {v : Value} {xs : List Value} (h : Reads w v xs) : RdB (· < w.heap.size) w v xs := h
theorem RdB.keep {S : Nat → Prop} {w w' : World} {v : Value} {xs : List Value} (hb : Kp S w w') (h : RdB S w v xs) : RdB S w' v xs := by
  obtain ⟨a, cap, hv, hc, h⟩ := h
  refine ⟨a, cap, hv, hc, ?_⟩
  rcases h with h | ⟨b, off, ha, hlt, h⟩
  · exact .inl h
  · exact .inr ⟨b, off, ha, hlt, fun k hk => (hb.cell hlt _).trans (h k hk)⟩
theorem RdB.mono {S S' : Nat → Prop} {w : World} {v : Value} {xs : List Value} (hB : ∀ b, S b → S' b) (h : RdB S w v xs) : RdB S' w v xs := by
  obtain ⟨a, cap, hv, hc, h⟩ := h
  refine ⟨a, cap, hv, hc, ?_⟩
  rcases h with h | ⟨b, off, ha, hlt, h⟩
  · exact .inl h
  · exact .inr ⟨b, off, ha, hB b hlt, h⟩
theorem rdB_owns {w : World} {base : Nat} {e : TypeId} {v : Value} {n : Nat} {xs : List Value} (h : w.ownsRow base e 1 v n xs) : RdB (Ow base w.heap.size) w v xs := by
  have h0 := reads_of_owns h
  obtain ⟨a, cap, hv, hc, hx⟩ := h0
  refine ⟨a, cap, hv, hc, ?_⟩
  rcases hx with hx | ⟨b, off, rfl, hlt, hx⟩
  · exact .inl hx
  · refine .inr ⟨b, off, rfl, ⟨?_, hlt⟩, hx⟩
    rcases h.2 with ⟨hn, _⟩ | ⟨g, cap', cur, hv', hg, _⟩
    · rw [hn] at hv; simp at hv
    · rw [hv'] at hv
      simp only [Value.slice.injEq, Option.some.injEq, Addr.mk.injEq] at hv
      omega

def leftW (n : Nat) (left : Int) : Int := if (n : Int) ≤ left then left - (n : Int) else -1
theorem leftW_good {n : Nat} {left : Int} (h : (n : Int) ≤ left) : leftW n left = left - (n : Int) := if_pos h
theorem leftW_bad {n : Nat} {left : Int} (h : ¬ (n : Int) ≤ left) : leftW n left = -1 := if_neg h
theorem vheap_new (w : World) (o : Obj) : (w.alloc o).heap[w.heap.size]? = some o := by show (w.heap.push _)[w.heap.size]? = _; simp
theorem vheap_old (w : World) (o : Obj) {b : Nat} (h : b < w.heap.size) : (w.alloc o).heap[b]? = w.heap[b]? := Below.heap_alloc w o b h
theorem vblk_cell {w : World} {b : Nat} {cs : Array Value} {t : TypeId} (h : w.heap[b]? = some (.cells cs t (0, 0))) (j : Nat) : w.cell? ⟨b, j, none⟩ = cs[j]? := cell_of_row w b j cs t (0, 0) h
theorem vblk_frozen {w : World} {b : Nat} {cs : Array Value} {t : TypeId} (h : w.heap[b]? = some (.cells cs t (0, 0))) (j : Nat) : w.frozen? ⟨b, j, none⟩ = false := frozen_of_row w b j cs t h
end Go.Proofs.Ytablcicfagmhpaa

/-! Rows of structs that lie in memory: what an element's cells are is handed in; that they are kept, copied cell by cell, and how much they hold; no condition. -/
namespace Go.Proofs.Ytablcicfagmhpaa
open Go.RowKit
set_option linter.unusedSimpArgs false
set_option linter.unusedVariables false

theorem hidden {p : Prop} (h : p) : Hid p := h

/-- An element of a row: how many cells, and when these are it, what it refers to lying in blocks of a set. -/
structure Sh (α : Type) where
  n : Nat
  lies : (Nat → Prop) → World → List Value → α → Prop
  keep : ∀ {S : Nat → Prop} {w w' : World} {cs : List Value} {x : α}, Kp S w w' → lies S w cs x → lies S w' cs x
  mono : ∀ {S S' : Nat → Prop} {w : World} {cs : List Value} {x : α}, (∀ b, S b → S' b) → lies S w cs x → lies S' w cs x

/-- From place j of block b on lie these cells. -/
def CellsAt (w : World) (b j : Nat) (cs : List Value) : Prop := ∀ i (h : i < cs.length), w.cell? ⟨b, j + i, none⟩ = some cs[i]
theorem CellsAt.keep {S : Nat → Prop} {w w' : World} {b j : Nat} {cs : List Value} (hk : Kp S w w') (hb : S b) (h : CellsAt w b j cs) : CellsAt w' b j cs := fun i hi => (hk.cell hb _).trans (h i hi)

/-- The row v is xs. -/
def RowIn {α : Type} (sh : Sh α) (S : Nat → Prop) (w : World) (v : Value) (xs : List α) : Prop :=
  ∃ q cap, v = .slice q xs.length cap ∧ xs.length ≤ maxLen ∧ xs.length ≤ cap ∧ (xs = [] ∨ ∃ (b off : Nat), q = some ⟨b, off, none⟩ ∧ S b ∧ ∀ k (h : k < xs.length), ∃ cs, sh.lies S w cs xs[k] ∧ CellsAt w b (off + k * sh.n) cs)
theorem RowIn.keep {α : Type} {sh : Sh α} {S : Nat → Prop} {w w' : World} {v : Value} {xs : List α} (hk : Kp S w w') (h : RowIn sh S w v xs) : RowIn sh S w' v xs := by
  obtain ⟨q, cap, hv, hm, hc, h⟩ := h
  refine ⟨q, cap, hv, hm, hc, ?_⟩
  rcases h with h | ⟨b, off, hq, hb, h⟩
  · exact .inl h
  · exact .inr ⟨b, off, hq, hb, fun k hh => by obtain ⟨cs, h1, h2⟩ := h k hh; exact ⟨cs, sh.keep hk h1, h2.keep hk hb⟩⟩
theorem RowIn.mono {α : Type} {sh : Sh α} {S S' : Nat → Prop} {w : World} {v : Value} {xs : List α} (hS : ∀ b, S b → S' b) (h : RowIn sh S w v xs) : RowIn sh S' w v xs := by
  obtain ⟨q, cap, hv, hm, hc, h⟩ := h
  refine ⟨q, cap, hv, hm, hc, ?_⟩
  rcases h with h | ⟨b, off, hq, hb, h⟩
  · exact .inl h
  · exact .inr ⟨b, off, hq, hS b hb, fun k hh => by obtain ⟨cs, h1, h2⟩ := h k hh; exact ⟨cs, sh.mono hS h1, h2⟩⟩
theorem RowIn.below {α : Type} {sh : Sh α} {w w' : World} {v : Value} {xs : List α} (h : RowIn sh (· < w.heap.size) w v xs) (hb : Below w.heap.size w w') : RowIn sh (· < w'.heap.size) w' v xs :=
  (h.keep (.of hb (fun b h => h))).mono (fun b h => Nat.lt_of_lt_of_le h hb.size)
theorem RowIn.as {α : Type} {sh sh' : Sh α} {S : Nat → Prop} {w : World} {v : Value} {xs : List α} (hn : sh.n = sh'.n) (hl : ∀ S w cs x, sh.lies S w cs x → sh'.lies S w cs x) (h : RowIn sh S w v xs) : RowIn sh' S w v xs := by
  obtain ⟨q, cap, hv, hm, hc, h⟩ := h
  refine ⟨q, cap, hv, hm, hc, ?_⟩
  rcases h with h | ⟨b, off, hq, hb, h⟩
  · exact .inl h
  · exact .inr ⟨b, off, hq, hb, fun k hh => by obtain ⟨cs, h1, h2⟩ := h k hh; exact ⟨cs, hl _ _ _ _ h1, by rw [← hn]; exact h2⟩⟩
theorem RowIn.len {α : Type} {sh : Sh α} {S : Nat → Prop} {w : World} {v : Value} {xs : List α} (h : RowIn sh S w v xs) : xs.length ≤ maxLen := by
  obtain ⟨q, cap, hv, hm, hc, h⟩ := h; exact hm
theorem RowIn.slice {α : Type} {sh : Sh α} {S : Nat → Prop} {w : World} {v : Value} {xs : List α} (h : RowIn sh S w v xs) : ∃ q cap, v = .slice q xs.length cap := by
  obtain ⟨q, cap, hv, hm, hc, h⟩ := h; exact ⟨q, cap, hv⟩
theorem RowIn.at {α : Type} {sh : Sh α} {S : Nat → Prop} {w : World} {v : Value} {xs : List α} (h : RowIn sh S w v xs) {k : Nat} (hk : k < xs.length) : ∃ cs, sh.lies S w cs xs[k] := by
  obtain ⟨q, cap, hv, hm, hc, h⟩ := h
  rcases h with rfl | ⟨b, off, hq, hb, h⟩
  · simp at hk
  · obtain ⟨cs, h1, _⟩ := h k hk; exact ⟨cs, h1⟩

/-- The elements below k lie in the cells ys of a row. -/
def Laid {α : Type} (sh : Sh α) (S : Nat → Prop) (w : World) (ys : List Value) (xs : List α) (k : Nat) : Prop :=
  ∀ i (h : i < xs.length), i < k → ∃ cs, cs.length = sh.n ∧ sh.lies S w cs xs[i] ∧ ∀ j (hj : j < cs.length), ys[i * sh.n + j]? = some cs[j]
/-- The row v is xs, and may be written. -/
def RowOwn {α : Type} (sh : Sh α) (t : TypeId) (S : Nat → Prop) (w : World) (v : Value) (xs : List α) : Prop :=
  xs.length ≤ maxLen ∧ ∃ ys, w.ownsRow 0 t sh.n v xs.length ys ∧ (∀ g, v.ownBlock = some g → S g) ∧ Laid sh S w ys xs xs.length
theorem owns_lo {w : World} {lo lo' : Nat} {e : TypeId} {sz n : Nat} {v : Value} {xs : List Value} (h : lo' ≤ lo) (hg : w.ownsRow lo e sz v n xs) : w.ownsRow lo' e sz v n xs := by
  refine ⟨hg.1, ?_⟩
  rcases hg.2 with h1 | ⟨g, cap, cur, h1, h2, h3⟩
  · exact .inl h1
  · exact .inr ⟨g, cap, cur, h1, by omega, h3⟩
theorem owns_kept {S : Nat → Prop} {w w' : World} {lo : Nat} {e : TypeId} {sz n : Nat} {v : Value} {xs : List Value} (hk : Kp S w w') (hS : ∀ g, v.ownBlock = some g → S g) (hg : w.ownsRow lo e sz v n xs) : w'.ownsRow lo e sz v n xs := by
  refine ⟨hg.1, ?_⟩
  rcases hg.2 with h1 | ⟨g, cap, cur, h1, h2, h3, h4⟩
  · exact .inl h1
  · exact .inr ⟨g, cap, cur, h1, h2, (hk g (hS g (by rw [h1]; rfl))).trans h3, h4⟩
theorem owns_in {w : World} {lo : Nat} {e : TypeId} {sz n : Nat} {v : Value} {xs : List Value} (hg : w.ownsRow lo e sz v n xs) : ∀ g, v.ownBlock = some g → Ow lo w.heap.size g := fun g h => by
  rcases hg.2 with ⟨h1, _⟩ | ⟨g', cap, cur, h1, h2, h3, h4⟩
  · rw [h1] at h; simp [Value.ownBlock] at h
  · rw [h1] at h; simp [Value.ownBlock] at h; subst h
    exact ⟨h2, (Array.getElem?_eq_some_iff.1 h3).1⟩
theorem Laid.keep {α : Type} {sh : Sh α} {S : Nat → Prop} {w w' : World} {ys : List Value} {xs : List α} {k : Nat} (hk : Kp S w w') (h : Laid sh S w ys xs k) : Laid sh S w' ys xs k := fun i hi hik => by
  obtain ⟨cs, h1, h2, h3⟩ := h i hi hik; exact ⟨cs, h1, sh.keep hk h2, h3⟩
theorem Laid.mono {α : Type} {sh : Sh α} {S S' : Nat → Prop} {w : World} {ys : List Value} {xs : List α} {k : Nat} (hS : ∀ b, S b → S' b) (h : Laid sh S w ys xs k) : Laid sh S' w ys xs k := fun i hi hik => by
  obtain ⟨cs, h1, h2, h3⟩ := h i hi hik; exact ⟨cs, h1, sh.mono hS h2, h3⟩
theorem RowOwn.keep {α : Type} {sh : Sh α} {t : TypeId} {S : Nat → Prop} {w w' : World} {v : Value} {xs : List α} (hk : Kp S w w') (h : RowOwn sh t S w v xs) : RowOwn sh t S w' v xs := by
  obtain ⟨h0, ys, h1, h2, h3⟩ := h
  exact ⟨h0, ys, owns_kept hk h2 h1, h2, h3.keep hk⟩
theorem RowOwn.mono {α : Type} {sh : Sh α} {t : TypeId} {S S' : Nat → Prop} {w : World} {v : Value} {xs : List α} (hS : ∀ b, S b → S' b) (h : RowOwn sh t S w v xs) : RowOwn sh t S' w v xs := by
  obtain ⟨h0, ys, h1, h2, h3⟩ := h
  exact ⟨h0, ys, h1, fun g hg => hS g (h2 g hg), h3.mono hS⟩
theorem RowOwn.plain {α : Type} {sh : Sh α} {t : TypeId} {S : Nat → Prop} {w : World} {v : Value} {xs : List α} (h : RowOwn sh t S w v xs) : RowIn sh S w v xs := by
  obtain ⟨hm, ys, h1, h2, h3⟩ := h
  rcases id h1.2 with ⟨rfl, h0⟩ | ⟨g, cap, cur, rfl, _, hg, hc, _⟩
  · exact ⟨none, 0, by rw [h0], hm, by omega, .inl (List.eq_nil_of_length_eq_zero h0)⟩
  · refine ⟨_, _, rfl, hm, hc, .inr ⟨g, 0, rfl, h2 g rfl, fun k hk => ?_⟩⟩
    obtain ⟨cs, e1, e2, e3⟩ := h3 k hk hk
    refine ⟨cs, e2, fun i hi => ?_⟩
    have hlt : k * sh.n + i < xs.length * sh.n := by
      have : (k + 1) * sh.n ≤ xs.length * sh.n := Nat.mul_le_mul_right _ hk
      rw [Nat.add_mul, Nat.one_mul] at this
      omega
    rw [Nat.zero_add, h1.cellAt _ hlt]
    exact e3 i hi

/-- Cells put one behind the other, from place j on. -/
def putL (ys : List Value) (j : Nat) : List Value → List Value
  | [] => ys
  | c :: cs => putL (ys.set j c) (j + 1) cs
def setW (w : World) (g j : Nat) : List Value → World
  | [] => w
  | c :: cs => setW (w.setCell ⟨g, j, none⟩ c) g (j + 1) cs
theorem putL_length (cs : List Value) : ∀ (ys : List Value) (j : Nat), (putL ys j cs).length = ys.length := by
  induction cs with
  | nil => intro ys j; rfl
  | cons c cs ih => intro ys j; show (putL (ys.set j c) (j + 1) cs).length = _; rw [ih]; simp
theorem putL_out (cs : List Value) : ∀ (ys : List Value) (j i : Nat), (i < j ∨ j + cs.length ≤ i) → (putL ys j cs)[i]? = ys[i]? := by
  induction cs with
  | nil => intro ys j i h; rfl
  | cons c cs ih =>
    intro ys j i h
    show (putL (ys.set j c) (j + 1) cs)[i]? = _
    simp at h
    rw [ih _ _ _ (by omega), List.getElem?_set_ne (by omega)]
theorem putL_in (cs : List Value) : ∀ (ys : List Value) (j i : Nat), j + cs.length ≤ ys.length → i < cs.length → (putL ys j cs)[j + i]? = cs[i]? := by
  induction cs with
  | nil => intro ys j i h hi; simp at hi
  | cons c cs ih =>
    intro ys j i h hi
    show (putL (ys.set j c) (j + 1) cs)[j + i]? = _
    simp at h hi
    cases i with
    | zero => rw [putL_out _ _ _ _ (by omega)]; simp [List.getElem?_set, show j < ys.length by omega]
    | succ i => rw [show j + (i + 1) = (j + 1) + i by omega, ih _ _ _ (by simp; omega) (by omega)]; simp
theorem setW_size (cs : List Value) : ∀ (w : World) (g j : Nat), (setW w g j cs).heap.size = w.heap.size := by
  induction cs with
  | nil => intro w g j; rfl
  | cons c cs ih => intro w g j; show (setW (w.setCell ⟨g, j, none⟩ c) g (j + 1) cs).heap.size = _; rw [ih]; simp [World.setCell]
theorem setW_kp {S : Nat → Prop} {g : Nat} (hg : ¬ S g) (cs : List Value) : ∀ (w : World) (j : Nat), Kp S w (setW w g j cs) := by
  induction cs with
  | nil => intro w j b hb; rfl
  | cons c cs ih => intro w j; exact (Kp.set hg).trans (ih _ _)
theorem setW_below {B g : Nat} (hg : B ≤ g) (cs : List Value) : ∀ (w w0 : World) (j : Nat), Below B w0 w → Below B w0 (setW w g j cs) := by
  induction cs with
  | nil => intro w w0 j h; exact h
  | cons c cs ih => intro w w0 j h; exact ih _ _ _ (Below.setCell h hg _)
theorem setW_owns {lo g n cap sz : Nat} {t : TypeId} (cs : List Value) : ∀ (w : World) (ys : List Value) (j : Nat), w.ownsRow lo t sz (.slice (some ⟨g, 0, none⟩) n cap) n ys → (setW w g j cs).ownsRow lo t sz (.slice (some ⟨g, 0, none⟩) n cap) n (putL ys j cs) := by
  induction cs with
  | nil => intro w ys j h; exact h
  | cons c cs ih => intro w ys j h; exact ih _ _ _ (h.stored j c).1

theorem Laid.step {α : Type} {sh : Sh α} {lo : Nat} {w w2 : World} {ys : List Value} {xs : List α} {k : Nat} (h : Laid sh (Ow lo w.heap.size) w ys xs k) (hk : k < xs.length) (hy : ys.length = xs.length * sh.n) (hb : Below w.heap.size w w2) {g : Nat} (hg : g < lo) {cs : List Value}
    (hn : cs.length = sh.n) (hu : sh.lies (Ow lo w2.heap.size) w2 cs xs[k]) : Laid sh (Ow lo (setW w2 g (k * sh.n) cs).heap.size) (setW w2 g (k * sh.n) cs) (putL ys (k * sh.n) cs) xs (k + 1) := fun i hi hik => by
  rw [setW_size]
  have hle : (k + 1) * sh.n ≤ xs.length * sh.n := Nat.mul_le_mul_right _ hk
  rw [Nat.add_mul, Nat.one_mul] at hle
  by_cases e : i = k
  · subst e
    refine ⟨cs, hn, sh.keep (setW_kp (Ow.not hg) _ _ _) hu, fun j hj => ?_⟩
    rw [putL_in _ _ _ _ (by omega) hj, List.getElem?_eq_getElem]
  · obtain ⟨cs', h1, h2, h3⟩ := h i hi (by omega)
    refine ⟨cs', h1, sh.keep (setW_kp (Ow.not hg) _ _ _) (sh.mono (Ow.mono (Nat.le_refl _) hb.size) (sh.keep (Ow.below hb) h2)), fun j hj => ?_⟩
    have hle2 : (i + 1) * sh.n ≤ k * sh.n := Nat.mul_le_mul_right _ (by omega)
    rw [Nat.add_mul, Nat.one_mul] at hle2
    rw [putL_out _ _ _ _ (by omega)]
    exact h3 j hj
theorem rowOwn_of {α : Type} {sh : Sh α} {t : TypeId} {w : World} {lo g : Nat} {ys : List Value} {xs : List α} (hg : w.ownsRow lo t sh.n (.slice (some ⟨g, 0, none⟩) xs.length xs.length) xs.length ys) (hl : xs.length ≤ maxLen)
    (h : Laid sh (Ow (lo + 1) w.heap.size) w ys xs xs.length) : RowOwn sh t (Ow lo w.heap.size) w (.slice (some ⟨g, 0, none⟩) xs.length xs.length) xs :=
  ⟨hl, ys, owns_lo (Nat.zero_le _) hg, owns_in hg, h.mono (Ow.mono (by omega) (Nat.le_refl _))⟩

/-- How much a row holds, as the law counts it. -/
def wtRow {α : Type} (f : α → Nat) (xs : List α) : Nat := (xs.map fun x => 1 + f x).sum
theorem wtRow_take {α : Type} (f : α → Nat) (xs : List α) (k : Nat) (h : k < xs.length) : wtRow f (xs.take (k + 1)) = wtRow f (xs.take k) + (1 + f xs[k]) := by
  rw [wtRow, wtRow, List.take_succ_eq_append_getElem h]; simp only [List.map_append, List.sum_append, List.map_cons, List.map_nil, List.sum_cons, List.sum_nil, Nat.add_zero]
theorem wtRow_split {α : Type} (f : α → Nat) (xs : List α) (k : Nat) : wtRow f xs = wtRow f (xs.take k) + wtRow f (xs.drop k) := by
  rw [wtRow, wtRow, wtRow, ← List.sum_append, ← List.map_append, List.take_append_drop]
theorem len_wtRow {α : Type} (f : α → Nat) (xs : List α) : xs.length ≤ wtRow f xs := by
  induction xs with
  | nil => simp [wtRow]
  | cons d ds ih => simp [wtRow] at ih ⊢; omega
theorem wt_wtRow {α : Type} (f : α → Nat) {xs : List α} {x : α} (h : x ∈ xs) : f x ≤ wtRow f xs := by
  induction xs with
  | nil => simp at h
  | cons y xs ih =>
    simp [wtRow] at ih ⊢
    rcases List.mem_cons.1 h with rfl | h
    · omega
    · have := ih h; omega
theorem leftW_seq {a b : Nat} {left : Int} (h : 0 ≤ leftW a left) : leftW b (leftW a left) = leftW (a + b) left := by
  have ha : (a : Int) ≤ left := by
    by_cases h2 : (a : Int) ≤ left
    · exact h2
    · rw [leftW_bad h2] at h; omega
  rw [leftW_good ha]
  by_cases h2 : (b : Int) ≤ left - (a : Int)
  · rw [leftW_good h2, leftW_good (by omega)]; omega
  · rw [leftW_bad h2, leftW_bad (by omega)]
theorem leftW_neg {a b : Nat} {left : Int} (hl : 0 ≤ left) (h : leftW a left < 0) : leftW (a + b) left = -1 := by
  unfold leftW at h ⊢
  split at h
  · omega
  · rw [if_neg (by omega)]
theorem leftW_one {a : Nat} {left : Int} (h : leftW a left < 0) : leftW a left = -1 := by
  unfold leftW at h ⊢
  split at h
  · omega
  · rw [if_neg (by assumption)]
theorem leftW_le {a : Nat} {left : Int} (h : left ≤ 1048576) : leftW a left ≤ 1048576 := by
  unfold leftW; split <;> omega
theorem leftS_eqW (ss : List ByteArray) (left : Int) : leftS ss left = leftW (bulkS ss) left := rfl

/-- A parameter that was put into a block of its own is still there behind a call. -/
theorem boxAt {w w1 : World} {o : Obj} (hb : Below (w.alloc o).heap.size (w.alloc o) w1) : w1.heap[w.heap.size]? = some o := by
  rw [hb.block _ (by simp), vheap_new]
end Go.Proofs.Ytablcicfagmhpaa

/-! How much a list of texts holds, as the law's own helper reckons it, from what is left on: a contract for the walks; conditions: at most 2 to the 20 is left, the list lies in memory. -/
namespace Go.Proofs.Ytablcicfagmhpaa
open Go.RowKit
set_option linter.unusedSimpArgs false
set_option linter.unusedVariables false

set_option maxHeartbeats 1000000 in
set_option maxRecDepth 100000 in
theorem sizeStrsM_c (v : Value) (ss : List ByteArray) (w : World) (left : Int) (hl0 : 0 ≤ left) (hl1 : left ≤ 1048576) (hv : Reads w v (strsV ss)) (hn : ss.length ≤ maxLen) (hs : ∀ s ∈ ss, s.size ≤ maxLen) :
    Calls Try.prog 41 #[v, .int .i64 left] w fun e w' => e = .returned (.int .i64 (leftS ss left)) ∧ w = w' := by
  obtain ⟨a, cap, rfl, _, hc⟩ := reads_strs hv
  clear hv
  unfold maxLen at hn hs
  by_cases h0 : left < (ss.length : Int)
  · have hneg : left - (ss.length : Int) < 0 := by omega
    have e : leftS ss left = -1 := by rw [leftS, bulkS, if_neg (by omega)]
    rw [e]
    clear hc hs
    go_enter Try.func41, Try.ntmps41
    go_wp2
    go_ret
    exact ⟨rfl, rfl⟩
  · have hpos : ¬ (left - (ss.length : Int) < 0) := by omega
    rcases hc with rfl | ⟨b, off, rfl, hlt, hc⟩
    · go_enter Try.func41, Try.ntmps41
      go_wp2
      go_loop [1, 5] (fun vl vi => vl = .int .i64 left ∧ vi = .int .i64 0) (fun _ _ => 0)
      case atStart => exact ⟨rfl, rfl⟩
      case round =>
        obtain ⟨rfl, rfl⟩ := hrel
        go_wp2
        go_ret
        exact ⟨by rw [show leftS [] left = left by simp [leftS, bulkS, hl0]]; rfl, rfl⟩
    · go_enter Try.func41, Try.ntmps41
      go_wp2
      go_loop [1, 5] (fun vl vi => ∃ (k : Nat) (l : Int), k ≤ ss.length ∧ vi = .int .i64 (k : Int) ∧ vl = .int .i64 l ∧ 0 ≤ l ∧ l ≤ 1048576 ∧ Hid (l = left - (ss.length : Int) - (((ss.take k).map ByteArray.size).sum : Int))) (fun _ vi => ss.length - (intOf vi).toNat)
      case atStart => exact ⟨0, _, Nat.zero_le _, rfl, rfl, by omega, by omega, by show _ = _; simp⟩
      case round =>
        obtain ⟨k, l, hk, rfl, rfl, hq0, hq1, hl⟩ := hrel
        by_cases hlt' : k < ss.length
        · have hcx := hc k hlt'
          have hsk := hs ss[k] (List.getElem_mem hlt')
          have hsum := sum_take_succ ss k hlt'
          obtain ⟨t, ht⟩ : ∃ t, t = ss[k] := ⟨_, rfl⟩
          rw [← ht] at hcx hsk hsum
          have HS : Hid (((ss.take (k + 1)).map ByteArray.size).sum = ((ss.take k).map ByteArray.size).sum + t.size) := hsum
          have hki : (k : Int) < (ss.length : Int) := by omega
          clear hc hs ht hsum
          by_cases hneg : l - (t.size : Int) < 0
          · have e : leftS ss left = -1 := by
              have h1 := HS.out; have h2 := hl.out; have h3 := sum_take_le ss (k + 1)
              rw [leftS, bulkS, if_neg (by omega)]
            have HE : Hid (leftS ss left = -1) := e
            clear e
            go_wp2
            go_ret
            exact ⟨by rw [HE.out]; rfl, rfl⟩
          · go_wp2
            go_round
            case rel => exact ⟨k + 1, l - (t.size : Int), by omega, by go_num, rfl, by omega, by omega, (by show _ = _; rw [HS.out, hl.out]; omega)⟩
            case measure => simp [intOf]; omega
        · have he : k = ss.length := by omega
          subst he
          have e : leftS ss left = l := by
            have h2 := hl.out
            rw [List.take_length] at h2
            rw [leftS, bulkS, if_pos (by omega)]; omega
          have HE : Hid (leftS ss left = l) := e
          clear hc hs e
          go_wp2
          go_ret
          exact ⟨by rw [HE.out]; rfl, rfl⟩
end Go.Proofs.Ytablcicfagmhpaa

/-! What the law's helpers over versions answer (how much there is, a copy, whether two are alike): contracts for the walks; conditions: the lists of texts lie in memory as told. -/
namespace Go.Proofs.Ytablcicfagmhpaa
open Go.RowKit
set_option linter.unusedSimpArgs false
set_option linter.unusedVariables false

theorem owns_set {w : World} {base : Nat} {e : TypeId} {v : Value} {n : Nat} {xs : List Value} (h : w.ownsRow base e 1 v n xs) {p : Addr} (hp : p.block < base) (x : Value) : (w.setCell p x).ownsRow base e 1 v n xs := by
  obtain ⟨h1, h2⟩ := h
  refine ⟨h1, ?_⟩
  rcases h2 with h2 | ⟨g, cap, cur, a, b, c, d⟩
  · exact .inl h2
  · exact .inr ⟨g, cap, cur, a, b, by rw [Below.heap_setCell _ _ _ _ (by omega)]; exact c, d⟩

/-- A parameter that was put into a block of its own is still there behind a call. -/
theorem box4 {w w1 : World} {c0 c1 c2 c3 : Value} {t : TypeId} (hb : Below (w.alloc (.cells #[c0, c1, c2, c3] t)).heap.size (w.alloc (.cells #[c0, c1, c2, c3] t)) w1) :
    w1.cell? ⟨w.heap.size, 0, none⟩ = some c0 ∧ w1.cell? ⟨w.heap.size, 1, none⟩ = some c1 ∧ w1.cell? ⟨w.heap.size, 2, none⟩ = some c2 ∧ w1.cell? ⟨w.heap.size, 3, none⟩ = some c3 := by
  have h : ∀ j, w1.cell? ⟨w.heap.size, j, none⟩ = (#[c0, c1, c2, c3] : Array Value)[j]? := fun j => by
    rw [hb.cell (p := ⟨w.heap.size, j, none⟩) (by simp)]
    exact vblk_cell (vheap_new _ _) j
  exact ⟨h 0, h 1, h 2, h 3⟩

def saneP (ps : List ByteArray) : Prop := ps.length ≤ maxLen ∧ ∀ s ∈ ps, s.size ≤ maxLen

set_option maxHeartbeats 1000000 in
set_option maxRecDepth 100000 in
theorem sizeStrsL_c (v : Value) (ss : List ByteArray) (w : World) (left : Int) (hl0 : 0 ≤ left) (hl1 : left ≤ 1048576) (hv : Reads w v (strsV ss)) (hn : ss.length ≤ maxLen) (hs : ∀ s ∈ ss, s.size ≤ maxLen) :
    Calls Try.prog 41 #[v, .int .i64 left] w fun e w' => e = .returned (.int .i64 (leftS ss left)) ∧ w = w' := by
  obtain ⟨a, cap, rfl, _, hc⟩ := reads_strs hv
  clear hv
  unfold maxLen at hn hs
  by_cases h0 : left < (ss.length : Int)
  · have hneg : left - (ss.length : Int) < 0 := by omega
    have e : leftS ss left = -1 := by rw [leftS, bulkS, if_neg (by omega)]
    rw [e]
    clear hc hs
    go_enter Try.func41, Try.ntmps41
    go_wp2
    go_ret
    exact ⟨rfl, rfl⟩
  · have hpos : ¬ (left - (ss.length : Int) < 0) := by omega
    rcases hc with rfl | ⟨b, off, rfl, hlt, hc⟩
    · go_enter Try.func41, Try.ntmps41
      go_wp2
      go_loop [1, 5] (fun vl vi => vl = .int .i64 left ∧ vi = .int .i64 0) (fun _ _ => 0)
      case atStart => exact ⟨rfl, rfl⟩
      case round =>
        obtain ⟨rfl, rfl⟩ := hrel
        go_wp2
        go_ret
        exact ⟨by rw [show leftS [] left = left by simp [leftS, bulkS, hl0]]; rfl, rfl⟩
    · go_enter Try.func41, Try.ntmps41
      go_wp2
      go_loop [1, 5] (fun vl vi => ∃ (k : Nat) (l : Int), k ≤ ss.length ∧ vi = .int .i64 (k : Int) ∧ vl = .int .i64 l ∧ 0 ≤ l ∧ l ≤ 1048576 ∧ Hid (l = left - (ss.length : Int) - (((ss.take k).map ByteArray.size).sum : Int))) (fun _ vi => ss.length - (intOf vi).toNat)
      case atStart => exact ⟨0, _, Nat.zero_le _, rfl, rfl, by omega, by omega, by show _ = _; simp⟩
      case round =>
        obtain ⟨k, l, hk, rfl, rfl, hq0, hq1, hl⟩ := hrel
        by_cases hlt' : k < ss.length
        · have hcx := hc k hlt'
          have hsk := hs ss[k] (List.getElem_mem hlt')
          have hsum := sum_take_succ ss k hlt'
          obtain ⟨t, ht⟩ : ∃ t, t = ss[k] := ⟨_, rfl⟩
          rw [← ht] at hcx hsk hsum
          have HS : Hid (((ss.take (k + 1)).map ByteArray.size).sum = ((ss.take k).map ByteArray.size).sum + t.size) := hsum
          have hki : (k : Int) < (ss.length : Int) := by omega
          clear hc hs ht hsum
          by_cases hneg : l - (t.size : Int) < 0
          · have e : leftS ss left = -1 := by
              have h1 := HS.out; have h2 := hl.out; have h3 := sum_take_le ss (k + 1)
              rw [leftS, bulkS, if_neg (by omega)]
            have HE : Hid (leftS ss left = -1) := e
            clear e
            go_wp2
            go_ret
            exact ⟨by rw [HE.out]; rfl, rfl⟩
          · go_wp2
            go_round
            case rel => exact ⟨k + 1, l - (t.size : Int), by omega, by go_num, rfl, by omega, by omega, (by show _ = _; rw [HS.out, hl.out]; omega)⟩
            case measure => simp [intOf]; omega
        · have he : k = ss.length := by omega
          subst he
          have e : leftS ss left = l := by
            have h2 := hl.out
            rw [List.take_length] at h2
            rw [leftS, bulkS, if_pos (by omega)]; omega
          have HE : Hid (leftS ss left = l) := e
          clear hc hs e
          go_wp2
          go_ret
          exact ⟨by rw [HE.out]; rfl, rfl⟩

theorem szVer_c (a b c : Int) (u : Value) (ps : List ByteArray) (left : Int) (hl0 : 0 ≤ left) (hl1 : left ≤ 1048576) (w : World) (hu : Reads w u (strsV ps)) (hs : saneP ps) :
    Calls Try.prog 25 #[.agg #[.int .i64 a, .int .i64 b, .int .i64 c, u], .int .i64 left] w fun e w' => e = .returned (.int .i64 (leftS ps left)) ∧ Below w.heap.size w w' := by
  have hbx : ∀ o, Below w.heap.size w (w.alloc o) := fun o => (Below.refl _ _).alloc (Nat.le_refl _) _
  have hr : ∀ o, Reads (w.alloc o) u (strsV ps) := fun o => hu.below (hbx o)
  obtain ⟨p, hp⟩ : ∃ p, p = leftS ps left := ⟨_, rfl⟩
  have HS : Hid (∀ o, Calls Try.prog 41 #[u, .int .i64 left] (w.alloc o) fun e w' => e = .returned (.int .i64 p) ∧ w.alloc o = w') := fun o => by rw [hp]; exact sizeStrsL_c u ps _ left hl0 hl1 (hr o) hs.1 hs.2
  have hneg : p < 0 → p = -1 := by
    rw [hp]; unfold leftS; split <;> intro h
    · omega
    · rfl
  have HN : Hid (p < 0 → p = -1) := hneg
  rw [← hp]
  obtain ⟨q, cap, rfl, _, _⟩ := reads_strs hu
  clear hneg hp hu hr hs
  by_cases h : p < 0
  · have e := HN.out h
    subst e
    go_enter Try.func25, Try.ntmps25
    go_wp2_with (go_at_call 41; refine (HS.out _).mono ?_; rintro e w1 ⟨rfl, rfl⟩)
    go_ret
    exact ⟨rfl, hbx _⟩
  · go_enter Try.func25, Try.ntmps25
    go_wp2_with (go_at_call 41; refine (HS.out _).mono ?_; rintro e w1 ⟨rfl, rfl⟩)
    go_ret
    exact ⟨rfl, hbx _⟩

set_option maxHeartbeats 1000000 in
set_option maxRecDepth 100000 in
theorem eqVer_c (a b c : Int) (u u' : Value) (ps : List ByteArray) (w : World) (hu : Reads w u (strsV ps)) (hu' : Reads w u' (strsV ps)) (hn : ps.length ≤ 1048576) :
    Calls Try.prog 39 #[.agg #[.int .i64 a, .int .i64 b, .int .i64 c, u], .agg #[.int .i64 a, .int .i64 b, .int .i64 c, u']] w fun e w' => e = .returned (.bool true) ∧ Below w.heap.size w w' := by
  have hbx : ∀ o o', Below w.heap.size w ((w.alloc o).alloc o') := fun o o' => ((Below.refl _ _).alloc (Nat.le_refl _) _).alloc (by simp) _
  have HS : Hid (∀ o o', Calls Try.prog 52 #[u, u'] ((w.alloc o).alloc o') fun e w' => e = .returned (.bool true) ∧ Below ((w.alloc o).alloc o').heap.size ((w.alloc o).alloc o') w') := fun o o' => by
    have := eqStrs_c u u' ps ps _ (hu.below (hbx o o')) (hu'.below (hbx o o')) (by omega)
    rwa [decide_eq_true rfl] at this
  obtain ⟨q, cap, rfl, _, _⟩ := reads_strs hu
  obtain ⟨q', cap', rfl, _, _⟩ := reads_strs hu'
  clear hu hu'
  go_enter Try.func39, Try.ntmps39
  go_wp2_with (go_at_call 52; refine (HS.out _ _).mono ?_; rintro e w1 ⟨rfl, b1⟩)
  go_ret
  exact ⟨rfl, (hbx _ _).trans (b1.mono (by simp; omega))⟩

theorem vthree {w w1 : World} {A R O : Obj} (hb : Below (((w.alloc A).alloc R).alloc O).heap.size (((w.alloc A).alloc R).alloc O) w1) :
    w1.heap[w.heap.size]? = some A ∧ w1.heap[w.heap.size + 1]? = some R ∧ w1.heap[w.heap.size + 1 + 1]? = some O := by
  have s1 : (w.alloc A).heap.size = w.heap.size + 1 := by simp
  have s2 : ((w.alloc A).alloc R).heap.size = w.heap.size + 1 + 1 := by simp
  refine ⟨?_, ?_, ?_⟩
  · rw [hb.block _ (by simp; omega), vheap_old _ _ (by simp; omega), vheap_old _ _ (by simp), vheap_new]
  · rw [hb.block _ (by simp), vheap_old _ _ (by simp), ← s1, vheap_new]
  · rw [hb.block _ (by simp), ← s2, vheap_new]

set_option maxHeartbeats 1000000 in
set_option maxRecDepth 100000 in
theorem toVer_c (a b c : Int) (u : Value) (ps : List ByteArray) (w : World) (hu : Reads w u (strsV ps)) (hn : ps.length ≤ 1048576) :
    Calls Try.prog 29 #[.agg #[.int .i64 a, .int .i64 b, .int .i64 c, u]] w fun e w' => ∃ g, e = .returned (.agg #[.int .i64 a, .int .i64 b, .int .i64 c, .slice (some ⟨g, 0, none⟩) ps.length ps.length]) ∧ Reads w' (.slice (some ⟨g, 0, none⟩) ps.length ps.length) (strsV ps) ∧ Below w.heap.size w w' := by
  have huA : ∀ w1, Below w.heap.size w w1 → Reads w1 u (strsV ps) := fun w1 h1 => hu.below h1
  obtain ⟨q, cap, rfl, _, _⟩ := reads_strs hu
  clear hu
  go_enter Try.func29, Try.ntmps29
  have hb3 : ∀ A R O, Below w.heap.size w (((w.alloc A).alloc R).alloc O) := fun A R O => (((Below.refl _ _).alloc (Nat.le_refl _) _).alloc (by simp) _).alloc (by simp; omega) _
  go_wp2_with (
    go_at_call 44
    refine (toStrs_c _ ps _ (huA _ (hb3 _ _ _)) (by omega)).mono ?_
    rintro e w1 ⟨g, rfl, hM, hb1⟩
    obtain ⟨hA, hR, hO⟩ := vthree hb1
    have o0 := vblk_cell hO 0
    have o1 := vblk_cell hO 1
    have o2 := vblk_cell hO 2
    have o3 := vblk_cell hO 3
    have r0 := vblk_cell hR 0
    have r1 := vblk_cell hR 1
    have r2 := vblk_cell hR 2
    have r3 := vblk_cell hR 3
    have fo := vblk_frozen hO
    have fr := vblk_frozen hR
    simp only [List.getElem?_toArray, List.getElem?_cons_succ, List.getElem?_cons_zero] at o0 o1 o2 o3 r0 r1 r2 r3)
  have s3 : ∀ A R O, (((w.alloc A).alloc R).alloc O).heap.size = w.heap.size + 1 + 1 + 1 := fun A R O => by simp
  rw [s3] at hb1 hM
  have hN : w.heap.size + 1 + 1 + 1 ≤ w1.heap.size := by have := hb1.size; rw [s3] at this; exact this
  refine bodyPost_ret (v := .agg #[.int .i64 a, .int .i64 b, .int .i64 c, .slice (some ⟨g, 0, none⟩) ps.length ps.length]) (by simp [results, Try.results29, go_sem, o0, o1, o2, o3, r0, r1, r2, r3]) rfl ⟨_, rfl, ?_, ?_⟩
  · refine reads_of_owns (base := w.heap.size + 1 + 1 + 1) (e := 9) (n := ps.length) ?_
    refine owns_set (owns_set (owns_set (owns_set (owns_set hM ?_ _) ?_ _) ?_ _) ?_ _) ?_ _ <;> simp
  · have b1 := ((hb3 _ _ _).trans (hb1.mono (by omega)))
    refine Below.setCell (Below.setCell (Below.setCell (Below.setCell (Below.setCell b1 ?_ _) ?_ _) ?_ _) ?_ _) ?_ _ <;> simp <;> omega
end Go.Proofs.Ytablcicfagmhpaa

/-! Needs, commands and packs that lie in memory: what they are, and how much they hold, as the law counts it: contracts for the walks; conditions: at most 2 to the 20 is left to count. -/
namespace Go.Proofs.Ytablcicfagmhpaa
open Go.RowKit
set_option linter.unusedSimpArgs false
set_option linter.unusedVariables false

theorem lw (n : Nat) (l : Int) : ((n : Int) ≤ l ∧ leftW n l = l - (n : Int)) ∨ (l < (n : Int) ∧ leftW n l = -1) := by
  by_cases h : (n : Int) ≤ l
  · exact .inl ⟨h, leftW_good h⟩
  · exact .inr ⟨by omega, leftW_bad h⟩

/-- A list of texts that may be written. -/
def StrsOwn (S : Nat → Prop) (w : World) (u : Value) (ss : List ByteArray) : Prop := w.ownsRow 0 9 1 u ss.length (strsV ss) ∧ ∀ g, u.ownBlock = some g → S g
theorem StrsOwn.keep {S : Nat → Prop} {w w' : World} {u : Value} {ss : List ByteArray} (hk : Kp S w w') (h : StrsOwn S w u ss) : StrsOwn S w' u ss := ⟨owns_kept hk h.2 h.1, h.2⟩
theorem StrsOwn.mono {S S' : Nat → Prop} {w : World} {u : Value} {ss : List ByteArray} (hS : ∀ b, S b → S' b) (h : StrsOwn S w u ss) : StrsOwn S' w u ss := ⟨h.1, fun g hg => hS g (h.2 g hg)⟩
theorem StrsOwn.plain {S : Nat → Prop} {w : World} {u : Value} {ss : List ByteArray} (h : StrsOwn S w u ss) : RdB S w u (strsV ss) := by
  obtain ⟨a, cap, hv, hc, hx⟩ := reads_of_owns h.1
  refine ⟨a, cap, hv, hc, ?_⟩
  rcases hx with hx | ⟨b, off, rfl, hlt, hx⟩
  · exact .inl hx
  · exact .inr ⟨b, off, rfl, h.2 b (by rw [hv]; rfl), hx⟩

structure NeedD where
  n : ByteArray
  r : ByteArray
def wtNeed (d : NeedD) : Nat := d.n.size + d.r.size
def shNeed : Sh NeedD where
  n := 2
  lies S w cs d := cs = [.string d.n, .string d.r] ∧ d.n.size ≤ maxLen ∧ d.r.size ≤ maxLen
  keep hk h := by obtain ⟨h0, h1, h2⟩ := h; exact ⟨h0, h1, h2⟩
  mono hS h := by obtain ⟨h0, h1, h2⟩ := h; exact ⟨h0, h1, h2⟩

structure CmdD where
  t : ByteArray
  acts : List ByteArray
def wtCmd (d : CmdD) : Nat := d.t.size + bulkS d.acts
def shCmd : Sh CmdD where
  n := 2
  lies S w cs d := ∃ u0, cs = [.string d.t, u0] ∧ d.t.size ≤ maxLen ∧ RdB S w u0 (strsV d.acts) ∧ saneP d.acts
  keep hk h := by obtain ⟨u0, h0, h1, h2, h3⟩ := h; exact ⟨u0, h0, h1, h2.keep hk, h3⟩
  mono hS h := by obtain ⟨u0, h0, h1, h2, h3⟩ := h; exact ⟨u0, h0, h1, h2.mono hS, h3⟩
def shCmdO : Sh CmdD where
  n := 2
  lies S w cs d := ∃ u0, cs = [.string d.t, u0] ∧ d.t.size ≤ maxLen ∧ StrsOwn S w u0 d.acts ∧ saneP d.acts
  keep hk h := by obtain ⟨u0, h0, h1, h2, h3⟩ := h; exact ⟨u0, h0, h1, h2.keep hk, h3⟩
  mono hS h := by obtain ⟨u0, h0, h1, h2, h3⟩ := h; exact ⟨u0, h0, h1, h2.mono hS, h3⟩
theorem liesCmd_plain {S : Nat → Prop} {w : World} {cs : List Value} {d : CmdD} (h : shCmdO.lies S w cs d) : shCmd.lies S w cs d := by
  obtain ⟨u0, e0, s_t, r0, p0⟩ := h
  exact ⟨u0, e0, s_t, r0.plain, p0⟩

structure PackD where
  name : ByteArray
  uses : List ByteArray
  needs : List NeedD
  cmds : List CmdD
def wtPack (d : PackD) : Nat := d.name.size + bulkS d.uses + wtRow wtNeed d.needs + wtRow wtCmd d.cmds
def shPack : Sh PackD where
  n := 4
  lies S w cs d := ∃ u0 u1 u2, cs = [.string d.name, u0, u1, u2] ∧ d.name.size ≤ maxLen ∧ RdB S w u0 (strsV d.uses) ∧ saneP d.uses ∧ RowIn shNeed S w u1 d.needs ∧ RowIn shCmd S w u2 d.cmds
  keep hk h := by obtain ⟨u0, u1, u2, h0, h1, h2, h3, h4, h5⟩ := h; exact ⟨u0, u1, u2, h0, h1, h2.keep hk, h3, h4.keep hk, h5.keep hk⟩
  mono hS h := by obtain ⟨u0, u1, u2, h0, h1, h2, h3, h4, h5⟩ := h; exact ⟨u0, u1, u2, h0, h1, h2.mono hS, h3, h4.mono hS, h5.mono hS⟩
end Go.Proofs.Ytablcicfagmhpaa

/-! Copies of needs and commands, and of rows of them, in memory of their own, as the law makes them: contracts for the walks; condition: what is copied holds at most 2 to the 20. -/
namespace Go.Proofs.Ytablcicfagmhpaa
open Go.RowKit
set_option linter.unusedSimpArgs false
set_option linter.unusedVariables false

theorem owns_sliceP {w : World} {lo : Nat} {e : TypeId} {sz n : Nat} {v : Value} {xs : List Value} (hg : w.ownsRow lo e sz v n xs) : ∃ q cap, v = .slice q n cap := by
  rcases hg.2 with ⟨h1, h2⟩ | ⟨g, cap, cur, h1, _⟩
  · exact ⟨none, 0, by rw [h1, h2]⟩
  · exact ⟨_, _, h1⟩
theorem StrsOwn.slice {S : Nat → Prop} {w : World} {u : Value} {ss : List ByteArray} (h : StrsOwn S w u ss) : ∃ q cap, u = .slice q ss.length cap := owns_sliceP h.1
theorem RowOwn.slice {α : Type} {sh : Sh α} {t : TypeId} {S : Nat → Prop} {w : World} {v : Value} {xs : List α} (h : RowOwn sh t S w v xs) : ∃ q cap, v = .slice q xs.length cap := by
  obtain ⟨_, ys, h1, _⟩ := h; exact owns_sliceP h1

set_option maxHeartbeats 2000000 in
set_option maxRecDepth 100000 in
theorem toNeed_c (S : Nat → Prop) (d : NeedD) (cs : List Value) (w : World) (hd : shNeed.lies S w cs d) (hB : ∀ b, S b → b < w.heap.size) (hw : wtNeed d ≤ 1048576) :
    Calls Try.prog 45 #[.agg cs.toArray] w fun e w' => ∃ cs', e = .returned (.agg cs'.toArray) ∧ shNeed.lies (Ow w.heap.size w'.heap.size) w' cs' d ∧ Below w.heap.size w w' := by
  obtain ⟨rfl, s_n, s_r⟩ := hd
  have hb3 : ∀ A R O, Below w.heap.size w (((w.alloc A).alloc R).alloc O) := fun A R O => (((Below.refl _ _).alloc (Nat.le_refl _) _).alloc (by simp) _).alloc (by simp; omega) _
  go_enter Try.func45, Try.ntmps45
  go_wp2_with fail
  refine bodyPost_ret (v := .agg #[.string d.n, .string d.r]) (by simp [results, Try.results45, go_sem]) rfl ⟨_, rfl, ⟨rfl, s_n, s_r⟩, ?_⟩
  exact hb3 _ _ _

set_option maxHeartbeats 2000000 in
set_option maxRecDepth 100000 in
theorem infoNeed : (Try.prog.info? 67).map (fun i => (i.zero, i.size, i.bytes)) = some (some (.agg #[.string ⟨#[]⟩, .string ⟨#[]⟩]), 2, 32) := by kernel_rfl
set_option maxHeartbeats 2000000 in
set_option maxRecDepth 100000 in
theorem toNeedS_c (S : Nat → Prop) (v : Value) (xs : List NeedD) (w : World) (hv : RowIn shNeed S w v xs) (hB : ∀ b, S b → b < w.heap.size) (hw : wtRow wtNeed xs ≤ 1048576) :
    Calls Try.prog 30 #[v] w fun e w' => ∃ g, e = .returned (.slice (some ⟨g, 0, none⟩) xs.length xs.length) ∧ RowOwn shNeed 67 (Ow w.heap.size w'.heap.size) w' (.slice (some ⟨g, 0, none⟩) xs.length xs.length) xs ∧ Below w.heap.size w w' := by
  obtain ⟨a, cap, rfl, hl, hc, ha⟩ := hv
  have hn := len_wtRow wtNeed xs
  have hlm : xs.length ≤ maxLen := hl
  unfold maxLen at hl
  obtain ⟨i0, hi, hz0, hz1, hz2⟩ := info_parts infoNeed
  go_enter Try.func30, Try.ntmps30
  go_wp2_with (first
    | (at_make; refine wpList_make_full _ rfl _ _ 38 rfl w.heap.size 67 i0 _ 2 Try.underlying38 hi hz0 hz1 _ _ _ _ xs.length rfl rfl rfl rfl (by rw [hz2]; omega) (by unfold maxLen; omega) (Nat.le_refl _) ?_))
  intro w1 hown hgrow
  have hb1 := below_of_grown hgrow
  have hs1 : w.heap.size + 1 ≤ w1.heap.size := by
    rcases hown.2 with ⟨h, _⟩ | ⟨g, cap, cur, h, _, hg, _⟩
    · simp at h
    · simp at h
      have := (Array.getElem?_eq_some_iff.1 hg).1
      omega
  obtain ⟨ys1, hown1⟩ : ∃ ys, w1.ownsRow w.heap.size 67 2 (.slice (some ⟨w.heap.size, 0, none⟩) xs.length xs.length) xs.length ys := ⟨_, hown⟩
  clear hgrow hown
  go_wp2_with fail
  go_loopw [4] (fun vi wr => ∃ (k : Nat) (ys : List Value), k ≤ xs.length ∧ vi = .int .i64 (k : Int) ∧ wr.ownsRow w.heap.size 67 2 (.slice (some ⟨w.heap.size, 0, none⟩) xs.length xs.length) xs.length ys ∧ Hid (Laid shNeed (Ow (w.heap.size + 1) wr.heap.size) wr ys xs k) ∧ Below w.heap.size w wr ∧ w.heap.size + 1 ≤ wr.heap.size) (fun vi _ => xs.length - (intOf vi).toNat)
  case atStart => exact ⟨0, ys1, Nat.zero_le _, rfl, hown1, (fun i h h0 => by omega), hb1, hs1⟩
  case round =>
    obtain ⟨k, ys, hk, rfl, hownr, hy, hbr, hsr⟩ := hrel
    by_cases hlt' : k < xs.length
    · rcases ha with rfl | ⟨b, off, rfl, hlt, ha⟩
      · simp at hlt'
      obtain ⟨cs, hL, hcell⟩ := ha k hlt'
      have hL2 := shNeed.keep (.of hbr hB) hL
      have hcell2 := hcell.keep (.of hbr hB) hlt
      have hBr : ∀ b, S b → b < wr.heap.size := fun b h => Nat.lt_of_lt_of_le (hB b h) hbr.size
      have hwt : wtNeed xs[k] ≤ 1048576 := by have := wt_wtRow wtNeed (List.getElem_mem hlt'); omega
      have hown2 : ∀ w2, Below wr.heap.size wr w2 → w2.ownsRow w.heap.size 67 2 (.slice (some ⟨w.heap.size, 0, none⟩) xs.length xs.length) xs.length ys := fun w2 h2 => hownr.kept (grown_of_below h2 none) (by simp [Value.ownBlock])
      have hlen := hownr.1
      have HC : Hid (∀ w2, Below wr.heap.size wr w2 → ∀ j, j < 2 → ∃ x, w2.cell? ⟨w.heap.size, k * 2 + j, none⟩ = some x) := fun w2 h2 j hj => ⟨ys.getD (k * 2 + j) undef, by rw [(hown2 w2 h2).cellAt _ (by omega)]; simp [List.getD_eq_getElem?_getD, show k * 2 + j < ys.length by omega]⟩
      have HF : Hid (∀ w2, Below wr.heap.size wr w2 → ∀ j, w2.frozen? ⟨w.heap.size, j, none⟩ = false) := fun w2 h2 j => (hown2 w2 h2).frozenAt j
      have HO : Hid (∀ w2, Below wr.heap.size wr w2 → w2.ownsRow w.heap.size 67 2 (.slice (some ⟨w.heap.size, 0, none⟩) xs.length xs.length) xs.length ys) := hown2
      have HST : Hid (∀ w2 cs, Below wr.heap.size wr w2 → cs.length = 2 → shNeed.lies (Ow (w.heap.size + 1) w2.heap.size) w2 cs xs[k] → Laid shNeed (Ow (w.heap.size + 1) (setW w2 w.heap.size (k * 2) cs).heap.size) (setW w2 w.heap.size (k * 2) cs) (putL ys (k * 2) cs) xs (k + 1)) := fun w2 cs h2 hc hr => hy.out.step (sh := shNeed) hlt' hlen h2 (by omega) hc hr
      obtain ⟨d, hd⟩ : ∃ d, d = xs[k] := ⟨_, rfl⟩
      rw [← hd] at hL2 hwt HST
      have HC1 := toNeed_c S d cs wr hL2 hBr hwt
      clear ha hL hcell hd hown2 hi hz0 hz1 hz2 hown1 hb1 hlen hwt
      obtain ⟨rfl, s_n, s_r⟩ := hL2
      clear s_n s_r
      have e0 : wr.cell? ⟨b, off + k * 2, none⟩ = some (.string d.n) := hcell2 0 (by simp)
      have e1 : wr.cell? ⟨b, off + k * 2 + 1, none⟩ = some (.string d.r) := hcell2 1 (by simp)
      have HC2 := hidden HC1
      have hki : (k : Int) < (xs.length : Int) := by omega
      clear hcell2 HC1
      go_wp2_with (go_at_call 45; refine HC2.out.mono ?_; rintro e w2 ⟨cs, rfl, hX, hb2⟩; have HX := hidden (HST.out w2 cs hb2 (by have h := hX; obtain ⟨h9, s_n, s_r⟩ := h; rw [h9]; rfl) (shNeed.mono (Ow.mono hsr (Nat.le_refl _)) hX)); obtain ⟨rfl, s_n, s_r⟩ := hX; obtain ⟨y0, d0⟩ := HC.out w2 hb2 0 (by omega); obtain ⟨y1, d1⟩ := HC.out w2 hb2 1 (by omega); rw [Nat.add_zero] at d0; have f9 := HF.out w2 hb2)
      go_roundw
      case rel =>
        refine ⟨k + 1, _, by omega, by go_num, setW_owns [.string d.n, .string d.r] w2 ys (k * 2) (HO.out w2 hb2), HX.out, setW_below (Nat.le_refl _) [.string d.n, .string d.r] w2 w (k * 2) (hbr.trans (hb2.mono hbr.size)), ?_⟩
        have h9 := setW_size [.string d.n, .string d.r] w2 w.heap.size (k * 2)
        have := hb2.size
        exact Nat.le_trans (show w.heap.size + 1 ≤ w2.heap.size by omega) (Nat.le_of_eq h9.symm)
      case measure => simp [intOf]; omega
    · have he : k = xs.length := by omega
      subst he
      clear ha
      go_wp2_with fail
      go_ret
      exact ⟨_, rfl, rowOwn_of hownr hlm hy.out, hbr⟩

end Go.Proofs.Ytablcicfagmhpaa

/-! Copies of packs, and of rows of them, in memory of their own, as the law makes them: contracts for the walks; condition: what is copied holds at most 2 to the 20. -/
namespace Go.Proofs.Ytablcicfagmhpaa
open Go.RowKit
set_option linter.unusedSimpArgs false
set_option linter.unusedVariables false

end Go.Proofs.Ytablcicfagmhpaa

/-! A value as a tree, how much it holds, and what it means that it lies in memory below a block number; no condition but those told. -/
namespace Go.Proofs.Ytablcicfagmhpaa
open Go.RowKit
set_option linter.unusedSimpArgs false
set_option linter.unusedVariables false

inductive Tree where
  | mk (k n : Int) (s : ByteArray) (l : List Tree) (keys : List ByteArray) : Tree

theorem Tree.ind {P : Tree → Prop} (h : ∀ k n s l ks, (∀ U ∈ l, P U) → P (.mk k n s l ks)) : ∀ T, P T
  | .mk k n s l ks => h k n s l ks (fun U _ => Tree.ind h U)
  termination_by T => SizeOf.sizeOf T
  decreasing_by
    rename_i hU
    have := List.sizeOf_lt_of_mem hU
    simp
    omega

mutual
def Tree.wt : Tree → Nat
  | .mk _ _ s l ks => s.size + (wtL l + bulkS ks)
def wtL : List Tree → Nat
  | [] => 0
  | t :: r => 1 + t.wt + wtL r
end

theorem wtL_append (a b : List Tree) : wtL (a ++ b) = wtL a + wtL b := by
  induction a with
  | nil => simp [wtL]
  | cons t r ih => simp only [List.cons_append, wtL, ih]; omega

theorem wtL_take_succ (l : List Tree) (k : Nat) (h : k < l.length) : wtL (l.take (k + 1)) = wtL (l.take k) + 1 + (l[k]).wt := by
  rw [List.take_succ_eq_append_getElem h, wtL_append]
  simp [wtL]; omega

theorem wtL_take_le (l : List Tree) (k : Nat) : wtL (l.take k) ≤ wtL l := by
  conv => rhs; rw [← List.take_append_drop k l, wtL_append]
  omega

theorem length_le_wtL (l : List Tree) : l.length ≤ wtL l := by
  induction l with
  | nil => simp
  | cons t r ih => simp only [List.length_cons, wtL]; omega

theorem wtL_take_rest (l : List Tree) (k : Nat) : wtL (l.take k) + (l.length - k) ≤ wtL l := by
  conv => rhs; rw [← List.take_append_drop k l, wtL_append]
  have := length_le_wtL (l.drop k)
  simp at this
  omega

theorem wt_le_wtL {l : List Tree} {U : Tree} (h : U ∈ l) : U.wt + 1 ≤ wtL l := by
  induction l with
  | nil => simp at h
  | cons t r ih =>
    simp only [List.mem_cons] at h
    simp only [wtL]
    rcases h with rfl | h
    · omega
    · have := ih h; omega

/-- In blocks of S the world w' is as w was. -/
def KeptIn (S : Nat → Prop) (w w' : World) : Prop := ∀ b, S b → w'.heap[b]? = w.heap[b]?
theorem KeptIn.cell {S : Nat → Prop} {w w' : World} (h : KeptIn S w w') {b : Nat} (hb : S b) (o : Nat) : w'.cell? ⟨b, o, none⟩ = w.cell? ⟨b, o, none⟩ := World.cell?_of_block (w := w) (h b hb)
theorem KeptIn.trans {S : Nat → Prop} {a b c : World} (h : KeptIn S a b) (k : KeptIn S b c) : KeptIn S a c := fun i hi => (k i hi).trans (h i hi)
theorem KeptIn.of {S : Nat → Prop} {B : Nat} {w w' : World} (hb : Below B w w') (hS : ∀ b, S b → b < B) : KeptIn S w w' := fun b h => hb.block b (hS b h)

/-- A list of texts that lies in blocks of S. -/
def ReadsB (S : Nat → Prop) (w : World) (v : Value) (xs : List Value) : Prop :=
  ∃ a cap, v = .slice a xs.length cap ∧ xs.length ≤ cap ∧ (xs = [] ∨ ∃ b off, a = some ⟨b, off, none⟩ ∧ S b ∧ ∀ k (h : k < xs.length), w.cell? ⟨b, off + k, none⟩ = some xs[k])

theorem ReadsB.reads {S : Nat → Prop} {w : World} {v : Value} {xs : List Value} (h : ReadsB S w v xs) (hS : ∀ b, S b → b < w.heap.size) : Reads w v xs := by
  obtain ⟨a, cap, hv, hc, h⟩ := h
  refine ⟨a, cap, hv, hc, ?_⟩
  rcases h with h | ⟨b, off, ha, hb, h⟩
  · exact .inl h
  · exact .inr ⟨b, off, ha, hS b hb, h⟩

theorem ReadsB.of {w : World} {v : Value} {xs : List Value} (h : Reads w v xs) : ReadsB (· < w.heap.size) w v xs := h

theorem ReadsB.keep {S : Nat → Prop} {w w' : World} {v : Value} {xs : List Value} (hb : KeptIn S w w') (h : ReadsB S w v xs) : ReadsB S w' v xs := by
  obtain ⟨a, cap, hv, hc, h⟩ := h
  refine ⟨a, cap, hv, hc, ?_⟩
  rcases h with h | ⟨b, off, ha, hlt, h⟩
  · exact .inl h
  · exact .inr ⟨b, off, ha, hlt, fun k hk => (hb.cell hlt _).trans (h k hk)⟩

theorem ReadsB.mono {S S' : Nat → Prop} {w : World} {v : Value} {xs : List Value} (hB : ∀ b, S b → S' b) (h : ReadsB S w v xs) : ReadsB S' w v xs := by
  obtain ⟨a, cap, hv, hc, h⟩ := h
  refine ⟨a, cap, hv, hc, ?_⟩
  rcases h with h | ⟨b, off, ha, hlt, h⟩
  · exact .inl h
  · exact .inr ⟨b, off, ha, hB b hlt, h⟩

def saneS (ks : List ByteArray) : Prop := ks.length ≤ maxLen ∧ ∀ s ∈ ks, s.size ≤ maxLen

/-- The value v is the tree T, all of whose memory lies in blocks of S. -/
inductive Lies (S : Nat → Prop) (w : World) : Value → Tree → Prop
  | mk (k n : Int) (s : ByteArray) (l : List Tree) (ks : List ByteArray) (a : Option Addr) (cap : Nat) (u : Value) (C : Nat → Nat → Value)
      (hs : s.size ≤ maxLen) (hl : l.length ≤ maxLen) (hk : saneS ks) (hc : l.length ≤ cap) (hu : ReadsB S w u (strsV ks))
      (ha : l = [] ∨ ∃ b off, a = some ⟨b, off, none⟩ ∧ S b ∧ ∀ i, i < l.length → ∀ j, j < 5 → w.cell? ⟨b, off + i * 5 + j, none⟩ = some (C i j))
      (hC : ∀ i (h : i < l.length), Lies S w (.agg #[C i 0, C i 1, C i 2, C i 3, C i 4]) l[i]) :
      Lies S w (.agg #[.int .i64 k, .int .i64 n, .string s, .slice a l.length cap, u]) (.mk k n s l ks)

/-- The list of values v is l. -/
def LiesL (S : Nat → Prop) (w : World) (v : Value) (l : List Tree) : Prop :=
  ∃ a cap, ∃ C : Nat → Nat → Value, v = .slice a l.length cap ∧ l.length ≤ maxLen ∧ l.length ≤ cap ∧
    (l = [] ∨ ∃ b off, a = some ⟨b, off, none⟩ ∧ S b ∧ ∀ i, i < l.length → ∀ j, j < 5 → w.cell? ⟨b, off + i * 5 + j, none⟩ = some (C i j)) ∧
    ∀ i (h : i < l.length), Lies S w (.agg #[C i 0, C i 1, C i 2, C i 3, C i 4]) l[i]

theorem Lies.out {S : Nat → Prop} {w : World} {v : Value} {k n : Int} {s : ByteArray} {l : List Tree} {ks : List ByteArray} (h : Lies S w v (.mk k n s l ks)) :
    ∃ c u, v = .agg #[.int .i64 k, .int .i64 n, .string s, c, u] ∧ s.size ≤ maxLen ∧ saneS ks ∧ LiesL S w c l ∧ ReadsB S w u (strsV ks) := by
  cases h with
  | mk k n s l ks a cap u C hs hl hk hc hu ha hC => exact ⟨_, u, rfl, hs, hk, ⟨a, cap, C, rfl, hl, hc, ha, hC⟩, hu⟩

theorem Lies.of {S : Nat → Prop} {w : World} {c u : Value} {k n : Int} {s : ByteArray} {l : List Tree} {ks : List ByteArray} (hs : s.size ≤ maxLen) (hk : saneS ks) (hl : LiesL S w c l) (hu : ReadsB S w u (strsV ks)) :
    Lies S w (.agg #[.int .i64 k, .int .i64 n, .string s, c, u]) (.mk k n s l ks) := by
  obtain ⟨a, cap, C, rfl, hl, hc, ha, hC⟩ := hl
  exact .mk k n s l ks a cap u C hs hl hk hc hu ha hC

theorem LiesL.mk_keep {S : Nat → Prop} {w w' : World} {v : Value} {l : List Tree} (hb : KeptIn S w w') (hi : ∀ U ∈ l, ∀ x, Lies S w x U → Lies S w' x U) (h : LiesL S w v l) : LiesL S w' v l := by
  obtain ⟨a, cap, C, rfl, hl, hc, ha, hC⟩ := h
  refine ⟨a, cap, C, rfl, hl, hc, ?_, fun i h => hi _ (List.getElem_mem h) _ (hC i h)⟩
  rcases ha with ha | ⟨b, off, ha, hlt, hcell⟩
  · exact .inl ha
  · exact .inr ⟨b, off, ha, hlt, fun i hi j hj => (hb.cell hlt _).trans (hcell i hi j hj)⟩

theorem Lies.keep {S : Nat → Prop} {w w' : World} (hb : KeptIn S w w') : ∀ {T : Tree} {v : Value}, Lies S w v T → Lies S w' v T := by
  have h := Tree.ind (P := fun T => ∀ v, Lies S w v T → Lies S w' v T) ?_
  · exact fun {T v} hx => h T v hx
  intro k n s l ks ih v h
  obtain ⟨c, u, rfl, hs, hk, hl, hu⟩ := h.out
  exact Lies.of hs hk (hl.mk_keep hb ih) (hu.keep hb)

theorem LiesL.keep {S : Nat → Prop} {w w' : World} {v : Value} {l : List Tree} (hb : KeptIn S w w') (h : LiesL S w v l) : LiesL S w' v l :=
  h.mk_keep hb fun U _ x hx => Lies.keep hb hx

theorem LiesL.mk_mono {S S' : Nat → Prop} {w : World} {v : Value} {l : List Tree} (hB : ∀ b, S b → S' b) (hi : ∀ U ∈ l, ∀ x, Lies S w x U → Lies S' w x U) (h : LiesL S w v l) : LiesL S' w v l := by
  obtain ⟨a, cap, C, rfl, hl, hc, ha, hC⟩ := h
  refine ⟨a, cap, C, rfl, hl, hc, ?_, fun i h => hi _ (List.getElem_mem h) _ (hC i h)⟩
  rcases ha with ha | ⟨b, off, ha, hlt, hcell⟩
  · exact .inl ha
  · exact .inr ⟨b, off, ha, hB b hlt, hcell⟩

theorem Lies.mono {S S' : Nat → Prop} {w : World} (hB : ∀ b, S b → S' b) : ∀ {T : Tree} {v : Value}, Lies S w v T → Lies S' w v T := by
  have h := Tree.ind (P := fun T => ∀ v, Lies S w v T → Lies S' w v T) ?_
  · exact fun {T v} hx => h T v hx
  intro k n s l ks ih v h
  obtain ⟨c, u, rfl, hs, hk, hl, hu⟩ := h.out
  exact Lies.of hs hk (hl.mk_mono hB ih) (hu.mono hB)

theorem LiesL.mono {S S' : Nat → Prop} {w : World} {v : Value} {l : List Tree} (hB : ∀ b, S b → S' b) (h : LiesL S w v l) : LiesL S' w v l :=
  h.mk_mono hB fun U _ x hx => Lies.mono hB hx

/-- What is at place i of a list of values: five cells, which are the tree there. -/
theorem LiesL.at {S : Nat → Prop} {w : World} {v : Value} {l : List Tree} (h : LiesL S w v l) :
    ∃ a cap, v = .slice a l.length cap ∧ l.length ≤ maxLen ∧ l.length ≤ cap ∧ (l = [] ∨ ∃ b off, a = some ⟨b, off, none⟩ ∧ S b ∧ ∀ i (h : i < l.length), ∃ c0 c1 c2 c3 c4,
      w.cell? ⟨b, off + i * 5, none⟩ = some c0 ∧ w.cell? ⟨b, off + i * 5 + 1, none⟩ = some c1 ∧ w.cell? ⟨b, off + i * 5 + 2, none⟩ = some c2 ∧ w.cell? ⟨b, off + i * 5 + 3, none⟩ = some c3 ∧ w.cell? ⟨b, off + i * 5 + 4, none⟩ = some c4 ∧
      Lies S w (.agg #[c0, c1, c2, c3, c4]) l[i]) := by
  obtain ⟨a, cap, C, rfl, hl, hc, ha, hC⟩ := h
  refine ⟨a, cap, rfl, hl, hc, ?_⟩
  rcases ha with ha | ⟨b, off, ha, hlt, hcell⟩
  · exact .inl ha
  · refine .inr ⟨b, off, ha, hlt, fun i hi => ⟨C i 0, C i 1, C i 2, C i 3, C i 4, ?_, ?_, ?_, ?_, ?_, hC i hi⟩⟩
    · simpa using hcell i hi 0 (by omega)
    · exact hcell i hi 1 (by omega)
    · exact hcell i hi 2 (by omega)
    · exact hcell i hi 3 (by omega)
    · exact hcell i hi 4 (by omega)

/-- A parameter that was put into a block of its own is still there behind a call. -/
theorem box5 {w w1 : World} {c0 c1 c2 c3 c4 : Value} {t : TypeId} (hb : Below (w.alloc (.cells #[c0, c1, c2, c3, c4] t)).heap.size (w.alloc (.cells #[c0, c1, c2, c3, c4] t)) w1) :
    w1.cell? ⟨w.heap.size, 0, none⟩ = some c0 ∧ w1.cell? ⟨w.heap.size, 1, none⟩ = some c1 ∧ w1.cell? ⟨w.heap.size, 2, none⟩ = some c2 ∧ w1.cell? ⟨w.heap.size, 3, none⟩ = some c3 ∧ w1.cell? ⟨w.heap.size, 4, none⟩ = some c4 := by
  have h : ∀ j, w1.cell? ⟨w.heap.size, j, none⟩ = (#[c0, c1, c2, c3, c4] : Array Value)[j]? := fun j => by
    rw [hb.cell (p := ⟨w.heap.size, j, none⟩) (by simp)]
    have e : (w.alloc (.cells #[c0, c1, c2, c3, c4] t)).heap[w.heap.size]? = some (.cells #[c0, c1, c2, c3, c4] t) := by show (w.heap.push _)[w.heap.size]? = _; simp
    simp only [World.cell?, e]; rfl
  exact ⟨h 0, h 1, h 2, h 3, h 4⟩

theorem heap_new (w : World) (o : Obj) : (w.alloc o).heap[w.heap.size]? = some o := by show (w.heap.push _)[w.heap.size]? = _; simp
theorem heap_old (w : World) (o : Obj) {b : Nat} (h : b < w.heap.size) : (w.alloc o).heap[b]? = w.heap[b]? := Below.heap_alloc w o b h
theorem three {w w1 : World} {A R O : Obj} (hb : Below (((w.alloc A).alloc R).alloc O).heap.size (((w.alloc A).alloc R).alloc O) w1) :
    w1.heap[w.heap.size]? = some A ∧ w1.heap[w.heap.size + 1]? = some R ∧ w1.heap[w.heap.size + 1 + 1]? = some O := by
  have s1 : (w.alloc A).heap.size = w.heap.size + 1 := by simp
  have s2 : ((w.alloc A).alloc R).heap.size = w.heap.size + 1 + 1 := by simp
  refine ⟨?_, ?_, ?_⟩
  · rw [hb.block _ (by simp; omega), heap_old _ _ (by simp; omega), heap_old _ _ (by simp), heap_new]
  · rw [hb.block _ (by simp), heap_old _ _ (by simp), ← s1, heap_new]
  · rw [hb.block _ (by simp), ← s2, heap_new]
theorem blk_cell {w : World} {b : Nat} {cs : Array Value} {t : TypeId} (h : w.heap[b]? = some (.cells cs t (0, 0))) (j : Nat) : w.cell? ⟨b, j, none⟩ = cs[j]? := cell_of_row w b j cs t (0, 0) h
theorem blk_frozen {w : World} {b : Nat} {cs : Array Value} {t : TypeId} (h : w.heap[b]? = some (.cells cs t (0, 0))) (j : Nat) : w.frozen? ⟨b, j, none⟩ = false := frozen_of_row w b j cs t h
theorem blk_set {w : World} {b : Nat} {cs : Array Value} {t : TypeId} (h : w.heap[b]? = some (.cells cs t (0, 0))) (j : Nat) (v : Value) : (w.setCell ⟨b, j, none⟩ v).heap[b]? = some (.cells (cs.setIfInBounds j v) t (0, 0)) := heap_setCell_same w b j cs t v h

#print axioms Lies.keep
end Go.Proofs.Ytablcicfagmhpaa

/-! How much a value holds, as the law's own helper reckons it: a contract for every value that lies in memory. -/
namespace Go.Proofs.Ytablcicfagmhpaa
open Go.RowKit
set_option linter.unusedSimpArgs false
set_option linter.unusedVariables false

set_option maxHeartbeats 1000000 in
set_option maxRecDepth 100000 in
theorem sizeStrsT_c (v : Value) (ss : List ByteArray) (w : World) (left : Int) (hl0 : 0 ≤ left) (hl1 : left ≤ 1048576) (hv : Reads w v (strsV ss)) (hn : ss.length ≤ maxLen) (hs : ∀ s ∈ ss, s.size ≤ maxLen) :
    Calls Try.prog 41 #[v, .int .i64 left] w fun e w' => e = .returned (.int .i64 (leftS ss left)) ∧ w = w' := by
  obtain ⟨a, cap, rfl, _, hc⟩ := reads_strs hv
  clear hv
  unfold maxLen at hn hs
  by_cases h0 : left < (ss.length : Int)
  · have hneg : left - (ss.length : Int) < 0 := by omega
    have e : leftS ss left = -1 := by rw [leftS, bulkS, if_neg (by omega)]
    rw [e]
    clear hc hs
    go_enter Try.func41, Try.ntmps41
    go_wp2
    go_ret
    exact ⟨rfl, rfl⟩
  · have hpos : ¬ (left - (ss.length : Int) < 0) := by omega
    rcases hc with rfl | ⟨b, off, rfl, hlt, hc⟩
    · go_enter Try.func41, Try.ntmps41
      go_wp2
      go_loop [1, 5] (fun vl vi => vl = .int .i64 left ∧ vi = .int .i64 0) (fun _ _ => 0)
      case atStart => exact ⟨rfl, rfl⟩
      case round =>
        obtain ⟨rfl, rfl⟩ := hrel
        go_wp2
        go_ret
        exact ⟨by rw [show leftS [] left = left by simp [leftS, bulkS, hl0]]; rfl, rfl⟩
    · go_enter Try.func41, Try.ntmps41
      go_wp2
      go_loop [1, 5] (fun vl vi => ∃ (k : Nat) (l : Int), k ≤ ss.length ∧ vi = .int .i64 (k : Int) ∧ vl = .int .i64 l ∧ 0 ≤ l ∧ l ≤ 1048576 ∧ Hid (l = left - (ss.length : Int) - (((ss.take k).map ByteArray.size).sum : Int))) (fun _ vi => ss.length - (intOf vi).toNat)
      case atStart => exact ⟨0, _, Nat.zero_le _, rfl, rfl, by omega, by omega, by show _ = _; simp⟩
      case round =>
        obtain ⟨k, l, hk, rfl, rfl, hq0, hq1, hl⟩ := hrel
        by_cases hlt' : k < ss.length
        · have hcx := hc k hlt'
          have hsk := hs ss[k] (List.getElem_mem hlt')
          have hsum := sum_take_succ ss k hlt'
          obtain ⟨t, ht⟩ : ∃ t, t = ss[k] := ⟨_, rfl⟩
          rw [← ht] at hcx hsk hsum
          have HS : Hid (((ss.take (k + 1)).map ByteArray.size).sum = ((ss.take k).map ByteArray.size).sum + t.size) := hsum
          have hki : (k : Int) < (ss.length : Int) := by omega
          clear hc hs ht hsum
          by_cases hneg : l - (t.size : Int) < 0
          · have e : leftS ss left = -1 := by
              have h1 := HS.out; have h2 := hl.out; have h3 := sum_take_le ss (k + 1)
              rw [leftS, bulkS, if_neg (by omega)]
            have HE : Hid (leftS ss left = -1) := e
            clear e
            go_wp2
            go_ret
            exact ⟨by rw [HE.out]; rfl, rfl⟩
          · go_wp2
            go_round
            case rel => exact ⟨k + 1, l - (t.size : Int), by omega, by go_num, rfl, by omega, by omega, (by show _ = _; rw [HS.out, hl.out]; omega)⟩
            case measure => simp [intOf]; omega
        · have he : k = ss.length := by omega
          subst he
          have e : leftS ss left = l := by
            have h2 := hl.out
            rw [List.take_length] at h2
            rw [leftS, bulkS, if_pos (by omega)]; omega
          have HE : Hid (leftS ss left = l) := e
          clear hc hs e
          go_wp2
          go_ret
          exact ⟨by rw [HE.out]; rfl, rfl⟩
def leftN (n : Nat) (left : Int) : Int := if (n : Int) ≤ left then left - (n : Int) else -1
theorem leftN_bad {n : Nat} {left : Int} (h : left < (n : Int)) : leftN n left = -1 := by unfold leftN; rw [if_neg (by omega)]
theorem leftN_good {n : Nat} {left : Int} (h : (n : Int) ≤ left) : leftN n left = left - (n : Int) := by unfold leftN; rw [if_pos h]
theorem leftS_N (ks : List ByteArray) (left : Int) : leftS ks left = leftN (bulkS ks) left := rfl
theorem wt_mk (k n : Int) (s : ByteArray) (l : List Tree) (ks : List ByteArray) : (Tree.mk k n s l ks).wt = s.size + (wtL l + bulkS ks) := by rw [Tree.wt]

end Go.Proofs.Ytablcicfagmhpaa

/-! A value copied into memory of its own, as the law's helper does it: a contract for every value that lies in memory and holds at most 2 to the 20. -/
namespace Go.Proofs.Ytablcicfagmhpaa
open Go.RowKit
set_option linter.unusedSimpArgs false
set_option linter.unusedVariables false

/-- The blocks from lo on, below hi. -/
def Own (lo hi : Nat) (b : Nat) : Prop := lo ≤ b ∧ b < hi
theorem Own.set {lo hi : Nat} {w : World} {g j : Nat} {v : Value} (h : g < lo) : KeptIn (Own lo hi) w (w.setCell ⟨g, j, none⟩ v) := fun b hb => Below.heap_setCell w ⟨g, j, none⟩ v b (by have := hb.1; simp; omega)
theorem Own.below {lo : Nat} {w w' : World} (h : Below w.heap.size w w') : KeptIn (Own lo w.heap.size) w w' := fun b hb => h.block b hb.2
theorem Own.mono {lo lo' hi hi' : Nat} (h1 : lo' ≤ lo) (h2 : hi ≤ hi') : ∀ b, Own lo hi b → Own lo' hi' b := fun b h => ⟨Nat.le_trans h1 h.1, Nat.lt_of_lt_of_le h.2 h2⟩

theorem readsB_of_owns {w : World} {base : Nat} {e : TypeId} {v : Value} {n : Nat} {xs : List Value} (h : w.ownsRow base e 1 v n xs) : ReadsB (Own base w.heap.size) w v xs := by
  have h0 := reads_of_owns h
  obtain ⟨a, cap, hv, hc, hx⟩ := h0
  refine ⟨a, cap, hv, hc, ?_⟩
  rcases hx with hx | ⟨b, off, rfl, hlt, hx⟩
  · exact .inl hx
  · refine .inr ⟨b, off, rfl, ⟨?_, hlt⟩, hx⟩
    rcases h.2 with ⟨hn, _⟩ | ⟨g, cap', cur, hv', hg, _⟩
    · rw [hn] at hv; simp at hv
    · rw [hv'] at hv
      simp only [Value.slice.injEq, Option.some.injEq, Addr.mk.injEq] at hv
      omega

theorem toVal_facts {w1 w2 : World} {N : Nat} {t t' : TypeId} {x o0 o1 o2 o3 o4 r0 r1 r2 r3 r4 : Value} (hR : w1.heap[N + 1]? = some (.cells #[r0, r1, r2, r3, r4] t)) (hO : w1.heap[N + 1 + 1]? = some (.cells #[o0, o1, o2, o3, o4] t'))
    (hb : Below (w1.setCell ⟨N + 1 + 1, 3, none⟩ x).heap.size (w1.setCell ⟨N + 1 + 1, 3, none⟩ x) w2) :
    (w2.cell? ⟨N + 1 + 1, 0, none⟩ = some o0 ∧ w2.cell? ⟨N + 1 + 1, 1, none⟩ = some o1 ∧ w2.cell? ⟨N + 1 + 1, 2, none⟩ = some o2 ∧ w2.cell? ⟨N + 1 + 1, 3, none⟩ = some x ∧ w2.cell? ⟨N + 1 + 1, 4, none⟩ = some o4) ∧
    (w2.cell? ⟨N + 1, 0, none⟩ = some r0 ∧ w2.cell? ⟨N + 1, 1, none⟩ = some r1 ∧ w2.cell? ⟨N + 1, 2, none⟩ = some r2 ∧ w2.cell? ⟨N + 1, 3, none⟩ = some r3 ∧ w2.cell? ⟨N + 1, 4, none⟩ = some r4) ∧
    (∀ j, w2.frozen? ⟨N + 1 + 1, j, none⟩ = false) ∧ (∀ j, w2.frozen? ⟨N + 1, j, none⟩ = false) := by
  have l1 : N + 1 < w1.heap.size := (Array.getElem?_eq_some_iff.1 hR).1
  have l2 : N + 1 + 1 < w1.heap.size := (Array.getElem?_eq_some_iff.1 hO).1
  have s1 : (w1.setCell ⟨N + 1 + 1, 3, none⟩ x).heap.size = w1.heap.size := by simp [World.setCell]
  have eO := blk_set hO 3 x
  have eR : (w1.setCell ⟨N + 1 + 1, 3, none⟩ x).heap[N + 1]? = _ := (Below.heap_setCell w1 ⟨N + 1 + 1, 3, none⟩ x (N + 1) (by simp)).trans hR
  rw [← hb.block _ (by rw [s1]; exact l2)] at eO
  rw [← hb.block _ (by rw [s1]; exact l1)] at eR
  exact ⟨⟨blk_cell eO 0, blk_cell eO 1, blk_cell eO 2, blk_cell eO 3, blk_cell eO 4⟩, ⟨blk_cell eR 0, blk_cell eR 1, blk_cell eR 2, blk_cell eR 3, blk_cell eR 4⟩, blk_frozen eO, blk_frozen eR⟩

def cellsAt (ys : List Value) (i : Nat) : Value := .agg #[ys.getD (i * 5) undef, ys.getD (i * 5 + 1) undef, ys.getD (i * 5 + 2) undef, ys.getD (i * 5 + 3) undef, ys.getD (i * 5 + 4) undef]

def set5 (ys : List Value) (i : Nat) (c0 c1 c2 c3 c4 : Value) : List Value := ((((ys.set (i * 5) c0).set (i * 5 + 1) c1).set (i * 5 + 2) c2).set (i * 5 + 3) c3).set (i * 5 + 4) c4

theorem cellsAt_same (ys : List Value) (i : Nat) (c0 c1 c2 c3 c4 : Value) (h : i * 5 + 4 < ys.length) : cellsAt (set5 ys i c0 c1 c2 c3 c4) i = .agg #[c0, c1, c2, c3, c4] := by
  simp [cellsAt, set5, List.getD_eq_getElem?_getD, List.getElem?_set, h, show i * 5 < ys.length by omega, show i * 5 + 1 < ys.length by omega, show i * 5 + 2 < ys.length by omega, show i * 5 + 3 < ys.length by omega]

theorem getD_set_ne (ys : List Value) (a b : Nat) (v : Value) (h : a ≠ b) : (ys.set a v).getD b undef = ys.getD b undef := by
  simp [List.getD_eq_getElem?_getD, List.getElem?_set, h]

theorem cellsAt_other (ys : List Value) (i j : Nat) (c0 c1 c2 c3 c4 : Value) (h : j < i) : cellsAt (set5 ys i c0 c1 c2 c3 c4) j = cellsAt ys j := by
  have e : ∀ q, q < 5 → (set5 ys i c0 c1 c2 c3 c4).getD (j * 5 + q) undef = ys.getD (j * 5 + q) undef := fun q hq => by
    unfold set5
    rw [getD_set_ne _ _ _ _ (by omega), getD_set_ne _ _ _ _ (by omega), getD_set_ne _ _ _ _ (by omega), getD_set_ne _ _ _ _ (by omega), getD_set_ne _ _ _ _ (by omega)]
  have e0 := e 0 (by omega)
  rw [Nat.add_zero] at e0
  simp only [cellsAt, e0, e 1 (by omega), e 2 (by omega), e 3 (by omega), e 4 (by omega)]

end Go.Proofs.Ytablcicfagmhpaa

/-! A list of values copied into memory of its own; with it every value: a contract for what lies in memory and holds at most 2 to the 20. -/
namespace Go.Proofs.Ytablcicfagmhpaa
open Go.RowKit
set_option linter.unusedSimpArgs false
set_option linter.unusedVariables false

/-- What lies in memory, with its two lists written out. -/
theorem Lies.parts {S : Nat → Prop} {w : World} {v : Value} {T : Tree} (h : Lies S w v T) :
    ∃ k n s a m cap a' m' cap', v = .agg #[.int .i64 k, .int .i64 n, .string s, .slice a m cap, .slice a' m' cap'] := by
  cases T with
  | mk k n s l ks =>
    obtain ⟨c, u, rfl, hs, hk, ⟨a, cap, C, rfl, _⟩, ⟨a', cap', rfl, _⟩⟩ := h.out
    exact ⟨_, _, _, _, _, _, _, _, _, rfl⟩

end Go.Proofs.Ytablcicfagmhpaa

/-! Two values that are the same tree are told so by the law's own comparison: a contract for every two that lie in memory. -/
namespace Go.Proofs.Ytablcicfagmhpaa
open Go.RowKit
set_option linter.unusedSimpArgs false
set_option linter.unusedVariables false

theorem two5 {w w1 : World} {c0 c1 c2 c3 c4 d0 d1 d2 d3 d4 : Value} {t : TypeId} (hb : Below ((w.alloc (.cells #[c0, c1, c2, c3, c4] t)).alloc (.cells #[d0, d1, d2, d3, d4] t)).heap.size ((w.alloc (.cells #[c0, c1, c2, c3, c4] t)).alloc (.cells #[d0, d1, d2, d3, d4] t)) w1) :
    w1.cell? ⟨w.heap.size, 4, none⟩ = some c4 ∧ w1.cell? ⟨w.heap.size + 1, 4, none⟩ = some d4 := by
  have s1 : (w.alloc (.cells #[c0, c1, c2, c3, c4] t)).heap.size = w.heap.size + 1 := by simp
  have h1 : w1.heap[w.heap.size]? = some (.cells #[c0, c1, c2, c3, c4] t) := by rw [hb.block _ (by simp; omega), heap_old _ _ (by simp), heap_new]
  have h2 : w1.heap[w.heap.size + 1]? = some (.cells #[d0, d1, d2, d3, d4] t) := by rw [hb.block _ (by simp), ← s1, heap_new]
  exact ⟨blk_cell h1 4, blk_cell h2 4⟩

end Go.Proofs.Ytablcicfagmhpaa

/-! Trees of values that may be written, no two rows of which are the same, and such as bear marks: what they are, and that they are kept; no condition. -/
namespace Go.Proofs.Ytablcicfagmhpaa
open Go.RowKit
set_option linter.unusedSimpArgs false
set_option linter.unusedVariables false

def Tree.kids : Tree → List Tree
  | .mk _ _ _ l _ => l
def Tree.keys : Tree → List ByteArray
  | .mk _ _ _ _ ks => ks
mutual
/-- How many marks a tree takes below its own, and a list of trees. -/
def Tree.cnt : Tree → Nat
  | .mk _ _ _ l ks => 3 + cntL l + ks.length
def cntL : List Tree → Nat
  | [] => 0
  | t :: r => t.cnt + cntL r
end
theorem cnt_eq (T : Tree) : T.cnt = 3 + cntL T.kids + T.keys.length := by
  cases T; rw [Tree.cnt]; rfl
theorem cntL_append (a b : List Tree) : cntL (a ++ b) = cntL a + cntL b := by
  induction a with
  | nil => simp [cntL]
  | cons t r ih => simp only [List.cons_append, cntL, ih]; omega
theorem cntL_take (l : List Tree) (k : Nat) (h : k < l.length) : cntL (l.take (k + 1)) = cntL (l.take k) + l[k].cnt := by
  rw [List.take_succ_eq_append_getElem h, cntL_append]; simp [cntL]
theorem cntL_take_le (l : List Tree) (k : Nat) : cntL (l.take k) ≤ cntL l := by
  conv => rhs; rw [← List.take_append_drop k l, cntL_append]
  omega

/-- From w to w' only blocks of S, and new ones, have changed. -/
structure Chg (S : Nat → Prop) (w w' : World) : Prop where
  os : w'.os = w.os
  tape : w'.tape = w.tape
  output : w'.output = w.output
  size : w.heap.size ≤ w'.heap.size
  block : ∀ b, b < w.heap.size → ¬ S b → w'.heap[b]? = w.heap[b]?
theorem Chg.refl (S : Nat → Prop) (w : World) : Chg S w w := ⟨rfl, rfl, rfl, Nat.le_refl _, fun _ _ _ => rfl⟩
theorem Chg.trans {S : Nat → Prop} {a b c : World} (h : Chg S a b) (k : Chg S b c) : Chg S a c :=
  ⟨k.os.trans h.os, k.tape.trans h.tape, k.output.trans h.output, Nat.le_trans h.size k.size, fun i hi hs => (k.block i (Nat.lt_of_lt_of_le hi h.size) hs).trans (h.block i hi hs)⟩
theorem Chg.mono {S S' : Nat → Prop} {a b : World} (h : Chg S a b) (hs : ∀ b, S b → S' b) : Chg S' a b := ⟨h.os, h.tape, h.output, h.size, fun i hi hn => h.block i hi (fun k => hn (hs i k))⟩
theorem Chg.of {S : Nat → Prop} {a b : World} (h : Below a.heap.size a b) : Chg S a b := ⟨h.os, h.tape, h.output, h.size, fun i hi _ => h.block i hi⟩
theorem Chg.kp {S R : Nat → Prop} {a b : World} (h : Chg S a b) (hr : ∀ i, R i → i < a.heap.size ∧ ¬ S i) : Kp R a b := fun i hi => h.block i (hr i hi).1 (hr i hi).2
end Go.Proofs.Ytablcicfagmhpaa

/-! Marks put into a tree of values that may be written, as the law puts them: contracts for the walks; conditions: no two rows are the same, and there are at most 2 to the 32 marks. -/
namespace Go.Proofs.Ytablcicfagmhpaa
open Go.RowKit
set_option linter.unusedSimpArgs false
set_option linter.unusedVariables false

theorem Chg.set {S : Nat → Prop} {w : World} {g j : Nat} {v : Value} (h : S g) : Chg S w (w.setCell ⟨g, j, none⟩ v) :=
  ⟨rfl, rfl, rfl, by simp [World.setCell], fun b hb hn => Below.heap_setCell w ⟨g, j, none⟩ v b (fun e => by have e' : b = g := e; subst e'; exact hn h)⟩
theorem Chg.grown {S : Nat → Prop} {w w' : World} {r : Option Nat} (h : w.grownBy w' r) (hr : ∀ g, r = some g → S g) : Chg S w w' :=
  ⟨h.os, h.tape, h.output, h.size, fun b hb hn => h.block b hb (fun e => hn (hr b e.symm))⟩
theorem rdB_in {S : Nat → Prop} {w : World} {lo : Nat} {e : TypeId} {v : Value} {n : Nat} {xs : List Value} (h : w.ownsRow lo e 1 v n xs) (hs : ∀ g, v.ownBlock = some g → S g) : RdB S w v xs := by
  obtain ⟨a, cap, hv, hc, hx⟩ := reads_of_owns h
  refine ⟨a, cap, hv, hc, ?_⟩
  rcases hx with hx | ⟨b, off, rfl, hlt, hx⟩
  · exact .inl hx
  · exact .inr ⟨b, off, rfl, hs b (by rw [hv]; rfl), hx⟩
theorem owns_sl {w : World} {lo : Nat} {e : TypeId} {sz n : Nat} {v : Value} {xs : List Value} (hg : w.ownsRow lo e sz v n xs) : ∃ q cap, v = .slice q n cap := by
  rcases hg.2 with ⟨h1, h2⟩ | ⟨g, cap, cur, h1, _⟩
  · exact ⟨none, 0, by rw [h1, h2]⟩
  · exact ⟨_, _, h1⟩
def put3 (ys : List Value) (i : Nat) (a b c : Value) : List Value := ((ys.set (i * 5) a).set (i * 5 + 1) b).set (i * 5 + 2) c
theorem put3_other {ys : List Value} {i j : Nat} {a b c : Value} (h : j < i * 5 ∨ i * 5 + 2 < j) : (put3 ys i a b c)[j]? = ys[j]? := by
  unfold put3
  rw [List.getElem?_set_ne (by omega), List.getElem?_set_ne (by omega), List.getElem?_set_ne (by omega)]
theorem put3_same {ys : List Value} {i : Nat} {a b c : Value} (h : i * 5 + 2 < ys.length) : (put3 ys i a b c)[i * 5]? = some a ∧ (put3 ys i a b c)[i * 5 + 1]? = some b ∧ (put3 ys i a b c)[i * 5 + 2]? = some c := by
  simp [put3, List.getElem?_set, h, show i * 5 < ys.length by omega, show i * 5 + 1 < ys.length by omega]

end Go.Proofs.Ytablcicfagmhpaa

/-! Marks put into a pack that may be written, as the law puts them: contracts for the walks; conditions: its rows lie in memory and may be written, and there are at most 2 to the 32 marks. -/
namespace Go.Proofs.Ytablcicfagmhpaa
open Go.RowKit
set_option linter.unusedSimpArgs false
set_option linter.unusedVariables false

/-- A row that may be written stays one where another row is written over, be it the same. -/
theorem owns_over {w w' : World} {lo lo' sz n n' : Nat} {e : TypeId} {v v' : Value} {xs xs' ys : List Value} (h : w.ownsRow lo e sz v n xs) (h0 : w.ownsRow lo' e sz v' n' xs') (h1 : w'.ownsRow lo' e sz v' n' ys) (hg : w.grownBy w' v'.ownBlock) (hs : 0 < sz) : ∃ zs, w'.ownsRow lo e sz v n zs := by
  by_cases hne : v.ownBlock = none ∨ v.ownBlock ≠ v'.ownBlock
  · exact ⟨xs, h.kept hg hne⟩
  · have he : v.ownBlock = v'.ownBlock := by
      by_cases k : v.ownBlock = v'.ownBlock
      · exact k
      · exact absurd (.inr k) hne
    have hn : v.ownBlock ≠ none := fun k => hne (.inl k)
    rcases h.2 with ⟨rfl, _⟩ | ⟨g, cap, cur, rfl, hlo, hgb, hc, hm, hz, ht⟩
    · exact absurd rfl hn
    rcases h0.2 with ⟨rfl, _⟩ | ⟨g0, cap0, cur0, rfl, _, hgb0, hc0, hm0, hz0, _⟩
    · exact absurd he (by simp [Value.ownBlock])
    simp [Value.ownBlock] at he
    subst he
    rcases h1.2 with ⟨hx, _⟩ | ⟨g1, cap1, cur1, hx, _, hgb1, hc1, hm1, hz1, _⟩
    · simp at hx
    · simp only [Value.slice.injEq, Option.some.injEq, Addr.mk.injEq, and_true, true_and] at hx
      obtain ⟨rfl, rfl⟩ := hx
      rw [hgb] at hgb0
      have hcur : cur = cur0 := by simpa using hgb0
      subst hcur
      have hcap : cap = cap0 := by
        have : cap * sz = cap0 * sz := by omega
        exact Nat.eq_of_mul_eq_mul_right hs this
      subst hcap
      refine ⟨cur1.toList.take (n * sz), ?_, .inr ⟨g, cap, cur1, rfl, hlo, hgb1, hc, hm, hz1, rfl⟩⟩
      have hle : n * sz ≤ cap * sz := Nat.mul_le_mul_right _ hc
      rw [List.length_take, Array.length_toList, hz1]
      exact Nat.min_eq_left hle

set_option maxHeartbeats 2000000 in
set_option maxRecDepth 100000 in
theorem markNeedS_c (S : Nat → Prop) (v : Value) (n k : Nat) (xs : List Value) (w : World) (hv : w.ownsRow 0 67 2 v n xs) (hg : ∀ g, v.ownBlock = some g → S g) (h1 : 1 ≤ k) (h2 : k + n * 2 ≤ 4294967296) :
    Calls Try.prog 22 #[v, .int .i64 (k : Int)] w fun e w' => e = .returned (.int .i64 ((k + n * 2 : Nat) : Int)) ∧ Chg S w w' := by
  rcases id hv.2 with ⟨rfl, rfl⟩ | ⟨g, cap, cur, rfl, _, hgb, hcap, hmax, _⟩
  · clear hv hg
    go_enter Try.func22, Try.ntmps22
    go_wp2_with fail
    go_loopw [1, 5] (fun vk vi wr => vk = .int .i64 (k : Int) ∧ vi = .int .i64 0 ∧ wr = w) (fun _ _ _ => 0)
    case atStart => exact ⟨rfl, rfl, rfl⟩
    case round =>
      obtain ⟨rfl, rfl, rfl⟩ := hrel
      go_wp2_with fail
      go_ret
      exact ⟨by simp, Chg.refl _ _⟩
  · have hSg := hg g rfl
    unfold maxLen at hmax
    clear hgb hg
    go_enter Try.func22, Try.ntmps22
    go_wp2_with fail
    go_loopw [1, 5] (fun vk vi wr => ∃ (i m : Nat) (ys : List Value), i ≤ n ∧ vi = .int .i64 (i : Int) ∧ vk = .int .i64 (m : Int) ∧ Hid (m = k + i * 2) ∧ wr.ownsRow 0 67 2 (.slice (some ⟨g, 0, none⟩) n cap) n ys ∧ Chg S w wr) (fun _ vi _ => n - (intOf vi).toNat)
    case atStart => exact ⟨0, k, xs, Nat.zero_le _, rfl, rfl, by show _ = _; omega, hv, Chg.refl _ _⟩
    case round =>
      obtain ⟨i, m, ys, hi, rfl, rfl, hm, hown, hchg⟩ := hrel
      by_cases hlt : i < n
      · have hlen := hown.1
        have hm2 : m + 2 ≤ 4294967296 := by have := hm.out; omega
        have hm1 : 1 ≤ m := by have := hm.out; omega
        have hki : (i : Int) < (n : Int) := by omega
        have HO := hidden hown
        have HM1 := hidden (fun w1 => markText_c m w1 (by omega) (by omega))
        have HM2 : Hid (∀ w1, Calls Try.prog 20 #[.int .i64 ((m : Int) + 1)] w1 fun e w' => e = .returned (.string (markStr (m + 1))) ∧ Below w1.heap.size w1 w') := fun w1 => by
          have := markText_c (m + 1) w1 (by omega) (by omega)
          rw [show ((m + 1 : Nat) : Int) = (m : Int) + 1 by omega] at this
          exact this
        clear hown hv
        go_wp2_with fail
        go_at_call 20
        refine (HM1.out _).mono ?_
        rintro e w1 ⟨rfl, b1⟩
        have r1 := HO.out.kept (grown_of_below b1 none) (by simp [Value.ownBlock])
        have d0 : ∃ x, w1.cell? ⟨g, i * 2, none⟩ = some x := ⟨ys.getD (i * 2) undef, by rw [r1.cellAt _ (by omega)]; simp [List.getD_eq_getElem?_getD, show i * 2 < ys.length by omega]⟩
        obtain ⟨x0, d0⟩ := d0
        have f1 := r1.frozenAt
        have r2 := (r1.stored (i * 2) (.string (markStr m))).1
        have HR2 := hidden r2
        clear r1 r2
        go_wp2_with fail
        go_at_call 20
        refine (HM2.out _).mono ?_
        rintro e w2 ⟨rfl, b2⟩
        have r3 := HR2.out.kept (grown_of_below b2 none) (by simp [Value.ownBlock])
        have hl3 := r3.1
        have d1 : ∃ x, w2.cell? ⟨g, i * 2 + 1, none⟩ = some x := ⟨(ys.set (i * 2) (.string (markStr m))).getD (i * 2 + 1) undef, by rw [r3.cellAt _ (by omega)]; simp [List.getD_eq_getElem?_getD, show i * 2 + 1 < ys.length by omega]⟩
        obtain ⟨x1, d1⟩ := d1
        have f2 := r3.frozenAt
        have r4 := (r3.stored (i * 2 + 1) (.string (markStr (m + 1)))).1
        have HR4 := hidden r4
        have CH : Chg S wr (w2.setCell ⟨g, i * 2 + 1, none⟩ (.string (markStr (m + 1)))) := (Chg.of b1).trans ((Chg.set hSg).trans ((Chg.of b2).trans (Chg.set hSg)))
        have HCH := hidden CH
        clear r3 r4 CH
        go_wp2_with fail
        go_roundw
        case rel => exact ⟨i + 1, m + 2, _, by omega, by go_num, by simp; omega, (by show _ = _; have := hm.out; omega), HR4.out, hchg.trans HCH.out⟩
        case measure => simp [intOf]; omega
      · have he : i = n := by omega
        subst he
        have HMM := hidden hm.out
        clear hown hv
        go_wp2_with fail
        go_ret
        exact ⟨by rw [← HMM.out]; rfl, hchg⟩

/-- The rows of a row of commands: each may be written. -/
def CmdRows (w : World) (S : Nat → Prop) (ys : List Value) (ns : List Nat) : Prop := ∀ i (h : i < ns.length), ∃ u xs, ys[i * 2 + 1]? = some u ∧ w.ownsRow 0 9 1 u ns[i] xs ∧ ∀ g, u.ownBlock = some g → S g
theorem CmdRows.set0 {w : World} {S : Nat → Prop} {ys : List Value} {ns : List Nat} (h : CmdRows w S ys ns) (i : Nat) (v : Value) : CmdRows w S (ys.set (i * 2) v) ns := fun j hj => by
  obtain ⟨u, xs, h1, h2, h3⟩ := h j hj
  exact ⟨u, xs, by rw [List.getElem?_set_ne (by omega)]; exact h1, h2, h3⟩
theorem CmdRows.below {w w' : World} {S : Nat → Prop} {ys : List Value} {ns : List Nat} (h : CmdRows w S ys ns) (hb : Below w.heap.size w w') : CmdRows w' S ys ns := fun j hj => by
  obtain ⟨u, xs, h1, h2, h3⟩ := h j hj
  exact ⟨u, xs, h1, owns_kept (S := fun b => b < w.heap.size) (.of hb (fun b h => h)) (fun g h => (owns_in h2 g h).2) h2, h3⟩
theorem owns_apart {w : World} {lo lo' sz sz' n n' : Nat} {e e' : TypeId} {v v' : Value} {xs xs' : List Value} (h : w.ownsRow lo e sz v n xs) (h' : w.ownsRow lo' e' sz' v' n' xs') (hne : e ≠ e') : v.ownBlock = none ∨ v.ownBlock ≠ v'.ownBlock := by
  rcases h.2 with ⟨rfl, _⟩ | ⟨g, c, cur, rfl, _, hb, _⟩
  · exact .inl rfl
  · right
    intro k
    rcases h'.2 with ⟨rfl, _⟩ | ⟨g', c', cur', rfl, _, hb', _⟩
    · simp [Value.ownBlock] at k
    · simp [Value.ownBlock] at k
      subst k
      rw [hb] at hb'
      simp at hb'
      exact hne hb'.2
theorem cmdRows_of {S : Nat → Prop} {w : World} {ys : List Value} {xs : List CmdD} (h : Laid shCmdO S w ys xs xs.length) : CmdRows w S ys (xs.map fun c => c.acts.length) := fun i hi => by
  have hi' : i < xs.length := by simpa using hi
  obtain ⟨cs, h1, ⟨u, rfl, _, h2, _⟩, h3⟩ := h i hi' hi'
  exact ⟨u, _, h3 1 (by simp), by simpa using h2.1, h2.2⟩
theorem cmds_sum (xs : List CmdD) : (xs.map fun c => c.acts.length).length + (xs.map fun c => c.acts.length).sum ≤ wtRow wtCmd xs := by
  induction xs with
  | nil => simp [wtRow]
  | cons x xs ih =>
    have e : wtRow wtCmd (x :: xs) = (1 + wtCmd x) + wtRow wtCmd xs := by simp [wtRow]
    rw [e]
    simp only [List.map_cons, List.length_cons, List.sum_cons]
    have : x.acts.length ≤ wtCmd x := by unfold wtCmd bulkS; omega
    omega

end Go.Proofs.Ytablcicfagmhpaa
