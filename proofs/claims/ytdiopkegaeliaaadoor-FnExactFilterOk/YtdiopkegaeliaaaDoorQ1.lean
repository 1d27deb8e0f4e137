/-
  Contracts for the walks, several texts in one: each part says what it proves, and under which conditions.
-/
import Derived.Test.YtdiopkegaeliaaaDoorRows
import Derived.WalkKit
import Derived.ProofKit
import Derived.OpenShut
import Derived.Deep.DeepHandedRow
import Derived.Deep.DeepLaidRun
import Derived.Lib.LaidTab
import Derived.Stop.LaidErr
import Derived.WalkSpells
import Derived.WalkLawsBesides
import Derived.Lib.Strings
import Derived.Deep.LoopGhost
import Derived.Deep.QuietTactic
import Derived.BigQuiet
import Derived.WalkSmall
import Derived.Laws.BytesArg
import Derived.Deep.RegionWith
import Derived.Lib.IndexLaws
import Derived.Shelf.Small.Strs
import Derived.Shelf.Small.Wraps
import Derived.Shelf.LaysM
import Derived.Shelf.Strconv.Clone
import Derived.Shelf.Strings.Search1
import Derived.Shelf.Strings.Search2
import Derived.Shelf.Strings.Search3
import Derived.Shelf.Strings.Cut
import Derived.Shelf.Strings.Count
import Derived.Shelf.Strings.Shaped
import Derived.Shelf.Strings.Prefix
import Derived.Shelf.Strings.Split
import Derived.Shelf.Strings.SplitShaped
import Derived.Shelf.Unicode.DecodeSlow
import Derived.Shelf.Unicode.DecodeAny
import Derived.Test.YtdiopkegaeliaaaDoorProg
import Derived.Lib.Split
import Derived.Lib.IndexBytes

/-! What the library's bound is: a number; no condition. -/
namespace Go.Proofs.YtdiopkegaeliaaaDoor
open Go.ChangeShapes Go.WideShapes Go.RowKit
set_option maxRecDepth 100000
theorem bound_shaped {W : World} (h : W.ShapedOpen Tryd.prog) : ∃ m, W.cell? ⟨0, 0, none⟩ = some (.int .i64 m) := by
  obtain ⟨cs, hh, hs, hr⟩ := h.1 0 #[.int .i64 0] 3 (by decide +kernel) (by kernel_rfl)
  obtain ⟨ts, hts, _, hall⟩ := hr (by kernel_rfl)
  have hc : Tryd.prog.cellTypes Tryd.prog.depth 3 = some [3] := by kernel_rfl
  rw [hc] at hts
  cases hts
  have h1 : 0 < cs.size := by rw [hs]; decide
  obtain ⟨u, hu', hok⟩ := hall 0 cs[0] (by simp [h1])
  have : u = 3 := by simpa using hu'.symm
  subst this
  have hcell : W.cell? ⟨0, 0, none⟩ = some cs[0] := by simp [World.cell?, hh, h1]
  rw [hcell]
  unfold Cell.ok at hok
  rw [Tryd.underlying3] at hok
  cases hv : cs[0] <;> rw [hv] at hok <;> simp at hok
  obtain ⟨rfl, _⟩ := hok
  exact ⟨_, rfl⟩
end Go.Proofs.YtdiopkegaeliaaaDoor

/-! What the functions that look at one byte, and the two functions NameOk (the program's and the specification's), answer: contracts for the walks; no conditions but that a string is no longer than an int can count. -/
namespace Go.Proofs.YtdiopkegaeliaaaDoor
open Go.RowKit
set_option linter.unusedSimpArgs false
set_option linter.unusedVariables false

def smallB (c : Int) : Bool := decide (97 ≤ c) && decide (c ≤ 122)
def digitB (c : Int) : Bool := decide (48 ≤ c) && decide (c ≤ 57)
def plainB (c : Int) : Bool := decide (32 ≤ c) && decide (c ≤ 126)
def inB (x lo hi : Int) : Bool := decide (lo ≤ x) && decide (x ≤ hi)

def allUpto (p : Nat → Int → Bool) (s : ByteArray) : Nat → Bool
  | 0 => true
  | k + 1 => allUpto p s k && p k ((s.data[k]!).toNat : Int)

theorem byteBang (s : ByteArray) (j : Nat) (hj : j < s.size) : s.data[j]! = s[j] := by
  rw [getElem!_pos s.data j (by simpa using hj)]; rfl

theorem allUpto_cut (p : Nat → Int → Bool) (s : ByteArray) (k : Nat) (h : p k ((s.data[k]!).toNat : Int) = false) :
    ∀ n, k < n → allUpto p s n = false
  | 0, h0 => by omega
  | n + 1, hk => by
    unfold allUpto
    by_cases e : k = n
    · subst e; simp [h]
    · rw [allUpto_cut p s k h n (by omega)]; rfl

theorem step_true {p : Nat → Int → Bool} {s : ByteArray} {k : Nat} (hk : k < s.size) (hh : Hid (allUpto p s k = true)) (h : p k ((s[k]).toNat : Int) = true) : Hid (allUpto p s (k + 1) = true) := by
  show _ = _
  rw [allUpto, hh.out, byteBang s k hk, h]; rfl

theorem end_false {p : Nat → Int → Bool} {s : ByteArray} {k : Nat} (hk : k < s.size) (h : p k ((s[k]).toNat : Int) = false) : allUpto p s s.size = false :=
  allUpto_cut p s k (by rw [byteBang s k hk]; exact h) _ hk

theorem in_c (x lo hi : Int) (w : World) :
    Calls Tryd.prog 17 #[.int .i64 x, .int .i64 lo, .int .i64 hi] w fun e w' => e = .returned (.bool (inB x lo hi)) ∧ w = w' := by
  by_cases h : lo ≤ x
  · by_cases h2 : x ≤ hi
    · have hb : inB x lo hi = true := by simp [inB, h, h2]
      rw [hb]
      go_enter Tryd.func17, Tryd.ntmps17
      go_wp2
      go_ret
      exact ⟨by simp [h2], rfl⟩
    · have hb : inB x lo hi = false := by simp [inB, h2]
      rw [hb]
      go_enter Tryd.func17, Tryd.ntmps17
      go_wp2
      go_ret
      exact ⟨by simp [h2], rfl⟩
  · have hb : inB x lo hi = false := by simp [inB, h]
    rw [hb]
    go_enter Tryd.func17, Tryd.ntmps17
    go_wp2
    go_ret
    exact ⟨rfl, rfl⟩

theorem small_c (c : Int) (h0 : 0 ≤ c) (h1 : c ≤ 255) (w : World) :
    Calls Tryd.prog 25 #[.int .u8 c] w fun e w' => e = .returned (.bool (smallB c)) ∧ w = w' := by
  go_enter Tryd.func25, Tryd.ntmps25
  go_wp2_with (go_at_call 17; refine (in_c _ _ _ _).mono ?_; rintro e w' ⟨rfl, rfl⟩)
  go_ret
  exact ⟨rfl, rfl⟩

theorem digit_c (c : Int) (h0 : 0 ≤ c) (h1 : c ≤ 255) (w : World) :
    Calls Tryd.prog 26 #[.int .u8 c] w fun e w' => e = .returned (.bool (digitB c)) ∧ w = w' := by
  go_enter Tryd.func26, Tryd.ntmps26
  go_wp2_with (go_at_call 17; refine (in_c _ _ _ _).mono ?_; rintro e w' ⟨rfl, rfl⟩)
  go_ret
  exact ⟨rfl, rfl⟩

theorem isSmall_c (c : Int) (w : World) :
    Calls Tryd.prog 64 #[.int .u8 c] w fun e w' => e = .returned (.bool (smallB c)) ∧ w = w' := by
  by_cases h : 97 ≤ c
  · have hb : smallB c = decide (c ≤ 122) := by simp [smallB, h]
    rw [hb]
    go_enter Tryd.func64, Tryd.ntmps64
    go_wp2
    go_ret
    exact ⟨rfl, rfl⟩
  · have hb : smallB c = false := by simp [smallB, h]
    rw [hb]
    go_enter Tryd.func64, Tryd.ntmps64
    go_wp2
    go_ret
    exact ⟨rfl, rfl⟩

theorem isDigit_c (c : Int) (w : World) :
    Calls Tryd.prog 65 #[.int .u8 c] w fun e w' => e = .returned (.bool (digitB c)) ∧ w = w' := by
  by_cases h : 48 ≤ c
  · have hb : digitB c = decide (c ≤ 57) := by simp [digitB, h]
    rw [hb]
    go_enter Tryd.func65, Tryd.ntmps65
    go_wp2
    go_ret
    exact ⟨rfl, rfl⟩
  · have hb : digitB c = false := by simp [digitB, h]
    rw [hb]
    go_enter Tryd.func65, Tryd.ntmps65
    go_wp2
    go_ret
    exact ⟨rfl, rfl⟩

theorem byte0 (u : UInt8) : (0 : Int) ≤ (u.toNat : Int) := by omega
theorem wrap_byte (u : UInt8) : wrap64 (u.toNat : Int) = (u.toNat : Int) := by
  have := u.toNat_lt
  rw [wrap64]; omega
theorem byte255 (u : UInt8) : (u.toNat : Int) ≤ 255 := by have := u.toNat_lt; omega

def okName (k : Nat) (c : Int) : Bool := smallB c || (k != 0 && (digitB c || c == 45))
def nameB (s : ByteArray) : Bool := allUpto okName s s.size && inB s.size 1 10

theorem size_ne {s : ByteArray} (h : ¬ s.size = 0) : ((s.size : Int) == 0) = false := by
  rw [beq_eq_false_iff_ne]; omega

theorem nameB_out {s : ByteArray} (h : s.size = 0 ∨ 10 < s.size) : nameB s = false := by
  have : inB s.size 1 10 = false := by
    simp only [inB, Bool.and_eq_false_iff, decide_eq_false_iff_not]
    omega
  rw [nameB, this, Bool.and_false]

theorem nameB_first {s : ByteArray} (h0 : 0 < s.size) (h : smallB ((s[0]).toNat : Int) = false) : nameB s = false := by
  rw [nameB, end_false h0 (by simp [okName, h])]; rfl

theorem nameB_in {s : ByteArray} (h0 : 0 < s.size) (h1 : s.size ≤ 10) (h : allUpto okName s s.size = true) : nameB s = true := by
  have : inB s.size 1 10 = true := by
    simp only [inB, Bool.and_eq_true, decide_eq_true_eq]
    omega
  rw [nameB, this, h]; rfl

def okPlain (_ : Nat) (c : Int) : Bool := plainB c
def plainAll (s : ByteArray) (most : Int) : Bool := allUpto okPlain s s.size && decide ((s.size : Int) ≤ most)

end Go.Proofs.YtdiopkegaeliaaaDoor

/-! What the helpers over lists of bytes answer (a copy, whether two are alike, marking, whether the marks are held): contracts for the walks, over any world; conditions: the lists lie in memory as told, and are no longer than 2 to the 48. -/
namespace Go.Proofs.YtdiopkegaeliaaaDoor
open Go.RowKit
set_option linter.unusedSimpArgs false
set_option linter.unusedVariables false

/-- The slice value v reads as the list xs in the world w. -/
def Reads (w : World) (v : Value) (xs : List Value) : Prop :=
  ∃ a cap, v = .slice a xs.length cap ∧ xs.length ≤ cap ∧ (xs = [] ∨ ∃ b off, a = some ⟨b, off, none⟩ ∧ b < w.heap.size ∧ ∀ i (h : i < xs.length), w.cell? ⟨b, off + i, none⟩ = some xs[i])

theorem Reads.below {w w' : World} {v : Value} {xs : List Value} (h : Reads w v xs) (hb : Below w.heap.size w w') : Reads w' v xs := by
  obtain ⟨a, cap, hv, hcp, h | ⟨b, off, ha, hlt, hc⟩⟩ := h
  · exact ⟨a, cap, hv, hcp, .inl h⟩
  · exact ⟨a, cap, hv, hcp, .inr ⟨b, off, ha, Nat.lt_of_lt_of_le hlt hb.size, fun i hi => by rw [hb.cell (p := ⟨b, off + i, none⟩) hlt]; exact hc i hi⟩⟩

theorem below_of_grown {w w' : World} (h : w.grownBy w' none) : Below w.heap.size w w' := ⟨h.os, h.tape, h.output, h.size, fun k hk => h.block k hk (by simp)⟩
theorem grown_of_below {w w' : World} (h : Below w.heap.size w w') (row : Option Nat) : w.grownBy w' row := ⟨h.os, h.tape, h.output, h.size, fun k hk _ => h.block k hk⟩

theorem reads_of_owns {w : World} {base : Nat} {e : TypeId} {v : Value} {n : Nat} {xs : List Value} (h : w.ownsRow base e 1 v n xs) : Reads w v xs := by
  obtain ⟨hl, h⟩ := h
  rw [Nat.mul_one] at hl
  rcases h with ⟨rfl, hn⟩ | ⟨g, cap, cur, rfl, hb, hg, hn, hcap, hsz, htake⟩
  · have : xs = [] := List.eq_nil_of_length_eq_zero (by omega)
    subst this
    exact ⟨none, 0, rfl, Nat.le_refl _, .inl rfl⟩
  · refine ⟨some ⟨g, 0, none⟩, cap, by rw [hl], by omega, .inr ⟨g, 0, rfl, (Array.getElem?_eq_some_iff.1 hg).1, fun i hi => ?_⟩⟩
    rw [Nat.zero_add]
    have := World.ownsRow.cellAt (w := w) (base := base) (e := e) (size := 1) (g := g) (n := n) (cap := cap) (xs := xs) ⟨by omega, .inr ⟨g, cap, cur, rfl, hb, hg, hn, hcap, hsz, htake⟩⟩ i (by omega)
    rw [this]
    simp [hi]

theorem owns_of_below {w w' : World} {base : Nat} {e : TypeId} {v : Value} {n : Nat} {xs : List Value} (h : w.ownsRow base e 1 v n xs) (hb : Below w.heap.size w w') : w'.ownsRow base e 1 v n xs :=
  h.kept (grown_of_below hb none) (by cases hv : v.ownBlock <;> simp)

theorem owns_empty {w : World} {base : Nat} {e : TypeId} {v : Value} {xs : List Value} (h : w.ownsRow base e 1 v 0 xs) : w.ownsRow base e 1 v 0 [] := by
  have : xs = [] := List.eq_nil_of_length_eq_zero (by simpa using h.1)
  subst this
  exact h

theorem info5 : (Tryd.prog.info? 5).map (fun i => (i.zero, i.size, i.bytes)) = some (some (.int .u8 0), 1, 1) := by kernel_rfl

theorem set_step {ys xs : List Value} {n k : Nat} {u : Value} (hk : k < n) (h : ys.length = n ∧ ∀ j, j < k → ys[j]? = xs[j]?) (hu : xs[k]? = some u) :
    Hid ((ys.set k u).length = n ∧ ∀ j, j < k + 1 → (ys.set k u)[j]? = xs[j]?) := by
  refine ⟨by simp [h.1], fun j hj => ?_⟩
  rw [List.getElem?_set]
  by_cases e : k = j
  · subst e; simp [h.1, hk, hu]
  · rw [if_neg e]; exact h.2 j (by omega)

theorem list_done {ys xs : List Value} {n : Nat} (h1 : ys.length = n) (h2 : xs.length = n) (h : ∀ j, j < n → ys[j]? = xs[j]?) : ys = xs := by
  apply List.ext_getElem?
  intro j
  by_cases hj : j < n
  · exact h j hj
  · rw [List.getElem?_eq_none (by omega), List.getElem?_eq_none (by omega)]

def bytesV (zs : List Int) : List Value := zs.map (Value.int .u8)
@[simp] theorem length_bytesV (zs : List Int) : (bytesV zs).length = zs.length := by simp [bytesV]

/-- A byte list's cells, as the walk asks for them. -/
theorem reads_bytes {w : World} {v : Value} {zs : List Int} (h : Reads w v (bytesV zs)) :
    ∃ a cap, v = .slice a zs.length cap ∧ zs.length ≤ cap ∧ (zs = [] ∨ ∃ b off, a = some ⟨b, off, none⟩ ∧ b < w.heap.size ∧ ∀ k, k < zs.length → w.cell? ⟨b, off + k, none⟩ = some (.int .u8 (zs.getD k 0))) := by
  obtain ⟨a, cap, hv, hcp, hc⟩ := h
  rw [length_bytesV] at hv hcp
  refine ⟨a, cap, hv, hcp, ?_⟩
  rcases hc with hc | ⟨b, off, rfl, hlt, hc⟩
  · exact .inl (by simpa [bytesV] using hc)
  · refine .inr ⟨b, off, rfl, hlt, fun k hk => ?_⟩
    rw [hc k (by simpa using hk)]
    simp [bytesV, List.getD_eq_getElem?_getD, hk]

theorem below_drewN' {B : Nat} {a w : World} (h : Below B a w) (n : Nat) : Below B a (w.drewN n) := h.trans ⟨rfl, rfl, rfl, Nat.le_refl _, fun _ _ => rfl⟩

theorem eq_step {zs ys : List Int} {k : Nat} (h : ∀ j, j < k → zs.getD j 0 = ys.getD j 0) (hk : zs.getD k 0 = ys.getD k 0) : Hid (∀ j, j < k + 1 → zs.getD j 0 = ys.getD j 0) := fun j hj => by
  by_cases e : j = k
  · subst e; exact hk
  · exact h j (by omega)

theorem ints_done {zs ys : List Int} (hl : zs.length = ys.length) (h : ∀ j, j < zs.length → zs.getD j 0 = ys.getD j 0) : zs = ys := by
  apply List.ext_getElem hl
  intro j h1 h2
  have := h j h1
  simpa [List.getD_eq_getElem?_getD, h1, h2] using this

/-- The marks k, k + 1 .. as bytes. -/
def marksB (k : Int) (n : Nat) : List Int := (List.range n).map fun (j : Nat) => (k + (j : Int)) % 256
@[simp] theorem length_marksB (k : Int) (n : Nat) : (marksB k n).length = n := by simp [marksB]
theorem marksB_at (k : Int) (n j : Nat) (h : j < n) : (bytesV (marksB k n))[j]? = some (.int .u8 ((k + (j : Int)) % 256)) := by
  simp [bytesV, marksB, h]

theorem grown_trans {a b c : World} {r : Option Nat} (h : a.grownBy b r) (k : b.grownBy c r) : a.grownBy c r :=
  ⟨k.os.trans h.os, k.tape.trans h.tape, k.output.trans h.output, Nat.le_trans h.size k.size, fun i hi hne => (k.block i (Nat.lt_of_lt_of_le hi h.size) hne).trans (h.block i hi hne)⟩

end Go.Proofs.YtdiopkegaeliaaaDoor

/-! What the helper that tells a number as a mark answers: one text for each number; it makes memory of its own and writes into nothing else; condition: the number is at least 1 and at most 2 to the 40. -/
namespace Go.Proofs.YtdiopkegaeliaaaDoor
open Go.RowKit
set_option linter.unusedSimpArgs false
set_option linter.unusedVariables false

def markLoop : Nat → Nat → ByteArray → ByteArray
  | 0, _, out => out
  | f + 1, k, out => if k = 0 then out else markLoop f (k / 10) (strOfNums [48 + (k : Int) % 10] ++ out)
def markStr (k : Nat) : ByteArray := ⟨#[109]⟩ ++ markLoop k k ⟨#[]⟩

theorem conv_one {w : World} (x : Int) : (convert 85 9 (.slice (some ⟨w.heap.size, 0, none⟩) 1 1)).run Tryd.prog (w.alloc (.cells #[.int .u8 x] 5)) = .ok (.string (strOfNums [x])) (w.alloc (.cells #[.int .u8 x] 5)) := by
  refine run_convert_bytes_arg _ 85 5 Tryd.underlying85 Tryd.underlying5 _ 0 1 1 [x] rfl (fun i hi => ?_) 9 Tryd.underlying9
  have : i = 0 := by omega
  subst this
  simp

end Go.Proofs.YtdiopkegaeliaaaDoor

/-! What the helpers over lists of texts answer (a copy, whether two are alike, marking, whether the marks are held, how much there is): contracts for the walks, over any world; conditions: the lists lie in memory as told, and are no longer than 2 to the 40. -/
namespace Go.Proofs.YtdiopkegaeliaaaDoor
open Go.RowKit
set_option linter.unusedSimpArgs false
set_option linter.unusedVariables false

def strsV (ss : List ByteArray) : List Value := ss.map Value.string
@[simp] theorem length_strsV (ss : List ByteArray) : (strsV ss).length = ss.length := by simp [strsV]
theorem strsV_at (ss : List ByteArray) (j : Nat) (h : j < ss.length) : (strsV ss)[j]? = some (.string ss[j]) := by simp [strsV, h]
theorem infoS : (Tryd.prog.info? 9).map (fun i => (i.zero, i.size, i.bytes)) = some (some (.string ⟨#[]⟩), 1, 16) := by kernel_rfl

theorem reads_strs {w : World} {v : Value} {ss : List ByteArray} (h : Reads w v (strsV ss)) :
    ∃ a cap, v = .slice a ss.length cap ∧ ss.length ≤ cap ∧ (ss = [] ∨ ∃ b off, a = some ⟨b, off, none⟩ ∧ b < w.heap.size ∧ ∀ k (h : k < ss.length), w.cell? ⟨b, off + k, none⟩ = some (.string ss[k])) := by
  obtain ⟨a, cap, hv, hcp, hc⟩ := h
  rw [length_strsV] at hv hcp
  refine ⟨a, cap, hv, hcp, ?_⟩
  rcases hc with hc | ⟨b, off, rfl, hlt, hc⟩
  · exact .inl (by simpa [strsV] using hc)
  · refine .inr ⟨b, off, rfl, hlt, fun k hk => ?_⟩
    rw [hc k (by simpa using hk)]
    simp [strsV]

theorem bytes_eq_of_toList {a b : ByteArray} (h : a.toList = b.toList) : a = b := by
  rw [ByteArray.toList_eq, ByteArray.toList_eq] at h
  exact ByteArray.ext (Array.toList_inj.1 h)

theorem strs_done {ss ts : List ByteArray} (hl : ss.length = ts.length) (h : ∀ j (h1 : j < ss.length) (h2 : j < ts.length), ss[j] = ts[j]) : ss = ts := List.ext_getElem hl h

/-- The marks k, k + 1 .. as texts. -/
def marksS (k n : Nat) : List ByteArray := (List.range n).map fun j => markStr (k + j)
@[simp] theorem length_marksS (k n : Nat) : (marksS k n).length = n := by simp [marksS]
theorem marksS_at (k n j : Nat) (h : j < n) : (strsV (marksS k n))[j]? = some (.string (markStr (k + j))) := by
  simp [strsV, marksS, h]

/-- How many texts and letters there are. -/
def bulkS (ss : List ByteArray) : Nat := ss.length + (ss.map ByteArray.size).sum

theorem sum_take_succ (ss : List ByteArray) (k : Nat) (h : k < ss.length) : ((ss.take (k + 1)).map ByteArray.size).sum = ((ss.take k).map ByteArray.size).sum + ss[k].size := by
  rw [List.take_succ_eq_append_getElem h, List.map_append, List.sum_append]
  simp
theorem sum_take_le (ss : List ByteArray) (k : Nat) : ((ss.take k).map ByteArray.size).sum ≤ (ss.map ByteArray.size).sum := by
  have h : (ss.map ByteArray.size).sum = ((ss.take k).map ByteArray.size).sum + ((ss.drop k).map ByteArray.size).sum := by
    rw [← List.sum_append, ← List.map_append, List.take_append_drop]
  omega

/-- What the count answers: what is left, or -1. -/
def leftS (ss : List ByteArray) (left : Int) : Int := if (bulkS ss : Int) ≤ left then left - (bulkS ss : Int) else -1

end Go.Proofs.YtdiopkegaeliaaaDoor

/-! What a text falls into between the bytes c, and what the specification's Split answers: just that list; conditions: the text has at most 2 to the 20 bytes and a few more. -/
namespace Go.Proofs.YtdiopkegaeliaaaDoor
open Go.RowKit
set_option linter.unusedSimpArgs false
set_option linter.unusedVariables false

/-- The pieces behind place i, the piece at hand having begun at place b. -/
def splitGo (s : ByteArray) (c : Int) : Nat → Nat → Nat → List ByteArray
  | 0, _, b => [s.extract b s.size]
  | f + 1, i, b => if ((s.data[i]!).toNat : Int) = c then s.extract b i :: splitGo s c f (i + 1) (i + 1) else splitGo s c f (i + 1) b
def splitS (s : ByteArray) (c : Int) : List ByteArray := splitGo s c s.size 0 0

theorem splitGo_hit (s : ByteArray) (c : Int) (i b : Nat) (hi : i < s.size) (h : ((s.data[i]!).toNat : Int) = c) : splitGo s c (s.size - i) i b = s.extract b i :: splitGo s c (s.size - (i + 1)) (i + 1) (i + 1) := by
  obtain ⟨f, hf⟩ : ∃ f, s.size - i = f + 1 := ⟨s.size - i - 1, by omega⟩
  rw [hf, splitGo, if_pos h, show s.size - (i + 1) = f by omega]
theorem splitGo_miss (s : ByteArray) (c : Int) (i b : Nat) (hi : i < s.size) (h : ¬ ((s.data[i]!).toNat : Int) = c) : splitGo s c (s.size - i) i b = splitGo s c (s.size - (i + 1)) (i + 1) b := by
  obtain ⟨f, hf⟩ : ∃ f, s.size - i = f + 1 := ⟨s.size - i - 1, by omega⟩
  rw [hf, splitGo, if_neg h, show s.size - (i + 1) = f by omega]
theorem splitGo_end (s : ByteArray) (c : Int) (b : Nat) : splitGo s c (s.size - s.size) s.size b = [s.extract b s.size] := by
  rw [Nat.sub_self, splitGo]

theorem strs_append (xs ys : List ByteArray) : strsV xs ++ strsV ys = strsV (xs ++ ys) := by simp [strsV]

set_option maxHeartbeats 2000000 in
set_option maxRecDepth 100000 in
theorem specSplit_c (s : ByteArray) (c : Int) (w : World) (hs : s.size ≤ 1048576) :
    Calls Tryd.prog 6 #[.string s, .int .u8 c] w fun e w' => ∃ v, e = .returned v ∧ w'.ownsRow w.heap.size 9 1 v (splitS s c).length (strsV (splitS s c)) ∧ Below w.heap.size w w' := by
  obtain ⟨i0, hi, hz0, hz1, hz2⟩ := info_parts infoS
  have ho : (w.alloc (.cells #[] 9)).ownsRow w.heap.size 9 1 (.slice (some ⟨w.heap.size, 0, none⟩) 0 0) 0 [] := World.ownsRow_lit w #[] 0 (Nat.le_refl _) (by unfold maxLen; omega) rfl
  go_enter Tryd.func6, Tryd.ntmps6
  go_wp2
  go_loopw [5, 6, 7] (fun vo vb vi wr => ∃ (i b : Nat) (xs : List ByteArray), vi = .int .i64 (i : Int) ∧ vb = .int .i64 (b : Int) ∧ i ≤ s.size + 1 ∧ b ≤ i ∧ xs.length ≤ i ∧ wr.ownsRow w.heap.size 9 1 vo xs.length (strsV xs) ∧ Hid ((i ≤ s.size ∧ xs ++ splitGo s c (s.size - i) i b = splitS s c) ∨ (i = s.size + 1 ∧ xs = splitS s c)) ∧ Below w.heap.size w wr) (fun _ _ vi _ => s.size + 1 - (intOf vi).toNat)
  case atStart => exact ⟨0, 0, [], rfl, rfl, by omega, by omega, by simp, ho, .inl ⟨by omega, rfl⟩, (Below.refl _ _).alloc (Nat.le_refl _) _⟩
  case round =>
    obtain ⟨i, b, xs, rfl, rfl, hi1, hbi, hxl, hown, hh, hbr⟩ := hrel
    clear ho
    by_cases hle : i ≤ s.size
    · have hh1 : xs ++ splitGo s c (s.size - i) i b = splitS s c := by
        rcases hh.out with h | h
        · exact h.2
        · omega
      have HH : Hid (xs ++ splitGo s c (s.size - i) i b = splitS s c) := hh1
      have hlei : (i : Int) ≤ (s.size : Int) := by omega
      clear hh hh1
      by_cases heq : i = s.size
      · subst heq
        have heq' : ((s.size : Int) == (s.size : Int)) = true := by simp
        go_wp2_with (at_builtin; refine wpList_append_own _ rfl _ _ 23 rfl w.heap.size 9 i0 (.string ⟨#[]⟩) 1 16 Tryd.underlying23 hi hz0 hz1 hz2 rfl (by decide) _ xs.length (strsV xs) rfl (hown.alloc _) ⟨wr.heap.size, 0, none⟩ 1 1 (strsV [s.extract b s.size]) rfl rfl (cell_one_new _ _ _) (fun u hu => by simp [strsV] at hu; subst hu; rfl) (by unfold maxLen; omega) (by omega) (by have := hbr.size; simp; omega) ?_)
        intro v2 w2 o2 gr2 _
        rw [strs_append] at o2
        have hb2 : Below w.heap.size w w2 := Below.grown (hbr.alloc hbr.size _) gr2 (by have := hbr.size; simp; omega) (fun j hj => (hown.lt _ hj).1)
        have HT : Hid (xs ++ [s.extract b s.size] = splitS s c) := by have := HH.out; rw [splitGo_end] at this; exact this
        have hl2 : (xs ++ [s.extract b s.size]).length = xs.length + 1 := by simp
        rw [← hl2] at o2
        clear gr2 hown hbr hl2
        go_wp2
        go_roundw
        case rel => exact ⟨s.size + 1, s.size + 1, _, by go_num, by go_num, by omega, by omega, (by simp; omega), o2, .inr ⟨rfl, HT.out⟩, hb2⟩
        case measure => simp [intOf]
      · have hlt : i < s.size := by omega
        have heq' : ((i : Int) == (s.size : Int)) = false := by rw [beq_eq_false_iff_ne]; omega
        have hbang := byteBang s i hlt
        cases hc : (((s[i]).toNat : Int) == c) with
        | true =>
          have HT : Hid ((xs ++ [s.extract b i]) ++ splitGo s c (s.size - (i + 1)) (i + 1) (i + 1) = splitS s c) := by
            have := HH.out
            rw [splitGo_hit s c i b hlt (by rw [hbang]; simpa using hc)] at this
            show _ = _
            rw [List.append_assoc]; exact this
          clear hbang
          go_wp2_with (at_builtin; refine wpList_append_own _ rfl _ _ 23 rfl w.heap.size 9 i0 (.string ⟨#[]⟩) 1 16 Tryd.underlying23 hi hz0 hz1 hz2 rfl (by decide) _ xs.length (strsV xs) rfl (hown.alloc _) ⟨wr.heap.size, 0, none⟩ 1 1 (strsV [s.extract b i]) rfl rfl (cell_one_new _ _ _) (fun u hu => by simp [strsV] at hu; subst hu; rfl) (by unfold maxLen; omega) (by omega) (by have := hbr.size; simp; omega) ?_)
          intro v2 w2 o2 gr2 _
          rw [strs_append] at o2
          have hb2 : Below w.heap.size w w2 := Below.grown (hbr.alloc hbr.size _) gr2 (by have := hbr.size; simp; omega) (fun j hj => (hown.lt _ hj).1)
          have hl2 : (xs ++ [s.extract b i]).length = xs.length + 1 := by simp
          rw [← hl2] at o2
          clear gr2 hown hbr hl2
          go_wp2
          go_roundw
          case rel => exact ⟨i + 1, i + 1, _, by go_num, by go_num, by omega, by omega, (by simp; omega), o2, .inl ⟨by omega, HT.out⟩, hb2⟩
          case measure => simp [intOf]; omega
        | false =>
          have HT : Hid (xs ++ splitGo s c (s.size - (i + 1)) (i + 1) b = splitS s c) := by
            have := HH.out
            rw [splitGo_miss s c i b hlt (by rw [hbang]; simpa using hc)] at this
            exact this
          clear hbang
          go_wp2
          go_roundw
          case rel => exact ⟨i + 1, b, xs, by go_num, rfl, by omega, by omega, by omega, hown, .inl ⟨by omega, HT.out⟩, hbr⟩
          case measure => simp [intOf]; omega
    · have hlei : ¬ (i : Int) ≤ (s.size : Int) := by omega
      have e : xs = splitS s c := by
        rcases hh.out with h | h
        · omega
        · exact h.2
      go_wp2
      go_ret
      rw [← e]
      exact ⟨_, rfl, hown, hbr⟩
end Go.Proofs.YtdiopkegaeliaaaDoor

/-! Contracts of two functions of the library (the first place of a byte in a text; a copy of a text), taken over from the library of contracts at the numbers of this program; conditions as each says. -/
namespace Go.Proofs
open Go.Shelf
def Tryd.lays137_ren : Go.Shelf.Ren := ⟨fun | 137 => 61 | 217 => 55 | 266 => 67 | n => n, fun | 9 => 9 | 5 => 5 | 3 => 3 | n => n, fun | n => n⟩
theorem Tryd.lays137 : Go.Proofs.Lays.n137 Tryd.prog Tryd.lays137_ren := {
  mixed := by kernel_rfl
  f137 := Tryd.func61.trans (congrArg some (by kernel_rfl))
  f217 := Tryd.func55.trans (congrArg some (by kernel_rfl))
  f266 := Tryd.func67.trans (congrArg some (by kernel_rfl))
  t3 := Tryd.underlying3
  a3 := Tryd.isAgg3
  z3 := Tryd.sizeOf3
  v3 := Tryd.zeroValue3
  t5 := Tryd.underlying5
  a5 := Tryd.isAgg5
  z5 := Tryd.sizeOf5
  v5 := Tryd.zeroValue5
  t9 := Tryd.underlying9
  a9 := Tryd.isAgg9
  z9 := Tryd.sizeOf9
  v9 := Tryd.zeroValue9 }
open Go.RowKit in
theorem Tryd.strings_IndexByte (s : ByteArray) (c : Int) (w : World) :
    Calls Tryd.prog 61 #[.string s, .int .u8 c] w fun e w' => e = .returned (.int .i64 (Lib.indexByte s.data.toList c.toNat.toUInt8)) ∧ w' = w := Any.strings_IndexByte Tryd.lays137 s c w
def Tryd.laysM316_ren : Go.Shelf.Ren := ⟨fun | 316 => 69 | n => n, fun | 9 => 9 | 3 => 3 | 4 => 4 | 37 => 85 | 0 => 0 | 127 => 86 | 5 => 5 | n => n, fun | n => n⟩
theorem Tryd.laysM316 : Go.Proofs.LaysM.n316 Tryd.prog Tryd.laysM316_ren := {
  mixed := by kernel_rfl
  f316 := Tryd.func69.trans (congrArg some (by kernel_rfl))
  t0 := Tryd.underlying0
  a0 := Tryd.isAgg0
  z0 := Tryd.sizeOf0
  v0 := Tryd.zeroValue0
  t3 := Tryd.underlying3
  a3 := Tryd.isAgg3
  z3 := Tryd.sizeOf3
  v3 := Tryd.zeroValue3
  t4 := Tryd.underlying4
  a4 := Tryd.isAgg4
  z4 := Tryd.sizeOf4
  v4 := Tryd.zeroValue4
  t9 := Tryd.underlying9
  a9 := Tryd.isAgg9
  z9 := Tryd.sizeOf9
  v9 := Tryd.zeroValue9
  t37 := Tryd.underlying85
  a37 := Tryd.isAgg85
  z37 := Tryd.sizeOf85
  v37 := Tryd.zeroValue85
  t127 := Tryd.underlying86
  a127 := Tryd.isAgg86
  z127 := Tryd.sizeOf86
  v127 := Tryd.zeroValue86
  t5 := Tryd.underlying5
  a5 := Tryd.isAgg5
  z5 := Tryd.sizeOf5
  v5 := Tryd.zeroValue5
  i0 := by kernel_rfl
  i3 := by kernel_rfl
  i4 := by kernel_rfl
  i5 := by kernel_rfl
  i9 := by kernel_rfl
  i37 := by kernel_rfl
  i127 := by kernel_rfl }
open Go.RowKit in
theorem Tryd.stringslite_Clone (s : ByteArray) (w : World) (hlim : s.size ≤ 281474976710656) :
    Calls Tryd.prog 69 #[.string s] w fun e w' => e = .returned (.string s) ∧ Below w.heap.size w w' := Any.stringslite_Clone Tryd.laysM316 s w hlim
def Tryd.lays217_ren : Go.Shelf.Ren := ⟨fun | 217 => 55 | 266 => 67 | n => n, fun | 9 => 9 | 5 => 5 | 3 => 3 | n => n, fun | n => n⟩
theorem Tryd.lays217 : Go.Proofs.Lays.n217 Tryd.prog Tryd.lays217_ren := {
  mixed := by kernel_rfl
  f217 := Tryd.func55.trans (congrArg some (by kernel_rfl))
  f266 := Tryd.func67.trans (congrArg some (by kernel_rfl))
  t3 := Tryd.underlying3
  a3 := Tryd.isAgg3
  z3 := Tryd.sizeOf3
  v3 := Tryd.zeroValue3
  t5 := Tryd.underlying5
  a5 := Tryd.isAgg5
  z5 := Tryd.sizeOf5
  v5 := Tryd.zeroValue5
  t9 := Tryd.underlying9
  a9 := Tryd.isAgg9
  z9 := Tryd.sizeOf9
  v9 := Tryd.zeroValue9 }
open Go.RowKit Go.Lib in
theorem Tryd.stringslite_IndexByte (s : ByteArray) (c : Int) (w : World) :
    Calls Tryd.prog 55 #[.string s, .int .u8 c] w fun e w' => e = .returned (.int .i64 (Lib.indexByte s.data.toList c.toNat.toUInt8)) ∧ w' = w := Any.stringslite_IndexByte Tryd.lays217 s c w
end Go.Proofs

/-! What the program's Split answers: the same list as the specification's, in memory of its own; condition: the text has at most 2 to the 20 bytes. -/
namespace Go.Proofs.YtdiopkegaeliaaaDoor
open Go.RowKit
set_option linter.unusedSimpArgs false
set_option linter.unusedVariables false

theorem split_none (s : ByteArray) (c : Int) (b : Nat) : ∀ (n i : Nat), n = s.size - i → i ≤ s.size → (∀ j, i ≤ j → j < s.size → ¬ ((s.data[j]!).toNat : Int) = c) → splitGo s c (s.size - i) i b = [s.extract b s.size]
  | 0, i, hn, hi, h => by
    have : i = s.size := by omega
    subst this
    exact splitGo_end s c b
  | n + 1, i, hn, hi, h => by
    rw [splitGo_miss s c i b (by omega) (h i (Nat.le_refl _) (by omega))]
    exact split_none s c b n (i + 1) (by omega) (by omega) (fun j h1 h2 => h j (by omega) h2)
theorem split_some (s : ByteArray) (c : Int) (b j : Nat) (hj : j < s.size) (hc : ((s.data[j]!).toNat : Int) = c) : ∀ (n i : Nat), n = j - i → i ≤ j → (∀ k, i ≤ k → k < j → ¬ ((s.data[k]!).toNat : Int) = c) → splitGo s c (s.size - i) i b = s.extract b j :: splitGo s c (s.size - (j + 1)) (j + 1) (j + 1)
  | 0, i, hn, hi, h => by
    have : i = j := by omega
    subst this
    exact splitGo_hit s c i b hj hc
  | n + 1, i, hn, hi, h => by
    rw [splitGo_miss s c i b (by omega) (h i (Nat.le_refl _) (by omega))]
    exact split_some s c b j hj hc n (i + 1) (by omega) (by omega) (fun k h1 h2 => h k (by omega) h2)

def strSize : Value → Nat | .string s => s.size | _ => 0

theorem ext_list {a b : ByteArray} (h : a.data.toList = b.data.toList) : a = b := ByteArray.ext (Array.toList_inj.1 h)
theorem extract_list (s : ByteArray) (a b : Nat) : (s.extract a b).data.toList = (s.data.toList.drop a).take (b - a) := Lib.extract_data s a b
theorem len_list (s : ByteArray) : s.data.toList.length = s.size := by rw [Array.length_toList]; rfl
theorem size_tail (s : ByteArray) (b : Nat) (h : b ≤ s.size) : (s.extract b s.size).size = s.size - b := by
  rw [← len_list, extract_list, List.length_take, List.length_drop, len_list]; omega
theorem tail_list (s : ByteArray) (b : Nat) : (s.extract b s.size).data.toList = s.data.toList.drop b := by
  rw [extract_list, List.take_of_length_le (by rw [List.length_drop, len_list]; omega)]
theorem tail_head (s : ByteArray) (b k : Nat) : (s.extract b s.size).extract 0 k = s.extract b (b + k) := by
  apply ext_list
  rw [extract_list, tail_list, extract_list]
  simp
theorem tail_tail (s : ByteArray) (b k : Nat) : (s.extract b s.size).extract k (s.extract b s.size).size = s.extract (b + k) s.size := by
  apply ext_list
  rw [tail_list, tail_list, tail_list, List.drop_drop]

theorem bang_list (s : ByteArray) (j : Nat) (h : j < s.size) : s.data.toList[j]? = some (s.data[j]!) := by
  rw [byteBang s j h, List.getElem?_eq_getElem (by rw [len_list]; exact h)]
  rfl

/-- What the search for the byte says of the text behind place b. -/
theorem search (s : ByteArray) (c : Int) (b : Nat) (hb : b ≤ s.size) (h0 : 0 ≤ c) (h1 : c ≤ 255) :
    (Lib.indexByte (s.extract b s.size).data.toList c.toNat.toUInt8 = -1 ∧ splitGo s c (s.size - b) b b = [s.extract b s.size]) ∨
    ∃ k : Nat, Lib.indexByte (s.extract b s.size).data.toList c.toNat.toUInt8 = (k : Int) ∧ b + k < s.size ∧ splitGo s c (s.size - b) b b = s.extract b (b + k) :: splitGo s c (s.size - (b + k + 1)) (b + k + 1) (b + k + 1) := by
  have hcn : ∀ u : UInt8, (u.toNat : Int) = c ↔ u = c.toNat.toUInt8 := fun u => by
    have hu := u.toNat_lt
    constructor
    · intro e
      have : u.toNat = c.toNat := by omega
      rw [← this]; simp
    · intro e
      subst e
      simp [UInt8.toNat_ofNat']
      omega
  rw [tail_list]
  have hge := Lib.indexByte_ge (s.data.toList.drop b) c.toNat.toUInt8
  by_cases hm : Lib.indexByte (s.data.toList.drop b) c.toNat.toUInt8 = -1
  · refine .inl ⟨hm, split_none s c b _ b rfl hb (fun j h1 h2 e => ?_)⟩
    have := Lib.indexByte_none hm (j - b)
    rw [List.getElem?_drop, show b + (j - b) = j by omega, bang_list s j h2] at this
    exact this (by rw [(hcn _).1 e])
  · obtain ⟨k, hk⟩ := Int.eq_ofNat_of_zero_le (show 0 ≤ Lib.indexByte (s.data.toList.drop b) c.toNat.toUInt8 by omega)
    obtain ⟨hh, hbef⟩ := Lib.indexByte_some hk
    rw [List.getElem?_drop] at hh
    have hlt : b + k < s.size := by
      rw [← len_list]
      exact (List.getElem?_eq_some_iff.1 hh).1
    refine .inr ⟨k, hk, hlt, split_some s c b (b + k) hlt ?_ _ b rfl (by omega) (fun j h1 h2 e => ?_)⟩
    · rw [bang_list s _ hlt] at hh
      exact (hcn _).2 (by simpa using hh)
    · have := hbef (j - b) (by omega)
      rw [List.getElem?_drop, show b + (j - b) = j by omega, bang_list s j (by omega)] at this
      exact this (by rw [(hcn _).1 e])

set_option maxHeartbeats 1000000 in
theorem clone_c (s : ByteArray) (w : World) (h : s.size ≤ 1048576) : Calls Tryd.prog 62 #[.string s] w fun e w' => e = .returned (.string s) ∧ Below w.heap.size w w' := by
  go_enter Tryd.func62, Tryd.ntmps62
  go_wp2_with (go_at_call 69; refine (Tryd.stringslite_Clone s _ (by omega)).mono ?_; rintro e w1 ⟨rfl, b1⟩)
  go_ret
  exact ⟨rfl, b1⟩

set_option maxHeartbeats 2000000 in
set_option maxRecDepth 100000 in
theorem implSplit_c (s : ByteArray) (c : Int) (w : World) (hs : s.size ≤ 1048576) (h0 : 0 ≤ c) (h1 : c ≤ 255) :
    Calls Tryd.prog 50 #[.string s, .int .u8 c] w fun e w' => ∃ v, e = .returned v ∧ w'.ownsRow w.heap.size 9 1 v (splitS s c).length (strsV (splitS s c)) ∧ Below w.heap.size w w' := by
  obtain ⟨i0, hi, hz0, hz1, hz2⟩ := info_parts infoS
  go_enter Tryd.func50, Tryd.ntmps50
  go_wp2
  go_loopw [0, 5] (fun vs vo wr => ∃ (b : Nat) (r : ByteArray) (xs : List ByteArray), vs = .string r ∧ b ≤ s.size ∧ xs.length ≤ b ∧ Hid (r = s.extract b s.size) ∧ wr.ownsRow w.heap.size 9 1 vo xs.length (strsV xs) ∧ Hid (xs ++ splitGo s c (s.size - b) b b = splitS s c) ∧ Below w.heap.size w wr) (fun vs _ _ => strSize vs)
  case atStart => exact ⟨0, s, [], rfl, by omega, by simp, (by show _ = _; simp), World.ownsRow_nil _ _ _ _, rfl, Below.refl _ _⟩
  case round =>
    obtain ⟨b, r, xs, rfl, hb, hxl, hr, hown, hh, hbr⟩ := hrel
    have hsr : r.size = s.size - b := by rw [hr.out]; exact size_tail s b hb
    have hs2 := search s c b hb h0 h1
    rw [← hr.out] at hs2
    rcases hs2 with ⟨hidx, hsp⟩ | ⟨k, hidx, hkl, hsp⟩
    · have HT : Hid (xs ++ [r] = splitS s c) := by have := hh.out; rw [hsp] at this; exact this
      have hr20 : r.size ≤ 1048576 := by omega
      clear hsp hh hsr
      go_wp2_with (first
        | (go_at_call 61; refine (Tryd.strings_IndexByte r c _).mono ?_; rintro e w1 ⟨rfl, rfl⟩)
        | (go_at_call 62; refine (clone_c r _ hr20).mono ?_; rintro e w2 ⟨rfl, b2⟩
           have hown2 := owns_of_below hown b2)
        | (at_builtin; refine wpList_append_own _ rfl _ _ 23 rfl w.heap.size 9 i0 (.string ⟨#[]⟩) 1 16 Tryd.underlying23 hi hz0 hz1 hz2 rfl (by decide) _ xs.length (strsV xs) rfl (hown2.alloc _) ⟨w2.heap.size, 0, none⟩ 1 1 (strsV [r]) rfl rfl (cell_one_new _ _ _) (fun u hu => by simp [strsV] at hu; subst hu; rfl) (by unfold maxLen; omega) (by omega) (by have h1 := hbr.size; have h2 := b2.size; simp; omega) ?_))
      intro v3 w3 o3 gr3 _
      rw [strs_append] at o3
      have hb2 := hbr.trans (b2.mono hbr.size)
      have hb3 : Below w.heap.size w w3 := Below.grown (hb2.alloc hb2.size _) gr3 (by have := hb2.size; simp; omega) (fun j hj => (hown2.lt _ hj).1)
      have hl3 : (xs ++ [r]).length = xs.length + 1 := by simp
      rw [← hl3, HT.out] at o3
      go_wp2
      go_ret
      exact ⟨_, rfl, o3, hb3⟩
    · have hkr : k < r.size := by omega
      have HT : Hid ((xs ++ [r.extract 0 k]) ++ splitGo s c (s.size - (b + k + 1)) (b + k + 1) (b + k + 1) = splitS s c) := by
        have := hh.out
        rw [hsp, ← tail_head, ← hr.out] at this
        show _ = _
        rw [List.append_assoc]; exact this
      have HR : Hid (r.extract (k + 1) r.size = s.extract (b + k + 1) s.size) := by
        show _ = _
        rw [hr.out, tail_tail, Nat.add_assoc]
      have hz : (r.extract 0 k).size = k := by
        rw [← len_list, extract_list]; simp [len_list]; omega
      have hz2' : (r.extract (k + 1) r.size).size = r.size - (k + 1) := size_tail r (k + 1) (by omega)
      have hk20 : (r.extract 0 k).size ≤ 1048576 := by omega
      have hkI : (k : Int) < (r.size : Int) := by omega
      have hkn : ¬ ((k : Int) < 0) := by omega
      have hkm : k ≤ 1048576 := by omega
      have hsr2 : Hid (r.size = s.size - b) := hsr
      clear hsp hh hz hsr
      go_wp2_with (first
        | (go_at_call 61; refine (Tryd.strings_IndexByte r c _).mono ?_; rintro e w1 ⟨rfl, rfl⟩)
        | (go_at_call 62; refine (clone_c (r.extract 0 k) _ hk20).mono ?_; rintro e w2 ⟨rfl, b2⟩
           have hown2 := owns_of_below hown b2)
        | (at_builtin; refine wpList_append_own _ rfl _ _ 23 rfl w.heap.size 9 i0 (.string ⟨#[]⟩) 1 16 Tryd.underlying23 hi hz0 hz1 hz2 rfl (by decide) _ xs.length (strsV xs) rfl (hown2.alloc _) ⟨w2.heap.size, 0, none⟩ 1 1 (strsV [r.extract 0 k]) rfl rfl (cell_one_new _ _ _) (fun u hu => by simp [strsV] at hu; subst hu; rfl) (by unfold maxLen; omega) (by omega) (by have h1 := hbr.size; have h2 := b2.size; simp; omega) ?_))
      intro v3 w3 o3 gr3 _
      rw [strs_append] at o3
      have hb2 := hbr.trans (b2.mono hbr.size)
      have hb3 : Below w.heap.size w w3 := Below.grown (hb2.alloc hb2.size _) gr3 (by have := hb2.size; simp; omega) (fun j hj => (hown2.lt _ hj).1)
      have hl3 : (xs ++ [r.extract 0 k]).length = xs.length + 1 := by simp
      rw [← hl3] at o3
      clear gr3 hown2 hown hbr hb2 b2 hl3
      go_wp2
      go_roundw
      case rel => exact ⟨b + k + 1, _, _, rfl, by omega, (by simp; omega), HR, o3, HT, hb3⟩
      case measure => simp only [strSize]; omega
end Go.Proofs.YtdiopkegaeliaaaDoor

/-! What the functions that look at a path, name by name, answer (the program's and the specification's): contracts for the walks; condition: the text has at most 2 to the 20 bytes. -/
namespace Go.Proofs.YtdiopkegaeliaaaDoor
open Go.RowKit
set_option linter.unusedSimpArgs false
set_option linter.unusedVariables false

def pathC (c : Int) : Bool := smallB c || (digitB c || (c == 46 || (c == 45 || c == 95)))

theorem isPath_c (c : Int) (w : World) : Calls Tryd.prog 63 #[.int .u8 c] w fun e w' => e = .returned (.bool (pathC c)) ∧ w = w' := by
  cases h1 : smallB c with
  | true =>
    have hb : pathC c = true := by simp [pathC, h1]
    rw [hb]
    go_enter Tryd.func63, Tryd.ntmps63
    go_wp2_with (go_at_call 64; refine (isSmall_c _ _).mono ?_; rintro e w' ⟨rfl, rfl⟩; rw [h1])
    go_ret
    exact ⟨rfl, rfl⟩
  | false =>
    cases h2 : digitB c with
    | true =>
      have hb : pathC c = true := by simp [pathC, h2]
      rw [hb]
      go_enter Tryd.func63, Tryd.ntmps63
      go_wp2_with (first
        | (go_at_call 64; refine (isSmall_c _ _).mono ?_; rintro e w' ⟨rfl, rfl⟩; rw [h1])
        | (go_at_call 65; refine (isDigit_c _ _).mono ?_; rintro e w' ⟨rfl, rfl⟩; rw [h2]))
      go_ret
      exact ⟨rfl, rfl⟩
    | false =>
      go_enter Tryd.func63, Tryd.ntmps63
      go_wp2_with (first
        | (go_at_call 64; refine (isSmall_c _ _).mono ?_; rintro e w' ⟨rfl, rfl⟩; rw [h1])
        | (go_at_call 65; refine (isDigit_c _ _).mono ?_; rintro e w' ⟨rfl, rfl⟩; rw [h2]))
      all_goals go_ret
      all_goals exact ⟨by simp [pathC, Bool.or_assoc, *], rfl⟩

theorem letter5_c (c : Int) (k0 : 0 ≤ c) (k1 : c ≤ 255) (w : World) : Calls Tryd.prog 16 #[.int .u8 c] w fun e w' => e = .returned (.bool (pathC c)) ∧ w = w' := by
  cases h1 : smallB c with
  | true =>
    have hb : pathC c = true := by simp [pathC, h1]
    rw [hb]
    go_enter Tryd.func16, Tryd.ntmps16
    go_wp2_with (go_at_call 25; refine (small_c _ k0 k1 _).mono ?_; rintro e w' ⟨rfl, rfl⟩; rw [h1])
    go_ret
    exact ⟨rfl, rfl⟩
  | false =>
    cases h2 : digitB c with
    | true =>
      have hb : pathC c = true := by simp [pathC, h2]
      rw [hb]
      go_enter Tryd.func16, Tryd.ntmps16
      go_wp2_with (first
        | (go_at_call 25; refine (small_c _ k0 k1 _).mono ?_; rintro e w' ⟨rfl, rfl⟩; rw [h1])
        | (go_at_call 26; refine (digit_c _ k0 k1 _).mono ?_; rintro e w' ⟨rfl, rfl⟩; rw [h2]))
      go_ret
      exact ⟨rfl, rfl⟩
    | false =>
      go_enter Tryd.func16, Tryd.ntmps16
      go_wp2_with (first
        | (go_at_call 25; refine (small_c _ k0 k1 _).mono ?_; rintro e w' ⟨rfl, rfl⟩; rw [h1])
        | (go_at_call 26; refine (digit_c _ k0 k1 _).mono ?_; rintro e w' ⟨rfl, rfl⟩; rw [h2]))
      all_goals go_ret
      all_goals exact ⟨by simp [pathC, Bool.or_assoc, *], rfl⟩

def okPath (_ : Nat) (c : Int) : Bool := pathC c
def pnameB (s : ByteArray) : Bool := allUpto okPath s s.size && (inB s.size 1 12 && (!(s.toList == [46]) && !(s.toList == [46, 46])))

theorem pname_out {s : ByteArray} (h : s.size = 0 ∨ 12 < s.size) : pnameB s = false := by
  have : inB s.size 1 12 = false := by
    simp only [inB, Bool.and_eq_false_iff, decide_eq_false_iff_not]
    omega
  rw [pnameB, this]; simp
theorem pname_in {s : ByteArray} (h0 : 0 < s.size) (h1 : s.size ≤ 12) (h2 : (s.toList == [46]) = false) (h3 : (s.toList == [46, 46]) = false) (h : allUpto okPath s s.size = true) : pnameB s = true := by
  have : inB s.size 1 12 = true := by
    simp only [inB, Bool.and_eq_true, decide_eq_true_eq]
    omega
  rw [pnameB, this, h, h2, h3]; rfl

set_option maxHeartbeats 1000000 in
theorem implPname_c (s : ByteArray) (hs : s.size ≤ maxLen) (w : World) :
    Calls Tryd.prog 66 #[.string s] w fun e w' => e = .returned (.bool (pnameB s)) ∧ w = w' := by
  unfold maxLen at hs
  by_cases h0 : s.size = 0
  · have h0' : ((s.size : Int) == 0) = true := by rw [beq_iff_eq]; omega
    rw [pname_out (.inl h0)]
    clear h0
    go_enter Tryd.func66, Tryd.ntmps66
    go_wp2
    go_ret
    exact ⟨rfl, rfl⟩
  have h0' := size_ne h0
  by_cases h1 : 12 < s.size
  · have h1' : (12 : Int) < (s.size : Int) := by omega
    rw [pname_out (.inr h1)]
    clear h0 h1
    go_enter Tryd.func66, Tryd.ntmps66
    go_wp2
    go_ret
    exact ⟨rfl, rfl⟩
  have h1' : ¬ (12 : Int) < (s.size : Int) := by omega
  cases h2 : (s.toList == [46]) with
  | true =>
    have hb : pnameB s = false := by rw [pnameB, h2]; simp
    rw [hb]
    clear h0 h1 hb
    go_enter Tryd.func66, Tryd.ntmps66
    go_wp2
    go_ret
    exact ⟨rfl, rfl⟩
  | false =>
    cases h3 : (s.toList == [46, 46]) with
    | true =>
      have hb : pnameB s = false := by rw [pnameB, h3]; simp
      rw [hb]
      clear h0 h1 hb
      go_enter Tryd.func66, Tryd.ntmps66
      go_wp2
      go_ret
      exact ⟨rfl, rfl⟩
    | false =>
      have HI : Hid (0 < s.size ∧ s.size ≤ 12) := ⟨by omega, by omega⟩
      clear h0 h1
      go_enter Tryd.func66, Tryd.ntmps66
      go_wp2
      go_loop [22] (fun vi => ∃ k : Nat, k ≤ s.size ∧ vi = .int .i64 (k : Int) ∧ Hid (allUpto okPath s k = true)) (fun vi => s.size - (intOf vi).toNat)
      case atStart => exact ⟨0, Nat.zero_le _, rfl, rfl⟩
      case round =>
        obtain ⟨k, hk, rfl, hh⟩ := hrel
        by_cases hlt : k < s.size
        · have hki : (k : Int) < (s.size : Int) := by omega
          cases hp : pathC ((s[k]).toNat : Int) with
          | true =>
            go_wp2_with (go_at_call 63; refine (isPath_c _ _).mono ?_; rintro e w' ⟨rfl, rfl⟩; rw [hp])
            go_round
            case rel => exact ⟨k + 1, by omega, by go_num, step_true hlt hh (by simp [okPath, hp])⟩
            case measure => simp [intOf]; omega
          | false =>
            go_wp2_with (go_at_call 63; refine (isPath_c _ _).mono ?_; rintro e w' ⟨rfl, rfl⟩; rw [hp])
            go_ret
            exact ⟨by rw [pnameB, end_false hlt (by simp [okPath, hp])]; rfl, rfl⟩
        · have he : k = s.size := by omega
          subst he
          go_wp2
          go_ret
          exact ⟨by rw [pname_in HI.out.1 HI.out.2 h2 h3 hh.out]; rfl, rfl⟩

end Go.Proofs.YtdiopkegaeliaaaDoor

/-! How many pieces a text falls into, and how long they are: no condition. -/
namespace Go.Proofs.YtdiopkegaeliaaaDoor
open Go.RowKit
set_option linter.unusedSimpArgs false
set_option linter.unusedVariables false

theorem splitS_pos (s : ByteArray) (c : Int) : 0 < (splitS s c).length := by
  have h : ∀ n i b, 0 < (splitGo s c n i b).length := fun n => by
    induction n with
    | zero => intro i b; simp [splitGo]
    | succ n ih => intro i b; rw [splitGo]; split <;> simp [ih]
  exact h _ _ _
theorem splitS_piece (s : ByteArray) (c : Int) : ∀ x ∈ splitS s c, x.size ≤ s.size := by
  have h : ∀ n i b, ∀ x ∈ splitGo s c n i b, x.size ≤ s.size := fun n => by
    induction n with
    | zero => intro i b x hx; simp [splitGo] at hx; subst hx; rw [ByteArray.size_extract]; omega
    | succ n ih =>
      intro i b x hx
      rw [splitGo] at hx
      split at hx
      · rcases List.mem_cons.1 hx with rfl | hx
        · rw [ByteArray.size_extract]; omega
        · exact ih _ _ x hx
      · exact ih _ _ x hx
  exact h _ _ _
theorem splitS_len (s : ByteArray) (c : Int) : (splitS s c).length ≤ s.size + 1 := by
  have h : ∀ n i b, (splitGo s c n i b).length ≤ n + 1 := fun n => by
    induction n with
    | zero => intro i b; simp [splitGo]
    | succ n ih =>
      intro i b
      rw [splitGo]
      split
      · simp only [List.length_cons]; have := ih (i + 1) (i + 1); omega
      · have := ih (i + 1) b; omega
  exact h _ _ _

end Go.Proofs.YtdiopkegaeliaaaDoor

/-! What the two functions PathOk (the program's and the specification's) answer: the same; condition: the text has at most 2 to the 20 bytes. -/
namespace Go.Proofs.YtdiopkegaeliaaaDoor
open Go.RowKit
set_option linter.unusedSimpArgs false
set_option linter.unusedVariables false

def pathB (s : ByteArray) : Bool := decide ((splitS s 47).length ≤ 4) && (splitS s 47).all pnameB

theorem all_take_step {l : List ByteArray} {p : ByteArray → Bool} {k : Nat} (hk : k < l.length) (h : (l.take k).all p = true) (hp : p l[k] = true) : (l.take (k + 1)).all p = true := by
  rw [List.take_succ_eq_append_getElem hk, List.all_append, h]; simp [hp]
theorem all_false_at {l : List ByteArray} {p : ByteArray → Bool} {k : Nat} (hk : k < l.length) (hp : p l[k] = false) : l.all p = false := by
  rw [Bool.eq_false_iff]; intro h
  have := List.all_eq_true.1 h _ (List.getElem_mem hk)
  rw [hp] at this; cases this

set_option maxHeartbeats 1000000 in
set_option maxRecDepth 100000 in
theorem implPath_c (s : ByteArray) (w : World) (hs : s.size ≤ 1048576) :
    Calls Tryd.prog 52 #[.string s] w fun e w' => e = .returned (.bool (pathB s)) ∧ Below w.heap.size w w' := by
  obtain ⟨l, hl⟩ : ∃ l, l = splitS s 47 := ⟨_, rfl⟩
  have hsz : ∀ x ∈ l, x.size ≤ 1048576 := fun x hx => by rw [hl] at hx; have := splitS_piece s 47 x hx; omega
  have hln : l.length ≤ 1048577 := by rw [hl]; have := splitS_len s 47; omega
  have hpb : pathB s = (decide (l.length ≤ 4) && l.all pnameB) := by rw [pathB, ← hl]
  have hcs := implSplit_c s 47 w hs (by omega) (by omega)
  rw [← hl] at hcs
  rw [hpb]
  clear hl hpb
  by_cases h4 : 4 < l.length
  · have h4' : (4 : Int) < (l.length : Int) := by omega
    have hb4 : decide (l.length ≤ 4) = false := by simp; omega
    rw [hb4]
    go_enter Tryd.func52, Tryd.ntmps52
    go_wp2_with (go_at_call 50; refine hcs.mono ?_; rintro e w1 ⟨v, rfl, ho, hb⟩; obtain ⟨a, cap, rfl, _, hc⟩ := reads_strs (reads_of_owns ho); clear ho hcs)
    go_ret
    exact ⟨rfl, hb⟩
  have h4' : ¬ (4 : Int) < (l.length : Int) := by omega
  have hb4 : decide (l.length ≤ 4) = true := by simp; omega
  rw [hb4]
  clear h4 hb4
  go_enter Tryd.func52, Tryd.ntmps52
  go_wp2_with (go_at_call 50; refine hcs.mono ?_; rintro e w1 ⟨v, rfl, ho, hb⟩; obtain ⟨a, cap, rfl, _, hc⟩ := reads_strs (reads_of_owns ho); clear ho hcs)
  go_loopw [13] (fun vi wr => ∃ k : Nat, k ≤ l.length ∧ vi = .int .i64 (k : Int) ∧ Hid ((l.take k).all pnameB = true) ∧ wr = w1) (fun vi _ => l.length - (intOf vi).toNat)
  case atStart => exact ⟨0, Nat.zero_le _, rfl, (by show _ = _; simp), rfl⟩
  case round =>
    obtain ⟨k, hk, rfl, hh, rfl⟩ := hrel
    by_cases hlt : k < l.length
    · rcases hc with rfl | ⟨b, off, rfl, hbl, hc⟩
      · simp at hlt
      have hki : (k : Int) < (l.length : Int) := by omega
      have hcx := hc k hlt
      have hx := hsz l[k] (List.getElem_mem hlt)
      obtain ⟨x, hxe⟩ : ∃ x, x = l[k] := ⟨_, rfl⟩
      rw [← hxe] at hcx hx
      have HX : Hid (x = l[k]) := hxe
      have hxm : x.size ≤ maxLen := by unfold maxLen; omega
      clear hc hxe hsz
      cases hp : pnameB x with
      | true =>
        go_wp2_with (go_at_call 66; refine (implPname_c x hxm _).mono ?_; rintro e w' ⟨rfl, rfl⟩; rw [hp])
        go_roundw
        case rel => exact ⟨k + 1, by omega, by go_num, all_take_step hlt hh.out (by rw [← HX.out]; exact hp), (by first | rfl | trivial)⟩
        case measure => simp [intOf]; omega
      | false =>
        go_wp2_with (go_at_call 66; refine (implPname_c x hxm _).mono ?_; rintro e w' ⟨rfl, rfl⟩; rw [hp])
        go_ret
        exact ⟨by rw [all_false_at hlt (by rw [← HX.out]; exact hp)]; rfl, hb⟩
    · have he : k = l.length := by omega
      subst he
      have ha : l.all pnameB = true := by have := hh.out; rwa [List.take_length] at this
      clear hc hsz
      go_wp2
      go_ret
      exact ⟨by rw [ha]; rfl, hb⟩
end Go.Proofs.YtdiopkegaeliaaaDoor

/-! Steps gone through by going back to the last one that takes many alone, against all ways being tried: they answer alike; no condition (no program stands here). -/
namespace Go.Proofs.YtdiopkegaeliaaaDoor
set_option linter.unusedSimpArgs false
set_option linter.unusedVariables false

section
variable {α β : Type} (many : α → Bool) (takes : α → β → Bool)

/-- All ways are tried. -/
def fullG : List α → List β → Bool
  | [], l => l.isEmpty
  | a :: p, l => if many a then (List.range (l.length + 1)).any (fun k => fullG p (l.drop k)) else
      match l with
      | [] => false
      | x :: t => takes a x && fullG p t

theorem fullG_nil (l : List β) : fullG many takes [] l = l.isEmpty := by rw [fullG.eq_def]
theorem fullG_many (a : α) (p : List α) (l : List β) (h : many a = true) : fullG many takes (a :: p) l = (List.range (l.length + 1)).any (fun k => fullG many takes p (l.drop k)) := by
  rw [fullG.eq_def]; simp only []; rw [if_pos h]
theorem fullG_none (a : α) (p : List α) (h : many a = false) : fullG many takes (a :: p) [] = false := by
  rw [fullG.eq_def]; simp only []; rw [if_neg (by simp [h])]
theorem fullG_one (a : α) (p : List α) (x : β) (t : List β) (h : many a = false) : fullG many takes (a :: p) (x :: t) = (takes a x && fullG many takes p t) := by
  rw [fullG.eq_def]; simp only []; rw [if_neg (by simp [h])]

/-- From place i of the steps and place j of the things on. -/
def F2 (ps : List α) (xs : List β) (i j : Nat) : Bool := fullG many takes (ps.drop i) (xs.drop j)

variable {many takes} {ps : List α} {xs : List β}

theorem F2_many {i j : Nat} {a : α} (ha : ps[i]? = some a) (hm : many a = true) (hj : j ≤ xs.length) :
    F2 many takes ps xs i j = true ↔ ∃ k, j ≤ k ∧ k ≤ xs.length ∧ F2 many takes ps xs (i + 1) k = true := by
  have hi := (List.getElem?_eq_some_iff.1 ha).1
  have he := (List.getElem?_eq_some_iff.1 ha).2
  unfold F2
  rw [List.drop_eq_getElem_cons hi, he, fullG_many _ _ _ _ _ hm, List.any_eq_true]
  constructor
  · rintro ⟨k, hk, h⟩
    rw [List.mem_range, List.length_drop] at hk
    rw [List.drop_drop] at h
    exact ⟨j + k, by omega, by omega, h⟩
  · rintro ⟨k, h1, h2, h⟩
    refine ⟨k - j, by rw [List.mem_range, List.length_drop]; omega, ?_⟩
    rw [List.drop_drop, show j + (k - j) = k by omega]
    exact h
theorem F2_one {i j : Nat} {a : α} {x : β} (ha : ps[i]? = some a) (hm : many a = false) (hx : xs[j]? = some x) :
    F2 many takes ps xs i j = (takes a x && F2 many takes ps xs (i + 1) (j + 1)) := by
  have hi := (List.getElem?_eq_some_iff.1 ha).1
  have he := (List.getElem?_eq_some_iff.1 ha).2
  have hj := (List.getElem?_eq_some_iff.1 hx).1
  have hxe := (List.getElem?_eq_some_iff.1 hx).2
  unfold F2
  rw [List.drop_eq_getElem_cons hi, he, List.drop_eq_getElem_cons hj, hxe, fullG_one _ _ _ _ _ _ hm]
theorem F2_none {i j : Nat} {a : α} (ha : ps[i]? = some a) (hm : many a = false) (hj : xs.length ≤ j) : F2 many takes ps xs i j = false := by
  have hi := (List.getElem?_eq_some_iff.1 ha).1
  have he := (List.getElem?_eq_some_iff.1 ha).2
  unfold F2
  rw [List.drop_eq_getElem_cons hi, he, List.drop_eq_nil_of_le hj, fullG_none _ _ _ _ hm]
theorem F2_end {i j : Nat} (hi : ps.length ≤ i) : F2 many takes ps xs i j = decide (xs.length ≤ j) := by
  unfold F2
  rw [List.drop_eq_nil_of_le hi, fullG_nil]
  by_cases h : xs.length ≤ j
  · rw [decide_eq_true h, List.drop_eq_nil_of_le h]; rfl
  · rw [decide_eq_false h]
    have : xs.drop j ≠ [] := by
      intro e
      have := congrArg List.length e
      rw [List.length_drop] at this
      simp at this
      omega
    cases hd : xs.drop j with
    | nil => exact absurd hd this
    | cons _ _ => rfl

/-- What a run through steps of which none takes many leads to. -/
theorem F2_pass {b k : Nat} : ∀ (m : Nat), (∀ i a, b ≤ i → i < b + m → ps[i]? = some a → many a = false) → b + m ≤ ps.length → k ≤ xs.length → F2 many takes ps xs b k = true →
    k + m ≤ xs.length ∧ F2 many takes ps xs (b + m) (k + m) = true
  | 0, _, _, hk, h => ⟨hk, h⟩
  | m + 1, hs, hl, hk, h => by
    obtain ⟨h1, h2⟩ := F2_pass m (fun i a h1 h2 h3 => hs i a h1 (by omega) h3) (by omega) hk h
    have ha : ps[b + m]? = some ps[b + m] := List.getElem?_eq_getElem (by omega)
    have hm := hs (b + m) _ (by omega) (by omega) ha
    by_cases hj : k + m < xs.length
    · have hx : xs[k + m]? = some xs[k + m] := List.getElem?_eq_getElem hj
      rw [F2_one ha hm hx, Bool.and_eq_true] at h2
      exact ⟨by omega, h2.2⟩
    · rw [F2_none ha hm (by omega)] at h2
      cases h2

/-- Where the run is: at step s and thing t, behind the last step that takes many (seen: there was one) b steps and tk things lie. -/
def Inv (many : α → Bool) (takes : α → β → Bool) (ps : List α) (xs : List β) (s t b tk : Nat) (seen : Bool) : Prop :=
  s ≤ ps.length ∧ t ≤ xs.length ∧ b ≤ s ∧ t + b = s + tk ∧ (∀ i a, b ≤ i → i < s → ps[i]? = some a → many a = false) ∧
  (F2 many takes ps xs 0 0 = true ↔ (F2 many takes ps xs s t = true ∨ (seen = true ∧ ∃ k, tk < k ∧ k ≤ xs.length ∧ F2 many takes ps xs b k = true)))

theorem inv_start : Inv many takes ps xs 0 0 0 0 false :=
  ⟨Nat.zero_le _, Nat.zero_le _, Nat.le_refl _, rfl, fun i a _ h => by omega, by simp⟩

theorem inv_many {s t b tk : Nat} {seen : Bool} {a : α} (h : Inv many takes ps xs s t b tk seen) (ha : ps[s]? = some a) (hm : many a = true) : Inv many takes ps xs (s + 1) t (s + 1) t true := by
  obtain ⟨h1, h2, h3, h4, h5, h6⟩ := h
  have hs := (List.getElem?_eq_some_iff.1 ha).1
  refine ⟨by omega, h2, Nat.le_refl _, by omega, fun i a h1 h2 => by omega, ?_⟩
  rw [h6]
  have key : ∀ j, t ≤ j → j ≤ xs.length → F2 many takes ps xs s j = true → (F2 many takes ps xs (s + 1) t = true ∨ (true = true ∧ ∃ k, t < k ∧ k ≤ xs.length ∧ F2 many takes ps xs (s + 1) k = true)) := fun j h7 h8 h9 => by
    obtain ⟨k, k1, k2, k3⟩ := (F2_many ha hm h8).1 h9
    by_cases e : k = t
    · subst e; exact .inl k3
    · exact .inr ⟨rfl, k, by omega, k2, k3⟩
  constructor
  · rintro (h | ⟨_, k, k1, k2, k3⟩)
    · exact key t (Nat.le_refl _) h2 h
    · obtain ⟨j1, j2⟩ := F2_pass (s - b) (fun i a q1 q2 q3 => h5 i a q1 (by omega) q3) (by omega) k2 k3
      rw [show b + (s - b) = s by omega] at j2
      exact key _ (by omega) j1 j2
  · rintro (h | ⟨_, k, k1, k2, k3⟩)
    · exact .inl ((F2_many ha hm h2).2 ⟨t, Nat.le_refl _, h2, h⟩)
    · exact .inl ((F2_many ha hm h2).2 ⟨k, by omega, k2, k3⟩)

theorem inv_next {s t b tk : Nat} {seen : Bool} {a : α} {x : β} (h : Inv many takes ps xs s t b tk seen) (ha : ps[s]? = some a) (hm : many a = false) (hx : xs[t]? = some x) (ht : takes a x = true) :
    Inv many takes ps xs (s + 1) (t + 1) b tk seen := by
  obtain ⟨h1, h2, h3, h4, h5, h6⟩ := h
  have hs := (List.getElem?_eq_some_iff.1 ha).1
  have hj := (List.getElem?_eq_some_iff.1 hx).1
  refine ⟨by omega, by omega, by omega, by omega, fun i c q1 q2 q3 => ?_, ?_⟩
  · by_cases e : i = s
    · subst e; rw [ha] at q3; cases q3; exact hm
    · exact h5 i c q1 (by omega) q3
  · rw [h6, F2_one ha hm hx, ht, Bool.true_and]

theorem F2_stop_end {s t : Nat} (hs : s = ps.length) (ht : t ≤ xs.length) (hne : ¬ t = xs.length) : F2 many takes ps xs s t = false := by
  rw [F2_end (by omega)]; simp; omega
theorem F2_stop_none {s t : Nat} {a : α} (ha : ps[s]? = some a) (hm : many a = false) (ht : t = xs.length) : F2 many takes ps xs s t = false := F2_none ha hm (by omega)
theorem F2_stop_not {s t : Nat} {a : α} {x : β} (ha : ps[s]? = some a) (hm : many a = false) (hx : xs[t]? = some x) (ht : takes a x = false) : F2 many takes ps xs s t = false := by
  rw [F2_one ha hm hx, ht]; rfl

theorem inv_back {s t b tk : Nat} {seen : Bool} (h : Inv many takes ps xs s t b tk seen) (hf : F2 many takes ps xs s t = false) (hs : seen = true) (hk : tk < xs.length) : Inv many takes ps xs b (tk + 1) b (tk + 1) true := by
  obtain ⟨h1, h2, h3, h4, h5, h6⟩ := h
  refine ⟨by omega, by omega, Nat.le_refl _, by omega, fun i a q1 q2 => by omega, ?_⟩
  rw [h6, hf]
  constructor
  · rintro (h | ⟨_, k, k1, k2, k3⟩)
    · cases h
    · by_cases e : k = tk + 1
      · subst e; exact .inl k3
      · exact .inr ⟨rfl, k, by omega, k2, k3⟩
  · rintro (h | ⟨_, k, k1, k2, k3⟩)
    · exact .inr ⟨hs, tk + 1, by omega, by omega, h⟩
    · exact .inr ⟨hs, k, by omega, k2, k3⟩

theorem inv_true {s t b tk : Nat} {seen : Bool} (h : Inv many takes ps xs s t b tk seen) (hs : s = ps.length) (ht : t = xs.length) : fullG many takes ps xs = true := by
  have := h.2.2.2.2.2.2 (.inl (by rw [F2_end (by omega)]; simp; omega))
  simpa [F2] using this
theorem inv_false {s t b tk : Nat} {seen : Bool} (h : Inv many takes ps xs s t b tk seen) (hf : F2 many takes ps xs s t = false) (he : seen = false ∨ tk = xs.length) : fullG many takes ps xs = false := by
  rw [Bool.eq_false_iff]
  intro hc
  have h1 : F2 many takes ps xs 0 0 = true := by simpa [F2] using hc
  rcases h.2.2.2.2.2.1 h1 with h2 | ⟨h2, k, h3, h4, _⟩
  · rw [hf] at h2; cases h2
  · rcases he with he | he
    · rw [he] at h2; cases h2
    · omega

/-- How far the run still has to go. -/
def goM (L n s b tk : Nat) : Nat := (L - b) * ((n + 1) * (L + 1)) + (n - tk) * (L + 1) + (L - s)
theorem goM_many {L n s b tk t : Nat} (h1 : b ≤ s) (h2 : s < L) : goM L n (s + 1) (s + 1) t < goM L n s b tk := by
  unfold goM
  have e3 : (n + 1) * (L + 1) = n * (L + 1) + (L + 1) := by rw [Nat.add_mul]; omega
  obtain ⟨M, hM⟩ : ∃ M, M = (n + 1) * (L + 1) := ⟨_, rfl⟩
  rw [← hM] at e3 ⊢
  have e1 : (L - b) * M ≥ (L - (s + 1) + 1) * M := Nat.mul_le_mul_right _ (by omega)
  rw [Nat.add_mul] at e1
  have e2 : (n - t) * (L + 1) ≤ n * (L + 1) := Nat.mul_le_mul_right _ (by omega)
  omega
theorem goM_next {L n s b tk : Nat} (h2 : s < L) : goM L n (s + 1) b tk < goM L n s b tk := by unfold goM; omega
theorem goM_back {L n s b tk : Nat} (h : tk < n) : goM L n b b (tk + 1) < goM L n s b tk := by
  unfold goM
  have e1 : (n - tk) * (L + 1) = (n - (tk + 1)) * (L + 1) + (L + 1) := by
    rw [show n - tk = (n - (tk + 1)) + 1 by omega, Nat.add_mul]; omega
  omega
end
end Go.Proofs.YtdiopkegaeliaaaDoor

/-! Signs of a pattern's piece, read one by one off its bytes: what is read, and that the rest is read alike from each place; no condition (no program stands here). -/
namespace Go.Proofs.YtdiopkegaeliaaaDoor
open Go.RowKit
set_option linter.unusedSimpArgs false
set_option linter.unusedVariables false

/-- A sign: it takes many bytes; or one that is in the set (or, nt, is not). -/
structure Sgn where
  many : Bool
  nt : Bool
  set : List UInt8

def setB (c : Int) : Bool := smallB c || digitB c
def runL : List UInt8 → Nat
  | [] => 0
  | c :: t => if setB (c.toNat : Int) then runL t + 1 else 0
def headIs (n : Nat) : List UInt8 → Bool
  | [] => false
  | c :: _ => c.toNat == n
/-- What stands behind a bracket that opens, and how many bytes it takes with the bracket. -/
def setL (t : List UInt8) : Option (Sgn × Nat) :=
  if headIs 93 ((t.drop (headIs 33 t).toNat).drop (runL (t.drop (headIs 33 t).toNat))) && inB (runL (t.drop (headIs 33 t).toNat)) 1 5 then
    some (⟨false, headIs 33 t, (t.drop (headIs 33 t).toNat).take (runL (t.drop (headIs 33 t).toNat))⟩, 1 + (headIs 33 t).toNat + runL (t.drop (headIs 33 t).toNat) + 1)
  else none
def signL : List UInt8 → Option (Sgn × Nat)
  | [] => none
  | c :: t =>
    if c.toNat = 91 then setL t
    else if c.toNat = 42 then some (⟨true, false, []⟩, 1)
    else if c.toNat = 63 then some (⟨false, true, []⟩, 1)
    else if pathC (c.toNat : Int) then some (⟨false, false, [c]⟩, 1)
    else none

theorem signL_cons (c : UInt8) (t : List UInt8) : signL (c :: t) = if c.toNat = 91 then setL t
    else if c.toNat = 42 then some (⟨true, false, []⟩, 1)
    else if c.toNat = 63 then some (⟨false, true, []⟩, 1)
    else if pathC (c.toNat : Int) then some (⟨false, false, [c]⟩, 1)
    else none := rfl
theorem signL_pos {l : List UInt8} {g : Sgn} {k : Nat} (h : signL l = some (g, k)) : 1 ≤ k := by
  cases l with
  | nil => cases h
  | cons c t =>
    rw [signL_cons] at h
    split at h
    · unfold setL at h
      split at h
      · cases h; omega
      · cases h
    split at h
    · cases h; omega
    split at h
    · cases h; omega
    split at h
    · cases h; omega
    · cases h

def signsL : Nat → List UInt8 → Option (List Sgn)
  | 0, _ => some []
  | _ + 1, [] => some []
  | n + 1, c :: t =>
    match signL (c :: t) with
    | none => none
    | some (g, k) => (signsL n ((c :: t).drop k)).map (g :: ·)
theorem signsL_fuel : ∀ (n m : Nat) (l : List UInt8), l.length ≤ n → l.length ≤ m → signsL n l = signsL m l
  | 0, 0, _, _, _ => rfl
  | 0, m + 1, [], _, _ => rfl
  | 0, m + 1, c :: t, h, _ => by simp at h
  | n + 1, 0, [], _, _ => rfl
  | n + 1, 0, c :: t, _, h => by simp at h
  | n + 1, m + 1, [], _, _ => rfl
  | n + 1, m + 1, c :: t, h1, h2 => by
    rw [signsL, signsL]
    cases hs : signL (c :: t) with
    | none => rfl
    | some p =>
      obtain ⟨g, k⟩ := p
      have hk := signL_pos hs
      have hl : ((c :: t).drop k).length ≤ t.length := by rw [List.length_drop]; simp; omega
      simp only [List.length_cons] at h1 h2
      simp only []
      rw [signsL_fuel n m _ (by omega) (by omega)]

/-- All signs; none: they cannot be read. -/
def signsOf (l : List UInt8) : Option (List Sgn) := signsL l.length l
theorem signsOf_nil : signsOf [] = some [] := rfl
theorem signsOf_none {l : List UInt8} (h0 : l ≠ []) (h : signL l = none) : signsOf l = none := by
  cases l with
  | nil => exact absurd rfl h0
  | cons c t => unfold signsOf; rw [List.length_cons, signsL, h]
theorem signsOf_some {l : List UInt8} {g : Sgn} {k : Nat} (h : signL l = some (g, k)) : signsOf l = (signsOf (l.drop k)).map (g :: ·) := by
  cases l with
  | nil => cases h
  | cons c t =>
    have hk := signL_pos h
    unfold signsOf
    rw [List.length_cons, signsL, h]
    simp only []
    rw [signsL_fuel _ _ _ _ (Nat.le_refl _)]
    rw [List.length_drop]; simp; omega

def pieceB (s : ByteArray) : Bool := match signsOf s.data.toList with | some l => inB l.length 1 12 | none => false
def sgnsOf (s : ByteArray) : List Sgn := (signsOf s.data.toList).getD []
def globB (s : ByteArray) : Bool := decide ((splitS s 47).length ≤ 4) && (splitS s 47).all pieceB

theorem drop_cons (s : ByteArray) (i : Nat) (h : i < s.size) : s.data.toList.drop i = s[i] :: s.data.toList.drop (i + 1) := by
  rw [List.drop_eq_getElem_cons (by rw [len_list]; exact h)]; rfl
theorem drop_end (s : ByteArray) (i : Nat) (h : s.size ≤ i) : s.data.toList.drop i = [] := List.drop_eq_nil_of_le (by rw [len_list]; exact h)

/-- What is read so far, and the rest, are all. -/
def ReadTo (l : List UInt8) (i : Nat) (xs : List Sgn) : Prop := signsOf l = (signsOf (l.drop i)).map (xs ++ ·)
theorem readTo_start (l : List UInt8) : ReadTo l 0 [] := by unfold ReadTo; simp
theorem readTo_step {l : List UInt8} {i k : Nat} {xs : List Sgn} {g : Sgn} (h : ReadTo l i xs) (hs : signL (l.drop i) = some (g, k)) : ReadTo l (i + k) (xs ++ [g]) := by
  unfold ReadTo at *
  rw [h, signsOf_some hs, List.drop_drop, Option.map_map]
  congr 1
  funext ys
  simp
theorem readTo_none {l : List UInt8} {i : Nat} {xs : List Sgn} (h : ReadTo l i xs) (hi : i < l.length) (hs : signL (l.drop i) = none) : signsOf l = none := by
  unfold ReadTo at h
  rw [h, signsOf_none (by intro e; have := congrArg List.length e; rw [List.length_drop] at this; simp at this; omega) hs]; rfl
theorem readTo_end {l : List UInt8} {i : Nat} {xs : List Sgn} (h : ReadTo l i xs) (hi : l.length ≤ i) : signsOf l = some xs := by
  unfold ReadTo at h
  rw [h, List.drop_eq_nil_of_le hi]; simp [signsOf_nil]
/-- Where a thing is left to be read there is one more sign, or none at all can be read. -/
theorem readTo_more {l : List UInt8} {i : Nat} {xs ys : List Sgn} (h : ReadTo l i xs) (hi : i < l.length) (hy : signsOf l = some ys) : xs.length + 1 ≤ ys.length := by
  cases hs : signL (l.drop i) with
  | none => rw [readTo_none h hi hs] at hy; cases hy
  | some p =>
    obtain ⟨g, k⟩ := p
    have h2 := readTo_step h hs
    unfold ReadTo at h2
    rw [hy] at h2
    cases hz : signsOf (l.drop (i + k)) with
    | none => rw [hz] at h2; cases h2
    | some zs =>
      rw [hz] at h2
      simp only [Option.map_some, Option.some.injEq] at h2
      rw [h2]; simp

theorem runL_take {l : List UInt8} {i : Nat} : ∀ (n : Nat), (∀ j, j < n → ∃ c, l[i + j]? = some c ∧ setB (c.toNat : Int) = true) → runL (l.drop i) = n + runL (l.drop (i + n))
  | 0, _ => by simp
  | n + 1, h => by
    rw [runL_take n (fun j hj => h j (by omega))]
    obtain ⟨c, hc, hb⟩ := h n (by omega)
    have hi := (List.getElem?_eq_some_iff.1 hc).1
    have he := (List.getElem?_eq_some_iff.1 hc).2
    rw [List.drop_eq_getElem_cons hi, he, runL, if_pos hb, show i + (n + 1) = i + n + 1 by omega]
    omega
theorem runL_stop {l : List UInt8} (h : ∀ c t, l = c :: t → setB (c.toNat : Int) = false) : runL l = 0 := by
  cases l with
  | nil => rfl
  | cons c t => rw [runL, if_neg (by simp [h c t rfl])]
end Go.Proofs.YtdiopkegaeliaaaDoor

/-! What a filter is, form by form, and that a text cut at its blanks four times says the same as cut at all; no condition (no program stands here). -/
namespace Go.Proofs.YtdiopkegaeliaaaDoor
open Go.RowKit
set_option linter.unusedSimpArgs false
set_option linter.unusedVariables false

def bangT : ByteArray := ⟨#[33]⟩
def dotsT : ByteArray := ⟨#[46, 46, 46]⟩
def sinceT : ByteArray := ⟨#[91, 115, 105, 110, 99, 101, 93]⟩
def hpB (s p : ByteArray) : Bool := Lib.hasPrefix s.data.toList p.data.toList
def hsB (s p : ByteArray) : Bool := Lib.hasSuffix s.data.toList p.data.toList
theorem hp_raw (s p : ByteArray) : (decide (p.size ≤ s.size) && ((s.extract 0 p.size).toList == p.toList)) = hpB s p := Lib.hasPrefix_raw s p
theorem hs_raw (s p : ByteArray) : (decide (p.size ≤ s.size) && ((s.extract (s.size - p.size) s.size).toList == p.toList)) = hsB s p := Lib.hasSuffix_raw s p
theorem hp_le {s p : ByteArray} (h : hpB s p = true) : p.size ≤ s.size := by
  rw [← hp_raw] at h
  simp only [Bool.and_eq_true, decide_eq_true_eq] at h
  exact h.1
theorem hs_le {s p : ByteArray} (h : hsB s p = true) : p.size ≤ s.size := by
  rw [← hs_raw] at h
  simp only [Bool.and_eq_true, decide_eq_true_eq] at h
  exact h.1
/-- What the outermost form of a filter holds; none: it has no such form. -/
def outF (s : ByteArray) : Option ByteArray := if hpB s bangT = true then some (s.extract 1 s.size) else if hpB s dotsT = true then some (s.extract 3 s.size) else if hsB s dotsT = true then some (s.extract 0 (s.size - 3)) else none
def leafB (s : ByteArray) : Bool := decide (s = sinceT) || (pieceB s && decide (s.size ≤ 20))
def oneG : Nat → ByteArray → Bool
  | 0, s => leafB s
  | f + 1, s => match outF s with | some t => oneG f t | none => leafB s
def oneB (s : ByteArray) : Bool := oneG s.size s
theorem outF_lt {s t : ByteArray} (h : outF s = some t) : t.size < s.size := by
  unfold outF at h
  split at h
  · rename_i hh
    have h1 := hp_le hh
    have h2 : bangT.size = 1 := rfl
    cases h
    rw [ByteArray.size_extract]; omega
  split at h
  · rename_i hh
    have h1 := hp_le hh
    have h2 : dotsT.size = 3 := rfl
    cases h
    rw [ByteArray.size_extract]; omega
  split at h
  · rename_i hh
    have h1 := hs_le hh
    have h2 : dotsT.size = 3 := rfl
    cases h
    rw [ByteArray.size_extract]; omega
  · cases h
theorem oneG_some {f : Nat} {s t : ByteArray} (hf : s.size ≤ f) (h : outF s = some t) : oneG f s = oneG (f - 1) t := by
  have h1 := outF_lt h
  cases f with
  | zero => omega
  | succ f => rw [oneG, h]; rfl
theorem oneG_none {f : Nat} {s : ByteArray} (h : outF s = none) : oneG f s = leafB s := by
  cases f with
  | zero => rfl
  | succ f => rw [oneG, h]

/-- A piece of a pattern has no sign that parts pieces. -/
theorem run_set : ∀ (u : List UInt8), ∀ x ∈ u.take (runL u), setB (x.toNat : Int) = true
  | [], x, h => by simp at h
  | c :: t, x, h => by
    unfold runL at h
    split at h
    · rename_i hc
      rw [List.take_succ_cons] at h
      rcases List.mem_cons.1 h with rfl | h
      · exact hc
      · exact run_set t x h
    · simp at h
theorem head_is {n : Nat} {u : List UInt8} (h : headIs n u = true) : ∀ x ∈ u.take 1, x.toNat = n := by
  cases u with
  | nil => cases h
  | cons c t => intro x hx; simp at hx; subst hx; simpa [headIs] using h
theorem sign_no47 {l : List UInt8} {g : Sgn} {k : Nat} (h : signL l = some (g, k)) : ∀ x ∈ l.take k, x ≠ 47 := by
  cases l with
  | nil => cases h
  | cons c t =>
    have one : ∀ (n : Nat), c.toNat = n → n ≠ 47 → ∀ x ∈ (c :: t).take 1, x ≠ 47 := fun n h1 h2 x hx e => by
      simp at hx; subst hx; subst e; exact h2 h1.symm
    rw [signL_cons] at h
    split at h
    · rename_i hc
      unfold setL at h
      split at h
      · rename_i hcond
        simp only [Bool.and_eq_true] at hcond
        cases h
        intro x hx e
        subst e
        obtain ⟨a, ha⟩ : ∃ a, a = (headIs 33 t).toNat := ⟨_, rfl⟩
        rw [← ha] at hx hcond
        rw [show 1 + a + runL (t.drop a) + 1 = (a + (runL (t.drop a) + 1)) + 1 by omega, List.take_succ_cons] at hx
        rcases List.mem_cons.1 hx with e | hx
        · rw [← e] at hc; simp at hc
        rw [List.take_add, List.take_add] at hx
        rcases List.mem_append.1 hx with hx | hx
        · cases hb : headIs 33 t with
          | false => rw [hb] at ha; subst ha; simp at hx
          | true =>
            rw [hb] at ha
            subst ha
            have := head_is hb _ hx
            simp at this
        rcases List.mem_append.1 hx with hx | hx
        · have := run_set _ _ hx
          simp [setB, smallB, digitB] at this
        · have := head_is hcond.1 _ hx
          simp at this
      · cases h
    split at h
    · rename_i hc; cases h; exact one _ hc (by decide)
    split at h
    · rename_i hc; cases h; exact one _ hc (by decide)
    split at h
    · rename_i hc
      cases h
      intro x hx e
      simp at hx
      subst hx
      subst e
      simp [pathC, smallB, digitB] at hc
    · cases h
theorem signs_no47 : ∀ (n : Nat) (l : List UInt8), l.length ≤ n → ∀ gs, signsOf l = some gs → ∀ x ∈ l, x ≠ 47
  | n, [], _, _, _ => fun x hx => nomatch hx
  | 0, c :: t, h, _, _ => by simp at h
  | n + 1, c :: t, h, gs, hg => fun x hx => by
    cases hs : signL (c :: t) with
    | none => rw [signsOf_none (by simp) hs] at hg; cases hg
    | some p =>
      obtain ⟨g, k⟩ := p
      have hk := signL_pos hs
      rw [signsOf_some hs] at hg
      rw [← List.take_append_drop k (c :: t)] at hx
      rcases List.mem_append.1 hx with hx | hx
      · exact sign_no47 hs x hx
      · obtain ⟨gs', hg', _⟩ := Option.map_eq_some_iff.1 hg
        exact signs_no47 n _ (by rw [List.length_drop]; simp at h ⊢; omega) gs' hg' x hx
def slB (s : ByteArray) : Bool := decide (0 ≤ Lib.indexByte s.data.toList 47)
theorem leaf_eq (s : ByteArray) : (decide (s.size ≤ 20) && (!slB s && globB s)) = (pieceB s && decide (s.size ≤ 20)) := by
  have hg := Lib.indexByte_ge s.data.toList 47
  by_cases h : Lib.indexByte s.data.toList 47 = -1
  · have h1 : slB s = false := by unfold slB; rw [h]; rfl
    have e0 : s.extract 0 s.size = s := by simp
    have h2 : splitS s 47 = [s] := by
      rcases search s 47 0 (by omega) (by omega) (by omega) with ⟨_, h2⟩ | ⟨k, h2, _⟩
      · rw [e0, Nat.sub_zero] at h2; exact h2
      · rw [e0] at h2
        have h3 : ((47 : Int).toNat.toUInt8) = 47 := rfl
        rw [h3, h] at h2; omega
    unfold globB
    rw [h1, h2]
    simp [Bool.and_comm]
  · have h1 : slB s = true := by unfold slB; rw [decide_eq_true_iff]; omega
    have h2 : pieceB s = false := by
      cases hp : pieceB s with
      | false => rfl
      | true =>
        unfold pieceB at hp
        cases hs : signsOf s.data.toList with
        | none => rw [hs] at hp; cases hp
        | some gs =>
          obtain ⟨k, hk⟩ := Int.eq_ofNat_of_zero_le (show 0 ≤ Lib.indexByte s.data.toList 47 by omega)
          obtain ⟨hh, _⟩ := Lib.indexByte_some hk
          exact absurd rfl (signs_no47 _ _ (Nat.le_refl _) gs hs 47 (List.mem_of_getElem? hh))
    rw [h1, h2]
    simp

/-- Cut at blanks, all of them; at most four of them. -/
def blankT : ByteArray := ⟨#[32]⟩
def filtB (s : ByteArray) : Bool := decide ((splitS s 32).length ≤ 4) && (splitS s 32).all oneB
theorem splitGo_pos (s : ByteArray) (c : Int) : ∀ n i b, 0 < (splitGo s c n i b).length := fun n => by
  induction n with
  | zero => intro i b; simp [splitGo]
  | succ n ih => intro i b; rw [splitGo]; split <;> simp [ih]
theorem split_few (s : ByteArray) : ∀ (k b : Nat), b ≤ s.size → ((splitGo s 32 (s.size - b) b b).length ≤ k + 1 → Lib.splitB blankT 0 k (s.extract b s.size) = splitGo s 32 (s.size - b) b b) ∧ (k + 1 < (splitGo s 32 (s.size - b) b b).length → (Lib.splitB blankT 0 k (s.extract b s.size)).length = k + 1) := by
  intro k
  induction k with
  | zero =>
    intro b hb
    rw [Lib.splitB_zero]
    rcases search s 32 b hb (by omega) (by omega) with ⟨_, h2⟩ | ⟨j, _, _, h2⟩
    · rw [h2]; exact ⟨fun _ => rfl, fun h => by simp at h⟩
    · rw [h2]
      have := splitGo_pos s 32 (s.size - (b + j + 1)) (b + j + 1) (b + j + 1)
      exact ⟨fun h => by simp only [List.length_cons] at h; omega, fun _ => rfl⟩
  | succ k ih =>
    intro b hb
    have u32 : (32 : Int).toNat.toUInt8 = 32 := rfl
    have hx : Lib.indexB (s.extract b s.size) blankT = Lib.indexByte (s.extract b s.size).data.toList 32 := Lib.index_one _ _
    rcases search s 32 b hb (by omega) (by omega) with ⟨h1, h2⟩ | ⟨j, h1, hj, h2⟩
    · rw [u32, ← hx] at h1
      rw [Lib.splitB_miss _ _ _ _ h1, h2]
      exact ⟨fun _ => rfl, fun h => by simp at h⟩
    · rw [u32, ← hx] at h1
      rw [Lib.splitB_hit _ _ _ _ j h1, h2]
      have e1 : (s.extract b s.size).extract 0 (j + 0) = s.extract b (b + j) := tail_head s b j
      have e2 : (s.extract b s.size).extract (j + blankT.size) (s.extract b s.size).size = s.extract (b + j + 1) s.size := tail_tail s b (j + 1)
      rw [e1, e2]
      obtain ⟨i1, i2⟩ := ih (b + j + 1) (by omega)
      refine ⟨fun h => ?_, fun h => ?_⟩
      · rw [i1 (by simp only [List.length_cons] at h; omega)]
      · rw [List.length_cons, i2 (by simp only [List.length_cons] at h; omega)]
theorem splitGo_len (s : ByteArray) (c : Int) : ∀ n i b, (splitGo s c n i b).length ≤ n + 1 := fun n => by
  induction n with
  | zero => intro i b; simp [splitGo]
  | succ n ih =>
    intro i b
    rw [splitGo]
    have h1 := ih (i + 1) (i + 1)
    have h2 := ih (i + 1) b
    split
    · simp only [List.length_cons]; omega
    · omega
def fewS (s : ByteArray) : List ByteArray := Lib.splitB blankT 0 (min 5 (s.size + 1) - 1) s
theorem few_cases (s : ByteArray) : ((splitS s 32).length ≤ 4 ∧ fewS s = splitS s 32) ∨ (4 < (splitS s 32).length ∧ 4 < (fewS s).length) := by
  have e0 : s.extract 0 s.size = s := by simp
  have h := split_few s (min 5 (s.size + 1) - 1) 0 (by omega)
  rw [e0, Nat.sub_zero] at h
  have hl := splitGo_len s 32 s.size 0 0
  unfold fewS splitS
  by_cases h4 : (splitGo s 32 s.size 0 0).length ≤ 4
  · by_cases h5 : (splitGo s 32 s.size 0 0).length ≤ min 5 (s.size + 1) - 1 + 1
    · exact .inl ⟨h4, h.1 h5⟩
    · omega
  · by_cases h5 : (splitGo s 32 s.size 0 0).length ≤ min 5 (s.size + 1) - 1 + 1
    · right
      rw [h.1 h5]
      omega
    · right
      have := h.2 (by omega)
      omega
theorem few_len (s : ByteArray) : (fewS s).length ≤ min 5 (s.size + 1) := by
  have e0 : s.extract 0 s.size = s := by simp
  have h := split_few s (min 5 (s.size + 1) - 1) 0 (by omega)
  rw [e0, Nat.sub_zero] at h
  unfold fewS
  by_cases h5 : (splitGo s 32 s.size 0 0).length ≤ min 5 (s.size + 1) - 1 + 1
  · rw [h.1 h5]; omega
  · have := h.2 (by omega)
    omega
end Go.Proofs.YtdiopkegaeliaaaDoor

/-! What the specification's functions that look at a pattern answer (a set in brackets, a piece, a pattern): contracts for the walks; condition: the text has at most 2 to the 20 bytes. -/
namespace Go.Proofs.YtdiopkegaeliaaaDoor
open Go.RowKit
set_option linter.unusedSimpArgs false
set_option linter.unusedVariables false

theorem setL_at (l : List UInt8) (i m n : Nat) (hm : (headIs 33 (l.drop (i + 1))).toNat = m) (hn : runL (l.drop (i + 1 + m)) = n) :
    setL (l.drop (i + 1)) = if headIs 93 (l.drop (i + 1 + m + n)) && inB n 1 5 then some (⟨false, headIs 33 (l.drop (i + 1)), (l.drop (i + 1 + m)).take n⟩, 1 + m + n + 1) else none := by
  unfold setL
  have e : (l.drop (i + 1)).drop m = l.drop (i + 1 + m) := by rw [List.drop_drop]
  rw [hm, e, hn, List.drop_drop]

/-- The place behind what stands in brackets; -1: it is none. -/
def classI (s : ByteArray) (i : Nat) : Int := match setL (s.data.toList.drop (i + 1)) with | some (_, k) => ((i + k : Nat) : Int) | none => -1

theorem headIs_at (s : ByteArray) (n i : Nat) (h : i < s.size) : headIs n (s.data.toList.drop i) = ((s[i]).toNat == n) := by rw [drop_cons s i h]; rfl
theorem headIs_end (s : ByteArray) (n i : Nat) (h : s.size ≤ i) : headIs n (s.data.toList.drop i) = false := by rw [drop_end s i h]; rfl
theorem list_at (s : ByteArray) (i : Nat) (h : i < s.size) : s.data.toList[i]? = some s[i] := by
  rw [bang_list s i h, byteBang s i h]

/-- A run of bytes of a set, from place f on, j of them. -/
def RunTo (s : ByteArray) (f j : Nat) : Prop := ∀ i, i < j → ∃ c, s.data.toList[f + i]? = some c ∧ setB (c.toNat : Int) = true
theorem runTo_step {s : ByteArray} {f j : Nat} (h : RunTo s f j) (hk : f + j < s.size) (hb : setB ((s[f + j]).toNat : Int) = true) : RunTo s f (j + 1) := fun i hi => by
  by_cases e : i = j
  · subst e; exact ⟨_, list_at s _ hk, hb⟩
  · exact h i (by omega)
theorem runTo_end {s : ByteArray} {f j : Nat} (h : RunTo s f j) (he : ∀ (hk : f + j < s.size), setB ((s[f + j]).toNat : Int) = false) : runL (s.data.toList.drop f) = j := by
  rw [runL_take j h, runL_stop, Nat.add_zero]
  intro c t hc
  by_cases hk : f + j < s.size
  · rw [drop_cons s _ hk] at hc
    cases hc
    exact he hk
  · rw [drop_end s _ (by omega)] at hc
    cases hc
theorem classI_of {s : ByteArray} {i m n : Nat} (hm : (headIs 33 (s.data.toList.drop (i + 1))).toNat = m) (hn : runL (s.data.toList.drop (i + 1 + m)) = n) :
    classI s i = if headIs 93 (s.data.toList.drop (i + 1 + m + n)) && inB n 1 5 then ((i + 1 + m + n + 1 : Nat) : Int) else -1 := by
  unfold classI
  rw [setL_at _ i m n hm hn]
  split
  · rename_i h
    split at h
    · cases h
      rename_i hc
      rw [if_pos hc]
      omega
    · cases h
  · rename_i h
    split at h
    · cases h
    · rename_i hc
      rw [if_neg hc]

set_option maxHeartbeats 2000000 in
theorem class6_c (s : ByteArray) (i : Nat) (hi : i < s.size) (hs : s.size ≤ 1048576) (w : World) :
    Calls Tryd.prog 15 #[.string s, .int .i64 (i : Int)] w fun e w' => e = .returned (.int .i64 (classI s i)) ∧ w = w' := by
  by_cases h0 : i + 1 < s.size
  · have h0i : (i : Int) + 1 < (s.size : Int) := by omega
    cases hb : ((s[i + 1]).toNat == 33) with
    | true =>
      have hbi : (((s[i + 1]).toNat : Int) == 33) = true := by simp at hb ⊢; omega
      have HM : Hid ((headIs 33 (s.data.toList.drop (i + 1))).toNat = 1) := by show _ = _; rw [headIs_at s 33 _ h0, hb]; rfl
      go_enter Tryd.func15, Tryd.ntmps15
      go_wp2

      go_loop [5, 6] (fun v5 v6 => ∃ (j k : Nat), v5 = .int .i64 (k : Int) ∧ v6 = .int .i64 (j : Int) ∧ k ≤ s.size ∧ j ≤ k ∧ Hid (k = i + 1 + 1 + j ∧ RunTo s (i + 1 + 1) j)) (fun v5 _ => s.size - (intOf v5).toNat)
      case atStart => exact ⟨0, i + 1 + 1, by go_num, rfl, by omega, by omega, ⟨by omega, fun _ h => absurd h (by omega)⟩⟩
      case round =>
        obtain ⟨j, k, rfl, rfl, hk, hjk, hh⟩ := hrel
        by_cases hlt : k < s.size
        · have hki : (k : Int) < (s.size : Int) := by omega
          have hki2 : ¬ (s.size : Int) ≤ (k : Int) := by omega
          cases h1 : smallB ((s[k]).toNat : Int) with
          | true =>
            go_wp2_with (first
              | (go_at_call 25; refine (small_c _ (byte0 _) (byte255 _) _).mono ?_; rintro e w' ⟨rfl, rfl⟩; rw [h1]))
            go_round
            case rel => exact ⟨j + 1, k + 1, by go_num, by go_num, by omega, by omega, ⟨by have := hh.out.1; omega, by obtain ⟨rfl, h⟩ := hh.out; exact runTo_step h hlt (by simp [setB, h1])⟩⟩
            case measure => simp [intOf]; omega
          | false =>
            cases h2 : digitB ((s[k]).toNat : Int) with
            | true =>
              go_wp2_with (first
                | (go_at_call 25; refine (small_c _ (byte0 _) (byte255 _) _).mono ?_; rintro e w' ⟨rfl, rfl⟩; rw [h1])
                | (go_at_call 26; refine (digit_c _ (byte0 _) (byte255 _) _).mono ?_; rintro e w' ⟨rfl, rfl⟩; rw [h2]))
              go_round
              case rel => exact ⟨j + 1, k + 1, by go_num, by go_num, by omega, by omega, ⟨by have := hh.out.1; omega, by obtain ⟨rfl, h⟩ := hh.out; exact runTo_step h hlt (by simp [setB, h2])⟩⟩
              case measure => simp [intOf]; omega
            | false =>
              have HE : Hid (classI s i = if ((s[k]).toNat == 93) && inB j 1 5 then ((k + 1 : Nat) : Int) else -1) := by
                obtain ⟨rfl, h⟩ := hh.out
                have hr := runTo_end h (fun hk => by simp [setB, h1, h2])
                show _ = _
                rw [classI_of HM.out hr, headIs_at s 93 _ hlt]
              cases hin : inB j 1 5 with
              | false =>
                go_wp2_with (first
                  | (go_at_call 25; refine (small_c _ (byte0 _) (byte255 _) _).mono ?_; rintro e w' ⟨rfl, rfl⟩; rw [h1])
                  | (go_at_call 26; refine (digit_c _ (byte0 _) (byte255 _) _).mono ?_; rintro e w' ⟨rfl, rfl⟩; rw [h2])
                  | (go_at_call 17; refine (in_c _ _ _ _).mono ?_; rintro e w' ⟨rfl, rfl⟩; rw [hin]))
                go_ret
                exact ⟨by rw [HE.out, hin]; simp, rfl⟩
              | true =>
                cases h93 : ((s[k]).toNat == 93) with
                | true =>
                  have h93' : (((s[k]).toNat : Int) != 93) = false := by simp at h93 ⊢; omega
                  go_wp2_with (first
                    | (go_at_call 25; refine (small_c _ (byte0 _) (byte255 _) _).mono ?_; rintro e w' ⟨rfl, rfl⟩; rw [h1])
                    | (go_at_call 26; refine (digit_c _ (byte0 _) (byte255 _) _).mono ?_; rintro e w' ⟨rfl, rfl⟩; rw [h2])
                    | (go_at_call 17; refine (in_c _ _ _ _).mono ?_; rintro e w' ⟨rfl, rfl⟩; rw [hin]))
                  go_ret
                  exact ⟨by rw [HE.out, hin, h93]; simp, rfl⟩
                | false =>
                  have h93' : (((s[k]).toNat : Int) != 93) = true := by simp at h93 ⊢; omega
                  go_wp2_with (first
                    | (go_at_call 25; refine (small_c _ (byte0 _) (byte255 _) _).mono ?_; rintro e w' ⟨rfl, rfl⟩; rw [h1])
                    | (go_at_call 26; refine (digit_c _ (byte0 _) (byte255 _) _).mono ?_; rintro e w' ⟨rfl, rfl⟩; rw [h2])
                    | (go_at_call 17; refine (in_c _ _ _ _).mono ?_; rintro e w' ⟨rfl, rfl⟩; rw [hin]))
                  go_ret
                  exact ⟨by rw [HE.out, hin, h93]; simp, rfl⟩
        · have hki : ¬ (k : Int) < (s.size : Int) := by omega
          have hki2 : (s.size : Int) ≤ (k : Int) := by omega
          have HE : Hid (classI s i = -1) := by
            obtain ⟨rfl, h⟩ := hh.out
            have hr := runTo_end h (fun hk => absurd hk hlt)
            show _ = _
            rw [classI_of HM.out hr, headIs_end s 93 _ (by omega)]; rfl
          cases hin : inB j 1 5 with
          | false =>
            go_wp2_with (go_at_call 17; refine (in_c _ _ _ _).mono ?_; rintro e w' ⟨rfl, rfl⟩; rw [hin])
            go_ret
            exact ⟨by rw [HE.out]; rfl, rfl⟩
          | true =>
            go_wp2_with (go_at_call 17; refine (in_c _ _ _ _).mono ?_; rintro e w' ⟨rfl, rfl⟩; rw [hin])
            go_ret
            exact ⟨by rw [HE.out]; rfl, rfl⟩

    | false =>
      have hbi : (((s[i + 1]).toNat : Int) == 33) = false := by simp at hb ⊢; omega
      have HM : Hid ((headIs 33 (s.data.toList.drop (i + 1))).toNat = 0) := by show _ = _; rw [headIs_at s 33 _ h0, hb]; rfl
      go_enter Tryd.func15, Tryd.ntmps15
      go_wp2

      go_loop [5, 6] (fun v5 v6 => ∃ (j k : Nat), v5 = .int .i64 (k : Int) ∧ v6 = .int .i64 (j : Int) ∧ k ≤ s.size ∧ j ≤ k ∧ Hid (k = i + 1 + 0 + j ∧ RunTo s (i + 1 + 0) j)) (fun v5 _ => s.size - (intOf v5).toNat)
      case atStart => exact ⟨0, i + 1 + 0, by go_num, rfl, by omega, by omega, ⟨by omega, fun _ h => absurd h (by omega)⟩⟩
      case round =>
        obtain ⟨j, k, rfl, rfl, hk, hjk, hh⟩ := hrel
        by_cases hlt : k < s.size
        · have hki : (k : Int) < (s.size : Int) := by omega
          have hki2 : ¬ (s.size : Int) ≤ (k : Int) := by omega
          cases h1 : smallB ((s[k]).toNat : Int) with
          | true =>
            go_wp2_with (first
              | (go_at_call 25; refine (small_c _ (byte0 _) (byte255 _) _).mono ?_; rintro e w' ⟨rfl, rfl⟩; rw [h1]))
            go_round
            case rel => exact ⟨j + 1, k + 1, by go_num, by go_num, by omega, by omega, ⟨by have := hh.out.1; omega, by obtain ⟨rfl, h⟩ := hh.out; exact runTo_step h hlt (by simp [setB, h1])⟩⟩
            case measure => simp [intOf]; omega
          | false =>
            cases h2 : digitB ((s[k]).toNat : Int) with
            | true =>
              go_wp2_with (first
                | (go_at_call 25; refine (small_c _ (byte0 _) (byte255 _) _).mono ?_; rintro e w' ⟨rfl, rfl⟩; rw [h1])
                | (go_at_call 26; refine (digit_c _ (byte0 _) (byte255 _) _).mono ?_; rintro e w' ⟨rfl, rfl⟩; rw [h2]))
              go_round
              case rel => exact ⟨j + 1, k + 1, by go_num, by go_num, by omega, by omega, ⟨by have := hh.out.1; omega, by obtain ⟨rfl, h⟩ := hh.out; exact runTo_step h hlt (by simp [setB, h2])⟩⟩
              case measure => simp [intOf]; omega
            | false =>
              have HE : Hid (classI s i = if ((s[k]).toNat == 93) && inB j 1 5 then ((k + 1 : Nat) : Int) else -1) := by
                obtain ⟨rfl, h⟩ := hh.out
                have hr := runTo_end h (fun hk => by simp [setB, h1, h2])
                show _ = _
                rw [classI_of HM.out hr, headIs_at s 93 _ hlt]
              cases hin : inB j 1 5 with
              | false =>
                go_wp2_with (first
                  | (go_at_call 25; refine (small_c _ (byte0 _) (byte255 _) _).mono ?_; rintro e w' ⟨rfl, rfl⟩; rw [h1])
                  | (go_at_call 26; refine (digit_c _ (byte0 _) (byte255 _) _).mono ?_; rintro e w' ⟨rfl, rfl⟩; rw [h2])
                  | (go_at_call 17; refine (in_c _ _ _ _).mono ?_; rintro e w' ⟨rfl, rfl⟩; rw [hin]))
                go_ret
                exact ⟨by rw [HE.out, hin]; simp, rfl⟩
              | true =>
                cases h93 : ((s[k]).toNat == 93) with
                | true =>
                  have h93' : (((s[k]).toNat : Int) != 93) = false := by simp at h93 ⊢; omega
                  go_wp2_with (first
                    | (go_at_call 25; refine (small_c _ (byte0 _) (byte255 _) _).mono ?_; rintro e w' ⟨rfl, rfl⟩; rw [h1])
                    | (go_at_call 26; refine (digit_c _ (byte0 _) (byte255 _) _).mono ?_; rintro e w' ⟨rfl, rfl⟩; rw [h2])
                    | (go_at_call 17; refine (in_c _ _ _ _).mono ?_; rintro e w' ⟨rfl, rfl⟩; rw [hin]))
                  go_ret
                  exact ⟨by rw [HE.out, hin, h93]; simp, rfl⟩
                | false =>
                  have h93' : (((s[k]).toNat : Int) != 93) = true := by simp at h93 ⊢; omega
                  go_wp2_with (first
                    | (go_at_call 25; refine (small_c _ (byte0 _) (byte255 _) _).mono ?_; rintro e w' ⟨rfl, rfl⟩; rw [h1])
                    | (go_at_call 26; refine (digit_c _ (byte0 _) (byte255 _) _).mono ?_; rintro e w' ⟨rfl, rfl⟩; rw [h2])
                    | (go_at_call 17; refine (in_c _ _ _ _).mono ?_; rintro e w' ⟨rfl, rfl⟩; rw [hin]))
                  go_ret
                  exact ⟨by rw [HE.out, hin, h93]; simp, rfl⟩
        · have hki : ¬ (k : Int) < (s.size : Int) := by omega
          have hki2 : (s.size : Int) ≤ (k : Int) := by omega
          have HE : Hid (classI s i = -1) := by
            obtain ⟨rfl, h⟩ := hh.out
            have hr := runTo_end h (fun hk => absurd hk hlt)
            show _ = _
            rw [classI_of HM.out hr, headIs_end s 93 _ (by omega)]; rfl
          cases hin : inB j 1 5 with
          | false =>
            go_wp2_with (go_at_call 17; refine (in_c _ _ _ _).mono ?_; rintro e w' ⟨rfl, rfl⟩; rw [hin])
            go_ret
            exact ⟨by rw [HE.out]; rfl, rfl⟩
          | true =>
            go_wp2_with (go_at_call 17; refine (in_c _ _ _ _).mono ?_; rintro e w' ⟨rfl, rfl⟩; rw [hin])
            go_ret
            exact ⟨by rw [HE.out]; rfl, rfl⟩

  · have h0i : ¬ (i : Int) + 1 < (s.size : Int) := by omega
    have HM : Hid ((headIs 33 (s.data.toList.drop (i + 1))).toNat = 0) := by show _ = _; rw [headIs_end s 33 _ (by omega)]; rfl
    go_enter Tryd.func15, Tryd.ntmps15
    go_wp2

    go_loop [5, 6] (fun v5 v6 => ∃ (j k : Nat), v5 = .int .i64 (k : Int) ∧ v6 = .int .i64 (j : Int) ∧ k ≤ s.size ∧ j ≤ k ∧ Hid (k = i + 1 + 0 + j ∧ RunTo s (i + 1 + 0) j)) (fun v5 _ => s.size - (intOf v5).toNat)
    case atStart => exact ⟨0, i + 1 + 0, by go_num, rfl, by omega, by omega, ⟨by omega, fun _ h => absurd h (by omega)⟩⟩
    case round =>
      obtain ⟨j, k, rfl, rfl, hk, hjk, hh⟩ := hrel
      by_cases hlt : k < s.size
      · have hki : (k : Int) < (s.size : Int) := by omega
        have hki2 : ¬ (s.size : Int) ≤ (k : Int) := by omega
        cases h1 : smallB ((s[k]).toNat : Int) with
        | true =>
          go_wp2_with (first
            | (go_at_call 25; refine (small_c _ (byte0 _) (byte255 _) _).mono ?_; rintro e w' ⟨rfl, rfl⟩; rw [h1]))
          go_round
          case rel => exact ⟨j + 1, k + 1, by go_num, by go_num, by omega, by omega, ⟨by have := hh.out.1; omega, by obtain ⟨rfl, h⟩ := hh.out; exact runTo_step h hlt (by simp [setB, h1])⟩⟩
          case measure => simp [intOf]; omega
        | false =>
          cases h2 : digitB ((s[k]).toNat : Int) with
          | true =>
            go_wp2_with (first
              | (go_at_call 25; refine (small_c _ (byte0 _) (byte255 _) _).mono ?_; rintro e w' ⟨rfl, rfl⟩; rw [h1])
              | (go_at_call 26; refine (digit_c _ (byte0 _) (byte255 _) _).mono ?_; rintro e w' ⟨rfl, rfl⟩; rw [h2]))
            go_round
            case rel => exact ⟨j + 1, k + 1, by go_num, by go_num, by omega, by omega, ⟨by have := hh.out.1; omega, by obtain ⟨rfl, h⟩ := hh.out; exact runTo_step h hlt (by simp [setB, h2])⟩⟩
            case measure => simp [intOf]; omega
          | false =>
            have HE : Hid (classI s i = if ((s[k]).toNat == 93) && inB j 1 5 then ((k + 1 : Nat) : Int) else -1) := by
              obtain ⟨rfl, h⟩ := hh.out
              have hr := runTo_end h (fun hk => by simp [setB, h1, h2])
              show _ = _
              rw [classI_of HM.out hr, headIs_at s 93 _ hlt]
            cases hin : inB j 1 5 with
            | false =>
              go_wp2_with (first
                | (go_at_call 25; refine (small_c _ (byte0 _) (byte255 _) _).mono ?_; rintro e w' ⟨rfl, rfl⟩; rw [h1])
                | (go_at_call 26; refine (digit_c _ (byte0 _) (byte255 _) _).mono ?_; rintro e w' ⟨rfl, rfl⟩; rw [h2])
                | (go_at_call 17; refine (in_c _ _ _ _).mono ?_; rintro e w' ⟨rfl, rfl⟩; rw [hin]))
              go_ret
              exact ⟨by rw [HE.out, hin]; simp, rfl⟩
            | true =>
              cases h93 : ((s[k]).toNat == 93) with
              | true =>
                have h93' : (((s[k]).toNat : Int) != 93) = false := by simp at h93 ⊢; omega
                go_wp2_with (first
                  | (go_at_call 25; refine (small_c _ (byte0 _) (byte255 _) _).mono ?_; rintro e w' ⟨rfl, rfl⟩; rw [h1])
                  | (go_at_call 26; refine (digit_c _ (byte0 _) (byte255 _) _).mono ?_; rintro e w' ⟨rfl, rfl⟩; rw [h2])
                  | (go_at_call 17; refine (in_c _ _ _ _).mono ?_; rintro e w' ⟨rfl, rfl⟩; rw [hin]))
                go_ret
                exact ⟨by rw [HE.out, hin, h93]; simp, rfl⟩
              | false =>
                have h93' : (((s[k]).toNat : Int) != 93) = true := by simp at h93 ⊢; omega
                go_wp2_with (first
                  | (go_at_call 25; refine (small_c _ (byte0 _) (byte255 _) _).mono ?_; rintro e w' ⟨rfl, rfl⟩; rw [h1])
                  | (go_at_call 26; refine (digit_c _ (byte0 _) (byte255 _) _).mono ?_; rintro e w' ⟨rfl, rfl⟩; rw [h2])
                  | (go_at_call 17; refine (in_c _ _ _ _).mono ?_; rintro e w' ⟨rfl, rfl⟩; rw [hin]))
                go_ret
                exact ⟨by rw [HE.out, hin, h93]; simp, rfl⟩
      · have hki : ¬ (k : Int) < (s.size : Int) := by omega
        have hki2 : (s.size : Int) ≤ (k : Int) := by omega
        have HE : Hid (classI s i = -1) := by
          obtain ⟨rfl, h⟩ := hh.out
          have hr := runTo_end h (fun hk => absurd hk hlt)
          show _ = _
          rw [classI_of HM.out hr, headIs_end s 93 _ (by omega)]; rfl
        cases hin : inB j 1 5 with
        | false =>
          go_wp2_with (go_at_call 17; refine (in_c _ _ _ _).mono ?_; rintro e w' ⟨rfl, rfl⟩; rw [hin])
          go_ret
          exact ⟨by rw [HE.out]; rfl, rfl⟩
        | true =>
          go_wp2_with (go_at_call 17; refine (in_c _ _ _ _).mono ?_; rintro e w' ⟨rfl, rfl⟩; rw [hin])
          go_ret
          exact ⟨by rw [HE.out]; rfl, rfl⟩

end Go.Proofs.YtdiopkegaeliaaaDoor

/-! What the specification's functions that look at a piece and at a pattern answer: contracts for the walks; condition: the text has at most 2 to the 20 bytes. -/
namespace Go.Proofs.YtdiopkegaeliaaaDoor
open Go.RowKit
set_option linter.unusedSimpArgs false
set_option linter.unusedVariables false

theorem headIs_pos {n : Nat} {l : List UInt8} (h : headIs n l = true) : 0 < l.length := by
  cases l with
  | nil => cases h
  | cons c t => simp
theorem headIs_len {n : Nat} {l : List UInt8} : (headIs n l).toNat ≤ l.length := by
  cases l with
  | nil => simp [headIs]
  | cons c t => have : (headIs n (c :: t)).toNat ≤ 1 := Bool.toNat_le _; simp; omega
theorem setL_le {t : List UInt8} {g : Sgn} {k : Nat} (h : setL t = some (g, k)) : k ≤ t.length + 1 := by
  unfold setL at h
  split at h
  · rename_i hc
    rw [Bool.and_eq_true] at hc
    have h1 := headIs_pos hc.1
    rw [List.drop_drop, List.length_drop] at h1
    cases h
    omega
  · cases h
theorem signL_le {l : List UInt8} {g : Sgn} {k : Nat} (h : signL l = some (g, k)) : k ≤ l.length := by
  cases l with
  | nil => cases h
  | cons c t =>
    rw [signL_cons] at h
    simp only [List.length_cons]
    split at h
    · exact setL_le h
    split at h
    · cases h; omega
    split at h
    · cases h; omega
    split at h
    · cases h; omega
    · cases h

theorem signL_set {s : ByteArray} {i : Nat} (hi : i < s.size) (h : (s[i]).toNat = 91) : signL (s.data.toList.drop i) = setL (s.data.toList.drop (i + 1)) := by
  rw [drop_cons s i hi, signL_cons, if_pos h]
theorem signL_star {s : ByteArray} {i : Nat} (hi : i < s.size) (h : (s[i]).toNat = 42) : signL (s.data.toList.drop i) = some (⟨true, false, []⟩, 1) := by
  rw [drop_cons s i hi, signL_cons, if_neg (by omega), if_pos h]
theorem signL_any {s : ByteArray} {i : Nat} (hi : i < s.size) (h : (s[i]).toNat = 63) : signL (s.data.toList.drop i) = some (⟨false, true, []⟩, 1) := by
  rw [drop_cons s i hi, signL_cons, if_neg (by omega), if_neg (by omega), if_pos h]
theorem pathC_not {n : Nat} (h : pathC (n : Int) = true) : n ≠ 91 ∧ n ≠ 42 ∧ n ≠ 63 ∧ n ≠ 33 := by
  refine ⟨?_, ?_, ?_, ?_⟩ <;> (rintro rfl; exact absurd h (by decide))
theorem signL_path {s : ByteArray} {i : Nat} (hi : i < s.size) (h : pathC ((s[i]).toNat : Int) = true) : signL (s.data.toList.drop i) = some (⟨false, false, [s[i]]⟩, 1) := by
  obtain ⟨h1, h2, h3, _⟩ := pathC_not h
  rw [drop_cons s i hi, signL_cons, if_neg h1, if_neg h2, if_neg h3, if_pos h]
theorem signL_bad {s : ByteArray} {i : Nat} (hi : i < s.size) (h1 : (s[i]).toNat ≠ 91) (h2 : (s[i]).toNat ≠ 42) (h3 : (s[i]).toNat ≠ 63) (h : pathC ((s[i]).toNat : Int) = false) : signL (s.data.toList.drop i) = none := by
  rw [drop_cons s i hi, signL_cons, if_neg h1, if_neg h2, if_neg h3, if_neg (by simp [h])]

theorem pieceB_none {s : ByteArray} (h : signsOf s.data.toList = none) : pieceB s = false := by unfold pieceB; rw [h]
theorem pieceB_some {s : ByteArray} {l : List Sgn} (h : signsOf s.data.toList = some l) : pieceB s = inB l.length 1 12 := by unfold pieceB; rw [h]

theorem readTo_bad {s : ByteArray} {i : Nat} {xs : List Sgn} (h : ReadTo s.data.toList i xs) (hi : i < s.size) (hs : signL (s.data.toList.drop i) = none) : pieceB s = false :=
  pieceB_none (readTo_none h (by rw [len_list]; exact hi) hs)
theorem readTo_all {s : ByteArray} {i : Nat} {xs : List Sgn} (h : ReadTo s.data.toList i xs) (hi : s.size ≤ i) : pieceB s = inB xs.length 1 12 :=
  pieceB_some (readTo_end h (by rw [len_list]; exact hi))
theorem signL_in {s : ByteArray} {i k : Nat} {g : Sgn} (hi : i < s.size) (h : signL (s.data.toList.drop i) = some (g, k)) : i + k ≤ s.size := by
  have := signL_le h
  rw [List.length_drop, len_list] at this
  omega

set_option maxHeartbeats 2000000 in
theorem piece6_c (s : ByteArray) (hs : s.size ≤ 1048576) (w : World) :
    Calls Tryd.prog 11 #[.string s] w fun e w' => e = .returned (.bool (pieceB s)) ∧ w = w' := by
  go_enter Tryd.func11, Tryd.ntmps11
  go_wp2
  go_loop [3, 4] (fun v3 v4 => ∃ (n i : Nat), v3 = .int .i64 (n : Int) ∧ v4 = .int .i64 (i : Int) ∧ i ≤ s.size ∧ n ≤ i ∧ Hid (∃ xs, xs.length = n ∧ ReadTo s.data.toList i xs)) (fun _ v4 => s.size - (intOf v4).toNat)
  case atStart => exact ⟨0, 0, rfl, rfl, by omega, by omega, ⟨[], rfl, readTo_start _⟩⟩
  case round =>
    obtain ⟨n, i, rfl, rfl, hi, hn, HH⟩ := hrel
    by_cases hlt : i < s.size
    · have hki : (i : Int) < (s.size : Int) := by omega
      have HG : Hid (∀ g k, signL (s.data.toList.drop i) = some (g, k) → 1 ≤ k ∧ i + k ≤ s.size ∧ ∃ xs, xs.length = n + 1 ∧ ReadTo s.data.toList (i + k) xs) := fun g k h => by
        obtain ⟨xs, h1, h2⟩ := HH.out
        exact ⟨signL_pos h, signL_in hlt h, xs ++ [g], by simp [h1], readTo_step h2 h⟩
      have HB : Hid (signL (s.data.toList.drop i) = none → pieceB s = false) := fun h => by
        obtain ⟨xs, h1, h2⟩ := HH.out
        exact readTo_bad h2 hlt h
      by_cases h91 : (s[i]).toNat = 91
      · have h91' : (((s[i]).toNat : Int) == 91) = true := by simp; omega
        have HS : Hid (signL (s.data.toList.drop i) = setL (s.data.toList.drop (i + 1))) := signL_set hlt h91
        cases hc : setL (s.data.toList.drop (i + 1)) with
        | none =>
          have hv : classI s i = -1 := by unfold classI; rw [hc]
          have HP : Hid (pieceB s = false) := HB.out (by rw [HS.out, hc])
          clear hc HS HB HG h91
          go_wp2_with (go_at_call 15; refine (class6_c s i hlt hs _).mono ?_; rintro e w' ⟨rfl, rfl⟩; rw [hv])
          go_ret
          exact ⟨by rw [HP.out]; rfl, rfl⟩
        | some p =>
          obtain ⟨g, k⟩ := p
          have hv : classI s i = ((i + k : Nat) : Int) := by unfold classI; rw [hc]
          obtain ⟨q1, q2, q3⟩ := HG.out g k (by rw [HS.out, hc])
          have HQ : Hid (∃ xs, xs.length = n + 1 ∧ ReadTo s.data.toList (i + k) xs) := q3
          obtain ⟨j, hj⟩ : ∃ j, j = i + k := ⟨_, rfl⟩
          rw [← hj] at hv HQ q2
          have hnj : n + 1 ≤ j ∧ i < j := by omega
          have hj0 : ¬ (j : Int) < 0 := by omega
          clear hc HS HB HG q3 h91 hj q1
          go_wp2_with (go_at_call 15; refine (class6_c s i hlt hs _).mono ?_; rintro e w' ⟨rfl, rfl⟩; rw [hv])
          go_round
          case rel => exact ⟨n + 1, j, by go_num, rfl, q2, hnj.1, HQ⟩
          case measure => simp [intOf]; omega
      · have h91' : (((s[i]).toNat : Int) == 91) = false := by simp; omega
        cases hp : pathC ((s[i]).toNat : Int) with
        | true =>
          obtain ⟨_, q2, q3⟩ := HG.out _ _ (signL_path hlt hp)
          have HQ : Hid (∃ xs, xs.length = n + 1 ∧ ReadTo s.data.toList (i + 1) xs) := q3
          clear HB HG q3 h91
          go_wp2_with (go_at_call 16; refine (letter5_c _ (byte0 _) (byte255 _) _).mono ?_; rintro e w' ⟨rfl, rfl⟩; rw [hp])
          go_round
          case rel => exact ⟨n + 1, i + 1, by go_num, by go_num, by omega, by omega, HQ⟩
          case measure => simp [intOf]; omega
        | false =>
          by_cases h63 : (s[i]).toNat = 63
          · have h63' : (((s[i]).toNat : Int) == 63) = true := by simp; omega
            obtain ⟨_, q2, q3⟩ := HG.out _ _ (signL_any hlt h63)
            have HQ : Hid (∃ xs, xs.length = n + 1 ∧ ReadTo s.data.toList (i + 1) xs) := q3
            clear HB HG q3 h91 h63
            go_wp2_with (go_at_call 16; refine (letter5_c _ (byte0 _) (byte255 _) _).mono ?_; rintro e w' ⟨rfl, rfl⟩; rw [hp])
            go_round
            case rel => exact ⟨n + 1, i + 1, by go_num, by go_num, by omega, by omega, HQ⟩
            case measure => simp [intOf]; omega
          · have h63' : (((s[i]).toNat : Int) == 63) = false := by simp; omega
            by_cases h42 : (s[i]).toNat = 42
            · have h42' : (((s[i]).toNat : Int) == 42) = true := by simp; omega
              obtain ⟨_, q2, q3⟩ := HG.out _ _ (signL_star hlt h42)
              have HQ : Hid (∃ xs, xs.length = n + 1 ∧ ReadTo s.data.toList (i + 1) xs) := q3
              clear HB HG q3 h91 h63 h42
              go_wp2_with (go_at_call 16; refine (letter5_c _ (byte0 _) (byte255 _) _).mono ?_; rintro e w' ⟨rfl, rfl⟩; rw [hp])
              go_round
              case rel => exact ⟨n + 1, i + 1, by go_num, by go_num, by omega, by omega, HQ⟩
              case measure => simp [intOf]; omega
            · have h42' : (((s[i]).toNat : Int) == 42) = false := by simp; omega
              have HP : Hid (pieceB s = false) := HB.out (signL_bad hlt h91 h42 h63 hp)
              clear HB HG h91 h63 h42
              go_wp2_with (go_at_call 16; refine (letter5_c _ (byte0 _) (byte255 _) _).mono ?_; rintro e w' ⟨rfl, rfl⟩; rw [hp])
              go_ret
              exact ⟨by rw [HP.out]; rfl, rfl⟩
    · have hki : ¬ (i : Int) < (s.size : Int) := by omega
      have HP : Hid (pieceB s = inB n 1 12) := by
        obtain ⟨xs, h1, h2⟩ := HH.out
        show _ = _
        rw [readTo_all h2 (by omega), h1]
      go_wp2_with (go_at_call 17; refine (in_c _ _ _ _).mono ?_; rintro e w' ⟨rfl, rfl⟩)
      go_ret
      exact ⟨by rw [HP.out]; rfl, rfl⟩

theorem pieceB_stars {s : ByteArray} (h : s.toList = [42, 42]) : pieceB s = true := by
  have e : s.data.toList = [42, 42] := by rw [← Lib.toList_data]; exact h
  rw [pieceB_some (l := [⟨true, false, []⟩, ⟨true, false, []⟩]) (by rw [e]; rfl)]
  rfl

end Go.Proofs.YtdiopkegaeliaaaDoor

/-! What is kept of memory between two worlds, block by block, and lists of texts that lie in blocks of a set S: no condition. -/
namespace Go.Proofs.YtdiopkegaeliaaaDoor
open Go.RowKit
set_option linter.unusedSimpArgs false
set_option linter.unusedVariables false

/-- In blocks of S the world w' is as w was. -/
def Kp (S : Nat → Prop) (w w' : World) : Prop := ∀ b, S b → w'.heap[b]? = w.heap[b]?
theorem Kp.cell {S : Nat → Prop} {w w' : World} (h : Kp S w w') {b : Nat} (hb : S b) (o : Nat) : w'.cell? ⟨b, o, none⟩ = w.cell? ⟨b, o, none⟩ := World.cell?_of_block (w := w) (h b hb)
theorem Kp.trans {S : Nat → Prop} {a b c : World} (h : Kp S a b) (k : Kp S b c) : Kp S a c := fun i hi => (k i hi).trans (h i hi)
theorem Kp.of {S : Nat → Prop} {B : Nat} {w w' : World} (hb : Below B w w') (hS : ∀ b, S b → b < B) : Kp S w w' := fun b h => hb.block b (hS b h)
theorem Kp.set {S : Nat → Prop} {w : World} {g j : Nat} {v : Value} (h : ¬ S g) : Kp S w (w.setCell ⟨g, j, none⟩ v) := fun b hb => Below.heap_setCell w ⟨g, j, none⟩ v b (fun e => by have e' : b = g := e; subst e'; exact h hb)

/-- The blocks from lo on, below hi. -/
def Ow (lo hi : Nat) (b : Nat) : Prop := lo ≤ b ∧ b < hi
theorem Ow.mono {lo lo' hi hi' : Nat} (h1 : lo' ≤ lo) (h2 : hi ≤ hi') : ∀ b, Ow lo hi b → Ow lo' hi' b := fun b h => ⟨Nat.le_trans h1 h.1, Nat.lt_of_lt_of_le h.2 h2⟩
theorem Ow.below {lo : Nat} {w w' : World} (h : Below w.heap.size w w') : Kp (Ow lo w.heap.size) w w' := fun b hb => h.block b hb.2
theorem Ow.not {lo hi g : Nat} (h : g < lo) : ¬ Ow lo hi g := fun k => by have := k.1; omega

/-- A list of texts that lies in blocks of S. -/
def RdB (S : Nat → Prop) (w : World) (v : Value) (xs : List Value) : Prop :=
  ∃ a cap, v = .slice a xs.length cap ∧ xs.length ≤ cap ∧ (xs = [] ∨ ∃ b off, a = some ⟨b, off, none⟩ ∧ S b ∧ ∀ k (h : k < xs.length), w.cell? ⟨b, off + k, none⟩ = some xs[k])
theorem RdB.reads {S : Nat → Prop} {w : World} {v : Value} {xs : List Value} (h : RdB S w v xs) (hS : ∀ b, S b → b < w.heap.size) : Reads w v xs := by
  obtain ⟨a, cap, hv, hc, h⟩ := h
  refine ⟨a, cap, hv, hc, ?_⟩
  rcases h with h | ⟨b, off, ha, hb, h⟩
  · exact .inl h
  · exact .inr ⟨b, off, ha, hS b hb, h⟩
theorem RdB.of {w : World} {v : Value} {xs : List Value} (h : Reads w v xs) : RdB (· < w.heap.size) w v xs := h
theorem RdB.keep {S : Nat → Prop} {w w' : World} {v : Value} {xs : List Value} (hb : Kp S w w') (h : RdB S w v xs) : RdB S w' v xs := by
  obtain ⟨a, cap, hv, hc, h⟩ := h
  refine ⟨a, cap, hv, hc, ?_⟩
  rcases h with h | ⟨b, off, ha, hlt, h⟩
  · exact .inl h
  · exact .inr ⟨b, off, ha, hlt, fun k hk => (hb.cell hlt _).trans (h k hk)⟩
theorem RdB.mono {S S' : Nat → Prop} {w : World} {v : Value} {xs : List Value} (hB : ∀ b, S b → S' b) (h : RdB S w v xs) : RdB S' w v xs := by
  obtain ⟨a, cap, hv, hc, h⟩ := h
  refine ⟨a, cap, hv, hc, ?_⟩
  rcases h with h | ⟨b, off, ha, hlt, h⟩
  · exact .inl h
  · exact .inr ⟨b, off, ha, hB b hlt, h⟩
theorem rdB_owns {w : World} {base : Nat} {e : TypeId} {v : Value} {n : Nat} {xs : List Value} (h : w.ownsRow base e 1 v n xs) : RdB (Ow base w.heap.size) w v xs := by
  have h0 := reads_of_owns h
  obtain ⟨a, cap, hv, hc, hx⟩ := h0
  refine ⟨a, cap, hv, hc, ?_⟩
  rcases hx with hx | ⟨b, off, rfl, hlt, hx⟩
  · exact .inl hx
  · refine .inr ⟨b, off, rfl, ⟨?_, hlt⟩, hx⟩
    rcases h.2 with ⟨hn, _⟩ | ⟨g, cap', cur, hv', hg, _⟩
    · rw [hn] at hv; simp at hv
    · rw [hv'] at hv
      simp only [Value.slice.injEq, Option.some.injEq, Addr.mk.injEq] at hv
      omega

def leftW (n : Nat) (left : Int) : Int := if (n : Int) ≤ left then left - (n : Int) else -1
theorem leftW_good {n : Nat} {left : Int} (h : (n : Int) ≤ left) : leftW n left = left - (n : Int) := if_pos h
theorem leftW_bad {n : Nat} {left : Int} (h : ¬ (n : Int) ≤ left) : leftW n left = -1 := if_neg h
theorem vheap_new (w : World) (o : Obj) : (w.alloc o).heap[w.heap.size]? = some o := by show (w.heap.push _)[w.heap.size]? = _; simp
theorem vheap_old (w : World) (o : Obj) {b : Nat} (h : b < w.heap.size) : (w.alloc o).heap[b]? = w.heap[b]? := Below.heap_alloc w o b h
theorem vblk_cell {w : World} {b : Nat} {cs : Array Value} {t : TypeId} (h : w.heap[b]? = some (.cells cs t (0, 0))) (j : Nat) : w.cell? ⟨b, j, none⟩ = cs[j]? := cell_of_row w b j cs t (0, 0) h
theorem vblk_frozen {w : World} {b : Nat} {cs : Array Value} {t : TypeId} (h : w.heap[b]? = some (.cells cs t (0, 0))) (j : Nat) : w.frozen? ⟨b, j, none⟩ = false := frozen_of_row w b j cs t h
end Go.Proofs.YtdiopkegaeliaaaDoor
