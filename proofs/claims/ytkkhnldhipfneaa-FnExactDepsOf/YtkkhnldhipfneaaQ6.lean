/-
  Contracts for the walks, several texts in one: each part says what it proves, and under which conditions.
-/
import Derived.Deep.RegionHeld
import Derived.WalkMore
import Derived.ScopeJumps
import Derived.Deep.RegionWith
import Derived.Handy
import Derived.Laws.IdiomStrings
import Derived.Deep.Cut
import Derived.Test.YtkkhnldhipfneaaQ5
import Derived.Test.YtkkhnldhipfneaaQ1
import Derived.Test.YtkkhnldhipfneaaQ4

/-! Signs of a pattern's piece, read one by one off its bytes: what is read, and that the rest is read alike from each place; no condition (no program stands here). -/
namespace Go.Proofs.Ytkkhnldhipfneaa
open Go.RowKit
set_option linter.unusedSimpArgs false
set_option linter.unusedVariables false

/-- A sign: it takes many bytes; or one that is in the set (or, nt, is not). -/
structure Sgn where
  many : Bool
  nt : Bool
  set : List UInt8

def setB (c : Int) : Bool := smallB c || digitB c
def runL : List UInt8 → Nat
  | [] => 0
  | c :: t => if setB (c.toNat : Int) then runL t + 1 else 0
def headIs (n : Nat) : List UInt8 → Bool
  | [] => false
  | c :: _ => c.toNat == n
/-- What stands behind a bracket that opens, and how many bytes it takes with the bracket. -/
def setL (t : List UInt8) : Option (Sgn × Nat) :=
  if headIs 93 ((t.drop (headIs 33 t).toNat).drop (runL (t.drop (headIs 33 t).toNat))) && inB (runL (t.drop (headIs 33 t).toNat)) 1 5 then
    some (⟨false, headIs 33 t, (t.drop (headIs 33 t).toNat).take (runL (t.drop (headIs 33 t).toNat))⟩, 1 + (headIs 33 t).toNat + runL (t.drop (headIs 33 t).toNat) + 1)
  else none
def signL : List UInt8 → Option (Sgn × Nat)
  | [] => none
  | c :: t =>
    if c.toNat = 91 then setL t
    else if c.toNat = 42 then some (⟨true, false, []⟩, 1)
    else if c.toNat = 63 then some (⟨false, true, []⟩, 1)
    else if pathC (c.toNat : Int) then some (⟨false, false, [c]⟩, 1)
    else none

theorem signL_cons (c : UInt8) (t : List UInt8) : signL (c :: t) = if c.toNat = 91 then setL t
    else if c.toNat = 42 then some (⟨true, false, []⟩, 1)
    else if c.toNat = 63 then some (⟨false, true, []⟩, 1)
    else if pathC (c.toNat : Int) then some (⟨false, false, [c]⟩, 1)
    else none := rfl
theorem signL_pos {l : List UInt8} {g : Sgn} {k : Nat} (h : signL l = some (g, k)) : 1 ≤ k := by
  cases l with
  | nil => cases h
  | cons c t =>
    rw [signL_cons] at h
    split at h
    · unfold setL at h
      split at h
      · cases h; omega
      · cases h
    split at h
    · cases h; omega
    split at h
    · cases h; omega
    split at h
    · cases h; omega
    · cases h

def signsL : Nat → List UInt8 → Option (List Sgn)
  | 0, _ => some []
  | _ + 1, [] => some []
  | n + 1, c :: t =>
    match signL (c :: t) with
    | none => none
    | some (g, k) => (signsL n ((c :: t).drop k)).map (g :: ·)
theorem signsL_fuel : ∀ (n m : Nat) (l : List UInt8), l.length ≤ n → l.length ≤ m → signsL n l = signsL m l
  | 0, 0, _, _, _ => rfl
  | 0, m + 1, [], _, _ => rfl
  | 0, m + 1, c :: t, h, _ => by simp at h
  | n + 1, 0, [], _, _ => rfl
  | n + 1, 0, c :: t, _, h => by simp at h
  | n + 1, m + 1, [], _, _ => rfl
  | n + 1, m + 1, c :: t, h1, h2 => by
    rw [signsL, signsL]
    cases hs : signL (c :: t) with
    | none => rfl
    | some p =>
      obtain ⟨g, k⟩ := p
      have hk := signL_pos hs
      have hl : ((c :: t).drop k).length ≤ t.length := by rw [List.length_drop]; simp; omega
      simp only [List.length_cons] at h1 h2
      simp only []
      rw [signsL_fuel n m _ (by omega) (by omega)]

/-- All signs; none: they cannot be read. -/
def signsOf (l : List UInt8) : Option (List Sgn) := signsL l.length l
theorem signsOf_nil : signsOf [] = some [] := rfl
theorem signsOf_none {l : List UInt8} (h0 : l ≠ []) (h : signL l = none) : signsOf l = none := by
  cases l with
  | nil => exact absurd rfl h0
  | cons c t => unfold signsOf; rw [List.length_cons, signsL, h]
theorem signsOf_some {l : List UInt8} {g : Sgn} {k : Nat} (h : signL l = some (g, k)) : signsOf l = (signsOf (l.drop k)).map (g :: ·) := by
  cases l with
  | nil => cases h
  | cons c t =>
    have hk := signL_pos h
    unfold signsOf
    rw [List.length_cons, signsL, h]
    simp only []
    rw [signsL_fuel _ _ _ _ (Nat.le_refl _)]
    rw [List.length_drop]; simp; omega

def pieceB (s : ByteArray) : Bool := match signsOf s.data.toList with | some l => inB l.length 1 12 | none => false
def sgnsOf (s : ByteArray) : List Sgn := (signsOf s.data.toList).getD []
def globB (s : ByteArray) : Bool := decide ((splitS s 47).length ≤ 4) && (splitS s 47).all pieceB

theorem drop_cons (s : ByteArray) (i : Nat) (h : i < s.size) : s.data.toList.drop i = s[i] :: s.data.toList.drop (i + 1) := by
  rw [List.drop_eq_getElem_cons (by rw [len_list]; exact h)]; rfl
theorem drop_end (s : ByteArray) (i : Nat) (h : s.size ≤ i) : s.data.toList.drop i = [] := List.drop_eq_nil_of_le (by rw [len_list]; exact h)

/-- What is read so far, and the rest, are all. -/
def ReadTo (l : List UInt8) (i : Nat) (xs : List Sgn) : Prop := signsOf l = (signsOf (l.drop i)).map (xs ++ ·)
theorem readTo_start (l : List UInt8) : ReadTo l 0 [] := by unfold ReadTo; simp
theorem readTo_step {l : List UInt8} {i k : Nat} {xs : List Sgn} {g : Sgn} (h : ReadTo l i xs) (hs : signL (l.drop i) = some (g, k)) : ReadTo l (i + k) (xs ++ [g]) := by
  unfold ReadTo at *
  rw [h, signsOf_some hs, List.drop_drop, Option.map_map]
  congr 1
  funext ys
  simp
theorem readTo_none {l : List UInt8} {i : Nat} {xs : List Sgn} (h : ReadTo l i xs) (hi : i < l.length) (hs : signL (l.drop i) = none) : signsOf l = none := by
  unfold ReadTo at h
  rw [h, signsOf_none (by intro e; have := congrArg List.length e; rw [List.length_drop] at this; simp at this; omega) hs]; rfl
theorem readTo_end {l : List UInt8} {i : Nat} {xs : List Sgn} (h : ReadTo l i xs) (hi : l.length ≤ i) : signsOf l = some xs := by
  unfold ReadTo at h
  rw [h, List.drop_eq_nil_of_le hi]; simp [signsOf_nil]
/-- Where a thing is left to be read there is one more sign, or none at all can be read. -/
theorem readTo_more {l : List UInt8} {i : Nat} {xs ys : List Sgn} (h : ReadTo l i xs) (hi : i < l.length) (hy : signsOf l = some ys) : xs.length + 1 ≤ ys.length := by
  cases hs : signL (l.drop i) with
  | none => rw [readTo_none h hi hs] at hy; cases hy
  | some p =>
    obtain ⟨g, k⟩ := p
    have h2 := readTo_step h hs
    unfold ReadTo at h2
    rw [hy] at h2
    cases hz : signsOf (l.drop (i + k)) with
    | none => rw [hz] at h2; cases h2
    | some zs =>
      rw [hz] at h2
      simp only [Option.map_some, Option.some.injEq] at h2
      rw [h2]; simp

theorem runL_take {l : List UInt8} {i : Nat} : ∀ (n : Nat), (∀ j, j < n → ∃ c, l[i + j]? = some c ∧ setB (c.toNat : Int) = true) → runL (l.drop i) = n + runL (l.drop (i + n))
  | 0, _ => by simp
  | n + 1, h => by
    rw [runL_take n (fun j hj => h j (by omega))]
    obtain ⟨c, hc, hb⟩ := h n (by omega)
    have hi := (List.getElem?_eq_some_iff.1 hc).1
    have he := (List.getElem?_eq_some_iff.1 hc).2
    rw [List.drop_eq_getElem_cons hi, he, runL, if_pos hb, show i + (n + 1) = i + n + 1 by omega]
    omega
theorem runL_stop {l : List UInt8} (h : ∀ c t, l = c :: t → setB (c.toNat : Int) = false) : runL l = 0 := by
  cases l with
  | nil => rfl
  | cons c t => rw [runL, if_neg (by simp [h c t rfl])]
end Go.Proofs.Ytkkhnldhipfneaa

/-! What the specification's functions that look at a pattern answer (a set in brackets, a piece, a pattern): contracts for the walks; condition: the text has at most 2 to the 20 bytes. -/
namespace Go.Proofs.Ytkkhnldhipfneaa
open Go.RowKit
set_option linter.unusedSimpArgs false
set_option linter.unusedVariables false

theorem setL_at (l : List UInt8) (i m n : Nat) (hm : (headIs 33 (l.drop (i + 1))).toNat = m) (hn : runL (l.drop (i + 1 + m)) = n) :
    setL (l.drop (i + 1)) = if headIs 93 (l.drop (i + 1 + m + n)) && inB n 1 5 then some (⟨false, headIs 33 (l.drop (i + 1)), (l.drop (i + 1 + m)).take n⟩, 1 + m + n + 1) else none := by
  unfold setL
  have e : (l.drop (i + 1)).drop m = l.drop (i + 1 + m) := by rw [List.drop_drop]
  rw [hm, e, hn, List.drop_drop]

/-- The place behind what stands in brackets; -1: it is none. -/
def classI (s : ByteArray) (i : Nat) : Int := match setL (s.data.toList.drop (i + 1)) with | some (_, k) => ((i + k : Nat) : Int) | none => -1

theorem headIs_at (s : ByteArray) (n i : Nat) (h : i < s.size) : headIs n (s.data.toList.drop i) = ((s[i]).toNat == n) := by rw [drop_cons s i h]; rfl
theorem headIs_end (s : ByteArray) (n i : Nat) (h : s.size ≤ i) : headIs n (s.data.toList.drop i) = false := by rw [drop_end s i h]; rfl
theorem list_at (s : ByteArray) (i : Nat) (h : i < s.size) : s.data.toList[i]? = some s[i] := by
  rw [bang_list s i h, byteBang s i h]

/-- A run of bytes of a set, from place f on, j of them. -/
def RunTo (s : ByteArray) (f j : Nat) : Prop := ∀ i, i < j → ∃ c, s.data.toList[f + i]? = some c ∧ setB (c.toNat : Int) = true
theorem runTo_step {s : ByteArray} {f j : Nat} (h : RunTo s f j) (hk : f + j < s.size) (hb : setB ((s[f + j]).toNat : Int) = true) : RunTo s f (j + 1) := fun i hi => by
  by_cases e : i = j
  · subst e; exact ⟨_, list_at s _ hk, hb⟩
  · exact h i (by omega)
theorem runTo_end {s : ByteArray} {f j : Nat} (h : RunTo s f j) (he : ∀ (hk : f + j < s.size), setB ((s[f + j]).toNat : Int) = false) : runL (s.data.toList.drop f) = j := by
  rw [runL_take j h, runL_stop, Nat.add_zero]
  intro c t hc
  by_cases hk : f + j < s.size
  · rw [drop_cons s _ hk] at hc
    cases hc
    exact he hk
  · rw [drop_end s _ (by omega)] at hc
    cases hc
theorem classI_of {s : ByteArray} {i m n : Nat} (hm : (headIs 33 (s.data.toList.drop (i + 1))).toNat = m) (hn : runL (s.data.toList.drop (i + 1 + m)) = n) :
    classI s i = if headIs 93 (s.data.toList.drop (i + 1 + m + n)) && inB n 1 5 then ((i + 1 + m + n + 1 : Nat) : Int) else -1 := by
  unfold classI
  rw [setL_at _ i m n hm hn]
  split
  · rename_i h
    split at h
    · cases h
      rename_i hc
      rw [if_pos hc]
      omega
    · cases h
  · rename_i h
    split at h
    · cases h
    · rename_i hc
      rw [if_neg hc]

end Go.Proofs.Ytkkhnldhipfneaa

/-! What the specification's functions that look at a piece and at a pattern answer: contracts for the walks; condition: the text has at most 2 to the 20 bytes. -/
namespace Go.Proofs.Ytkkhnldhipfneaa
open Go.RowKit
set_option linter.unusedSimpArgs false
set_option linter.unusedVariables false

theorem headIs_pos {n : Nat} {l : List UInt8} (h : headIs n l = true) : 0 < l.length := by
  cases l with
  | nil => cases h
  | cons c t => simp
theorem headIs_len {n : Nat} {l : List UInt8} : (headIs n l).toNat ≤ l.length := by
  cases l with
  | nil => simp [headIs]
  | cons c t => have : (headIs n (c :: t)).toNat ≤ 1 := Bool.toNat_le _; simp; omega
theorem setL_le {t : List UInt8} {g : Sgn} {k : Nat} (h : setL t = some (g, k)) : k ≤ t.length + 1 := by
  unfold setL at h
  split at h
  · rename_i hc
    rw [Bool.and_eq_true] at hc
    have h1 := headIs_pos hc.1
    rw [List.drop_drop, List.length_drop] at h1
    cases h
    omega
  · cases h
theorem signL_le {l : List UInt8} {g : Sgn} {k : Nat} (h : signL l = some (g, k)) : k ≤ l.length := by
  cases l with
  | nil => cases h
  | cons c t =>
    rw [signL_cons] at h
    simp only [List.length_cons]
    split at h
    · exact setL_le h
    split at h
    · cases h; omega
    split at h
    · cases h; omega
    split at h
    · cases h; omega
    · cases h

theorem signL_set {s : ByteArray} {i : Nat} (hi : i < s.size) (h : (s[i]).toNat = 91) : signL (s.data.toList.drop i) = setL (s.data.toList.drop (i + 1)) := by
  rw [drop_cons s i hi, signL_cons, if_pos h]
theorem signL_star {s : ByteArray} {i : Nat} (hi : i < s.size) (h : (s[i]).toNat = 42) : signL (s.data.toList.drop i) = some (⟨true, false, []⟩, 1) := by
  rw [drop_cons s i hi, signL_cons, if_neg (by omega), if_pos h]
theorem signL_any {s : ByteArray} {i : Nat} (hi : i < s.size) (h : (s[i]).toNat = 63) : signL (s.data.toList.drop i) = some (⟨false, true, []⟩, 1) := by
  rw [drop_cons s i hi, signL_cons, if_neg (by omega), if_neg (by omega), if_pos h]
theorem pathC_not {n : Nat} (h : pathC (n : Int) = true) : n ≠ 91 ∧ n ≠ 42 ∧ n ≠ 63 ∧ n ≠ 33 := by
  refine ⟨?_, ?_, ?_, ?_⟩ <;> (rintro rfl; exact absurd h (by decide))
theorem signL_path {s : ByteArray} {i : Nat} (hi : i < s.size) (h : pathC ((s[i]).toNat : Int) = true) : signL (s.data.toList.drop i) = some (⟨false, false, [s[i]]⟩, 1) := by
  obtain ⟨h1, h2, h3, _⟩ := pathC_not h
  rw [drop_cons s i hi, signL_cons, if_neg h1, if_neg h2, if_neg h3, if_pos h]
theorem signL_bad {s : ByteArray} {i : Nat} (hi : i < s.size) (h1 : (s[i]).toNat ≠ 91) (h2 : (s[i]).toNat ≠ 42) (h3 : (s[i]).toNat ≠ 63) (h : pathC ((s[i]).toNat : Int) = false) : signL (s.data.toList.drop i) = none := by
  rw [drop_cons s i hi, signL_cons, if_neg h1, if_neg h2, if_neg h3, if_neg (by simp [h])]

theorem pieceB_none {s : ByteArray} (h : signsOf s.data.toList = none) : pieceB s = false := by unfold pieceB; rw [h]
theorem pieceB_some {s : ByteArray} {l : List Sgn} (h : signsOf s.data.toList = some l) : pieceB s = inB l.length 1 12 := by unfold pieceB; rw [h]

theorem readTo_bad {s : ByteArray} {i : Nat} {xs : List Sgn} (h : ReadTo s.data.toList i xs) (hi : i < s.size) (hs : signL (s.data.toList.drop i) = none) : pieceB s = false :=
  pieceB_none (readTo_none h (by rw [len_list]; exact hi) hs)
theorem readTo_all {s : ByteArray} {i : Nat} {xs : List Sgn} (h : ReadTo s.data.toList i xs) (hi : s.size ≤ i) : pieceB s = inB xs.length 1 12 :=
  pieceB_some (readTo_end h (by rw [len_list]; exact hi))
theorem signL_in {s : ByteArray} {i k : Nat} {g : Sgn} (hi : i < s.size) (h : signL (s.data.toList.drop i) = some (g, k)) : i + k ≤ s.size := by
  have := signL_le h
  rw [List.length_drop, len_list] at this
  omega

theorem pieceB_stars {s : ByteArray} (h : s.toList = [42, 42]) : pieceB s = true := by
  have e : s.data.toList = [42, 42] := by rw [← Lib.toList_data]; exact h
  rw [pieceB_some (l := [⟨true, false, []⟩, ⟨true, false, []⟩]) (by rw [e]; rfl)]
  rfl

end Go.Proofs.Ytkkhnldhipfneaa

/-! When a rule, and rules, are right; no condition. -/
namespace Go.Proofs.Ytkkhnldhipfneaa
open Go.RowKit
set_option linter.unusedSimpArgs false
set_option linter.unusedVariables false

def fewB (p : ByteArray → Bool) (n : Nat) (l : List ByteArray) : Bool := decide (l.length ≤ n) && l.all p
def inTB (s : ByteArray) : Bool := decide (s.size ≤ 60) && globB s
def ruleB (d : RuleD) : Bool := nameB d.task && (fewB onB 4 d.on && (fewB inTB 4 d.ins && fewB nameB 3 d.envs))
def rulesB (xs : List RuleD) : Bool := rowB ruleB RuleD.task xs && decide (xs.length ≤ 5)
theorem not_any_r {α : Type} (p : α → Bool) (xs : List α) : (!(xs.any fun x => !p x)) = xs.all p := by
  induction xs with
  | nil => rfl
  | cons a l ih => simp only [List.any_cons, List.all_cons, Bool.not_or, Bool.not_not, ih]
theorem rulesB_eq (xs : List RuleD) : rulesB xs = (decide (xs.length ≤ 5) && (ascB (xs.map RuleD.task) && !(xs.any fun d => !ruleB d))) := by
  rw [rulesB, rowB_split, not_any_r]
  cases decide (xs.length ≤ 5) <;> cases ascB (xs.map RuleD.task) <;> cases xs.all ruleB <;> rfl
/-- Each text of a rule has at most 2 to the 20 bytes. -/
def smallR (d : RuleD) : Prop := (∀ s ∈ d.on, s.size ≤ 1048576) ∧ (∀ s ∈ d.ins, s.size ≤ 1048576) ∧ (∀ s ∈ d.envs, s.size ≤ 1048576)
theorem bulk_mem {ss : List ByteArray} {s : ByteArray} (h : s ∈ ss) : s.size ≤ bulkS ss := by
  have : s.size ≤ (ss.map ByteArray.size).sum := by
    induction ss with
    | nil => simp at h
    | cons a l ih =>
      simp only [List.map_cons, List.sum_cons]
      rcases List.mem_cons.1 h with rfl | h
      · omega
      · have := ih h; omega
  unfold bulkS; omega
theorem smallR_of {d : RuleD} (h : wtRule d ≤ 1048576) : smallR d := by
  unfold wtRule at h
  refine ⟨fun s hs => ?_, fun s hs => ?_, fun s hs => ?_⟩ <;> (have := bulk_mem hs; omega)
theorem smallRs_of {xs : List RuleD} (h : wtRow wtRule xs ≤ 1048576) : ∀ d ∈ xs, smallR d := fun d hd => smallR_of (by have := wt_wtRow wtRule hd; omega)
theorem below_nextR {w w1 w2 : World} (h : Below w.heap.size w w1) (h2 : Below w1.heap.size w1 w2) : Below w.heap.size w w2 := h.trans (h2.mono h.size)
end Go.Proofs.Ytkkhnldhipfneaa

/-! Rows of texts: whether they ascend, whether one is among them, whether one is no name or not plain, as the program asks it: contracts for the walks; conditions: the rows lie in memory. -/
namespace Go.Proofs.Ytkkhnldhipfneaa
open Go.RowKit
set_option linter.unusedSimpArgs false
set_option linter.unusedVariables false

theorem text_alike (a b : ByteArray) : (a.toList == b.toList) = decide (a = b) := by
  by_cases h : a = b
  · subst h; simp
  · rw [decide_eq_false h]
    cases hh : (a.toList == b.toList) with
    | false => rfl
    | true => exact absurd (bytes_eq_of_toList (by simpa using hh)) h
set_option maxHeartbeats 2000000 in
set_option maxRecDepth 100000 in
theorem indexStr_c (v : Value) (ss : List ByteArray) (n : ByteArray) (w : World) (hv : Reads w v (strsV ss)) (hs : saneP ss) :
    Calls Try.prog 68 #[v, .string n] w fun e w' => e = .returned (.int .i64 (firstI (fun u => decide (n = u)) ss)) ∧ Below w.heap.size w w' := by
  obtain ⟨a, cap, rfl, _, ha⟩ := reads_strs hv
  obtain ⟨hl, hsz⟩ := hs
  clear hv
  unfold maxLen at hl
  obtain ⟨R, hR⟩ : ∃ R, R = firstI (fun u => decide (n = u)) ss := ⟨_, rfl⟩
  rw [← hR]
  have HR := hidden hR
  clear hR
  go_enter Try.func68, Try.ntmps68
  go_wp2_with fail
  go_loopw [8] (fun vi wr => ∃ k : Nat, k ≤ ss.length ∧ vi = .int .i64 (k : Int) ∧ Hid (∀ j (hj : j < ss.length), j < k → (fun u => decide (n = u)) ss[j] = false) ∧ Below w.heap.size w wr) (fun vi _ => ss.length - (intOf vi).toNat)
  case atStart => exact ⟨0, Nat.zero_le _, rfl, (fun j hj h => by omega), Below.refl _ _⟩
  case round =>
    obtain ⟨k, hk, rfl, hno, hbr⟩ := hrel
    by_cases hlt' : k < ss.length
    · rcases ha with rfl | ⟨b, off, rfl, hlt, ha⟩
      · simp at hlt'
      have e0 : wr.cell? ⟨b, off + k, none⟩ = some (.string ss[k]) := (hbr.cell (by simpa using hlt)).trans (ha k hlt')
      have HT : Hid ((fun u => decide (n = u)) ss[k] = true → R = (k : Int)) := fun h => HR.out.trans (firstI_here hlt' h hno.out)
      have HN : Hid ((fun u => decide (n = u)) ss[k] = false → ∀ j (hj : j < ss.length), j < k + 1 → (fun u => decide (n = u)) ss[j] = false) := fun h j hj hjk => by
        by_cases e : j = k
        · subst e; exact h
        · exact hno.out j hj (by omega)
      obtain ⟨t, ht⟩ : ∃ t, t = ss[k] := ⟨_, rfl⟩
      rw [← ht] at e0 HT HN
      have hal := text_alike n t
      have hki : (k : Int) < (ss.length : Int) := by omega
      clear ha ht hno hsz
      by_cases hts : n = t
      · have hq : (n.toList == t.toList) = true := by rw [hal]; simpa using hts
        have HT2 := hidden (HT.out (by simpa using hts))
        clear HT HN hts hal
        go_wp2_with fail
        go_ret
        exact ⟨by rw [HT2.out]; rfl, hbr⟩
      · have hq : (n.toList == t.toList) = false := by rw [hal]; simpa using hts
        have HN2 := hidden (HN.out (by simpa using hts))
        clear HT HN hts hal
        go_wp2_with fail
        go_roundw
        case rel => exact ⟨k + 1, by omega, by go_num, HN2.out, hbr⟩
        case measure => simp [intOf]; omega
    · have he : k = ss.length := by omega
      subst he
      have HE : Hid (R = -1) := HR.out.trans (firstI_none (fun j hj => hno.out j hj hj))
      clear ha hno HR hsz
      go_wp2_with fail
      go_ret
      exact ⟨by rw [HE.out]; rfl, hbr⟩
set_option maxHeartbeats 1000000 in
theorem hasStr_c (v : Value) (ss : List ByteArray) (n : ByteArray) (w : World) (hv : Reads w v (strsV ss)) (hs : saneP ss) :
    Calls Try.prog 41 #[v, .string n] w fun e w' => e = .returned (.bool (ss.any fun u => decide (n = u))) ∧ Below w.heap.size w w' := by
  have HF := indexStr_c v ss n w hv hs
  have hA := firstI_any (fun u => decide (n = u)) ss
  obtain ⟨R, hR⟩ : ∃ R, R = firstI (fun u => decide (n = u)) ss := ⟨_, rfl⟩
  rw [← hR] at HF hA
  rw [← hA]
  have HF2 := hidden HF
  obtain ⟨a, cap, rfl, _, _⟩ := reads_strs hv
  clear hv hR hA HF
  by_cases h0 : 0 ≤ R
  · rw [decide_eq_true h0]
    go_enter Try.func41, Try.ntmps41
    go_wp2_with (go_at_call 68; refine HF2.out.mono ?_; rintro e w1 ⟨rfl, b1⟩)
    go_ret
    exact ⟨by first | rfl | simp [h0] | (simp; omega), b1⟩
  · rw [decide_eq_false h0]
    go_enter Try.func41, Try.ntmps41
    go_wp2_with (go_at_call 68; refine HF2.out.mono ?_; rintro e w1 ⟨rfl, b1⟩)
    go_ret
    exact ⟨by first | rfl | simp [h0] | (simp; omega), b1⟩

set_option maxHeartbeats 8000000 in
set_option maxRecDepth 100000 in
theorem l7Asc_c (v : Value) (ss : List ByteArray) (w : World) (hv : Reads w v (strsV ss)) (hs : saneP ss) :
    Calls Try.prog 53 #[v] w fun e w' => e = .returned (.bool (ascB ss)) ∧ Below w.heap.size w w' := by
  obtain ⟨a, cap, rfl, _, ha⟩ := reads_strs hv
  obtain ⟨hl, hsz⟩ := hs
  clear hv hsz
  unfold maxLen at hl
  obtain ⟨R, hR⟩ : ∃ R, R = ascB ss := ⟨_, rfl⟩
  rw [← hR]
  have HR := hidden hR
  clear hR
  go_enter Try.func53, Try.ntmps53
  go_wp2_with fail
  go_loopw [3] (fun vi wr => ∃ k : Nat, 1 ≤ k ∧ (k ≤ ss.length ∨ k = 1) ∧ vi = .int .i64 (k : Int) ∧ Hid (rowUpto (fun _ => true) id ss k = true) ∧ Below w.heap.size w wr) (fun vi _ => ss.length - (intOf vi).toNat)
  case atStart => exact ⟨1, Nat.le_refl _, .inr rfl, rfl, asc_one _, Below.refl _ _⟩
  case round =>
    obtain ⟨k, hk1, hk, rfl, hh, hbr⟩ := hrel
    by_cases hlt' : k < ss.length
    · rcases ha with rfl | ⟨b, off, rfl, hlt, ha⟩
      · simp at hlt'
      obtain ⟨j, rfl⟩ : ∃ j, k = j + 1 := ⟨k - 1, by omega⟩
      have hj' : j < ss.length := by omega
      have hbb : b < wr.heap.size := Nat.lt_of_lt_of_le hlt hbr.size
      have yv : wr.cell? ⟨b, off + j, none⟩ = some (.string ss[j]) := (hbr.cell (by simpa using hlt)).trans (ha j hj')
      have xv : wr.cell? ⟨b, off + (j + 1), none⟩ = some (.string ss[j + 1]) := (hbr.cell (by simpa using hlt)).trans (ha (j + 1) hlt')
      have hpre : preX ss (j + 1) = some ss[j] := by simp [preX, hj']
      have HBD : Hid (Op.bytesLess ss[j].toList ss[j + 1].toList = false → R = false) := fun h => HR.out.trans (rowUpto_bad hlt' (by rw [hpre]; exact rowOk_less h) _ hlt')
      have HGD : Hid (Op.bytesLess ss[j].toList ss[j + 1].toList = true → rowUpto (fun _ => true) id ss (j + 1 + 1) = true) := fun h => rowUpto_step hlt' hh.out (by rw [hpre, rowOk_some rfl]; exact h)
      obtain ⟨c, hc0⟩ : ∃ c, c = ss[j] := ⟨_, rfl⟩
      obtain ⟨d, hd0'⟩ : ∃ d, d = ss[j + 1] := ⟨_, rfl⟩
      rw [← hc0] at yv HBD HGD
      rw [← hd0'] at xv HBD HGD
      clear ha hpre hc0 hd0' hh
      have hj0 : (0 : Int) ≤ (j : Int) + 1 := by omega
      have hj2 : (j : Int) + 1 < (ss.length : Int) := by omega
      have hj3 : (j : Int) < (ss.length : Int) := by omega
      have hjw : IntKind.i64.wrap (j : Int) = (j : Int) := IntWalk.i64_in _ ⟨by omega, by omega⟩
      have hd0 : Below wr.heap.size wr wr.drew := (Below.refl _ _).drew
      have KEEP : Hid (∀ w1, Below wr.heap.size wr w1 → w1.cell? ⟨b, off + j, none⟩ = some (.string c) ∧ w1.cell? ⟨b, off + (j + 1), none⟩ = some (.string d)) := fun w1 h => ⟨(h.cell (by simpa using hbb)).trans yv, (h.cell (by simpa using hbb)).trans xv⟩
      clear yv xv
      go_wp2_with fail
      refine wp_region_held_drew (S := (fun w' => w'.cell? ⟨b, off + j, none⟩ = some (.string c) ∧ w'.cell? ⟨b, off + (j + 1), none⟩ = some (.string d))) (by kernel_rfl) ?SR20 (fun hHeld => ?_)
      case SR20 => (with_reducible exact KEEP.out _ hd0)
      refine wpAnyH_take (i := 0) (oi := _) (v := ?vR20) rfl (by kernel_rfl) (by kernel_rfl) (by kernel_rfl) (fun _ _ _ h => h) (Or.inl ⟨by rfl, ?yR20⟩) hHeld ?_
      case yR20 => (intro w hSw; (try dsimp only at hSw); go_simp <;> with_reducible rfl)
      try simp only [Act.put, List.getElem_toArray, List.getElem_cons_zero, List.getElem_cons_succ, List.setIfInBounds_toArray, List.set_cons_zero, List.set_cons_succ]
      refine wpAnyH_take (i := 1) (oi := _) (v := ?vR21) rfl (by kernel_rfl) (by kernel_rfl) (by kernel_rfl) (fun _ _ _ h => h) (Or.inl ⟨by rfl, ?yR21⟩) hHeld ?_
      case yR21 => (intro w hSw; (try dsimp only at hSw); go_simp <;> with_reducible rfl)
      try simp only [Act.put, List.getElem_toArray, List.getElem_cons_zero, List.getElem_cons_succ, List.setIfInBounds_toArray, List.set_cons_zero, List.set_cons_succ]
      refine wpAnyH_take (i := 2) (oi := _) (v := ?vR22) rfl (by kernel_rfl) (by kernel_rfl) (by kernel_rfl) (fun _ _ _ h => h) (Or.inl ⟨by rfl, ?yR22⟩) hHeld ?_
      case yR22 => (intro w hSw; (try dsimp only at hSw); go_simp <;> with_reducible rfl)
      try simp only [Act.put, List.getElem_toArray, List.getElem_cons_zero, List.getElem_cons_succ, List.setIfInBounds_toArray, List.set_cons_zero, List.set_cons_succ]
      refine wpAnyH_take (i := 3) (oi := _) (v := ?vR23) rfl (by kernel_rfl) (by kernel_rfl) (by kernel_rfl) (fun _ _ _ h => h) (Or.inl ⟨by rfl, ?yR23⟩) hHeld ?_
      case yR23 => (intro w hSw; (try dsimp only at hSw); go_simp <;> with_reducible rfl)
      try simp only [Act.put, List.getElem_toArray, List.getElem_cons_zero, List.getElem_cons_succ, List.setIfInBounds_toArray, List.set_cons_zero, List.set_cons_succ]
      refine wpAnyH_take (i := 4) (oi := _) (v := ?vR24) rfl (by kernel_rfl) (by kernel_rfl) (by kernel_rfl) (fun _ _ _ h => h) (Or.inl ⟨by rfl, ?yR24⟩) hHeld ?_
      case yR24 => (intro w hSw; (try dsimp only at hSw); go_simp <;> with_reducible rfl)
      try simp only [Act.put, List.getElem_toArray, List.getElem_cons_zero, List.getElem_cons_succ, List.setIfInBounds_toArray, List.set_cons_zero, List.set_cons_succ]
      refine wpAnyH_take (i := 5) (oi := _) (v := ?vR25) rfl (by kernel_rfl) (by kernel_rfl) (by kernel_rfl) (fun _ _ _ h => h) (Or.inl ⟨by rfl, ?yR25⟩) hHeld ?_
      case yR25 => (intro w hSw; (try dsimp only at hSw); go_simp <;> with_reducible rfl)
      try simp only [Act.put, List.getElem_toArray, List.getElem_cons_zero, List.getElem_cons_succ, List.setIfInBounds_toArray, List.set_cons_zero, List.set_cons_succ]
      refine wpAnyH_take (i := 6) (oi := _) (v := ?vR26) rfl (by kernel_rfl) (by kernel_rfl) (by kernel_rfl) (fun _ _ _ h => h) (Or.inl ⟨by rfl, ?yR26⟩) hHeld ?_
      case yR26 => (intro w hSw; (try dsimp only at hSw); go_simp <;> with_reducible rfl)
      try simp only [Act.put, List.getElem_toArray, List.getElem_cons_zero, List.getElem_cons_succ, List.setIfInBounds_toArray, List.set_cons_zero, List.set_cons_succ]
      refine wpAnyH_take (i := 7) (oi := _) (v := ?vR27) rfl (by kernel_rfl) (by kernel_rfl) (by kernel_rfl) (fun _ _ _ h => h) (Or.inl ⟨by rfl, ?yR27⟩) hHeld ?_
      case yR27 => (intro w hSw; (try dsimp only at hSw); go_simp <;> with_reducible rfl)
      try simp only [Act.put, List.getElem_toArray, List.getElem_cons_zero, List.getElem_cons_succ, List.setIfInBounds_toArray, List.set_cons_zero, List.set_cons_succ]
      refine wpAnyH_take (i := 8) (oi := _) (v := ?vR28) rfl (by kernel_rfl) (by kernel_rfl) (by kernel_rfl) (fun _ _ _ h => h) (Or.inl ⟨by rfl, ?yR28⟩) hHeld ?_
      case yR28 => (intro w hSw; (try dsimp only at hSw); go_simp <;> with_reducible rfl)
      try simp only [Act.put, List.getElem_toArray, List.getElem_cons_zero, List.getElem_cons_succ, List.setIfInBounds_toArray, List.set_cons_zero, List.set_cons_succ]
      refine wpAnyH_take (i := 9) (oi := _) (v := ?vR29) rfl (by kernel_rfl) (by kernel_rfl) (by kernel_rfl) (fun _ _ _ h => h) (Or.inl ⟨by rfl, ?yR29⟩) hHeld ?_
      case yR29 => (intro w hSw; (try dsimp only at hSw); go_simp <;> with_reducible rfl)
      try simp only [Act.put, List.getElem_toArray, List.getElem_cons_zero, List.getElem_cons_succ, List.setIfInBounds_toArray, List.set_cons_zero, List.set_cons_succ]
      refine wpAnyH_done (by kernel_rfl) ?_ _
      go_wp2_with fail
      · have hlx : (!Op.bytesLess c.toList d.toList) = true := by assumption
        go_ret
        exact ⟨by rw [HBD.out (by simpa using hlx)]; rfl, hbr.trans (hd0.mono hbr.size)⟩
      · have hlx : (!Op.bytesLess c.toList d.toList) = false := by assumption
        go_roundw
        case rel => exact ⟨j + 1 + 1, by omega, .inl (by omega), by go_num, HGD.out (by simpa using hlx), hbr.trans (hd0.mono hbr.size)⟩
        case measure => simp [intOf]; omega
    · have HE : Hid (R = true) := HR.out.trans (asc_end hk1 hlt' hk hh.out)
      clear ha hh
      go_wp2_with fail
      go_ret
      exact ⟨by rw [HE.out]; rfl, hbr⟩

end Go.Proofs.Ytkkhnldhipfneaa

/-! Whether a plan is right, as the program asks it: contracts for the walks; conditions: it lies in memory, and holds at most 2 to the 20. -/
namespace Go.Proofs.Ytkkhnldhipfneaa
open Go.RowKit
set_option linter.unusedSimpArgs false
set_option linter.unusedVariables false

/-- When a plan is right. -/
def depsB (ts l : List ByteArray) : Bool := ascB l && l.all (fun t => hasS ts t)
def planB (d : PlanD) : Bool := decide (d.tasks.length ≤ 16) && (decide (d.deps.length = d.tasks.length) && (ascB d.tasks && (d.tasks.all ptB && d.deps.all (depsB d.tasks))))
/-- Each text of a plan has at most 2 to the 20 bytes. -/
theorem sane_wt {ss : List ByteArray} (h : bulkS ss ≤ 1048576) : saneP ss ∧ (∀ s ∈ ss, s.size ≤ 1048576) ∧ ss.length ≤ 1048576 := by
  have h1 : ss.length ≤ 1048576 := by unfold bulkS at h; omega
  have h2 : ∀ s ∈ ss, s.size ≤ 1048576 := fun s hs => by have := bulk_mem hs; omega
  exact ⟨⟨by unfold maxLen; omega, fun s hs => by have := h2 s hs; unfold maxLen; omega⟩, h2, h1⟩
theorem txtAsc_c (s : ByteArray) (w : World) : Calls Try.prog 91 #[.string s] w fun e w' => e = .returned (.string s) ∧ Below w.heap.size w w' := by
  go_enter Try.func91, Try.ntmps91
  go_wp2_with fail
  go_ret
  exact ⟨rfl, Below.refl _ _⟩

set_option maxHeartbeats 8000000 in
set_option maxRecDepth 100000 in
theorem ascTx_c (v : Value) (ss : List ByteArray) (w : World) (hv : Reads w v (strsV ss)) (hs : saneP ss) :
    Calls Try.prog 90 #[v, .func (.func 91) #[] #[]] w fun e w' => e = .returned (.bool (ascB ss)) ∧ Below w.heap.size w w' := by
  obtain ⟨a, cap, rfl, _, ha⟩ := reads_strs hv
  obtain ⟨hl, hsz⟩ := hs
  clear hv hsz
  unfold maxLen at hl
  obtain ⟨R, hR⟩ : ∃ R, R = ascB ss := ⟨_, rfl⟩
  rw [← hR]
  have HR := hidden hR
  clear hR
  go_enter Try.func90, Try.ntmps90
  go_wp2_with fail
  go_loopw [5] (fun vi wr => ∃ k : Nat, 1 ≤ k ∧ (k ≤ ss.length ∨ k = 1) ∧ vi = .int .i64 (k : Int) ∧ Hid (rowUpto (fun _ => true) id ss k = true) ∧ Below w.heap.size w wr) (fun vi _ => ss.length - (intOf vi).toNat)
  case atStart => exact ⟨1, Nat.le_refl _, .inr rfl, rfl, asc_one _, Below.refl _ _⟩
  case round =>
    obtain ⟨k, hk1, hk, rfl, hh, hbr⟩ := hrel
    by_cases hlt' : k < ss.length
    · rcases ha with rfl | ⟨b, off, rfl, hlt, ha⟩
      · simp at hlt'
      obtain ⟨j, rfl⟩ : ∃ j, k = j + 1 := ⟨k - 1, by omega⟩
      have hj' : j < ss.length := by omega
      have hbb : b < wr.heap.size := Nat.lt_of_lt_of_le hlt hbr.size
      have yv : wr.cell? ⟨b, off + j, none⟩ = some (.string ss[j]) := (hbr.cell (by simpa using hlt)).trans (ha j hj')
      have xv : wr.cell? ⟨b, off + (j + 1), none⟩ = some (.string ss[j + 1]) := (hbr.cell (by simpa using hlt)).trans (ha (j + 1) hlt')
      have hpre : preX ss (j + 1) = some ss[j] := by simp [preX, hj']
      have HBD : Hid (Op.bytesLess ss[j].toList ss[j + 1].toList = false → R = false) := fun h => HR.out.trans (rowUpto_bad hlt' (by rw [hpre]; exact rowOk_less h) _ hlt')
      have HGD : Hid (Op.bytesLess ss[j].toList ss[j + 1].toList = true → rowUpto (fun _ => true) id ss (j + 1 + 1) = true) := fun h => rowUpto_step hlt' hh.out (by rw [hpre, rowOk_some rfl]; exact h)
      obtain ⟨c, hc0⟩ : ∃ c, c = ss[j] := ⟨_, rfl⟩
      obtain ⟨d, hd0'⟩ : ∃ d, d = ss[j + 1] := ⟨_, rfl⟩
      rw [← hc0] at yv HBD HGD
      rw [← hd0'] at xv HBD HGD
      clear ha hpre hc0 hd0' hh
      have hj0 : (0 : Int) ≤ (j : Int) + 1 := by omega
      have hj2 : (j : Int) + 1 < (ss.length : Int) := by omega
      have hj3 : (j : Int) < (ss.length : Int) := by omega
      have hjw : IntKind.i64.wrap (j : Int) = (j : Int) := IntWalk.i64_in _ ⟨by omega, by omega⟩
      have hd0 : Below wr.heap.size wr wr.drew := (Below.refl _ _).drew
      have KEEP : Hid (∀ w1, Below wr.heap.size wr w1 → w1.cell? ⟨b, off + j, none⟩ = some (.string c) ∧ w1.cell? ⟨b, off + (j + 1), none⟩ = some (.string d)) := fun w1 h => ⟨(h.cell (by simpa using hbb)).trans yv, (h.cell (by simpa using hbb)).trans xv⟩
      clear yv xv
      go_wp2_with fail
      refine wp_region_held_drew (S := (fun w' => w'.cell? ⟨b, off + j, none⟩ = some (.string c) ∧ w'.cell? ⟨b, off + (j + 1), none⟩ = some (.string d))) (by kernel_rfl) ?SR10 (fun hHeld => ?_)
      case SR10 => (first | (with_reducible exact KEEP.out _ hd2) | (with_reducible exact KEEP.out _ hd1) | (with_reducible exact KEEP.out _ hd0))
      refine wpAnyH_take (i := 0) (oi := _) (v := ?vR10) rfl (by kernel_rfl) (by kernel_rfl) (by kernel_rfl) (fun _ _ _ h => h) (Or.inl ⟨by rfl, ?yR10⟩) hHeld ?_
      case yR10 => (intro w hSw; (try dsimp only at hSw); go_simp <;> with_reducible rfl)
      try simp only [Act.put, List.getElem_toArray, List.getElem_cons_zero, List.getElem_cons_succ, List.setIfInBounds_toArray, List.set_cons_zero, List.set_cons_succ]
      refine wpAnyH_take (i := 1) (oi := _) (v := ?vR11) rfl (by kernel_rfl) (by kernel_rfl) (by kernel_rfl) (fun _ _ _ h => h) (Or.inl ⟨by rfl, ?yR11⟩) hHeld ?_
      case yR11 => (intro w hSw; (try dsimp only at hSw); go_simp <;> with_reducible rfl)
      try simp only [Act.put, List.getElem_toArray, List.getElem_cons_zero, List.getElem_cons_succ, List.setIfInBounds_toArray, List.set_cons_zero, List.set_cons_succ]
      refine wpAnyH_take (i := 2) (oi := _) (v := ?vR12) rfl (by kernel_rfl) (by kernel_rfl) (by kernel_rfl) (fun _ _ _ h => h) (Or.inl ⟨by rfl, ?yR12⟩) hHeld ?_
      case yR12 => (intro w hSw; (try dsimp only at hSw); go_simp <;> with_reducible rfl)
      try simp only [Act.put, List.getElem_toArray, List.getElem_cons_zero, List.getElem_cons_succ, List.setIfInBounds_toArray, List.set_cons_zero, List.set_cons_succ]
      refine wpAnyH_take (i := 3) (oi := _) (v := ?vR13) rfl (by kernel_rfl) (by kernel_rfl) (by kernel_rfl) (fun _ _ _ h => h) (Or.inl ⟨by rfl, ?yR13⟩) hHeld ?_
      case yR13 => (intro w hSw; (try dsimp only at hSw); go_simp <;> with_reducible rfl)
      try simp only [Act.put, List.getElem_toArray, List.getElem_cons_zero, List.getElem_cons_succ, List.setIfInBounds_toArray, List.set_cons_zero, List.set_cons_succ]
      refine wpAnyH_take (i := 4) (oi := _) (v := ?vR14) rfl (by kernel_rfl) (by kernel_rfl) (by kernel_rfl) (fun _ _ _ h => h) (Or.inl ⟨by rfl, ?yR14⟩) hHeld ?_
      case yR14 => (intro w hSw; (try dsimp only at hSw); go_simp <;> with_reducible rfl)
      try simp only [Act.put, List.getElem_toArray, List.getElem_cons_zero, List.getElem_cons_succ, List.setIfInBounds_toArray, List.set_cons_zero, List.set_cons_succ]
      refine wpAnyH_take (i := 5) (oi := _) (v := ?vR15) rfl (by kernel_rfl) (by kernel_rfl) (by kernel_rfl) (fun _ _ _ h => h) (Or.inl ⟨by rfl, ?yR15⟩) hHeld ?_
      case yR15 => (intro w hSw; (try dsimp only at hSw); go_simp <;> with_reducible rfl)
      try simp only [Act.put, List.getElem_toArray, List.getElem_cons_zero, List.getElem_cons_succ, List.setIfInBounds_toArray, List.set_cons_zero, List.set_cons_succ]
      refine wpAnyH_take (i := 7) (oi := _) (v := ?vR16) rfl (by kernel_rfl) (by kernel_rfl) (by kernel_rfl) (fun _ _ _ h => h) (Or.inl ⟨by rfl, ?yR16⟩) hHeld ?_
      case yR16 => (intro w hSw; (try dsimp only at hSw); go_simp <;> with_reducible rfl)
      try simp only [Act.put, List.getElem_toArray, List.getElem_cons_zero, List.getElem_cons_succ, List.setIfInBounds_toArray, List.set_cons_zero, List.set_cons_succ]
      refine wpAnyH_take (i := 8) (oi := _) (v := ?vR17) rfl (by kernel_rfl) (by kernel_rfl) (by kernel_rfl) (fun _ _ _ h => h) (Or.inl ⟨by rfl, ?yR17⟩) hHeld ?_
      case yR17 => (intro w hSw; (try dsimp only at hSw); go_simp <;> with_reducible rfl)
      try simp only [Act.put, List.getElem_toArray, List.getElem_cons_zero, List.getElem_cons_succ, List.setIfInBounds_toArray, List.set_cons_zero, List.set_cons_succ]
      refine wpAnyH_take (i := 9) (oi := _) (v := ?vR18) rfl (by kernel_rfl) (by kernel_rfl) (by kernel_rfl) (fun _ _ _ h => h) (Or.inl ⟨by rfl, ?yR18⟩) hHeld ?_
      case yR18 => (intro w hSw; (try dsimp only at hSw); go_simp <;> with_reducible rfl)
      try simp only [Act.put, List.getElem_toArray, List.getElem_cons_zero, List.getElem_cons_succ, List.setIfInBounds_toArray, List.set_cons_zero, List.set_cons_succ]
      refine wpAnyH_take (i := 10) (oi := _) (v := ?vR19) rfl (by kernel_rfl) (by kernel_rfl) (by kernel_rfl) (fun _ _ _ h => h) (Or.inl ⟨by rfl, ?yR19⟩) hHeld ?_
      case yR19 => (intro w hSw; (try dsimp only at hSw); go_simp <;> with_reducible rfl)
      try simp only [Act.put, List.getElem_toArray, List.getElem_cons_zero, List.getElem_cons_succ, List.setIfInBounds_toArray, List.set_cons_zero, List.set_cons_succ]
      refine wpAnyH_take (i := 11) (oi := _) (v := ?vR110) rfl (by kernel_rfl) (by kernel_rfl) (by kernel_rfl) (fun _ _ _ h => h) (Or.inl ⟨by rfl, ?yR110⟩) hHeld ?_
      case yR110 => (intro w hSw; (try dsimp only at hSw); go_simp <;> with_reducible rfl)
      try simp only [Act.put, List.getElem_toArray, List.getElem_cons_zero, List.getElem_cons_succ, List.setIfInBounds_toArray, List.set_cons_zero, List.set_cons_succ]
      refine wpAnyH_ready (rs := [6]) (by kernel_rfl) (by simp) ?_
      refine AllReadyH.cons rfl (fun K hK => ?_) AllReadyH.nil
      go_simp
      go_wp2_with (go_at_call 91; refine (txtAsc_c c _).mono ?_; rintro e w1 ⟨rfl, b1⟩; have hd1 : Below wr.heap.size wr w1 := hd0.trans (b1.mono hd0.size))
      clear hHeld
      refine hK.out _ _ ?SR112 (fun hHeld => ?_)
      case SR112 => ((try dsimp only); first | (with_reducible exact KEEP.out _ hd2) | (with_reducible exact KEEP.out _ hd1) | (with_reducible exact KEEP.out _ hd0))
      clear hK K
      refine wpAnyH_ready (rs := [12]) (by kernel_rfl) (by simp) ?_
      refine AllReadyH.cons rfl (fun K hK => ?_) AllReadyH.nil
      go_simp
      go_wp2_with (go_at_call 91; refine (txtAsc_c d _).mono ?_; rintro e w2 ⟨rfl, b2⟩; have hd2 : Below wr.heap.size wr w2 := hd1.trans (b2.mono hd1.size))
      clear hHeld
      refine hK.out _ _ ?SR113 (fun hHeld => ?_)
      case SR113 => ((try dsimp only); first | (with_reducible exact KEEP.out _ hd2) | (with_reducible exact KEEP.out _ hd1) | (with_reducible exact KEEP.out _ hd0))
      clear hK K
      refine wpAnyH_take (i := 13) (oi := _) (v := ?vR113) rfl (by kernel_rfl) (by kernel_rfl) (by kernel_rfl) (fun _ _ _ h => h) (Or.inl ⟨by rfl, ?yR113⟩) hHeld ?_
      case yR113 => (intro w hSw; (try dsimp only at hSw); go_simp <;> with_reducible rfl)
      try simp only [Act.put, List.getElem_toArray, List.getElem_cons_zero, List.getElem_cons_succ, List.setIfInBounds_toArray, List.set_cons_zero, List.set_cons_succ]
      refine wpAnyH_done (by kernel_rfl) ?_ _
      go_wp2_with fail
      · have hlx : (!Op.bytesLess c.toList d.toList) = true := by assumption
        go_ret
        exact ⟨by rw [HBD.out (by simpa using hlx)]; rfl, hbr.trans (hd2.mono hbr.size)⟩
      · have hlx : (!Op.bytesLess c.toList d.toList) = false := by assumption
        go_roundw
        case rel => exact ⟨j + 1 + 1, by omega, .inl (by omega), by go_num, HGD.out (by simpa using hlx), hbr.trans (hd2.mono hbr.size)⟩
        case measure => simp [intOf]; omega
    · have HE : Hid (R = true) := HR.out.trans (asc_end hk1 hlt' hk hh.out)
      clear ha hh
      go_wp2_with fail
      go_ret
      exact ⟨by rw [HE.out]; rfl, hbr⟩

set_option maxHeartbeats 2000000 in
set_option maxRecDepth 100000 in
theorem textsAscend_c (v : Value) (ss : List ByteArray) (w : World) (hv : Reads w v (strsV ss)) (hs : saneP ss) :
    Calls Try.prog 57 #[v] w fun e w' => e = .returned (.bool (ascB ss)) ∧ Below w.heap.size w w' := by
  have H := hidden (ascTx_c v ss w hv hs)
  obtain ⟨a, cap, rfl, _, _⟩ := reads_strs hv
  clear hv hs
  generalize ascB ss = r at *
  go_enter Try.func57, Try.ntmps57
  go_wp2_with fail
  go_at_call 90
  refine H.out.mono ?_
  rintro e w1 ⟨rfl, b1⟩
  go_wp2_with fail
  go_ret
  exact ⟨rfl, b1⟩

set_option maxHeartbeats 2000000 in
set_option maxRecDepth 100000 in
theorem notTask_c (s : ByteArray) (hs : s.size ≤ 1048576) (w : World) : Calls Try.prog 59 #[.string s] w fun e w' => e = .returned (.bool (!ptB s)) ∧ Below w.heap.size w w' := by
  have H0 := implPt_c s w hs
  have e0 : (ptD s).2.2 = ptB s := by unfold ptD; cases ptB s <;> rfl
  rw [e0] at H0
  have H := hidden H0
  generalize (ptD s).1 = x at *
  generalize (ptD s).2.1 = y at *
  generalize ptB s = r at *
  clear H0 e0
  go_enter Try.func59, Try.ntmps59
  go_wp2_with fail
  go_at_call 20
  refine H.out.mono ?_
  rintro e w1 ⟨rfl, b1⟩
  go_wp2_with fail
  go_ret
  exact ⟨rfl, b1⟩

set_option maxHeartbeats 2000000 in
set_option maxRecDepth 100000 in
theorem indexH_c (v : Value) (ss : List ByteArray) (s : ByteArray) (w : World) (hv : Reads w v (strsV ss)) (hn : ss.length ≤ 1099511627776) :
    Calls Try.prog 68 #[v, .string s] w fun e w' => (∃ r : Int, e = .returned (.int .i64 r) ∧ decide (0 ≤ r) = hasS ss s) ∧ w = w' := by
  obtain ⟨a, cap, rfl, _, hc⟩ := reads_strs hv
  clear hv
  rcases hc with rfl | ⟨b, off, rfl, hlt, hc⟩
  · go_enter Try.func68, Try.ntmps68
    go_wp2
    go_loop [8] (fun vi => vi = .int .i64 0) (fun _ => 0)
    case atStart => rfl
    case round =>
      obtain rfl := hrel
      go_wp2
      go_ret
      exact ⟨⟨-1, rfl, by simp [hasS]⟩, rfl⟩
  · go_enter Try.func68, Try.ntmps68
    go_wp2
    go_loop [8] (fun vi => ∃ k : Nat, k ≤ ss.length ∧ vi = .int .i64 (k : Int) ∧ Hid (∀ j (h : j < ss.length), j < k → ss[j] ≠ s)) (fun vi => ss.length - (intOf vi).toNat)
    case atStart => exact ⟨0, Nat.zero_le _, rfl, fun j h hj => by omega⟩
    case round =>
      obtain ⟨k, hk, rfl, hh⟩ := hrel
      by_cases hlt' : k < ss.length
      · have hcx := hc k hlt'
        obtain ⟨t, ht⟩ : ∃ t, t = ss[k] := ⟨_, rfl⟩
        rw [← ht] at hcx
        have HT : Hid (t = ss[k]) := ht
        have hki : (k : Int) < (ss.length : Int) := by omega
        clear hc ht
        go_wp2
        · have h1 : (s.toList == t.toList) = true := by assumption
          have e : s = t := bytes_eq_of_toList (by simpa using h1)
          have hm : s ∈ ss := by rw [e, HT.out]; exact List.getElem_mem hlt'
          go_ret
          exact ⟨⟨(k : Int), rfl, by rw [(hasS_iff ss s).2 hm]; simp⟩, rfl⟩
        · have h1 : (s.toList == t.toList) = false := by assumption
          have e : t ≠ s := fun e => by subst e; simp at h1
          go_round
          case rel => exact ⟨k + 1, by omega, by go_num, fun j h hj => (by
            by_cases ej : j = k
            · subst ej; rw [← HT.out]; exact e
            · exact hh.out j h (by omega))⟩
          case measure => simp [intOf]; omega
      · have he : k = ss.length := by omega
        subst he
        have hm : ¬ s ∈ ss := fun hm => by
          obtain ⟨j, hj, e⟩ := List.getElem_of_mem hm
          exact hh.out j hj hj e
        have hf : hasS ss s = false := by
          cases hq : hasS ss s with
          | false => rfl
          | true => exact absurd ((hasS_iff ss s).1 hq) hm
        have HF := hidden hf
        clear hc hf
        go_wp2
        go_ret
        exact ⟨⟨-1, rfl, by rw [HF.out]; rfl⟩, rfl⟩

set_option maxHeartbeats 2000000 in
set_option maxRecDepth 100000 in
theorem containsH_c (v : Value) (ss : List ByteArray) (s : ByteArray) (w : World) (hv : Reads w v (strsV ss)) (hn : ss.length ≤ 1099511627776) :
    Calls Try.prog 41 #[v, .string s] w fun e w' => e = .returned (.bool (hasS ss s)) ∧ w = w' := by
  have HI := hidden (indexH_c v ss s w hv hn)
  obtain ⟨a, cap, rfl, _, _⟩ := reads_strs hv
  clear hv
  go_enter Try.func41, Try.ntmps41
  go_wp2_with (go_at_call 68; refine HI.out.mono ?_; rintro e w1 ⟨⟨r, rfl, hr⟩, rfl⟩)
  go_ret
  exact ⟨by rw [← hr]; rfl, rfl⟩

set_option maxHeartbeats 8000000 in
set_option maxRecDepth 100000 in
theorem idxNotTask_c (p : ByteArray → Bool) (v : Value) (ss : List ByteArray) (w : World) (hv : Reads w v (strsV ss)) (hs : saneP ss) (hF : ∀ t ∈ ss, ∀ w1, Below w.heap.size w w1 → Calls Try.prog 59 #[.string t] w1 fun e w' => e = .returned (.bool (!p t)) ∧ Below w1.heap.size w1 w') :
    Calls Try.prog 92 #[v, .func (.func 59) #[] #[]] w fun e w' => e = .returned (.int .i64 (firstI (fun s => !p s) ss)) ∧ Below w.heap.size w w' := by
  obtain ⟨a, cap, rfl, _, ha⟩ := reads_strs hv
  obtain ⟨hl, hsz⟩ := hs
  clear hv
  have hl' := hl
  unfold maxLen at hl
  obtain ⟨R, hR⟩ : ∃ R, R = firstI (fun s => !p s) ss := ⟨_, rfl⟩
  rw [← hR]
  have HR := hidden hR
  clear hR
  go_enter Try.func92, Try.ntmps92
  go_wp2_with fail
  go_loopw [8] (fun vi wr => ∃ k : Nat, k ≤ ss.length ∧ vi = .int .i64 (k : Int) ∧ Hid (∀ j (hj : j < ss.length), j < k → (!p ss[j]) = false) ∧ Below w.heap.size w wr) (fun vi _ => ss.length - (intOf vi).toNat)
  case atStart => exact ⟨0, Nat.zero_le _, rfl, (fun j hj h => by omega), Below.refl _ _⟩
  case round =>
    obtain ⟨k, hk, rfl, hno, hbr⟩ := hrel
    by_cases hlt' : k < ss.length
    · rcases ha with rfl | ⟨b, off, rfl, hlt, ha⟩
      · simp at hlt'
      have e0 : wr.cell? ⟨b, off + k, none⟩ = some (.string ss[k]) := (hbr.cell (by simpa using hlt)).trans (ha k hlt')
      have hsk := hsz ss[k] (List.getElem_mem hlt')
      have HT : Hid ((!p ss[k]) = true → R = (k : Int)) := fun h => HR.out.trans (firstI_here hlt' h hno.out)
      have HN : Hid ((!p ss[k]) = false → ∀ j (hj : j < ss.length), j < k + 1 → (!p ss[j]) = false) := fun h j hj hjk => by
        by_cases e : j = k
        · subst e; exact h
        · exact hno.out j hj (by omega)
      have hFk := hF ss[k] (List.getElem_mem hlt') wr hbr
      obtain ⟨t, ht⟩ : ∃ t, t = ss[k] := ⟨_, rfl⟩
      rw [← ht] at e0 hsk HT HN hFk
      have HC : Calls Try.prog 59 #[.string t] wr fun e w' => e = .returned (.bool ((!p t))) ∧ Below wr.heap.size wr w' := hFk
      obtain ⟨r, hr⟩ : ∃ r, r = (!p t) := ⟨_, rfl⟩
      rw [← hr] at HC HT HN
      have HC2 := hidden HC
      have hki : (k : Int) < (ss.length : Int) := by omega
      clear ha ht hno HC hr hsz hsk hF hFk
      cases r with
      | true =>
        have HT2 := hidden (HT.out rfl)
        clear HT HN
        go_wp2_with (go_at_call 59; refine HC2.out.mono ?_; rintro e w1 ⟨rfl, b1⟩)
        go_ret
        exact ⟨by rw [HT2.out]; rfl, hbr.trans (b1.mono hbr.size)⟩
      | false =>
        have HN2 := hidden (HN.out rfl)
        clear HT HN
        go_wp2_with (go_at_call 59; refine HC2.out.mono ?_; rintro e w1 ⟨rfl, b1⟩)
        go_roundw
        case rel => exact ⟨k + 1, by omega, by go_num, HN2.out, hbr.trans (b1.mono hbr.size)⟩
        case measure => simp [intOf]; omega
    · have he : k = ss.length := by omega
      subst he
      have HE : Hid (R = -1) := HR.out.trans (firstI_none (fun j hj => hno.out j hj hj))
      clear ha hno HR hsz hF
      go_wp2_with fail
      go_ret
      exact ⟨by rw [HE.out]; rfl, hbr⟩

set_option maxHeartbeats 8000000 in
set_option maxRecDepth 100000 in
theorem anyNotTask_c (p : ByteArray → Bool) (v : Value) (ss : List ByteArray) (w : World) (hv : Reads w v (strsV ss)) (hs : saneP ss) (hF : ∀ t ∈ ss, ∀ w1, Below w.heap.size w w1 → Calls Try.prog 59 #[.string t] w1 fun e w' => e = .returned (.bool (!p t)) ∧ Below w1.heap.size w1 w') :
    Calls Try.prog 58 #[v, .func (.func 59) #[] #[]] w fun e w' => e = .returned (.bool (ss.any (fun s => !p s))) ∧ Below w.heap.size w w' := by
  have HF := idxNotTask_c p v ss w hv hs hF
  have hA := firstI_any (fun s => !p s) ss
  obtain ⟨R, hR⟩ : ∃ R, R = firstI (fun s => !p s) ss := ⟨_, rfl⟩
  rw [← hR] at HF hA
  rw [← hA]
  have HF2 := hidden HF
  obtain ⟨a, cap, rfl, _, _⟩ := reads_strs hv
  clear hv hR hA HF hF
  by_cases h0 : 0 ≤ R
  · rw [decide_eq_true h0]
    have h1 : decide (0 ≤ R) = true := decide_eq_true h0
    go_enter Try.func58, Try.ntmps58
    go_wp2_with (go_at_call 92; refine HF2.out.mono ?_; rintro e w1 ⟨rfl, b1⟩)
    go_ret
    exact ⟨by first | rfl | simp [h0] | (simp; omega), b1⟩
  · rw [decide_eq_false h0]
    have h1 : decide (0 ≤ R) = false := decide_eq_false h0
    go_enter Try.func58, Try.ntmps58
    go_wp2_with (go_at_call 92; refine HF2.out.mono ?_; rintro e w1 ⟨rfl, b1⟩)
    go_ret
    exact ⟨by first | rfl | simp [h0] | (simp; omega), b1⟩

set_option maxHeartbeats 8000000 in
set_option maxRecDepth 100000 in
theorem idxAmong_c (p : ByteArray → Bool) (ptr v : Value) (ss : List ByteArray) (w : World) (hv : Reads w v (strsV ss)) (hs : saneP ss) (hF : ∀ t ∈ ss, ∀ w1, Below w.heap.size w w1 → Calls Try.prog 94 #[.string t, ptr] w1 fun e w' => e = .returned (.bool (!p t)) ∧ Below w1.heap.size w1 w') :
    Calls Try.prog 92 #[v, .func (.func 94) #[] #[ptr]] w fun e w' => e = .returned (.int .i64 (firstI (fun s => !p s) ss)) ∧ Below w.heap.size w w' := by
  obtain ⟨a, cap, rfl, _, ha⟩ := reads_strs hv
  obtain ⟨hl, hsz⟩ := hs
  clear hv
  have hl' := hl
  unfold maxLen at hl
  obtain ⟨R, hR⟩ : ∃ R, R = firstI (fun s => !p s) ss := ⟨_, rfl⟩
  rw [← hR]
  have HR := hidden hR
  clear hR
  go_enter Try.func92, Try.ntmps92
  go_wp2_with fail
  go_loopw [8] (fun vi wr => ∃ k : Nat, k ≤ ss.length ∧ vi = .int .i64 (k : Int) ∧ Hid (∀ j (hj : j < ss.length), j < k → (!p ss[j]) = false) ∧ Below w.heap.size w wr) (fun vi _ => ss.length - (intOf vi).toNat)
  case atStart => exact ⟨0, Nat.zero_le _, rfl, (fun j hj h => by omega), Below.refl _ _⟩
  case round =>
    obtain ⟨k, hk, rfl, hno, hbr⟩ := hrel
    by_cases hlt' : k < ss.length
    · rcases ha with rfl | ⟨b, off, rfl, hlt, ha⟩
      · simp at hlt'
      have e0 : wr.cell? ⟨b, off + k, none⟩ = some (.string ss[k]) := (hbr.cell (by simpa using hlt)).trans (ha k hlt')
      have hsk := hsz ss[k] (List.getElem_mem hlt')
      have HT : Hid ((!p ss[k]) = true → R = (k : Int)) := fun h => HR.out.trans (firstI_here hlt' h hno.out)
      have HN : Hid ((!p ss[k]) = false → ∀ j (hj : j < ss.length), j < k + 1 → (!p ss[j]) = false) := fun h j hj hjk => by
        by_cases e : j = k
        · subst e; exact h
        · exact hno.out j hj (by omega)
      have hFk := hF ss[k] (List.getElem_mem hlt') wr hbr
      obtain ⟨t, ht⟩ : ∃ t, t = ss[k] := ⟨_, rfl⟩
      rw [← ht] at e0 hsk HT HN hFk
      have HC : Calls Try.prog 94 #[.string t, ptr] wr fun e w' => e = .returned (.bool ((!p t))) ∧ Below wr.heap.size wr w' := hFk
      obtain ⟨r, hr⟩ : ∃ r, r = (!p t) := ⟨_, rfl⟩
      rw [← hr] at HC HT HN
      have HC2 := hidden HC
      have hki : (k : Int) < (ss.length : Int) := by omega
      clear ha ht hno HC hr hsz hsk hF hFk
      cases r with
      | true =>
        have HT2 := hidden (HT.out rfl)
        clear HT HN
        go_wp2_with (go_at_call 94; refine HC2.out.mono ?_; rintro e w1 ⟨rfl, b1⟩)
        go_ret
        exact ⟨by rw [HT2.out]; rfl, hbr.trans (b1.mono hbr.size)⟩
      | false =>
        have HN2 := hidden (HN.out rfl)
        clear HT HN
        go_wp2_with (go_at_call 94; refine HC2.out.mono ?_; rintro e w1 ⟨rfl, b1⟩)
        go_roundw
        case rel => exact ⟨k + 1, by omega, by go_num, HN2.out, hbr.trans (b1.mono hbr.size)⟩
        case measure => simp [intOf]; omega
    · have he : k = ss.length := by omega
      subst he
      have HE : Hid (R = -1) := HR.out.trans (firstI_none (fun j hj => hno.out j hj hj))
      clear ha hno HR hsz hF
      go_wp2_with fail
      go_ret
      exact ⟨by rw [HE.out]; rfl, hbr⟩

set_option maxHeartbeats 8000000 in
set_option maxRecDepth 100000 in
theorem anyAmong_c (p : ByteArray → Bool) (ptr v : Value) (ss : List ByteArray) (w : World) (hv : Reads w v (strsV ss)) (hs : saneP ss) (hF : ∀ t ∈ ss, ∀ w1, Below w.heap.size w w1 → Calls Try.prog 94 #[.string t, ptr] w1 fun e w' => e = .returned (.bool (!p t)) ∧ Below w1.heap.size w1 w') :
    Calls Try.prog 58 #[v, .func (.func 94) #[] #[ptr]] w fun e w' => e = .returned (.bool (ss.any (fun s => !p s))) ∧ Below w.heap.size w w' := by
  have HF := idxAmong_c p ptr v ss w hv hs hF
  have hA := firstI_any (fun s => !p s) ss
  obtain ⟨R, hR⟩ : ∃ R, R = firstI (fun s => !p s) ss := ⟨_, rfl⟩
  rw [← hR] at HF hA
  rw [← hA]
  have HF2 := hidden HF
  obtain ⟨a, cap, rfl, _, _⟩ := reads_strs hv
  clear hv hR hA HF hF
  by_cases h0 : 0 ≤ R
  · rw [decide_eq_true h0]
    have h1 : decide (0 ≤ R) = true := decide_eq_true h0
    go_enter Try.func58, Try.ntmps58
    go_wp2_with (go_at_call 92; refine HF2.out.mono ?_; rintro e w1 ⟨rfl, b1⟩)
    go_ret
    exact ⟨by first | rfl | simp [h0] | (simp; omega), b1⟩
  · rw [decide_eq_false h0]
    have h1 : decide (0 ≤ R) = false := decide_eq_false h0
    go_enter Try.func58, Try.ntmps58
    go_wp2_with (go_at_call 92; refine HF2.out.mono ?_; rintro e w1 ⟨rfl, b1⟩)
    go_ret
    exact ⟨by first | rfl | simp [h0] | (simp; omega), b1⟩

set_option maxHeartbeats 2000000 in
set_option maxRecDepth 100000 in
theorem amongFn_c (u : Value) (ts : List ByteArray) (t : ByteArray) (B : Nat) (w : World) (hu : Reads w u (strsV ts)) (hn : ts.length ≤ 1048576) (hc : w.cell? ⟨B, 0, none⟩ = some u) :
    Calls Try.prog 94 #[.string t, .pointer (some ⟨B, 0, none⟩)] w fun e w' => e = .returned (.bool (!hasS ts t)) ∧ Below w.heap.size w w' := by
  have H := hidden (containsH_c u ts t w hu (by omega))
  obtain ⟨a, cap, rfl, _, _⟩ := reads_strs hu
  clear hu hn
  generalize hasS ts t = r at *
  go_enter Try.func94, Try.ntmps94
  go_wp2_with fail
  go_at_call 41
  refine H.out.mono ?_
  rintro e w1 ⟨rfl, rfl⟩
  go_wp2_with fail
  go_ret
  exact ⟨rfl, Below.refl _ _⟩

set_option maxHeartbeats 2000000 in
set_option maxRecDepth 100000 in
theorem allAmong_c (v u : Value) (ss ts : List ByteArray) (w : World) (hv : Reads w v (strsV ss)) (hs : saneP ss) (hu : Reads w u (strsV ts)) (hn : ts.length ≤ 1048576) :
    Calls Try.prog 62 #[v, u] w fun e w' => e = .returned (.bool (ss.all fun t => hasS ts t)) ∧ Below w.heap.size w w' := by
  have hmf : ∀ (fn : Fn) (first cap : Array Value) (w : World), (Instr.makeFunc fn first cap).run Try.prog w = .ok (.func fn first cap) w := fun _ _ _ _ => rfl
  have hbx : ∀ o, Below w.heap.size w (w.alloc o) := fun o => (Below.refl _ _).alloc (Nat.le_refl _) _
  have HA : Hid (∀ T, Calls Try.prog 58 #[v, .func (.func 94) #[] #[.pointer (some ⟨w.heap.size, 0, none⟩)]] (w.alloc (.cells #[u] T)) fun e w' => e = .returned (.bool (ss.any (fun s => !hasS ts s))) ∧ Below (w.alloc (.cells #[u] T)).heap.size (w.alloc (.cells #[u] T)) w') := fun T =>
    anyAmong_c (fun s => hasS ts s) _ v ss _ (hv.below (hbx _)) hs (fun t ht w1 h => amongFn_c u ts t _ w1 ((hu.below (hbx _)).below h) hn ((h.cell (by simp)).trans ((vblk_cell (vheap_new w (.cells #[u] T)) 0).trans rfl)))
  have e1 : (ss.all fun t => hasS ts t) = !(ss.any fun s => !hasS ts s) := (not_any_r _ _).symm
  rw [e1]
  obtain ⟨a, cap, rfl, _, _⟩ := reads_strs hv
  obtain ⟨a2, cap2, rfl, _, _⟩ := reads_strs hu
  generalize (ss.any fun s => !hasS ts s) = q at *
  clear hv hs hu hn e1
  go_enter Try.func62, Try.ntmps62
  go_wp2_with fail
  go_at_call 58
  refine (HA.out _).mono ?_
  rintro e w1 ⟨rfl, b1⟩
  go_wp2_with fail
  go_ret
  exact ⟨rfl, (hbx _).trans (b1.mono (hbx _).size)⟩

set_option maxHeartbeats 8000000 in
set_option maxRecDepth 100000 in
theorem planFn_c (v u x : Value) (l ts : List ByteArray) (B : Nat) (w : World) (hv : Reads w v (strsV l)) (hs : saneP l) (hu : Reads w u (strsV ts)) (hn : ts.length ≤ 1048576) (hB : w.heap[B]? = some (.cells #[u, x] 47 (0, 0))) :
    Calls Try.prog 61 #[v, .pointer (some ⟨B, 0, none⟩)] w fun e w' => e = .returned (.bool (!depsB ts l)) ∧ Below w.heap.size w w' := by
  have HT := hidden (textsAscend_c v l w hv hs)
  have HA : Hid (∀ w1, Below w.heap.size w w1 → Calls Try.prog 62 #[v, u] w1 fun e w' => e = .returned (.bool (l.all fun t => hasS ts t)) ∧ Below w1.heap.size w1 w') := fun w1 h => allAmong_c v u l ts w1 (hv.below h) hs (hu.below h) hn
  have HB : Hid (∀ w1, Below w.heap.size w w1 → w1.cell? ⟨B, 0, none⟩ = some u ∧ w1.cell? ⟨B, 1, none⟩ = some x) := fun w1 h => by
    have h1 := (h.block B (Array.getElem?_eq_some_iff.1 hB).1).trans hB
    exact ⟨vblk_cell h1 0, vblk_cell h1 1⟩
  unfold depsB
  obtain ⟨a, cap, rfl, _, _⟩ := reads_strs hv
  obtain ⟨a2, cap2, rfl, _, _⟩ := reads_strs hu
  generalize ascB l = r at *
  generalize (l.all fun t => hasS ts t) = q at *
  clear hv hs hu hn hB
  go_enter Try.func61, Try.ntmps61
  go_wp2_with fail
  go_at_call 57
  refine HT.out.mono ?_
  rintro e w1 ⟨rfl, b1⟩
  obtain ⟨c0, c1⟩ := HB.out w1 b1
  cases r with
  | false =>
    go_wp2_with fail
    go_ret
    exact ⟨rfl, b1⟩
  | true =>
    go_wp2_with fail
    go_at_call 62
    refine (HA.out _ b1).mono ?_
    rintro e w2 ⟨rfl, b2⟩
    go_wp2_with fail
    go_ret
    exact ⟨by simp, b1.trans (b2.mono b1.size)⟩

set_option maxHeartbeats 8000000 in
set_option maxRecDepth 100000 in
theorem idxDeps_c (S : Nat → Prop) (p : List ByteArray → Bool) (ptr v : Value) (xs : List StringSD) (w : World) (hv : RowIn shStringS S w v xs) (hB : ∀ b, S b → b < w.heap.size)
    (hF : ∀ l ∈ xs, ∀ u w1, Below w.heap.size w w1 → Reads w1 u (strsV l) → Calls Try.prog 61 #[u, ptr] w1 fun e w' => e = .returned (.bool (!p l)) ∧ Below w1.heap.size w1 w') :
    Calls Try.prog 93 #[v, .func (.func 61) #[] #[ptr]] w fun e w' => e = .returned (.int .i64 (firstI (fun s => !p s) xs)) ∧ Below w.heap.size w w' := by
  obtain ⟨a, cap, rfl, hl, hc, ha⟩ := hv
  unfold maxLen at hl
  obtain ⟨R, hR⟩ : ∃ R, R = firstI (fun s => !p s) xs := ⟨_, rfl⟩
  rw [← hR]
  have HR := hidden hR
  clear hR
  go_enter Try.func93, Try.ntmps93
  go_wp2_with fail
  go_loopw [8] (fun vi wr => ∃ k : Nat, k ≤ xs.length ∧ vi = .int .i64 (k : Int) ∧ Hid (∀ j (hj : j < xs.length), j < k → (!p xs[j]) = false) ∧ Below w.heap.size w wr) (fun vi _ => xs.length - (intOf vi).toNat)
  case atStart => exact ⟨0, Nat.zero_le _, rfl, (fun j hj h => by omega), Below.refl _ _⟩
  case round =>
    obtain ⟨k, hk, rfl, hno, hbr⟩ := hrel
    by_cases hlt' : k < xs.length
    · rcases ha with rfl | ⟨b, off, rfl, hlt, ha⟩
      · simp at hlt'
      obtain ⟨cs, ⟨u0, rfl, r0, p0⟩, hcell⟩ := ha k hlt'
      have e0 : wr.cell? ⟨b, off + k, none⟩ = some u0 := by
        have h9 := (hcell.keep (.of hbr hB) hlt) 0 (by simp)
        simpa [shStringS] using h9
      have hrd : Reads wr u0 (strsV xs[k]) := (r0.reads hB).below hbr
      have HT : Hid ((!p xs[k]) = true → R = (k : Int)) := fun h => HR.out.trans (firstI_here hlt' h hno.out)
      have HN : Hid ((!p xs[k]) = false → ∀ j (hj : j < xs.length), j < k + 1 → (!p xs[j]) = false) := fun h j hj hjk => by
        by_cases e : j = k
        · subst e; exact h
        · exact hno.out j hj (by omega)
      have HC0 := hF xs[k] (List.getElem_mem hlt') u0 wr hbr hrd
      obtain ⟨t, ht⟩ : ∃ t, t = xs[k] := ⟨_, rfl⟩
      rw [← ht] at hrd HT HN HC0
      obtain ⟨r, hr⟩ : ∃ r, r = (!p t) := ⟨_, rfl⟩
      rw [← hr] at HC0 HT HN
      have HC2 := hidden HC0
      obtain ⟨a0, c0, e9, _⟩ := id hrd
      rw [length_strsV] at e9
      subst e9
      have hki : (k : Int) < (xs.length : Int) := by omega
      clear ha ht hno HC0 hr r0 p0 hcell hF hrd
      cases r with
      | true =>
        have HT2 := hidden (HT.out rfl)
        clear HT HN
        go_wp2_with (go_at_call 61; refine HC2.out.mono ?_; rintro e w1 ⟨rfl, b1⟩)
        go_ret
        exact ⟨by rw [HT2.out]; rfl, hbr.trans (b1.mono hbr.size)⟩
      | false =>
        have HN2 := hidden (HN.out rfl)
        clear HT HN
        go_wp2_with (go_at_call 61; refine HC2.out.mono ?_; rintro e w1 ⟨rfl, b1⟩)
        go_roundw
        case rel => exact ⟨k + 1, by omega, by go_num, HN2.out, hbr.trans (b1.mono hbr.size)⟩
        case measure => simp [intOf]; omega
    · have he : k = xs.length := by omega
      subst he
      have HE : Hid (R = -1) := HR.out.trans (firstI_none (fun j hj => hno.out j hj hj))
      clear ha hno HR hF
      go_wp2_with fail
      go_ret
      exact ⟨by rw [HE.out]; rfl, hbr⟩

set_option maxHeartbeats 8000000 in
set_option maxRecDepth 100000 in
theorem anyDeps_c (S : Nat → Prop) (p : List ByteArray → Bool) (ptr v : Value) (xs : List StringSD) (w : World) (hv : RowIn shStringS S w v xs) (hB : ∀ b, S b → b < w.heap.size)
    (hF : ∀ l ∈ xs, ∀ u w1, Below w.heap.size w w1 → Reads w1 u (strsV l) → Calls Try.prog 61 #[u, ptr] w1 fun e w' => e = .returned (.bool (!p l)) ∧ Below w1.heap.size w1 w') :
    Calls Try.prog 60 #[v, .func (.func 61) #[] #[ptr]] w fun e w' => e = .returned (.bool (xs.any (fun s => !p s))) ∧ Below w.heap.size w w' := by
  have HF := idxDeps_c S p ptr v xs w hv hB hF
  have hA := firstI_any (fun s => !p s) xs
  obtain ⟨R, hR⟩ : ∃ R, R = firstI (fun s => !p s) xs := ⟨_, rfl⟩
  rw [← hR] at HF hA
  rw [← hA]
  have HF2 := hidden HF
  obtain ⟨a, cap, rfl, _⟩ := hv
  clear hR hA HF hF
  by_cases h0 : 0 ≤ R
  · rw [decide_eq_true h0]
    have h1 : decide (0 ≤ R) = true := decide_eq_true h0
    go_enter Try.func60, Try.ntmps60
    go_wp2_with (go_at_call 93; refine HF2.out.mono ?_; rintro e w1 ⟨rfl, b1⟩)
    go_ret
    exact ⟨by first | rfl | simp [h0] | (simp; omega), b1⟩
  · rw [decide_eq_false h0]
    have h1 : decide (0 ≤ R) = false := decide_eq_false h0
    go_enter Try.func60, Try.ntmps60
    go_wp2_with (go_at_call 93; refine HF2.out.mono ?_; rintro e w1 ⟨rfl, b1⟩)
    go_ret
    exact ⟨by first | rfl | simp [h0] | (simp; omega), b1⟩

set_option maxHeartbeats 8000000 in
set_option maxRecDepth 100000 in
theorem implPlanOk_c (S : Nat → Prop) (d : PlanD) (cs : List Value) (w : World) (hd : shPlan.lies S w cs d) (hB : ∀ b, S b → b < w.heap.size) (hw : wtPlan d ≤ 1048576) :
    Calls Try.prog 24 #[.agg cs.toArray] w fun e w' => e = .returned (.bool (planB d)) ∧ Below w.heap.size w w' := by
  obtain ⟨u0, u1, rfl, r0, p0, r1⟩ := hd
  have hmf : ∀ (fn : Fn) (first cap : Array Value) (w : World), (Instr.makeFunc fn first cap).run Try.prog w = .ok (.func fn first cap) w := fun _ _ _ _ => rfl
  have hbx : ∀ o, Below w.heap.size w (w.alloc o) := fun o => (Below.refl _ _).alloc (Nat.le_refl _) _
  unfold wtPlan at hw
  obtain ⟨q0, q1, q2⟩ := sane_wt (ss := d.tasks) (by omega)
  have hdl : d.deps.length ≤ 1048576 := by have := len_wtRow wtStringS d.deps; omega
  have hel : ∀ l ∈ d.deps, saneP l := fun l hl => (sane_wt (ss := l) (by have h9 : wtStringS l ≤ wtRow wtStringS d.deps := wt_wtRow wtStringS hl; have h8 : wtStringS l = bulkS l := rfl; omega)).1
  have hR0 : Reads w u0 (strsV d.tasks) := r0.reads hB
  have HT : Hid (∀ w1, Below w.heap.size w w1 → Calls Try.prog 57 #[u0] w1 fun e w' => e = .returned (.bool (ascB d.tasks)) ∧ Below w1.heap.size w1 w') := fun w1 h => textsAscend_c u0 d.tasks w1 (hR0.below h) q0
  have HN : Hid (∀ w1, Below w.heap.size w w1 → Calls Try.prog 58 #[u0, .func (.func 59) #[] #[]] w1 fun e w' => e = .returned (.bool (d.tasks.any (fun s => !ptB s))) ∧ Below w1.heap.size w1 w') := fun w1 h => anyNotTask_c ptB u0 d.tasks w1 (hR0.below h) q0 (fun t ht w2 _ => notTask_c t (q1 t ht) w2)
  have HD : Hid (∀ w1, Below w.heap.size w w1 → w1.heap[w.heap.size]? = some (.cells #[u0, u1] 47 (0, 0)) → Calls Try.prog 60 #[u1, .func (.func 61) #[] #[.pointer (some ⟨w.heap.size, 0, none⟩)]] w1 fun e w' => e = .returned (.bool (d.deps.any (fun s => !depsB d.tasks s))) ∧ Below w1.heap.size w1 w') := fun w1 h hbk =>
    anyDeps_c S (depsB d.tasks) _ u1 d.deps w1 (r1.keep (.of h hB)) (fun b hb => Nat.lt_of_lt_of_le (hB b hb) h.size) (fun l hl u w2 h2 hu => planFn_c u u0 u1 l d.tasks w.heap.size w2 hu (hel l hl) ((hR0.below h).below h2) q2 ((h2.block _ (Array.getElem?_eq_some_iff.1 hbk).1).trans hbk))
  have hA0 : ∀ A, (w.alloc A).heap[w.heap.size]? = some A := fun A => vheap_new _ _
  unfold planB
  rw [← not_any_r ptB d.tasks, ← not_any_r (depsB d.tasks) d.deps]
  obtain ⟨a, cap, rfl, _, _⟩ := reads_strs hR0
  obtain ⟨a1, cap1, rfl, _⟩ := id r1
  generalize ascB d.tasks = t0 at *
  generalize (d.tasks.any fun s => !ptB s) = t1 at *
  generalize (d.deps.any fun s => !depsB d.tasks s) = t2 at *
  obtain ⟨n, hn⟩ : ∃ n, n = d.tasks.length := ⟨_, rfl⟩
  obtain ⟨m, hm⟩ : ∃ n, n = d.deps.length := ⟨_, rfl⟩
  rw [← hn] at HT HN HD q2 ⊢
  rw [← hm] at HD hdl ⊢
  clear hw r0 r1 p0 hB q0 q1 hel hR0 hn hm
  by_cases h16 : n ≤ 16
  · rw [decide_eq_true h16]
    have g1 : ¬ (16 : Int) < (n : Int) := by omega
    by_cases hmn : m = n
    · rw [decide_eq_true hmn]
      have g2 : (m : Int) = (n : Int) := by omega
      subst hmn
      clear g2 h16
      go_enter Try.func24, Try.ntmps24
      go_wp2_with fail
      go_at_call 57
      refine (HT.out _ (hbx _)).mono ?_
      rintro e w1 ⟨rfl, b1⟩
      have hx1 := boxAt b1
      have k1 : Below w.heap.size w w1 := (hbx _).trans (b1.mono (hbx _).size)
      have x0 := vblk_cell hx1 0
      have x1 := vblk_cell hx1 1
      simp only [List.getElem?_toArray, List.getElem?_cons_succ, List.getElem?_cons_zero] at x0 x1
      cases t0 with
      | false =>
        go_wp2_with fail
        go_ret
        exact ⟨by simp, k1⟩
      | true =>
        go_wp2_with fail
        go_at_call 58
        refine (HN.out _ k1).mono ?_
        rintro e w2 ⟨rfl, b2⟩
        have hx2 := (b2.block _ (Array.getElem?_eq_some_iff.1 hx1).1).trans hx1
        have k2 : Below w.heap.size w w2 := k1.trans (b2.mono k1.size)
        have y0 := vblk_cell hx2 0
        have y1 := vblk_cell hx2 1
        simp only [List.getElem?_toArray, List.getElem?_cons_succ, List.getElem?_cons_zero] at y0 y1
        cases t1 with
        | true =>
          go_wp2_with fail
          go_ret
          exact ⟨by simp, k2⟩
        | false =>
          go_wp2_with fail
          go_at_call 60
          refine (HD.out _ k2 hx2).mono ?_
          rintro e w3 ⟨rfl, b3⟩
          go_wp2_with fail
          go_ret
          exact ⟨by simp, k2.trans (b3.mono k2.size)⟩
    · rw [decide_eq_false hmn]
      have g2 : ¬ (m : Int) = (n : Int) := by omega
      have g3 : ((m : Int) == (n : Int)) = false := by rw [beq_eq_false_iff_ne]; exact g2
      clear HT HN HD
      go_enter Try.func24, Try.ntmps24
      go_wp2_with fail
      go_ret
      exact ⟨by simp, hbx _⟩
  · rw [decide_eq_false h16]
    have g1 : (16 : Int) < (n : Int) := by omega
    clear HT HN HD
    go_enter Try.func24, Try.ntmps24
    go_wp2_with fail
    go_ret
    exact ⟨by simp, hbx _⟩
end Go.Proofs.Ytkkhnldhipfneaa

/-! A scope in which the run jumps to several labels: what holds at every jump, label by label, and a measure that every pass from a label lowers; no condition (a law for the walks, after the library's for one label). -/
namespace Go.Proofs.Ytkkhnldhipfneaa
set_option linter.unusedSimpArgs false
set_option linter.unusedVariables false

/-- As Q; by a goto to label l: J l. -/
def jumpsTo (J : Nat → Act → World → Prop) (Q : Exit → Act → World → Prop) : Exit → Act → World → Prop
  | .goto l, a, w => J l a w
  | e, a, w => Q e a w

section
variable {P : Program} {a : Act} {w : World} {Q : Exit → Act → World → Prop}

theorem jumpsTo_normal {J : Nat → Act → World → Prop} : jumpsTo J Q .normal a w = Q .normal a w := rfl
theorem jumpsTo_ret {J : Nat → Act → World → Prop} : jumpsTo J Q .ret a w = Q .ret a w := rfl
theorem jumpsTo_goto {J : Nat → Act → World → Prop} {l : Nat} : jumpsTo J Q (.goto l) a w = J l a w := rfl
theorem jumpsTo_exit {J : Nat → Act → World → Prop} {l : Nat} : jumpsTo J Q (.exit l) a w = Q (.exit l) a w := rfl

theorem jumpsTo_mono {J J' : Nat → Act → World → Prop} {Q' : Exit → Act → World → Prop} (hJ : ∀ l a w, J l a w → J' l a w) (hQ : ∀ e a w, Q e a w → Q' e a w) : ∀ e a w, jumpsTo J Q e a w → jumpsTo J' Q' e a w
  | .goto l, a, w, h => hJ l a w h
  | .normal, a, w, h => hQ _ a w h
  | .exit _, a, w, h => hQ _ a w h
  | .ret, a, w, h => hQ _ a w h
  | .panic _, a, w, h => hQ _ a w h
  | .outgrown, a, w, h => hQ _ a w h

theorem wp_scope_labels {c : Code} (R : Nat → Code) (J : Nat → Act → World → Prop) (μ : Nat → Act → World → Nat) (hf : ∀ l a w, J l a w → findLabel c l = some (R l))
    (first : c.wp P (jumpsTo J Q) a w)
    (pass : ∀ l a w, J l a w → (R l).wp P (jumpsTo (fun l' a' w' => J l' a' w' ∧ μ l' a' w' < μ l a w) Q) a w) : (Code.scope c).wp P Q a w := by
  intro b k cs
  have key : ∀ n l a w, μ l a w = n → J l a w → ∃ e a' w', Q e a' w' ∧ Arrives P (lone (b.at a (.code (R l) :: .inScope c :: k)) cs w) b k cs e a' w' := by
    intro n
    induction n using Nat.strongRecOn with
    | _ n ih =>
      intro l a w hn hJ
      obtain ⟨e, a₁, w₁, hq, harr⟩ := pass l a w hJ b (.inScope c :: k) cs
      cases e with
      | normal => exact ⟨.normal, a₁, w₁, hq, Steps.trans harr (.one step_inScope)⟩
      | exit id => exact ⟨.exit id, a₁, w₁, hq, fun k' hk => harr k' (by simp [exitTo, hk])⟩
      | goto l' =>
        obtain ⟨hJ', hlt⟩ := hq
        obtain ⟨e₂, a₂, w₂, hq₂, harr₂⟩ := ih _ (by omega) l' a₁ w₁ rfl hJ'
        exact ⟨e₂, a₂, w₂, hq₂, .of_steps (harr _ (by simp [gotoIn, hf l' a₁ w₁ hJ'])) harr₂⟩
      | ret => exact ⟨_, a₁, w₁, hq, harr⟩
      | panic ch => exact ⟨_, a₁, w₁, hq, harr⟩
      | outgrown => exact ⟨_, a₁, w₁, hq, harr⟩
  obtain ⟨e, a₁, w₁, hq, harr⟩ := first b (.inScope c :: k) cs
  cases e with
  | normal => exact ⟨.normal, a₁, w₁, hq, .head step_scope (Steps.trans harr (.one step_inScope))⟩
  | exit id => exact ⟨.exit id, a₁, w₁, hq, fun k' hk => .head step_scope (harr k' (by simp [exitTo, hk]))⟩
  | goto l' =>
    obtain ⟨e₂, a₂, w₂, hq₂, harr₂⟩ := key _ l' a₁ w₁ rfl hq
    exact ⟨e₂, a₂, w₂, hq₂, .of_steps (.head step_scope (harr _ (by simp [gotoIn, hf l' a₁ w₁ hq]))) harr₂⟩
  | ret => exact ⟨_, a₁, w₁, hq, .of_steps (.one step_scope) harr⟩
  | panic ch => exact ⟨_, a₁, w₁, hq, .of_steps (.one step_scope) harr⟩
  | outgrown => exact ⟨_, a₁, w₁, hq, .of_steps (.one step_scope) harr⟩
/-- From label l, where J l holds, the rest r runs; each jump lowers the number. -/
def Pass (P : Program) (Q : Exit → Act → World → Prop) (J : Nat → Nat → Act → World → Prop) (l : Nat) (r : Code) : Prop :=
  ∀ n a w, J l n a w → ∀ H : Nat → Act → World → Prop, (∀ l' n' a' w', n' < n → J l' n' a' w' → H l' a' w') → r.wp P (jumpsTo H Q) a w

theorem pass_skip {J : Nat → Nat → Act → World → Prop} {l : Nat} {r : Code} (h : Pass P Q J l r) : Pass P Q J l (Code.skip.seq r) := fun n a w hJ H hH =>
  wp_seq (wp_skip (h n a w hJ H hH))

theorem wp_scope_three {c ra rb rc : Code} (A B C : Nat) (J : Nat → Nat → Act → World → Prop) (ha : findLabel c A = some (Code.skip.seq ra)) (hb : findLabel c B = some (Code.skip.seq rb)) (hc : findLabel c C = some (Code.skip.seq rc))
    (hl : ∀ l n a w, J l n a w → l = A ∨ l = B ∨ l = C) (pa : Pass P Q J A ra) (pb : Pass P Q J A ra → Pass P Q J B rb) (pc : Pass P Q J A ra → Pass P Q J B rb → Pass P Q J C rc)
    (first : Pass P Q J A ra → Pass P Q J B rb → Pass P Q J C rc → ∀ H : Nat → Act → World → Prop, (∀ l n a w, J l n a w → H l a w) → c.wp P (jumpsTo H Q) a w) : (Code.scope c).wp P Q a w := by
  have pb' := pb pa
  have pc' := pc pa pb'
  have hf : ∀ l n a w, J l n a w → ∃ r, findLabel c l = some r ∧ Pass P Q J l r := fun l n a w h => by
    rcases hl l n a w h with rfl | rfl | rfl
    · exact ⟨_, ha, pass_skip pa⟩
    · exact ⟨_, hb, pass_skip pb'⟩
    · exact ⟨_, hc, pass_skip pc'⟩
  intro b k cs
  have key : ∀ n l r a w, findLabel c l = some r → Pass P Q J l r → J l n a w → ∃ e a' w', Q e a' w' ∧ Arrives P (lone (b.at a (.code r :: .inScope c :: k)) cs w) b k cs e a' w' := by
    intro n
    induction n using Nat.strongRecOn with
    | _ n ih =>
      intro l r a w hr hp hJ
      obtain ⟨e, a₁, w₁, hq, harr⟩ := hp n a w hJ (fun l' a' w' => ∃ n', n' < n ∧ J l' n' a' w') (fun l' n' a' w' h1 h2 => ⟨n', h1, h2⟩) b (.inScope c :: k) cs
      cases e with
      | normal => exact ⟨.normal, a₁, w₁, hq, Steps.trans harr (.one step_inScope)⟩
      | exit id => exact ⟨.exit id, a₁, w₁, hq, fun k' hk => harr k' (by simp [exitTo, hk])⟩
      | goto l' =>
        obtain ⟨n', hlt, hJ'⟩ := hq
        obtain ⟨r', hr', hp'⟩ := hf l' n' a₁ w₁ hJ'
        obtain ⟨e₂, a₂, w₂, hq₂, harr₂⟩ := ih n' hlt l' r' a₁ w₁ hr' hp' hJ'
        exact ⟨e₂, a₂, w₂, hq₂, .of_steps (harr _ (by simp [gotoIn, hr'])) harr₂⟩
      | ret => exact ⟨_, a₁, w₁, hq, harr⟩
      | panic ch => exact ⟨_, a₁, w₁, hq, harr⟩
      | outgrown => exact ⟨_, a₁, w₁, hq, harr⟩
  obtain ⟨e, a₁, w₁, hq, harr⟩ := first pa pb' pc' (fun l a w => ∃ n, J l n a w) (fun l n a w h => ⟨n, h⟩) b (.inScope c :: k) cs
  cases e with
  | normal => exact ⟨.normal, a₁, w₁, hq, .head step_scope (Steps.trans harr (.one step_inScope))⟩
  | exit id => exact ⟨.exit id, a₁, w₁, hq, fun k' hk => .head step_scope (harr k' (by simp [exitTo, hk]))⟩
  | goto l' =>
    obtain ⟨n', hJ'⟩ := hq
    obtain ⟨r', hr', hp'⟩ := hf l' n' a₁ w₁ hJ'
    obtain ⟨e₂, a₂, w₂, hq₂, harr₂⟩ := key n' l' r' a₁ w₁ hr' hp' hJ'
    exact ⟨e₂, a₂, w₂, hq₂, .of_steps (.head step_scope (harr _ (by simp [gotoIn, hr']))) harr₂⟩
  | ret => exact ⟨_, a₁, w₁, hq, .of_steps (.one step_scope) harr⟩
  | panic ch => exact ⟨_, a₁, w₁, hq, .of_steps (.one step_scope) harr⟩
  | outgrown => exact ⟨_, a₁, w₁, hq, .of_steps (.one step_scope) harr⟩
end
end Go.Proofs.Ytkkhnldhipfneaa

/-! Files, and lists of files, that lie in memory; how much they hold, copies of them, and whether two are alike, as the law's helpers work it out: contracts for the walks; conditions as each says. -/
namespace Go.Proofs.Ytkkhnldhipfneaa
open Go.RowKit
set_option linter.unusedSimpArgs false
set_option linter.unusedVariables false

structure FileD where
  p : ByteArray
  t : ByteArray

def saneF (f : FileD) : Prop := f.p.size ≤ maxLen ∧ f.t.size ≤ maxLen

/-- The two cells from place j on in block b are the file f. -/
def FileAt (w : World) (b j : Nat) (f : FileD) : Prop := w.cell? ⟨b, j, none⟩ = some (.string f.p) ∧ w.cell? ⟨b, j + 1, none⟩ = some (.string f.t)

/-- The list of files v is fs. -/
def FilesIn (S : Nat → Prop) (w : World) (v : Value) (fs : List FileD) : Prop :=
  ∃ q cap, v = .slice q fs.length cap ∧ fs.length ≤ maxLen ∧ fs.length ≤ cap ∧ (∀ f ∈ fs, saneF f) ∧ (fs = [] ∨ ∃ (b off : Nat), q = some ⟨b, off, none⟩ ∧ S b ∧ ∀ k (h : k < fs.length), FileAt w b (off + k * 2) fs[k])
theorem FilesIn.keep {S : Nat → Prop} {w w' : World} {v : Value} {fs : List FileD} (hk : Kp S w w') (h : FilesIn S w v fs) : FilesIn S w' v fs := by
  obtain ⟨q, cap, hv, hm, hc, hs, h⟩ := h
  refine ⟨q, cap, hv, hm, hc, hs, ?_⟩
  rcases h with h | ⟨b, off, hq, hb, h⟩
  · exact .inl h
  · exact .inr ⟨b, off, hq, hb, fun k hh => ⟨(hk.cell hb _).trans (h k hh).1, (hk.cell hb _).trans (h k hh).2⟩⟩
theorem FilesIn.mono {S S' : Nat → Prop} {w : World} {v : Value} {fs : List FileD} (hS : ∀ b, S b → S' b) (h : FilesIn S w v fs) : FilesIn S' w v fs := by
  obtain ⟨q, cap, hv, hm, hc, hs, h⟩ := h
  refine ⟨q, cap, hv, hm, hc, hs, ?_⟩
  rcases h with h | ⟨b, off, hq, hb, h⟩
  · exact .inl h
  · exact .inr ⟨b, off, hq, hS b hb, h⟩
theorem FilesIn.below {w w' : World} {v : Value} {fs : List FileD} (h : FilesIn (· < w.heap.size) w v fs) (hb : Below w.heap.size w w') : FilesIn (· < w'.heap.size) w' v fs :=
  (h.keep (.of hb (fun b h => h))).mono (fun b h => Nat.lt_of_lt_of_le h hb.size)

/-- How much a file, and a list of them, holds, as the law counts it. -/
def wt1 (f : FileD) : Nat := f.p.size + f.t.size
def wtF (fs : List FileD) : Nat := (fs.map fun f => 1 + wt1 f).sum
theorem wtF_take (fs : List FileD) (k : Nat) (h : k < fs.length) : wtF (fs.take (k + 1)) = wtF (fs.take k) + (1 + wt1 fs[k]) := by
  rw [wtF, wtF, List.take_succ_eq_append_getElem h]; simp only [List.map_append, List.sum_append, List.map_cons, List.map_nil, List.sum_cons, List.sum_nil, Nat.add_zero]
theorem wtF_split (fs : List FileD) (k : Nat) : wtF fs = wtF (fs.take k) + wtF (fs.drop k) := by
  rw [wtF, wtF, wtF, ← List.sum_append, ← List.map_append, List.take_append_drop]
theorem len_wtF (fs : List FileD) : fs.length ≤ wtF fs := by
  induction fs with
  | nil => simp [wtF]
  | cons d ds ih => simp [wtF] at ih ⊢; omega
theorem wt1_wtF {fs : List FileD} {f : FileD} (h : f ∈ fs) : wt1 f ≤ wtF fs := by
  induction fs with
  | nil => simp at h
  | cons x fs ih =>
    simp [wtF] at ih ⊢
    rcases List.mem_cons.1 h with rfl | h
    · omega
    · have := ih h; omega

/-- The cells of a list of files. -/
def cellsF (fs : List FileD) : List Value := fs.flatMap fun f => [.string f.p, .string f.t]
theorem cellsF_length (fs : List FileD) : (cellsF fs).length = fs.length * 2 := by
  induction fs with
  | nil => rfl
  | cons f fs ih => simp only [cellsF, List.flatMap_cons, List.length_append, List.length_cons, List.length_nil] at ih ⊢; omega
theorem cellsF_append (a b : List FileD) : cellsF (a ++ b) = cellsF a ++ cellsF b := by simp [cellsF]
theorem cellsF_at (fs : List FileD) : ∀ (k : Nat) (h : k < fs.length), (cellsF fs)[k * 2]? = some (.string fs[k].p) ∧ (cellsF fs)[k * 2 + 1]? = some (.string fs[k].t) := by
  induction fs with
  | nil => intro k h; simp at h
  | cons f fs ih =>
    intro k h
    cases k with
    | zero => simp [cellsF]
    | succ k =>
      have := ih k (by simpa using h)
      have e : cellsF (f :: fs) = [.string f.p, .string f.t] ++ cellsF fs := by simp [cellsF]
      rw [e, List.getElem?_append_right (by simp; omega), List.getElem?_append_right (by simp; omega)]
      simp only [List.length_cons, List.length_nil, List.getElem_cons_succ]
      rw [show (k + 1) * 2 - (0 + 1 + 1) = k * 2 by omega, show (k + 1) * 2 + 1 - (0 + 1 + 1) = k * 2 + 1 by omega]
      exact this

theorem filesIn_owns {w : World} {lo n : Nat} {e : TypeId} {v : Value} {fs : List FileD} (hg : w.ownsRow lo e 2 v n (cellsF fs)) (hs : ∀ f ∈ fs, saneF f) : FilesIn (Ow lo w.heap.size) w v fs := by
  have hlen := hg.1
  rw [cellsF_length] at hlen
  have hn : n = fs.length := by omega
  subst hn
  rcases hg.2 with ⟨rfl, h0⟩ | ⟨g, cap, cur, rfl, hlo, hg', hcap, hmax, _⟩
  · refine ⟨_, _, by rw [h0], by rw [h0]; exact Nat.zero_le _, by omega, hs, .inl (List.eq_nil_of_length_eq_zero h0)⟩
  · have hgl := (Array.getElem?_eq_some_iff.1 hg').1
    refine ⟨_, _, rfl, by omega, hcap, hs, .inr ⟨g, 0, rfl, ⟨hlo, hgl⟩, fun k hk => ?_⟩⟩
    obtain ⟨h1, h2⟩ := cellsF_at fs k hk
    rw [Nat.zero_add]
    exact ⟨(hg.cellAt _ (by omega)).trans h1, (hg.cellAt _ (by omega)).trans h2⟩

theorem set2_step {ys : List Value} {fs : List FileD} {k : Nat} (hk : k < fs.length) (h : ys.length = fs.length * 2 ∧ ∀ j, j < k * 2 → ys[j]? = (cellsF fs)[j]?) :
    ((ys.set (k * 2) (.string fs[k].p)).set (k * 2 + 1) (.string fs[k].t)).length = fs.length * 2 ∧ ∀ j, j < (k + 1) * 2 → ((ys.set (k * 2) (.string fs[k].p)).set (k * 2 + 1) (.string fs[k].t))[j]? = (cellsF fs)[j]? := by
  refine ⟨by simp [h.1], fun j hj => ?_⟩
  obtain ⟨h1, h2⟩ := cellsF_at fs k hk
  by_cases e1 : j = k * 2 + 1
  · subst e1
    rw [h2, List.getElem?_set_self (by simp [h.1]; omega)]
  · rw [List.getElem?_set_ne (by omega)]
    by_cases e0 : j = k * 2
    · subst e0
      rw [h1, List.getElem?_set_self (by omega)]
    · rw [List.getElem?_set_ne (by omega)]
      exact h.2 j (by omega)

end Go.Proofs.Ytkkhnldhipfneaa

/-! Files copied, one and a list of them, the program's: contracts for the walks; conditions: the list lies in memory, its texts have at most 2 to the 20 bytes. -/
namespace Go.Proofs.Ytkkhnldhipfneaa
open Go.RowKit
set_option linter.unusedSimpArgs false
set_option linter.unusedVariables false

theorem cell_two_c (w : World) (v u : Value) (t : TypeId) : ∀ j x, ([v, u] : List Value)[j]? = some x → (w.alloc (.cells #[v, u] t)).cell? ((⟨w.heap.size, 0, none⟩ : Addr).add j) = some x := fun j x hj => by
  have h2 : j < 2 := by have := (List.getElem?_eq_some_iff.1 hj).1; simpa using this
  have e : ((⟨w.heap.size, 0, none⟩ : Addr).add j) = ⟨w.heap.size, j, none⟩ := by unfold Addr.add; split <;> simp_all
  rw [e, vblk_cell (vheap_new _ _) j]
  match j, h2 with
  | 0, _ => simpa using hj
  | 1, _ => simpa using hj

theorem owns2_below {w w' : World} {base : Nat} {e : TypeId} {v : Value} {n : Nat} {xs : List Value} (h : w.ownsRow base e 2 v n xs) (b : Below w.heap.size w w') : w'.ownsRow base e 2 v n xs := by
  rcases h.2 with ⟨rfl, rfl⟩ | ⟨g, cap, cur, rfl, hg, hh, _⟩
  · exact ⟨h.1, .inl ⟨rfl, rfl⟩⟩
  · exact h.kept (grown_of_below b none) (by simp [Value.ownBlock])

end Go.Proofs.Ytkkhnldhipfneaa

/-! Signs that lie in memory, and what one sign answers of a byte (the program's): contracts for the walks; conditions as each says. -/
namespace Go.Proofs.Ytkkhnldhipfneaa
open Go.RowKit
set_option linter.unusedSimpArgs false
set_option linter.unusedVariables false

def takesS (g : Sgn) (c : Int) : Bool := (g.set.any fun u => (u.toNat : Int) == c) != g.nt
def sgnV (g : Sgn) : Value := .agg #[.bool g.many, .bool g.nt, .string ⟨g.set.toArray⟩]

/-- The three cells from place j on in block b are the sign g. -/
def SgnAt (w : World) (b j : Nat) (g : Sgn) : Prop := w.cell? ⟨b, j, none⟩ = some (.bool g.many) ∧ w.cell? ⟨b, j + 1, none⟩ = some (.bool g.nt) ∧ w.cell? ⟨b, j + 2, none⟩ = some (.string ⟨g.set.toArray⟩)
/-- The list of signs v is gs. -/
def SgnsIn (S : Nat → Prop) (w : World) (v : Value) (gs : List Sgn) : Prop :=
  ∃ q cap, v = .slice q gs.length cap ∧ gs.length ≤ 12 ∧ gs.length ≤ cap ∧ (gs = [] ∨ ∃ (b off : Nat), q = some ⟨b, off, none⟩ ∧ S b ∧ ∀ k (h : k < gs.length), SgnAt w b (off + k * 3) gs[k])
theorem SgnsIn.keep {S : Nat → Prop} {w w' : World} {v : Value} {gs : List Sgn} (hk : Kp S w w') (h : SgnsIn S w v gs) : SgnsIn S w' v gs := by
  obtain ⟨q, cap, hv, hm, hc, h⟩ := h
  refine ⟨q, cap, hv, hm, hc, ?_⟩
  rcases h with h | ⟨b, off, hq, hb, h⟩
  · exact .inl h
  · exact .inr ⟨b, off, hq, hb, fun k hh => ⟨(hk.cell hb _).trans (h k hh).1, (hk.cell hb _).trans (h k hh).2.1, (hk.cell hb _).trans (h k hh).2.2⟩⟩
theorem SgnsIn.mono {S S' : Nat → Prop} {w : World} {v : Value} {gs : List Sgn} (hS : ∀ b, S b → S' b) (h : SgnsIn S w v gs) : SgnsIn S' w v gs := by
  obtain ⟨q, cap, hv, hm, hc, h⟩ := h
  refine ⟨q, cap, hv, hm, hc, ?_⟩
  rcases h with h | ⟨b, off, hq, hb, h⟩
  · exact .inl h
  · exact .inr ⟨b, off, hq, hS b hb, h⟩

theorem indexByte_any (l : List UInt8) (c : Int) (h0 : 0 ≤ c) (h1 : c ≤ 255) : decide (0 ≤ Lib.indexByte l c.toNat.toUInt8) = l.any (fun u => (u.toNat : Int) == c) := by
  have hcn : ∀ u : UInt8, ((u.toNat : Int) == c) = true ↔ u = c.toNat.toUInt8 := fun u => by
    have hu := u.toNat_lt
    rw [beq_iff_eq]
    constructor
    · intro e
      have : u.toNat = c.toNat := by omega
      rw [← this]; simp
    · intro e
      subst e
      simp [UInt8.toNat_ofNat']
      omega
  have hge := Lib.indexByte_ge l c.toNat.toUInt8
  by_cases hm : Lib.indexByte l c.toNat.toUInt8 = -1
  · rw [hm]
    have : l.any (fun u => (u.toNat : Int) == c) = false := by
      rw [List.any_eq_false]
      intro u hu hc
      obtain ⟨k, hk, he⟩ := List.getElem_of_mem hu
      have h2 := Lib.indexByte_none hm k
      rw [List.getElem?_eq_getElem hk, he, (hcn u).1 hc] at h2
      exact h2 rfl
    rw [this]; rfl
  · obtain ⟨k, hk⟩ := Int.eq_ofNat_of_zero_le (show 0 ≤ Lib.indexByte l c.toNat.toUInt8 by omega)
    obtain ⟨hh, hbef⟩ := Lib.indexByte_some hk
    have : l.any (fun u => (u.toNat : Int) == c) = true := by
      rw [List.any_eq_true]
      exact ⟨_, List.mem_of_getElem? hh, (hcn _).2 rfl⟩
    rw [this, hk]
    exact decide_eq_true (by omega)

end Go.Proofs.Ytkkhnldhipfneaa

/-! Signs gone through by bytes, the program's: the answer is as if all ways were tried; a contract for the walks; conditions: both lists lie in memory, at most 12 signs, at most 2 to the 20 bytes. -/
namespace Go.Proofs.Ytkkhnldhipfneaa
open Go.RowKit
set_option linter.unusedSimpArgs false
set_option linter.unusedVariables false

/-- The frame of the run through signs: its five words, the scratch forgotten. -/
def FrS (q : Option Addr) (L cap : Nat) (a : Option Addr) (N cap2 : Nat) (x5 x6 x7 x8 x9 : Value) (f : Act) : Prop :=
  ∃ (u10 u11 u12 u13 u14 u15 u16 u17 u18 u19 u20 u21 u22 u23 u24 u25 u26 u27 u28 u29 u30 u31 u32 u33 u34 u35 u36 u37 u38 u39 u40 u41 u42 u43 u44 u45 u46 u47 u48 u49 u50 u51 u52 u53 u54 u55 u56 u57 u58 u59 u60 u61 u62 u63 u64 u65 u66 u67 u68 u69 u70 u71 u72 u73 u74 : Value), f = { tmps := #[.slice q L cap, .slice a N cap2, undef, undef, .bool false, x5, x6, x7, x8, x9, u10, u11, u12, u13, u14, u15, u16, u17, u18, u19, u20, u21, u22, u23, u24, u25, u26, u27, u28, u29, u30, u31, u32, u33, u34, u35, u36, u37, u38, u39, u40, u41, u42, u43, u44, u45, u46, u47, u48, u49, u50, u51, u52, u53, u54, u55, u56, u57, u58, u59, u60, u61, u62, u63, u64, u65, u66, u67, u68, u69, u70, u71, u72, u73, u74], defers := [] }

theorem FrS.elim {C : Act → Prop} {q : Option Addr} {L cap : Nat} {a : Option Addr} {N cap2 : Nat} {x5 x6 x7 x8 x9 : Value} {f : Act} (h : FrS q L cap a N cap2 x5 x6 x7 x8 x9 f)
    (k : ∀ (u10 u11 u12 u13 u14 u15 u16 u17 u18 u19 u20 u21 u22 u23 u24 u25 u26 u27 u28 u29 u30 u31 u32 u33 u34 u35 u36 u37 u38 u39 u40 u41 u42 u43 u44 u45 u46 u47 u48 u49 u50 u51 u52 u53 u54 u55 u56 u57 u58 u59 u60 u61 u62 u63 u64 u65 u66 u67 u68 u69 u70 u71 u72 u73 u74 : Value), C { tmps := #[.slice q L cap, .slice a N cap2, undef, undef, .bool false, x5, x6, x7, x8, x9, u10, u11, u12, u13, u14, u15, u16, u17, u18, u19, u20, u21, u22, u23, u24, u25, u26, u27, u28, u29, u30, u31, u32, u33, u34, u35, u36, u37, u38, u39, u40, u41, u42, u43, u44, u45, u46, u47, u48, u49, u50, u51, u52, u53, u54, u55, u56, u57, u58, u59, u60, u61, u62, u63, u64, u65, u66, u67, u68, u69, u70, u71, u72, u73, u74], defers := [] }) : C f :=
  Exists.elim h fun u10 h => Exists.elim h fun u11 h => Exists.elim h fun u12 h => Exists.elim h fun u13 h => Exists.elim h fun u14 h => Exists.elim h fun u15 h => Exists.elim h fun u16 h => Exists.elim h fun u17 h => Exists.elim h fun u18 h => Exists.elim h fun u19 h => Exists.elim h fun u20 h => Exists.elim h fun u21 h => Exists.elim h fun u22 h => Exists.elim h fun u23 h => Exists.elim h fun u24 h => Exists.elim h fun u25 h => Exists.elim h fun u26 h => Exists.elim h fun u27 h => Exists.elim h fun u28 h => Exists.elim h fun u29 h => Exists.elim h fun u30 h => Exists.elim h fun u31 h => Exists.elim h fun u32 h => Exists.elim h fun u33 h => Exists.elim h fun u34 h => Exists.elim h fun u35 h => Exists.elim h fun u36 h => Exists.elim h fun u37 h => Exists.elim h fun u38 h => Exists.elim h fun u39 h => Exists.elim h fun u40 h => Exists.elim h fun u41 h => Exists.elim h fun u42 h => Exists.elim h fun u43 h => Exists.elim h fun u44 h => Exists.elim h fun u45 h => Exists.elim h fun u46 h => Exists.elim h fun u47 h => Exists.elim h fun u48 h => Exists.elim h fun u49 h => Exists.elim h fun u50 h => Exists.elim h fun u51 h => Exists.elim h fun u52 h => Exists.elim h fun u53 h => Exists.elim h fun u54 h => Exists.elim h fun u55 h => Exists.elim h fun u56 h => Exists.elim h fun u57 h => Exists.elim h fun u58 h => Exists.elim h fun u59 h => Exists.elim h fun u60 h => Exists.elim h fun u61 h => Exists.elim h fun u62 h => Exists.elim h fun u63 h => Exists.elim h fun u64 h => Exists.elim h fun u65 h => Exists.elim h fun u66 h => Exists.elim h fun u67 h => Exists.elim h fun u68 h => Exists.elim h fun u69 h => Exists.elim h fun u70 h => Exists.elim h fun u71 h => Exists.elim h fun u72 h => Exists.elim h fun u73 h => Exists.elim h fun u74 h => Eq.mpr (congrArg C h) (k u10 u11 u12 u13 u14 u15 u16 u17 u18 u19 u20 u21 u22 u23 u24 u25 u26 u27 u28 u29 u30 u31 u32 u33 u34 u35 u36 u37 u38 u39 u40 u41 u42 u43 u44 u45 u46 u47 u48 u49 u50 u51 u52 u53 u54 u55 u56 u57 u58 u59 u60 u61 u62 u63 u64 u65 u66 u67 u68 u69 u70 u71 u72 u73 u74)

theorem inv_le {α β : Type} {many : α → Bool} {takes : α → β → Bool} {ps : List α} {xs : List β} {s t b tk : Nat} {seen : Bool} (h : Inv many takes ps xs s t b tk seen) : s ≤ ps.length ∧ t ≤ xs.length ∧ b ≤ s ∧ tk ≤ t := by
  obtain ⟨h1, h2, h3, h4, _⟩ := h
  exact ⟨h1, h2, h3, by omega⟩

/-- What holds at the three labels (0: many, 1: look, 2: back). -/
def JS (w : World) (q : Option Addr) (gs : List Sgn) (cap : Nat) (a : Option Addr) (zs : List Int) (cap2 : Nat) (l n : Nat) (f : Act) (wr : World) : Prop :=
  ∃ (s t b tk : Nat) (seen : Bool) (x5 x6 x7 x8 : Value), FrS q gs.length cap a zs.length cap2 x5 x6 x7 x8 (.bool seen) f ∧ x5 = .int .i64 (s : Int) ∧ x6 = .int .i64 (t : Int) ∧ x7 = .int .i64 (b : Int) ∧ x8 = .int .i64 (tk : Int) ∧
    Inv Sgn.many takesS gs zs s t b tk seen ∧ Below w.heap.size w wr ∧
    ((l = 1 ∧ n = 2 * goM gs.length zs.length s b tk + 1) ∨ (l = 0 ∧ n = 2 * goM gs.length zs.length s b tk ∧ ∃ g, gs[s]? = some g ∧ g.many = true) ∨ (l = 2 ∧ n = 2 * goM gs.length zs.length s b tk ∧ F2 Sgn.many takesS gs zs s t = false))

end Go.Proofs.Ytkkhnldhipfneaa

/-! Pieces that lie in memory, and what one piece answers of a name (the program's): contracts for the walks; conditions as each says. -/
namespace Go.Proofs.Ytkkhnldhipfneaa
open Go.RowKit
set_option linter.unusedSimpArgs false
set_option linter.unusedVariables false

def intsOf (y : ByteArray) : List Int := y.data.toList.map fun u => (u.toNat : Int)
theorem intsOf_len (y : ByteArray) : (intsOf y).length = y.size := by unfold intsOf; rw [List.length_map, len_list]
theorem intsOf_in (y : ByteArray) : ∀ c ∈ intsOf y, 0 ≤ c ∧ c ≤ 255 := fun c h => by
  obtain ⟨u, _, rfl⟩ := List.mem_map.1 h
  exact ⟨byte0 u, byte255 u⟩
def manyT (x : ByteArray) : Bool := x.toList == [42, 42]
def takesT (x y : ByteArray) : Bool := fullG Sgn.many takesS (sgnsOf x) (intsOf y)

/-- The two cells from place j on in block b are the piece that is read off x. -/
def PceAt (S : Nat → Prop) (w : World) (b j : Nat) (x : ByteArray) : Prop := w.cell? ⟨b, j, none⟩ = some (.bool (manyT x)) ∧ ∃ v, w.cell? ⟨b, j + 1, none⟩ = some v ∧ SgnsIn S w v (sgnsOf x)
/-- The list of pieces v is what is read off xs. -/
def PcsIn (S : Nat → Prop) (w : World) (v : Value) (xs : List ByteArray) : Prop :=
  ∃ q cap, v = .slice q xs.length cap ∧ xs.length ≤ 4 ∧ xs.length ≤ cap ∧ (xs = [] ∨ ∃ (b off : Nat), q = some ⟨b, off, none⟩ ∧ S b ∧ ∀ k (h : k < xs.length), PceAt S w b (off + k * 2) xs[k])

theorem bytes_new (w : World) (y : ByteArray) (C : Nat) (t : TypeId) (z : Nat × Nat) (hC : y.size ≤ C) :
    Reads (w.alloc (.cells (bytesRow y C) t z)) (.slice (some ⟨w.heap.size, 0, none⟩) y.size C) (bytesV (intsOf y)) := by
  refine ⟨some ⟨w.heap.size, 0, none⟩, C, by rw [length_bytesV, intsOf_len], by rw [length_bytesV, intsOf_len]; exact hC, .inr ⟨w.heap.size, 0, rfl, by simp, fun k hk => ?_⟩⟩
  rw [length_bytesV, intsOf_len] at hk
  have hh : (w.alloc (.cells (bytesRow y C) t z)).heap[w.heap.size]? = some (.cells (bytesRow y C) t z) := vheap_new _ _
  rw [Nat.zero_add, cell_of_row _ _ k _ _ _ hh]
  unfold bytesRow
  have h1 : k < y.data.size := hk
  rw [Array.getElem?_append_left (by simpa using h1)]
  simp only [bytesV, intsOf, List.getElem_map, Array.getElem?_map, Array.getElem?_eq_getElem h1, Option.map_some, Array.getElem_toList]

end Go.Proofs.Ytkkhnldhipfneaa

/-! Signs put one behind the other in memory of the call's own, beside the set that is being read: facts for the walks; no condition. -/
namespace Go.Proofs.Ytkkhnldhipfneaa
open Go.RowKit
set_option linter.unusedSimpArgs false
set_option linter.unusedVariables false

def cellsS (gs : List Sgn) : List Value := gs.flatMap fun g => [.bool g.many, .bool g.nt, .string ⟨g.set.toArray⟩]
theorem cellsS_length (gs : List Sgn) : (cellsS gs).length = gs.length * 3 := by
  induction gs with
  | nil => rfl
  | cons f fs ih => simp only [cellsS, List.flatMap_cons, List.length_append, List.length_cons, List.length_nil] at ih ⊢; omega
theorem cellsS_append (a b : List Sgn) : cellsS (a ++ b) = cellsS a ++ cellsS b := by simp [cellsS]
theorem cellsS_at (gs : List Sgn) : ∀ (k : Nat) (h : k < gs.length), (cellsS gs)[k * 3]? = some (.bool gs[k].many) ∧ (cellsS gs)[k * 3 + 1]? = some (.bool gs[k].nt) ∧ (cellsS gs)[k * 3 + 2]? = some (.string ⟨gs[k].set.toArray⟩) := by
  induction gs with
  | nil => intro k h; simp at h
  | cons f fs ih =>
    intro k h
    have e : cellsS (f :: fs) = [.bool f.many, .bool f.nt, .string ⟨f.set.toArray⟩] ++ cellsS fs := by simp [cellsS]
    cases k with
    | zero => rw [e]; simp
    | succ k =>
      have := ih k (by simpa using h)
      rw [e, List.getElem?_append_right (by simp; omega), List.getElem?_append_right (by simp; omega), List.getElem?_append_right (by simp; omega)]
      simp only [List.length_cons, List.length_nil, List.getElem_cons_succ]
      rw [show (k + 1) * 3 - (0 + 1 + 1 + 1) = k * 3 by omega, show (k + 1) * 3 + 1 - (0 + 1 + 1 + 1) = k * 3 + 1 by omega, show (k + 1) * 3 + 2 - (0 + 1 + 1 + 1) = k * 3 + 2 by omega]
      exact this
theorem sgnsIn_owns {w : World} {lo n : Nat} {e : TypeId} {v : Value} {gs : List Sgn} (hg : w.ownsRow lo e 3 v n (cellsS gs)) (h12 : gs.length ≤ 12) : SgnsIn (Ow lo w.heap.size) w v gs := by
  have hlen := hg.1
  rw [cellsS_length] at hlen
  have hn : n = gs.length := by omega
  subst hn
  rcases hg.2 with ⟨rfl, h0⟩ | ⟨g, cap, cur, rfl, hlo, hg', hcap, hmax, _⟩
  · exact ⟨_, _, by rw [h0], h12, by omega, .inl (List.eq_nil_of_length_eq_zero h0)⟩
  · have hgl := (Array.getElem?_eq_some_iff.1 hg').1
    refine ⟨_, _, rfl, h12, hcap, .inr ⟨g, 0, rfl, ⟨hlo, hgl⟩, fun k hk => ?_⟩⟩
    obtain ⟨h1, h2, h3⟩ := cellsS_at gs k hk
    rw [Nat.zero_add]
    exact ⟨(hg.cellAt _ (by omega)).trans h1, (hg.cellAt _ (by omega)).trans h2, (hg.cellAt _ (by omega)).trans h3⟩

theorem cell_three_c (w : World) (v u x : Value) (t : TypeId) : ∀ j y, ([v, u, x] : List Value)[j]? = some y → (w.alloc (.cells #[v, u, x] t)).cell? ((⟨w.heap.size, 0, none⟩ : Addr).add j) = some y := fun j y hj => by
  have h2 : j < 3 := by have := (List.getElem?_eq_some_iff.1 hj).1; simpa using this
  have e : ((⟨w.heap.size, 0, none⟩ : Addr).add j) = ⟨w.heap.size, j, none⟩ := by unfold Addr.add; split <;> simp_all
  rw [e, vblk_cell (vheap_new _ _) j]
  match j, h2 with
  | 0, _ => simpa using hj
  | 1, _ => simpa using hj
  | 2, _ => simpa using hj

theorem extract_one (s : ByteArray) (i : Nat) (h : i < s.size) : s.extract i (i + 1) = ⟨[s[i]].toArray⟩ := by
  apply ext_list
  rw [extract_list, drop_cons s i h]
  simp
theorem extract_run (s : ByteArray) (i j : Nat) : s.extract i j = ⟨((s.data.toList.drop i).take (j - i)).toArray⟩ := by
  apply ext_list
  rw [extract_list]
end Go.Proofs.Ytkkhnldhipfneaa

/-! What the program's function that reads the signs of a piece answers: as many as the specification counts, and each as it is read; a contract for the walks; condition: the text has at most 2 to the 20 bytes. -/
namespace Go.Proofs.Ytkkhnldhipfneaa
open Go.RowKit
set_option linter.unusedSimpArgs false
set_option linter.unusedVariables false

/-- Within brackets: they were opened at p, what they hold begins at fr, the run has come to i. -/
def WithinAt (s : ByteArray) (p fr i : Nat) (xs : List Sgn) (nt : Bool) : Prop :=
  p < s.size ∧ signL (s.data.toList.drop p) = setL (s.data.toList.drop (p + 1)) ∧ ReadTo s.data.toList p xs ∧ xs.length < 12 ∧ nt = headIs 33 (s.data.toList.drop (p + 1)) ∧ fr = p + 1 + (headIs 33 (s.data.toList.drop (p + 1))).toNat ∧ fr ≤ i ∧ RunTo s fr (i - fr)
theorem within_step {s : ByteArray} {p fr i : Nat} {xs : List Sgn} {nt : Bool} (h : WithinAt s p fr i xs nt) (hi : i < s.size) (hb : setB ((s[i]).toNat : Int) = true) : WithinAt s p fr (i + 1) xs nt := by
  obtain ⟨h1, h2, h3, h4, h5, h6, h7, h8⟩ := h
  refine ⟨h1, h2, h3, h4, h5, h6, by omega, ?_⟩
  rw [show i + 1 - fr = (i - fr) + 1 by omega]
  exact runTo_step h8 (by omega) (by simp only [show fr + (i - fr) = i by omega]; exact hb)
theorem within_set {s : ByteArray} {p fr i : Nat} {xs : List Sgn} {nt : Bool} (h : WithinAt s p fr i xs nt) (he : ∀ hi : i < s.size, setB ((s[i]).toNat : Int) = false) :
    signL (s.data.toList.drop p) = if headIs 93 (s.data.toList.drop i) && inB ((i - fr : Nat) : Int) 1 5 then some (⟨false, nt, (s.data.toList.drop fr).take (i - fr)⟩, i + 1 - p) else none := by
  obtain ⟨h1, h2, h3, h4, h5, h6, h7, h8⟩ := h
  have hr := runTo_end h8 (fun hk => by simp only [show fr + (i - fr) = i by omega]; exact he (by omega))
  rw [h2, setL_at _ p _ (i - fr) rfl (by rw [← h6]; exact hr), ← h6, ← h5, show fr + (i - fr) = i by omega, show 1 + nt.toNat + (i - fr) + 1 = i + 1 - p by rw [h5]; omega]
theorem within_good {s : ByteArray} {p fr i : Nat} {xs : List Sgn} {nt : Bool} (h : WithinAt s p fr i xs nt) (hi : i < s.size) (h93 : (s[i]).toNat = 93) (hne : ¬ i = fr) (h5 : i - fr ≤ 5) :
    ReadTo s.data.toList (i + 1) (xs ++ [⟨false, nt, (s.data.toList.drop fr).take (i - fr)⟩]) := by
  have he := within_set h (fun _ => by rw [h93]; decide)
  have hin : inB ((i - fr : Nat) : Int) 1 5 = true := by
    have := h.2.2.2.2.2.2.1
    simp only [inB, Bool.and_eq_true, decide_eq_true_eq]; omega
  rw [headIs_at s 93 i hi, h93, hin] at he
  have h2 := readTo_step h.2.2.1 he
  rw [show p + (i + 1 - p) = i + 1 by have := h.1; have := h.2.2.2.2.2.2.1; have := h.2.2.2.2.2.1; omega] at h2
  exact h2
theorem within_bad {s : ByteArray} {p fr i : Nat} {xs : List Sgn} {nt : Bool} (h : WithinAt s p fr i xs nt) (he : ∀ hi : i < s.size, setB ((s[i]).toNat : Int) = false) (hb : headIs 93 (s.data.toList.drop i) = false ∨ i = fr ∨ 5 < i - fr) : pieceB s = false := by
  have h2 := within_set h he
  have hc : (headIs 93 (s.data.toList.drop i) && inB ((i - fr : Nat) : Int) 1 5) = false := by
    rcases hb with hb | hb | hb
    · rw [hb]; rfl
    · have : inB ((i - fr : Nat) : Int) 1 5 = false := by simp only [inB, Bool.and_eq_false_iff, decide_eq_false_iff_not]; omega
      rw [this, Bool.and_false]
    · have : inB ((i - fr : Nat) : Int) 1 5 = false := by simp only [inB, Bool.and_eq_false_iff, decide_eq_false_iff_not]; omega
      rw [this, Bool.and_false]
  rw [hc] at h2
  exact readTo_bad h.2.2.1 h.1 h2
theorem within_start {s : ByteArray} {p : Nat} {xs : List Sgn} {m : Nat} {nt : Bool} (hp : p < s.size) (h91 : (s[p]).toNat = 91) (hr : ReadTo s.data.toList p xs) (hx : xs.length < 12) (hm : headIs 33 (s.data.toList.drop (p + 1)) = nt) (hn : nt.toNat = m) : WithinAt s p (p + 1 + m) (p + 1 + m) xs nt :=
  ⟨hp, signL_set hp h91, hr, hx, hm.symm, by rw [hm, hn], Nat.le_refl _, by rw [Nat.sub_self]; exact fun _ h => absurd h (by omega)⟩

/-- The frame of the reader: its words, the scratch forgotten. -/
def FrR (s : ByteArray) (g : Nat) (x4 x6 x7 : Value) (f : Act) : Prop :=
  ∃ (u8 u9 u10 u11 u12 u13 u14 u15 u16 u17 u18 u19 u20 u21 u22 u23 u24 u25 u26 u27 u28 u29 u30 u31 u32 u33 u34 u35 u36 u37 u38 u39 u40 u41 u42 u43 u44 u45 u46 u47 u48 u49 u50 u51 u52 u53 u54 u55 u56 u57 u58 u59 u60 u61 u62 u63 u64 u65 u66 u67 u68 u69 u70 u71 u72 u73 u74 u75 u76 u77 u78 u79 u80 u81 u82 u83 u84 u85 u86 u87 u88 u89 u90 u91 u92 u93 u94 u95 u96 u97 u98 u99 u100 u101 u102 u103 u104 u105 u106 u107 u108 u109 u110 u111 u112 u113 u114 u115 u116 u117 u118 u119 u120 u121 u122 u123 u124 u125 : Value), f = { tmps := #[.string s, undef, .slice none 0 0, .bool false, x4, .pointer (some ⟨g, 0, none⟩), x6, x7, u8, u9, u10, u11, u12, u13, u14, u15, u16, u17, u18, u19, u20, u21, u22, u23, u24, u25, u26, u27, u28, u29, u30, u31, u32, u33, u34, u35, u36, u37, u38, u39, u40, u41, u42, u43, u44, u45, u46, u47, u48, u49, u50, u51, u52, u53, u54, u55, u56, u57, u58, u59, u60, u61, u62, u63, u64, u65, u66, u67, u68, u69, u70, u71, u72, u73, u74, u75, u76, u77, u78, u79, u80, u81, u82, u83, u84, u85, u86, u87, u88, u89, u90, u91, u92, u93, u94, u95, u96, u97, u98, u99, u100, u101, u102, u103, u104, u105, u106, u107, u108, u109, u110, u111, u112, u113, u114, u115, u116, u117, u118, u119, u120, u121, u122, u123, u124, u125], defers := [] }
theorem FrR.elim {C : Act → Prop} {s : ByteArray} {g : Nat} {x4 x6 x7 : Value} {f : Act} (h : FrR s g x4 x6 x7 f)
    (k : ∀ (u8 u9 u10 u11 u12 u13 u14 u15 u16 u17 u18 u19 u20 u21 u22 u23 u24 u25 u26 u27 u28 u29 u30 u31 u32 u33 u34 u35 u36 u37 u38 u39 u40 u41 u42 u43 u44 u45 u46 u47 u48 u49 u50 u51 u52 u53 u54 u55 u56 u57 u58 u59 u60 u61 u62 u63 u64 u65 u66 u67 u68 u69 u70 u71 u72 u73 u74 u75 u76 u77 u78 u79 u80 u81 u82 u83 u84 u85 u86 u87 u88 u89 u90 u91 u92 u93 u94 u95 u96 u97 u98 u99 u100 u101 u102 u103 u104 u105 u106 u107 u108 u109 u110 u111 u112 u113 u114 u115 u116 u117 u118 u119 u120 u121 u122 u123 u124 u125 : Value), C { tmps := #[.string s, undef, .slice none 0 0, .bool false, x4, .pointer (some ⟨g, 0, none⟩), x6, x7, u8, u9, u10, u11, u12, u13, u14, u15, u16, u17, u18, u19, u20, u21, u22, u23, u24, u25, u26, u27, u28, u29, u30, u31, u32, u33, u34, u35, u36, u37, u38, u39, u40, u41, u42, u43, u44, u45, u46, u47, u48, u49, u50, u51, u52, u53, u54, u55, u56, u57, u58, u59, u60, u61, u62, u63, u64, u65, u66, u67, u68, u69, u70, u71, u72, u73, u74, u75, u76, u77, u78, u79, u80, u81, u82, u83, u84, u85, u86, u87, u88, u89, u90, u91, u92, u93, u94, u95, u96, u97, u98, u99, u100, u101, u102, u103, u104, u105, u106, u107, u108, u109, u110, u111, u112, u113, u114, u115, u116, u117, u118, u119, u120, u121, u122, u123, u124, u125], defers := [] }) : C f :=
  Exists.elim h fun u8 h => Exists.elim h fun u9 h => Exists.elim h fun u10 h => Exists.elim h fun u11 h => Exists.elim h fun u12 h => Exists.elim h fun u13 h => Exists.elim h fun u14 h => Exists.elim h fun u15 h => Exists.elim h fun u16 h => Exists.elim h fun u17 h => Exists.elim h fun u18 h => Exists.elim h fun u19 h => Exists.elim h fun u20 h => Exists.elim h fun u21 h => Exists.elim h fun u22 h => Exists.elim h fun u23 h => Exists.elim h fun u24 h => Exists.elim h fun u25 h => Exists.elim h fun u26 h => Exists.elim h fun u27 h => Exists.elim h fun u28 h => Exists.elim h fun u29 h => Exists.elim h fun u30 h => Exists.elim h fun u31 h => Exists.elim h fun u32 h => Exists.elim h fun u33 h => Exists.elim h fun u34 h => Exists.elim h fun u35 h => Exists.elim h fun u36 h => Exists.elim h fun u37 h => Exists.elim h fun u38 h => Exists.elim h fun u39 h => Exists.elim h fun u40 h => Exists.elim h fun u41 h => Exists.elim h fun u42 h => Exists.elim h fun u43 h => Exists.elim h fun u44 h => Exists.elim h fun u45 h => Exists.elim h fun u46 h => Exists.elim h fun u47 h => Exists.elim h fun u48 h => Exists.elim h fun u49 h => Exists.elim h fun u50 h => Exists.elim h fun u51 h => Exists.elim h fun u52 h => Exists.elim h fun u53 h => Exists.elim h fun u54 h => Exists.elim h fun u55 h => Exists.elim h fun u56 h => Exists.elim h fun u57 h => Exists.elim h fun u58 h => Exists.elim h fun u59 h => Exists.elim h fun u60 h => Exists.elim h fun u61 h => Exists.elim h fun u62 h => Exists.elim h fun u63 h => Exists.elim h fun u64 h => Exists.elim h fun u65 h => Exists.elim h fun u66 h => Exists.elim h fun u67 h => Exists.elim h fun u68 h => Exists.elim h fun u69 h => Exists.elim h fun u70 h => Exists.elim h fun u71 h => Exists.elim h fun u72 h => Exists.elim h fun u73 h => Exists.elim h fun u74 h => Exists.elim h fun u75 h => Exists.elim h fun u76 h => Exists.elim h fun u77 h => Exists.elim h fun u78 h => Exists.elim h fun u79 h => Exists.elim h fun u80 h => Exists.elim h fun u81 h => Exists.elim h fun u82 h => Exists.elim h fun u83 h => Exists.elim h fun u84 h => Exists.elim h fun u85 h => Exists.elim h fun u86 h => Exists.elim h fun u87 h => Exists.elim h fun u88 h => Exists.elim h fun u89 h => Exists.elim h fun u90 h => Exists.elim h fun u91 h => Exists.elim h fun u92 h => Exists.elim h fun u93 h => Exists.elim h fun u94 h => Exists.elim h fun u95 h => Exists.elim h fun u96 h => Exists.elim h fun u97 h => Exists.elim h fun u98 h => Exists.elim h fun u99 h => Exists.elim h fun u100 h => Exists.elim h fun u101 h => Exists.elim h fun u102 h => Exists.elim h fun u103 h => Exists.elim h fun u104 h => Exists.elim h fun u105 h => Exists.elim h fun u106 h => Exists.elim h fun u107 h => Exists.elim h fun u108 h => Exists.elim h fun u109 h => Exists.elim h fun u110 h => Exists.elim h fun u111 h => Exists.elim h fun u112 h => Exists.elim h fun u113 h => Exists.elim h fun u114 h => Exists.elim h fun u115 h => Exists.elim h fun u116 h => Exists.elim h fun u117 h => Exists.elim h fun u118 h => Exists.elim h fun u119 h => Exists.elim h fun u120 h => Exists.elim h fun u121 h => Exists.elim h fun u122 h => Exists.elim h fun u123 h => Exists.elim h fun u124 h => Exists.elim h fun u125 h => Eq.mpr (congrArg C h) (k u8 u9 u10 u11 u12 u13 u14 u15 u16 u17 u18 u19 u20 u21 u22 u23 u24 u25 u26 u27 u28 u29 u30 u31 u32 u33 u34 u35 u36 u37 u38 u39 u40 u41 u42 u43 u44 u45 u46 u47 u48 u49 u50 u51 u52 u53 u54 u55 u56 u57 u58 u59 u60 u61 u62 u63 u64 u65 u66 u67 u68 u69 u70 u71 u72 u73 u74 u75 u76 u77 u78 u79 u80 u81 u82 u83 u84 u85 u86 u87 u88 u89 u90 u91 u92 u93 u94 u95 u96 u97 u98 u99 u100 u101 u102 u103 u104 u105 u106 u107 u108 u109 u110 u111 u112 u113 u114 u115 u116 u117 u118 u119 u120 u121 u122 u123 u124 u125)
theorem owns_lower3 {w : World} {base base' : Nat} {e : TypeId} {z : Nat} {v : Value} {n : Nat} {xs : List Value} (h : w.ownsRow base e z v n xs) (hb : base' ≤ base) : w.ownsRow base' e z v n xs := by
  obtain ⟨h1, h2⟩ := h
  refine ⟨h1, ?_⟩
  rcases h2 with h2 | ⟨g, cap, cur, a, b, c⟩
  · exact .inl h2
  · exact .inr ⟨g, cap, cur, a, Nat.le_trans hb b, c⟩
theorem sgns_many {s : ByteArray} {i : Nat} {xs : List Sgn} (hr : ReadTo s.data.toList i xs) (hi : i < s.size) (h12 : xs.length = 12) : pieceB s = false := by
  cases h : signsOf s.data.toList with
  | none => exact pieceB_none h
  | some ys =>
    rw [pieceB_some h]
    have := readTo_more hr (by rw [len_list]; exact hi) h
    simp only [inB, Bool.and_eq_false_iff, decide_eq_false_iff_not]; omega

end Go.Proofs.Ytkkhnldhipfneaa

/-! Pieces gone through by names, the program's: the answer is as if all ways were tried; a contract for the walks; conditions: both lists lie in memory, at most 4 pieces, names of at most 2 to the 20 bytes. -/
namespace Go.Proofs.Ytkkhnldhipfneaa
open Go.RowKit
set_option linter.unusedSimpArgs false
set_option linter.unusedVariables false

/-- What holds at the three labels (0: many, 1: look, 2: back). -/
def JP (w : World) (q : Option Addr) (gs : List ByteArray) (cap : Nat) (a : Option Addr) (zs : List ByteArray) (cap2 : Nat) (l n : Nat) (f : Act) (wr : World) : Prop :=
  ∃ (s t b tk : Nat) (seen : Bool) (x5 x6 x7 x8 : Value), FrS q gs.length cap a zs.length cap2 x5 x6 x7 x8 (.bool seen) f ∧ x5 = .int .i64 (s : Int) ∧ x6 = .int .i64 (t : Int) ∧ x7 = .int .i64 (b : Int) ∧ x8 = .int .i64 (tk : Int) ∧
    Inv manyT takesT gs zs s t b tk seen ∧ Below w.heap.size w wr ∧
    ((l = 1 ∧ n = 2 * goM gs.length zs.length s b tk + 1) ∨ (l = 0 ∧ n = 2 * goM gs.length zs.length s b tk ∧ ∃ g, gs[s]? = some g ∧ manyT g = true) ∨ (l = 2 ∧ n = 2 * goM gs.length zs.length s b tk ∧ F2 manyT takesT gs zs s t = false))

end Go.Proofs.Ytkkhnldhipfneaa

/-! What the program's functions that read a pattern, and ask whether one takes a path, answer: contracts for the walks; condition: texts of at most 2 to the 20 bytes. -/
namespace Go.Proofs.Ytkkhnldhipfneaa
open Go.RowKit
set_option linter.unusedSimpArgs false
set_option linter.unusedVariables false

theorem rows_apart2 {w : World} {base base' e e' z z' : Nat} {v v' : Value} {n n' : Nat} {xs xs' : List Value} (h : w.ownsRow base e z v n xs) (h' : w.ownsRow base' e' z' v' n' xs') (hne : e ≠ e') : v'.ownBlock = none ∨ v'.ownBlock ≠ v.ownBlock := by
  rcases h.2 with ⟨rfl, _⟩ | ⟨g, cap, cur, rfl, _, hg, _⟩
  · rcases h'.2 with ⟨rfl, _⟩ | ⟨g', cap', cur', rfl, _, hg', _⟩
    · exact .inl rfl
    · exact .inr (by simp [Value.ownBlock])
  · rcases h'.2 with ⟨rfl, _⟩ | ⟨g', cap', cur', rfl, _, hg', _⟩
    · exact .inl rfl
    · refine .inr fun e1 => hne ?_
      simp only [Value.ownBlock, Option.some.injEq] at e1
      subst e1
      rw [hg] at hg'
      simp only [Option.some.injEq, Obj.cells.injEq] at hg'
      exact hg'.2.1
theorem owns_any_below {w w' : World} {base : Nat} {e : TypeId} {z : Nat} {v : Value} {n : Nat} {xs : List Value} (h : w.ownsRow base e z v n xs) (b : Below w.heap.size w w') : w'.ownsRow base e z v n xs :=
  h.kept (grown_of_below b none) (by cases hv : v.ownBlock <;> simp)

theorem PcsIn.mono {S S' : Nat → Prop} {w : World} {v : Value} {xs : List ByteArray} (hS : ∀ b, S b → S' b) (h : PcsIn S w v xs) : PcsIn S' w v xs := by
  obtain ⟨q, cap, hv, h4, hc, h⟩ := h
  refine ⟨q, cap, hv, h4, hc, ?_⟩
  rcases h with h | ⟨b, off, hq, hb, h⟩
  · exact .inl h
  · refine .inr ⟨b, off, hq, hS b hb, fun k hk => ?_⟩
    obtain ⟨e0, v, e1, e2⟩ := h k hk
    exact ⟨e0, v, e1, e2.mono hS⟩
theorem PcsIn.keep {S : Nat → Prop} {w w' : World} {v : Value} {xs : List ByteArray} (hk : Kp S w w') (h : PcsIn S w v xs) : PcsIn S w' v xs := by
  obtain ⟨q, cap, hv, h4, hc, h⟩ := h
  refine ⟨q, cap, hv, h4, hc, ?_⟩
  rcases h with h | ⟨b, off, hq, hb, h⟩
  · exact .inl h
  · refine .inr ⟨b, off, hq, hb, fun k hh => ?_⟩
    obtain ⟨e0, v, e1, e2⟩ := h k hh
    exact ⟨(hk.cell hb _).trans e0, v, (hk.cell hb _).trans e1, e2.keep hk⟩

def GlobPost (w : World) (s : ByteArray) (e : Ending) (w' : World) : Prop :=
  ∃ v, e = .returned (.tuple #[v, .bool (globB s)]) ∧ (globB s = true → PcsIn (Ow w.heap.size w'.heap.size) w' v (splitS s 47)) ∧ Below w.heap.size w w'

def matchB (g p : ByteArray) : Bool := globB g && (pathB p && fullG manyT takesT (splitS g 47) (splitS p 47))

end Go.Proofs.Ytkkhnldhipfneaa

/-! Whether rules are right, as the program asks it: contracts for the walks; conditions: they lie in memory, and hold at most 2 to the 20. -/
namespace Go.Proofs.Ytkkhnldhipfneaa
open Go.RowKit
set_option linter.unusedSimpArgs false
set_option linter.unusedVariables false

end Go.Proofs.Ytkkhnldhipfneaa

/-! Marks put into rows of rules, as the law puts them: a contract for the walks; conditions: the rows lie in memory, may be written, and there are at most 2 to the 32 marks. -/
namespace Go.Proofs.Ytkkhnldhipfneaa
open Go.RowKit
set_option linter.unusedSimpArgs false
set_option linter.unusedVariables false

def lenR (d : RuleD) (r : Nat) : Nat := if r = 1 then d.on.length else if r = 2 then d.ins.length else d.envs.length
/-- The rows of a row of rules: each may be written. -/
def RuleRows (w : World) (S : Nat → Prop) (ys : List Value) (xs : List RuleD) : Prop := ∀ i (h : i < xs.length) r, 1 ≤ r → r ≤ 3 → ∃ u z, ys[i * 5 + r]? = some u ∧ w.ownsRow 0 9 1 u (lenR xs[i] r) z ∧ (∀ g, u.ownBlock = some g → S g)
theorem RuleRows.set {w : World} {S : Nat → Prop} {ys : List Value} {xs : List RuleD} (h : RuleRows w S ys xs) (i r : Nat) (hr : r = 0 ∨ r = 4) (v : Value) : RuleRows w S (ys.set (i * 5 + r) v) xs := fun j hj r' h1 h3 => by
  obtain ⟨u0, z0, a1, a3⟩ := h j hj r' h1 h3
  exact ⟨u0, z0, by rw [List.getElem?_set_ne (by omega)]; exact a1, a3⟩
theorem RuleRows.below {w w' : World} {S : Nat → Prop} {ys : List Value} {xs : List RuleD} (h : RuleRows w S ys xs) (hb : Below w.heap.size w w') : RuleRows w' S ys xs := fun j hj r' h1 h3 => by
  obtain ⟨u0, z0, a1, a3, a4⟩ := h j hj r' h1 h3
  exact ⟨u0, z0, a1, owns_kept (S := fun b => b < w.heap.size) (.of hb (fun b h => h)) (fun g h => (owns_in a3 g h).2) a3, a4⟩
theorem RuleRows.overS {w w' : World} {S : Nat → Prop} {ys : List Value} {xs : List RuleD} {u : Value} {n : Nat} {z z' : List Value} (h : RuleRows w S ys xs) (h0 : w.ownsRow 0 9 1 u n z) (h1 : w'.ownsRow 0 9 1 u n z') (hg : w.grownBy w' u.ownBlock) : RuleRows w' S ys xs := fun i hi r' hr1 hr3 => by
  obtain ⟨u0, z0, a1, a3, a4⟩ := h i hi r' hr1 hr3
  obtain ⟨z2, a7⟩ := owns_over a3 h0 h1 hg (by omega)
  exact ⟨u0, z2, a1, a7, a4⟩
theorem ruleRows_of {S : Nat → Prop} {w : World} {ys : List Value} {xs : List RuleD} (h : Laid shRuleO S w ys xs xs.length) : RuleRows w S ys xs := fun i hi r h1 h3 => by
  obtain ⟨cs, _, ⟨u0, u1, u2, rfl, _, a0, _, a1, _, a2, _⟩, h4⟩ := h i hi hi
  have hr : r = 1 ∨ r = 2 ∨ r = 3 := by omega
  rcases hr with rfl | rfl | rfl
  · exact ⟨u0, _, h4 1 (by simp), a0.1, a0.2⟩
  · exact ⟨u1, _, h4 2 (by simp), a1.1, a1.2⟩
  · exact ⟨u2, _, h4 3 (by simp), a2.1, a2.2⟩
def cntR (d : RuleD) : Nat := 2 + d.on.length + d.ins.length + d.envs.length
def cntRs (xs : List RuleD) : Nat := (xs.map cntR).sum
theorem cntRs_take (xs : List RuleD) (i : Nat) (h : i < xs.length) : cntRs (xs.take (i + 1)) = cntRs (xs.take i) + cntR xs[i] := by
  unfold cntRs
  rw [List.take_succ_eq_append_getElem h, List.map_append, List.sum_append]; simp
theorem cntRs_le (xs : List RuleD) (i : Nat) : cntRs (xs.take i) ≤ cntRs xs := by
  unfold cntRs
  conv => rhs; rw [← List.take_append_drop i xs, List.map_append, List.sum_append]
  omega
theorem cntR_wt (d : RuleD) : cntR d ≤ 4 * (1 + wtRule d) := by
  unfold cntR wtRule bulkS
  omega
theorem cntRs_wt : ∀ xs : List RuleD, cntRs xs ≤ 4 * wtRow wtRule xs
  | [] => by simp [cntRs]
  | d :: xs => by
    have h1 := cntRs_wt xs
    have h2 := cntR_wt d
    have e1 : cntRs (d :: xs) = cntR d + cntRs xs := by simp [cntRs]
    have e2 : wtRow wtRule (d :: xs) = (1 + wtRule d) + wtRow wtRule xs := by simp [wtRow]
    omega

end Go.Proofs.Ytkkhnldhipfneaa

/-! What is the same is told so by the law's own comparison: contracts for what lies in memory and holds at most 2 to the 20. -/
namespace Go.Proofs.Ytkkhnldhipfneaa
open Go.RowKit
set_option linter.unusedSimpArgs false
set_option linter.unusedVariables false

end Go.Proofs.Ytkkhnldhipfneaa
