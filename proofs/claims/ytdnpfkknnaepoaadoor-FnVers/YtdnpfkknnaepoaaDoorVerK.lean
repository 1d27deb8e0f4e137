/-
  What a text is as a version: the reader that goes over its bytes, word by word, and the text's pieces around its first hyphen tell the same; no condition.
-/
import Derived.Test.YtdnpfkknnaepoaaDoorVerC
import Derived.Test.YtdnpfkknnaepoaaDoorSplitA
namespace Go.Proofs.YtdnpfkknnaepoaaDoor
open Go.RowKit
set_option linter.unusedSimpArgs false
set_option linter.unusedVariables false

theorem vext {a b : ByteArray} (h : a.data.toList = b.data.toList) : a = b := ByteArray.ext (Array.toList_inj.1 h)
theorem vextract (s : ByteArray) (a b : Nat) : (s.extract a b).data.toList = (s.data.toList.drop a).take (b - a) := Lib.extract_data s a b
theorem vlen (s : ByteArray) : s.data.toList.length = s.size := by rw [Array.length_toList]; rfl
theorem vsize (s : ByteArray) (a b : Nat) (h : a ≤ b) (hb : b ≤ s.size) : (s.extract a b).size = b - a := by
  rw [← vlen, vextract, List.length_take, List.length_drop, vlen]; omega
theorem vget (s : ByteArray) (a b i : Nat) (h : a + i < b) (hb : b ≤ s.size) : (s.extract a b).data[i]! = s.data[a + i]! := by
  have h1 : i < (s.extract a b).size := by rw [vsize s a b (by omega) hb]; omega
  have e1 : (s.extract a b).data.toList[i]? = s.data.toList[a + i]? := by
    rw [vextract, List.getElem?_take_of_lt (by omega), List.getElem?_drop]
  rw [Array.getElem?_toList, Array.getElem?_toList] at e1
  rw [getElem!_def, getElem!_def, e1]
theorem vsub (s : ByteArray) (a b c d : Nat) (h : a + d ≤ b) (hb : b ≤ s.size) : (s.extract a b).extract c d = s.extract (a + c) (a + d) := by
  apply vext
  rw [vextract, vextract, vextract, List.drop_take, List.drop_drop, List.take_take]
  congr 1
  omega

/-- The pieces of the text up to place hi, between the bytes 46, from place i on, the piece at hand having begun at place b. -/
def pieces (s : ByteArray) (hi : Nat) : Nat → Nat → Nat → List ByteArray
  | 0, _, b => [s.extract b hi]
  | f + 1, i, b => if ((s.data[i]!).toNat : Int) = 46 then s.extract b i :: pieces s hi f (i + 1) (i + 1) else pieces s hi f (i + 1) b

theorem pieces_split (s : ByteArray) (lo hi : Nat) (hl : lo ≤ hi) (hh : hi ≤ s.size) : ∀ (f i b : Nat), f = (hi - lo) - i → i ≤ hi - lo → b ≤ i → splitGo (s.extract lo hi) 46 f i b = pieces s hi f (lo + i) (lo + b)
  | 0, i, b, hf, hi', hb => by
    rw [splitGo, pieces, vsize s lo hi hl hh, vsub s lo hi b (hi - lo) (by omega) hh, show lo + (hi - lo) = hi by omega]
  | f + 1, i, b, hf, hi', hb => by
    rw [splitGo, pieces, vget s lo hi i (by omega) hh]
    by_cases h : ((s.data[lo + i]!).toNat : Int) = 46
    · rw [if_pos h, if_pos h, vsub s lo hi b i (by omega) hh, pieces_split s lo hi hl hh f (i + 1) (i + 1) (by omega) (by omega) (by omega)]
      rfl
    · rw [if_neg h, if_neg h, pieces_split s lo hi hl hh f (i + 1) b (by omega) (by omega) (by omega)]
      rfl
theorem split_pieces (s : ByteArray) (lo hi : Nat) (hl : lo ≤ hi) (hh : hi ≤ s.size) : splitS (s.extract lo hi) 46 = pieces s hi (hi - lo) lo lo := by
  have h := pieces_split s lo hi hl hh (hi - lo) 0 0 (by omega) (by omega) (by omega)
  rw [splitS, vsize s lo hi hl hh, h]; rfl

theorem pieces_head (s : ByteArray) (hi : Nat) : ∀ (f i b : Nat), f = hi - i → i ≤ hi → ∃ e rest, i ≤ e ∧ e ≤ hi ∧ pieces s hi f i b = s.extract b e :: rest
  | 0, i, b, hf, hi' => ⟨hi, [], by omega, by omega, rfl⟩
  | f + 1, i, b, hf, hi' => by
    rw [pieces]
    by_cases h : ((s.data[i]!).toNat : Int) = 46
    · rw [if_pos h]; exact ⟨i, _, by omega, by omega, rfl⟩
    · rw [if_neg h]
      obtain ⟨e, rest, h1, h2, h3⟩ := pieces_head s hi f (i + 1) b (by omega) (by omega)
      exact ⟨e, rest, by omega, h2, h3⟩
theorem pieces_pos (s : ByteArray) (hi f i b : Nat) (hf : f = hi - i) (h : i ≤ hi) : 1 ≤ (pieces s hi f i b).length := by
  obtain ⟨e, rest, _, _, h3⟩ := pieces_head s hi f i b hf h
  rw [h3]; simp

theorem piece_bad (p : Nat → Int → Bool) (s : ByteArray) (b e i : Nat) (hb : b ≤ i) (he : i < e) (hs : e ≤ s.size) (h : ∀ k, p k ((s.data[i]!).toNat : Int) = false) : allUpto p (s.extract b e) (s.extract b e).size = false := by
  have hz := vsize s b e (by omega) hs
  refine allUpto_cut p _ (i - b) ?_ _ (by omega)
  rw [vget s b e (i - b) (by omega) hs, show b + (i - b) = i by omega]
  exact h _

/-- A word that ends. -/
def endNs (ns : List Int) (inP : Bool) (t : ByteArray) : List Int := if inP then ns else ns ++ [numOut t 9999]
def endPs (ps : List ByteArray) (inP : Bool) (t : ByteArray) : List ByteArray := if inP then ps ++ [t] else ps
def endOk (ns : List Int) (ps : List ByteArray) (inP : Bool) (t : ByteArray) : Bool := if inP then decide (ps.length + 1 ≤ 3) && partB t else numGood t 9999 && decide (ns.length + 1 ≤ 3)

/-- The reader, from place i on. -/
def reads (s : ByteArray) : Nat → Nat → Nat → List Int → List ByteArray → Bool → Option (List Int × List ByteArray)
  | 0, i, b, ns, ps, inP => if endOk ns ps inP (s.extract b i) && decide (3 ≤ (endNs ns inP (s.extract b i)).length) then some (endNs ns inP (s.extract b i), endPs ps inP (s.extract b i)) else none
  | f + 1, i, b, ns, ps, inP =>
    if ((s.data[i]!).toNat : Int) = 46 then (if endOk ns ps inP (s.extract b i) then reads s f (i + 1) (i + 1) (endNs ns inP (s.extract b i)) (endPs ps inP (s.extract b i)) inP else none)
    else if ((s.data[i]!).toNat : Int) = 45 ∧ inP = false then (if endOk ns ps inP (s.extract b i) then reads s f (i + 1) (i + 1) (endNs ns inP (s.extract b i)) (endPs ps inP (s.extract b i)) true else none)
    else if preB ((s.data[i]!).toNat : Int) then reads s f (i + 1) b ns ps inP else none

theorem all_partB_bad {l : List ByteArray} {t : ByteArray} (h : partB t = false) : (t :: l).all partB = false := by simp [h]

theorem reads_pre (s : ByteArray) (ns : List Int) : ∀ (f i b : Nat) (ps : List ByteArray), f = s.size - i → i ≤ s.size → b ≤ i → reads s f i b ns ps true =
    if (pieces s s.size f i b).all partB && decide (ps.length + (pieces s s.size f i b).length ≤ 3) && decide (3 ≤ ns.length) then some (ns, ps ++ pieces s s.size f i b) else none
  | 0, i, b, ps, hf, hi, hb => by
    have : i = s.size := by omega
    subst this
    rw [reads, pieces]
    simp only [endOk, endNs, endPs, if_true, List.all_cons, List.all_nil, Bool.and_true, List.length_singleton]
    cases partB (s.extract b s.size) <;> simp [Bool.and_comm]
  | f + 1, i, b, ps, hf, hi, hb => by
    rw [reads, pieces]
    by_cases h : ((s.data[i]!).toNat : Int) = 46
    · rw [if_pos h, if_pos h]
      simp only [endOk, endNs, endPs, if_true]
      rw [reads_pre s ns f (i + 1) (i + 1) (ps ++ [s.extract b i]) (by omega) (by omega) (by omega)]
      have hp := pieces_pos s s.size f (i + 1) (i + 1) (by omega) (by omega)
      cases hx : partB (s.extract b i)
      · simp [hx]
      · by_cases hl : ps.length + 1 ≤ 3
        · simp only [hl, decide_true, Bool.and_self, if_true, List.all_cons, hx, Bool.true_and, List.length_append, List.length_cons, List.length_nil, List.append_assoc, List.cons_append, List.nil_append]
          have e : ps.length + (0 + 1) + (pieces s s.size f (i + 1) (i + 1)).length = ps.length + ((pieces s s.size f (i + 1) (i + 1)).length + 1) := by omega
          rw [e]
        · have h2 : ¬ ps.length + ((pieces s s.size f (i + 1) (i + 1)).length + 1) ≤ 3 := by omega
          simp [hl, h2]
    · rw [if_neg h, if_neg h, if_neg (by simp)]
      by_cases hc : preB ((s.data[i]!).toNat : Int) = true
      · rw [if_pos hc]
        exact reads_pre s ns f (i + 1) b ps (by omega) (by omega) (by omega)
      · rw [if_neg hc]
        obtain ⟨e, rest, h1, h2, h3⟩ := pieces_head s s.size f (i + 1) b (by omega) (by omega)
        rw [h3, all_partB_bad (partB_bad (piece_bad okPre s b e i hb (by omega) h2 (fun _ => by simpa [okPre] using hc)))]
        simp

theorem good_of_piece {t : ByteArray} (h : allUpto okDigit t t.size = false) : numGood t 9999 = false := by
  unfold numGood; rw [h]; simp

theorem digit_pre {c : Int} (h : preB c = false) : digitB c = false := by
  simp only [preB, Bool.or_eq_false_iff] at h
  exact h.1.2

theorem reads_num (s : ByteArray) (k : Nat) (hk : k ≤ s.size) (hd : k < s.size → ((s.data[k]!).toNat : Int) = 45) : ∀ (f i b : Nat) (ns : List Int), f = k - i → i ≤ k → b ≤ i → (∀ j, i ≤ j → j < k → ¬ ((s.data[j]!).toNat : Int) = 45) →
    reads s (s.size - i) i b ns [] false = if (pieces s k f i b).all (fun t => numGood t 9999) && decide (ns.length + (pieces s k f i b).length ≤ 3) then
      (if k < s.size then reads s (s.size - (k + 1)) (k + 1) (k + 1) (ns ++ (pieces s k f i b).map (fun t => numOut t 9999)) [] true
       else if 3 ≤ ns.length + (pieces s k f i b).length then some (ns ++ (pieces s k f i b).map (fun t => numOut t 9999), []) else none) else none
  | 0, i, b, ns, hf, hi, hb, hn => by
    have : i = k := by omega
    subst this
    rw [pieces]
    by_cases hlt : i < s.size
    · rw [show s.size - i = (s.size - (i + 1)) + 1 by omega, reads, if_neg (by have := hd hlt; omega), if_pos ⟨hd hlt, rfl⟩, if_pos hlt]
      simp [endOk, endNs, endPs]
    · have : i = s.size := by omega
      rw [show s.size - i = 0 by omega, reads, if_neg hlt]
      simp only [endOk, endNs, endPs, Bool.false_eq_true, if_false, List.all_cons, List.all_nil, Bool.and_true, List.length_singleton, List.map_cons, List.map_nil, List.length_append]
      cases numGood (s.extract b i) 9999
      · simp
      · by_cases h1 : ns.length + 1 ≤ 3 <;> by_cases h2 : 3 ≤ ns.length + 1 <;> simp [h1, h2]
  | f + 1, i, b, ns, hf, hi, hb, hn => by
    have hne := hn i (by omega) (by omega)
    rw [show s.size - i = (s.size - (i + 1)) + 1 by omega, reads, pieces]
    by_cases h : ((s.data[i]!).toNat : Int) = 46
    · rw [if_pos h, if_pos h]
      simp only [endOk, endNs, endPs, Bool.false_eq_true, if_false]
      rw [reads_num s k hk hd f (i + 1) (i + 1) (ns ++ [numOut (s.extract b i) 9999]) (by omega) (by omega) (by omega) (fun j h1 h2 => hn j (by omega) h2)]
      have hp := pieces_pos s k f (i + 1) (i + 1) (by omega) (by omega)
      cases hx : numGood (s.extract b i) 9999
      · simp [hx]
      · by_cases hl : ns.length + 1 ≤ 3
        · simp only [hl, decide_true, Bool.and_self, if_true, List.all_cons, hx, Bool.true_and, List.length_append, List.length_cons, List.length_nil, List.append_assoc, List.cons_append, List.nil_append, List.map_cons]
          have e : ns.length + (0 + 1) + (pieces s k f (i + 1) (i + 1)).length = ns.length + ((pieces s k f (i + 1) (i + 1)).length + 1) := by omega
          rw [e]
        · have h2 : ¬ ns.length + ((pieces s k f (i + 1) (i + 1)).length + 1) ≤ 3 := by omega
          simp [hl, h2]
    · rw [if_neg h, if_neg h, if_neg (fun h => hne h.1)]
      by_cases hc : preB ((s.data[i]!).toNat : Int) = true
      · rw [if_pos hc]
        exact reads_num s k hk hd f (i + 1) b ns (by omega) (by omega) (by omega) (fun j h1 h2 => hn j (by omega) h2)
      · rw [if_neg hc]
        obtain ⟨e, rest, h1, h2, h3⟩ := pieces_head s k f (i + 1) b (by omega) (by omega)
        have hbad : numGood (s.extract b e) 9999 = false := good_of_piece (piece_bad okDigit s b e i hb (by omega) (by omega) (fun _ => digit_pre (by simpa using hc)))
        rw [h3]
        simp [hbad]

/-- What the specification takes of a text, k the place of its first hyphen, or its length. -/
def numsAt (s : ByteArray) (k : Nat) : List ByteArray := pieces s k k 0 0
def presAt (s : ByteArray) (k : Nat) : List ByteArray := if k < s.size then pieces s s.size (s.size - (k + 1)) (k + 1) (k + 1) else []
def goodAt (s : ByteArray) (k : Nat) : Bool := (numsAt s k).all (fun t => numGood t 9999) && decide ((numsAt s k).length = 3) && (presAt s k).all partB && decide ((presAt s k).length ≤ 3)

theorem reads_all (s : ByteArray) (k : Nat) (hk : k ≤ s.size) (hd : k < s.size → ((s.data[k]!).toNat : Int) = 45) (hn : ∀ j, j < k → ¬ ((s.data[j]!).toNat : Int) = 45) :
    reads s s.size 0 0 [] [] false = if goodAt s k then some ((numsAt s k).map (fun t => numOut t 9999), presAt s k) else none := by
  have h := reads_num s k hk hd k 0 0 [] (by omega) (by omega) (by omega) (fun j _ h => hn j h)
  rw [Nat.sub_zero] at h
  rw [h]
  unfold goodAt
  rw [show pieces s k k 0 0 = numsAt s k from rfl]
  by_cases hlt : k < s.size
  · rw [if_pos hlt, reads_pre s _ (s.size - (k + 1)) (k + 1) (k + 1) [] (by omega) (by omega) (by omega)]
    rw [show pieces s s.size (s.size - (k + 1)) (k + 1) (k + 1) = presAt s k by unfold presAt; rw [if_pos hlt]]
    simp only [List.nil_append, List.length_nil, Nat.zero_add, List.length_map]
    by_cases h3 : (numsAt s k).length = 3
    · simp only [h3, Nat.le_refl, decide_true, Bool.and_true]
      cases (numsAt s k).all (fun t => numGood t 9999)
      · simp
      · simp
    · by_cases h4 : (numsAt s k).length ≤ 3
      · have h5 : ¬ 3 ≤ (numsAt s k).length := by omega
        simp [h3, h5]
      · simp [h3, h4]
  · rw [if_neg hlt]
    have hp : presAt s k = [] := by unfold presAt; rw [if_neg hlt]
    rw [hp]
    simp only [List.nil_append, List.length_nil, Nat.zero_add, List.all_nil, Bool.and_true]
    by_cases h3 : (numsAt s k).length = 3
    · simp [h3]
    · by_cases h4 : (numsAt s k).length ≤ 3
      · have h5 : ¬ 3 ≤ (numsAt s k).length := by omega
        simp [h3, h5]
      · simp [h3, h4]
#print axioms reads_all
end Go.Proofs.YtdnpfkknnaepoaaDoor
