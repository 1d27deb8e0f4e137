/-
  Which of two texts, numbers and lists of texts of a Pre is less, as the program reckons it (by -1, 0 and 1) and as the specification does: both the same; and the contracts of the functions that compare two of them; condition: a string is no longer than an int can count.
-/
import Derived.Test.YtdnpfkknnaepoaaDoorVerC
import Derived.Test.YtdnpfkknnaepoaaDoorVerD
import Derived.Sort.Walk0
namespace Go.Proofs.YtdnpfkknnaepoaaDoor
open Go.RowKit
set_option linter.unusedSimpArgs false
set_option linter.unusedVariables false

theorem vltL_irrefl (x : List UInt8) : ¬ x < x := List.lt_irrefl x
theorem vltL_trans {x y z : List UInt8} (h : x < y) (k : y < z) : x < z := List.lt_trans h k
theorem vltL_total {x y : List UInt8} (h : ¬ x < y) (k : ¬ y < x) : x = y := List.le_antisymm (by simpa using k) (by simpa using h)
def listB (s : ByteArray) : List UInt8 := s.data.toList
theorem listB_inj {a b : ByteArray} (h : listB a = listB b) : a = b := ByteArray.ext (Array.toList_inj.1 h)
def ltS (a b : ByteArray) : Bool := Op.bytesLess a.toList b.toList
theorem ltS_iff (a b : ByteArray) : ltS a b = decide (listB a < listB b) := by
  rw [ltS, ByteArray.toList_eq, ByteArray.toList_eq, bytesLess_eq]; rfl
theorem gtS (a b : ByteArray) : (!(Op.bytesLess a.toList b.toList || a.toList == b.toList)) = ltS b a := by
  rw [ltS_iff, ByteArray.toList_eq, ByteArray.toList_eq, bytesLess_eq]
  show _ = decide (b.data.toList < a.data.toList)
  by_cases h : b.data.toList < a.data.toList
  · have h1 : ¬ a.data.toList < b.data.toList := fun k => vltL_irrefl _ (vltL_trans h k)
    have h2 : ¬ a.data = b.data := fun e => by rw [e] at h; exact vltL_irrefl _ h
    simp [h, h1, h2]
  · by_cases h1 : a.data.toList < b.data.toList
    · simp [h, h1]
    · have h2 : a.data.toList = b.data.toList := vltL_total h1 h
      simp [h2, vltL_irrefl]
theorem ltS_irrefl (a : ByteArray) : ltS a a = false := by rw [ltS_iff]; simp [vltL_irrefl]
theorem ltS_asymm {a b : ByteArray} (h : ltS a b = true) : ltS b a = false := by
  rw [ltS_iff] at *
  simp only [decide_eq_true_eq] at h
  simp only [decide_eq_false_iff_not]
  exact fun k => vltL_irrefl _ (vltL_trans h k)
theorem ltS_total {a b : ByteArray} (h : ltS a b = false) (k : ltS b a = false) : a = b := by
  rw [ltS_iff, decide_eq_false_iff_not] at *
  exact listB_inj (vltL_total h k)

def cmpI (a b : Int) : Int := if a < b then -1 else if b < a then 1 else 0
def cmpS (a b : ByteArray) : Int := if ltS a b then -1 else if ltS b a then 1 else 0
def orI : List Int → Int
  | [] => 0
  | z :: zs => if z = 0 then orI zs else z
def cmpPart (a b : ByteArray) : Int :=
  if digitsB a && digitsB b then orI [cmpI a.size b.size, cmpS a b] else if digitsB a then -1 else if digitsB b then 1 else cmpS a b
def cmpPre : List ByteArray → List ByteArray → Int
  | [], [] => 0
  | [], _ :: _ => -1
  | _ :: _, [] => 1
  | a :: xs, b :: ys => if cmpPart a b = 0 then cmpPre xs ys else cmpPart a b
def cmpVer (a b c : Int) (ps : List ByteArray) (a' b' c' : Int) (ps' : List ByteArray) : Int :=
  if orI [cmpI a a', cmpI b b', cmpI c c'] = 0 then (if ps.length = 0 ∨ ps'.length = 0 then cmpI ps'.length ps.length else cmpPre ps ps') else orI [cmpI a a', cmpI b b', cmpI c c']

def lessPart (a b : ByteArray) : Bool :=
  if digitsB a && digitsB b then (if a.size = b.size then ltS a b else decide (a.size < b.size)) else if digitsB a = digitsB b then ltS a b else digitsB a
def lessGo : List ByteArray → List ByteArray → Bool
  | a :: xs, b :: ys => if a = b then lessGo xs ys else lessPart a b
  | [], ys => decide (0 < ys.length)
  | _ :: _, [] => false
def lessPre (ps ps' : List ByteArray) : Bool := if ps.length = 0 ∨ ps'.length = 0 then decide (0 < ps.length) && decide (ps'.length = 0) else lessGo ps ps'
def lessB (a b c : Int) (ps : List ByteArray) (a' b' c' : Int) (ps' : List ByteArray) : Bool :=
  if a = a' then (if b = b' then (if c = c' then lessPre ps ps' else decide (c < c')) else decide (b < b')) else decide (a < a')

theorem cmpI_zero (a b : Int) : cmpI a b = 0 ↔ a = b := by unfold cmpI; split <;> (try split) <;> omega
theorem cmpI_neg (a b : Int) : cmpI a b < 0 ↔ a < b := by unfold cmpI; split <;> (try split) <;> omega
theorem cmpS_zero (a b : ByteArray) : cmpS a b = 0 ↔ a = b := by
  unfold cmpS
  constructor
  · intro h
    split at h
    · omega
    · split at h
      · omega
      · exact ltS_total (by simpa using ‹¬ ltS a b = true›) (by simpa using ‹¬ ltS b a = true›)
  · rintro rfl
    simp [ltS_irrefl]
theorem cmpS_neg (a b : ByteArray) : cmpS a b < 0 ↔ ltS a b = true := by
  unfold cmpS
  constructor
  · intro h
    split at h
    · assumption
    · split at h <;> omega
  · intro h; rw [if_pos h]; omega
theorem orI_two (x y : Int) : orI [x, y] = if x = 0 then (if y = 0 then 0 else y) else x := by simp [orI]
theorem cmpPart_zero (a b : ByteArray) : cmpPart a b = 0 ↔ a = b := by
  constructor
  · intro h
    unfold cmpPart at h
    rw [orI_two] at h
    split at h
    · split at h
      · split at h
        · exact (cmpS_zero a b).1 ‹_›
        · exact (cmpS_zero a b).1 h
      · exact absurd h ‹_›
    · split at h
      · omega
      · split at h
        · omega
        · exact (cmpS_zero a b).1 h
  · rintro rfl
    have h1 := (cmpS_zero a a).2 rfl
    have h2 := (cmpI_zero a.size a.size).2 rfl
    unfold cmpPart
    rw [orI_two, h1, h2]
    cases digitsB a <;> simp
theorem cmpPart_neg {a b : ByteArray} (hne : ¬ a = b) : decide (cmpPart a b < 0) = lessPart a b := by
  rw [Bool.eq_iff_iff, decide_eq_true_eq]
  unfold cmpPart lessPart
  rw [orI_two]
  have s0 := cmpS_zero a b
  have s1 := cmpS_neg a b
  have i0 := cmpI_zero a.size b.size
  have i1 := cmpI_neg a.size b.size
  cases ha : digitsB a <;> cases hb : digitsB b
  · simpa using s1
  · simp
  · simp
  · simp only [Bool.and_self, if_true]
    by_cases he : a.size = b.size
    · have : cmpI a.size b.size = 0 := i0.2 (by omega)
      rw [if_pos this, if_pos he, if_neg (fun h => hne (s0.1 h))]
      exact s1
    · have : ¬ cmpI a.size b.size = 0 := fun h => he (by have := i0.1 h; omega)
      rw [if_neg this, if_neg he, i1]
      simp
theorem cmpPre_neg : ∀ (ps ps' : List ByteArray), decide (cmpPre ps ps' < 0) = lessGo ps ps'
  | [], [] => by simp [cmpPre, lessGo]
  | [], _ :: _ => by simp [cmpPre, lessGo]
  | _ :: _, [] => by simp [cmpPre, lessGo]
  | a :: xs, b :: ys => by
    rw [cmpPre, lessGo]
    by_cases h : a = b
    · rw [if_pos ((cmpPart_zero a b).2 h), if_pos h]; exact cmpPre_neg xs ys
    · rw [if_neg (fun k => h ((cmpPart_zero a b).1 k)), if_neg h]; exact cmpPart_neg h
theorem cmpVer_neg (a b c : Int) (ps : List ByteArray) (a' b' c' : Int) (ps' : List ByteArray) : decide (cmpVer a b c ps a' b' c' ps' < 0) = lessB a b c ps a' b' c' ps' := by
  unfold cmpVer lessB
  have e : orI [cmpI a a', cmpI b b', cmpI c c'] = if cmpI a a' = 0 then (if cmpI b b' = 0 then (if cmpI c c' = 0 then 0 else cmpI c c') else cmpI b b') else cmpI a a' := by simp [orI]
  rw [e]
  by_cases ha : a = a'
  · rw [if_pos ha, if_pos ((cmpI_zero a a').2 ha)]
    by_cases hb : b = b'
    · rw [if_pos hb, if_pos ((cmpI_zero b b').2 hb)]
      by_cases hc : c = c'
      · rw [if_pos hc, if_pos ((cmpI_zero c c').2 hc), if_pos rfl]
        unfold lessPre
        by_cases hp : ps.length = 0 ∨ ps'.length = 0
        · rw [if_pos hp, if_pos hp, Bool.eq_iff_iff, decide_eq_true_eq, cmpI_neg, Bool.and_eq_true, decide_eq_true_eq, decide_eq_true_eq]
          omega
        · rw [if_neg hp, if_neg hp]; exact cmpPre_neg ps ps'
      · have h := fun k => hc ((cmpI_zero c c').1 k)
        rw [if_neg hc, if_neg h, if_neg h, Bool.eq_iff_iff, decide_eq_true_eq, decide_eq_true_eq]
        exact cmpI_neg c c'
    · have h := fun k => hb ((cmpI_zero b b').1 k)
      rw [if_neg hb, if_neg h, if_neg h, Bool.eq_iff_iff, decide_eq_true_eq, decide_eq_true_eq]
      exact cmpI_neg b b'
  · have h := fun k => ha ((cmpI_zero a a').1 k)
    rw [if_neg ha, if_neg h, if_neg h, Bool.eq_iff_iff, decide_eq_true_eq, decide_eq_true_eq]
    exact cmpI_neg a a'

theorem ret_int {k : IntKind} {a b : Int} (h : a = b) : Ending.returned (.int k a) = .returned (.int k b) := by rw [h]

theorem nanInt_c (a : Int) (w : World) : Calls Tryd.prog 112 #[.int .i64 a] w fun e w' => e = .returned (.bool false) ∧ w = w' := by
  go_enter Tryd.func112, Tryd.ntmps112
  go_wp2
  go_ret
  exact ⟨by simp, rfl⟩
theorem nanStr_c (a : ByteArray) (w : World) : Calls Tryd.prog 142 #[.string a] w fun e w' => e = .returned (.bool false) ∧ w = w' := by
  go_enter Tryd.func142, Tryd.ntmps142
  go_wp2
  go_ret
  exact ⟨by simp, rfl⟩
theorem compareInt_c (a b : Int) (w : World) : Calls Tryd.prog 79 #[.int .i64 a, .int .i64 b] w fun e w' => e = .returned (.int .i64 (cmpI a b)) ∧ w = w' := by
  go_enter Tryd.func79, Tryd.ntmps79
  go_wp2_with (go_at_call 112; refine (nanInt_c _ _).mono ?_; rintro e w' ⟨rfl, rfl⟩)
  all_goals go_ret
  all_goals exact ⟨ret_int (by unfold cmpI; split <;> (try split) <;> omega), rfl⟩
theorem cmpS_one {a b : ByteArray} (h : ltS a b = true) : cmpS a b = -1 := by rw [cmpS, if_pos h]
theorem cmpS_two {a b : ByteArray} (h : ltS a b = false) (k : ltS b a = true) : cmpS a b = 1 := by rw [cmpS, if_neg (by simp [h]), if_pos k]
theorem cmpS_three {a b : ByteArray} (h : ltS a b = false) (k : ltS b a = false) : cmpS a b = 0 := by rw [cmpS, if_neg (by simp [h]), if_neg (by simp [k])]
theorem compareStr_c (a b : ByteArray) (w : World) : Calls Tryd.prog 113 #[.string a, .string b] w fun e w' => e = .returned (.int .i64 (cmpS a b)) ∧ w = w' := by
  go_enter Tryd.func113, Tryd.ntmps113
  go_wp2_with (go_at_call 142; refine (nanStr_c _ _).mono ?_; rintro e w' ⟨rfl, rfl⟩)
  · have h1 : ltS a b = true := by assumption
    go_ret
    exact ⟨ret_int (cmpS_one h1).symm, rfl⟩
  · have h1 : ltS a b = false := by assumption
    have h2 : (!a.toList == b.toList) = true := by assumption
    have h3 : ltS b a = true := by rw [← gtS, show Op.bytesLess a.toList b.toList = false from h1]; exact h2
    go_ret
    exact ⟨ret_int (cmpS_two h1 h3).symm, rfl⟩
  · have h1 : ltS a b = false := by assumption
    have h2 : (!a.toList == b.toList) = false := by assumption
    have h3 : ltS b a = false := by rw [← gtS, show Op.bytesLess a.toList b.toList = false from h1]; exact h2
    go_ret
    exact ⟨ret_int (cmpS_three h1 h3).symm, rfl⟩
end Go.Proofs.YtdnpfkknnaepoaaDoor
