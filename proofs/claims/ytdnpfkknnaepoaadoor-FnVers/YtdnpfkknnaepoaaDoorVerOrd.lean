/-
  LessVer, as both the program and the specification answer it, is a strict order: of two versions just one is less, or they are the same; and it goes on; no condition.
-/
import Derived.Test.YtdnpfkknnaepoaaDoorVerG
import Derived.Test.YtdnpfkknnaepoaaDoorVerE
namespace Go.Proofs.YtdnpfkknnaepoaaDoor
open Go.RowKit
set_option linter.unusedSimpArgs false
set_option linter.unusedVariables false

theorem ltS_trans {a b c : ByteArray} (h : ltS a b = true) (k : ltS b c = true) : ltS a c = true := by
  rw [ltS_iff] at *
  simp only [decide_eq_true_eq] at *
  exact vltL_trans h k
theorem ltS_other {a b : ByteArray} (hne : ¬ a = b) : ltS b a = !ltS a b := by
  cases h : ltS a b
  · cases k : ltS b a
    · exact absurd (ltS_total h k) hne
    · rfl
  · rw [ltS_asymm h]; rfl
theorem lessPart_irrefl (a : ByteArray) : lessPart a a = false := by
  unfold lessPart
  cases digitsB a <;> simp [ltS_irrefl]
theorem lessPart_other {a b : ByteArray} (hne : ¬ a = b) : lessPart b a = !lessPart a b := by
  unfold lessPart
  cases ha : digitsB a <;> cases hb : digitsB b
  · simpa using ltS_other hne
  · simp
  · simp
  · simp only [Bool.and_self, if_true]
    by_cases h : a.size = b.size
    · rw [if_pos h, if_pos h.symm]; exact ltS_other hne
    · rw [if_neg h, if_neg (fun e => h e.symm)]
      rw [Bool.eq_iff_iff]
      simp
      omega
theorem lessPart_trans {a b c : ByteArray} (h : lessPart a b = true) (k : lessPart b c = true) : lessPart a c = true := by
  unfold lessPart at *
  cases ha : digitsB a <;> cases hb : digitsB b <;> cases hc : digitsB c <;> simp only [ha, hb, hc, Bool.and_self, Bool.and_true, Bool.and_false, Bool.true_and, Bool.false_and, if_true, Bool.false_eq_true, if_false, reduceCtorEq] at * <;> try trivial
  · exact ltS_trans h k
  · by_cases h1 : a.size = b.size <;> by_cases h2 : b.size = c.size
    · rw [if_pos h1] at h; rw [if_pos h2] at k; rw [if_pos (by omega)]; exact ltS_trans h k
    · rw [if_neg h2] at k; rw [if_neg (by omega)]; simp at *; omega
    · rw [if_neg h1] at h; rw [if_neg (by omega)]; simp at *; omega
    · rw [if_neg h1] at h; rw [if_neg h2] at k; simp at h k; rw [if_neg (by omega)]; simp; omega

theorem lessGo_irrefl : ∀ x : List ByteArray, lessGo x x = false
  | [] => by simp [lessGo]
  | a :: x => by rw [lessGo, if_pos rfl]; exact lessGo_irrefl x
theorem lessGo_other : ∀ {x y : List ByteArray}, ¬ x = y → lessGo y x = !lessGo x y
  | [], [], h => absurd rfl h
  | [], _ :: _, _ => by simp [lessGo]
  | _ :: _, [], _ => by simp [lessGo]
  | a :: x, b :: y, h => by
    rw [lessGo, lessGo]
    by_cases e : a = b
    · rw [if_pos e, if_pos e.symm]
      exact lessGo_other (fun k => h (by rw [e, k]))
    · rw [if_neg e, if_neg (fun k => e k.symm)]
      exact lessPart_other e
theorem lessGo_trans : ∀ {x y z : List ByteArray}, lessGo x y = true → lessGo y z = true → lessGo x z = true
  | x, [], z, h, k => by cases x <;> simp [lessGo] at h
  | x, b :: y, [], h, k => by simp [lessGo] at k
  | [], b :: y, c :: z, h, k => by simp [lessGo]
  | a :: x, b :: y, c :: z, h, k => by
    rw [lessGo] at *
    by_cases e1 : a = b
    · subst e1
      rw [if_pos rfl] at h
      by_cases e2 : a = c
      · subst e2
        rw [if_pos rfl] at *
        exact lessGo_trans h k
      · rw [if_neg e2] at *; exact k
    · rw [if_neg e1] at h
      by_cases e2 : b = c
      · subst e2
        rw [if_neg e1]; exact h
      · rw [if_neg e2] at k
        have ht := lessPart_trans h k
        by_cases e3 : a = c
        · subst e3
          rw [lessPart_irrefl] at ht; cases ht
        · rw [if_neg e3]; exact ht

theorem lessPre_irrefl (x : List ByteArray) : lessPre x x = false := by
  unfold lessPre
  split
  · rename_i h; simp; omega
  · exact lessGo_irrefl x
theorem lessPre_other {x y : List ByteArray} (h : ¬ x = y) : lessPre y x = !lessPre x y := by
  unfold lessPre
  by_cases h1 : x.length = 0
  · have hx : x = [] := List.eq_nil_of_length_eq_zero h1
    subst hx
    have hy : ¬ y.length = 0 := fun e => h (List.eq_nil_of_length_eq_zero e).symm
    simp [hy]; omega
  · by_cases h2 : y.length = 0
    · have hy : y = [] := List.eq_nil_of_length_eq_zero h2
      subst hy
      simp [h1]; omega
    · rw [if_neg (by omega), if_neg (by omega)]; exact lessGo_other h
theorem lessPre_trans {x y z : List ByteArray} (h : lessPre x y = true) (k : lessPre y z = true) : lessPre x z = true := by
  unfold lessPre at *
  by_cases h1 : x.length = 0
  · simp [h1] at h
  · by_cases h2 : y.length = 0
    · simp [h2] at k
    · rw [if_neg (by omega)] at h
      by_cases h3 : z.length = 0
      · rw [if_pos (.inr h3)]; simp [h3]; omega
      · rw [if_neg (by omega)] at k
        rw [if_neg (by omega)]; exact lessGo_trans h k

/-- A version: its numbers and its Pre. -/
structure V4 where
  a : Int
  b : Int
  c : Int
  ps : List ByteArray
def lessV (x y : V4) : Bool := lessB x.a x.b x.c x.ps y.a y.b y.c y.ps
def sameV (x y : V4) : Bool := sameB x.a x.b x.c x.ps y.a y.b y.c y.ps

theorem lessV_trans {x y z : V4} (h : lessV x y = true) (k : lessV y z = true) : lessV x z = true := by
  unfold lessV lessB at *
  by_cases a1 : x.a = y.a <;> by_cases a2 : y.a = z.a
  · rw [if_pos a1] at h; rw [if_pos a2] at k; rw [if_pos (by omega)]
    by_cases b1 : x.b = y.b <;> by_cases b2 : y.b = z.b
    · rw [if_pos b1] at h; rw [if_pos b2] at k; rw [if_pos (by omega)]
      by_cases c1 : x.c = y.c <;> by_cases c2 : y.c = z.c
      · rw [if_pos c1] at h; rw [if_pos c2] at k; rw [if_pos (by omega)]; exact lessPre_trans h k
      · rw [if_neg c2] at k; rw [if_neg (by omega)]; simp at *; omega
      · rw [if_neg c1] at h; rw [if_neg (by omega)]; simp at *; omega
      · rw [if_neg c1] at h; rw [if_neg c2] at k; simp at h k; rw [if_neg (by omega)]; simp; omega
    · rw [if_neg b2] at k; rw [if_neg (by omega)]; simp at *; omega
    · rw [if_neg b1] at h; rw [if_neg (by omega)]; simp at *; omega
    · rw [if_neg b1] at h; rw [if_neg b2] at k; simp at h k; rw [if_neg (by omega)]; simp; omega
  · rw [if_neg a2] at k; rw [if_neg (by omega)]; simp at *; omega
  · rw [if_neg a1] at h; rw [if_neg (by omega)]; simp at *; omega
  · rw [if_neg a1] at h; rw [if_neg a2] at k; simp at h k; rw [if_neg (by omega)]; simp; omega

/-- Of two versions one is less, or they are the same: in one way alone. -/
theorem one_way (x y : V4) : (if lessV x y then 1 else 0) + (if lessV y x then 1 else 0) + (if sameV x y then 1 else 0) = (1 : Int) := by
  unfold lessV sameV lessB sameB coreB
  by_cases a1 : x.a = y.a
  · by_cases b1 : x.b = y.b
    · by_cases c1 : x.c = y.c
      · by_cases p1 : x.ps = y.ps
        · simp [a1, b1, c1, p1, lessPre_irrefl]
        · have ho := lessPre_other p1
          simp only [a1, b1, c1, if_true, ho, beq_self_eq_true, Bool.and_self, Bool.true_and, decide_eq_false p1]
          cases lessPre x.ps y.ps <;> simp
      · have : (x.c == y.c) = false := by simpa using c1
        simp only [a1, b1, if_true, this, if_neg c1, if_neg (fun e => c1 (Eq.symm e)), Bool.and_false, Bool.false_and, Bool.false_eq_true, if_false]
        by_cases l : x.c < y.c
        · have : ¬ y.c < x.c := by omega
          simp [l, this]
        · have : y.c < x.c := by omega
          simp [l, this]
    · have : (x.b == y.b) = false := by simpa using b1
      simp only [a1, if_true, this, if_neg b1, if_neg (fun e => b1 (Eq.symm e)), Bool.and_false, Bool.false_and, Bool.false_eq_true, if_false]
      by_cases l : x.b < y.b
      · have : ¬ y.b < x.b := by omega
        simp [l, this]
      · have : y.b < x.b := by omega
        simp [l, this]
  · have : (x.a == y.a) = false := by simpa using a1
    simp only [this, if_neg a1, if_neg (fun e => a1 (Eq.symm e)), Bool.false_and, Bool.false_eq_true, if_false]
    by_cases l : x.a < y.a
    · have : ¬ y.a < x.a := by omega
      simp [l, this]
    · have : y.a < x.a := by omega
      simp [l, this]
#print axioms one_way
#print axioms lessV_trans
end Go.Proofs.YtdnpfkknnaepoaaDoor
