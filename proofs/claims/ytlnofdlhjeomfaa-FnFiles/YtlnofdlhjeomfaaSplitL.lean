/-
  How many pieces a text falls into, and how long they are: no condition.
-/
import Derived.Test.YtlnofdlhjeomfaaSplitA
namespace Go.Proofs.Ytlnofdlhjeomfaa
open Go.RowKit
set_option linter.unusedSimpArgs false
set_option linter.unusedVariables false

theorem splitS_pos (s : ByteArray) (c : Int) : 0 < (splitS s c).length := by
  have h : ∀ n i b, 0 < (splitGo s c n i b).length := fun n => by
    induction n with
    | zero => intro i b; simp [splitGo]
    | succ n ih => intro i b; rw [splitGo]; split <;> simp [ih]
  exact h _ _ _
theorem splitS_piece (s : ByteArray) (c : Int) : ∀ x ∈ splitS s c, x.size ≤ s.size := by
  have h : ∀ n i b, ∀ x ∈ splitGo s c n i b, x.size ≤ s.size := fun n => by
    induction n with
    | zero => intro i b x hx; simp [splitGo] at hx; subst hx; rw [ByteArray.size_extract]; omega
    | succ n ih =>
      intro i b x hx
      rw [splitGo] at hx
      split at hx
      · rcases List.mem_cons.1 hx with rfl | hx
        · rw [ByteArray.size_extract]; omega
        · exact ih _ _ x hx
      · exact ih _ _ x hx
  exact h _ _ _
theorem splitS_len (s : ByteArray) (c : Int) : (splitS s c).length ≤ s.size + 1 := by
  have h : ∀ n i b, (splitGo s c n i b).length ≤ n + 1 := fun n => by
    induction n with
    | zero => intro i b; simp [splitGo]
    | succ n ih =>
      intro i b
      rw [splitGo]
      split
      · simp only [List.length_cons]; have := ih (i + 1) (i + 1); omega
      · have := ih (i + 1) b; omega
  exact h _ _ _

end Go.Proofs.Ytlnofdlhjeomfaa
