/-
  What the law's test of a great code answers, and what is told of one version held against itself without its Pre; conditions: the code lies in memory as told.
-/
import Derived.Test.YtdnpfkknnaepoaaDoorVerI
import Derived.Test.YtdnpfkknnaepoaaDoorVerJ
import Derived.Test.YtdnpfkknnaepoaaDoorVerZ
namespace Go.Proofs.YtdnpfkknnaepoaaDoor
open Go.RowKit
set_option linter.unusedSimpArgs false
set_option linter.unusedVariables false

theorem big_t (v : Value) (zs : List Int) (w : World) (hr : Reads w v (bytesV zs)) (h : (1048576 : Int) < (zs.length : Int)) :
    Calls Tryd.prog 6 #[v] w fun e w' => e = .returned (.bool true) ∧ w = w' := by
  obtain ⟨a, cap, rfl, _, _⟩ := reads_bytes hr
  clear hr
  go_enter Tryd.func6, Tryd.ntmps6
  go_wp2
  go_ret
  exact ⟨by simp [h], rfl⟩
theorem big_f (v : Value) (zs : List Int) (w : World) (hr : Reads w v (bytesV zs)) (h : ¬ (1048576 : Int) < (zs.length : Int)) :
    Calls Tryd.prog 6 #[v] w fun e w' => e = .returned (.bool false) ∧ w = w' := by
  obtain ⟨a, cap, rfl, _, _⟩ := reads_bytes hr
  clear hr
  go_enter Tryd.func6, Tryd.ntmps6
  go_wp2
  go_ret
  exact ⟨by simp [h], rfl⟩

theorem less_none (a b c : Int) (ps : List ByteArray) (h : ¬ ps.length = 0) : lessB a b c ps a b c [] = true ∧ lessB a b c [] a b c ps = false := by
  simp [lessB, lessPre]
  omega
theorem same_self (a b c : Int) (ps : List ByteArray) : sameB a b c ps a b c ps = true := by simp [sameB, coreB]
theorem small_bulk {n : Nat} {ps : List ByteArray} (h : smallP n ps) (hn : n ≤ 4) : bulkS ps ≤ 1048576 := by
  have h2 : ∀ l : List ByteArray, (∀ t ∈ l, t.size ≤ 9) → (l.map ByteArray.size).sum ≤ 9 * l.length := by
    intro l
    induction l with
    | nil => simp
    | cons x l ih =>
      intro hl
      have := ih (fun t ht => hl t (List.mem_cons_of_mem _ ht))
      have := hl x (List.mem_cons_self ..)
      simp only [List.map_cons, List.sum_cons, List.length_cons]
      omega
  have := h2 ps h.2
  have := h.1
  unfold bulkS
  omega
end Go.Proofs.YtdnpfkknnaepoaaDoor
