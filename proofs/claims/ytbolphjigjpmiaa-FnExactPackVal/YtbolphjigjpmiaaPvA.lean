/-
  A text, and a list of texts, told as values: the program's and the specification's: contracts for the walks; condition: the texts hold at most 2 to the 20.
-/
import Derived.Test.YtbolphjigjpmiaaSplitB
import Derived.Test.YtbolphjigjpmiaaTrP
namespace Go.Proofs.Ytbolphjigjpmiaa
open Go.RowKit
set_option linter.unusedSimpArgs false
set_option linter.unusedVariables false

/-- The cells of a text as a value. -/
def textV (s : ByteArray) : List Value := [.int .i64 3, .int .i64 0, .string s, .slice none 0 0, .slice none 0 0]

set_option maxHeartbeats 1000000 in
set_option maxRecDepth 100000 in
theorem valOfText_c (s : ByteArray) (hs : s.size ≤ 1048576) (w : World) :
    Calls Try.prog 51 #[.string s] w fun e w' => e = .returned (.agg (textV s).toArray) ∧ Below w.heap.size w w' := by
  have hbx : ∀ o, Below w.heap.size w (w.alloc o) := fun o => (Below.refl _ _).alloc (Nat.le_refl _) _
  have HC := hidden (fun w1 => clone_c s w1 hs)
  go_enter Try.func51, Try.ntmps51
  go_wp2_with fail
  go_at_call 82
  refine (HC.out _).mono ?_
  rintro e w1 ⟨rfl, b1⟩
  have hx := boxAt b1
  have x0 := vblk_cell hx 0
  have x1 := vblk_cell hx 1
  have x2 := vblk_cell hx 2
  have x3 := vblk_cell hx 3
  have x4 := vblk_cell hx 4
  have fx := vblk_frozen hx
  simp only [List.getElem?_toArray, List.getElem?_cons_succ, List.getElem?_cons_zero] at x0 x1 x2 x3 x4
  go_wp2_with fail
  refine bodyPost_ret (v := .agg (textV s).toArray) (by simp [textV, results, Try.results51, go_sem, x0, x1, x2, x3, x4]) rfl ⟨rfl, ?_⟩
  (repeat (refine Below.setCell ?_ (by simp) _))
  exact (hbx _).trans (b1.mono (hbx _).size)

set_option maxHeartbeats 1000000 in
set_option maxRecDepth 100000 in
theorem textVal_c (s : ByteArray) (w : World) :
    Calls Try.prog 46 #[.string s] w fun e w' => e = .returned (.agg (textV s).toArray) ∧ Below w.heap.size w w' := by
  have hbx : ∀ o, Below w.heap.size w (w.alloc o) := fun o => (Below.refl _ _).alloc (Nat.le_refl _) _
  go_enter Try.func46, Try.ntmps46
  go_wp2_with fail
  refine bodyPost_ret (v := .agg (textV s).toArray) (by simp [textV, results, Try.results46, go_sem]) rfl ⟨rfl, ?_⟩
  (repeat (refine Below.setCell ?_ (by simp) _))
  exact hbx _
end Go.Proofs.Ytbolphjigjpmiaa
