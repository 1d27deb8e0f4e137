/-
  The program's ValOk is the specification's: for every value that lies in memory and holds at most 2 to the 20.
-/
import Derived.Test.YtbolphjigjpmiaaDoorValH
namespace Go.Proofs.YtbolphjigjpmiaaDoor
open Go.RowKit
set_option linter.unusedSimpArgs false
set_option linter.unusedVariables false

theorem ok_eq (T : Tree) : (T.good 1 && decide ((0 : Int) + (T.nodes : Int) ≤ 80)) = T.ok := by
  unfold Tree.ok
  congr 1
  rw [Bool.eq_iff_iff]
  simp
  omega

set_option maxHeartbeats 1000000 in
theorem valueOf_c (T : Tree) (S : Nat → Prop) (v : Value) (w : World) (hv : Lies S w v T) (hB : ∀ b, S b → b < w.heap.size) (hw : T.wt ≤ 1048576) :
    Calls Tryd.prog 15 #[v] w fun e w' => ∃ x, e = .returned (.tuple #[x, .bool T.ok]) ∧ Below w.heap.size w w' ∧ (T.ok = true → XLies (Own w.heap.size w'.heap.size) w' x T) := by
  have hb2 : ∀ A R, Below w.heap.size w ((w.alloc A).alloc R) := fun A R => ((Below.refl _ _).alloc (Nat.le_refl _) _).alloc (by simp) _
  have HC : Hid (∀ o, Calls Tryd.prog 22 #[.pointer (some ⟨w.heap.size + 1, 0, none⟩), v, .int .i64 1] ((w.alloc o).alloc (.cells #[.int .i64 0] 51)) fun e w' => ∃ x, e = .returned (.tuple #[x, .bool T.ok]) ∧ Below w.heap.size w w' ∧ (T.ok = true → XLies (Own w.heap.size w'.heap.size) w' x T)) := fun o => by
    have s1 : (w.alloc o).heap.size = w.heap.size + 1 := by simp
    have hct : CtrAt ((w.alloc o).alloc (.cells #[.int .i64 0] 51)) (w.heap.size + 1) 0 := by
      unfold CtrAt
      rw [← s1, heap_new]
    have h := value_all T S v ((w.alloc o).alloc (.cells #[.int .i64 0] 51)) 1 (w.heap.size + 1) 0 (hv.keep (.of (hb2 _ _) hB)) (fun b hb => ⟨by have := hB b hb; simp; omega, by have := hB b hb; omega⟩) hct (by omega) (by omega) (by omega) (by omega) hw
    refine h.mono ?_
    rintro e w' ⟨x, c1, rfl, ct, gr, hx⟩
    rw [ok_eq]
    have hbel : Below w.heap.size w w' := (hb2 _ _).grown gr (by simp; omega) (fun k hk => by simp at hk; omega)
    refine ⟨x, rfl, hbel, fun hok => ?_⟩
    rw [← ok_eq] at hok
    simp only [Bool.and_eq_true, decide_eq_true_eq] at hok
    exact (hx hok.1 hok.2).2.mono (Own.mono (by simp; omega) (Nat.le_refl _))
  obtain ⟨k, n, s, a, m, cap, a', m', cap', rfl⟩ := hv.parts
  clear hv
  go_enter Tryd.func15, Tryd.ntmps15
  go_wp2_with (go_at_call 22; refine (HC.out _).mono ?_; rintro e w' ⟨x, rfl, hbel, hx⟩)
  go_ret2
  exact ⟨x, rfl, hbel, hx⟩

end Go.Proofs.YtbolphjigjpmiaaDoor
