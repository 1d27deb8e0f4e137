/-
  Marks put into versions and entries, and found again, as the law does it: contracts for the walks; conditions: their rows lie in memory, may be written, and there are at most 2 to the 32 marks.
-/
import Derived.Test.YtbolphjigjpmiaaEmA
import Derived.Test.YtbolphjigjpmiaaEnB
namespace Go.Proofs.Ytbolphjigjpmiaa
open Go.RowKit
set_option linter.unusedSimpArgs false
set_option linter.unusedVariables false

theorem chg_grown {w w' : World} {v : Value} (h : Chg (fun b => v.ownBlock = some b) w w') : w.grownBy w' v.ownBlock := ⟨h.os, h.tape, h.output, h.size, fun i hi hne => h.block i hi (fun k => hne k.symm)⟩
set_option maxHeartbeats 2000000 in
set_option maxRecDepth 100000 in
theorem markVerE_c (a b c : Int) (u : Value) (base n k : Nat) (xs : List Value) (w : World) (hv : w.ownsRow base 9 1 u n xs) (h1 : 1 ≤ k) (h2 : k + n ≤ 4294967296) (hbw : base ≤ w.heap.size) :
    Calls Try.prog 34 #[.agg #[.int .i64 a, .int .i64 b, .int .i64 c, u], .int .i64 (k : Int)] w fun e w' => e = .returned (.int .i64 ((k + n : Nat) : Int)) ∧ w'.ownsRow base 9 1 u n (strsV (marksS k n)) ∧ w.grownBy w' u.ownBlock := by
  have hbx : ∀ o, Below w.heap.size w (w.alloc o) := fun o => (Below.refl _ _).alloc (Nat.le_refl _) _
  have HM : Hid (∀ o, Calls Try.prog 55 #[u, .int .i64 (k : Int)] (w.alloc o) fun e w' => e = .returned (.int .i64 ((k + n : Nat) : Int)) ∧ w'.ownsRow base 9 1 u n (strsV (marksS k n)) ∧ (w.alloc o).grownBy w' u.ownBlock) := fun o => by
    have := markStrs_c u base n xs k (w.alloc o) (owns_of_below hv (hbx o)) h1 (by omega) (by omega) (Nat.le_trans hbw (hbx o).size)
    rwa [show (k : Int) + (n : Int) = ((k + n : Nat) : Int) by omega] at this
  obtain ⟨q, cap, hq⟩ := owns_sliceP hv
  subst hq
  clear hv
  go_enter Try.func34, Try.ntmps34
  go_wp2_with (go_at_call 55; refine (HM.out _).mono ?_; rintro e w1 ⟨rfl, o1, g1⟩)
  go_ret
  exact ⟨rfl, o1, grown_trans (grown_of_below (hbx _) _) g1⟩

set_option maxHeartbeats 2000000 in
set_option maxRecDepth 100000 in
theorem heldVerE_c (a b c : Int) (u : Value) (base n k : Nat) (w : World) (hv : w.ownsRow base 9 1 u n (strsV (marksS k n))) (h1 : 1 ≤ k) (h2 : k + n ≤ 4294967296) :
    Calls Try.prog 35 #[.agg #[.int .i64 a, .int .i64 b, .int .i64 c, u], .int .i64 (k : Int)] w fun e w' => e = .returned (.int .i64 ((k + n : Nat) : Int)) ∧ Below w.heap.size w w' := by
  have hbx : ∀ o, Below w.heap.size w (w.alloc o) := fun o => (Below.refl _ _).alloc (Nat.le_refl _) _
  have HM : Hid (∀ o, Calls Try.prog 60 #[u, .int .i64 (k : Int)] (w.alloc o) fun e w' => e = .returned (.int .i64 ((k + n : Nat) : Int)) ∧ Below (w.alloc o).heap.size (w.alloc o) w') := fun o => by
    have := heldStrs_c u n k (w.alloc o) (reads_of_owns (owns_of_below hv (hbx o))) h1 (by omega) (by omega)
    rwa [show (k : Int) + (n : Int) = ((k + n : Nat) : Int) by omega] at this
  obtain ⟨q, cap, hq⟩ := owns_sliceP hv
  subst hq
  clear hv
  obtain ⟨r, hr⟩ : ∃ r, r = k + n := ⟨_, rfl⟩
  rw [← hr] at HM ⊢
  have hr0 : ¬ (r : Int) < 0 := by omega
  clear hr
  go_enter Try.func35, Try.ntmps35
  go_wp2_with (go_at_call 60; refine (HM.out _).mono ?_; rintro e w1 ⟨rfl, b1⟩)
  go_ret
  exact ⟨rfl, (hbx _).trans (b1.mono (hbx _).size)⟩

end Go.Proofs.Ytbolphjigjpmiaa
