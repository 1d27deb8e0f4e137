/-
  What the law's helpers that mark a version's texts, and look whether the marks are held, answer: contracts for the walks; condition: the list lies in memory as told.
-/
import Derived.Test.YtbolphjigjpmiaaVerD
import Derived.Test.YtbolphjigjpmiaaVerF
namespace Go.Proofs.Ytbolphjigjpmiaa
open Go.RowKit
set_option linter.unusedSimpArgs false
set_option linter.unusedVariables false

theorem Four.turned {w w' : World} {R : Nat} {t : TypeId} {c0 c1 c2 c3 : Value} {row : Option Nat} (h : Four w R t c0 c1 c2 c3) (hg : w.grownBy w' row) (hne : row ≠ some R) : Four w' R t c0 c1 c2 c3 :=
  (hg.block R h.lt (fun e => hne e.symm)).trans h
theorem below_turned {B : Nat} {w0 w w' : World} {row : Option Nat} (h : Below B w0 w) (hg : w.grownBy w' row) (hB : B ≤ w.heap.size) (hrow : ∀ k, row = some k → B ≤ k) : Below B w0 w' :=
  h.trans ⟨hg.os, hg.tape, hg.output, hg.size, fun k hk => hg.block k (by omega) (fun e => by have := hrow k e.symm; omega)⟩

set_option maxHeartbeats 1000000 in
set_option maxRecDepth 100000 in
theorem markVer_c (a b c : Int) (u : Value) (base n : Nat) (xs : List Value) (w : World) (hv : w.ownsRow base 9 1 u n xs) (hn : n ≤ 1048576) (hbw : base ≤ w.heap.size) :
    Calls Try.prog 34 #[.agg #[.int .i64 a, .int .i64 b, .int .i64 c, u], .int .i64 1] w fun e w' => e = .returned (.int .i64 (1 + (n : Int))) ∧ w'.ownsRow base 9 1 u n (strsV (marksS 1 n)) ∧ w.grownBy w' u.ownBlock := by
  have HM : Hid (∀ o, Calls Try.prog 55 #[u, .int .i64 1] (w.alloc o) fun e w' => e = .returned (.int .i64 (1 + (n : Int))) ∧ w'.ownsRow base 9 1 u n (strsV (marksS 1 n)) ∧ (w.alloc o).grownBy w' u.ownBlock) := fun o => markStrs_c u base n xs 1 (w.alloc o) (hv.alloc o) (by omega) (by omega) (by omega) (by simp; omega)
  have hgA : ∀ o, w.grownBy (w.alloc o) u.ownBlock := fun o => World.grownBy_alloc w o _
  obtain ⟨q, m, cap, rfl⟩ : ∃ q m cap, u = .slice q m cap := by rcases hv.2 with ⟨rfl, _⟩ | ⟨g, cap, cur, rfl, _⟩ <;> exact ⟨_, _, _, rfl⟩
  clear hv
  go_enter Try.func34, Try.ntmps34
  go_wp2_with (go_at_call 55; refine (HM.out _).mono ?_; rintro e w1 ⟨rfl, o1, g1⟩)
  go_ret
  exact ⟨rfl, o1, grown_trans (hgA _) g1⟩

set_option maxHeartbeats 1000000 in
set_option maxRecDepth 100000 in
theorem heldVer_c (a b c : Int) (u : Value) (n : Nat) (w : World) (hv : Reads w u (strsV (marksS 1 n))) (hn : n ≤ 1048576) :
    Calls Try.prog 35 #[.agg #[.int .i64 a, .int .i64 b, .int .i64 c, u], .int .i64 1] w fun e w' => e = .returned (.int .i64 (1 + (n : Int))) ∧ Below w.heap.size w w' := by
  have hbx : ∀ o, Below w.heap.size w (w.alloc o) := fun o => (Below.refl _ _).alloc (Nat.le_refl _) _
  have HM : Hid (∀ o, Calls Try.prog 60 #[u, .int .i64 1] (w.alloc o) fun e w' => e = .returned (.int .i64 (1 + (n : Int))) ∧ Below (w.alloc o).heap.size (w.alloc o) w') := fun o => heldStrs_c u n 1 (w.alloc o) (hv.below (hbx o)) (by omega) (by omega) (by omega)
  obtain ⟨q, cap, hq, _, _⟩ := reads_strs hv
  rw [length_marksS] at hq
  subst hq
  clear hv
  have hpos : ¬ (1 + (n : Int)) < 0 := by omega
  go_enter Try.func35, Try.ntmps35
  go_wp2_with (go_at_call 60; refine (HM.out _).mono ?_; rintro e w1 ⟨rfl, b1⟩)
  go_ret
  exact ⟨rfl, (hbx _).trans (b1.mono (by simp))⟩
end Go.Proofs.Ytbolphjigjpmiaa
