/-
  What the law's helpers that mark a version's texts, and look whether the marks are held, answer: contracts for the walks; condition: the list lies in memory as told.
-/
import Derived.Test.YtbolphjigjpmiabVerD
import Derived.Test.YtbolphjigjpmiabVerF
namespace Go.Proofs.Ytbolphjigjpmiab
open Go.RowKit
set_option linter.unusedSimpArgs false
set_option linter.unusedVariables false

theorem Four.turned {w w' : World} {R : Nat} {t : TypeId} {c0 c1 c2 c3 : Value} {row : Option Nat} (h : Four w R t c0 c1 c2 c3) (hg : w.grownBy w' row) (hne : row ≠ some R) : Four w' R t c0 c1 c2 c3 :=
  (hg.block R h.lt (fun e => hne e.symm)).trans h
theorem below_turned {B : Nat} {w0 w w' : World} {row : Option Nat} (h : Below B w0 w) (hg : w.grownBy w' row) (hB : B ≤ w.heap.size) (hrow : ∀ k, row = some k → B ≤ k) : Below B w0 w' :=
  h.trans ⟨hg.os, hg.tape, hg.output, hg.size, fun k hk => hg.block k (by omega) (fun e => by have := hrow k e.symm; omega)⟩

end Go.Proofs.Ytbolphjigjpmiab
