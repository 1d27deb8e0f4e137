/-
  What the functions that draw two versions answer: contracts for the walks; conditions: what comes in lies in memory as told.
-/
import Derived.Test.YtdnpfkknnaepoaaDoorVerX
import Derived.Test.YtdnpfkknnaepoaaDoorVerE
namespace Go.Proofs.YtdnpfkknnaepoaaDoor
open Go.RowKit
set_option linter.unusedSimpArgs false
set_option linter.unusedVariables false
attribute [local go_sem ↓] Go.wp_at_zero Go.wp_at_succ

/-- Two versions that are answered. -/
def TwoOut (w : World) (e : Ending) (w' : World) : Prop :=
  ∃ (a b c : Int) (u : Value) (ps : List ByteArray) (a' b' c' : Int) (u' : Value) (ps' : List ByteArray), e = .returned (.tuple #[.agg #[.int .i64 a, .int .i64 b, .int .i64 c, u], .agg #[.int .i64 a', .int .i64 b', .int .i64 c', u']]) ∧ Reads w' u (strsV ps) ∧ Reads w' u' (strsV ps') ∧ smallP 4 ps ∧ smallP 4 ps' ∧ Below w.heap.size w w'

theorem four_self {w : World} {R : Nat} {t : TypeId} {c0 c1 c2 c3 : Value} (h : Four w R t c0 c1 c2 c3) (v0 v1 v2 v3 : Value) : Four ((((w.setCell ⟨R, 0, none⟩ v0).setCell ⟨R, 1, none⟩ v1).setCell ⟨R, 2, none⟩ v2).setCell ⟨R, 3, none⟩ v3) R t v0 v1 v2 v3 :=
  (four_put (four_put (four_put (four_put h v0).1 v1).2.1 v2).2.2.1 v3).2.2.2
theorem Reads.drewn {w : World} {v : Value} {xs : List Value} (h : Reads w v xs) : Reads w.drew v xs := h
theorem fieldPre1 (a b c : Int) (q : Option Addr) (n k : Nat) (w : World) : (Instr.field 26 (.agg #[.int .i64 a, .int .i64 b, .int .i64 c, .slice q n k]) 3).run Tryd.prog w = .ok (.slice q n k) w := by
  simp [Instr.field, asAgg, go_sem]
theorem two_out {w w' : World} {a b c : Int} {u : Value} {ps : List ByteArray} {a' b' c' : Int} {u' : Value} {ps' : List ByteArray} (h1 : Reads w' u (strsV ps)) (h2 : Reads w' u' (strsV ps')) (h3 : smallP 4 ps) (h4 : smallP 4 ps') (h5 : Below w.heap.size w w') : TwoOut w (.returned (.tuple #[.agg #[.int .i64 a, .int .i64 b, .int .i64 c, u], .agg #[.int .i64 a', .int .i64 b', .int .i64 c', u']])) w' :=
  ⟨a, b, c, u, ps, a', b', c', u', ps', rfl, h1, h2, h3, h4, h5⟩

end Go.Proofs.YtdnpfkknnaepoaaDoor
