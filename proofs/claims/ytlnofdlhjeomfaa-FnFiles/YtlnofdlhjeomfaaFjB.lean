/-
  Rows of texts just laid, and a row of bytes just made, as steps of a region that draws its order: facts for the walks; conditions as each says.
-/
import Derived.Test.YtlnofdlhjeomfaaFiT
import Derived.Test.YtlnofdlhjeomfaaFjA
import Derived.Deep.RegionHeld
namespace Go.Proofs.Ytlnofdlhjeomfaa
open Go.RowKit Go.Maps
set_option linter.unusedSimpArgs false
set_option linter.unusedVariables false

def newPL (a b : ByteArray) : List ByteArray := [a, b, ⟨#[110, 101, 119]⟩, ⟨#[65]⟩, ⟨#[]⟩]
def newTL (z : ByteArray) : List ByteArray := [⟨#[120]⟩, ⟨#[]⟩, z]
theorem lit_row (w : World) (xs : List ByteArray) (h : xs.length ≤ maxLen) : (w.alloc (.cells (xs.map Value.string).toArray 9)).ownsRow w.heap.size 9 1 (.slice (some ⟨w.heap.size, 0, none⟩) xs.length xs.length) xs.length (strsV xs) :=
  ⟨by simp [strsV], .inr ⟨w.heap.size, xs.length, _, rfl, Nat.le_refl _, vheap_new w _, Nat.le_refl _, h, by simp, by rw [Nat.mul_one]; exact List.take_of_length_le (by simp)⟩⟩
theorem row_str {w : World} {base b n c : Nat} {xs : List ByteArray} (h : w.ownsRow base 9 1 (.slice (some ⟨b, 0, none⟩) n c) n (strsV xs)) : ∀ k (hk : k < xs.length), w.cell? ⟨b, k, none⟩ = some (.string xs[k]) := fun k hk => by
  have hl := h.1
  simp only [strsV, List.length_map] at hl
  rw [h.cellAt k (by omega)]
  simp [strsV, hk]
theorem wp_makeN (w : World) {o : Oper} {a : Act} {K : Act → World → Prop} {Q : Exit → Act → World → Prop} (l c : Operand) (n : Nat) (hb : n ≤ 1048576) (hop : o.op = Op.makeSlice 22 l c) (hl : a.eval l = .int .i64 (n : Int)) (hc : a.eval c = .int .i64 (n : Int))
    (hK : ∀ w', w'.ownsRow w.heap.size 5 1 (.slice (some ⟨w.heap.size, 0, none⟩) n n) n (madeCells #[Value.int .u8 0] n).toList → w.grownBy w' none → K (a.put o.dst (.slice (some ⟨w.heap.size, 0, none⟩) n n)) w') : o.wp Try.prog a w K Q := by
  obtain ⟨j0, hj0, hy0, hy1, hy2⟩ := info_parts info5
  obtain ⟨w', hrun, r1, r2⟩ := run_make_full (P := Try.prog) w w.heap.size 22 5 j0 (.int .u8 0) 1 Try.underlying22 hj0 hy0 hy1 .i64 .i64 n (by rw [hy2]; omega) (by unfold maxLen; omega) (Nat.le_refl _)
  rw [Nat.mul_one] at r1
  unfold Oper.wp
  simp [execOp, hop, hl, hc, hrun, Result.andThen]
  exact hK w' r1 r2

end Go.Proofs.Ytlnofdlhjeomfaa
