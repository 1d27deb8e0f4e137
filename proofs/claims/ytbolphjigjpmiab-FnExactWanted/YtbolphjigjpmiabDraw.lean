/-
  What the functions that draw out of a code answer: contracts for the walks over a cursor (a pointer to a struct of the call's own) that reads the code; each says no more of what is drawn than its bounds; conditions: the code lies in memory as told.
-/
import Derived.Test.YtbolphjigjpmiabBytes
import Derived.Laws.BitsAllLaws
import Derived.Lib.AppendStr
import Derived.Deep.DeepMust
namespace Go.Proofs.Ytbolphjigjpmiab
open Go.RowKit
set_option linter.unusedSimpArgs false
set_option linter.unusedVariables false

theorem and_255 (x : Int) : 0 ≤ bits .and .i64 x 255 ∧ bits .and .i64 x 255 ≤ 255 := by
  show 0 ≤ IntKind.i64.wrap ((BitVec.ofInt 64 x &&& BitVec.ofInt 64 ((255 : Nat) : Int)).toNat : Int) ∧ IntKind.i64.wrap ((BitVec.ofInt 64 x &&& BitVec.ofInt 64 ((255 : Nat) : Int)).toNat : Int) ≤ 255
  rw [BitVec.toNat_and, ofInt_u64 255 (by omega)]
  have h := Nat.and_le_right (n := (BitVec.ofInt 64 x).toNat) (m := 255)
  rw [IntKind.wrap_i64]
  omega

theorem cell_of_heap {w : World} {g : Nat} {cs : Array Value} {t : TypeId} (h : w.heap[g]? = some (.cells cs t (0, 0))) (j : Nat) : w.cell? ⟨g, j, none⟩ = cs[j]? := cell_of_row w g j cs t (0, 0) h

theorem grown_set (w : World) (g j : Nat) (u : Value) : w.grownBy (w.setCell ⟨g, j, none⟩ u) (some g) :=
  ⟨rfl, rfl, rfl, by simp, fun k _ hk => heap_setCell_other w ⟨g, j, none⟩ k u (fun e => hk (by simp [e]))⟩
theorem grown_drewN {w w' : World} {r : Option Nat} (h : w.grownBy w' r) (n : Nat) : w.grownBy (w'.drewN n) r := ⟨h.os, h.tape, h.output, h.size, h.block⟩
def textList : List ByteArray := [⟨#[]⟩, ⟨#[97]⟩, ⟨#[98]⟩, ⟨#[97, 98]⟩, ⟨#[97, 45, 98]⟩, ⟨#[65, 98]⟩, ⟨#[120, 49]⟩, ⟨#[101, 108, 101, 118, 101, 110, 98, 121, 116, 101, 115]⟩, ⟨#[116, 101, 110, 45, 98, 121, 116, 101, 115, 49]⟩, ⟨#[97, 32, 98]⟩, ⟨#[9]⟩, ⟨#[127]⟩, ⟨#[49, 97]⟩, ⟨#[45, 97]⟩, ⟨#[122]⟩, ⟨#[104, 101, 108, 108, 111]⟩]
theorem textList_small : ∀ t ∈ textList, t.size ≤ 11 := by decide +kernel

theorem lit_strs (w : World) (xs : List ByteArray) : ∀ k (h : k < xs.length), (w.alloc (.cells (xs.map Value.string).toArray 9)).cell? ⟨w.heap.size, k, none⟩ = some (.string xs[k]) := by
  intro k h
  simp [h]
theorem lit_ints (w : World) (xs : List Int) : ∀ k, k < xs.length → (w.alloc (.cells (xs.map (Value.int .i64)).toArray 3)).cell? ⟨w.heap.size, k, none⟩ = some (.int .i64 (xs.getD k 0)) := by
  intro k h
  simp [h, List.getD_eq_getElem?_getD]

theorem grown_own {w w1 w2 : World} {o : Obj} {g : Nat} {r : Option Nat} (h1 : w.grownBy w1 (some g)) (h2 : (w1.alloc o).grownBy w2 r) (hr : ∀ k, r = some k → w.heap.size ≤ k) : w.grownBy w2 (some g) := by
  have ha := World.grownBy_alloc w1 o none
  refine ⟨h2.os.trans h1.os, h2.tape.trans h1.tape, h2.output.trans h1.output, Nat.le_trans h1.size (Nat.le_trans ha.size h2.size), fun k hk hne => ?_⟩
  rw [h2.block k (Nat.lt_of_lt_of_le (Nat.lt_of_lt_of_le hk h1.size) ha.size) (fun e => by have := hr k e.symm; omega)]
  rw [ha.block k (Nat.lt_of_lt_of_le hk h1.size) (by simp)]
  exact h1.block k hk hne
end Go.Proofs.Ytbolphjigjpmiab
