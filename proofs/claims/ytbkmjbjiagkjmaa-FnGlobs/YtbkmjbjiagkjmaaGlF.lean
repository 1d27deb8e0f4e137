/-
  Pieces that lie in memory, and what one piece answers of a name (the program's): contracts for the walks; conditions as each says.
-/
import Derived.Test.YtbkmjbjiagkjmaaGlE
import Derived.Laws.IdiomStrings
namespace Go.Proofs.Ytbkmjbjiagkjmaa
open Go.RowKit
set_option linter.unusedSimpArgs false
set_option linter.unusedVariables false

def intsOf (y : ByteArray) : List Int := y.data.toList.map fun u => (u.toNat : Int)
theorem intsOf_len (y : ByteArray) : (intsOf y).length = y.size := by unfold intsOf; rw [List.length_map, len_list]
theorem intsOf_in (y : ByteArray) : ∀ c ∈ intsOf y, 0 ≤ c ∧ c ≤ 255 := fun c h => by
  obtain ⟨u, _, rfl⟩ := List.mem_map.1 h
  exact ⟨byte0 u, byte255 u⟩
def manyT (x : ByteArray) : Bool := x.toList == [42, 42]
def takesT (x y : ByteArray) : Bool := fullG Sgn.many takesS (sgnsOf x) (intsOf y)

/-- The two cells from place j on in block b are the piece that is read off x. -/
def PceAt (S : Nat → Prop) (w : World) (b j : Nat) (x : ByteArray) : Prop := w.cell? ⟨b, j, none⟩ = some (.bool (manyT x)) ∧ ∃ v, w.cell? ⟨b, j + 1, none⟩ = some v ∧ SgnsIn S w v (sgnsOf x)
/-- The list of pieces v is what is read off xs. -/
def PcsIn (S : Nat → Prop) (w : World) (v : Value) (xs : List ByteArray) : Prop :=
  ∃ q cap, v = .slice q xs.length cap ∧ xs.length ≤ 4 ∧ xs.length ≤ cap ∧ (xs = [] ∨ ∃ (b off : Nat), q = some ⟨b, off, none⟩ ∧ S b ∧ ∀ k (h : k < xs.length), PceAt S w b (off + k * 2) xs[k])

theorem pceMany_c (m : Bool) (v : Value) (w : World) :
    Calls Try.prog 163 #[.agg #[.bool m, v]] w fun e w' => e = .returned (.bool m) ∧ Below w.heap.size w w' := by
  have hbx : ∀ o, Below w.heap.size w (w.alloc o) := fun o => (Below.refl _ _).alloc (Nat.le_refl _) _
  go_enter Try.func163, Try.ntmps163
  go_wp2_with fail
  go_ret
  exact ⟨rfl, hbx _⟩

theorem bytes_new (w : World) (y : ByteArray) (C : Nat) (t : TypeId) (z : Nat × Nat) (hC : y.size ≤ C) :
    Reads (w.alloc (.cells (bytesRow y C) t z)) (.slice (some ⟨w.heap.size, 0, none⟩) y.size C) (bytesV (intsOf y)) := by
  refine ⟨some ⟨w.heap.size, 0, none⟩, C, by rw [length_bytesV, intsOf_len], by rw [length_bytesV, intsOf_len]; exact hC, .inr ⟨w.heap.size, 0, rfl, by simp, fun k hk => ?_⟩⟩
  rw [length_bytesV, intsOf_len] at hk
  have hh : (w.alloc (.cells (bytesRow y C) t z)).heap[w.heap.size]? = some (.cells (bytesRow y C) t z) := vheap_new _ _
  rw [Nat.zero_add, cell_of_row _ _ k _ _ _ hh]
  unfold bytesRow
  have h1 : k < y.data.size := hk
  rw [Array.getElem?_append_left (by simpa using h1)]
  simp only [bytesV, intsOf, List.getElem_map, Array.getElem?_map, Array.getElem?_eq_getElem h1, Option.map_some, Array.getElem_toList]

set_option maxHeartbeats 1000000 in
set_option maxRecDepth 100000 in
theorem pceTakes_c (S : Nat → Prop) (m : Bool) (v : Value) (gs : List Sgn) (y : ByteArray) (w : World) (hv : SgnsIn S w v gs) (hB : ∀ b, S b → b < w.heap.size) (hy : y.size ≤ 1048576) :
    Calls Try.prog 162 #[.agg #[.bool m, v], .string y] w fun e w' => e = .returned (.bool (fullG Sgn.many takesS gs (intsOf y))) ∧ Below w.heap.size w w' := by
  have hconv := run_bytes_of_string (w.alloc (.cells #[.bool m, v] 99)) 9 22 5 y Try.underlying9 Try.underlying22 Try.underlying5
  obtain ⟨C, hC⟩ : ∃ C, C = grownCap (w.alloc (.cells #[.bool m, v] 99)) y.size 0 5 := ⟨_, rfl⟩
  have hCy : y.size ≤ C := by rw [hC]; exact grownCap_ge _ _ _ _
  rw [← hC] at hconv
  have hb1 : Below w.heap.size w (w.alloc (.cells #[.bool m, v] 99)) := (Below.refl _ _).alloc (Nat.le_refl _) _
  have hr : Reads ((w.alloc (.cells #[.bool m, v] 99)).drew.alloc (.cells (bytesRow y C) 5 ((bytesRow y C).size, (bytesRow y C).size + 1))) (.slice (some ⟨(w.alloc (.cells #[.bool m, v] 99)).heap.size, 0, none⟩) y.size C) (bytesV (intsOf y)) := bytes_new (w.alloc (.cells #[.bool m, v] 99)).drew y C 5 ((bytesRow y C).size, (bytesRow y C).size + 1) hCy
  obtain ⟨u, hu⟩ : ∃ u, u = Value.slice (some ⟨(w.alloc (.cells #[.bool m, v] 99)).heap.size, 0, none⟩) y.size C := ⟨_, rfl⟩
  rw [← hu] at hconv hr
  have hb2 : Below w.heap.size w ((w.alloc (.cells #[.bool m, v] 99)).drew.alloc (.cells (bytesRow y C) 5 ((bytesRow y C).size, (bytesRow y C).size + 1))) := hb1.drew.alloc hb1.size _
  obtain ⟨W, hW⟩ : ∃ W, W = (w.alloc (.cells #[.bool m, v] 99)).drew.alloc (.cells (bytesRow y C) 5 ((bytesRow y C).size, (bytesRow y C).size + 1)) := ⟨_, rfl⟩
  rw [← hW] at hconv hb2 hr
  have hgo := goSigns_c S v u gs (intsOf y) W (hv.keep (.of hb2 hB)) (fun b h => Nat.lt_of_lt_of_le (hB b h) hb2.size) hr (intsOf_in y) (by rw [intsOf_len]; exact hy)
  clear hW hC hr hv hb1 hu
  go_enter Try.func162, Try.ntmps162
  go_wp2_with (go_at_call 164; refine hgo.mono ?_; rintro e w2 ⟨rfl, b2⟩)
  go_ret
  exact ⟨rfl, hb2.trans (b2.mono hb2.size)⟩
end Go.Proofs.Ytbkmjbjiagkjmaa
