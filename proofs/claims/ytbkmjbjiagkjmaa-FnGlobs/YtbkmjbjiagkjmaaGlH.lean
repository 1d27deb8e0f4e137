/-
  Signs put one behind the other in memory of the call's own, beside the set that is being read: facts for the walks; no condition.
-/
import Derived.Test.YtbkmjbjiagkjmaaGlF
namespace Go.Proofs.Ytbkmjbjiagkjmaa
open Go.RowKit
set_option linter.unusedSimpArgs false
set_option linter.unusedVariables false

theorem infoSgn : (Try.prog.info? 136).map (fun i => (i.zero, i.size, i.bytes)) = some (some (.agg #[.bool false, .bool false, .string ⟨#[]⟩]), 3, 24) := by kernel_rfl

def cellsS (gs : List Sgn) : List Value := gs.flatMap fun g => [.bool g.many, .bool g.nt, .string ⟨g.set.toArray⟩]
theorem cellsS_length (gs : List Sgn) : (cellsS gs).length = gs.length * 3 := by
  induction gs with
  | nil => rfl
  | cons f fs ih => simp only [cellsS, List.flatMap_cons, List.length_append, List.length_cons, List.length_nil] at ih ⊢; omega
theorem cellsS_append (a b : List Sgn) : cellsS (a ++ b) = cellsS a ++ cellsS b := by simp [cellsS]
theorem cellsS_at (gs : List Sgn) : ∀ (k : Nat) (h : k < gs.length), (cellsS gs)[k * 3]? = some (.bool gs[k].many) ∧ (cellsS gs)[k * 3 + 1]? = some (.bool gs[k].nt) ∧ (cellsS gs)[k * 3 + 2]? = some (.string ⟨gs[k].set.toArray⟩) := by
  induction gs with
  | nil => intro k h; simp at h
  | cons f fs ih =>
    intro k h
    have e : cellsS (f :: fs) = [.bool f.many, .bool f.nt, .string ⟨f.set.toArray⟩] ++ cellsS fs := by simp [cellsS]
    cases k with
    | zero => rw [e]; simp
    | succ k =>
      have := ih k (by simpa using h)
      rw [e, List.getElem?_append_right (by simp; omega), List.getElem?_append_right (by simp; omega), List.getElem?_append_right (by simp; omega)]
      simp only [List.length_cons, List.length_nil, List.getElem_cons_succ]
      rw [show (k + 1) * 3 - (0 + 1 + 1 + 1) = k * 3 by omega, show (k + 1) * 3 + 1 - (0 + 1 + 1 + 1) = k * 3 + 1 by omega, show (k + 1) * 3 + 2 - (0 + 1 + 1 + 1) = k * 3 + 2 by omega]
      exact this
theorem sgnsIn_owns {w : World} {lo n : Nat} {e : TypeId} {v : Value} {gs : List Sgn} (hg : w.ownsRow lo e 3 v n (cellsS gs)) (h12 : gs.length ≤ 12) : SgnsIn (Ow lo w.heap.size) w v gs := by
  have hlen := hg.1
  rw [cellsS_length] at hlen
  have hn : n = gs.length := by omega
  subst hn
  rcases hg.2 with ⟨rfl, h0⟩ | ⟨g, cap, cur, rfl, hlo, hg', hcap, hmax, _⟩
  · exact ⟨_, _, by rw [h0], h12, by omega, .inl (List.eq_nil_of_length_eq_zero h0)⟩
  · have hgl := (Array.getElem?_eq_some_iff.1 hg').1
    refine ⟨_, _, rfl, h12, hcap, .inr ⟨g, 0, rfl, ⟨hlo, hgl⟩, fun k hk => ?_⟩⟩
    obtain ⟨h1, h2, h3⟩ := cellsS_at gs k hk
    rw [Nat.zero_add]
    exact ⟨(hg.cellAt _ (by omega)).trans h1, (hg.cellAt _ (by omega)).trans h2, (hg.cellAt _ (by omega)).trans h3⟩

theorem cell_three_c (w : World) (v u x : Value) (t : TypeId) : ∀ j y, ([v, u, x] : List Value)[j]? = some y → (w.alloc (.cells #[v, u, x] t)).cell? ((⟨w.heap.size, 0, none⟩ : Addr).add j) = some y := fun j y hj => by
  have h2 : j < 3 := by have := (List.getElem?_eq_some_iff.1 hj).1; simpa using this
  have e : ((⟨w.heap.size, 0, none⟩ : Addr).add j) = ⟨w.heap.size, j, none⟩ := by unfold Addr.add; split <;> simp_all
  rw [e, vblk_cell (vheap_new _ _) j]
  match j, h2 with
  | 0, _ => simpa using hj
  | 1, _ => simpa using hj
  | 2, _ => simpa using hj

/-- The set that is being read, and the signs so far: each in a block of the call's own. -/
def MemR (w wr : World) (v : Value) (xs : List Sgn) (nt : Bool) (x : ByteArray) : Prop :=
  wr.heap[w.heap.size]? = some (.cells #[.bool false, .bool nt, .string x] 136 (0, 0)) ∧ wr.ownsRow (w.heap.size + 1) 136 3 v xs.length (cellsS xs) ∧ Below w.heap.size w wr
theorem MemR.start (w : World) : MemR w (w.alloc (.cells #[.bool false, .bool false, .string ⟨#[]⟩] 136)) (.slice none 0 0) [] false ⟨#[]⟩ :=
  ⟨vheap_new _ _, World.ownsRow_nil _ _ _ _, (Below.refl _ _).alloc (Nat.le_refl _) _⟩
theorem MemR.lt {w wr : World} {v : Value} {xs : List Sgn} {nt : Bool} {x : ByteArray} (h : MemR w wr v xs nt x) : w.heap.size < wr.heap.size := (Array.getElem?_eq_some_iff.1 h.1).1
theorem MemR.slice {w wr : World} {v : Value} {xs : List Sgn} {nt : Bool} {x : ByteArray} (h : MemR w wr v xs nt x) : ∃ q c, v = .slice q xs.length c := by
  rcases h.2.1.2 with ⟨h1, h2⟩ | ⟨g, c, cur, rfl, _⟩
  · exact ⟨none, 0, by rw [h1, h2]⟩
  · exact ⟨_, _, rfl⟩
theorem MemR.grown {w wr w3 : World} {v v3 : Value} {xs ys : List Sgn} {nt : Bool} {x : ByteArray} {o : Obj} (h : MemR w wr v xs nt x) (gr : (wr.alloc o).grownBy w3 v.ownBlock) (o3 : w3.ownsRow (w.heap.size + 1) 136 3 v3 ys.length (cellsS ys)) : MemR w w3 v3 ys nt x := by
  have hlt := h.lt
  have hz := h.2.2.size
  refine ⟨?_, o3, Below.grown (h.2.2.alloc hz _) gr (by simp; omega) (fun j hj => by have := (h.2.1.lt _ hj).1; omega)⟩
  rw [gr.block _ (by simp; omega) (fun e => by have := (h.2.1.lt _ e.symm).1; omega), vheap_old _ _ hlt]
  exact h.1
theorem MemR.cells {w wr : World} {v : Value} {xs : List Sgn} {nt : Bool} {x : ByteArray} (h : MemR w wr v xs nt x) :
    wr.cell? ⟨w.heap.size, 0, none⟩ = some (.bool false) ∧ wr.cell? ⟨w.heap.size, 1, none⟩ = some (.bool nt) ∧ wr.cell? ⟨w.heap.size, 2, none⟩ = some (.string x) ∧ ∀ j, wr.frozen? ⟨w.heap.size, j, none⟩ = false :=
  ⟨by rw [vblk_cell h.1]; rfl, by rw [vblk_cell h.1]; rfl, by rw [vblk_cell h.1]; rfl, vblk_frozen h.1⟩
theorem MemR.keepRow {w wr : World} {v : Value} {xs : List Sgn} {nt : Bool} {x : ByteArray} (h : MemR w wr v xs nt x) (j : Nat) (y : Value) :
    (wr.setCell ⟨w.heap.size, j, none⟩ y).ownsRow (w.heap.size + 1) 136 3 v xs.length (cellsS xs) ∧ Below w.heap.size w (wr.setCell ⟨w.heap.size, j, none⟩ y) := by
  refine ⟨?_, h.2.2.setCell (Nat.le_refl _) _⟩
  have hr := h.2.1
  refine ⟨hr.1, ?_⟩
  rcases hr.2 with hn | ⟨g, cap, cur, rfl, hb, hgg, rest⟩
  · exact .inl hn
  · refine .inr ⟨g, cap, cur, rfl, hb, ?_, rest⟩
    rw [Below.heap_setCell _ _ _ _ (by show g ≠ w.heap.size; omega)]
    exact hgg
theorem MemR.setNot {w wr : World} {v : Value} {xs : List Sgn} {nt : Bool} {x : ByteArray} (h : MemR w wr v xs nt x) (n2 : Bool) : MemR w (wr.setCell ⟨w.heap.size, 1, none⟩ (.bool n2)) v xs n2 x := by
  obtain ⟨h1, h2⟩ := h.keepRow 1 (.bool n2)
  refine ⟨?_, h1, h2⟩
  rw [setCell_eq_setRow wr w.heap.size _ _ _ (0, 0) _ h.1, setRow_heap wr w.heap.size _ _ _ _ h.1]
  rfl
theorem MemR.setSet {w wr : World} {v : Value} {xs : List Sgn} {nt : Bool} {x : ByteArray} (h : MemR w wr v xs nt x) (y : ByteArray) : MemR w (wr.setCell ⟨w.heap.size, 2, none⟩ (.string y)) v xs nt y := by
  obtain ⟨h1, h2⟩ := h.keepRow 2 (.string y)
  refine ⟨?_, h1, h2⟩
  rw [setCell_eq_setRow wr w.heap.size _ _ _ (0, 0) _ h.1, setRow_heap wr w.heap.size _ _ _ _ h.1]
  rfl

theorem extract_one (s : ByteArray) (i : Nat) (h : i < s.size) : s.extract i (i + 1) = ⟨[s[i]].toArray⟩ := by
  apply ext_list
  rw [extract_list, drop_cons s i h]
  simp
theorem extract_run (s : ByteArray) (i j : Nat) : s.extract i j = ⟨((s.data.toList.drop i).take (j - i)).toArray⟩ := by
  apply ext_list
  rw [extract_list]
end Go.Proofs.Ytbkmjbjiagkjmaa
