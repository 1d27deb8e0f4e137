/-
  Two lists of files as the law draws them: a contract for the walks; condition: the code is of at most 2 to the 20 bytes.
-/
import Derived.Test.YtbkmjbjiagkjmaaFiS
namespace Go.Proofs.Ytbkmjbjiagkjmaa
open Go.RowKit Go.Maps
set_option linter.unusedSimpArgs false
set_option linter.unusedVariables false

def twoF (B : List FileD) : Prop := difF B ∧ (∀ f ∈ B, f.p.size ≤ 70 ∧ f.t.size ≤ 71) ∧ B.length ≤ 33
theorem twoF_any {L : List FileD} (h : anyF L) : twoF L := ⟨anyF_dif h, fun f hf => by have := (anyF_small h).1 f hf; exact ⟨this.1, by have := this.2; omega⟩, (anyF_small h).2⟩
theorem twoF_drawn {L : List FileD} (h : drawnF 8 L) : twoF L := ⟨filesB_dif h.1, fun f hf => by have := (h.2.1 f hf).1; exact ⟨this.1, by have := this.2; omega⟩, by have := h.2.2; omega⟩
theorem twoF_bang {L : List FileD} (h : anyF L) : twoF (bangF L) := by
  obtain ⟨h1, h2⟩ := anyF_small h
  refine ⟨bangF_dif (anyF_dif h), ?_, ?_⟩
  · cases L with
    | nil => intro f hf; simp [bangF] at hf
    | cons a L =>
      intro f hf
      simp only [bangF, List.mem_cons] at hf
      rcases hf with rfl | hf
      · have := h1 a List.mem_cons_self
        exact ⟨this.1, by show (a.t ++ ⟨#[33]⟩).size ≤ 71; rw [ByteArray.size_append]; have := this.2; have e : (⟨#[33]⟩ : ByteArray).size = 1 := rfl; omega⟩
      · have := h1 f (List.mem_cons_of_mem _ hf)
        exact ⟨this.1, by have := this.2; omega⟩
  · cases L with
    | nil => simp [bangF]
    | cons a L => simpa [bangF] using h2
theorem cells_bang (a : FileD) (L : List FileD) : (cellsF (a :: L)).set 1 (.string (a.t ++ ⟨#[33]⟩)) = cellsF (bangF (a :: L)) := by simp [cellsF, bangF]

set_option maxHeartbeats 4000000 in
set_option maxRecDepth 100000 in
theorem drawDiffFiles_c (v : Value) (zs : List Int) (w : World) (hr : Reads w v (bytesV zs)) (hn : zs.length ≤ 1048576) (hz : ∀ z ∈ zs, 0 ≤ z ∧ z ≤ 255) :
    Calls Try.prog 26 #[v] w fun e w' => ∃ (x y : Value) (A B : List FileD), e = .returned (.tuple #[x, y]) ∧ w'.ownsRow w.heap.size 26 2 x A.length (cellsF A) ∧ twoF A ∧ w'.ownsRow w.heap.size 26 2 y B.length (cellsF B) ∧ twoF B ∧ Below w.heap.size w w' := by
  obtain ⟨i0, hi, hz0, hz1, hz2⟩ := info_parts infoFile
  go_enter Try.func26, Try.ntmps26
  go_wp2_with fail
  go_at_call 55
  refine (new_c _ zs _ hr hn hz).mono ?_
  rintro e w1 ⟨g, rfl, hc1, hb1⟩
  have hgl := cur_lt hc1
  have hz1w := hb1.size
  go_wp2_with fail
  go_at_call 56
  refine (any5_c _ g zs _ hc1 hb1.size).mono ?_
  rintro e w2 ⟨xa, A, rfl, o2, hA, hc2, hg2⟩
  have hz2w := hg2.size
  go_wp2_with fail
  go_at_call 70
  refine (draw5_c _ g zs _ hc2 (Nat.le_trans hz1w hz2w)).mono ?_
  rintro e w3 ⟨xb, D, rfl, p3, hD, hc3, hg3⟩
  have hz3w := hg3.size
  have o3 := o2.kept hg3 (.inr (fun e => by have := (o2.lt g e).1; omega))
  go_wp2_with fail
  go_at_call 71
  refine (once_c _ g zs _ _ hc3).mono ?_
  rintro e w4 ⟨o, rfl, hc4, hg4⟩
  have hz4w := hg4.size
  have o4 := o3.kept hg4 (.inr (fun e => by have := (o3.lt g e).1; omega))
  have p4 := p3.kept hg4 (.inr (fun e => by have := (p3.lt g e).1; omega))
  have G4 := grown_trans hg2 (grown_trans hg3 hg4)
  have hAl := (anyF_small hA).2
  clear o2 o3 p3 hg2 hg3 hg4 hc2 hc3
  cases o with
  | false =>
    go_wp2_with fail
    go_ret2
    exact ⟨_, _, A, D, rfl, owns_lower2 o4 hz1w, twoF_any hA, owns_lower2 p4 (Nat.le_trans hz1w hz2w), twoF_drawn hD, below_curR hb1 hc1 hb1.size G4⟩
  | true =>
    have hSn : ∀ f ∈ A, saneF f := fun f hf => smallF_sane ((anyF_small hA).1 f hf)
    have FA := filesIn_owns (o4.alloc (.cells #[] 26)) hSn
    have LIT : (w4.alloc (.cells #[] 26)).ownsRow w4.heap.size 26 2 (.slice (some ⟨w4.heap.size, 0, none⟩) 0 0) 0 [] := World.ownsRow_lit w4 #[] 0 (Nat.le_refl _) (by unfold maxLen; omega) rfl
    have G4a := grown_trans G4 (World.grownBy_alloc w4 (.cells #[] 26) (some g))
    have oa := o4.alloc (.cells #[] 26)
    clear p4 hD
    rcases id o4.2 with ⟨hxa, hA0⟩ | ⟨ga, ca, cur, hxa, hlo, hga, _⟩
    · subst hxa
      have hA' : A = [] := List.eq_nil_of_length_eq_zero hA0
      subst hA'
      go_wp2_with (at_builtin; refine wpList_append_own_none rfl _ _ 24 rfl w4.heap.size 26 i0 2 Try.underlying24 hi (.slice (some ⟨w4.heap.size, 0, none⟩) 0 0) 0 [] rfl LIT rfl ?_)
      go_ret2
      exact ⟨_, _, [], [], rfl, owns_lower2 oa hz1w, twoF_any hA, owns_lower2 LIT (by omega), twoF_any hA, below_curR hb1 hc1 hb1.size G4a⟩
    · subst hxa
      have hgal : ga < w4.heap.size := (Array.getElem?_eq_some_iff.1 hga).1
      go_wp2_with (at_builtin; refine wpList_append_own _ rfl _ _ 24 rfl w4.heap.size 26 i0 (.agg #[.string ⟨#[]⟩, .string ⟨#[]⟩]) 2 32 Try.underlying24 hi hz0 hz1 hz2 rfl (by decide) (.slice (some ⟨w4.heap.size, 0, none⟩) 0 0) 0 [] rfl LIT ⟨ga, 0, none⟩ A.length ca (cellsF A) rfl (cellsF_length A) (filesIn_src FA) (cellsF_one A) (by unfold maxLen; omega) (by omega) (by simp) ?_)
      intro v5 w5 o5 gr5 _
      have oa5 := oa.kept gr5 (.inr (by simp [Value.ownBlock]; omega))
      have G5 := grown_ownR G4a gr5 (fun j hj => by cases hj; have := G4.size; omega)
      clear gr5 oa FA LIT o4 hga G4a
      cases A with
      | nil =>
        obtain ⟨q5, c5, hv5⟩ : ∃ q c, v5 = .slice q 0 c := by rcases o5.2 with ⟨rfl, _⟩ | ⟨g, c, cur, rfl, _⟩ <;> exact ⟨_, _, rfl⟩
        subst hv5
        go_wp2_with fail
        go_ret2
        exact ⟨_, _, [], [], rfl, owns_lower2 oa5 hz1w, twoF_any hA, owns_lower2 o5 (by omega), twoF_any hA, below_curR hb1 hc1 hb1.size G5⟩
      | cons a L =>
        obtain ⟨n, hnL⟩ : ∃ n, n = (a :: L).length := ⟨_, rfl⟩
        rw [← hnL] at o5 oa5 hAl
        have hn0 : 0 < n := by rw [hnL]; simp
        obtain ⟨g5, c5, hv5, hg5⟩ : ∃ q c, v5 = .slice (some ⟨q, 0, none⟩) n c ∧ w4.heap.size ≤ q := by
          rcases o5.2 with ⟨_, h0⟩ | ⟨g, c, cur, h, hlo, _⟩
          · omega
          · exact ⟨g, c, h, hlo⟩
        subst hv5
        have hcy : w5.cell? ⟨g5, 1, none⟩ = some (.string a.t) := (o5.cellAt 1 (by omega)).trans (by simp [cellsF])
        have hfr := o5.frozenAt 1
        have hsz : a.t.size ≤ 70 := ((anyF_small hA).1 a List.mem_cons_self).2
        have hx1 : (⟨#[33]⟩ : ByteArray).size = 1 := rfl
        have hni : (0 : Int) < (n : Int) := by omega
        have HN : Hid (n = (a :: L).length) := hnL
        simp only [← hnL]
        clear hnL
        go_wp2_with fail
        go_ret2
        have o6 := (o5.stored 1 (.string (a.t ++ ⟨#[33]⟩))).1
        have g6 := (o5.stored 1 (.string (a.t ++ ⟨#[33]⟩))).2
        rw [cells_bang] at o6
        have oa6 := oa5.kept g6 (.inr (by simp [Value.ownBlock]; omega))
        refine ⟨_, _, a :: L, bangF (a :: L), rfl, ?_, twoF_any hA, ?_, twoF_bang hA, below_curR hb1 hc1 hb1.size (grown_ownR G5 g6 (fun j hj => by cases hj; have := G4.size; omega))⟩
        · rw [← HN.out]; exact owns_lower2 oa6 hz1w
        · rw [show (bangF (a :: L)).length = n from by rw [HN.out]; simp [bangF]]; exact owns_lower2 o6 (by omega)
end Go.Proofs.Ytbkmjbjiagkjmaa
