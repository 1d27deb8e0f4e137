/-
  What comes in as a range of the laws' own types: a list of lists of Cmps that lies in memory: no condition.
-/
import Derived.Test.YtdnpfkknnaepoaaOpenC
import Derived.Test.YtdnpfkknnaepoaaRgC
namespace Go.Proofs.Ytdnpfkknnaepoaa
open Go.ChangeShapes Go.WideShapes Go.ChangeAt Go.RowKit
set_option linter.unusedSimpArgs false
set_option linter.unusedVariables false

theorem vlist_of {α : Type} {P : Nat → α → Prop} : ∀ n, (∀ i, i < n → ∃ a, P i a) → ∃ l : List α, l.length = n ∧ ∀ i (h : i < l.length), P i l[i]
  | 0, _ => ⟨[], rfl, fun i h => by simp at h⟩
  | n + 1, h => by
    obtain ⟨l, hl, hp⟩ := vlist_of n (fun i hi => h i (by omega))
    obtain ⟨a, ha⟩ := h n (by omega)
    refine ⟨l ++ [a], by simp [hl], fun i hi => ?_⟩
    by_cases h1 : i < l.length
    · rw [List.getElem_append_left h1]; exact hp i h1
    · have : i = n := by simp at hi; omega
      subst this
      rw [List.getElem_append_right (by omega)]
      simpa using ha

set_option maxRecDepth 100000 in
theorem cmps_of_trod {H : Type} {enc : TypeId × Value → H} {w : World} {spare : Nat → Bool} {held : Bool} (fuel : Nat) (c : Value) (x : DataW H × List MemPlace)
    (h : DataW.trod enc Try.prog w 0 spare held fuel 82 [c] = some x) : ∃ ds, CmpsIn (· < w.heap.size) w c ds := by
  have h5 : Try.prog.cellsOf 44 = 5 := by kernel_rfl
  rcases DataW.trod_slice Try.underlying82 h with ⟨hcs, _⟩ | ⟨a, len, cap, elems, rest, n', hn', hcs, _, _, hl, hcm, hel, hat, _, _⟩
  · simp at hcs
    subst hcs
    exact ⟨[], none, 0, rfl, by simp, Nat.le_refl _, .inl rfl⟩
  · simp at hcs
    subst hcs
    rw [h5] at hat
    have heach : ∀ i, i < len → ∃ q : CmpD × Value, w.cell? ((a.add (i * 5)).add 0) = some (.int .i64 q.1.o) ∧ w.cell? ((a.add (i * 5)).add 1) = some (.int .i64 q.1.a) ∧ w.cell? ((a.add (i * 5)).add 2) = some (.int .i64 q.1.b) ∧ w.cell? ((a.add (i * 5)).add 3) = some (.int .i64 q.1.c) ∧ w.cell? ((a.add (i * 5)).add 4) = some q.2 ∧ Reads w q.2 (strsV q.1.ps) ∧ saneP q.1.ps := fun i hi => by
      have hb := hat i hi
      rw [List.getElem?_eq_getElem (by omega)] at hb
      obtain ⟨cs', hc1, hc2⟩ := Option.bind_eq_some_iff.1 hb
      obtain ⟨o, a', b, c', u, ps, rfl, hr, hs⟩ := cmp_of_trod _ cs' _ hc2
      obtain ⟨hb1, hl5, hcell⟩ := World.cells?_some hc1
      exact ⟨(⟨o, a', b, c', ps⟩, u), hcell 0 (by omega), hcell 1 (by omega), hcell 2 (by omega), hcell 3 (by omega), hcell 4 (by omega), hr, hs⟩
    obtain ⟨q, hq, hqp⟩ := vlist_of len heach
    refine ⟨q.map (·.1), some a, cap, by simp [hq], by simp [hq]; omega, by simp [hq]; omega, ?_⟩
    by_cases h0 : len = 0
    · left; simp; exact List.eq_nil_of_length_eq_zero (by omega)
    · right
      obtain ⟨b, off, spot⟩ := a
      have hc0 := (hqp 0 (by omega)).1
      have hspot : spot = none := by
        have := World.cell?_spot hc0
        simpa [Addr.add] using this
      subst hspot
      refine ⟨b, off, fun i => (q.getD i (⟨0, 0, 0, 0, []⟩, undef)).2, rfl, ?_, fun i hi => ?_⟩
      · rw [vaddr_add, vaddr_add] at hc0; exact World.block_lt_of_cell? w _ hc0
      · have hi' : i < q.length := by simpa using hi
        obtain ⟨k0, k1, k2, k3, k4, k5, k6⟩ := hqp i hi'
        rw [vaddr_add, vaddr_add] at k0 k1 k2 k3 k4
        have eu : (q.getD i (⟨0, 0, 0, 0, []⟩, undef)).2 = q[i].2 := by simp [List.getD_eq_getElem?_getD, hi']
        have ed : (q.map (·.1))[i] = q[i].1 := by simp
        show CmpAt _ w b (off + i * 5) ((q.getD i (⟨0, 0, 0, 0, []⟩, undef)).2) ((q.map (·.1))[i])
        rw [eu, ed]
        exact ⟨by simpa using k0, k1, k2, k3, k4, k5, k6⟩

set_option maxRecDepth 100000 in
theorem range_of_trod {H : Type} {enc : TypeId × Value → H} {w : World} {spare : Nat → Bool} {held : Bool} (fuel : Nat) (c : Value) (x : DataW H × List MemPlace)
    (h : DataW.trod enc Try.prog w 0 spare held fuel 54 [c] = some x) : ∃ dss, RangeIn (· < w.heap.size) w c dss := by
  have h1 : Try.prog.cellsOf 82 = 1 := by kernel_rfl
  rcases DataW.trod_slice Try.underlying54 h with ⟨hcs, _⟩ | ⟨a, len, cap, elems, rest, n', hn', hcs, _, _, hl, hcm, hel, hat, _, _⟩
  · simp at hcs
    subst hcs
    exact ⟨[], none, 0, rfl, by simp, Nat.le_refl _, .inl rfl⟩
  · simp at hcs
    subst hcs
    rw [h1] at hat
    have heach : ∀ i, i < len → ∃ q : List CmpD × Value, w.cell? ((a.add (i * 1)).add 0) = some q.2 ∧ CmpsIn (· < w.heap.size) w q.2 q.1 := fun i hi => by
      have hb := hat i hi
      rw [List.getElem?_eq_getElem (by omega)] at hb
      obtain ⟨cs', hc1, hc2⟩ := Option.bind_eq_some_iff.1 hb
      obtain ⟨hb1, hl1, hcell⟩ := World.cells?_some hc1
      obtain ⟨d, rfl⟩ := List.length_eq_one_iff.1 hl1
      obtain ⟨ds, hds⟩ := cmps_of_trod _ d _ hc2
      exact ⟨(ds, d), hcell 0 (by omega), hds⟩
    obtain ⟨q, hq, hqp⟩ := vlist_of len heach
    refine ⟨q.map (·.1), some a, cap, by simp [hq], by simp [hq]; omega, by simp [hq]; omega, ?_⟩
    by_cases h0 : len = 0
    · left; simp; exact List.eq_nil_of_length_eq_zero (by omega)
    · right
      obtain ⟨b, off, spot⟩ := a
      have hc0 := (hqp 0 (by omega)).1
      have hspot : spot = none := by
        have := World.cell?_spot hc0
        simpa [Addr.add] using this
      subst hspot
      refine ⟨b, off, fun i => (q.getD i ([], undef)).2, rfl, ?_, fun i hi => ?_⟩
      · rw [vaddr_add, vaddr_add] at hc0; exact World.block_lt_of_cell? w _ hc0
      · have hi' : i < q.length := by simpa using hi
        obtain ⟨k0, k5⟩ := hqp i hi'
        rw [vaddr_add, vaddr_add] at k0
        have eu : (q.getD i ([], undef)).2 = q[i].2 := by simp [List.getD_eq_getElem?_getD, hi']
        have ed : (q.map (·.1))[i] = q[i].1 := by simp
        show w.cell? ⟨b, off + i, none⟩ = some ((q.getD i ([], undef)).2) ∧ CmpsIn _ w ((q.getD i ([], undef)).2) ((q.map (·.1))[i])
        rw [eu, ed]
        exact ⟨by simpa using k0, k5⟩
end Go.Proofs.Ytdnpfkknnaepoaa
