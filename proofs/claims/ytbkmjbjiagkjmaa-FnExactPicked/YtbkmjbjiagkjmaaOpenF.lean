/-
  What comes in as a list of files of the laws' own type: a list of files that lies in memory: no condition.
-/
import Derived.Test.YtbkmjbjiagkjmaaFiA
import Derived.OpenShut
import Derived.ShutString
import Derived.SliceStrings
import Derived.ChangeOld
namespace Go.Proofs.Ytbkmjbjiagkjmaa
open Go.ChangeShapes Go.WideShapes Go.RowKit
set_option linter.unusedSimpArgs false
set_option linter.unusedVariables false

theorem faddr_add (b off i : Nat) : ((⟨b, off, none⟩ : Addr).add i) = ⟨b, off + i, none⟩ := by unfold Addr.add; split <;> simp_all
theorem flist2 {cs : List Value} (h : cs.length = 2) : ∃ c0 c1, cs = [c0, c1] := by
  match cs, h with
  | [c0, c1], _ => exact ⟨c0, c1, rfl⟩
theorem flist_of {α : Type} {P : Nat → α → Prop} : ∀ n, (∀ i, i < n → ∃ a, P i a) → ∃ l : List α, l.length = n ∧ ∀ i (h : i < l.length), P i l[i]
  | 0, _ => ⟨[], rfl, fun i h => by simp at h⟩
  | n + 1, h => by
    obtain ⟨l, hl, hp⟩ := flist_of n (fun i hi => h i (by omega))
    obtain ⟨a, ha⟩ := h n (by omega)
    refine ⟨l ++ [a], by simp [hl], fun i hi => ?_⟩
    by_cases h1 : i < l.length
    · rw [List.getElem_append_left h1]; exact hp i h1
    · have : i = n := by simp at hi; omega
      subst this
      rw [List.getElem_append_right (by omega)]
      simpa using ha

set_option maxRecDepth 100000 in
theorem file_of_trod {H : Type} {enc : TypeId × Value → H} {w : World} {spare : Nat → Bool} {held : Bool} (fuel : Nat) (cs : List Value) (x : DataW H × List MemPlace)
    (h : DataW.trod enc Try.prog w 0 spare held fuel 109 cs = some x) : ∃ f : FileD, cs = [.string f.p, .string f.t] ∧ saneF f := by
  obtain ⟨xs, n, rfl, _, hlen, hxl, hf⟩ := DataW.trod_struct Try.underlying109 h
  have h2 : Try.prog.cellsOf 109 = 2 := by kernel_rfl
  obtain ⟨c0, c1, rfl⟩ := flist2 (hlen.trans h2)
  have hx : ∀ i, i < 2 → ∃ y, xs[i]? = some y := fun i hi => ⟨xs[i]'(by rw [hxl]; exact hi), by rw [List.getElem?_eq_getElem]⟩
  obtain ⟨y0, e0⟩ := hx 0 (by omega)
  obtain ⟨y1, e1⟩ := hx 1 (by omega)
  have k3 : Try.prog.cellsOf 9 = 1 := by kernel_rfl
  have f0 : DataW.trod enc Try.prog w 0 spare held n 9 [c0] = some y0 := by
    have h : DataW.trod enc Try.prog w 0 spare held n 9 ((([c0, c1] : List Value).drop 0).take (Try.prog.cellsOf 9)) = some y0 := (hf 0 _ rfl).trans e0
    rw [k3] at h; exact h
  have f1 : DataW.trod enc Try.prog w 0 spare held n 9 [c1] = some y1 := by
    have h : DataW.trod enc Try.prog w 0 spare held n 9 ((([c0, c1] : List Value).drop 1).take (Try.prog.cellsOf 9)) = some y1 := (hf 1 _ rfl).trans e1
    rw [k3] at h; exact h
  obtain ⟨p, hp, _, hpl⟩ := DataW.trod_string Try.underlying9 f0
  obtain ⟨t, ht, _, htl⟩ := DataW.trod_string Try.underlying9 f1
  simp at hp ht
  subst hp ht
  exact ⟨⟨p, t⟩, rfl, hpl, htl⟩

set_option maxRecDepth 100000 in
theorem files_of_trod {H : Type} {enc : TypeId × Value → H} {w : World} {spare : Nat → Bool} {held : Bool} (fuel : Nat) (c : Value) (x : DataW H × List MemPlace)
    (h : DataW.trod enc Try.prog w 0 spare held fuel 63 [c] = some x) : ∃ fs, FilesIn (· < w.heap.size) w c fs := by
  have h2 : Try.prog.cellsOf 109 = 2 := by kernel_rfl
  rcases DataW.trod_slice Try.underlying63 h with ⟨hcs, _⟩ | ⟨a, len, cap, elems, rest, n', hn', hcs, _, _, hl, hcm, hel, hat, _, _⟩
  · simp at hcs
    subst hcs
    exact ⟨[], none, 0, rfl, by simp, Nat.le_refl _, by simp, .inl rfl⟩
  · simp at hcs
    subst hcs
    rw [h2] at hat
    have heach : ∀ i, i < len → ∃ f : FileD, w.cell? ((a.add (i * 2)).add 0) = some (.string f.p) ∧ w.cell? ((a.add (i * 2)).add 1) = some (.string f.t) ∧ saneF f := fun i hi => by
      have hb := hat i hi
      rw [List.getElem?_eq_getElem (by omega)] at hb
      obtain ⟨cs', hc1, hc2⟩ := Option.bind_eq_some_iff.1 hb
      obtain ⟨f, rfl, hs⟩ := file_of_trod _ cs' _ hc2
      obtain ⟨hb1, hl5, hcell⟩ := World.cells?_some hc1
      exact ⟨f, hcell 0 (by omega), hcell 1 (by omega), hs⟩
    obtain ⟨q, hq, hqp⟩ := flist_of len heach
    refine ⟨q, some a, cap, by rw [hq], by rw [hq]; omega, by rw [hq]; omega, fun f hf => ?_, ?_⟩
    · obtain ⟨i, hi, rfl⟩ := List.mem_iff_getElem.1 hf
      exact (hqp i hi).2.2
    by_cases h0 : len = 0
    · left; exact List.eq_nil_of_length_eq_zero (by omega)
    · right
      obtain ⟨b, off, spot⟩ := a
      have hc0 := (hqp 0 (by omega)).1
      have hspot : spot = none := by
        have := World.cell?_spot hc0
        simpa [Addr.add] using this
      subst hspot
      refine ⟨b, off, rfl, ?_, fun i hi => ?_⟩
      · rw [faddr_add, faddr_add] at hc0; exact World.block_lt_of_cell? w _ hc0
      · obtain ⟨k0, k1, _⟩ := hqp i hi
        rw [faddr_add, faddr_add] at k0 k1
        exact ⟨by simpa using k0, k1⟩
end Go.Proofs.Ytbkmjbjiagkjmaa
