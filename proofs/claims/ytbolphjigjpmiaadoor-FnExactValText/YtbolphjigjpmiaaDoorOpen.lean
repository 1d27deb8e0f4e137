/-
  What comes in as a value of the laws' own type is a tree that lies in memory: no condition.
-/
import Derived.Test.YtbolphjigjpmiaaDoorTree
import Derived.SliceStrings
import Derived.ChangeArms
import Derived.ChangeOld
import Derived.ChangeAt
namespace Go.Proofs.YtbolphjigjpmiaaDoor
open Go.ChangeShapes Go.WideShapes Go.ChangeAt Go.RowKit
set_option linter.unusedSimpArgs false
set_option linter.unusedVariables false

theorem list_of {α : Type} {P : Nat → α → Prop} : ∀ n, (∀ i, i < n → ∃ a, P i a) → ∃ l : List α, l.length = n ∧ ∀ i (h : i < l.length), P i l[i]
  | 0, _ => ⟨[], rfl, fun i h => by simp at h⟩
  | n + 1, h => by
    obtain ⟨l, hl, hp⟩ := list_of n (fun i hi => h i (by omega))
    obtain ⟨a, ha⟩ := h n (by omega)
    refine ⟨l ++ [a], by simp [hl], fun i hi => ?_⟩
    by_cases h1 : i < l.length
    · rw [List.getElem_append_left h1]; exact hp i h1
    · have : i = n := by simp at hi; omega
      subst this
      rw [List.getElem_append_right (by omega)]
      simpa using ha

theorem addr_add' (b off i : Nat) : ((⟨b, off, none⟩ : Addr).add i) = ⟨b, off + i, none⟩ := by unfold Addr.add; split <;> simp_all

theorem list5 {cs : List Value} (h : cs.length = 5) : ∃ c0 c1 c2 c3 c4, cs = [c0, c1, c2, c3, c4] := by
  match cs, h with
  | [c0, c1, c2, c3, c4], _ => exact ⟨c0, c1, c2, c3, c4, rfl⟩

theorem reads_open {H : Type} {enc : TypeId × Value → H} {w : World} {spare : Nat → Bool} {held : Bool} {fuel : Nat} {c : Value} {x : DataW H × List MemPlace}
    (hf : DataW.trod enc Tryd.prog w 0 spare held fuel 23 [c] = some x) : ∃ ks, ReadsB (· < w.heap.size) w c (strsV ks) ∧ saneS ks := by
  rcases open_strings Tryd.underlying23 Tryd.underlying9 (by kernel_rfl) hf with ⟨hcs, _⟩ | ⟨x, l, cap, zs, hcs, _, hl, hm, hz, _, hcell, hwz⟩
  · simp at hcs
    subst hcs
    exact ⟨[], ⟨none, 0, rfl, Nat.le_refl _, .inl rfl⟩, by simp [saneS]⟩
  · simp at hcs
    subst hcs
    have hz' : l ≤ zs.length := by rw [hz]; split <;> omega
    have hlen : (zs.take l).length = l := by simp; omega
    refine ⟨zs.take l, ?_, by rw [hlen]; omega, fun s hs => hwz s (List.mem_of_mem_take hs)⟩
    by_cases h0 : l = 0
    · subst h0
      exact ⟨some x, cap, by simp [strsV], by simp [strsV], .inl (by simp [strsV])⟩
    · obtain ⟨b, off, spot⟩ := x
      have hc0 := hcell 0 (by omega)
      have hspot : spot = none := by simpa [Addr.add] using World.cell?_spot hc0
      subst hspot
      refine ⟨some ⟨b, off, none⟩, cap, by simp [strsV]; omega, by simp [strsV]; omega, .inr ⟨b, off, rfl, ?_, fun i hi => ?_⟩⟩
      · rw [addr_add'] at hc0; exact World.block_lt_of_cell? w _ hc0
      · have hi' : i < l := by simp [strsV] at hi; omega
        have := hcell i (by omega)
        rw [addr_add'] at this
        rw [this]
        simp [strsV, List.getD_eq_getElem?_getD, show i < zs.length by omega]

set_option maxRecDepth 100000 in
theorem lies_of_trod {H : Type} {enc : TypeId × Value → H} {w : World} {spare : Nat → Bool} {held : Bool} (fuel : Nat) : ∀ (cs : List Value) (x : DataW H × List MemPlace),
    DataW.trod enc Tryd.prog w 0 spare held fuel 25 cs = some x → ∃ T, Lies (· < w.heap.size) w (.agg cs.toArray) T := by
  induction fuel using Nat.strongRecOn with
  | ind fuel ih =>
    intro cs x h
    obtain ⟨xs, n, rfl, _, hlen, hxl, hf⟩ := DataW.trod_struct Tryd.underlying25 h
    have h5 : Tryd.prog.cellsOf 25 = 5 := by kernel_rfl
    obtain ⟨c0, c1, c2, c3, c4, rfl⟩ := list5 (hlen.trans h5)
    have hx : ∀ i, i < 5 → ∃ y, xs[i]? = some y := fun i hi => ⟨xs[i]'(by rw [hxl]; exact hi), by rw [List.getElem?_eq_getElem]⟩
    obtain ⟨y0, e0⟩ := hx 0 (by omega)
    obtain ⟨y1, e1⟩ := hx 1 (by omega)
    obtain ⟨y2, e2⟩ := hx 2 (by omega)
    obtain ⟨y3, e3⟩ := hx 3 (by omega)
    obtain ⟨y4, e4⟩ := hx 4 (by omega)
    have k3 : Tryd.prog.cellsOf 3 = 1 := by kernel_rfl
    have k9 : Tryd.prog.cellsOf 9 = 1 := by kernel_rfl
    have kL : Tryd.prog.cellsOf 22 = 1 := by kernel_rfl
    have kS : Tryd.prog.cellsOf 23 = 1 := by kernel_rfl
    have f0 : DataW.trod enc Tryd.prog w 0 spare held n 3 [c0] = some y0 := by
      have h : DataW.trod enc Tryd.prog w 0 spare held n 3 ((([c0, c1, c2, c3, c4] : List Value).drop 0).take (Tryd.prog.cellsOf 3)) = some y0 := (hf 0 _ rfl).trans e0
      rw [k3] at h; exact h
    have f1 : DataW.trod enc Tryd.prog w 0 spare held n 3 [c1] = some y1 := by
      have h : DataW.trod enc Tryd.prog w 0 spare held n 3 ((([c0, c1, c2, c3, c4] : List Value).drop 1).take (Tryd.prog.cellsOf 3)) = some y1 := (hf 1 _ rfl).trans e1
      rw [k3] at h; exact h
    have f2 : DataW.trod enc Tryd.prog w 0 spare held n 9 [c2] = some y2 := by
      have h : DataW.trod enc Tryd.prog w 0 spare held n 9 ((([c0, c1, c2, c3, c4] : List Value).drop 2).take (Tryd.prog.cellsOf 9)) = some y2 := (hf 2 _ rfl).trans e2
      rw [k9] at h; exact h
    have f3 : DataW.trod enc Tryd.prog w 0 spare held n 22 [c3] = some y3 := by
      have h : DataW.trod enc Tryd.prog w 0 spare held n 22 ((([c0, c1, c2, c3, c4] : List Value).drop 3).take (Tryd.prog.cellsOf 22)) = some y3 := (hf 3 _ rfl).trans e3
      rw [kL] at h; exact h
    have f4 : DataW.trod enc Tryd.prog w 0 spare held n 23 [c4] = some y4 := by
      have h : DataW.trod enc Tryd.prog w 0 spare held n 23 ((([c0, c1, c2, c3, c4] : List Value).drop 4).take (Tryd.prog.cellsOf 23)) = some y4 := (hf 4 _ rfl).trans e4
      rw [kS] at h; exact h
    obtain ⟨k, hk, _, _⟩ := DataW.trod_int Tryd.underlying3 f0
    obtain ⟨m, hm, _, _⟩ := DataW.trod_int Tryd.underlying3 f1
    obtain ⟨s, hs, _, hsz⟩ := DataW.trod_string Tryd.underlying9 f2
    simp at hk hm hs
    subst hk hm hs
    obtain ⟨ks, hr, hsane⟩ := reads_open f4
    have hL : ∃ l, LiesL (· < w.heap.size) w c3 l := by
      rcases DataW.trod_slice Tryd.underlying22 f3 with ⟨hcs, _⟩ | ⟨a, len, cap, elems, rest, n', hn', hcs, _, _, hl, hcm, hel, hat, _, _⟩
      · simp at hcs
        subst hcs
        exact ⟨[], none, 0, fun _ _ => undef, rfl, by simp, Nat.le_refl _, .inl rfl, fun i h => by simp at h⟩
      · simp at hcs
        subst hcs
        rw [h5] at hat
        have heach : ∀ i, i < len → ∃ q : Tree × (Nat → Value), (∀ j, j < 5 → w.cell? ((a.add (i * 5)).add j) = some (q.2 j)) ∧ Lies (· < w.heap.size) w (.agg #[q.2 0, q.2 1, q.2 2, q.2 3, q.2 4]) q.1 := fun i hi => by
          have hb := hat i hi
          rw [List.getElem?_eq_getElem (by omega)] at hb
          obtain ⟨cs', hc1, hc2⟩ := Option.bind_eq_some_iff.1 hb
          obtain ⟨T, hT⟩ := ih n' (by omega) cs' _ hc2
          obtain ⟨hb1, hl5, hcell⟩ := World.cells?_some hc1
          obtain ⟨d0, d1, d2, d3, d4, rfl⟩ := list5 hl5
          refine ⟨(T, fun j => [d0, d1, d2, d3, d4].getD j undef), fun j hj => ?_, hT⟩
          rw [hcell j hj]
          match j, hj with
          | 0, _ => rfl
          | 1, _ => rfl
          | 2, _ => rfl
          | 3, _ => rfl
          | 4, _ => rfl
        obtain ⟨q, hq, hqp⟩ := list_of len heach
        refine ⟨q.map (·.1), some a, cap, fun i j => (q.getD i (.mk 0 0 ⟨#[]⟩ [] [], fun _ => undef)).2 j, by simp [hq], by simp [hq]; omega, by simp [hq]; omega, ?_, fun i h => ?_⟩
        · by_cases h0 : len = 0
          · left; simp; exact List.eq_nil_of_length_eq_zero (by omega)
          · right
            obtain ⟨b, off, spot⟩ := a
            have hc0 := (hqp 0 (by omega)).1 0 (by omega)
            have hspot : spot = none := by
              have := World.cell?_spot hc0
              simpa [Addr.add] using this
            subst hspot
            refine ⟨b, off, rfl, ?_, fun i hi j hj => ?_⟩
            · rw [addr_add', addr_add'] at hc0; exact World.block_lt_of_cell? w _ hc0
            · simp at hi
              have := (hqp i hi).1 j hj
              rw [addr_add', addr_add'] at this
              rw [this]
              simp [List.getD_eq_getElem?_getD, hi]
        · simp at h
          have := (hqp i h).2
          simpa [List.getD_eq_getElem?_getD, h] using this
    obtain ⟨l, hl⟩ := hL
    exact ⟨.mk k m s l ks, Lies.of hsz hsane hl hr⟩
#print axioms lies_of_trod
end Go.Proofs.YtbolphjigjpmiaaDoor
