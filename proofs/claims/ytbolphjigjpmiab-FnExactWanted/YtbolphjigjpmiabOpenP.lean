/-
  What comes in as packs of the laws' own type: packs that lie in memory: no condition.
-/
import Derived.Test.YtbolphjigjpmiabOpenV
import Derived.Test.YtbolphjigjpmiabPkA
import Derived.OpenShut
import Derived.ShutString
namespace Go.Proofs.Ytbolphjigjpmiab
open Go.ChangeShapes Go.WideShapes Go.ChangeAt Go.RowKit
set_option linter.unusedSimpArgs false
set_option linter.unusedVariables false

theorem olist2 {cs : List Value} (h : cs.length = 2) : ∃ c0 c1, cs = [c0, c1] := by
  match cs, h with
  | [c0, c1], _ => exact ⟨c0, c1, rfl⟩
theorem olist4 {cs : List Value} (h : cs.length = 4) : ∃ c0 c1 c2 c3, cs = [c0, c1, c2, c3] := by
  match cs, h with
  | [c0, c1, c2, c3], _ => exact ⟨c0, c1, c2, c3, rfl⟩
theorem olist_of {α : Type} {P : Nat → α → Prop} : ∀ n, (∀ i, i < n → ∃ a, P i a) → ∃ l : List α, l.length = n ∧ ∀ i (h : i < l.length), P i l[i]
  | 0, _ => ⟨[], rfl, fun i h => by simp at h⟩
  | n + 1, h => by
    obtain ⟨l, hl, hp⟩ := olist_of n (fun i hi => h i (by omega))
    obtain ⟨a, ha⟩ := h n (by omega)
    refine ⟨l ++ [a], by simp [hl], fun i hi => ?_⟩
    by_cases h1 : i < l.length
    · rw [List.getElem_append_left h1]; exact hp i h1
    · have : i = n := by simp at hi; omega
      subst this
      rw [List.getElem_append_right (by omega)]
      simpa using ha

/-- A row that comes in, out of what its elements are. -/
theorem rows_of_trod {α H : Type} {P : Program} {enc : TypeId × Value → H} {w : World} {spare : Nat → Bool} {held : Bool} (sh : Sh α) {ts te : TypeId} (hu : P.underlying ts = some (.slice te)) (hn : P.cellsOf te = sh.n) (hpos : 0 < sh.n)
    (helem : ∀ n cs y, DataW.trod enc P w 0 spare held n te cs = some y → ∃ a, sh.lies (· < w.heap.size) w cs a) (fuel : Nat) (c : Value) (x : DataW H × List MemPlace)
    (h : DataW.trod enc P w 0 spare held fuel ts [c] = some x) : ∃ xs, RowIn sh (· < w.heap.size) w c xs := by
  rcases DataW.trod_slice hu h with ⟨hcs, _⟩ | ⟨a, len, cap, elems, rest, n', hn', hcs, _, _, hl, hcm, hel, hat, _, _⟩
  · simp at hcs
    subst hcs
    exact ⟨[], none, 0, rfl, by simp, Nat.le_refl _, .inl rfl⟩
  · simp at hcs
    subst hcs
    rw [hn] at hat
    have heach : ∀ i, i < len → ∃ q : α, ∃ cs, cs.length = sh.n ∧ sh.lies (· < w.heap.size) w cs q ∧ ∀ j (hj : j < cs.length), w.cell? ((a.add (i * sh.n)).add j) = some cs[j] := fun i hi => by
      have hb := hat i hi
      rw [List.getElem?_eq_getElem (by omega)] at hb
      obtain ⟨cs', hc1, hc2⟩ := Option.bind_eq_some_iff.1 hb
      obtain ⟨q, hq⟩ := helem _ cs' _ hc2
      obtain ⟨hb1, hl5, hcell⟩ := World.cells?_some hc1
      exact ⟨q, cs', hl5, hq, fun j hj => (hcell j (by omega)).trans (List.getElem?_eq_getElem hj)⟩
    obtain ⟨q, hq, hqp⟩ := olist_of len heach
    refine ⟨q, some a, cap, by rw [hq], by rw [hq]; omega, by rw [hq]; omega, ?_⟩
    by_cases h0 : len = 0
    · left; exact List.eq_nil_of_length_eq_zero (by omega)
    · right
      obtain ⟨b, off, spot⟩ := a
      obtain ⟨cs0, hl0, _, hc0⟩ := hqp 0 (by omega)
      have hc0 := hc0 0 (by omega)
      have hspot : spot = none := by
        have := World.cell?_spot hc0
        simpa [Addr.add] using this
      subst hspot
      refine ⟨b, off, rfl, ?_, fun i hi => ?_⟩
      · rw [vaddr_add, vaddr_add] at hc0; exact World.block_lt_of_cell? w _ hc0
      · obtain ⟨cs, h1, h2, h3⟩ := hqp i hi
        refine ⟨cs, h2, fun j hj => ?_⟩
        have := h3 j hj
        rw [vaddr_add, vaddr_add] at this
        exact this

set_option maxRecDepth 100000 in
theorem need_of_trod {H : Type} {enc : TypeId × Value → H} {w : World} {spare : Nat → Bool} {held : Bool} (fuel : Nat) (cs : List Value) (x : DataW H × List MemPlace)
    (h : DataW.trod enc Try.prog w 0 spare held fuel 63 cs = some x) : ∃ d : NeedD, shNeed.lies (· < w.heap.size) w cs d := by
  obtain ⟨xs, n, rfl, _, hlen, hxl, hf⟩ := DataW.trod_struct Try.underlying63 h
  have hN : Try.prog.cellsOf 63 = 2 := by kernel_rfl
  obtain ⟨c0, c1, rfl⟩ := olist2 (hlen.trans hN)
  have hx : ∀ i, i < 2 → ∃ y, xs[i]? = some y := fun i hi => ⟨xs[i]'(by rw [hxl]; exact hi), by rw [List.getElem?_eq_getElem]⟩
  obtain ⟨y0, e0⟩ := hx 0 (by omega)
  have k0 : Try.prog.cellsOf 9 = 1 := by kernel_rfl
  have f0 : DataW.trod enc Try.prog w 0 spare held n 9 [c0] = some y0 := by
    have h : DataW.trod enc Try.prog w 0 spare held n 9 ((([c0, c1] : List Value).drop 0).take (Try.prog.cellsOf 9)) = some y0 := (hf 0 _ rfl).trans e0
    rw [k0] at h; exact h
  obtain ⟨y1, e1⟩ := hx 1 (by omega)
  have k1 : Try.prog.cellsOf 9 = 1 := by kernel_rfl
  have f1 : DataW.trod enc Try.prog w 0 spare held n 9 [c1] = some y1 := by
    have h : DataW.trod enc Try.prog w 0 spare held n 9 ((([c0, c1] : List Value).drop 1).take (Try.prog.cellsOf 9)) = some y1 := (hf 1 _ rfl).trans e1
    rw [k1] at h; exact h
  obtain ⟨t0, ht0, _, hl0⟩ := DataW.trod_string Try.underlying9 f0
  simp at ht0
  subst ht0
  obtain ⟨t1, ht1, _, hl1⟩ := DataW.trod_string Try.underlying9 f1
  simp at ht1
  subst ht1
  exact ⟨⟨t0, t1⟩, rfl, hl0, hl1⟩
set_option maxRecDepth 100000 in
theorem needs_of_trod {H : Type} {enc : TypeId × Value → H} {w : World} {spare : Nat → Bool} {held : Bool} (fuel : Nat) (c : Value) (x : DataW H × List MemPlace)
    (h : DataW.trod enc Try.prog w 0 spare held fuel 35 [c] = some x) : ∃ xs, RowIn shNeed (· < w.heap.size) w c xs :=
  rows_of_trod shNeed Try.underlying35 (by kernel_rfl) (by decide) (fun n cs y hh => need_of_trod n cs y hh) fuel c x h

set_option maxRecDepth 100000 in
theorem cmd_of_trod {H : Type} {enc : TypeId × Value → H} {w : World} {spare : Nat → Bool} {held : Bool} (fuel : Nat) (cs : List Value) (x : DataW H × List MemPlace)
    (h : DataW.trod enc Try.prog w 0 spare held fuel 65 cs = some x) : ∃ d : CmdD, shCmd.lies (· < w.heap.size) w cs d := by
  obtain ⟨xs, n, rfl, _, hlen, hxl, hf⟩ := DataW.trod_struct Try.underlying65 h
  have hN : Try.prog.cellsOf 65 = 2 := by kernel_rfl
  obtain ⟨c0, c1, rfl⟩ := olist2 (hlen.trans hN)
  have hx : ∀ i, i < 2 → ∃ y, xs[i]? = some y := fun i hi => ⟨xs[i]'(by rw [hxl]; exact hi), by rw [List.getElem?_eq_getElem]⟩
  obtain ⟨y0, e0⟩ := hx 0 (by omega)
  have k0 : Try.prog.cellsOf 9 = 1 := by kernel_rfl
  have f0 : DataW.trod enc Try.prog w 0 spare held n 9 [c0] = some y0 := by
    have h : DataW.trod enc Try.prog w 0 spare held n 9 ((([c0, c1] : List Value).drop 0).take (Try.prog.cellsOf 9)) = some y0 := (hf 0 _ rfl).trans e0
    rw [k0] at h; exact h
  obtain ⟨y1, e1⟩ := hx 1 (by omega)
  have k1 : Try.prog.cellsOf 34 = 1 := by kernel_rfl
  have f1 : DataW.trod enc Try.prog w 0 spare held n 34 [c1] = some y1 := by
    have h : DataW.trod enc Try.prog w 0 spare held n 34 ((([c0, c1] : List Value).drop 1).take (Try.prog.cellsOf 34)) = some y1 := (hf 1 _ rfl).trans e1
    rw [k1] at h; exact h
  obtain ⟨t0, ht0, _, hl0⟩ := DataW.trod_string Try.underlying9 f0
  simp at ht0
  subst ht0
  obtain ⟨t1, hr1, hs1⟩ := vreads_open f1
  exact ⟨⟨t0, t1⟩, _, rfl, hl0, RdB.of hr1, hs1⟩
set_option maxRecDepth 100000 in
theorem cmds_of_trod {H : Type} {enc : TypeId × Value → H} {w : World} {spare : Nat → Bool} {held : Bool} (fuel : Nat) (c : Value) (x : DataW H × List MemPlace)
    (h : DataW.trod enc Try.prog w 0 spare held fuel 36 [c] = some x) : ∃ xs, RowIn shCmd (· < w.heap.size) w c xs :=
  rows_of_trod shCmd Try.underlying36 (by kernel_rfl) (by decide) (fun n cs y hh => cmd_of_trod n cs y hh) fuel c x h

set_option maxRecDepth 100000 in
theorem pack_of_trod {H : Type} {enc : TypeId × Value → H} {w : World} {spare : Nat → Bool} {held : Bool} (fuel : Nat) (cs : List Value) (x : DataW H × List MemPlace)
    (h : DataW.trod enc Try.prog w 0 spare held fuel 38 cs = some x) : ∃ d : PackD, shPack.lies (· < w.heap.size) w cs d := by
  obtain ⟨xs, n, rfl, _, hlen, hxl, hf⟩ := DataW.trod_struct Try.underlying38 h
  have hN : Try.prog.cellsOf 38 = 4 := by kernel_rfl
  obtain ⟨c0, c1, c2, c3, rfl⟩ := olist4 (hlen.trans hN)
  have hx : ∀ i, i < 4 → ∃ y, xs[i]? = some y := fun i hi => ⟨xs[i]'(by rw [hxl]; exact hi), by rw [List.getElem?_eq_getElem]⟩
  obtain ⟨y0, e0⟩ := hx 0 (by omega)
  have k0 : Try.prog.cellsOf 9 = 1 := by kernel_rfl
  have f0 : DataW.trod enc Try.prog w 0 spare held n 9 [c0] = some y0 := by
    have h : DataW.trod enc Try.prog w 0 spare held n 9 ((([c0, c1, c2, c3] : List Value).drop 0).take (Try.prog.cellsOf 9)) = some y0 := (hf 0 _ rfl).trans e0
    rw [k0] at h; exact h
  obtain ⟨y1, e1⟩ := hx 1 (by omega)
  have k1 : Try.prog.cellsOf 34 = 1 := by kernel_rfl
  have f1 : DataW.trod enc Try.prog w 0 spare held n 34 [c1] = some y1 := by
    have h : DataW.trod enc Try.prog w 0 spare held n 34 ((([c0, c1, c2, c3] : List Value).drop 1).take (Try.prog.cellsOf 34)) = some y1 := (hf 1 _ rfl).trans e1
    rw [k1] at h; exact h
  obtain ⟨y2, e2⟩ := hx 2 (by omega)
  have k2 : Try.prog.cellsOf 35 = 1 := by kernel_rfl
  have f2 : DataW.trod enc Try.prog w 0 spare held n 35 [c2] = some y2 := by
    have h : DataW.trod enc Try.prog w 0 spare held n 35 ((([c0, c1, c2, c3] : List Value).drop 2).take (Try.prog.cellsOf 35)) = some y2 := (hf 2 _ rfl).trans e2
    rw [k2] at h; exact h
  obtain ⟨y3, e3⟩ := hx 3 (by omega)
  have k3 : Try.prog.cellsOf 36 = 1 := by kernel_rfl
  have f3 : DataW.trod enc Try.prog w 0 spare held n 36 [c3] = some y3 := by
    have h : DataW.trod enc Try.prog w 0 spare held n 36 ((([c0, c1, c2, c3] : List Value).drop 3).take (Try.prog.cellsOf 36)) = some y3 := (hf 3 _ rfl).trans e3
    rw [k3] at h; exact h
  obtain ⟨t0, ht0, _, hl0⟩ := DataW.trod_string Try.underlying9 f0
  simp at ht0
  subst ht0
  obtain ⟨t1, hr1, hs1⟩ := vreads_open f1
  obtain ⟨t2, hr2⟩ := needs_of_trod n _ _ f2
  obtain ⟨t3, hr3⟩ := cmds_of_trod n _ _ f3
  exact ⟨⟨t0, t1, t2, t3⟩, _, _, _, rfl, hl0, RdB.of hr1, hs1, hr2, hr3⟩
set_option maxRecDepth 100000 in
theorem packs_of_trod {H : Type} {enc : TypeId × Value → H} {w : World} {spare : Nat → Bool} {held : Bool} (fuel : Nat) (c : Value) (x : DataW H × List MemPlace)
    (h : DataW.trod enc Try.prog w 0 spare held fuel 22 [c] = some x) : ∃ xs, RowIn shPack (· < w.heap.size) w c xs :=
  rows_of_trod shPack Try.underlying22 (by kernel_rfl) (by decide) (fun n cs y hh => pack_of_trod n cs y hh) fuel c x h

end Go.Proofs.Ytbolphjigjpmiab
