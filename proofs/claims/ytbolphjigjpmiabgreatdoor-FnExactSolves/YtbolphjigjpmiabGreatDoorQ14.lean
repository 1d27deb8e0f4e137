/-
  Contracts for the walks, several texts in one: each part says what it proves, and under which conditions.
-/
import Derived.Test.YtbolphjigjpmiabGreatDoorQ13
import Derived.Test.YtbolphjigjpmiabGreatDoorQ10
import Derived.Test.YtbolphjigjpmiabGreatDoorQ11
import Derived.Test.YtbolphjigjpmiabGreatDoorQ12

/-! What comes in of the laws' own type lies in memory: no condition. -/
namespace Go.Proofs.YtbolphjigjpmiabGreatDoor
open Go.ChangeShapes Go.WideShapes Go.ChangeAt Go.RowKit
set_option linter.unusedSimpArgs false
set_option linter.unusedVariables false

theorem olist6 {cs : List Value} (h : cs.length = 6) : ∃ c0 c1 c2 c3 c4 c5, cs = [c0, c1, c2, c3, c4, c5] := by
  match cs, h with
  | [c0, c1, c2, c3, c4, c5], _ => exact ⟨c0, c1, c2, c3, c4, c5, rfl⟩
set_option maxRecDepth 100000 in
theorem entry_of_trod {H : Type} {enc : TypeId × Value → H} {w : World} {spare : Nat → Bool} {held : Bool} (fuel : Nat) (cs : List Value) (x : DataW H × List MemPlace)
    (h : DataW.trod enc Tryz.prog w 0 spare held fuel 50 cs = some x) : ∃ d : EntryD, shEntry.lies (· < w.heap.size) w cs d := by
  obtain ⟨xs, n, rfl, _, hlen, hxl, hf⟩ := DataW.trod_struct Tryz.underlying50 h
  have hN : Tryz.prog.cellsOf 50 = 6 := by kernel_rfl
  obtain ⟨c0, c1, c2, c3, c4, c5, rfl⟩ := olist6 (hlen.trans hN)
  have hx : ∀ i, i < 3 → ∃ y, xs[i]? = some y := fun i hi => ⟨xs[i]'(by rw [hxl]; exact hi), by rw [List.getElem?_eq_getElem]⟩
  obtain ⟨y0, e0⟩ := hx 0 (by omega)
  have k0 : Tryz.prog.cellsOf 9 = 1 := by kernel_rfl
  have f0 : DataW.trod enc Tryz.prog w 0 spare held n 9 [c0] = some y0 := by
    have h : DataW.trod enc Tryz.prog w 0 spare held n 9 ((([c0, c1, c2, c3, c4, c5] : List Value).drop 0).take (Tryz.prog.cellsOf 9)) = some y0 := (hf 0 _ rfl).trans e0
    rw [k0] at h; exact h
  obtain ⟨y1, e1⟩ := hx 1 (by omega)
  have k1 : Tryz.prog.cellsOf 48 = 4 := by kernel_rfl
  have f1 : DataW.trod enc Tryz.prog w 0 spare held n 48 [c1, c2, c3, c4] = some y1 := by
    have h : DataW.trod enc Tryz.prog w 0 spare held n 48 ((([c0, c1, c2, c3, c4, c5] : List Value).drop 1).take (Tryz.prog.cellsOf 48)) = some y1 := (hf 1 _ rfl).trans e1
    rw [k1] at h; exact h
  obtain ⟨y2, e2⟩ := hx 2 (by omega)
  have k2 : Tryz.prog.cellsOf 23 = 1 := by kernel_rfl
  have f2 : DataW.trod enc Tryz.prog w 0 spare held n 23 [c5] = some y2 := by
    have h : DataW.trod enc Tryz.prog w 0 spare held n 23 ((([c0, c1, c2, c3, c4, c5] : List Value).drop 5).take (Tryz.prog.cellsOf 23)) = some y2 := (hf 2 _ rfl).trans e2
    rw [k2] at h; exact h
  obtain ⟨t0, ht0, _, hl0⟩ := DataW.trod_string Tryz.underlying9 f0
  simp at ht0
  subst ht0
  obtain ⟨va1, vb1, vc1, vu1, vp1, hv1, hr1, hs1⟩ := ver_of_trod n _ _ f1
  simp at hv1
  obtain ⟨rfl, rfl, rfl, rfl⟩ := hv1
  obtain ⟨t2, hr2⟩ := needs_of_trod n _ _ f2
  exact ⟨⟨t0, va1, vb1, vc1, vp1, t2⟩, _, _, rfl, hl0, RdB.of hr1, hs1, hr2⟩
set_option maxRecDepth 100000 in
theorem entrys_of_trod {H : Type} {enc : TypeId × Value → H} {w : World} {spare : Nat → Bool} {held : Bool} (fuel : Nat) (c : Value) (x : DataW H × List MemPlace)
    (h : DataW.trod enc Tryz.prog w 0 spare held fuel 22 [c] = some x) : ∃ xs, RowIn shEntry (· < w.heap.size) w c xs :=
  rows_of_trod shEntry Tryz.underlying22 (by kernel_rfl) (by decide) (fun n cs y hh => entry_of_trod n cs y hh) fuel c x h

end Go.Proofs.YtbolphjigjpmiabGreatDoor

/-! What comes in as entries and versions of the laws' own types: their numbers fit into an int: no condition. -/
namespace Go.Proofs.YtbolphjigjpmiabGreatDoor
open Go.ChangeShapes Go.WideShapes Go.ChangeAt Go.RowKit
set_option linter.unusedSimpArgs false
set_option linter.unusedVariables false

def shEntryW : Sh EntryD where
  n := 6
  lies S w cs d := shEntry.lies S w cs d ∧ wfE d
  keep hk h := ⟨shEntry.keep hk h.1, h.2⟩
  mono hS h := ⟨shEntry.mono hS h.1, h.2⟩
set_option maxRecDepth 100000 in
theorem verW_of_trod {H : Type} {enc : TypeId × Value → H} {w : World} {spare : Nat → Bool} {held : Bool} (fuel : Nat) (cs : List Value) (x : DataW H × List MemPlace)
    (h : DataW.trod enc Tryz.prog w 0 spare held fuel 48 cs = some x) : ∃ a b c u ps, cs = [.int .i64 a, .int .i64 b, .int .i64 c, u] ∧ Reads w u (strsV ps) ∧ saneP ps ∧ (Lit.int .i64 a).wf = true ∧ (Lit.int .i64 b).wf = true ∧ (Lit.int .i64 c).wf = true := by
  obtain ⟨xs, n, rfl, _, hlen, hxl, hf⟩ := DataW.trod_struct Tryz.underlying48 h
  have h4 : Tryz.prog.cellsOf 48 = 4 := by kernel_rfl
  obtain ⟨c0, c1, c2, c3, rfl⟩ := list4 (hlen.trans h4)
  have hx : ∀ i, i < 4 → ∃ y, xs[i]? = some y := fun i hi => ⟨xs[i]'(by rw [hxl]; exact hi), by rw [List.getElem?_eq_getElem]⟩
  obtain ⟨y0, e0⟩ := hx 0 (by omega)
  obtain ⟨y1, e1⟩ := hx 1 (by omega)
  obtain ⟨y2, e2⟩ := hx 2 (by omega)
  obtain ⟨y3, e3⟩ := hx 3 (by omega)
  have k3 : Tryz.prog.cellsOf 3 = 1 := by kernel_rfl
  have kS : Tryz.prog.cellsOf 46 = 1 := by kernel_rfl
  have f0 : DataW.trod enc Tryz.prog w 0 spare held n 3 [c0] = some y0 := by
    have h : DataW.trod enc Tryz.prog w 0 spare held n 3 ((([c0, c1, c2, c3] : List Value).drop 0).take (Tryz.prog.cellsOf 3)) = some y0 := (hf 0 _ rfl).trans e0
    rw [k3] at h; exact h
  have f1 : DataW.trod enc Tryz.prog w 0 spare held n 3 [c1] = some y1 := by
    have h : DataW.trod enc Tryz.prog w 0 spare held n 3 ((([c0, c1, c2, c3] : List Value).drop 1).take (Tryz.prog.cellsOf 3)) = some y1 := (hf 1 _ rfl).trans e1
    rw [k3] at h; exact h
  have f2 : DataW.trod enc Tryz.prog w 0 spare held n 3 [c2] = some y2 := by
    have h : DataW.trod enc Tryz.prog w 0 spare held n 3 ((([c0, c1, c2, c3] : List Value).drop 2).take (Tryz.prog.cellsOf 3)) = some y2 := (hf 2 _ rfl).trans e2
    rw [k3] at h; exact h
  have f3 : DataW.trod enc Tryz.prog w 0 spare held n 46 [c3] = some y3 := by
    have h : DataW.trod enc Tryz.prog w 0 spare held n 46 ((([c0, c1, c2, c3] : List Value).drop 3).take (Tryz.prog.cellsOf 46)) = some y3 := (hf 3 _ rfl).trans e3
    rw [kS] at h; exact h
  obtain ⟨k, hk, _, w0⟩ := DataW.trod_int Tryz.underlying3 f0
  obtain ⟨m, hm, _, w1⟩ := DataW.trod_int Tryz.underlying3 f1
  obtain ⟨r, hr, _, w2⟩ := DataW.trod_int Tryz.underlying3 f2
  simp at hk hm hr
  subst hk hm hr
  obtain ⟨ks, hr, hsane⟩ := vreads_open f3
  exact ⟨_, _, _, _, _, rfl, hr, hsane, w0, w1, w2⟩
set_option maxRecDepth 100000 in
theorem entryW_of_trod {H : Type} {enc : TypeId × Value → H} {w : World} {spare : Nat → Bool} {held : Bool} (fuel : Nat) (cs : List Value) (x : DataW H × List MemPlace)
    (h : DataW.trod enc Tryz.prog w 0 spare held fuel 50 cs = some x) : ∃ d : EntryD, shEntryW.lies (· < w.heap.size) w cs d := by
  obtain ⟨xs, n, rfl, _, hlen, hxl, hf⟩ := DataW.trod_struct Tryz.underlying50 h
  have hN : Tryz.prog.cellsOf 50 = 6 := by kernel_rfl
  obtain ⟨c0, c1, c2, c3, c4, c5, rfl⟩ := olist6 (hlen.trans hN)
  have hx : ∀ i, i < 3 → ∃ y, xs[i]? = some y := fun i hi => ⟨xs[i]'(by rw [hxl]; exact hi), by rw [List.getElem?_eq_getElem]⟩
  obtain ⟨y0, e0⟩ := hx 0 (by omega)
  have k0 : Tryz.prog.cellsOf 9 = 1 := by kernel_rfl
  have f0 : DataW.trod enc Tryz.prog w 0 spare held n 9 [c0] = some y0 := by
    have h : DataW.trod enc Tryz.prog w 0 spare held n 9 ((([c0, c1, c2, c3, c4, c5] : List Value).drop 0).take (Tryz.prog.cellsOf 9)) = some y0 := (hf 0 _ rfl).trans e0
    rw [k0] at h; exact h
  obtain ⟨y1, e1⟩ := hx 1 (by omega)
  have k1 : Tryz.prog.cellsOf 48 = 4 := by kernel_rfl
  have f1 : DataW.trod enc Tryz.prog w 0 spare held n 48 [c1, c2, c3, c4] = some y1 := by
    have h : DataW.trod enc Tryz.prog w 0 spare held n 48 ((([c0, c1, c2, c3, c4, c5] : List Value).drop 1).take (Tryz.prog.cellsOf 48)) = some y1 := (hf 1 _ rfl).trans e1
    rw [k1] at h; exact h
  obtain ⟨y2, e2⟩ := hx 2 (by omega)
  have k2 : Tryz.prog.cellsOf 23 = 1 := by kernel_rfl
  have f2 : DataW.trod enc Tryz.prog w 0 spare held n 23 [c5] = some y2 := by
    have h : DataW.trod enc Tryz.prog w 0 spare held n 23 ((([c0, c1, c2, c3, c4, c5] : List Value).drop 5).take (Tryz.prog.cellsOf 23)) = some y2 := (hf 2 _ rfl).trans e2
    rw [k2] at h; exact h
  obtain ⟨t0, ht0, _, hl0⟩ := DataW.trod_string Tryz.underlying9 f0
  simp at ht0
  subst ht0
  obtain ⟨va1, vb1, vc1, vu1, vp1, hv1, hr1, hs1, wa1, wb1, wc1⟩ := verW_of_trod n _ _ f1
  simp at hv1
  obtain ⟨rfl, rfl, rfl, rfl⟩ := hv1
  obtain ⟨t2, hr2⟩ := needs_of_trod n _ _ f2
  exact ⟨⟨t0, va1, vb1, vc1, vp1, t2⟩, ⟨_, _, rfl, hl0, RdB.of hr1, hs1, hr2⟩, wa1, wb1, wc1⟩
set_option maxRecDepth 100000 in
theorem entrysW_of_trod {H : Type} {enc : TypeId × Value → H} {w : World} {spare : Nat → Bool} {held : Bool} (fuel : Nat) (c : Value) (x : DataW H × List MemPlace)
    (h : DataW.trod enc Tryz.prog w 0 spare held fuel 22 [c] = some x) : ∃ xs, RowIn shEntry (· < w.heap.size) w c xs ∧ ∀ d ∈ xs, wfE d := by
  obtain ⟨xs, hx⟩ := rows_of_trod shEntryW Tryz.underlying22 (by kernel_rfl) (by decide) (fun n cs y hh => entryW_of_trod n cs y hh) fuel c x h
  refine ⟨xs, RowIn.as (sh := shEntryW) (sh' := shEntry) rfl (fun S w cs x h => h.1) hx, fun d hd => ?_⟩
  obtain ⟨i, hi, rfl⟩ := List.mem_iff_getElem.1 hd
  obtain ⟨cs, h1⟩ := hx.at hi
  exact h1.2
end Go.Proofs.YtbolphjigjpmiabGreatDoor

/-! What comes in as picks of the laws' own type: their numbers fit into an int: no condition. -/
namespace Go.Proofs.YtbolphjigjpmiabGreatDoor
open Go.ChangeShapes Go.WideShapes Go.ChangeAt Go.RowKit
set_option linter.unusedSimpArgs false
set_option linter.unusedVariables false

def shPickW : Sh PickD where
  n := 5
  lies S w cs d := shPick.lies S w cs d ∧ wfP d
  keep hk h := ⟨shPick.keep hk h.1, h.2⟩
  mono hS h := ⟨shPick.mono hS h.1, h.2⟩
set_option maxRecDepth 100000 in
theorem pickW_of_trod {H : Type} {enc : TypeId × Value → H} {w : World} {spare : Nat → Bool} {held : Bool} (fuel : Nat) (cs : List Value) (x : DataW H × List MemPlace)
    (h : DataW.trod enc Tryz.prog w 0 spare held fuel 56 cs = some x) : ∃ d : PickD, shPickW.lies (· < w.heap.size) w cs d := by
  obtain ⟨xs, n, rfl, _, hlen, hxl, hf⟩ := DataW.trod_struct Tryz.underlying56 h
  have hN : Tryz.prog.cellsOf 56 = 5 := by kernel_rfl
  obtain ⟨c0, c1, c2, c3, c4, rfl⟩ := olist5 (hlen.trans hN)
  have hx : ∀ i, i < 2 → ∃ y, xs[i]? = some y := fun i hi => ⟨xs[i]'(by rw [hxl]; exact hi), by rw [List.getElem?_eq_getElem]⟩
  obtain ⟨y0, e0⟩ := hx 0 (by omega)
  have k0 : Tryz.prog.cellsOf 9 = 1 := by kernel_rfl
  have f0 : DataW.trod enc Tryz.prog w 0 spare held n 9 [c0] = some y0 := by
    have h : DataW.trod enc Tryz.prog w 0 spare held n 9 ((([c0, c1, c2, c3, c4] : List Value).drop 0).take (Tryz.prog.cellsOf 9)) = some y0 := (hf 0 _ rfl).trans e0
    rw [k0] at h; exact h
  obtain ⟨y1, e1⟩ := hx 1 (by omega)
  have k1 : Tryz.prog.cellsOf 48 = 4 := by kernel_rfl
  have f1 : DataW.trod enc Tryz.prog w 0 spare held n 48 [c1, c2, c3, c4] = some y1 := by
    have h : DataW.trod enc Tryz.prog w 0 spare held n 48 ((([c0, c1, c2, c3, c4] : List Value).drop 1).take (Tryz.prog.cellsOf 48)) = some y1 := (hf 1 _ rfl).trans e1
    rw [k1] at h; exact h
  obtain ⟨t0, ht0, _, hl0⟩ := DataW.trod_string Tryz.underlying9 f0
  simp at ht0
  subst ht0
  obtain ⟨va1, vb1, vc1, vu1, vp1, hv1, hr1, hs1, wa1, wb1, wc1⟩ := verW_of_trod n _ _ f1
  simp at hv1
  obtain ⟨rfl, rfl, rfl, rfl⟩ := hv1
  exact ⟨⟨t0, va1, vb1, vc1, vp1⟩, ⟨_, rfl, hl0, RdB.of hr1, hs1⟩, wa1, wb1, wc1⟩
set_option maxRecDepth 100000 in
theorem picksW_of_trod {H : Type} {enc : TypeId × Value → H} {w : World} {spare : Nat → Bool} {held : Bool} (fuel : Nat) (c : Value) (x : DataW H × List MemPlace)
    (h : DataW.trod enc Tryz.prog w 0 spare held fuel 24 [c] = some x) : ∃ xs, RowIn shPick (· < w.heap.size) w c xs ∧ ∀ d ∈ xs, wfP d := by
  obtain ⟨xs, hx⟩ := rows_of_trod shPickW Tryz.underlying24 (by kernel_rfl) (by decide) (fun n cs y hh => pickW_of_trod n cs y hh) fuel c x h
  refine ⟨xs, RowIn.as (sh := shPickW) (sh' := shPick) rfl (fun S w cs x h => h.1) hx, fun d hd => ?_⟩
  obtain ⟨i, hi, rfl⟩ := List.mem_iff_getElem.1 hd
  obtain ⟨cs, h1⟩ := hx.at hi
  exact h1.2
end Go.Proofs.YtbolphjigjpmiabGreatDoor
