/-
  A list of Cmps, and a list of such lists, copied into memory of their own, as the law's helpers do it: contracts for what lies in memory and holds at most 2 to the 20.
-/
import Derived.Test.YtdnpfkknnaepoaaRgC
namespace Go.Proofs.Ytdnpfkknnaepoaa
open Go.RowKit
set_option linter.unusedSimpArgs false
set_option linter.unusedVariables false

theorem infoCmp : (Try.prog.info? 49).map (fun i => (i.zero, i.size, i.bytes)) = some (some (.agg #[.int .i64 0, .int .i64 0, .int .i64 0, .int .i64 0, .slice none 0 0]), 5, 56) := by kernel_rfl
theorem infoCmps : (Try.prog.info? 83).map (fun i => (i.zero, i.size, i.bytes)) = some (some (.slice none 0 0), 1, 24) := by kernel_rfl

def put5 (ys : List Value) (i : Nat) (c0 c1 c2 c3 c4 : Value) : List Value := ((((ys.set (i * 5) c0).set (i * 5 + 1) c1).set (i * 5 + 2) c2).set (i * 5 + 3) c3).set (i * 5 + 4) c4
/-- From place j on ys has these five. -/
def FiveAt (ys : List Value) (j : Nat) (c0 c1 c2 c3 c4 : Value) : Prop := ys[j]? = some c0 ∧ ys[j + 1]? = some c1 ∧ ys[j + 2]? = some c2 ∧ ys[j + 3]? = some c3 ∧ ys[j + 4]? = some c4
theorem put5_same (ys : List Value) (i : Nat) (c0 c1 c2 c3 c4 : Value) (h : i * 5 + 4 < ys.length) : FiveAt (put5 ys i c0 c1 c2 c3 c4) (i * 5) c0 c1 c2 c3 c4 := by
  simp [FiveAt, put5, List.getElem?_set, h, show i * 5 < ys.length by omega, show i * 5 + 1 < ys.length by omega, show i * 5 + 2 < ys.length by omega, show i * 5 + 3 < ys.length by omega]
theorem put5_get (ys : List Value) (i j : Nat) (c0 c1 c2 c3 c4 : Value) (h : j < i * 5 ∨ i * 5 + 4 < j) : (put5 ys i c0 c1 c2 c3 c4)[j]? = ys[j]? := by
  unfold put5
  rw [List.getElem?_set_ne (by omega), List.getElem?_set_ne (by omega), List.getElem?_set_ne (by omega), List.getElem?_set_ne (by omega), List.getElem?_set_ne (by omega)]
theorem put5_other {ys : List Value} {i j : Nat} {c0 c1 c2 c3 c4 d0 d1 d2 d3 d4 : Value} (h : j ≠ i) (hf : FiveAt ys (j * 5) d0 d1 d2 d3 d4) : FiveAt (put5 ys i c0 c1 c2 c3 c4) (j * 5) d0 d1 d2 d3 d4 := by
  obtain ⟨h0, h1, h2, h3, h4⟩ := hf
  refine ⟨?_, ?_, ?_, ?_, ?_⟩ <;> rw [put5_get _ _ _ _ _ _ _ _ (by omega)] <;> assumption

/-- What is laid so far of a copy: the Cmps below k. -/
def LaidC (lo : Nat) (w : World) (ys : List Value) (ds : List CmpD) (k : Nat) : Prop :=
  ∀ i (h : i < ds.length), i < k → ∃ u, FiveAt ys (i * 5) (.int .i64 ds[i].o) (.int .i64 ds[i].a) (.int .i64 ds[i].b) (.int .i64 ds[i].c) u ∧ RdB (Ow lo w.heap.size) w u (strsV ds[i].ps) ∧ saneP ds[i].ps

theorem cmpsIn_owns {w : World} {lo g n : Nat} {ys : List Value} {ds : List CmpD} (hg : w.ownsRow lo 49 5 (.slice (some ⟨g, 0, none⟩) n n) n ys) (hn : n = ds.length) (hl : ds.length ≤ maxLen) (hlo : lo ≤ g)
    (h : LaidC (lo + 1) w ys ds ds.length) : CmpsIn (Ow lo w.heap.size) w (.slice (some ⟨g, 0, none⟩) ds.length ds.length) ds := by
  subst hn
  refine ⟨_, _, rfl, hl, Nat.le_refl _, ?_⟩
  have hlen := hg.1
  by_cases h0 : ds = []
  · exact .inl h0
  · have hpos : 0 < ds.length := List.length_pos_iff.2 h0
    have hgl : g < w.heap.size := by
      rcases hg.2 with ⟨hh, _⟩ | ⟨g', cap, cur, hh, _, hg', _⟩
      · simp at hh
      · simp at hh
        have := (Array.getElem?_eq_some_iff.1 hg').1
        omega
    have hc : ∀ i (hi : i < ds.length), CmpAt (Ow lo w.heap.size) w g (0 + i * 5) (ys.getD (i * 5 + 4) undef) ds[i] := fun i hi => by
      obtain ⟨u, ⟨h0, h1, h2, h3, h4⟩, h5, h6⟩ := h i hi hi
      rw [Nat.zero_add]
      have hu : ys.getD (i * 5 + 4) undef = u := by simp [List.getD_eq_getElem?_getD, h4]
      rw [hu]
      refine ⟨?_, ?_, ?_, ?_, ?_, h5.mono (Ow.mono (by omega) (Nat.le_refl _)), h6⟩ <;> rw [hg.cellAt _ (by omega)] <;> assumption
    exact .inr ⟨g, 0, fun i => ys.getD (i * 5 + 4) undef, rfl, ⟨hlo, hgl⟩, hc⟩

theorem size_set5 (w : World) (g i : Nat) (c0 c1 c2 c3 c4 : Value) : (((((w.setCell ⟨g, i, none⟩ c0).setCell ⟨g, i + 1, none⟩ c1).setCell ⟨g, i + 2, none⟩ c2).setCell ⟨g, i + 3, none⟩ c3).setCell ⟨g, i + 4, none⟩ c4).heap.size = w.heap.size := by simp [World.setCell]
theorem kp_set5 {S : Nat → Prop} (w : World) (g i : Nat) (c0 c1 c2 c3 c4 : Value) (h : ¬ S g) : Kp S w (((((w.setCell ⟨g, i, none⟩ c0).setCell ⟨g, i + 1, none⟩ c1).setCell ⟨g, i + 2, none⟩ c2).setCell ⟨g, i + 3, none⟩ c3).setCell ⟨g, i + 4, none⟩ c4) :=
  ((((Kp.set h).trans (Kp.set h)).trans (Kp.set h)).trans (Kp.set h)).trans (Kp.set h)

theorem LaidC.step {lo : Nat} {w w2 : World} {ys : List Value} {ds : List CmpD} {k : Nat} (h : LaidC lo w ys ds k) (hk : k < ds.length) (hy : k * 5 + 4 < ys.length) (hb : Below w.heap.size w w2) {g : Nat} (hg : g < lo) {u : Value}
    (hu : RdB (Ow lo w2.heap.size) w2 u (strsV ds[k].ps)) (hs : saneP ds[k].ps) :
    LaidC lo (((((w2.setCell ⟨g, k * 5, none⟩ (.int .i64 ds[k].o)).setCell ⟨g, k * 5 + 1, none⟩ (.int .i64 ds[k].a)).setCell ⟨g, k * 5 + 2, none⟩ (.int .i64 ds[k].b)).setCell ⟨g, k * 5 + 3, none⟩ (.int .i64 ds[k].c)).setCell ⟨g, k * 5 + 4, none⟩ u) (put5 ys k (.int .i64 ds[k].o) (.int .i64 ds[k].a) (.int .i64 ds[k].b) (.int .i64 ds[k].c) u) ds (k + 1) := fun i hi hik => by
  rw [size_set5]
  by_cases e : i = k
  · subst e
    exact ⟨u, put5_same _ _ _ _ _ _ _ hy, hu.keep (kp_set5 _ _ _ _ _ _ _ _ (Ow.not hg)), hs⟩
  · obtain ⟨u', hf, hr, hs'⟩ := h i hi (by omega)
    exact ⟨u', put5_other e hf, ((hr.keep (Ow.below hb)).mono (Ow.mono (Nat.le_refl _) hb.size)).keep (kp_set5 _ _ _ _ _ _ _ _ (Ow.not hg)), hs'⟩

set_option maxHeartbeats 2000000 in
set_option maxRecDepth 100000 in
theorem toCmpS_c (S : Nat → Prop) (v : Value) (ds : List CmpD) (w : World) (hv : CmpsIn S w v ds) (hB : ∀ b, S b → b < w.heap.size) (hw : wtC ds ≤ 1048576) :
    Calls Try.prog 57 #[v] w fun e w' => ∃ g, e = .returned (.slice (some ⟨g, 0, none⟩) ds.length ds.length) ∧ CmpsIn (Ow w.heap.size w'.heap.size) w' (.slice (some ⟨g, 0, none⟩) ds.length ds.length) ds ∧ Below w.heap.size w w' := by
  obtain ⟨a, cap, rfl, hl, hc, ha⟩ := hv
  have hn := len_wtC ds
  have hlm : ds.length ≤ maxLen := hl
  unfold maxLen at hl
  obtain ⟨i0, hi, hz0, hz1, hz2⟩ := info_parts infoCmp
  go_enter Try.func57, Try.ntmps57
  go_wp2_with (first
    | (at_make; refine wpList_make_full _ rfl _ _ 83 rfl w.heap.size 49 i0 _ 5 Try.underlying83 hi hz0 hz1 _ _ _ _ ds.length rfl rfl rfl rfl (by rw [hz2]; omega) (by unfold maxLen; omega) (Nat.le_refl _) ?_))
  intro w1 hown hgrow
  have hb1 := below_of_grown hgrow
  have hs1 : w.heap.size + 1 ≤ w1.heap.size := by
    rcases hown.2 with ⟨h, _⟩ | ⟨g, cap, cur, h, _, hg, _⟩
    · simp at h
    · simp at h
      have := (Array.getElem?_eq_some_iff.1 hg).1
      omega
  obtain ⟨ys1, hown1⟩ : ∃ ys, w1.ownsRow w.heap.size 49 5 (.slice (some ⟨w.heap.size, 0, none⟩) ds.length ds.length) ds.length ys := ⟨_, hown⟩
  clear hgrow hown
  go_wp2_with fail
  go_loopw [4] (fun vi wr => ∃ (k : Nat) (ys : List Value), k ≤ ds.length ∧ vi = .int .i64 (k : Int) ∧ wr.ownsRow w.heap.size 49 5 (.slice (some ⟨w.heap.size, 0, none⟩) ds.length ds.length) ds.length ys ∧ Hid (LaidC (w.heap.size + 1) wr ys ds k) ∧ Below w.heap.size w wr ∧ w.heap.size + 1 ≤ wr.heap.size) (fun vi _ => ds.length - (intOf vi).toNat)
  case atStart => exact ⟨0, ys1, Nat.zero_le _, rfl, hown1, (fun i h h0 => by omega), hb1, hs1⟩
  case round =>
    obtain ⟨k, ys, hk, rfl, hownr, hy, hbr, hsr⟩ := hrel
    by_cases hlt' : k < ds.length
    · rcases ha with rfl | ⟨b, off, us, rfl, hlt, ha⟩
      · simp at hlt'
      obtain ⟨e0, e1, e2, e3, e4, hu, hsn⟩ := ha k hlt'
      have hlt2 : b < w.heap.size := hB b hlt
      rw [← hbr.cell (by simpa using hlt2)] at e0 e1 e2 e3 e4
      have hu' : Reads wr (us k) (strsV ds[k].ps) := (hu.keep (.of hbr hB)).reads (fun b h => Nat.lt_of_lt_of_le (hB b h) hbr.size)
      have hbk : bulkS ds[k].ps ≤ 1048576 := by have := bulk_wtC (List.getElem_mem hlt'); omega
      have hpl : ds[k].ps.length ≤ 1048576 := by unfold bulkS at hbk; omega
      have hown2 : ∀ w2, Below wr.heap.size wr w2 → w2.ownsRow w.heap.size 49 5 (.slice (some ⟨w.heap.size, 0, none⟩) ds.length ds.length) ds.length ys := fun w2 h2 => hownr.kept (grown_of_below h2 none) (by simp [Value.ownBlock])
      have hlen := hownr.1
      have hcl : ∀ w2, Below wr.heap.size wr w2 → ∀ j, j < 5 → ∃ x, w2.cell? ⟨w.heap.size, k * 5 + j, none⟩ = some x := fun w2 h2 j hj => ⟨ys.getD (k * 5 + j) undef, by rw [(hown2 w2 h2).cellAt _ (by omega)]; simp [List.getD_eq_getElem?_getD, show k * 5 + j < ys.length by omega]⟩
      have hfr : ∀ w2, Below wr.heap.size wr w2 → ∀ j, w2.frozen? ⟨w.heap.size, j, none⟩ = false := fun w2 h2 j => (hown2 w2 h2).frozenAt j
      have HC : Hid (∀ w2, Below wr.heap.size wr w2 → ∀ j, j < 5 → ∃ x, w2.cell? ⟨w.heap.size, k * 5 + j, none⟩ = some x) := hcl
      have HF : Hid (∀ w2, Below wr.heap.size wr w2 → ∀ j, w2.frozen? ⟨w.heap.size, j, none⟩ = false) := hfr
      have HO : Hid (∀ w2, Below wr.heap.size wr w2 → w2.ownsRow w.heap.size 49 5 (.slice (some ⟨w.heap.size, 0, none⟩) ds.length ds.length) ds.length ys) := hown2
      have HST : Hid (∀ w2 u, Below wr.heap.size wr w2 → RdB (Ow (w.heap.size + 1) w2.heap.size) w2 u (strsV ds[k].ps) → LaidC (w.heap.size + 1) (((((w2.setCell ⟨w.heap.size, k * 5, none⟩ (.int .i64 ds[k].o)).setCell ⟨w.heap.size, k * 5 + 1, none⟩ (.int .i64 ds[k].a)).setCell ⟨w.heap.size, k * 5 + 2, none⟩ (.int .i64 ds[k].b)).setCell ⟨w.heap.size, k * 5 + 3, none⟩ (.int .i64 ds[k].c)).setCell ⟨w.heap.size, k * 5 + 4, none⟩ u) (put5 ys k (.int .i64 ds[k].o) (.int .i64 ds[k].a) (.int .i64 ds[k].b) (.int .i64 ds[k].c) u) ds (k + 1)) := fun w2 u h2 hr => hy.out.step hlt' (by omega) h2 (by omega) hr hsn
      obtain ⟨d, hd⟩ : ∃ d, d = ds[k] := ⟨_, rfl⟩
      rw [← hd] at e0 e1 e2 e3 hu' hpl HST
      obtain ⟨u, hu0⟩ : ∃ u, u = us k := ⟨_, rfl⟩
      rw [← hu0] at e4 hu'
      obtain ⟨uq, ucap, rfl, _, _⟩ := reads_strs hu'
      have hki : (k : Int) < (ds.length : Int) := by omega
      clear ha hd hu hu0 hcl hfr hown2 hi hz0 hz1 hz2 hown1 hb1 hbk hsn
      go_wp2_with (go_at_call 25; refine (toCmp_o _ _ _ _ _ d.ps wr hu' hpl).mono ?_; rintro e w2 ⟨g, rfl, hX, hb2⟩; obtain ⟨y0, d0⟩ := HC.out w2 hb2 0 (by omega); obtain ⟨y1, d1⟩ := HC.out w2 hb2 1 (by omega); obtain ⟨y2, d2⟩ := HC.out w2 hb2 2 (by omega); obtain ⟨y3, d3⟩ := HC.out w2 hb2 3 (by omega); obtain ⟨y4, d4⟩ := HC.out w2 hb2 4 (by omega); rw [Nat.add_zero] at d0; have f9 := HF.out w2 hb2)
      go_roundw
      case rel =>
        have hst := HST.out w2 _ hb2 ((rdB_owns hX).mono (Ow.mono hsr (Nat.le_refl _)))
        refine ⟨k + 1, _, by omega, by go_num, (((((HO.out w2 hb2).stored (k * 5) _).1.stored (k * 5 + 1) _).1.stored (k * 5 + 2) _).1.stored (k * 5 + 3) _).1.stored (k * 5 + 4) _ |>.1, hst, ?_, ?_⟩
        · have b2 := hbr.trans (hb2.mono (by omega))
          refine Below.setCell (Below.setCell (Below.setCell (Below.setCell (Below.setCell b2 ?_ _) ?_ _) ?_ _) ?_ _) ?_ _ <;> simp
        · rw [size_set5]; have := hb2.size; omega
      case measure => simp [intOf]; omega
    · have he : k = ds.length := by omega
      subst he
      clear ha
      go_wp2_with fail
      go_ret
      exact ⟨_, rfl, cmpsIn_owns hownr rfl hlm (Nat.le_refl _) hy.out, hbr⟩

/-- What is laid so far of a copy: the lists below k. -/
def LaidR (lo : Nat) (w : World) (ys : List Value) (dss : List (List CmpD)) (k : Nat) : Prop :=
  ys.length = dss.length ∧ ∀ i (h : i < dss.length), i < k → ∃ u, ys[i]? = some u ∧ CmpsIn (Ow lo w.heap.size) w u dss[i]

theorem LaidR.step {lo : Nat} {w w2 : World} {ys : List Value} {dss : List (List CmpD)} {k : Nat} (h : LaidR lo w ys dss k) (hk : k < dss.length) (hb : Below w.heap.size w w2) {g : Nat} (hg : g < lo) {u : Value}
    (hu : CmpsIn (Ow lo w2.heap.size) w2 u dss[k]) : LaidR lo (w2.setCell ⟨g, k, none⟩ u) (ys.set k u) dss (k + 1) := by
  refine ⟨by simp [h.1], fun i hi hik => ?_⟩
  have hz : (w2.setCell ⟨g, k, none⟩ u).heap.size = w2.heap.size := by simp [World.setCell]
  rw [hz]
  by_cases e : i = k
  · subst e
    exact ⟨u, by simp [h.1, hk], hu.keep (Kp.set (Ow.not hg))⟩
  · obtain ⟨u', hf, hr⟩ := h.2 i hi (by omega)
    exact ⟨u', by rw [List.getElem?_set_ne (by omega)]; exact hf, ((hr.keep (Ow.below hb)).mono (Ow.mono (Nat.le_refl _) hb.size)).keep (Kp.set (Ow.not hg))⟩

theorem rangeIn_owns {w : World} {lo g n : Nat} {ys : List Value} {dss : List (List CmpD)} (hg : w.ownsRow lo 83 1 (.slice (some ⟨g, 0, none⟩) n n) n ys) (hn : n = dss.length) (hl : dss.length ≤ maxLen) (hlo : lo ≤ g)
    (h : LaidR (lo + 1) w ys dss dss.length) : RangeIn (Ow lo w.heap.size) w (.slice (some ⟨g, 0, none⟩) dss.length dss.length) dss := by
  subst hn
  refine ⟨_, _, rfl, hl, Nat.le_refl _, ?_⟩
  by_cases h0 : dss = []
  · exact .inl h0
  · have hpos : 0 < dss.length := List.length_pos_iff.2 h0
    have hgl : g < w.heap.size := by
      rcases hg.2 with ⟨hh, _⟩ | ⟨g', cap, cur, hh, _, hg', _⟩
      · simp at hh
      · simp at hh
        have := (Array.getElem?_eq_some_iff.1 hg').1
        omega
    refine .inr ⟨g, 0, fun i => ys.getD i undef, rfl, ⟨hlo, hgl⟩, fun i hi => ?_⟩
    obtain ⟨u, hu, hr⟩ := h.2 i hi hi
    have e : ys.getD i undef = u := by simp [List.getD_eq_getElem?_getD, hu]
    show w.cell? ⟨g, 0 + i, none⟩ = some (ys.getD i undef) ∧ CmpsIn (Ow lo w.heap.size) w (ys.getD i undef) dss[i]
    rw [e, Nat.zero_add]
    exact ⟨(hg.cellAt i (by omega)).trans hu, hr.mono (Ow.mono (by omega) (Nat.le_refl _))⟩

set_option maxHeartbeats 2000000 in
set_option maxRecDepth 100000 in
theorem toCmpSS_c (S : Nat → Prop) (v : Value) (dss : List (List CmpD)) (w : World) (hv : RangeIn S w v dss) (hB : ∀ b, S b → b < w.heap.size) (hw : wtR dss ≤ 1048576) :
    Calls Try.prog 32 #[v] w fun e w' => ∃ g, e = .returned (.slice (some ⟨g, 0, none⟩) dss.length dss.length) ∧ RangeIn (Ow w.heap.size w'.heap.size) w' (.slice (some ⟨g, 0, none⟩) dss.length dss.length) dss ∧ Below w.heap.size w w' := by
  obtain ⟨a, cap, rfl, hl, hc, ha⟩ := hv
  have hn := len_wtR dss
  have hlm : dss.length ≤ maxLen := hl
  unfold maxLen at hl
  obtain ⟨i0, hi, hz0, hz1, hz2⟩ := info_parts infoCmps
  go_enter Try.func32, Try.ntmps32
  go_wp2_with (first
    | (at_make; refine wpList_make_full _ rfl _ _ 57 rfl w.heap.size 83 i0 (.slice none 0 0) 1 Try.underlying57 hi hz0 hz1 _ _ _ _ dss.length rfl rfl rfl rfl (by rw [hz2]; omega) (by unfold maxLen; omega) (Nat.le_refl _) ?_))
  intro w1 hown hgrow
  have hb1 := below_of_grown hgrow
  have hs1 : w.heap.size + 1 ≤ w1.heap.size := by
    rcases hown.2 with ⟨h, _⟩ | ⟨g, cap, cur, h, _, hg, _⟩
    · simp at h
    · simp at h
      have := (Array.getElem?_eq_some_iff.1 hg).1
      omega
  obtain ⟨ys1, hl1, hown1⟩ : ∃ ys, ys.length = dss.length ∧ w1.ownsRow w.heap.size 83 1 (.slice (some ⟨w.heap.size, 0, none⟩) dss.length dss.length) dss.length ys := ⟨_, by simpa using hown.1, hown⟩
  clear hgrow hown
  go_wp2_with fail
  go_loopw [4] (fun vi wr => ∃ (k : Nat) (ys : List Value), k ≤ dss.length ∧ vi = .int .i64 (k : Int) ∧ wr.ownsRow w.heap.size 83 1 (.slice (some ⟨w.heap.size, 0, none⟩) dss.length dss.length) dss.length ys ∧ Hid (LaidR (w.heap.size + 1) wr ys dss k) ∧ Below w.heap.size w wr ∧ w.heap.size + 1 ≤ wr.heap.size) (fun vi _ => dss.length - (intOf vi).toNat)
  case atStart => exact ⟨0, ys1, Nat.zero_le _, rfl, hown1, ⟨hl1, fun i h h0 => by omega⟩, hb1, hs1⟩
  case round =>
    obtain ⟨k, ys, hk, rfl, hownr, hy, hbr, hsr⟩ := hrel
    by_cases hlt' : k < dss.length
    · rcases ha with rfl | ⟨b, off, vs, rfl, hlt, ha⟩
      · simp at hlt'
      obtain ⟨e0, hu⟩ := ha k hlt'
      have hlt2 : b < w.heap.size := hB b hlt
      rw [← hbr.cell (by simpa using hlt2)] at e0
      have hu' : CmpsIn S wr (vs k) dss[k] := hu.keep (.of hbr hB)
      have hBr : ∀ b, S b → b < wr.heap.size := fun b h => Nat.lt_of_lt_of_le (hB b h) hbr.size
      have hwt : wtC dss[k] ≤ 1048576 := by have := wtC_wtR (List.getElem_mem hlt'); omega
      have hown2 : ∀ w2, Below wr.heap.size wr w2 → w2.ownsRow w.heap.size 83 1 (.slice (some ⟨w.heap.size, 0, none⟩) dss.length dss.length) dss.length ys := fun w2 h2 => owns_of_below hownr h2
      have hcl : ∀ w2, Below wr.heap.size wr w2 → w2.cell? ⟨w.heap.size, k, none⟩ = some (ys.getD k undef) := fun w2 h2 => by
        rw [(hown2 w2 h2).cellAt k (by omega)]; simp [List.getD_eq_getElem?_getD, hy.out.1, hlt']
      have hfr : ∀ w2, Below wr.heap.size wr w2 → ∀ j, w2.frozen? ⟨w.heap.size, j, none⟩ = false := fun w2 h2 j => (hown2 w2 h2).frozenAt j
      have HC : Hid (∀ w2, Below wr.heap.size wr w2 → w2.cell? ⟨w.heap.size, k, none⟩ = some (ys.getD k undef)) := hcl
      have HF : Hid (∀ w2, Below wr.heap.size wr w2 → ∀ j, w2.frozen? ⟨w.heap.size, j, none⟩ = false) := hfr
      have HO : Hid (∀ w2, Below wr.heap.size wr w2 → w2.ownsRow w.heap.size 83 1 (.slice (some ⟨w.heap.size, 0, none⟩) dss.length dss.length) dss.length ys) := hown2
      have HST : Hid (∀ w2 u, Below wr.heap.size wr w2 → CmpsIn (Ow (w.heap.size + 1) w2.heap.size) w2 u dss[k] → LaidR (w.heap.size + 1) (w2.setCell ⟨w.heap.size, k, none⟩ u) (ys.set k u) dss (k + 1)) := fun w2 u h2 hr => hy.out.step hlt' h2 (by omega) hr
      obtain ⟨d, hd⟩ : ∃ d, d = dss[k] := ⟨_, rfl⟩
      rw [← hd] at hu' hwt HST
      obtain ⟨u, hu0⟩ : ∃ u, u = vs k := ⟨_, rfl⟩
      rw [← hu0] at e0 hu'
      obtain ⟨uq, ucap, hu2, _⟩ := id hu'
      subst hu2
      have hki : (k : Int) < (dss.length : Int) := by omega
      clear ha hd hu hu0 hcl hfr hown2 hi hz0 hz1 hz2 hown1 hb1 hl1
      go_wp2_with (go_at_call 57; refine (toCmpS_c S _ d wr hu' hBr hwt).mono ?_; rintro e w2 ⟨g, rfl, hX, hb2⟩; have d0 := HC.out w2 hb2; have f9 := HF.out w2 hb2)
      go_roundw
      case rel =>
        have hst := HST.out w2 _ hb2 (hX.mono (Ow.mono hsr (Nat.le_refl _)))
        refine ⟨k + 1, _, by omega, by go_num, ((HO.out w2 hb2).stored k _).1, hst, ?_, ?_⟩
        · exact Below.setCell (hbr.trans (hb2.mono (by omega))) (by simp) _
        · have := hb2.size; simp [World.setCell]; omega
      case measure => simp [intOf]; omega
    · have he : k = dss.length := by omega
      subst he
      clear ha
      go_wp2_with fail
      go_ret
      exact ⟨_, rfl, rangeIn_owns hownr rfl hlm (Nat.le_refl _) hy.out, hbr⟩
end Go.Proofs.Ytdnpfkknnaepoaa
