/-
  Files, and lists of files, that lie in memory; how much they hold, copies of them, and whether two are alike, as the law's helpers work it out: contracts for the walks; conditions as each says.
-/
import Derived.Test.YtbkmjbjiagkjmaaKeep
namespace Go.Proofs.Ytbkmjbjiagkjmaa
open Go.RowKit
set_option linter.unusedSimpArgs false
set_option linter.unusedVariables false

structure FileD where
  p : ByteArray
  t : ByteArray

def saneF (f : FileD) : Prop := f.p.size ≤ maxLen ∧ f.t.size ≤ maxLen

/-- The two cells from place j on in block b are the file f. -/
def FileAt (w : World) (b j : Nat) (f : FileD) : Prop := w.cell? ⟨b, j, none⟩ = some (.string f.p) ∧ w.cell? ⟨b, j + 1, none⟩ = some (.string f.t)

/-- The list of files v is fs. -/
def FilesIn (S : Nat → Prop) (w : World) (v : Value) (fs : List FileD) : Prop :=
  ∃ q cap, v = .slice q fs.length cap ∧ fs.length ≤ maxLen ∧ fs.length ≤ cap ∧ (∀ f ∈ fs, saneF f) ∧ (fs = [] ∨ ∃ (b off : Nat), q = some ⟨b, off, none⟩ ∧ S b ∧ ∀ k (h : k < fs.length), FileAt w b (off + k * 2) fs[k])
theorem FilesIn.keep {S : Nat → Prop} {w w' : World} {v : Value} {fs : List FileD} (hk : Kp S w w') (h : FilesIn S w v fs) : FilesIn S w' v fs := by
  obtain ⟨q, cap, hv, hm, hc, hs, h⟩ := h
  refine ⟨q, cap, hv, hm, hc, hs, ?_⟩
  rcases h with h | ⟨b, off, hq, hb, h⟩
  · exact .inl h
  · exact .inr ⟨b, off, hq, hb, fun k hh => ⟨(hk.cell hb _).trans (h k hh).1, (hk.cell hb _).trans (h k hh).2⟩⟩
theorem FilesIn.mono {S S' : Nat → Prop} {w : World} {v : Value} {fs : List FileD} (hS : ∀ b, S b → S' b) (h : FilesIn S w v fs) : FilesIn S' w v fs := by
  obtain ⟨q, cap, hv, hm, hc, hs, h⟩ := h
  refine ⟨q, cap, hv, hm, hc, hs, ?_⟩
  rcases h with h | ⟨b, off, hq, hb, h⟩
  · exact .inl h
  · exact .inr ⟨b, off, hq, hS b hb, h⟩
theorem FilesIn.below {w w' : World} {v : Value} {fs : List FileD} (h : FilesIn (· < w.heap.size) w v fs) (hb : Below w.heap.size w w') : FilesIn (· < w'.heap.size) w' v fs :=
  (h.keep (.of hb (fun b h => h))).mono (fun b h => Nat.lt_of_lt_of_le h hb.size)

/-- How much a file, and a list of them, holds, as the law counts it. -/
def wt1 (f : FileD) : Nat := f.p.size + f.t.size
def wtF (fs : List FileD) : Nat := (fs.map fun f => 1 + wt1 f).sum
theorem wtF_take (fs : List FileD) (k : Nat) (h : k < fs.length) : wtF (fs.take (k + 1)) = wtF (fs.take k) + (1 + wt1 fs[k]) := by
  rw [wtF, wtF, List.take_succ_eq_append_getElem h]; simp only [List.map_append, List.sum_append, List.map_cons, List.map_nil, List.sum_cons, List.sum_nil, Nat.add_zero]
theorem wtF_split (fs : List FileD) (k : Nat) : wtF fs = wtF (fs.take k) + wtF (fs.drop k) := by
  rw [wtF, wtF, wtF, ← List.sum_append, ← List.map_append, List.take_append_drop]
theorem len_wtF (fs : List FileD) : fs.length ≤ wtF fs := by
  induction fs with
  | nil => simp [wtF]
  | cons d ds ih => simp [wtF] at ih ⊢; omega
theorem wt1_wtF {fs : List FileD} {f : FileD} (h : f ∈ fs) : wt1 f ≤ wtF fs := by
  induction fs with
  | nil => simp at h
  | cons x fs ih =>
    simp [wtF] at ih ⊢
    rcases List.mem_cons.1 h with rfl | h
    · omega
    · have := ih h; omega

theorem szFile_c (f : FileD) (hf : saneF f) (left : Int) (h0 : 0 ≤ left) (h1 : left ≤ 1048576) (w : World) :
    Calls Try.prog 91 #[.agg #[.string f.p, .string f.t], .int .i64 left] w fun e w' => e = .returned (.int .i64 (leftW (wt1 f) left)) ∧ Below w.heap.size w w' := by
  obtain ⟨hp, ht⟩ := hf
  unfold maxLen at hp ht
  have hbx : ∀ o, Below w.heap.size w (w.alloc o) := fun o => (Below.refl _ _).alloc (Nat.le_refl _) _
  by_cases hn : left - (f.p.size : Int) < 0
  · have e : leftW (wt1 f) left = -1 := leftW_bad (by unfold wt1; omega)
    rw [e]
    go_enter Try.func91, Try.ntmps91
    go_wp2_with fail
    go_ret
    exact ⟨rfl, hbx _⟩
  by_cases hn2 : left - (f.p.size : Int) - (f.t.size : Int) < 0
  · have e : leftW (wt1 f) left = -1 := leftW_bad (by unfold wt1; omega)
    rw [e]
    go_enter Try.func91, Try.ntmps91
    go_wp2_with fail
    go_ret
    exact ⟨rfl, hbx _⟩
  · have e : leftW (wt1 f) left = left - (f.p.size : Int) - (f.t.size : Int) := by rw [leftW_good (by unfold wt1; omega)]; unfold wt1; omega
    rw [e]
    go_enter Try.func91, Try.ntmps91
    go_wp2_with fail
    go_ret
    exact ⟨rfl, hbx _⟩

set_option maxHeartbeats 2000000 in
set_option maxRecDepth 100000 in
theorem szFileS_c (S : Nat → Prop) (v : Value) (fs : List FileD) (left : Int) (h0 : 0 ≤ left) (h1 : left ≤ 1048576) (w : World) (hv : FilesIn S w v fs) (hB : ∀ b, S b → b < w.heap.size) :
    Calls Try.prog 45 #[v, .int .i64 left] w fun e w' => e = .returned (.int .i64 (leftW (wtF fs) left)) ∧ Below w.heap.size w w' := by
  obtain ⟨a, cap, rfl, hl, hc, hsn, ha⟩ := hv
  unfold maxLen at hl
  by_cases hneg : left - (fs.length : Int) < 0
  · have e : leftW (wtF fs) left = -1 := leftW_bad (by have := len_wtF fs; omega)
    rw [e]
    clear ha hsn
    go_enter Try.func45, Try.ntmps45
    go_wp2_with fail
    go_ret
    exact ⟨rfl, Below.refl _ _⟩
  · go_enter Try.func45, Try.ntmps45
    go_wp2_with fail
    go_loopw [1, 5] (fun vl vi wr => ∃ (k : Nat) (q : Int), k ≤ fs.length ∧ vi = .int .i64 (k : Int) ∧ vl = .int .i64 q ∧ 0 ≤ q ∧ q ≤ 1048576 ∧ Hid (q = left - (fs.length : Int) - (wtF (fs.take k) : Int) + (k : Int)) ∧ Below w.heap.size w wr) (fun _ vi _ => fs.length - (intOf vi).toNat)
    case atStart => exact ⟨0, _, Nat.zero_le _, rfl, rfl, by omega, by omega, by show _ = _; simp [wtF], Below.refl _ _⟩
    case round =>
      obtain ⟨k, q, hk, rfl, rfl, hq0, hq1, hq, hbr⟩ := hrel
      by_cases hlt' : k < fs.length
      · rcases ha with rfl | ⟨b, off, rfl, hlt, ha⟩
        · simp at hlt'
        obtain ⟨e0, e1⟩ := ha k hlt'
        have hlt2 : b < w.heap.size := hB b hlt
        rw [← hbr.cell (by simpa using hlt2)] at e0 e1
        have hwt := wtF_take fs k hlt'
        have hsp := wtF_split fs (k + 1)
        have hln := len_wtF (fs.drop (k + 1))
        have hdl : (fs.drop (k + 1)).length = fs.length - (k + 1) := by simp
        have hsk := hsn fs[k] (List.getElem_mem hlt')
        obtain ⟨d, hd⟩ : ∃ d, d = fs[k] := ⟨_, rfl⟩
        rw [← hd] at e0 e1 hsk hwt
        have HW : Hid (wtF (fs.take (k + 1)) = wtF (fs.take k) + (1 + wt1 d)) := hwt
        have HSP : Hid (wtF fs = wtF (fs.take (k + 1)) + wtF (fs.drop (k + 1)) ∧ fs.length - (k + 1) ≤ wtF (fs.drop (k + 1))) := ⟨hsp, by omega⟩
        have hki : (k : Int) < (fs.length : Int) := by omega
        obtain ⟨p, hp⟩ : ∃ p, p = leftW (wt1 d) q := ⟨_, rfl⟩
        have HP : Hid (p = leftW (wt1 d) q) := hp
        clear ha hwt hd hp hsp hln hdl hsn
        by_cases hpn : p < 0
        · go_wp2_with (go_at_call 91; refine (szFile_c d hsk q hq0 hq1 _).mono ?_; rintro e w1 ⟨rfl, hb1⟩; rw [← HP.out])
          go_ret
          have e : leftW (wtF fs) left = -1 := by
            have h2 := HP.out; have h3 := hq.out; have h4 := HW.out; have h5 := HSP.out
            refine leftW_bad ?_
            by_cases h6 : ((wt1 d : Nat) : Int) ≤ q
            · rw [leftW_good h6] at h2; omega
            · omega
          exact ⟨by rw [e]; rfl, hbr.trans (hb1.mono hbr.size)⟩
        · go_wp2_with (go_at_call 91; refine (szFile_c d hsk q hq0 hq1 _).mono ?_; rintro e w1 ⟨rfl, hb1⟩; rw [← HP.out])
          go_roundw
          case rel =>
            have h2 := HP.out; have h3 := hq.out; have h4 := HW.out
            have h6 : ((wt1 d : Nat) : Int) ≤ q := by
              by_cases h6 : ((wt1 d : Nat) : Int) ≤ q
              · exact h6
              · rw [leftW_bad (by omega)] at h2; omega
            rw [leftW_good h6] at h2
            exact ⟨k + 1, p, by omega, by go_num, rfl, by omega, by omega, (by show _ = _; omega), hbr.trans (hb1.mono hbr.size)⟩
          case measure => simp [intOf]; omega
      · have he : k = fs.length := by omega
        subst he
        clear ha hsn
        go_wp2_with fail
        go_ret
        have e : leftW (wtF fs) left = q := by
          have h3 := hq.out
          rw [List.take_length] at h3
          rw [leftW_good (by omega)]; omega
        exact ⟨by rw [e]; rfl, hbr⟩

set_option maxHeartbeats 1000000 in
theorem toFile_c (f : FileD) (w : World) :
    Calls Try.prog 92 #[.agg #[.string f.p, .string f.t]] w fun e w' => e = .returned (.agg #[.string f.p, .string f.t]) ∧ Below w.heap.size w w' := by
  go_enter Try.func92, Try.ntmps92
  go_wp2_with fail
  refine bodyPost_ret (v := .agg #[.string f.p, .string f.t]) (by simp [results, Try.results92, go_sem]) rfl ⟨rfl, ?_⟩
  exact (((Below.refl _ _).alloc (Nat.le_refl _) _).alloc (by simp) _).alloc (by simp; omega) _

/-- The cells of a list of files. -/
def cellsF (fs : List FileD) : List Value := fs.flatMap fun f => [.string f.p, .string f.t]
theorem cellsF_length (fs : List FileD) : (cellsF fs).length = fs.length * 2 := by
  induction fs with
  | nil => rfl
  | cons f fs ih => simp only [cellsF, List.flatMap_cons, List.length_append, List.length_cons, List.length_nil] at ih ⊢; omega
theorem cellsF_append (a b : List FileD) : cellsF (a ++ b) = cellsF a ++ cellsF b := by simp [cellsF]
theorem cellsF_at (fs : List FileD) : ∀ (k : Nat) (h : k < fs.length), (cellsF fs)[k * 2]? = some (.string fs[k].p) ∧ (cellsF fs)[k * 2 + 1]? = some (.string fs[k].t) := by
  induction fs with
  | nil => intro k h; simp at h
  | cons f fs ih =>
    intro k h
    cases k with
    | zero => simp [cellsF]
    | succ k =>
      have := ih k (by simpa using h)
      have e : cellsF (f :: fs) = [.string f.p, .string f.t] ++ cellsF fs := by simp [cellsF]
      rw [e, List.getElem?_append_right (by simp; omega), List.getElem?_append_right (by simp; omega)]
      simp only [List.length_cons, List.length_nil, List.getElem_cons_succ]
      rw [show (k + 1) * 2 - (0 + 1 + 1) = k * 2 by omega, show (k + 1) * 2 + 1 - (0 + 1 + 1) = k * 2 + 1 by omega]
      exact this

theorem filesIn_owns {w : World} {lo n : Nat} {e : TypeId} {v : Value} {fs : List FileD} (hg : w.ownsRow lo e 2 v n (cellsF fs)) (hs : ∀ f ∈ fs, saneF f) : FilesIn (Ow lo w.heap.size) w v fs := by
  have hlen := hg.1
  rw [cellsF_length] at hlen
  have hn : n = fs.length := by omega
  subst hn
  rcases hg.2 with ⟨rfl, h0⟩ | ⟨g, cap, cur, rfl, hlo, hg', hcap, hmax, _⟩
  · refine ⟨_, _, by rw [h0], by rw [h0]; exact Nat.zero_le _, by omega, hs, .inl (List.eq_nil_of_length_eq_zero h0)⟩
  · have hgl := (Array.getElem?_eq_some_iff.1 hg').1
    refine ⟨_, _, rfl, by omega, hcap, hs, .inr ⟨g, 0, rfl, ⟨hlo, hgl⟩, fun k hk => ?_⟩⟩
    obtain ⟨h1, h2⟩ := cellsF_at fs k hk
    rw [Nat.zero_add]
    exact ⟨(hg.cellAt _ (by omega)).trans h1, (hg.cellAt _ (by omega)).trans h2⟩

theorem infoFile : (Try.prog.info? 26).map (fun i => (i.zero, i.size, i.bytes)) = some (some (.agg #[.string ⟨#[]⟩, .string ⟨#[]⟩]), 2, 32) := by kernel_rfl

theorem set2_step {ys : List Value} {fs : List FileD} {k : Nat} (hk : k < fs.length) (h : ys.length = fs.length * 2 ∧ ∀ j, j < k * 2 → ys[j]? = (cellsF fs)[j]?) :
    ((ys.set (k * 2) (.string fs[k].p)).set (k * 2 + 1) (.string fs[k].t)).length = fs.length * 2 ∧ ∀ j, j < (k + 1) * 2 → ((ys.set (k * 2) (.string fs[k].p)).set (k * 2 + 1) (.string fs[k].t))[j]? = (cellsF fs)[j]? := by
  refine ⟨by simp [h.1], fun j hj => ?_⟩
  obtain ⟨h1, h2⟩ := cellsF_at fs k hk
  by_cases e1 : j = k * 2 + 1
  · subst e1
    rw [h2, List.getElem?_set_self (by simp [h.1]; omega)]
  · rw [List.getElem?_set_ne (by omega)]
    by_cases e0 : j = k * 2
    · subst e0
      rw [h1, List.getElem?_set_self (by omega)]
    · rw [List.getElem?_set_ne (by omega)]
      exact h.2 j (by omega)

set_option maxHeartbeats 2000000 in
set_option maxRecDepth 100000 in
theorem toFileS_c (S : Nat → Prop) (v : Value) (fs : List FileD) (w : World) (hv : FilesIn S w v fs) (hB : ∀ b, S b → b < w.heap.size) (hw : fs.length ≤ 1048576) :
    Calls Try.prog 48 #[v] w fun e w' => ∃ g, e = .returned (.slice (some ⟨g, 0, none⟩) fs.length fs.length) ∧ w'.ownsRow w.heap.size 26 2 (.slice (some ⟨g, 0, none⟩) fs.length fs.length) fs.length (cellsF fs) ∧ Below w.heap.size w w' := by
  obtain ⟨a, cap, rfl, hl, hc, hsn, ha⟩ := hv
  unfold maxLen at hl
  obtain ⟨i0, hi, hz0, hz1, hz2⟩ := info_parts infoFile
  go_enter Try.func48, Try.ntmps48
  go_wp2_with (first
    | (at_make; refine wpList_make_full _ rfl _ _ 24 rfl w.heap.size 26 i0 _ 2 Try.underlying24 hi hz0 hz1 _ _ _ _ fs.length rfl rfl rfl rfl (by rw [hz2]; omega) (by unfold maxLen; omega) (Nat.le_refl _) ?_))
  intro w1 hown hgrow
  have hb1 := below_of_grown hgrow
  have hs1 : w.heap.size + 1 ≤ w1.heap.size := by
    rcases hown.2 with ⟨h, _⟩ | ⟨g, cap, cur, h, _, hg, _⟩
    · simp at h
    · simp at h
      have := (Array.getElem?_eq_some_iff.1 hg).1
      omega
  obtain ⟨ys1, hl1, hown1⟩ : ∃ ys, ys.length = fs.length * 2 ∧ w1.ownsRow w.heap.size 26 2 (.slice (some ⟨w.heap.size, 0, none⟩) fs.length fs.length) fs.length ys := ⟨_, hown.1, hown⟩
  clear hgrow hown
  go_wp2_with fail
  go_loopw [4] (fun vi wr => ∃ (k : Nat) (ys : List Value), k ≤ fs.length ∧ vi = .int .i64 (k : Int) ∧ wr.ownsRow w.heap.size 26 2 (.slice (some ⟨w.heap.size, 0, none⟩) fs.length fs.length) fs.length ys ∧ Hid (ys.length = fs.length * 2 ∧ ∀ j, j < k * 2 → ys[j]? = (cellsF fs)[j]?) ∧ Below w.heap.size w wr ∧ w.heap.size + 1 ≤ wr.heap.size) (fun vi _ => fs.length - (intOf vi).toNat)
  case atStart => exact ⟨0, ys1, Nat.zero_le _, rfl, hown1, ⟨hl1, fun j h0 => by omega⟩, hb1, hs1⟩
  case round =>
    obtain ⟨k, ys, hk, rfl, hownr, hy, hbr, hsr⟩ := hrel
    by_cases hlt' : k < fs.length
    · rcases ha with rfl | ⟨b, off, rfl, hlt, ha⟩
      · simp at hlt'
      obtain ⟨e0, e1⟩ := ha k hlt'
      have hlt2 : b < w.heap.size := hB b hlt
      rw [← hbr.cell (by simpa using hlt2)] at e0 e1
      have hown2 : ∀ w2, Below wr.heap.size wr w2 → w2.ownsRow w.heap.size 26 2 (.slice (some ⟨w.heap.size, 0, none⟩) fs.length fs.length) fs.length ys := fun w2 h2 => hownr.kept (grown_of_below h2 none) (by simp [Value.ownBlock])
      have hlen := hy.out.1
      have hcl : ∀ w2, Below wr.heap.size wr w2 → ∀ j, j < 2 → ∃ x, w2.cell? ⟨w.heap.size, k * 2 + j, none⟩ = some x := fun w2 h2 j hj => ⟨ys.getD (k * 2 + j) undef, by rw [(hown2 w2 h2).cellAt _ (by omega)]; simp [List.getD_eq_getElem?_getD, show k * 2 + j < ys.length by omega]⟩
      have hfr : ∀ w2, Below wr.heap.size wr w2 → ∀ j, w2.frozen? ⟨w.heap.size, j, none⟩ = false := fun w2 h2 j => (hown2 w2 h2).frozenAt j
      have HC : Hid (∀ w2, Below wr.heap.size wr w2 → ∀ j, j < 2 → ∃ x, w2.cell? ⟨w.heap.size, k * 2 + j, none⟩ = some x) := hcl
      have HF : Hid (∀ w2, Below wr.heap.size wr w2 → ∀ j, w2.frozen? ⟨w.heap.size, j, none⟩ = false) := hfr
      have HO : Hid (∀ w2, Below wr.heap.size wr w2 → w2.ownsRow w.heap.size 26 2 (.slice (some ⟨w.heap.size, 0, none⟩) fs.length fs.length) fs.length ys) := hown2
      have HST := set2_step hlt' hy.out
      obtain ⟨d, hd⟩ : ∃ d, d = fs[k] := ⟨_, rfl⟩
      rw [← hd] at e0 e1 HST
      have HS : Hid (((ys.set (k * 2) (.string d.p)).set (k * 2 + 1) (.string d.t)).length = fs.length * 2 ∧ ∀ j, j < (k + 1) * 2 → ((ys.set (k * 2) (.string d.p)).set (k * 2 + 1) (.string d.t))[j]? = (cellsF fs)[j]?) := HST
      have hki : (k : Int) < (fs.length : Int) := by omega
      clear ha hd hcl hfr hown2 hi hz0 hz1 hz2 hown1 hb1 HST hlen hsn hl1
      go_wp2_with (go_at_call 92; refine (toFile_c d wr).mono ?_; rintro e w2 ⟨rfl, hb2⟩; obtain ⟨y0, d0⟩ := HC.out w2 hb2 0 (by omega); obtain ⟨y1, d1⟩ := HC.out w2 hb2 1 (by omega); rw [Nat.add_zero] at d0; have f9 := HF.out w2 hb2)
      go_roundw
      case rel =>
        refine ⟨k + 1, _, by omega, by go_num, ((HO.out w2 hb2).stored (k * 2) _).1.stored (k * 2 + 1) _ |>.1, HS, ?_, ?_⟩
        · have b2 := hbr.trans (hb2.mono (by omega))
          refine Below.setCell (Below.setCell b2 ?_ _) ?_ _ <;> simp
        · have := hb2.size; simp [World.setCell]; omega
      case measure => simp [intOf]; omega
    · have he : k = fs.length := by omega
      subst he
      have e : ys = cellsF fs := List.ext_getElem? (fun j => by
        by_cases hj : j < fs.length * 2
        · exact hy.out.2 j hj
        · rw [List.getElem?_eq_none (by rw [hy.out.1]; omega), List.getElem?_eq_none (by rw [cellsF_length]; omega)])
      clear ha
      go_wp2_with fail
      go_ret
      rw [← e]
      exact ⟨_, rfl, hownr, hbr⟩

theorem eqFile_c (f : FileD) (w : World) :
    Calls Try.prog 93 #[.agg #[.string f.p, .string f.t], .agg #[.string f.p, .string f.t]] w fun e w' => e = .returned (.bool true) ∧ Below w.heap.size w w' := by
  have hbx : ∀ o o', Below w.heap.size w ((w.alloc o).alloc o') := fun o o' => ((Below.refl _ _).alloc (Nat.le_refl _) _).alloc (by simp) _
  go_enter Try.func93, Try.ntmps93
  go_wp2_with fail
  go_ret
  exact ⟨rfl, hbx _ _⟩

set_option maxHeartbeats 2000000 in
set_option maxRecDepth 100000 in
theorem eqFileS_c (S S' : Nat → Prop) (v u : Value) (fs : List FileD) (w : World) (hv : FilesIn S w v fs) (hv' : FilesIn S' w u fs) (hB : ∀ b, S b → b < w.heap.size) (hB' : ∀ b, S' b → b < w.heap.size) :
    Calls Try.prog 50 #[v, u] w fun e w' => e = .returned (.bool true) ∧ Below w.heap.size w w' := by
  obtain ⟨a, cap, rfl, hl, hc, hsn, ha⟩ := hv
  obtain ⟨a', cap', rfl, _, hc', _, ha'⟩ := hv'
  unfold maxLen at hl
  go_enter Try.func50, Try.ntmps50
  go_wp2_with fail
  go_loopw [5] (fun vi wr => ∃ k : Nat, k ≤ fs.length ∧ vi = .int .i64 (k : Int) ∧ Below w.heap.size w wr) (fun vi _ => fs.length - (intOf vi).toNat)
  case atStart => exact ⟨0, Nat.zero_le _, rfl, Below.refl _ _⟩
  case round =>
    obtain ⟨k, hk, rfl, hbr⟩ := hrel
    by_cases hlt' : k < fs.length
    · rcases ha with rfl | ⟨b, off, rfl, hlt, ha⟩
      · simp at hlt'
      rcases ha' with rfl | ⟨b', off', rfl, hlt3, ha'⟩
      · simp at hlt'
      obtain ⟨e0, e1⟩ := ha k hlt'
      obtain ⟨g0, g1⟩ := ha' k hlt'
      have hlt2 : b < w.heap.size := hB b hlt
      have hlt4 : b' < w.heap.size := hB' b' hlt3
      rw [← hbr.cell (by simpa using hlt2)] at e0 e1
      rw [← hbr.cell (by simpa using hlt4)] at g0 g1
      obtain ⟨d, hd⟩ : ∃ d, d = fs[k] := ⟨_, rfl⟩
      rw [← hd] at e0 e1 g0 g1
      have hki : (k : Int) < (fs.length : Int) := by omega
      clear ha ha' hd hsn
      go_wp2_with fail
      go_region_with (go_at_call 93; refine (eqFile_c d wr.drew).mono ?_; rintro e w2 ⟨rfl, hb2⟩)
      all_goals go_wp2_with fail
      all_goals go_roundw
      all_goals first
        | exact ⟨k + 1, by omega, by go_num, hbr.drew.trans (hb2.mono hbr.size)⟩
        | (simp [intOf]; omega)
    · have he : k = fs.length := by omega
      subst he
      clear ha ha' hsn
      go_wp2_with fail
      go_ret
      exact ⟨rfl, hbr⟩
end Go.Proofs.Ytbkmjbjiagkjmaa
