/-
  Contracts for the walks, several texts in one: each part says what it proves, and under which conditions.
-/
import Derived.SliceStrings
import Derived.ChangeArms
import Derived.ChangeOld
import Derived.ChangeAt
import Derived.OpenShut
import Derived.ShutString
import Derived.Test.YtablcicfagmhpaaQ2
import Derived.Test.YtablcicfagmhpaaQ7
import Derived.Test.YtablcicfagmhpaaQ1

/-! What is the same is told so by the law's own comparison: contracts for what lies in memory and holds at most 2 to the 20. -/
namespace Go.Proofs.Ytablcicfagmhpaa
open Go.RowKit
set_option linter.unusedSimpArgs false
set_option linter.unusedVariables false

set_option maxHeartbeats 2000000 in
set_option maxRecDepth 100000 in
theorem eqEntry_c (S S' : Nat → Prop) (d : EntryD) (cs cs' : List Value) (w : World) (hd : shEntry.lies S w cs d) (hd' : shEntry.lies S' w cs' d) (hB : ∀ b, S b → b < w.heap.size) (hB' : ∀ b, S' b → b < w.heap.size) (hw : wtEntry d ≤ 1048576) :
    Calls Try.prog 19 #[.agg cs.toArray, .agg cs'.toArray] w fun e w' => e = .returned (.bool true) ∧ Below w.heap.size w w' := by
  obtain ⟨xu0, xu1, rfl, xs_name, xr0, xp0, xr1⟩ := hd
  obtain ⟨yu0, yu1, rfl, ys_name, yr0, yp0, yr1⟩ := hd'
  have hb2 : ∀ A R, Below w.heap.size w ((w.alloc A).alloc R) := fun A R => ((Below.refl _ _).alloc (Nat.le_refl _) _).alloc (by simp) _
  unfold wtEntry at hw
  have HS0 : Hid (∀ w1, Below w.heap.size w w1 → Calls Try.prog 39 #[.agg #[.int .i64 d.vA, .int .i64 d.vB, .int .i64 d.vC, xu0], .agg #[.int .i64 d.vA, .int .i64 d.vB, .int .i64 d.vC, yu0]] w1 fun e w' => e = .returned (.bool true) ∧ Below w1.heap.size w1 w') := fun w1 hb =>
    eqVer_c _ _ _ xu0 yu0 d.vP w1 ((xr0.keep (.of hb hB)).reads (fun b h => Nat.lt_of_lt_of_le (hB b h) hb.size)) ((yr0.keep (.of hb hB')).reads (fun b h => Nat.lt_of_lt_of_le (hB' b h) hb.size)) (by unfold bulkS at hw; omega)
  have HS1 : Hid (∀ w1, Below w.heap.size w w1 → Calls Try.prog 40 #[xu1, yu1] w1 fun e w' => e = .returned (.bool true) ∧ Below w1.heap.size w1 w') := fun w1 hb =>
    eqNeedS_c S S' xu1 yu1 d.needs w1 (xr1.keep (.of hb hB)) (yr1.keep (.of hb hB')) (fun b h => Nat.lt_of_lt_of_le (hB b h) hb.size) (fun b h => Nat.lt_of_lt_of_le (hB' b h) hb.size) (by omega)
  obtain ⟨xa0, xc0, xe0, _⟩ := id xr0
  rw [length_strsV] at xe0
  subst xe0
  clear xr0
  obtain ⟨xa1, xc1, xe1, _⟩ := id xr1
  subst xe1
  clear xr1
  obtain ⟨ya0, yc0, ye0, _⟩ := id yr0
  rw [length_strsV] at ye0
  subst ye0
  clear yr0
  obtain ⟨ya1, yc1, ye1, _⟩ := id yr1
  subst ye1
  clear yr1
  go_enter Try.func19, Try.ntmps19
  go_wp2_with fail
  go_at_call 39
  refine (HS0.out _ (hb2 _ _)).mono ?_
  rintro e w1 ⟨rfl, b1⟩
  obtain ⟨hA1, hR1⟩ := boxTwo b1
  have k1 : Below w.heap.size w w1 := (hb2 _ _).trans (b1.mono (hb2 _ _).size)
  have o0 := vblk_cell hA1 0
  have q0 := vblk_cell hR1 0
  have o1 := vblk_cell hA1 1
  have q1 := vblk_cell hR1 1
  have o2 := vblk_cell hA1 2
  have q2 := vblk_cell hR1 2
  have o3 := vblk_cell hA1 3
  have q3 := vblk_cell hR1 3
  have o4 := vblk_cell hA1 4
  have q4 := vblk_cell hR1 4
  have o5 := vblk_cell hA1 5
  have q5 := vblk_cell hR1 5
  simp only [List.getElem?_toArray, List.getElem?_cons_succ, List.getElem?_cons_zero] at o0 q0 o1 q1 o2 q2 o3 q3 o4 q4 o5 q5
  go_wp2_with fail
  go_at_call 40
  refine (HS1.out _ k1).mono ?_
  rintro e w2 ⟨rfl, b2⟩
  have hA2 := (b2.block _ (Array.getElem?_eq_some_iff.1 hA1).1).trans hA1
  have hR2 := (b2.block _ (Array.getElem?_eq_some_iff.1 hR1).1).trans hR1
  have k2 := k1.trans (b2.mono k1.size)
  go_wp2_with fail
  go_ret
  exact ⟨rfl, k2⟩

set_option maxHeartbeats 2000000 in
set_option maxRecDepth 100000 in
theorem eqEntryS_c (S S' : Nat → Prop) (v u : Value) (xs : List EntryD) (w : World) (hv : RowIn shEntry S w v xs) (hv' : RowIn shEntry S' w u xs) (hB : ∀ b, S b → b < w.heap.size) (hB' : ∀ b, S' b → b < w.heap.size) (hw : wtRow wtEntry xs ≤ 1048576) :
    Calls Try.prog 8 #[v, u] w fun e w' => e = .returned (.bool true) ∧ Below w.heap.size w w' := by
  obtain ⟨a, cap, rfl, hl, hc, ha⟩ := hv
  obtain ⟨a', cap', rfl, _, hc', ha'⟩ := hv'
  unfold maxLen at hl
  go_enter Try.func8, Try.ntmps8
  go_wp2_with fail
  go_loopw [5] (fun vi wr => ∃ k : Nat, k ≤ xs.length ∧ vi = .int .i64 (k : Int) ∧ Below w.heap.size w wr) (fun vi _ => xs.length - (intOf vi).toNat)
  case atStart => exact ⟨0, Nat.zero_le _, rfl, Below.refl _ _⟩
  case round =>
    obtain ⟨k, hk, rfl, hbr⟩ := hrel
    by_cases hlt' : k < xs.length
    · rcases ha with rfl | ⟨b, off, rfl, hlt, ha⟩
      · simp at hlt'
      rcases ha' with rfl | ⟨b', off', rfl, hlt3, ha'⟩
      · simp at hlt'
      obtain ⟨cs, hL, hcell⟩ := ha k hlt'
      obtain ⟨cs', hL', hcell'⟩ := ha' k hlt'
      have hwt : wtEntry xs[k] ≤ 1048576 := by have := wt_wtRow wtEntry (List.getElem_mem hlt'); omega
      have HC := eqEntry_c S S' xs[k] cs cs' wr.drew (shEntry.keep (.of hbr.drew hB) hL) (shEntry.keep (.of hbr.drew hB') hL') (fun b h => Nat.lt_of_lt_of_le (hB b h) hbr.size) (fun b h => Nat.lt_of_lt_of_le (hB' b h) hbr.size) hwt
      replace hL := shEntry.keep (.of hbr hB) hL
      replace hL' := shEntry.keep (.of hbr hB') hL'
      replace hcell := hcell.keep (.of hbr hB) hlt
      replace hcell' := hcell'.keep (.of hbr hB') hlt3
      obtain ⟨d, hd⟩ : ∃ d, d = xs[k] := ⟨_, rfl⟩
      rw [← hd] at hL hL' hwt
      clear ha ha' hd
      obtain ⟨xu0, xu1, rfl, xs_name, xr0, xp0, xr1⟩ := hL
      obtain ⟨yu0, yu1, rfl, ys_name, yr0, yp0, yr1⟩ := hL'
      clear xs_name xp0 ys_name yp0
      obtain ⟨xa0, xc0, xe0, _⟩ := id xr0
      rw [length_strsV] at xe0
      subst xe0
      clear xr0
      obtain ⟨xa1, xc1, xe1, _⟩ := id xr1
      subst xe1
      clear xr1
      have xv0 : wr.cell? ⟨b, off + k * 6, none⟩ = some (.string d.name) := hcell 0 (by simp)
      have xv1 : wr.cell? ⟨b, off + k * 6 + 1, none⟩ = some (.int .i64 d.vA) := hcell 1 (by simp)
      have xv2 : wr.cell? ⟨b, off + k * 6 + 2, none⟩ = some (.int .i64 d.vB) := hcell 2 (by simp)
      have xv3 : wr.cell? ⟨b, off + k * 6 + 3, none⟩ = some (.int .i64 d.vC) := hcell 3 (by simp)
      have xv4 : wr.cell? ⟨b, off + k * 6 + 4, none⟩ = some (.slice xa0 d.vP.length xc0) := hcell 4 (by simp)
      have xv5 : wr.cell? ⟨b, off + k * 6 + 5, none⟩ = some (.slice xa1 d.needs.length xc1) := hcell 5 (by simp)
      obtain ⟨ya0, yc0, ye0, _⟩ := id yr0
      rw [length_strsV] at ye0
      subst ye0
      clear yr0
      obtain ⟨ya1, yc1, ye1, _⟩ := id yr1
      subst ye1
      clear yr1
      have yv0 : wr.cell? ⟨b', off' + k * 6, none⟩ = some (.string d.name) := hcell' 0 (by simp)
      have yv1 : wr.cell? ⟨b', off' + k * 6 + 1, none⟩ = some (.int .i64 d.vA) := hcell' 1 (by simp)
      have yv2 : wr.cell? ⟨b', off' + k * 6 + 2, none⟩ = some (.int .i64 d.vB) := hcell' 2 (by simp)
      have yv3 : wr.cell? ⟨b', off' + k * 6 + 3, none⟩ = some (.int .i64 d.vC) := hcell' 3 (by simp)
      have yv4 : wr.cell? ⟨b', off' + k * 6 + 4, none⟩ = some (.slice ya0 d.vP.length yc0) := hcell' 4 (by simp)
      have yv5 : wr.cell? ⟨b', off' + k * 6 + 5, none⟩ = some (.slice ya1 d.needs.length yc1) := hcell' 5 (by simp)
      have HC2 := hidden HC
      have hki : (k : Int) < (xs.length : Int) := by omega
      clear hcell hcell' HC hwt
      go_wp2_with fail
      go_region_with (go_at_call 19; refine HC2.out.mono ?_; rintro e w2 ⟨rfl, hb2⟩)
      all_goals go_wp2_with fail
      all_goals go_roundw
      all_goals first
        | exact ⟨k + 1, by omega, by go_num, hbr.drew.trans (hb2.mono hbr.size)⟩
        | (simp [intOf]; omega)
    · have he : k = xs.length := by omega
      subst he
      clear ha ha'
      go_wp2_with fail
      go_ret
      exact ⟨rfl, hbr⟩

end Go.Proofs.Ytablcicfagmhpaa

/-! Rows of entries told one by one, in blocks from a place up to a place: what a walk leaves of them; no condition. -/
namespace Go.Proofs.Ytablcicfagmhpaa
open Go.RowKit
set_option linter.unusedSimpArgs false
set_option linter.unusedVariables false

theorem wt_perm {α : Type} (f : α → Nat) {xs ys : List α} (h : xs.Perm ys) : wtRow f xs = wtRow f ys := by
  induction h with
  | nil => rfl
  | cons x _ ih => simp only [wtRow, List.map_cons, List.sum_cons] at *; omega
  | swap x y l => simp only [wtRow, List.map_cons, List.sum_cons] at *; omega
  | trans _ _ h1 h2 => exact h1.trans h2
theorem wt_filter {α : Type} (f : α → Nat) (p : α → Bool) : ∀ xs : List α, wtRow f (xs.filter p) ≤ wtRow f xs
  | [] => Nat.le_refl _
  | x :: xs => by
    have h := wt_filter f p xs
    rw [List.filter_cons]
    split
    · simp only [wtRow, List.map_cons, List.sum_cons] at *; omega
    · simp only [wtRow, List.map_cons, List.sum_cons] at *; omega
theorem newD_wt (xs : List EntryD) (n : ByteArray) : wtRow wtEntry (newD xs n) ≤ wtRow wtEntry xs := by
  have h := fold_perm lessE (xs.filter fun d => decide (d.name = n)) []
  rw [List.nil_append] at h
  show wtRow wtEntry (List.foldl (insG lessE) [] (xs.filter fun d => decide (d.name = n))) ≤ _
  rw [wt_perm wtEntry h]
  exact wt_filter _ _ _
theorem memBulkE {ss : List ByteArray} {s : ByteArray} (h : s ∈ ss) : s.size ≤ bulkS ss := by
  unfold bulkS
  induction ss with
  | nil => cases h
  | cons a l ih =>
    simp only [List.length_cons, List.map_cons, List.sum_cons]
    rcases List.mem_cons.1 h with rfl | h
    · omega
    · have := ih h; omega
theorem rowE_own {B : Nat} {w : World} {v : Value} {ps : List EC} (h : RowE B w v ps) (hl : ps.length ≤ maxLen) (hs : ∀ p ∈ ps, wtEntry p.d ≤ 1048576) : RowOwn shEntryO 40 (Ow 0 w.heap.size) w v (ps.map EC.d) := by
  have ho := owns_lo (Nat.zero_le _) h.1
  refine ⟨by rw [List.length_map]; exact hl, flatE ps, by rw [List.length_map]; exact ho, fun g hg => owns_in ho g hg, fun i hi _ => ?_⟩
  have hi' : i < ps.length := by rw [List.length_map] at hi; exact hi
  have hp := List.getElem_mem hi'
  have hw := hs _ hp
  have hn := len_wtRow wtNeed (ps[i].d.needs)
  unfold wtEntry at hw
  refine ⟨ps[i].cells, rfl, ?_, fun j hj => (flatE_at ps i hi' j hj).trans (List.getElem?_eq_getElem hj)⟩
  rw [List.getElem_map]
  refine ⟨ps[i].u0, ps[i].u1, rfl, by unfold maxLen; omega, ⟨(h.2 _ hp).1, fun g hg => owns_in (h.2 _ hp).1 g hg⟩, ⟨?_, fun s hs' => ?_⟩, needs_own (h.2 _ hp).2 (by unfold maxLen; omega) (fun d hd => ?_)⟩
  · have : ps[i].d.vP.length ≤ bulkS ps[i].d.vP := by unfold bulkS; omega
    unfold maxLen; omega
  · have := memBulkE hs'
    unfold maxLen; omega
  · have h9 := wt_wtRow wtNeed hd
    have h8 : wtNeed d = d.n.size + d.r.size := rfl
    unfold maxLen
    constructor <;> omega
theorem owns_up {w : World} {lo : Nat} {e : TypeId} {sz n : Nat} {v : Value} {xs : List Value} (h : w.ownsRow 0 e sz v n xs) (hb : ∀ g, v.ownBlock = some g → lo ≤ g) : w.ownsRow lo e sz v n xs := by
  refine ⟨h.1, ?_⟩
  rcases h.2 with h1 | ⟨g, cap, cur, h1, h2, h3⟩
  · exact .inl h1
  · exact .inr ⟨g, cap, cur, h1, hb g (by rw [h1]; rfl), h3⟩
/-- A row of entries, all of it in blocks from lo up to hi. -/
def RowR (lo hi : Nat) (W : World) (v : Value) (ps : List EC) : Prop := RowE 0 W v ps ∧ (∀ g, v.ownBlock = some g → Ow lo hi g) ∧ (∀ p ∈ ps, (∀ g, p.u0.ownBlock = some g → Ow lo hi g) ∧ ∀ g, p.u1.ownBlock = some g → Ow lo hi g) ∧ hi ≤ W.heap.size
theorem RowR.chg {lo hi : Nat} {W W' : World} {v : Value} {ps : List EC} {S : Nat → Prop} (h : RowR lo hi W v ps) (k : Chg S W W') (n : ∀ b, Ow lo hi b → ¬ S b) : RowR lo hi W' v ps := by
  obtain ⟨h1, h2, h3, h4⟩ := h
  have hk : Kp (Ow lo hi) W W' := fun b hb => k.block b (Nat.lt_of_lt_of_le hb.2 h4) (n b hb)
  exact ⟨⟨owns_kept hk h2 h1.1, fun p hp => ⟨owns_kept hk (h3 p hp).1 (h1.2 p hp).1, owns_kept hk (h3 p hp).2 (h1.2 p hp).2⟩⟩, h2, h3, Nat.le_trans h4 k.size⟩
theorem RowR.below {lo hi : Nat} {W W' : World} {v : Value} {ps : List EC} (h : RowR lo hi W v ps) (k : Below W.heap.size W W') : RowR lo hi W' v ps := h.chg (Chg.of (S := fun _ => False) k) (fun _ _ => id)
theorem rowR_any {B : Nat} {W : World} {v : Value} {ps : List EC} (h : RowE B W v ps) : RowR 0 W.heap.size W v ps :=
  ⟨⟨owns_lo (Nat.zero_le _) h.1, h.2⟩, fun g hg => owns_in (owns_lo (Nat.zero_le _) h.1) g hg, fun p hp => ⟨fun g hg => owns_in (h.2 p hp).1 g hg, fun g hg => owns_in (h.2 p hp).2 g hg⟩, Nat.le_refl _⟩
theorem rowR_far {B : Nat} {W : World} {v : Value} {ps : List EC} (h : RowE B W v ps) (ha : Apart B ps) : RowR B W.heap.size W v ps :=
  ⟨⟨owns_lo (Nat.zero_le _) h.1, h.2⟩, fun g hg => owns_in h.1 g hg, fun p hp => ⟨fun g hg => ⟨(ha.2 p hp).1 g hg, (owns_in (h.2 p hp).1 g hg).2⟩, fun g hg => ⟨(ha.2 p hp).2 g hg, (owns_in (h.2 p hp).2 g hg).2⟩⟩, Nat.le_refl _⟩
theorem RowR.rowE {lo hi : Nat} {W : World} {v : Value} {ps : List EC} (h : RowR lo hi W v ps) : RowE lo W v ps := ⟨owns_up h.1.1 (fun g hg => (h.2.1 g hg).1), h.1.2⟩
theorem below_chgE {B : Nat} {S : Nat → Prop} {w W W' : World} (h : Below B w W) (k : Chg S W W') (hs : ∀ b, S b → B ≤ b) (hB : B ≤ W.heap.size) : Below B w W' :=
  ⟨k.os.trans h.os, k.tape.trans h.tape, k.output.trans h.output, Nat.le_trans h.size k.size, fun b hb => (k.block b (Nat.lt_of_lt_of_le hb hB) (fun hS => by have := hs b hS; omega)).trans (h.block b hb)⟩
end Go.Proofs.Ytablcicfagmhpaa

/-! How much needs hold, as the law counts it: contracts for the walks; conditions: at most 2 to the 20 is left to count. -/
namespace Go.Proofs.Ytablcicfagmhpaa
open Go.RowKit
set_option linter.unusedSimpArgs false
set_option linter.unusedVariables false

set_option maxHeartbeats 2000000 in
set_option maxRecDepth 100000 in
theorem szNeed_c (S : Nat → Prop) (d : NeedD) (cs : List Value) (left : Int) (h0 : 0 ≤ left) (h1 : left ≤ 1048576) (w : World) (hd : shNeed.lies S w cs d) (hB : ∀ b, S b → b < w.heap.size) :
    Calls Try.prog 42 #[.agg cs.toArray, .int .i64 left] w fun e w' => e = .returned (.int .i64 (leftW (wtNeed d) left)) ∧ Below w.heap.size w w' := by
  obtain ⟨rfl, s_n, s_r⟩ := hd
  unfold maxLen at s_n
  unfold maxLen at s_r
  have hbx : ∀ o, Below w.heap.size w (w.alloc o) := fun o => (Below.refl _ _).alloc (Nat.le_refl _) _
  obtain ⟨R, hR⟩ : ∃ R, R = leftW (wtNeed d) left := ⟨_, rfl⟩
  rw [← hR]
  have lt := lw (wtNeed d) left
  rw [← hR] at lt
  unfold wtNeed at lt
  clear hR
  by_cases n0 : (left - (d.n.size : Int)) < 0
  · have HR : Hid (R = -1) := by show _ = _; omega
    clear lt 
    go_enter Try.func42, Try.ntmps42
    go_wp2_with fail
    go_ret
    exact ⟨by rw [HR.out]; rfl, (hbx _)⟩
  by_cases n1 : ((left - (d.n.size : Int)) - (d.r.size : Int)) < 0
  · have HR : Hid (R = -1) := by show _ = _; omega
    clear lt 
    go_enter Try.func42, Try.ntmps42
    go_wp2_with fail
    go_ret
    exact ⟨by rw [HR.out]; rfl, (hbx _)⟩
  have HR : Hid (R = ((left - (d.n.size : Int)) - (d.r.size : Int))) := by show _ = _; omega
  clear lt 
  go_enter Try.func42, Try.ntmps42
  go_wp2_with fail
  go_ret
  exact ⟨by rw [HR.out]; rfl, (hbx _)⟩

set_option maxHeartbeats 2000000 in
set_option maxRecDepth 100000 in
theorem szNeedS_c (S : Nat → Prop) (v : Value) (xs : List NeedD) (left : Int) (h0 : 0 ≤ left) (h1 : left ≤ 1048576) (w : World) (hv : RowIn shNeed S w v xs) (hB : ∀ b, S b → b < w.heap.size) :
    Calls Try.prog 26 #[v, .int .i64 left] w fun e w' => e = .returned (.int .i64 (leftW (wtRow wtNeed xs) left)) ∧ Below w.heap.size w w' := by
  obtain ⟨a, cap, rfl, hl, hc, ha⟩ := hv
  unfold maxLen at hl
  by_cases hneg : left - (xs.length : Int) < 0
  · have e : leftW (wtRow wtNeed xs) left = -1 := leftW_bad (by have := len_wtRow wtNeed xs; omega)
    rw [e]
    clear ha
    go_enter Try.func26, Try.ntmps26
    go_wp2_with fail
    go_ret
    exact ⟨rfl, Below.refl _ _⟩
  · go_enter Try.func26, Try.ntmps26
    go_wp2_with fail
    go_loopw [1, 5] (fun vl vi wr => ∃ (k : Nat) (q : Int), k ≤ xs.length ∧ vi = .int .i64 (k : Int) ∧ vl = .int .i64 q ∧ 0 ≤ q ∧ q ≤ 1048576 ∧ Hid (q = left - (xs.length : Int) - (wtRow wtNeed (xs.take k) : Int) + (k : Int)) ∧ Below w.heap.size w wr) (fun _ vi _ => xs.length - (intOf vi).toNat)
    case atStart => exact ⟨0, _, Nat.zero_le _, rfl, rfl, by omega, by omega, by show _ = _; simp [wtRow], Below.refl _ _⟩
    case round =>
      obtain ⟨k, q, hk, rfl, rfl, hq0, hq1, hq, hbr⟩ := hrel
      by_cases hlt' : k < xs.length
      · rcases ha with rfl | ⟨b, off, rfl, hlt, ha⟩
        · simp at hlt'
        obtain ⟨cs, hL, hcell⟩ := ha k hlt'
        have hL2 := shNeed.keep (.of hbr hB) hL
        have hcell2 := hcell.keep (.of hbr hB) hlt
        have hBr : ∀ b, S b → b < wr.heap.size := fun b h => Nat.lt_of_lt_of_le (hB b h) hbr.size
        have hwt := wtRow_take wtNeed xs k hlt'
        have hsp := wtRow_split wtNeed xs (k + 1)
        have hln := len_wtRow wtNeed (xs.drop (k + 1))
        have hdl : (xs.drop (k + 1)).length = xs.length - (k + 1) := by simp
        obtain ⟨d, hd⟩ : ∃ d, d = xs[k] := ⟨_, rfl⟩
        rw [← hd] at hL2 hwt
        have HW : Hid (wtRow wtNeed (xs.take (k + 1)) = wtRow wtNeed (xs.take k) + (1 + wtNeed d)) := hwt
        have HSP : Hid (wtRow wtNeed xs = wtRow wtNeed (xs.take (k + 1)) + wtRow wtNeed (xs.drop (k + 1)) ∧ xs.length - (k + 1) ≤ wtRow wtNeed (xs.drop (k + 1))) := ⟨hsp, by omega⟩
        have hki : (k : Int) < (xs.length : Int) := by omega
        obtain ⟨p, hp⟩ : ∃ p, p = leftW (wtNeed d) q := ⟨_, rfl⟩
        have HP : Hid (p = leftW (wtNeed d) q) := hp
        have HC := szNeed_c S d cs q hq0 hq1 wr hL2 hBr
        rw [← hp] at HC
        clear hL hcell ha hwt hd hp hsp hln hdl
        obtain ⟨rfl, s_n, s_r⟩ := hL2
        clear s_n s_r
        have e0 : wr.cell? ⟨b, off + k * 2, none⟩ = some (.string d.n) := hcell2 0 (by simp)
        have e1 : wr.cell? ⟨b, off + k * 2 + 1, none⟩ = some (.string d.r) := hcell2 1 (by simp)
        have HC2 := hidden HC
        clear hcell2 HC
        by_cases hpn : p < 0
        · go_wp2_with (go_at_call 42; refine HC2.out.mono ?_; rintro e w1 ⟨rfl, hb1⟩)
          go_ret
          have e : leftW (wtRow wtNeed xs) left = -1 := by
            have h2 := HP.out; have h3 := hq.out; have h4 := HW.out; have h5 := HSP.out
            refine leftW_bad ?_
            by_cases h6 : ((wtNeed d : Nat) : Int) ≤ q
            · rw [leftW_good h6] at h2; omega
            · omega
          exact ⟨by rw [e]; rfl, hbr.trans (hb1.mono hbr.size)⟩
        · go_wp2_with (go_at_call 42; refine HC2.out.mono ?_; rintro e w1 ⟨rfl, hb1⟩)
          go_roundw
          case rel =>
            have h2 := HP.out; have h3 := hq.out; have h4 := HW.out
            have h6 : ((wtNeed d : Nat) : Int) ≤ q := by
              by_cases h6 : ((wtNeed d : Nat) : Int) ≤ q
              · exact h6
              · rw [leftW_bad (by omega)] at h2; omega
            rw [leftW_good h6] at h2
            exact ⟨k + 1, p, by omega, by go_num, rfl, by omega, by omega, (by show _ = _; omega), hbr.trans (hb1.mono hbr.size)⟩
          case measure => simp [intOf]; omega
      · have he : k = xs.length := by omega
        subst he
        clear ha
        go_wp2_with fail
        go_ret
        have e : leftW (wtRow wtNeed xs) left = q := by
          have h3 := hq.out
          rw [List.take_length] at h3
          rw [leftW_good (by omega)]; omega
        exact ⟨by rw [e]; rfl, hbr⟩

end Go.Proofs.Ytablcicfagmhpaa

/-! How much they hold, as the law counts it: contracts for the walks; conditions: at most 2 to the 20 is left to count. -/
namespace Go.Proofs.Ytablcicfagmhpaa
open Go.RowKit
set_option linter.unusedSimpArgs false
set_option linter.unusedVariables false

set_option maxHeartbeats 2000000 in
set_option maxRecDepth 100000 in
theorem szEntry_c (S : Nat → Prop) (d : EntryD) (cs : List Value) (left : Int) (h0 : 0 ≤ left) (h1 : left ≤ 1048576) (w : World) (hd : shEntry.lies S w cs d) (hB : ∀ b, S b → b < w.heap.size) :
    Calls Try.prog 11 #[.agg cs.toArray, .int .i64 left] w fun e w' => e = .returned (.int .i64 (leftW (wtEntry d) left)) ∧ Below w.heap.size w w' := by
  obtain ⟨u0, u1, rfl, s_name, r0, p0, r1⟩ := hd
  unfold maxLen at s_name
  have hbx : ∀ o, Below w.heap.size w (w.alloc o) := fun o => (Below.refl _ _).alloc (Nat.le_refl _) _
  obtain ⟨R, hR⟩ : ∃ R, R = leftW (wtEntry d) left := ⟨_, rfl⟩
  rw [← hR]
  obtain ⟨q0, hq0⟩ : ∃ q, q = leftW (bulkS d.vP) (left - (d.name.size : Int)) := ⟨_, rfl⟩
  obtain ⟨q1, hq1⟩ : ∃ q, q = leftW (wtRow wtNeed d.needs) q0 := ⟨_, rfl⟩
  have HS0 : Hid (0 ≤ (left - (d.name.size : Int)) → (left - (d.name.size : Int)) ≤ 1048576 → ∀ w1, Below w.heap.size w w1 → Calls Try.prog 25 #[.agg #[.int .i64 d.vA, .int .i64 d.vB, .int .i64 d.vC, u0], .int .i64 (left - (d.name.size : Int))] w1 fun e w' => e = .returned (.int .i64 q0) ∧ Below w1.heap.size w1 w') := fun a b w1 hb => by
    rw [hq0]; exact szVer_c _ _ _ u0 d.vP _ a b w1 ((r0.keep (.of hb hB)).reads (fun b h => Nat.lt_of_lt_of_le (hB b h) hb.size)) p0
  have HS1 : Hid (0 ≤ q0 → q0 ≤ 1048576 → ∀ w1, Below w.heap.size w w1 → Calls Try.prog 26 #[u1, .int .i64 q0] w1 fun e w' => e = .returned (.int .i64 q1) ∧ Below w1.heap.size w1 w') := fun a b w1 hb => by
    rw [hq1]; exact szNeedS_c S u1 d.needs _ a b w1 (r1.keep (.of hb hB)) (fun b h => Nat.lt_of_lt_of_le (hB b h) hb.size)
  obtain ⟨a0, cap0, eu0, _⟩ := id r0
  rw [length_strsV] at eu0
  subst eu0
  clear r0
  obtain ⟨a1, cap1, eu1, _⟩ := id r1
  subst eu1
  clear r1
  have lt := lw (wtEntry d) left
  have l0 := lw (bulkS d.vP) (left - (d.name.size : Int))
  rw [← hq0] at l0
  have l1 := lw (wtRow wtNeed d.needs) q0
  rw [← hq1] at l1
  rw [← hR] at lt
  unfold wtEntry at lt
  clear hq0 hq1 hR
  by_cases n0 : (left - (d.name.size : Int)) < 0
  · have HR : Hid (R = -1) := by show _ = _; omega
    clear lt l0 l1
    clear HS0
    clear HS1
    go_enter Try.func11, Try.ntmps11
    go_wp2_with fail
    go_ret
    exact ⟨by rw [HR.out]; rfl, (hbx _)⟩
  by_cases n1 : q0 < 0
  · have HR : Hid (R = -1) := by show _ = _; omega
    have g0a : 0 ≤ (left - (d.name.size : Int)) := by omega
    have g0b : (left - (d.name.size : Int)) ≤ 1048576 := by omega
    have HC0 := HS0.out g0a g0b
    have HD0 := hidden HC0
    clear HC0
    clear lt l0 l1
    clear HS0
    clear HS1
    go_enter Try.func11, Try.ntmps11
    go_wp2_with fail
    go_at_call 25
    refine (HD0.out _ (hbx _)).mono ?_
    rintro e w1 ⟨rfl, b1⟩
    have k1 : Below w.heap.size w w1 := ((hbx _)).trans (b1.mono (by first | exact ((hbx _)).size | (simp; omega)))
    have hx1 := boxAt b1
    have x0 := vblk_cell hx1 0
    have x1 := vblk_cell hx1 1
    have x2 := vblk_cell hx1 2
    have x3 := vblk_cell hx1 3
    have x4 := vblk_cell hx1 4
    have x5 := vblk_cell hx1 5
    simp only [List.getElem?_toArray, List.getElem?_cons_succ, List.getElem?_cons_zero] at x0 x1 x2 x3 x4 x5
    go_wp2_with fail
    go_ret
    exact ⟨by rw [HR.out]; rfl, k1⟩
  by_cases n2 : q1 < 0
  · have HR : Hid (R = -1) := by show _ = _; omega
    have g0a : 0 ≤ (left - (d.name.size : Int)) := by omega
    have g0b : (left - (d.name.size : Int)) ≤ 1048576 := by omega
    have g1a : 0 ≤ q0 := by omega
    have g1b : q0 ≤ 1048576 := by omega
    have HC0 := HS0.out g0a g0b
    have HD0 := hidden HC0
    clear HC0
    have HC1 := HS1.out g1a g1b
    have HD1 := hidden HC1
    clear HC1
    clear lt l0 l1
    clear HS0
    clear HS1
    go_enter Try.func11, Try.ntmps11
    go_wp2_with fail
    go_at_call 25
    refine (HD0.out _ (hbx _)).mono ?_
    rintro e w1 ⟨rfl, b1⟩
    have k1 : Below w.heap.size w w1 := ((hbx _)).trans (b1.mono (by first | exact ((hbx _)).size | (simp; omega)))
    have hx1 := boxAt b1
    have x0 := vblk_cell hx1 0
    have x1 := vblk_cell hx1 1
    have x2 := vblk_cell hx1 2
    have x3 := vblk_cell hx1 3
    have x4 := vblk_cell hx1 4
    have x5 := vblk_cell hx1 5
    simp only [List.getElem?_toArray, List.getElem?_cons_succ, List.getElem?_cons_zero] at x0 x1 x2 x3 x4 x5
    go_wp2_with fail
    go_at_call 26
    refine (HD1.out _ k1).mono ?_
    rintro e w2 ⟨rfl, b2⟩
    have k2 : Below w.heap.size w w2 := (k1).trans (b2.mono (by first | exact (k1).size | (simp; omega)))
    have hx2 := (b2.block _ (Array.getElem?_eq_some_iff.1 hx1).1).trans hx1
    have x0 := vblk_cell hx2 0
    have x1 := vblk_cell hx2 1
    have x2 := vblk_cell hx2 2
    have x3 := vblk_cell hx2 3
    have x4 := vblk_cell hx2 4
    have x5 := vblk_cell hx2 5
    simp only [List.getElem?_toArray, List.getElem?_cons_succ, List.getElem?_cons_zero] at x0 x1 x2 x3 x4 x5
    go_wp2_with fail
    go_ret
    exact ⟨by rw [HR.out]; rfl, k2⟩
  have HR : Hid (R = q1) := by show _ = _; omega
  have g0a : 0 ≤ (left - (d.name.size : Int)) := by omega
  have g0b : (left - (d.name.size : Int)) ≤ 1048576 := by omega
  have g1a : 0 ≤ q0 := by omega
  have g1b : q0 ≤ 1048576 := by omega
  have HC0 := HS0.out g0a g0b
  have HD0 := hidden HC0
  clear HC0
  have HC1 := HS1.out g1a g1b
  have HD1 := hidden HC1
  clear HC1
  clear lt l0 l1
  clear HS0
  clear HS1
  go_enter Try.func11, Try.ntmps11
  go_wp2_with fail
  go_at_call 25
  refine (HD0.out _ (hbx _)).mono ?_
  rintro e w1 ⟨rfl, b1⟩
  have k1 : Below w.heap.size w w1 := ((hbx _)).trans (b1.mono (by first | exact ((hbx _)).size | (simp; omega)))
  have hx1 := boxAt b1
  have x0 := vblk_cell hx1 0
  have x1 := vblk_cell hx1 1
  have x2 := vblk_cell hx1 2
  have x3 := vblk_cell hx1 3
  have x4 := vblk_cell hx1 4
  have x5 := vblk_cell hx1 5
  simp only [List.getElem?_toArray, List.getElem?_cons_succ, List.getElem?_cons_zero] at x0 x1 x2 x3 x4 x5
  go_wp2_with fail
  go_at_call 26
  refine (HD1.out _ k1).mono ?_
  rintro e w2 ⟨rfl, b2⟩
  have k2 : Below w.heap.size w w2 := (k1).trans (b2.mono (by first | exact (k1).size | (simp; omega)))
  have hx2 := (b2.block _ (Array.getElem?_eq_some_iff.1 hx1).1).trans hx1
  have x0 := vblk_cell hx2 0
  have x1 := vblk_cell hx2 1
  have x2 := vblk_cell hx2 2
  have x3 := vblk_cell hx2 3
  have x4 := vblk_cell hx2 4
  have x5 := vblk_cell hx2 5
  simp only [List.getElem?_toArray, List.getElem?_cons_succ, List.getElem?_cons_zero] at x0 x1 x2 x3 x4 x5
  go_wp2_with fail
  go_ret
  exact ⟨by rw [HR.out]; rfl, k2⟩

set_option maxHeartbeats 2000000 in
set_option maxRecDepth 100000 in
theorem szEntryS_c (S : Nat → Prop) (v : Value) (xs : List EntryD) (left : Int) (h0 : 0 ≤ left) (h1 : left ≤ 1048576) (w : World) (hv : RowIn shEntry S w v xs) (hB : ∀ b, S b → b < w.heap.size) :
    Calls Try.prog 4 #[v, .int .i64 left] w fun e w' => e = .returned (.int .i64 (leftW (wtRow wtEntry xs) left)) ∧ Below w.heap.size w w' := by
  obtain ⟨a, cap, rfl, hl, hc, ha⟩ := hv
  unfold maxLen at hl
  by_cases hneg : left - (xs.length : Int) < 0
  · have e : leftW (wtRow wtEntry xs) left = -1 := leftW_bad (by have := len_wtRow wtEntry xs; omega)
    rw [e]
    clear ha
    go_enter Try.func4, Try.ntmps4
    go_wp2_with fail
    go_ret
    exact ⟨rfl, Below.refl _ _⟩
  · go_enter Try.func4, Try.ntmps4
    go_wp2_with fail
    go_loopw [1, 5] (fun vl vi wr => ∃ (k : Nat) (q : Int), k ≤ xs.length ∧ vi = .int .i64 (k : Int) ∧ vl = .int .i64 q ∧ 0 ≤ q ∧ q ≤ 1048576 ∧ Hid (q = left - (xs.length : Int) - (wtRow wtEntry (xs.take k) : Int) + (k : Int)) ∧ Below w.heap.size w wr) (fun _ vi _ => xs.length - (intOf vi).toNat)
    case atStart => exact ⟨0, _, Nat.zero_le _, rfl, rfl, by omega, by omega, by show _ = _; simp [wtRow], Below.refl _ _⟩
    case round =>
      obtain ⟨k, q, hk, rfl, rfl, hq0, hq1, hq, hbr⟩ := hrel
      by_cases hlt' : k < xs.length
      · rcases ha with rfl | ⟨b, off, rfl, hlt, ha⟩
        · simp at hlt'
        obtain ⟨cs, hL, hcell⟩ := ha k hlt'
        have hL2 := shEntry.keep (.of hbr hB) hL
        have hcell2 := hcell.keep (.of hbr hB) hlt
        have hBr : ∀ b, S b → b < wr.heap.size := fun b h => Nat.lt_of_lt_of_le (hB b h) hbr.size
        have hwt := wtRow_take wtEntry xs k hlt'
        have hsp := wtRow_split wtEntry xs (k + 1)
        have hln := len_wtRow wtEntry (xs.drop (k + 1))
        have hdl : (xs.drop (k + 1)).length = xs.length - (k + 1) := by simp
        obtain ⟨d, hd⟩ : ∃ d, d = xs[k] := ⟨_, rfl⟩
        rw [← hd] at hL2 hwt
        have HW : Hid (wtRow wtEntry (xs.take (k + 1)) = wtRow wtEntry (xs.take k) + (1 + wtEntry d)) := hwt
        have HSP : Hid (wtRow wtEntry xs = wtRow wtEntry (xs.take (k + 1)) + wtRow wtEntry (xs.drop (k + 1)) ∧ xs.length - (k + 1) ≤ wtRow wtEntry (xs.drop (k + 1))) := ⟨hsp, by omega⟩
        have hki : (k : Int) < (xs.length : Int) := by omega
        obtain ⟨p, hp⟩ : ∃ p, p = leftW (wtEntry d) q := ⟨_, rfl⟩
        have HP : Hid (p = leftW (wtEntry d) q) := hp
        have HC := szEntry_c S d cs q hq0 hq1 wr hL2 hBr
        rw [← hp] at HC
        clear hL hcell ha hwt hd hp hsp hln hdl
        obtain ⟨u0, u1, rfl, s_name, r0, p0, r1⟩ := hL2
        clear s_name p0
        obtain ⟨a0, cap0, eu0, _⟩ := id r0
        rw [length_strsV] at eu0
        subst eu0
        clear r0
        obtain ⟨a1, cap1, eu1, _⟩ := id r1
        subst eu1
        clear r1
        have e0 : wr.cell? ⟨b, off + k * 6, none⟩ = some (.string d.name) := hcell2 0 (by simp)
        have e1 : wr.cell? ⟨b, off + k * 6 + 1, none⟩ = some (.int .i64 d.vA) := hcell2 1 (by simp)
        have e2 : wr.cell? ⟨b, off + k * 6 + 2, none⟩ = some (.int .i64 d.vB) := hcell2 2 (by simp)
        have e3 : wr.cell? ⟨b, off + k * 6 + 3, none⟩ = some (.int .i64 d.vC) := hcell2 3 (by simp)
        have e4 : wr.cell? ⟨b, off + k * 6 + 4, none⟩ = some (.slice a0 d.vP.length cap0) := hcell2 4 (by simp)
        have e5 : wr.cell? ⟨b, off + k * 6 + 5, none⟩ = some (.slice a1 d.needs.length cap1) := hcell2 5 (by simp)
        have HC2 := hidden HC
        clear hcell2 HC
        by_cases hpn : p < 0
        · go_wp2_with (go_at_call 11; refine HC2.out.mono ?_; rintro e w1 ⟨rfl, hb1⟩)
          go_ret
          have e : leftW (wtRow wtEntry xs) left = -1 := by
            have h2 := HP.out; have h3 := hq.out; have h4 := HW.out; have h5 := HSP.out
            refine leftW_bad ?_
            by_cases h6 : ((wtEntry d : Nat) : Int) ≤ q
            · rw [leftW_good h6] at h2; omega
            · omega
          exact ⟨by rw [e]; rfl, hbr.trans (hb1.mono hbr.size)⟩
        · go_wp2_with (go_at_call 11; refine HC2.out.mono ?_; rintro e w1 ⟨rfl, hb1⟩)
          go_roundw
          case rel =>
            have h2 := HP.out; have h3 := hq.out; have h4 := HW.out
            have h6 : ((wtEntry d : Nat) : Int) ≤ q := by
              by_cases h6 : ((wtEntry d : Nat) : Int) ≤ q
              · exact h6
              · rw [leftW_bad (by omega)] at h2; omega
            rw [leftW_good h6] at h2
            exact ⟨k + 1, p, by omega, by go_num, rfl, by omega, by omega, (by show _ = _; omega), hbr.trans (hb1.mono hbr.size)⟩
          case measure => simp [intOf]; omega
      · have he : k = xs.length := by omega
        subst he
        clear ha
        go_wp2_with fail
        go_ret
        have e : leftW (wtRow wtEntry xs) left = q := by
          have h3 := hq.out
          rw [List.take_length] at h3
          rw [leftW_good (by omega)]; omega
        exact ⟨by rw [e]; rfl, hbr⟩

end Go.Proofs.Ytablcicfagmhpaa

/-! The law on NewestFirst, walked: whatever comes in, the program and the specification answer alike, nothing is written into an argument, and the answer owns its memory; condition: what comes in lies in memory. -/
namespace Go.Proofs.Ytablcicfagmhpaa
open Go.RowKit
set_option linter.unusedSimpArgs false
set_option linter.unusedVariables false

set_option maxHeartbeats 8000000 in
set_option maxRecDepth 100000 in
theorem newest_walk (a0 : Value) (z0 : List EntryD) (a1 : ByteArray) (hs1 : a1.size ≤ maxLen) (w : World) (r0 : RowIn shEntry (· < w.heap.size) w a0 z0) :
    Calls Try.prog 3 #[a0, .string a1] w fun e w' => e = .returned (.bool true) ∧ Below w.heap.size w w' := by
  obtain ⟨q0, cap0, hq0⟩ := r0.slice
  have hin : ∀ w1, Below w.heap.size w w1 → RowIn shEntry (· < w1.heap.size) w1 a0 z0 := fun w1 h => r0.below h
  unfold maxLen at hs1
  by_cases hbig1 : 1048576 < a1.size
  · have hb : (1048576 : Int) < (a1.size : Int) := by omega
    subst hq0
    clear r0 hin
    go_enter Try.func3, Try.ntmps3
    go_wp2_with fail
    go_ret
    exact ⟨rfl, Below.refl _ _⟩
  have hb1' : ¬ (1048576 : Int) < (a1.size : Int) := by omega
  have HZ : Hid (∀ w1, Below w.heap.size w w1 → Calls Try.prog 4 #[a0, .int .i64 1048576] w1 fun e w' => e = .returned (.int .i64 (leftW (wtRow wtEntry z0) 1048576)) ∧ Below w1.heap.size w1 w') := fun w1 h => szEntryS_c _ _ z0 _ (by omega) (by omega) w1 (hin w1 h) (fun b h => h)
  subst hq0
  by_cases hbig : 1048576 < wtRow wtEntry z0
  · have e1 : leftW (wtRow wtEntry z0) 1048576 = -1 := leftW_bad (by omega)
    rw [e1] at HZ
    clear e1 hin r0
    go_enter Try.func3, Try.ntmps3
    go_wp2_with (go_at_call 4; refine (HZ.out _ (Below.refl _ _)).mono ?_; rintro e w1 ⟨rfl, hb1⟩)
    go_ret
    exact ⟨rfl, hb1⟩
  have hwt : wtRow wtEntry z0 ≤ 1048576 := by omega
  obtain ⟨p, hp⟩ : ∃ p, p = leftW (wtRow wtEntry z0) 1048576 := ⟨_, rfl⟩
  rw [← hp] at HZ
  have hp0 : ¬ p < 0 := by rw [hp, leftW_good (by omega)]; omega
  clear hp
  have HT : Hid (∀ w1, Below w.heap.size w w1 → Calls Try.prog 6 #[.slice q0 z0.length cap0] w1 fun e w' => ∃ g, e = .returned (.slice (some ⟨g, 0, none⟩) z0.length z0.length) ∧ RowOwn shEntryO 40 (Ow w1.heap.size w'.heap.size) w' (.slice (some ⟨g, 0, none⟩) z0.length z0.length) z0 ∧ Below w1.heap.size w1 w') := fun w1 h => toEntryS_c _ _ z0 w1 (hin w1 h) (fun b h => h) hwt
  have hNw : wtRow wtEntry (newD z0 a1) ≤ 1048576 := Nat.le_trans (newD_wt z0 a1) hwt
  have HSP : Hid (∀ w1 g l h, RowOwn shEntryO 40 (Ow l h) w1 (.slice (some ⟨g, 0, none⟩) z0.length z0.length) z0 → h ≤ w1.heap.size → Calls Try.prog 5 #[.slice (some ⟨g, 0, none⟩) z0.length z0.length, .string a1] w1 fun e w' => ∃ q ps, e = .returned q ∧ ps.map EC.d = newD z0 a1 ∧ RowR 0 w'.heap.size w' q ps ∧ Below w1.heap.size w1 w') := fun w1 g l h hr hh => by
    refine (specNewest_c (Ow l h) _ z0 a1 w1 hr.plain (fun b hb => Nat.lt_of_lt_of_le hb.2 hh) hwt).mono ?_
    rintro e w' ⟨v', ps, rfl, o, hd, b⟩
    exact ⟨v', ps, rfl, hd, rowR_any o, b⟩
  have HIM : Hid (∀ w1 g l h, RowOwn shEntryO 40 (Ow l h) w1 (.slice (some ⟨g, 0, none⟩) z0.length z0.length) z0 → h ≤ w1.heap.size → Calls Try.prog 7 #[.slice (some ⟨g, 0, none⟩) z0.length z0.length, .string a1] w1 fun e w' => ∃ q ps, e = .returned q ∧ ps.map EC.d = newD z0 a1 ∧ Apart w1.heap.size ps ∧ RowR w1.heap.size w'.heap.size w' q ps ∧ Below w1.heap.size w1 w') := fun w1 g l h hr hh => by
    refine (implNewest_c (Ow l h) _ z0 a1 w1 (RowIn.as (sh := shEntryO) (sh' := shEntry) rfl (fun S w cs x h => liesEntry_plain h) hr.plain) (fun b hb => Nat.lt_of_lt_of_le hb.2 hh) hwt).mono ?_
    rintro e w' ⟨v', ps, rfl, o, hd, ha, b⟩
    exact ⟨v', ps, rfl, hd, ha, rowR_far o ha, b⟩
  obtain ⟨NN, hNN⟩ : ∃ N, N = newD z0 a1 := ⟨_, rfl⟩
  rw [← hNN] at HSP HIM hNw
  have hNlen : NN.length ≤ 1048576 := Nat.le_trans (len_wtRow wtEntry NN) hNw
  have hEO : ∀ W lo hi v (ps : List EC), ps.map EC.d = NN → RowR lo hi W v ps → RowOwn shEntryO 40 (Ow 0 W.heap.size) W v NN := fun W lo hi v ps hd h => by
    have h9 := rowE_own h.rowE (by have := congrArg List.length hd; rw [List.length_map] at this; unfold maxLen; omega) (fun p hp => by
      have h1 : p.d ∈ NN := by rw [← hd]; exact List.mem_map_of_mem hp
      exact Nat.le_trans (wt_wtRow wtEntry h1) hNw)
    rw [hd] at h9; exact h9
  have HEV : Hid (∀ W lo hi v (ps : List EC) lo' hi' v' (ps' : List EC), ps.map EC.d = NN → ps'.map EC.d = NN → RowR lo hi W v ps → RowR lo' hi' W v' ps' → Calls Try.prog 8 #[v, v'] W fun e w' => e = .returned (.bool true) ∧ Below W.heap.size W w') := fun W lo hi v ps lo' hi' v' ps' d d' a b => eqEntryS_c (Ow 0 W.heap.size) (Ow 0 W.heap.size) _ _ NN W (RowIn.as (sh := shEntryO) (sh' := shEntry) rfl (fun S w cs x h => liesEntry_plain h) (hEO _ _ _ _ _ d a).plain) (RowIn.as (sh := shEntryO) (sh' := shEntry) rfl (fun S w cs x h => liesEntry_plain h) (hEO _ _ _ _ _ d' b).plain) (fun b hb => hb.2) (fun b hb => hb.2) hNw
  have HES : Hid (∀ W g g' l1 h1 l2 h2, RowOwn shEntryO 40 (Ow l1 h1) W (.slice (some ⟨g, 0, none⟩) z0.length z0.length) z0 → h1 ≤ W.heap.size → RowOwn shEntryO 40 (Ow l2 h2) W (.slice (some ⟨g', 0, none⟩) z0.length z0.length) z0 → h2 ≤ W.heap.size → Calls Try.prog 8 #[.slice (some ⟨g, 0, none⟩) z0.length z0.length, .slice (some ⟨g', 0, none⟩) z0.length z0.length] W fun e w' => e = .returned (.bool true) ∧ Below W.heap.size W w') := fun W g g' l1 h1 l2 h2 a c b d => eqEntryS_c (Ow l1 h1) (Ow l2 h2) _ _ z0 W (RowIn.as (sh := shEntryO) (sh' := shEntry) rfl (fun S w cs x h => liesEntry_plain h) a.plain) (RowIn.as (sh := shEntryO) (sh' := shEntry) rfl (fun S w cs x h => liesEntry_plain h) b.plain) (fun b hb => Nat.lt_of_lt_of_le hb.2 c) (fun b hb => Nat.lt_of_lt_of_le hb.2 d) hwt
  have hcE := cntEs_wt z0
  have hcN := cntEs_wt NN
  obtain ⟨K1, hK1⟩ : ∃ K, K = 1 + cntEs z0 := ⟨_, rfl⟩
  have hK1n : ¬ (K1 : Int) < 0 := by omega
  have HMX : Hid (∀ W g l h, RowOwn shEntryO 40 (Ow l h) W (.slice (some ⟨g, 0, none⟩) z0.length z0.length) z0 → Calls Try.prog 9 #[.slice (some ⟨g, 0, none⟩) z0.length z0.length, .int .i64 1] W fun e w' => e = .returned (.int .i64 (K1 : Int)) ∧ Chg (Ow l h) W w') := fun W g l h a => by rw [hK1]; exact markEntryS_c (Ow l h) _ z0 1 W a (Nat.le_refl _) (by omega)
  obtain ⟨M1, hM1⟩ : ∃ K, K = 1 + cntEs NN := ⟨_, rfl⟩
  have hM1n : ¬ (M1 : Int) < 0 := by omega
  have HMV : Hid (∀ W lo hi v (ps : List EC), ps.map EC.d = NN → Apart lo ps → RowR lo hi W v ps → Calls Try.prog 9 #[v, .int .i64 1] W fun e w' => e = .returned (.int .i64 (M1 : Int)) ∧ RowE lo w' v (hybE ps 1 ps.length) ∧ Chg (Ow lo W.heap.size) W w') := fun W lo hi v ps hd ha h => by
    have h9 := markRowE_c lo v ps 1 W h.rowE ha (Nat.le_refl _) (by rw [hd]; omega)
    rw [hd, ← hM1] at h9
    exact h9
  have HHV : Hid (∀ W lo v (ps : List EC), ps.map EC.d = NN → RowE lo W v (hybE ps 1 ps.length) → Calls Try.prog 10 #[v, .int .i64 1] W fun e w' => e = .returned (.int .i64 (M1 : Int)) ∧ Below W.heap.size W w') := fun W lo v ps hd h => by
    have h9 := heldRowE_c lo v ps 1 W h (Nat.le_refl _) (by rw [hd]; omega)
    rw [hd, ← hM1] at h9
    exact h9
  clear hNN hin r0 hbig hcE hcN hK1 hM1 hwt hbig1 hs1 hEO hNlen hNw
  go_enter Try.func3, Try.ntmps3
  go_wp2_with fail
  go_at_call 4
  refine (HZ.out _ (Below.refl _ _)).mono ?_
  rintro e w1 ⟨rfl, k1⟩
  have m1 := k1.size
  clear HZ
  go_wp2_with fail
  go_at_call 6
  refine (HT.out _ k1).mono ?_
  rintro e w2 ⟨g2, rfl, P2_2, b2⟩
  have k2 := k1.trans (b2.mono k1.size)
  have m2 := b2.size
  clear b2
  go_wp2_with fail
  go_at_call 5
  refine (HSP.out _ _ _ _ P2_2 (Nat.le_refl _)).mono ?_
  rintro e w3 ⟨v3, p3, rfl, d3, V3_3, b3⟩
  have k3 := k2.trans (b3.mono k2.size)
  have m3 := b3.size
  clear P2_2
  clear b3
  go_wp2_with fail
  go_at_call 6
  refine (HT.out _ k3).mono ?_
  rintro e w4 ⟨g4, rfl, P4_4, b4⟩
  have k4 := k3.trans (b4.mono k3.size)
  have m4 := b4.size
  have V3_4 := V3_3.below b4
  clear V3_3
  clear b4
  go_wp2_with fail
  go_at_call 7
  refine (HIM.out _ _ _ _ P4_4 (Nat.le_refl _)).mono ?_
  rintro e w5 ⟨v5, p5, rfl, d5, a5, V5_5, b5⟩
  have k5 := k4.trans (b5.mono k4.size)
  have m5 := b5.size
  have V3_5 := V3_4.below b5
  clear V3_4
  have P4_5 := P4_4.keep (Kp.of b5 (fun b hb => by have := hb.2; omega))
  clear P4_4
  clear b5
  have D3 := hidden d3
  have D5 := hidden d5
  clear d3 d5
  go_wp2_with fail
  go_at_call 8
  refine (HEV.out _ _ _ _ _ _ _ _ _ D5.out D3.out V5_5 V3_5).mono ?_
  rintro e w6 ⟨rfl, b6⟩
  have k6 := k5.trans (b6.mono k5.size)
  have m6 := b6.size
  have V3_6 := V3_5.below b6
  clear V3_5
  have P4_6 := P4_5.keep (Kp.of b6 (fun b hb => by have := hb.2; omega))
  clear P4_5
  have V5_6 := V5_5.below b6
  clear V5_5
  clear b6
  go_wp2_with fail
  go_at_call 6
  refine (HT.out _ k6).mono ?_
  rintro e w7 ⟨g7, rfl, P7_7, b7⟩
  have k7 := k6.trans (b7.mono k6.size)
  have m7 := b7.size
  have V3_7 := V3_6.below b7
  clear V3_6
  have P4_7 := P4_6.keep (Kp.of b7 (fun b hb => by have := hb.2; omega))
  clear P4_6
  have V5_7 := V5_6.below b7
  clear V5_6
  clear b7
  go_wp2_with fail
  go_at_call 8
  refine (HES.out _ _ _ _ _ _ _ P4_7 (by omega) P7_7 (Nat.le_refl _)).mono ?_
  rintro e w8 ⟨rfl, b8⟩
  have k8 := k7.trans (b8.mono k7.size)
  have m8 := b8.size
  clear P7_7
  have V3_8 := V3_7.below b8
  clear V3_7
  have P4_8 := P4_7.keep (Kp.of b8 (fun b hb => by have := hb.2; omega))
  clear P4_7
  have V5_8 := V5_7.below b8
  clear V5_7
  clear b8
  go_wp2_with fail
  go_at_call 9
  refine (HMX.out _ _ _ _ P4_8).mono ?_
  rintro e w9 ⟨rfl, ch9⟩
  have k9 := below_chgE k8 ch9 (fun b hb => by have := hb.1; have := k1.size; omega) k8.size
  have m9 := ch9.size
  clear P4_8
  have V3_9 := V3_8.chg ch9 (fun b hb h => by have := hb.1; have := hb.2; have := h.1; have := h.2; omega)
  clear V3_8
  have V5_9 := V5_8.chg ch9 (fun b hb h => by have := hb.1; have := hb.2; have := h.1; have := h.2; omega)
  clear V5_8
  clear ch9
  go_wp2_with fail
  go_at_call 8
  refine (HEV.out _ _ _ _ _ _ _ _ _ D5.out D3.out V5_9 V3_9).mono ?_
  rintro e w10 ⟨rfl, b10⟩
  have k10 := k9.trans (b10.mono k9.size)
  have m10 := b10.size
  have V3_10 := V3_9.below b10
  clear V3_9
  have V5_10 := V5_9.below b10
  clear V5_9
  clear b10
  go_wp2_with fail
  go_at_call 9
  refine (HMV.out _ _ _ _ _ D5.out a5 V5_10).mono ?_
  rintro e w11 ⟨rfl, N_11, ch11⟩
  have k11 := below_chgE k10 ch11 (fun b hb => by have := hb.1; have := k1.size; omega) k10.size
  have m11 := ch11.size
  clear V5_10
  have V3_11 := V3_10.chg ch11 (fun b hb h => by have := hb.1; have := hb.2; have := h.1; have := h.2; omega)
  clear V3_10
  clear ch11
  go_wp2_with fail
  go_at_call 10
  refine (HHV.out _ _ _ _ D5.out N_11).mono ?_
  rintro e w12 ⟨rfl, b12⟩
  have k12 := k11.trans (b12.mono k11.size)
  have m12 := b12.size
  have V3_12 := V3_11.below b12
  clear V3_11
  have N_12 := N_11.below b12
  clear N_11
  clear b12
  go_wp2_with fail
  go_at_call 6
  refine (HT.out _ k12).mono ?_
  rintro e w13 ⟨g13, rfl, P13_13, b13⟩
  have k13 := k12.trans (b13.mono k12.size)
  have m13 := b13.size
  have V3_13 := V3_12.below b13
  clear V3_12
  have N_13 := N_12.below b13
  clear N_12
  clear b13
  go_wp2_with fail
  go_at_call 7
  refine (HIM.out _ _ _ _ P13_13 (Nat.le_refl _)).mono ?_
  rintro e w14 ⟨v14, p14, rfl, d14, a14, V14_14, b14⟩
  have k14 := k13.trans (b14.mono k13.size)
  have m14 := b14.size
  clear P13_13
  have V3_14 := V3_13.below b14
  clear V3_13
  have N_14 := N_13.below b14
  clear N_13
  clear b14
  have D14 := hidden d14
  clear d14 a14
  go_wp2_with fail
  go_at_call 8
  refine (HEV.out _ _ _ _ _ _ _ _ _ D14.out D3.out V14_14 V3_14).mono ?_
  rintro e w15 ⟨rfl, b15⟩
  have k15 := k14.trans (b15.mono k14.size)
  have m15 := b15.size
  clear V14_14
  clear V3_14
  have N_15 := N_14.below b15
  clear N_14
  clear b15
  go_wp2_with fail
  go_at_call 10
  refine (HHV.out _ _ _ _ D5.out N_15).mono ?_
  rintro e w16 ⟨rfl, b16⟩
  have k16 := k15.trans (b16.mono k15.size)
  have m16 := b16.size
  clear N_15
  clear b16
  go_wp2_with fail
  go_ret
  exact ⟨rfl, k16⟩
end Go.Proofs.Ytablcicfagmhpaa

/-! What comes in as a version of the laws' own type: three numbers, and a list of texts that lies in memory: no condition. -/
namespace Go.Proofs.Ytablcicfagmhpaa
open Go.ChangeShapes Go.WideShapes Go.ChangeAt Go.RowKit
set_option linter.unusedSimpArgs false
set_option linter.unusedVariables false

theorem vaddr_add (b off i : Nat) : ((⟨b, off, none⟩ : Addr).add i) = ⟨b, off + i, none⟩ := by unfold Addr.add; split <;> simp_all
theorem list4 {cs : List Value} (h : cs.length = 4) : ∃ c0 c1 c2 c3, cs = [c0, c1, c2, c3] := by
  match cs, h with
  | [c0, c1, c2, c3], _ => exact ⟨c0, c1, c2, c3, rfl⟩

theorem vreads_open {H : Type} {enc : TypeId × Value → H} {w : World} {spare : Nat → Bool} {held : Bool} {fuel : Nat} {c : Value} {x : DataW H × List MemPlace}
    (hf : DataW.trod enc Try.prog w 0 spare held fuel 31 [c] = some x) : ∃ ks, Reads w c (strsV ks) ∧ saneP ks := by
  rcases open_strings Try.underlying31 Try.underlying9 (by kernel_rfl) hf with ⟨hcs, _⟩ | ⟨x, l, cap, zs, hcs, _, hl, hm, hz, _, hcell, hwz⟩
  · simp at hcs
    subst hcs
    exact ⟨[], ⟨none, 0, rfl, Nat.le_refl _, .inl rfl⟩, by simp [saneP]⟩
  · simp at hcs
    subst hcs
    have hz' : l ≤ zs.length := by rw [hz]; split <;> omega
    have hlen : (zs.take l).length = l := by simp; omega
    refine ⟨zs.take l, ?_, by rw [hlen]; omega, fun s hs => hwz s (List.mem_of_mem_take hs)⟩
    by_cases h0 : l = 0
    · subst h0
      exact ⟨some x, cap, by simp [strsV], by simp [strsV], .inl (by simp [strsV])⟩
    · obtain ⟨b, off, spot⟩ := x
      have hc0 := hcell 0 (by omega)
      have hspot : spot = none := by simpa [Addr.add] using World.cell?_spot hc0
      subst hspot
      refine ⟨some ⟨b, off, none⟩, cap, by simp [strsV]; omega, by simp [strsV]; omega, .inr ⟨b, off, rfl, ?_, fun i hi => ?_⟩⟩
      · rw [vaddr_add] at hc0; exact World.block_lt_of_cell? w _ hc0
      · have hi' : i < l := by simp [strsV] at hi; omega
        have := hcell i (by omega)
        rw [vaddr_add] at this
        rw [this]
        simp [strsV, List.getD_eq_getElem?_getD, show i < zs.length by omega]

set_option maxRecDepth 100000 in
theorem ver_of_trod {H : Type} {enc : TypeId × Value → H} {w : World} {spare : Nat → Bool} {held : Bool} (fuel : Nat) (cs : List Value) (x : DataW H × List MemPlace)
    (h : DataW.trod enc Try.prog w 0 spare held fuel 33 cs = some x) : ∃ a b c u ps, cs = [.int .i64 a, .int .i64 b, .int .i64 c, u] ∧ Reads w u (strsV ps) ∧ saneP ps := by
  obtain ⟨xs, n, rfl, _, hlen, hxl, hf⟩ := DataW.trod_struct Try.underlying33 h
  have h4 : Try.prog.cellsOf 33 = 4 := by kernel_rfl
  obtain ⟨c0, c1, c2, c3, rfl⟩ := list4 (hlen.trans h4)
  have hx : ∀ i, i < 4 → ∃ y, xs[i]? = some y := fun i hi => ⟨xs[i]'(by rw [hxl]; exact hi), by rw [List.getElem?_eq_getElem]⟩
  obtain ⟨y0, e0⟩ := hx 0 (by omega)
  obtain ⟨y1, e1⟩ := hx 1 (by omega)
  obtain ⟨y2, e2⟩ := hx 2 (by omega)
  obtain ⟨y3, e3⟩ := hx 3 (by omega)
  have k3 : Try.prog.cellsOf 3 = 1 := by kernel_rfl
  have kS : Try.prog.cellsOf 31 = 1 := by kernel_rfl
  have f0 : DataW.trod enc Try.prog w 0 spare held n 3 [c0] = some y0 := by
    have h : DataW.trod enc Try.prog w 0 spare held n 3 ((([c0, c1, c2, c3] : List Value).drop 0).take (Try.prog.cellsOf 3)) = some y0 := (hf 0 _ rfl).trans e0
    rw [k3] at h; exact h
  have f1 : DataW.trod enc Try.prog w 0 spare held n 3 [c1] = some y1 := by
    have h : DataW.trod enc Try.prog w 0 spare held n 3 ((([c0, c1, c2, c3] : List Value).drop 1).take (Try.prog.cellsOf 3)) = some y1 := (hf 1 _ rfl).trans e1
    rw [k3] at h; exact h
  have f2 : DataW.trod enc Try.prog w 0 spare held n 3 [c2] = some y2 := by
    have h : DataW.trod enc Try.prog w 0 spare held n 3 ((([c0, c1, c2, c3] : List Value).drop 2).take (Try.prog.cellsOf 3)) = some y2 := (hf 2 _ rfl).trans e2
    rw [k3] at h; exact h
  have f3 : DataW.trod enc Try.prog w 0 spare held n 31 [c3] = some y3 := by
    have h : DataW.trod enc Try.prog w 0 spare held n 31 ((([c0, c1, c2, c3] : List Value).drop 3).take (Try.prog.cellsOf 31)) = some y3 := (hf 3 _ rfl).trans e3
    rw [kS] at h; exact h
  obtain ⟨k, hk, _, _⟩ := DataW.trod_int Try.underlying3 f0
  obtain ⟨m, hm, _, _⟩ := DataW.trod_int Try.underlying3 f1
  obtain ⟨r, hr, _, _⟩ := DataW.trod_int Try.underlying3 f2
  simp at hk hm hr
  subst hk hm hr
  obtain ⟨ks, hr, hsane⟩ := vreads_open f3
  exact ⟨_, _, _, _, _, rfl, hr, hsane⟩
#print axioms ver_of_trod
end Go.Proofs.Ytablcicfagmhpaa

/-! What comes in as packs of the laws' own type: packs that lie in memory: no condition. -/
namespace Go.Proofs.Ytablcicfagmhpaa
open Go.ChangeShapes Go.WideShapes Go.ChangeAt Go.RowKit
set_option linter.unusedSimpArgs false
set_option linter.unusedVariables false

theorem olist2 {cs : List Value} (h : cs.length = 2) : ∃ c0 c1, cs = [c0, c1] := by
  match cs, h with
  | [c0, c1], _ => exact ⟨c0, c1, rfl⟩
theorem olist4 {cs : List Value} (h : cs.length = 4) : ∃ c0 c1 c2 c3, cs = [c0, c1, c2, c3] := by
  match cs, h with
  | [c0, c1, c2, c3], _ => exact ⟨c0, c1, c2, c3, rfl⟩
theorem olist_of {α : Type} {P : Nat → α → Prop} : ∀ n, (∀ i, i < n → ∃ a, P i a) → ∃ l : List α, l.length = n ∧ ∀ i (h : i < l.length), P i l[i]
  | 0, _ => ⟨[], rfl, fun i h => by simp at h⟩
  | n + 1, h => by
    obtain ⟨l, hl, hp⟩ := olist_of n (fun i hi => h i (by omega))
    obtain ⟨a, ha⟩ := h n (by omega)
    refine ⟨l ++ [a], by simp [hl], fun i hi => ?_⟩
    by_cases h1 : i < l.length
    · rw [List.getElem_append_left h1]; exact hp i h1
    · have : i = n := by simp at hi; omega
      subst this
      rw [List.getElem_append_right (by omega)]
      simpa using ha

/-- A row that comes in, out of what its elements are. -/
theorem rows_of_trod {α H : Type} {P : Program} {enc : TypeId × Value → H} {w : World} {spare : Nat → Bool} {held : Bool} (sh : Sh α) {ts te : TypeId} (hu : P.underlying ts = some (.slice te)) (hn : P.cellsOf te = sh.n) (hpos : 0 < sh.n)
    (helem : ∀ n cs y, DataW.trod enc P w 0 spare held n te cs = some y → ∃ a, sh.lies (· < w.heap.size) w cs a) (fuel : Nat) (c : Value) (x : DataW H × List MemPlace)
    (h : DataW.trod enc P w 0 spare held fuel ts [c] = some x) : ∃ xs, RowIn sh (· < w.heap.size) w c xs := by
  rcases DataW.trod_slice hu h with ⟨hcs, _⟩ | ⟨a, len, cap, elems, rest, n', hn', hcs, _, _, hl, hcm, hel, hat, _, _⟩
  · simp at hcs
    subst hcs
    exact ⟨[], none, 0, rfl, by simp, Nat.le_refl _, .inl rfl⟩
  · simp at hcs
    subst hcs
    rw [hn] at hat
    have heach : ∀ i, i < len → ∃ q : α, ∃ cs, cs.length = sh.n ∧ sh.lies (· < w.heap.size) w cs q ∧ ∀ j (hj : j < cs.length), w.cell? ((a.add (i * sh.n)).add j) = some cs[j] := fun i hi => by
      have hb := hat i hi
      rw [List.getElem?_eq_getElem (by omega)] at hb
      obtain ⟨cs', hc1, hc2⟩ := Option.bind_eq_some_iff.1 hb
      obtain ⟨q, hq⟩ := helem _ cs' _ hc2
      obtain ⟨hb1, hl5, hcell⟩ := World.cells?_some hc1
      exact ⟨q, cs', hl5, hq, fun j hj => (hcell j (by omega)).trans (List.getElem?_eq_getElem hj)⟩
    obtain ⟨q, hq, hqp⟩ := olist_of len heach
    refine ⟨q, some a, cap, by rw [hq], by rw [hq]; omega, by rw [hq]; omega, ?_⟩
    by_cases h0 : len = 0
    · left; exact List.eq_nil_of_length_eq_zero (by omega)
    · right
      obtain ⟨b, off, spot⟩ := a
      obtain ⟨cs0, hl0, _, hc0⟩ := hqp 0 (by omega)
      have hc0 := hc0 0 (by omega)
      have hspot : spot = none := by
        have := World.cell?_spot hc0
        simpa [Addr.add] using this
      subst hspot
      refine ⟨b, off, rfl, ?_, fun i hi => ?_⟩
      · rw [vaddr_add, vaddr_add] at hc0; exact World.block_lt_of_cell? w _ hc0
      · obtain ⟨cs, h1, h2, h3⟩ := hqp i hi
        refine ⟨cs, h2, fun j hj => ?_⟩
        have := h3 j hj
        rw [vaddr_add, vaddr_add] at this
        exact this

set_option maxRecDepth 100000 in
theorem need_of_trod {H : Type} {enc : TypeId × Value → H} {w : World} {spare : Nat → Bool} {held : Bool} (fuel : Nat) (cs : List Value) (x : DataW H × List MemPlace)
    (h : DataW.trod enc Try.prog w 0 spare held fuel 69 cs = some x) : ∃ d : NeedD, shNeed.lies (· < w.heap.size) w cs d := by
  obtain ⟨xs, n, rfl, _, hlen, hxl, hf⟩ := DataW.trod_struct Try.underlying69 h
  have hN : Try.prog.cellsOf 69 = 2 := by kernel_rfl
  obtain ⟨c0, c1, rfl⟩ := olist2 (hlen.trans hN)
  have hx : ∀ i, i < 2 → ∃ y, xs[i]? = some y := fun i hi => ⟨xs[i]'(by rw [hxl]; exact hi), by rw [List.getElem?_eq_getElem]⟩
  obtain ⟨y0, e0⟩ := hx 0 (by omega)
  have k0 : Try.prog.cellsOf 9 = 1 := by kernel_rfl
  have f0 : DataW.trod enc Try.prog w 0 spare held n 9 [c0] = some y0 := by
    have h : DataW.trod enc Try.prog w 0 spare held n 9 ((([c0, c1] : List Value).drop 0).take (Try.prog.cellsOf 9)) = some y0 := (hf 0 _ rfl).trans e0
    rw [k0] at h; exact h
  obtain ⟨y1, e1⟩ := hx 1 (by omega)
  have k1 : Try.prog.cellsOf 9 = 1 := by kernel_rfl
  have f1 : DataW.trod enc Try.prog w 0 spare held n 9 [c1] = some y1 := by
    have h : DataW.trod enc Try.prog w 0 spare held n 9 ((([c0, c1] : List Value).drop 1).take (Try.prog.cellsOf 9)) = some y1 := (hf 1 _ rfl).trans e1
    rw [k1] at h; exact h
  obtain ⟨t0, ht0, _, hl0⟩ := DataW.trod_string Try.underlying9 f0
  simp at ht0
  subst ht0
  obtain ⟨t1, ht1, _, hl1⟩ := DataW.trod_string Try.underlying9 f1
  simp at ht1
  subst ht1
  exact ⟨⟨t0, t1⟩, rfl, hl0, hl1⟩
set_option maxRecDepth 100000 in
theorem needs_of_trod {H : Type} {enc : TypeId × Value → H} {w : World} {spare : Nat → Bool} {held : Bool} (fuel : Nat) (c : Value) (x : DataW H × List MemPlace)
    (h : DataW.trod enc Try.prog w 0 spare held fuel 34 [c] = some x) : ∃ xs, RowIn shNeed (· < w.heap.size) w c xs :=
  rows_of_trod shNeed Try.underlying34 (by kernel_rfl) (by decide) (fun n cs y hh => need_of_trod n cs y hh) fuel c x h

end Go.Proofs.Ytablcicfagmhpaa

/-! What comes in of the laws' own type lies in memory: no condition. -/
namespace Go.Proofs.Ytablcicfagmhpaa
open Go.ChangeShapes Go.WideShapes Go.ChangeAt Go.RowKit
set_option linter.unusedSimpArgs false
set_option linter.unusedVariables false

theorem olist6 {cs : List Value} (h : cs.length = 6) : ∃ c0 c1 c2 c3 c4 c5, cs = [c0, c1, c2, c3, c4, c5] := by
  match cs, h with
  | [c0, c1, c2, c3, c4, c5], _ => exact ⟨c0, c1, c2, c3, c4, c5, rfl⟩
set_option maxRecDepth 100000 in
theorem entry_of_trod {H : Type} {enc : TypeId × Value → H} {w : World} {spare : Nat → Bool} {held : Bool} (fuel : Nat) (cs : List Value) (x : DataW H × List MemPlace)
    (h : DataW.trod enc Try.prog w 0 spare held fuel 36 cs = some x) : ∃ d : EntryD, shEntry.lies (· < w.heap.size) w cs d := by
  obtain ⟨xs, n, rfl, _, hlen, hxl, hf⟩ := DataW.trod_struct Try.underlying36 h
  have hN : Try.prog.cellsOf 36 = 6 := by kernel_rfl
  obtain ⟨c0, c1, c2, c3, c4, c5, rfl⟩ := olist6 (hlen.trans hN)
  have hx : ∀ i, i < 3 → ∃ y, xs[i]? = some y := fun i hi => ⟨xs[i]'(by rw [hxl]; exact hi), by rw [List.getElem?_eq_getElem]⟩
  obtain ⟨y0, e0⟩ := hx 0 (by omega)
  have k0 : Try.prog.cellsOf 9 = 1 := by kernel_rfl
  have f0 : DataW.trod enc Try.prog w 0 spare held n 9 [c0] = some y0 := by
    have h : DataW.trod enc Try.prog w 0 spare held n 9 ((([c0, c1, c2, c3, c4, c5] : List Value).drop 0).take (Try.prog.cellsOf 9)) = some y0 := (hf 0 _ rfl).trans e0
    rw [k0] at h; exact h
  obtain ⟨y1, e1⟩ := hx 1 (by omega)
  have k1 : Try.prog.cellsOf 33 = 4 := by kernel_rfl
  have f1 : DataW.trod enc Try.prog w 0 spare held n 33 [c1, c2, c3, c4] = some y1 := by
    have h : DataW.trod enc Try.prog w 0 spare held n 33 ((([c0, c1, c2, c3, c4, c5] : List Value).drop 1).take (Try.prog.cellsOf 33)) = some y1 := (hf 1 _ rfl).trans e1
    rw [k1] at h; exact h
  obtain ⟨y2, e2⟩ := hx 2 (by omega)
  have k2 : Try.prog.cellsOf 34 = 1 := by kernel_rfl
  have f2 : DataW.trod enc Try.prog w 0 spare held n 34 [c5] = some y2 := by
    have h : DataW.trod enc Try.prog w 0 spare held n 34 ((([c0, c1, c2, c3, c4, c5] : List Value).drop 5).take (Try.prog.cellsOf 34)) = some y2 := (hf 2 _ rfl).trans e2
    rw [k2] at h; exact h
  obtain ⟨t0, ht0, _, hl0⟩ := DataW.trod_string Try.underlying9 f0
  simp at ht0
  subst ht0
  obtain ⟨va1, vb1, vc1, vu1, vp1, hv1, hr1, hs1⟩ := ver_of_trod n _ _ f1
  simp at hv1
  obtain ⟨rfl, rfl, rfl, rfl⟩ := hv1
  obtain ⟨t2, hr2⟩ := needs_of_trod n _ _ f2
  exact ⟨⟨t0, va1, vb1, vc1, vp1, t2⟩, _, _, rfl, hl0, RdB.of hr1, hs1, hr2⟩
set_option maxRecDepth 100000 in
theorem entrys_of_trod {H : Type} {enc : TypeId × Value → H} {w : World} {spare : Nat → Bool} {held : Bool} (fuel : Nat) (c : Value) (x : DataW H × List MemPlace)
    (h : DataW.trod enc Try.prog w 0 spare held fuel 22 [c] = some x) : ∃ xs, RowIn shEntry (· < w.heap.size) w c xs :=
  rows_of_trod shEntry Try.underlying22 (by kernel_rfl) (by decide) (fun n cs y hh => entry_of_trod n cs y hh) fuel c x h

end Go.Proofs.Ytablcicfagmhpaa
