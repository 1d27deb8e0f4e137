/-
  Contracts for the walks, several texts in one: each part says what it proves, and under which conditions.
-/
import Derived.Test.YtkijckpkojcdcaaDoorQ2
import Derived.Test.YtkijckpkojcdcaaDoorQ10
import Derived.Test.YtkijckpkojcdcaaDoorQ8

/-! How much they hold, as the law counts it: contracts for the walks; conditions: at most 2 to the 20 is left to count. -/
namespace Go.Proofs.YtkijckpkojcdcaaDoor
open Go.RowKit
set_option linter.unusedSimpArgs false
set_option linter.unusedVariables false

set_option maxHeartbeats 2000000 in
set_option maxRecDepth 100000 in
theorem szEntry_c (S : Nat → Prop) (d : EntryD) (cs : List Value) (left : Int) (h0 : 0 ≤ left) (h1 : left ≤ 1048576) (w : World) (hd : shEntry.lies S w cs d) (hB : ∀ b, S b → b < w.heap.size) :
    Calls Tryd.prog 33 #[.agg cs.toArray, .int .i64 left] w fun e w' => e = .returned (.int .i64 (leftW (wtEntry d) left)) ∧ Below w.heap.size w w' := by
  obtain ⟨u0, u1, rfl, s_name, r0, p0, r1⟩ := hd
  unfold maxLen at s_name
  have hbx : ∀ o, Below w.heap.size w (w.alloc o) := fun o => (Below.refl _ _).alloc (Nat.le_refl _) _
  obtain ⟨R, hR⟩ : ∃ R, R = leftW (wtEntry d) left := ⟨_, rfl⟩
  rw [← hR]
  obtain ⟨q0, hq0⟩ : ∃ q, q = leftW (bulkS d.vP) (left - (d.name.size : Int)) := ⟨_, rfl⟩
  obtain ⟨q1, hq1⟩ : ∃ q, q = leftW (wtRow wtNeed d.needs) q0 := ⟨_, rfl⟩
  have HS0 : Hid (0 ≤ (left - (d.name.size : Int)) → (left - (d.name.size : Int)) ≤ 1048576 → ∀ w1, Below w.heap.size w w1 → Calls Tryd.prog 11 #[.agg #[.int .i64 d.vA, .int .i64 d.vB, .int .i64 d.vC, u0], .int .i64 (left - (d.name.size : Int))] w1 fun e w' => e = .returned (.int .i64 q0) ∧ Below w1.heap.size w1 w') := fun a b w1 hb => by
    rw [hq0]; exact szVer_c _ _ _ u0 d.vP _ a b w1 ((r0.keep (.of hb hB)).reads (fun b h => Nat.lt_of_lt_of_le (hB b h) hb.size)) p0
  have HS1 : Hid (0 ≤ q0 → q0 ≤ 1048576 → ∀ w1, Below w.heap.size w w1 → Calls Tryd.prog 55 #[u1, .int .i64 q0] w1 fun e w' => e = .returned (.int .i64 q1) ∧ Below w1.heap.size w1 w') := fun a b w1 hb => by
    rw [hq1]; exact szNeedS_c S u1 d.needs _ a b w1 (r1.keep (.of hb hB)) (fun b h => Nat.lt_of_lt_of_le (hB b h) hb.size)
  obtain ⟨a0, cap0, eu0, _⟩ := id r0
  rw [length_strsV] at eu0
  subst eu0
  clear r0
  obtain ⟨a1, cap1, eu1, _⟩ := id r1
  subst eu1
  clear r1
  have lt := lw (wtEntry d) left
  have l0 := lw (bulkS d.vP) (left - (d.name.size : Int))
  rw [← hq0] at l0
  have l1 := lw (wtRow wtNeed d.needs) q0
  rw [← hq1] at l1
  rw [← hR] at lt
  unfold wtEntry at lt
  clear hq0 hq1 hR
  by_cases n0 : (left - (d.name.size : Int)) < 0
  · have HR : Hid (R = -1) := by show _ = _; omega
    clear lt l0 l1
    clear HS0
    clear HS1
    go_enter Tryd.func33, Tryd.ntmps33
    go_wp2_with fail
    go_ret
    exact ⟨by rw [HR.out]; rfl, (hbx _)⟩
  by_cases n1 : q0 < 0
  · have HR : Hid (R = -1) := by show _ = _; omega
    have g0a : 0 ≤ (left - (d.name.size : Int)) := by omega
    have g0b : (left - (d.name.size : Int)) ≤ 1048576 := by omega
    have HC0 := HS0.out g0a g0b
    have HD0 := hidden HC0
    clear HC0
    clear lt l0 l1
    clear HS0
    clear HS1
    go_enter Tryd.func33, Tryd.ntmps33
    go_wp2_with fail
    go_at_call 11
    refine (HD0.out _ (hbx _)).mono ?_
    rintro e w1 ⟨rfl, b1⟩
    have k1 : Below w.heap.size w w1 := ((hbx _)).trans (b1.mono (by first | exact ((hbx _)).size | (simp; omega)))
    have hx1 := boxAt b1
    have x0 := vblk_cell hx1 0
    have x1 := vblk_cell hx1 1
    have x2 := vblk_cell hx1 2
    have x3 := vblk_cell hx1 3
    have x4 := vblk_cell hx1 4
    have x5 := vblk_cell hx1 5
    simp only [List.getElem?_toArray, List.getElem?_cons_succ, List.getElem?_cons_zero] at x0 x1 x2 x3 x4 x5
    go_wp2_with fail
    go_ret
    exact ⟨by rw [HR.out]; rfl, k1⟩
  by_cases n2 : q1 < 0
  · have HR : Hid (R = -1) := by show _ = _; omega
    have g0a : 0 ≤ (left - (d.name.size : Int)) := by omega
    have g0b : (left - (d.name.size : Int)) ≤ 1048576 := by omega
    have g1a : 0 ≤ q0 := by omega
    have g1b : q0 ≤ 1048576 := by omega
    have HC0 := HS0.out g0a g0b
    have HD0 := hidden HC0
    clear HC0
    have HC1 := HS1.out g1a g1b
    have HD1 := hidden HC1
    clear HC1
    clear lt l0 l1
    clear HS0
    clear HS1
    go_enter Tryd.func33, Tryd.ntmps33
    go_wp2_with fail
    go_at_call 11
    refine (HD0.out _ (hbx _)).mono ?_
    rintro e w1 ⟨rfl, b1⟩
    have k1 : Below w.heap.size w w1 := ((hbx _)).trans (b1.mono (by first | exact ((hbx _)).size | (simp; omega)))
    have hx1 := boxAt b1
    have x0 := vblk_cell hx1 0
    have x1 := vblk_cell hx1 1
    have x2 := vblk_cell hx1 2
    have x3 := vblk_cell hx1 3
    have x4 := vblk_cell hx1 4
    have x5 := vblk_cell hx1 5
    simp only [List.getElem?_toArray, List.getElem?_cons_succ, List.getElem?_cons_zero] at x0 x1 x2 x3 x4 x5
    go_wp2_with fail
    go_at_call 55
    refine (HD1.out _ k1).mono ?_
    rintro e w2 ⟨rfl, b2⟩
    have k2 : Below w.heap.size w w2 := (k1).trans (b2.mono (by first | exact (k1).size | (simp; omega)))
    have hx2 := (b2.block _ (Array.getElem?_eq_some_iff.1 hx1).1).trans hx1
    have x0 := vblk_cell hx2 0
    have x1 := vblk_cell hx2 1
    have x2 := vblk_cell hx2 2
    have x3 := vblk_cell hx2 3
    have x4 := vblk_cell hx2 4
    have x5 := vblk_cell hx2 5
    simp only [List.getElem?_toArray, List.getElem?_cons_succ, List.getElem?_cons_zero] at x0 x1 x2 x3 x4 x5
    go_wp2_with fail
    go_ret
    exact ⟨by rw [HR.out]; rfl, k2⟩
  have HR : Hid (R = q1) := by show _ = _; omega
  have g0a : 0 ≤ (left - (d.name.size : Int)) := by omega
  have g0b : (left - (d.name.size : Int)) ≤ 1048576 := by omega
  have g1a : 0 ≤ q0 := by omega
  have g1b : q0 ≤ 1048576 := by omega
  have HC0 := HS0.out g0a g0b
  have HD0 := hidden HC0
  clear HC0
  have HC1 := HS1.out g1a g1b
  have HD1 := hidden HC1
  clear HC1
  clear lt l0 l1
  clear HS0
  clear HS1
  go_enter Tryd.func33, Tryd.ntmps33
  go_wp2_with fail
  go_at_call 11
  refine (HD0.out _ (hbx _)).mono ?_
  rintro e w1 ⟨rfl, b1⟩
  have k1 : Below w.heap.size w w1 := ((hbx _)).trans (b1.mono (by first | exact ((hbx _)).size | (simp; omega)))
  have hx1 := boxAt b1
  have x0 := vblk_cell hx1 0
  have x1 := vblk_cell hx1 1
  have x2 := vblk_cell hx1 2
  have x3 := vblk_cell hx1 3
  have x4 := vblk_cell hx1 4
  have x5 := vblk_cell hx1 5
  simp only [List.getElem?_toArray, List.getElem?_cons_succ, List.getElem?_cons_zero] at x0 x1 x2 x3 x4 x5
  go_wp2_with fail
  go_at_call 55
  refine (HD1.out _ k1).mono ?_
  rintro e w2 ⟨rfl, b2⟩
  have k2 : Below w.heap.size w w2 := (k1).trans (b2.mono (by first | exact (k1).size | (simp; omega)))
  have hx2 := (b2.block _ (Array.getElem?_eq_some_iff.1 hx1).1).trans hx1
  have x0 := vblk_cell hx2 0
  have x1 := vblk_cell hx2 1
  have x2 := vblk_cell hx2 2
  have x3 := vblk_cell hx2 3
  have x4 := vblk_cell hx2 4
  have x5 := vblk_cell hx2 5
  simp only [List.getElem?_toArray, List.getElem?_cons_succ, List.getElem?_cons_zero] at x0 x1 x2 x3 x4 x5
  go_wp2_with fail
  go_ret
  exact ⟨by rw [HR.out]; rfl, k2⟩

set_option maxHeartbeats 2000000 in
set_option maxRecDepth 100000 in
theorem szEntryS_c (S : Nat → Prop) (v : Value) (xs : List EntryD) (left : Int) (h0 : 0 ≤ left) (h1 : left ≤ 1048576) (w : World) (hv : RowIn shEntry S w v xs) (hB : ∀ b, S b → b < w.heap.size) :
    Calls Tryd.prog 10 #[v, .int .i64 left] w fun e w' => e = .returned (.int .i64 (leftW (wtRow wtEntry xs) left)) ∧ Below w.heap.size w w' := by
  obtain ⟨a, cap, rfl, hl, hc, ha⟩ := hv
  unfold maxLen at hl
  by_cases hneg : left - (xs.length : Int) < 0
  · have e : leftW (wtRow wtEntry xs) left = -1 := leftW_bad (by have := len_wtRow wtEntry xs; omega)
    rw [e]
    clear ha
    go_enter Tryd.func10, Tryd.ntmps10
    go_wp2_with fail
    go_ret
    exact ⟨rfl, Below.refl _ _⟩
  · go_enter Tryd.func10, Tryd.ntmps10
    go_wp2_with fail
    go_loopw [1, 5] (fun vl vi wr => ∃ (k : Nat) (q : Int), k ≤ xs.length ∧ vi = .int .i64 (k : Int) ∧ vl = .int .i64 q ∧ 0 ≤ q ∧ q ≤ 1048576 ∧ Hid (q = left - (xs.length : Int) - (wtRow wtEntry (xs.take k) : Int) + (k : Int)) ∧ Below w.heap.size w wr) (fun _ vi _ => xs.length - (intOf vi).toNat)
    case atStart => exact ⟨0, _, Nat.zero_le _, rfl, rfl, by omega, by omega, by show _ = _; simp [wtRow], Below.refl _ _⟩
    case round =>
      obtain ⟨k, q, hk, rfl, rfl, hq0, hq1, hq, hbr⟩ := hrel
      by_cases hlt' : k < xs.length
      · rcases ha with rfl | ⟨b, off, rfl, hlt, ha⟩
        · simp at hlt'
        obtain ⟨cs, hL, hcell⟩ := ha k hlt'
        have hL2 := shEntry.keep (.of hbr hB) hL
        have hcell2 := hcell.keep (.of hbr hB) hlt
        have hBr : ∀ b, S b → b < wr.heap.size := fun b h => Nat.lt_of_lt_of_le (hB b h) hbr.size
        have hwt := wtRow_take wtEntry xs k hlt'
        have hsp := wtRow_split wtEntry xs (k + 1)
        have hln := len_wtRow wtEntry (xs.drop (k + 1))
        have hdl : (xs.drop (k + 1)).length = xs.length - (k + 1) := by simp
        obtain ⟨d, hd⟩ : ∃ d, d = xs[k] := ⟨_, rfl⟩
        rw [← hd] at hL2 hwt
        have HW : Hid (wtRow wtEntry (xs.take (k + 1)) = wtRow wtEntry (xs.take k) + (1 + wtEntry d)) := hwt
        have HSP : Hid (wtRow wtEntry xs = wtRow wtEntry (xs.take (k + 1)) + wtRow wtEntry (xs.drop (k + 1)) ∧ xs.length - (k + 1) ≤ wtRow wtEntry (xs.drop (k + 1))) := ⟨hsp, by omega⟩
        have hki : (k : Int) < (xs.length : Int) := by omega
        obtain ⟨p, hp⟩ : ∃ p, p = leftW (wtEntry d) q := ⟨_, rfl⟩
        have HP : Hid (p = leftW (wtEntry d) q) := hp
        have HC := szEntry_c S d cs q hq0 hq1 wr hL2 hBr
        rw [← hp] at HC
        clear hL hcell ha hwt hd hp hsp hln hdl
        obtain ⟨u0, u1, rfl, s_name, r0, p0, r1⟩ := hL2
        clear s_name p0
        obtain ⟨a0, cap0, eu0, _⟩ := id r0
        rw [length_strsV] at eu0
        subst eu0
        clear r0
        obtain ⟨a1, cap1, eu1, _⟩ := id r1
        subst eu1
        clear r1
        have e0 : wr.cell? ⟨b, off + k * 6, none⟩ = some (.string d.name) := hcell2 0 (by simp)
        have e1 : wr.cell? ⟨b, off + k * 6 + 1, none⟩ = some (.int .i64 d.vA) := hcell2 1 (by simp)
        have e2 : wr.cell? ⟨b, off + k * 6 + 2, none⟩ = some (.int .i64 d.vB) := hcell2 2 (by simp)
        have e3 : wr.cell? ⟨b, off + k * 6 + 3, none⟩ = some (.int .i64 d.vC) := hcell2 3 (by simp)
        have e4 : wr.cell? ⟨b, off + k * 6 + 4, none⟩ = some (.slice a0 d.vP.length cap0) := hcell2 4 (by simp)
        have e5 : wr.cell? ⟨b, off + k * 6 + 5, none⟩ = some (.slice a1 d.needs.length cap1) := hcell2 5 (by simp)
        have HC2 := hidden HC
        clear hcell2 HC
        by_cases hpn : p < 0
        · go_wp2_with (go_at_call 33; refine HC2.out.mono ?_; rintro e w1 ⟨rfl, hb1⟩)
          go_ret
          have e : leftW (wtRow wtEntry xs) left = -1 := by
            have h2 := HP.out; have h3 := hq.out; have h4 := HW.out; have h5 := HSP.out
            refine leftW_bad ?_
            by_cases h6 : ((wtEntry d : Nat) : Int) ≤ q
            · rw [leftW_good h6] at h2; omega
            · omega
          exact ⟨by rw [e]; rfl, hbr.trans (hb1.mono hbr.size)⟩
        · go_wp2_with (go_at_call 33; refine HC2.out.mono ?_; rintro e w1 ⟨rfl, hb1⟩)
          go_roundw
          case rel =>
            have h2 := HP.out; have h3 := hq.out; have h4 := HW.out
            have h6 : ((wtEntry d : Nat) : Int) ≤ q := by
              by_cases h6 : ((wtEntry d : Nat) : Int) ≤ q
              · exact h6
              · rw [leftW_bad (by omega)] at h2; omega
            rw [leftW_good h6] at h2
            exact ⟨k + 1, p, by omega, by go_num, rfl, by omega, by omega, (by show _ = _; omega), hbr.trans (hb1.mono hbr.size)⟩
          case measure => simp [intOf]; omega
      · have he : k = xs.length := by omega
        subst he
        clear ha
        go_wp2_with fail
        go_ret
        have e : leftW (wtRow wtEntry xs) left = q := by
          have h3 := hq.out
          rw [List.take_length] at h3
          rw [leftW_good (by omega)]; omega
        exact ⟨by rw [e]; rfl, hbr⟩

end Go.Proofs.YtkijckpkojcdcaaDoor

/-! Needs and commands, and rows of them, that are the same are told so by the law's own comparison: contracts for what lies in memory and holds at most 2 to the 20. -/
namespace Go.Proofs.YtkijckpkojcdcaaDoor
open Go.RowKit
set_option linter.unusedSimpArgs false
set_option linter.unusedVariables false

theorem boxTwo {w w1 : World} {A R : Obj} (hb : Below ((w.alloc A).alloc R).heap.size ((w.alloc A).alloc R) w1) : w1.heap[w.heap.size]? = some A ∧ w1.heap[w.heap.size + 1]? = some R := by
  have s1 : (w.alloc A).heap.size = w.heap.size + 1 := by simp
  refine ⟨?_, ?_⟩
  · rw [hb.block _ (by simp; omega), vheap_old _ _ (by simp), vheap_new]
  · rw [hb.block _ (by simp), ← s1, vheap_new]

set_option maxHeartbeats 2000000 in
set_option maxRecDepth 100000 in
theorem eqNeed_c (S S' : Nat → Prop) (d : NeedD) (cs cs' : List Value) (w : World) (hd : shNeed.lies S w cs d) (hd' : shNeed.lies S' w cs' d) (hB : ∀ b, S b → b < w.heap.size) (hB' : ∀ b, S' b → b < w.heap.size) (hw : wtNeed d ≤ 1048576) :
    Calls Tryd.prog 64 #[.agg cs.toArray, .agg cs'.toArray] w fun e w' => e = .returned (.bool true) ∧ Below w.heap.size w w' := by
  obtain ⟨rfl, xs_n, xs_r⟩ := hd
  obtain ⟨rfl, ys_n, ys_r⟩ := hd'
  have hb2 : ∀ A R, Below w.heap.size w ((w.alloc A).alloc R) := fun A R => ((Below.refl _ _).alloc (Nat.le_refl _) _).alloc (by simp) _
  unfold wtNeed at hw
  go_enter Tryd.func64, Tryd.ntmps64
  go_wp2_with fail
  go_ret
  exact ⟨rfl, (hb2 _ _)⟩

set_option maxHeartbeats 2000000 in
set_option maxRecDepth 100000 in
theorem eqNeedS_c (S S' : Nat → Prop) (v u : Value) (xs : List NeedD) (w : World) (hv : RowIn shNeed S w v xs) (hv' : RowIn shNeed S' w u xs) (hB : ∀ b, S b → b < w.heap.size) (hB' : ∀ b, S' b → b < w.heap.size) (hw : wtRow wtNeed xs ≤ 1048576) :
    Calls Tryd.prog 40 #[v, u] w fun e w' => e = .returned (.bool true) ∧ Below w.heap.size w w' := by
  obtain ⟨a, cap, rfl, hl, hc, ha⟩ := hv
  obtain ⟨a', cap', rfl, _, hc', ha'⟩ := hv'
  unfold maxLen at hl
  go_enter Tryd.func40, Tryd.ntmps40
  go_wp2_with fail
  go_loopw [5] (fun vi wr => ∃ k : Nat, k ≤ xs.length ∧ vi = .int .i64 (k : Int) ∧ Below w.heap.size w wr) (fun vi _ => xs.length - (intOf vi).toNat)
  case atStart => exact ⟨0, Nat.zero_le _, rfl, Below.refl _ _⟩
  case round =>
    obtain ⟨k, hk, rfl, hbr⟩ := hrel
    by_cases hlt' : k < xs.length
    · rcases ha with rfl | ⟨b, off, rfl, hlt, ha⟩
      · simp at hlt'
      rcases ha' with rfl | ⟨b', off', rfl, hlt3, ha'⟩
      · simp at hlt'
      obtain ⟨cs, hL, hcell⟩ := ha k hlt'
      obtain ⟨cs', hL', hcell'⟩ := ha' k hlt'
      have hwt : wtNeed xs[k] ≤ 1048576 := by have := wt_wtRow wtNeed (List.getElem_mem hlt'); omega
      have HC := eqNeed_c S S' xs[k] cs cs' wr.drew (shNeed.keep (.of hbr.drew hB) hL) (shNeed.keep (.of hbr.drew hB') hL') (fun b h => Nat.lt_of_lt_of_le (hB b h) hbr.size) (fun b h => Nat.lt_of_lt_of_le (hB' b h) hbr.size) hwt
      replace hL := shNeed.keep (.of hbr hB) hL
      replace hL' := shNeed.keep (.of hbr hB') hL'
      replace hcell := hcell.keep (.of hbr hB) hlt
      replace hcell' := hcell'.keep (.of hbr hB') hlt3
      obtain ⟨d, hd⟩ : ∃ d, d = xs[k] := ⟨_, rfl⟩
      rw [← hd] at hL hL' hwt
      clear ha ha' hd
      obtain ⟨rfl, xs_n, xs_r⟩ := hL
      obtain ⟨rfl, ys_n, ys_r⟩ := hL'
      clear xs_n xs_r ys_n ys_r
      have xv0 : wr.cell? ⟨b, off + k * 2, none⟩ = some (.string d.n) := hcell 0 (by simp)
      have xv1 : wr.cell? ⟨b, off + k * 2 + 1, none⟩ = some (.string d.r) := hcell 1 (by simp)
      have yv0 : wr.cell? ⟨b', off' + k * 2, none⟩ = some (.string d.n) := hcell' 0 (by simp)
      have yv1 : wr.cell? ⟨b', off' + k * 2 + 1, none⟩ = some (.string d.r) := hcell' 1 (by simp)
      have HC2 := hidden HC
      have hki : (k : Int) < (xs.length : Int) := by omega
      clear hcell hcell' HC hwt
      go_wp2_with fail
      go_region_with (go_at_call 64; refine HC2.out.mono ?_; rintro e w2 ⟨rfl, hb2⟩)
      all_goals go_wp2_with fail
      all_goals go_roundw
      all_goals first
        | exact ⟨k + 1, by omega, by go_num, hbr.drew.trans (hb2.mono hbr.size)⟩
        | (simp [intOf]; omega)
    · have he : k = xs.length := by omega
      subst he
      clear ha ha'
      go_wp2_with fail
      go_ret
      exact ⟨rfl, hbr⟩

end Go.Proofs.YtkijckpkojcdcaaDoor

/-! What is the same is told so by the law's own comparison: contracts for what lies in memory and holds at most 2 to the 20. -/
namespace Go.Proofs.YtkijckpkojcdcaaDoor
open Go.RowKit
set_option linter.unusedSimpArgs false
set_option linter.unusedVariables false

set_option maxHeartbeats 2000000 in
set_option maxRecDepth 100000 in
theorem eqEntry_c (S S' : Nat → Prop) (d : EntryD) (cs cs' : List Value) (w : World) (hd : shEntry.lies S w cs d) (hd' : shEntry.lies S' w cs' d) (hB : ∀ b, S b → b < w.heap.size) (hB' : ∀ b, S' b → b < w.heap.size) (hw : wtEntry d ≤ 1048576) :
    Calls Tryd.prog 16 #[.agg cs.toArray, .agg cs'.toArray] w fun e w' => e = .returned (.bool true) ∧ Below w.heap.size w w' := by
  obtain ⟨xu0, xu1, rfl, xs_name, xr0, xp0, xr1⟩ := hd
  obtain ⟨yu0, yu1, rfl, ys_name, yr0, yp0, yr1⟩ := hd'
  have hb2 : ∀ A R, Below w.heap.size w ((w.alloc A).alloc R) := fun A R => ((Below.refl _ _).alloc (Nat.le_refl _) _).alloc (by simp) _
  unfold wtEntry at hw
  have HS0 : Hid (∀ w1, Below w.heap.size w w1 → Calls Tryd.prog 18 #[.agg #[.int .i64 d.vA, .int .i64 d.vB, .int .i64 d.vC, xu0], .agg #[.int .i64 d.vA, .int .i64 d.vB, .int .i64 d.vC, yu0]] w1 fun e w' => e = .returned (.bool true) ∧ Below w1.heap.size w1 w') := fun w1 hb =>
    eqVer_c _ _ _ xu0 yu0 d.vP w1 ((xr0.keep (.of hb hB)).reads (fun b h => Nat.lt_of_lt_of_le (hB b h) hb.size)) ((yr0.keep (.of hb hB')).reads (fun b h => Nat.lt_of_lt_of_le (hB' b h) hb.size)) (by unfold bulkS at hw; omega)
  have HS1 : Hid (∀ w1, Below w.heap.size w w1 → Calls Tryd.prog 40 #[xu1, yu1] w1 fun e w' => e = .returned (.bool true) ∧ Below w1.heap.size w1 w') := fun w1 hb =>
    eqNeedS_c S S' xu1 yu1 d.needs w1 (xr1.keep (.of hb hB)) (yr1.keep (.of hb hB')) (fun b h => Nat.lt_of_lt_of_le (hB b h) hb.size) (fun b h => Nat.lt_of_lt_of_le (hB' b h) hb.size) (by omega)
  obtain ⟨xa0, xc0, xe0, _⟩ := id xr0
  rw [length_strsV] at xe0
  subst xe0
  clear xr0
  obtain ⟨xa1, xc1, xe1, _⟩ := id xr1
  subst xe1
  clear xr1
  obtain ⟨ya0, yc0, ye0, _⟩ := id yr0
  rw [length_strsV] at ye0
  subst ye0
  clear yr0
  obtain ⟨ya1, yc1, ye1, _⟩ := id yr1
  subst ye1
  clear yr1
  go_enter Tryd.func16, Tryd.ntmps16
  go_wp2_with fail
  go_at_call 18
  refine (HS0.out _ (hb2 _ _)).mono ?_
  rintro e w1 ⟨rfl, b1⟩
  obtain ⟨hA1, hR1⟩ := boxTwo b1
  have k1 : Below w.heap.size w w1 := (hb2 _ _).trans (b1.mono (hb2 _ _).size)
  have o0 := vblk_cell hA1 0
  have q0 := vblk_cell hR1 0
  have o1 := vblk_cell hA1 1
  have q1 := vblk_cell hR1 1
  have o2 := vblk_cell hA1 2
  have q2 := vblk_cell hR1 2
  have o3 := vblk_cell hA1 3
  have q3 := vblk_cell hR1 3
  have o4 := vblk_cell hA1 4
  have q4 := vblk_cell hR1 4
  have o5 := vblk_cell hA1 5
  have q5 := vblk_cell hR1 5
  simp only [List.getElem?_toArray, List.getElem?_cons_succ, List.getElem?_cons_zero] at o0 q0 o1 q1 o2 q2 o3 q3 o4 q4 o5 q5
  go_wp2_with fail
  go_at_call 40
  refine (HS1.out _ k1).mono ?_
  rintro e w2 ⟨rfl, b2⟩
  have hA2 := (b2.block _ (Array.getElem?_eq_some_iff.1 hA1).1).trans hA1
  have hR2 := (b2.block _ (Array.getElem?_eq_some_iff.1 hR1).1).trans hR1
  have k2 := k1.trans (b2.mono k1.size)
  go_wp2_with fail
  go_ret
  exact ⟨rfl, k2⟩

set_option maxHeartbeats 2000000 in
set_option maxRecDepth 100000 in
theorem eqEntryS_c (S S' : Nat → Prop) (v u : Value) (xs : List EntryD) (w : World) (hv : RowIn shEntry S w v xs) (hv' : RowIn shEntry S' w u xs) (hB : ∀ b, S b → b < w.heap.size) (hB' : ∀ b, S' b → b < w.heap.size) (hw : wtRow wtEntry xs ≤ 1048576) :
    Calls Tryd.prog 17 #[v, u] w fun e w' => e = .returned (.bool true) ∧ Below w.heap.size w w' := by
  obtain ⟨a, cap, rfl, hl, hc, ha⟩ := hv
  obtain ⟨a', cap', rfl, _, hc', ha'⟩ := hv'
  unfold maxLen at hl
  go_enter Tryd.func17, Tryd.ntmps17
  go_wp2_with fail
  go_loopw [5] (fun vi wr => ∃ k : Nat, k ≤ xs.length ∧ vi = .int .i64 (k : Int) ∧ Below w.heap.size w wr) (fun vi _ => xs.length - (intOf vi).toNat)
  case atStart => exact ⟨0, Nat.zero_le _, rfl, Below.refl _ _⟩
  case round =>
    obtain ⟨k, hk, rfl, hbr⟩ := hrel
    by_cases hlt' : k < xs.length
    · rcases ha with rfl | ⟨b, off, rfl, hlt, ha⟩
      · simp at hlt'
      rcases ha' with rfl | ⟨b', off', rfl, hlt3, ha'⟩
      · simp at hlt'
      obtain ⟨cs, hL, hcell⟩ := ha k hlt'
      obtain ⟨cs', hL', hcell'⟩ := ha' k hlt'
      have hwt : wtEntry xs[k] ≤ 1048576 := by have := wt_wtRow wtEntry (List.getElem_mem hlt'); omega
      have HC := eqEntry_c S S' xs[k] cs cs' wr.drew (shEntry.keep (.of hbr.drew hB) hL) (shEntry.keep (.of hbr.drew hB') hL') (fun b h => Nat.lt_of_lt_of_le (hB b h) hbr.size) (fun b h => Nat.lt_of_lt_of_le (hB' b h) hbr.size) hwt
      replace hL := shEntry.keep (.of hbr hB) hL
      replace hL' := shEntry.keep (.of hbr hB') hL'
      replace hcell := hcell.keep (.of hbr hB) hlt
      replace hcell' := hcell'.keep (.of hbr hB') hlt3
      obtain ⟨d, hd⟩ : ∃ d, d = xs[k] := ⟨_, rfl⟩
      rw [← hd] at hL hL' hwt
      clear ha ha' hd
      obtain ⟨xu0, xu1, rfl, xs_name, xr0, xp0, xr1⟩ := hL
      obtain ⟨yu0, yu1, rfl, ys_name, yr0, yp0, yr1⟩ := hL'
      clear xs_name xp0 ys_name yp0
      obtain ⟨xa0, xc0, xe0, _⟩ := id xr0
      rw [length_strsV] at xe0
      subst xe0
      clear xr0
      obtain ⟨xa1, xc1, xe1, _⟩ := id xr1
      subst xe1
      clear xr1
      have xv0 : wr.cell? ⟨b, off + k * 6, none⟩ = some (.string d.name) := hcell 0 (by simp)
      have xv1 : wr.cell? ⟨b, off + k * 6 + 1, none⟩ = some (.int .i64 d.vA) := hcell 1 (by simp)
      have xv2 : wr.cell? ⟨b, off + k * 6 + 2, none⟩ = some (.int .i64 d.vB) := hcell 2 (by simp)
      have xv3 : wr.cell? ⟨b, off + k * 6 + 3, none⟩ = some (.int .i64 d.vC) := hcell 3 (by simp)
      have xv4 : wr.cell? ⟨b, off + k * 6 + 4, none⟩ = some (.slice xa0 d.vP.length xc0) := hcell 4 (by simp)
      have xv5 : wr.cell? ⟨b, off + k * 6 + 5, none⟩ = some (.slice xa1 d.needs.length xc1) := hcell 5 (by simp)
      obtain ⟨ya0, yc0, ye0, _⟩ := id yr0
      rw [length_strsV] at ye0
      subst ye0
      clear yr0
      obtain ⟨ya1, yc1, ye1, _⟩ := id yr1
      subst ye1
      clear yr1
      have yv0 : wr.cell? ⟨b', off' + k * 6, none⟩ = some (.string d.name) := hcell' 0 (by simp)
      have yv1 : wr.cell? ⟨b', off' + k * 6 + 1, none⟩ = some (.int .i64 d.vA) := hcell' 1 (by simp)
      have yv2 : wr.cell? ⟨b', off' + k * 6 + 2, none⟩ = some (.int .i64 d.vB) := hcell' 2 (by simp)
      have yv3 : wr.cell? ⟨b', off' + k * 6 + 3, none⟩ = some (.int .i64 d.vC) := hcell' 3 (by simp)
      have yv4 : wr.cell? ⟨b', off' + k * 6 + 4, none⟩ = some (.slice ya0 d.vP.length yc0) := hcell' 4 (by simp)
      have yv5 : wr.cell? ⟨b', off' + k * 6 + 5, none⟩ = some (.slice ya1 d.needs.length yc1) := hcell' 5 (by simp)
      have HC2 := hidden HC
      have hki : (k : Int) < (xs.length : Int) := by omega
      clear hcell hcell' HC hwt
      go_wp2_with fail
      go_region_with (go_at_call 16; refine HC2.out.mono ?_; rintro e w2 ⟨rfl, hb2⟩)
      all_goals go_wp2_with fail
      all_goals go_roundw
      all_goals first
        | exact ⟨k + 1, by omega, by go_num, hbr.drew.trans (hb2.mono hbr.size)⟩
        | (simp [intOf]; omega)
    · have he : k = xs.length := by omega
      subst he
      clear ha ha'
      go_wp2_with fail
      go_ret
      exact ⟨rfl, hbr⟩

end Go.Proofs.YtkijckpkojcdcaaDoor

/-! What lies in memory while the law on EntryOf goes on, and that it stays: pure facts, no condition. -/
namespace Go.Proofs.YtkijckpkojcdcaaDoor
open Go.RowKit
set_option linter.unusedSimpArgs false
set_option linter.unusedVariables false

/-- A row of entries made by a call that began in a world of this size. -/
def RowO (lo : Nat) (w : World) (v : Value) (xs : List EntryD) : Prop := RowOwn shEntryO 42 (Ow lo w.heap.size) w v xs
theorem RowO.grow {lo : Nat} {w w' : World} {v : Value} {xs : List EntryD} (h : RowO lo w v xs) (b : Below w.heap.size w w') : RowO lo w' v xs := (RowOwn.keep (Ow.below b) h).mono (Ow.mono (Nat.le_refl _) b.size)
def StrO (lo : Nat) (w : World) (u : Value) (ss : List ByteArray) : Prop := StrsOwn (Ow lo w.heap.size) w u ss
theorem StrO.grow {lo : Nat} {w w' : World} {u : Value} {ss : List ByteArray} (h : StrO lo w u ss) (b : Below w.heap.size w w') : StrO lo w' u ss := (StrsOwn.keep (Ow.below b) h).mono (Ow.mono (Nat.le_refl _) b.size)
theorem StrO.reads {lo : Nat} {w : World} {u : Value} {ss : List ByteArray} (h : StrO lo w u ss) : Reads w u (strsV ss) := reads_of_owns (h.1)
/-- What EntryOf gives back. -/
def EntR (w1 w' : World) (e : Ending) (D : EntryD) (is : Bool) : Prop := ∃ q8 c8 q9 c9 lo hi, e = .returned (.tuple #[.agg #[.string D.name, .int .i64 D.vA, .int .i64 D.vB, .int .i64 D.vC, .slice q8 D.vP.length c8, .slice q9 D.needs.length c9], .bool is]) ∧
  shEntryO.lies (Ow lo hi) w' [.string D.name, .int .i64 D.vA, .int .i64 D.vB, .int .i64 D.vC, .slice q8 D.vP.length c8, .slice q9 D.needs.length c9] D ∧ lo = w1.heap.size ∧ hi = w'.heap.size ∧ Below w1.heap.size w1 w'
theorem EntR.of {w1 w' : World} {e : Ending} {D : EntryD} {is : Bool} (h : ∃ cs, e = .returned (.tuple #[.agg cs.toArray, .bool is]) ∧ shEntryO.lies (Ow w1.heap.size w'.heap.size) w' cs D ∧ Below w1.heap.size w1 w') : EntR w1 w' e D is := by
  obtain ⟨cs, h1, h2, h3⟩ := h
  obtain ⟨u0, u1, rfl, a1, a2, a3, a4⟩ := id h2
  obtain ⟨q8, c8, e8⟩ := a2.slice
  subst e8
  obtain ⟨q9, c9, e9⟩ := a4.slice
  subst e9
  exact ⟨q8, c8, q9, c9, _, _, h1, h2, rfl, rfl, h3⟩
/-- The law's memory: the boxes of the argument and of the two answers, and what the first answer refers to. -/
structure StE (N B8 B12 lo hi : Nat) (AO E8 E12 : Obj) (c8 : List Value) (D : EntryD) (W : World) : Prop where
  hA : W.heap[N]? = some AO
  h8 : W.heap[B8]? = some E8
  h12 : W.heap[B12]? = some E12
  l8 : shEntryO.lies (Ow lo hi) W c8 D
  hh : hi ≤ W.heap.size
theorem StE.chg {N B8 B12 lo hi : Nat} {AO E8 E12 : Obj} {c8 : List Value} {D : EntryD} {W W' : World} {S : Nat → Prop} (h : StE N B8 B12 lo hi AO E8 E12 c8 D W) (k : Chg S W W') (n1 : ¬ S N) (n2 : ¬ S B8) (n3 : ¬ S B12) (n4 : ∀ b, Ow lo hi b → ¬ S b) : StE N B8 B12 lo hi AO E8 E12 c8 D W' :=
  ⟨(k.block _ (Array.getElem?_eq_some_iff.1 h.hA).1 n1).trans h.hA, (k.block _ (Array.getElem?_eq_some_iff.1 h.h8).1 n2).trans h.h8, (k.block _ (Array.getElem?_eq_some_iff.1 h.h12).1 n3).trans h.h12, shEntryO.keep (fun b hb => k.block b (Nat.lt_of_lt_of_le hb.2 h.hh) (n4 b hb)) h.l8, Nat.le_trans h.hh k.size⟩
theorem StE.below {N B8 B12 lo hi : Nat} {AO E8 E12 : Obj} {c8 : List Value} {D : EntryD} {W W' : World} (h : StE N B8 B12 lo hi AO E8 E12 c8 D W) (k : Below W.heap.size W W') : StE N B8 B12 lo hi AO E8 E12 c8 D W' :=
  h.chg (Chg.of (S := fun _ => False) k) id id id (fun _ _ => id)
/-- A part that lies in blocks from lo up to hi. -/
theorem lies_chg {lo hi : Nat} {cs : List Value} {D : EntryD} {W W' : World} {S : Nat → Prop} (h : shEntryO.lies (Ow lo hi) W cs D) (hh : hi ≤ W.heap.size) (k : Chg S W W') (n : ∀ b, Ow lo hi b → ¬ S b) : shEntryO.lies (Ow lo hi) W' cs D :=
  shEntryO.keep (fun b hb => k.block b (Nat.lt_of_lt_of_le hb.2 hh) (n b hb)) h
theorem lies_below {lo hi : Nat} {cs : List Value} {D : EntryD} {W W' : World} (h : shEntryO.lies (Ow lo hi) W cs D) (hh : hi ≤ W.heap.size) (k : Below W.heap.size W W') : shEntryO.lies (Ow lo hi) W' cs D :=
  lies_chg h hh (Chg.of (S := fun _ => False) k) (fun _ _ => id)
/-- All that the law has made: besides, the copy that was handed in, the version's, and what the second answer refers to. -/
structure AllE (N B8 B11 B12 lo hi lo1 hi1 lo2 hi2 lo3 hi3 : Nat) (AO E8 V11 E12 : Obj) (c8 c12 : List Value) (vx u2 : Value) (xs : List EntryD) (z2 : List ByteArray) (D : EntryD) (W : World) : Prop where
  st : StE N B8 B12 lo hi AO E8 E12 c8 D W
  h11 : W.heap[B11]? = some V11
  l12 : shEntryO.lies (Ow lo3 hi3) W c12 D
  rx : RowOwn shEntryO 42 (Ow lo1 hi1) W vx xs
  r2 : StrsOwn (Ow lo2 hi2) W u2 z2
  b1 : hi1 ≤ W.heap.size
  b2 : hi2 ≤ W.heap.size
  b3 : hi3 ≤ W.heap.size
theorem AllE.below {N B8 B11 B12 lo hi lo1 hi1 lo2 hi2 lo3 hi3 : Nat} {AO E8 V11 E12 : Obj} {c8 c12 : List Value} {vx u2 : Value} {xs : List EntryD} {z2 : List ByteArray} {D : EntryD} {W W' : World} (h : AllE N B8 B11 B12 lo hi lo1 hi1 lo2 hi2 lo3 hi3 AO E8 V11 E12 c8 c12 vx u2 xs z2 D W) (k : Below W.heap.size W W') : AllE N B8 B11 B12 lo hi lo1 hi1 lo2 hi2 lo3 hi3 AO E8 V11 E12 c8 c12 vx u2 xs z2 D W' :=
  ⟨h.st.below k, box_below h.h11 k, lies_below h.l12 h.b3 k, h.rx.keep (fun b hb => k.block b (Nat.lt_of_lt_of_le hb.2 h.b1)), h.r2.keep (fun b hb => k.block b (Nat.lt_of_lt_of_le hb.2 h.b2)), Nat.le_trans h.b1 k.size, Nat.le_trans h.b2 k.size, Nat.le_trans h.b3 k.size⟩
theorem below_chg {B : Nat} {S : Nat → Prop} {w W W' : World} (h : Below B w W) (k : Chg S W W') (hs : ∀ b, S b → B ≤ b) (hB : B ≤ W.heap.size) : Below B w W' :=
  ⟨k.os.trans h.os, k.tape.trans h.tape, k.output.trans h.output, Nat.le_trans h.size k.size, fun b hb => (k.block b (Nat.lt_of_lt_of_le hb hB) (fun hS => by have := hs b hS; omega)).trans (h.block b hb)⟩
end Go.Proofs.YtkijckpkojcdcaaDoor
