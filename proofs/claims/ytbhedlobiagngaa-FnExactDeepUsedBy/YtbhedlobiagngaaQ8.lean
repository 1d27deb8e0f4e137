/-
  Contracts for the walks, several texts in one: each part says what it proves, and under which conditions.
-/
import Derived.SliceStrings
import Derived.ChangeArms
import Derived.ChangeOld
import Derived.ChangeAt
import Derived.OpenShut
import Derived.ShutString
import Derived.Test.YtbhedlobiagngaaQ7
import Derived.Test.YtbhedlobiagngaaQ1
import Derived.Test.YtbhedlobiagngaaQ5

/-! How much packs hold, as the law counts it: contracts for the walks; conditions: at most 2 to the 20 is left to count. -/
namespace Go.Proofs.Ytbhedlobiagngaa
open Go.RowKit
set_option linter.unusedSimpArgs false
set_option linter.unusedVariables false

set_option maxHeartbeats 2000000 in
set_option maxRecDepth 100000 in
theorem szPack_c (S : Nat → Prop) (d : PackD) (cs : List Value) (left : Int) (h0 : 0 ≤ left) (h1 : left ≤ 1048576) (w : World) (hd : shPack.lies S w cs d) (hB : ∀ b, S b → b < w.heap.size) :
    Calls Try.prog 40 #[.agg cs.toArray, .int .i64 left] w fun e w' => e = .returned (.int .i64 (leftW (wtPack d) left)) ∧ Below w.heap.size w w' := by
  obtain ⟨u0, u1, u2, rfl, s_name, r0, p0, r1, r2⟩ := hd
  unfold maxLen at s_name
  have hbx : ∀ o, Below w.heap.size w (w.alloc o) := fun o => (Below.refl _ _).alloc (Nat.le_refl _) _
  obtain ⟨R, hR⟩ : ∃ R, R = leftW (wtPack d) left := ⟨_, rfl⟩
  rw [← hR]
  obtain ⟨q0, hq0⟩ : ∃ q, q = leftW (bulkS d.uses) (left - (d.name.size : Int)) := ⟨_, rfl⟩
  obtain ⟨q1, hq1⟩ : ∃ q, q = leftW (wtRow wtNeed d.needs) q0 := ⟨_, rfl⟩
  obtain ⟨q2, hq2⟩ : ∃ q, q = leftW (wtRow wtCmd d.cmds) q1 := ⟨_, rfl⟩
  have HS0 : Hid (0 ≤ (left - (d.name.size : Int)) → (left - (d.name.size : Int)) ≤ 1048576 → ∀ w1, Below w.heap.size w w1 → Calls Try.prog 66 #[u0, .int .i64 (left - (d.name.size : Int))] w1 fun e w' => e = .returned (.int .i64 q0) ∧ w1 = w') := fun a b w1 hb => by
    rw [hq0]; exact sizeStrsM_c u0 d.uses w1 _ a b ((r0.keep (.of hb hB)).reads (fun b h => Nat.lt_of_lt_of_le (hB b h) hb.size)) p0.1 p0.2
  obtain ⟨a0, cap0, eu0, _⟩ := id r0
  rw [length_strsV] at eu0
  have HS1 : Hid (0 ≤ q0 → q0 ≤ 1048576 → ∀ w1, Below w.heap.size w w1 → Calls Try.prog 67 #[u1, .int .i64 q0] w1 fun e w' => e = .returned (.int .i64 q1) ∧ Below w1.heap.size w1 w') := fun a b w1 hb => by
    rw [hq1]; exact szNeedS_c S u1 d.needs _ a b w1 (r1.keep (.of hb hB)) (fun b h => Nat.lt_of_lt_of_le (hB b h) hb.size)
  obtain ⟨a1, cap1, eu1, _⟩ := id r1
  have HS2 : Hid (0 ≤ q1 → q1 ≤ 1048576 → ∀ w1, Below w.heap.size w w1 → Calls Try.prog 68 #[u2, .int .i64 q1] w1 fun e w' => e = .returned (.int .i64 q2) ∧ Below w1.heap.size w1 w') := fun a b w1 hb => by
    rw [hq2]; exact szCmdS_c S u2 d.cmds _ a b w1 (r2.keep (.of hb hB)) (fun b h => Nat.lt_of_lt_of_le (hB b h) hb.size)
  obtain ⟨a2, cap2, eu2, _⟩ := id r2
  subst eu0
  clear r0
  subst eu1
  clear r1
  subst eu2
  clear r2
  have lt := lw (wtPack d) left
  have l0 := lw (bulkS d.uses) (left - (d.name.size : Int))
  rw [← hq0] at l0
  have l1 := lw (wtRow wtNeed d.needs) q0
  rw [← hq1] at l1
  have l2 := lw (wtRow wtCmd d.cmds) q1
  rw [← hq2] at l2
  rw [← hR] at lt
  unfold wtPack at lt
  clear hq0 hq1 hq2 hR
  by_cases n0 : (left - (d.name.size : Int)) < 0
  · have HR : Hid (R = -1) := by show _ = _; omega
    clear lt l0 l1 l2
    clear HS0
    clear HS1
    clear HS2
    go_enter Try.func40, Try.ntmps40
    go_wp2_with fail
    go_ret
    exact ⟨by rw [HR.out]; rfl, (hbx _)⟩
  by_cases n1 : q0 < 0
  · have HR : Hid (R = -1) := by show _ = _; omega
    have g0a : 0 ≤ (left - (d.name.size : Int)) := by omega
    have g0b : (left - (d.name.size : Int)) ≤ 1048576 := by omega
    have HC0 := HS0.out g0a g0b
    have HD0 := hidden HC0
    clear HC0
    clear lt l0 l1 l2
    clear HS0
    clear HS1
    clear HS2
    go_enter Try.func40, Try.ntmps40
    go_wp2_with fail
    go_at_call 66
    refine (HD0.out _ (hbx _)).mono ?_
    rintro e w' ⟨rfl, rfl⟩
    go_wp2_with fail
    go_ret
    exact ⟨by rw [HR.out]; rfl, (hbx _)⟩
  by_cases n2 : q1 < 0
  · have HR : Hid (R = -1) := by show _ = _; omega
    have g0a : 0 ≤ (left - (d.name.size : Int)) := by omega
    have g0b : (left - (d.name.size : Int)) ≤ 1048576 := by omega
    have g1a : 0 ≤ q0 := by omega
    have g1b : q0 ≤ 1048576 := by omega
    have HC0 := HS0.out g0a g0b
    have HD0 := hidden HC0
    clear HC0
    have HC1 := HS1.out g1a g1b
    have HD1 := hidden HC1
    clear HC1
    clear lt l0 l1 l2
    clear HS0
    clear HS1
    clear HS2
    go_enter Try.func40, Try.ntmps40
    go_wp2_with fail
    go_at_call 66
    refine (HD0.out _ (hbx _)).mono ?_
    rintro e w' ⟨rfl, rfl⟩
    go_wp2_with fail
    go_at_call 67
    refine (HD1.out _ (hbx _)).mono ?_
    rintro e w2 ⟨rfl, b2⟩
    have k2 : Below w.heap.size w w2 := ((hbx _)).trans (b2.mono (by first | exact ((hbx _)).size | (simp; omega)))
    have hx2 := boxAt b2
    have x0 := vblk_cell hx2 0
    have x1 := vblk_cell hx2 1
    have x2 := vblk_cell hx2 2
    have x3 := vblk_cell hx2 3
    simp only [List.getElem?_toArray, List.getElem?_cons_succ, List.getElem?_cons_zero] at x0 x1 x2 x3
    go_wp2_with fail
    go_ret
    exact ⟨by rw [HR.out]; rfl, k2⟩
  by_cases n3 : q2 < 0
  · have HR : Hid (R = -1) := by show _ = _; omega
    have g0a : 0 ≤ (left - (d.name.size : Int)) := by omega
    have g0b : (left - (d.name.size : Int)) ≤ 1048576 := by omega
    have g1a : 0 ≤ q0 := by omega
    have g1b : q0 ≤ 1048576 := by omega
    have g2a : 0 ≤ q1 := by omega
    have g2b : q1 ≤ 1048576 := by omega
    have HC0 := HS0.out g0a g0b
    have HD0 := hidden HC0
    clear HC0
    have HC1 := HS1.out g1a g1b
    have HD1 := hidden HC1
    clear HC1
    have HC2 := HS2.out g2a g2b
    have HD2 := hidden HC2
    clear HC2
    clear lt l0 l1 l2
    clear HS0
    clear HS1
    clear HS2
    go_enter Try.func40, Try.ntmps40
    go_wp2_with fail
    go_at_call 66
    refine (HD0.out _ (hbx _)).mono ?_
    rintro e w' ⟨rfl, rfl⟩
    go_wp2_with fail
    go_at_call 67
    refine (HD1.out _ (hbx _)).mono ?_
    rintro e w2 ⟨rfl, b2⟩
    have k2 : Below w.heap.size w w2 := ((hbx _)).trans (b2.mono (by first | exact ((hbx _)).size | (simp; omega)))
    have hx2 := boxAt b2
    have x0 := vblk_cell hx2 0
    have x1 := vblk_cell hx2 1
    have x2 := vblk_cell hx2 2
    have x3 := vblk_cell hx2 3
    simp only [List.getElem?_toArray, List.getElem?_cons_succ, List.getElem?_cons_zero] at x0 x1 x2 x3
    go_wp2_with fail
    go_at_call 68
    refine (HD2.out _ k2).mono ?_
    rintro e w3 ⟨rfl, b3⟩
    have k3 : Below w.heap.size w w3 := (k2).trans (b3.mono (by first | exact (k2).size | (simp; omega)))
    have hx3 := (b3.block _ (Array.getElem?_eq_some_iff.1 hx2).1).trans hx2
    have x0 := vblk_cell hx3 0
    have x1 := vblk_cell hx3 1
    have x2 := vblk_cell hx3 2
    have x3 := vblk_cell hx3 3
    simp only [List.getElem?_toArray, List.getElem?_cons_succ, List.getElem?_cons_zero] at x0 x1 x2 x3
    go_wp2_with fail
    go_ret
    exact ⟨by rw [HR.out]; rfl, k3⟩
  have HR : Hid (R = q2) := by show _ = _; omega
  have g0a : 0 ≤ (left - (d.name.size : Int)) := by omega
  have g0b : (left - (d.name.size : Int)) ≤ 1048576 := by omega
  have g1a : 0 ≤ q0 := by omega
  have g1b : q0 ≤ 1048576 := by omega
  have g2a : 0 ≤ q1 := by omega
  have g2b : q1 ≤ 1048576 := by omega
  have HC0 := HS0.out g0a g0b
  have HD0 := hidden HC0
  clear HC0
  have HC1 := HS1.out g1a g1b
  have HD1 := hidden HC1
  clear HC1
  have HC2 := HS2.out g2a g2b
  have HD2 := hidden HC2
  clear HC2
  clear lt l0 l1 l2
  clear HS0
  clear HS1
  clear HS2
  go_enter Try.func40, Try.ntmps40
  go_wp2_with fail
  go_at_call 66
  refine (HD0.out _ (hbx _)).mono ?_
  rintro e w' ⟨rfl, rfl⟩
  go_wp2_with fail
  go_at_call 67
  refine (HD1.out _ (hbx _)).mono ?_
  rintro e w2 ⟨rfl, b2⟩
  have k2 : Below w.heap.size w w2 := ((hbx _)).trans (b2.mono (by first | exact ((hbx _)).size | (simp; omega)))
  have hx2 := boxAt b2
  have x0 := vblk_cell hx2 0
  have x1 := vblk_cell hx2 1
  have x2 := vblk_cell hx2 2
  have x3 := vblk_cell hx2 3
  simp only [List.getElem?_toArray, List.getElem?_cons_succ, List.getElem?_cons_zero] at x0 x1 x2 x3
  go_wp2_with fail
  go_at_call 68
  refine (HD2.out _ k2).mono ?_
  rintro e w3 ⟨rfl, b3⟩
  have k3 : Below w.heap.size w w3 := (k2).trans (b3.mono (by first | exact (k2).size | (simp; omega)))
  have hx3 := (b3.block _ (Array.getElem?_eq_some_iff.1 hx2).1).trans hx2
  have x0 := vblk_cell hx3 0
  have x1 := vblk_cell hx3 1
  have x2 := vblk_cell hx3 2
  have x3 := vblk_cell hx3 3
  simp only [List.getElem?_toArray, List.getElem?_cons_succ, List.getElem?_cons_zero] at x0 x1 x2 x3
  go_wp2_with fail
  go_ret
  exact ⟨by rw [HR.out]; rfl, k3⟩

set_option maxHeartbeats 2000000 in
set_option maxRecDepth 100000 in
theorem szPackS_c (S : Nat → Prop) (v : Value) (xs : List PackD) (left : Int) (h0 : 0 ≤ left) (h1 : left ≤ 1048576) (w : World) (hv : RowIn shPack S w v xs) (hB : ∀ b, S b → b < w.heap.size) :
    Calls Try.prog 16 #[v, .int .i64 left] w fun e w' => e = .returned (.int .i64 (leftW (wtRow wtPack xs) left)) ∧ Below w.heap.size w w' := by
  obtain ⟨a, cap, rfl, hl, hc, ha⟩ := hv
  unfold maxLen at hl
  by_cases hneg : left - (xs.length : Int) < 0
  · have e : leftW (wtRow wtPack xs) left = -1 := leftW_bad (by have := len_wtRow wtPack xs; omega)
    rw [e]
    clear ha
    go_enter Try.func16, Try.ntmps16
    go_wp2_with fail
    go_ret
    exact ⟨rfl, Below.refl _ _⟩
  · go_enter Try.func16, Try.ntmps16
    go_wp2_with fail
    go_loopw [1, 5] (fun vl vi wr => ∃ (k : Nat) (q : Int), k ≤ xs.length ∧ vi = .int .i64 (k : Int) ∧ vl = .int .i64 q ∧ 0 ≤ q ∧ q ≤ 1048576 ∧ Hid (q = left - (xs.length : Int) - (wtRow wtPack (xs.take k) : Int) + (k : Int)) ∧ Below w.heap.size w wr) (fun _ vi _ => xs.length - (intOf vi).toNat)
    case atStart => exact ⟨0, _, Nat.zero_le _, rfl, rfl, by omega, by omega, by show _ = _; simp [wtRow], Below.refl _ _⟩
    case round =>
      obtain ⟨k, q, hk, rfl, rfl, hq0, hq1, hq, hbr⟩ := hrel
      by_cases hlt' : k < xs.length
      · rcases ha with rfl | ⟨b, off, rfl, hlt, ha⟩
        · simp at hlt'
        obtain ⟨cs, hL, hcell⟩ := ha k hlt'
        have hL2 := shPack.keep (.of hbr hB) hL
        have hcell2 := hcell.keep (.of hbr hB) hlt
        have hBr : ∀ b, S b → b < wr.heap.size := fun b h => Nat.lt_of_lt_of_le (hB b h) hbr.size
        have hwt := wtRow_take wtPack xs k hlt'
        have hsp := wtRow_split wtPack xs (k + 1)
        have hln := len_wtRow wtPack (xs.drop (k + 1))
        have hdl : (xs.drop (k + 1)).length = xs.length - (k + 1) := by simp
        obtain ⟨d, hd⟩ : ∃ d, d = xs[k] := ⟨_, rfl⟩
        rw [← hd] at hL2 hwt
        have HW : Hid (wtRow wtPack (xs.take (k + 1)) = wtRow wtPack (xs.take k) + (1 + wtPack d)) := hwt
        have HSP : Hid (wtRow wtPack xs = wtRow wtPack (xs.take (k + 1)) + wtRow wtPack (xs.drop (k + 1)) ∧ xs.length - (k + 1) ≤ wtRow wtPack (xs.drop (k + 1))) := ⟨hsp, by omega⟩
        have hki : (k : Int) < (xs.length : Int) := by omega
        obtain ⟨p, hp⟩ : ∃ p, p = leftW (wtPack d) q := ⟨_, rfl⟩
        have HP : Hid (p = leftW (wtPack d) q) := hp
        have HC := szPack_c S d cs q hq0 hq1 wr hL2 hBr
        rw [← hp] at HC
        clear hL hcell ha hwt hd hp hsp hln hdl
        obtain ⟨u0, u1, u2, rfl, s_name, r0, p0, r1, r2⟩ := hL2
        clear s_name p0
        obtain ⟨a0, cap0, eu0, _⟩ := id r0
        rw [length_strsV] at eu0
        subst eu0
        clear r0
        obtain ⟨a1, cap1, eu1, _⟩ := id r1
        subst eu1
        clear r1
        obtain ⟨a2, cap2, eu2, _⟩ := id r2
        subst eu2
        clear r2
        have e0 : wr.cell? ⟨b, off + k * 4, none⟩ = some (.string d.name) := hcell2 0 (by simp)
        have e1 : wr.cell? ⟨b, off + k * 4 + 1, none⟩ = some (.slice a0 d.uses.length cap0) := hcell2 1 (by simp)
        have e2 : wr.cell? ⟨b, off + k * 4 + 2, none⟩ = some (.slice a1 d.needs.length cap1) := hcell2 2 (by simp)
        have e3 : wr.cell? ⟨b, off + k * 4 + 3, none⟩ = some (.slice a2 d.cmds.length cap2) := hcell2 3 (by simp)
        have HC2 := hidden HC
        clear hcell2 HC
        by_cases hpn : p < 0
        · go_wp2_with (go_at_call 40; refine HC2.out.mono ?_; rintro e w1 ⟨rfl, hb1⟩)
          go_ret
          have e : leftW (wtRow wtPack xs) left = -1 := by
            have h2 := HP.out; have h3 := hq.out; have h4 := HW.out; have h5 := HSP.out
            refine leftW_bad ?_
            by_cases h6 : ((wtPack d : Nat) : Int) ≤ q
            · rw [leftW_good h6] at h2; omega
            · omega
          exact ⟨by rw [e]; rfl, hbr.trans (hb1.mono hbr.size)⟩
        · go_wp2_with (go_at_call 40; refine HC2.out.mono ?_; rintro e w1 ⟨rfl, hb1⟩)
          go_roundw
          case rel =>
            have h2 := HP.out; have h3 := hq.out; have h4 := HW.out
            have h6 : ((wtPack d : Nat) : Int) ≤ q := by
              by_cases h6 : ((wtPack d : Nat) : Int) ≤ q
              · exact h6
              · rw [leftW_bad (by omega)] at h2; omega
            rw [leftW_good h6] at h2
            exact ⟨k + 1, p, by omega, by go_num, rfl, by omega, by omega, (by show _ = _; omega), hbr.trans (hb1.mono hbr.size)⟩
          case measure => simp [intOf]; omega
      · have he : k = xs.length := by omega
        subst he
        clear ha
        go_wp2_with fail
        go_ret
        have e : leftW (wtRow wtPack xs) left = q := by
          have h3 := hq.out
          rw [List.take_length] at h3
          rw [leftW_good (by omega)]; omega
        exact ⟨by rw [e]; rfl, hbr⟩

end Go.Proofs.Ytbhedlobiagngaa

/-! Needs and commands, and rows of them, that are the same are told so by the law's own comparison: contracts for what lies in memory and holds at most 2 to the 20. -/
namespace Go.Proofs.Ytbhedlobiagngaa
open Go.RowKit
set_option linter.unusedSimpArgs false
set_option linter.unusedVariables false

theorem boxTwo {w w1 : World} {A R : Obj} (hb : Below ((w.alloc A).alloc R).heap.size ((w.alloc A).alloc R) w1) : w1.heap[w.heap.size]? = some A ∧ w1.heap[w.heap.size + 1]? = some R := by
  have s1 : (w.alloc A).heap.size = w.heap.size + 1 := by simp
  refine ⟨?_, ?_⟩
  · rw [hb.block _ (by simp; omega), vheap_old _ _ (by simp), vheap_new]
  · rw [hb.block _ (by simp), ← s1, vheap_new]

set_option maxHeartbeats 2000000 in
set_option maxRecDepth 100000 in
theorem eqNeed_c (S S' : Nat → Prop) (d : NeedD) (cs cs' : List Value) (w : World) (hd : shNeed.lies S w cs d) (hd' : shNeed.lies S' w cs' d) (hB : ∀ b, S b → b < w.heap.size) (hB' : ∀ b, S' b → b < w.heap.size) (hw : wtNeed d ≤ 1048576) :
    Calls Try.prog 89 #[.agg cs.toArray, .agg cs'.toArray] w fun e w' => e = .returned (.bool true) ∧ Below w.heap.size w w' := by
  obtain ⟨rfl, xs_n, xs_r⟩ := hd
  obtain ⟨rfl, ys_n, ys_r⟩ := hd'
  have hb2 : ∀ A R, Below w.heap.size w ((w.alloc A).alloc R) := fun A R => ((Below.refl _ _).alloc (Nat.le_refl _) _).alloc (by simp) _
  unfold wtNeed at hw
  go_enter Try.func89, Try.ntmps89
  go_wp2_with fail
  go_ret
  exact ⟨rfl, (hb2 _ _)⟩

set_option maxHeartbeats 2000000 in
set_option maxRecDepth 100000 in
theorem eqNeedS_c (S S' : Nat → Prop) (v u : Value) (xs : List NeedD) (w : World) (hv : RowIn shNeed S w v xs) (hv' : RowIn shNeed S' w u xs) (hB : ∀ b, S b → b < w.heap.size) (hB' : ∀ b, S' b → b < w.heap.size) (hw : wtRow wtNeed xs ≤ 1048576) :
    Calls Try.prog 72 #[v, u] w fun e w' => e = .returned (.bool true) ∧ Below w.heap.size w w' := by
  obtain ⟨a, cap, rfl, hl, hc, ha⟩ := hv
  obtain ⟨a', cap', rfl, _, hc', ha'⟩ := hv'
  unfold maxLen at hl
  go_enter Try.func72, Try.ntmps72
  go_wp2_with fail
  go_loopw [5] (fun vi wr => ∃ k : Nat, k ≤ xs.length ∧ vi = .int .i64 (k : Int) ∧ Below w.heap.size w wr) (fun vi _ => xs.length - (intOf vi).toNat)
  case atStart => exact ⟨0, Nat.zero_le _, rfl, Below.refl _ _⟩
  case round =>
    obtain ⟨k, hk, rfl, hbr⟩ := hrel
    by_cases hlt' : k < xs.length
    · rcases ha with rfl | ⟨b, off, rfl, hlt, ha⟩
      · simp at hlt'
      rcases ha' with rfl | ⟨b', off', rfl, hlt3, ha'⟩
      · simp at hlt'
      obtain ⟨cs, hL, hcell⟩ := ha k hlt'
      obtain ⟨cs', hL', hcell'⟩ := ha' k hlt'
      have hwt : wtNeed xs[k] ≤ 1048576 := by have := wt_wtRow wtNeed (List.getElem_mem hlt'); omega
      have HC := eqNeed_c S S' xs[k] cs cs' wr.drew (shNeed.keep (.of hbr.drew hB) hL) (shNeed.keep (.of hbr.drew hB') hL') (fun b h => Nat.lt_of_lt_of_le (hB b h) hbr.size) (fun b h => Nat.lt_of_lt_of_le (hB' b h) hbr.size) hwt
      replace hL := shNeed.keep (.of hbr hB) hL
      replace hL' := shNeed.keep (.of hbr hB') hL'
      replace hcell := hcell.keep (.of hbr hB) hlt
      replace hcell' := hcell'.keep (.of hbr hB') hlt3
      obtain ⟨d, hd⟩ : ∃ d, d = xs[k] := ⟨_, rfl⟩
      rw [← hd] at hL hL' hwt
      clear ha ha' hd
      obtain ⟨rfl, xs_n, xs_r⟩ := hL
      obtain ⟨rfl, ys_n, ys_r⟩ := hL'
      clear xs_n xs_r ys_n ys_r
      have xv0 : wr.cell? ⟨b, off + k * 2, none⟩ = some (.string d.n) := hcell 0 (by simp)
      have xv1 : wr.cell? ⟨b, off + k * 2 + 1, none⟩ = some (.string d.r) := hcell 1 (by simp)
      have yv0 : wr.cell? ⟨b', off' + k * 2, none⟩ = some (.string d.n) := hcell' 0 (by simp)
      have yv1 : wr.cell? ⟨b', off' + k * 2 + 1, none⟩ = some (.string d.r) := hcell' 1 (by simp)
      have HC2 := hidden HC
      have hki : (k : Int) < (xs.length : Int) := by omega
      clear hcell hcell' HC hwt
      go_wp2_with fail
      go_region_with (go_at_call 89; refine HC2.out.mono ?_; rintro e w2 ⟨rfl, hb2⟩)
      all_goals go_wp2_with fail
      all_goals go_roundw
      all_goals first
        | exact ⟨k + 1, by omega, by go_num, hbr.drew.trans (hb2.mono hbr.size)⟩
        | (simp [intOf]; omega)
    · have he : k = xs.length := by omega
      subst he
      clear ha ha'
      go_wp2_with fail
      go_ret
      exact ⟨rfl, hbr⟩

set_option maxHeartbeats 2000000 in
set_option maxRecDepth 100000 in
theorem eqCmd_c (S S' : Nat → Prop) (d : CmdD) (cs cs' : List Value) (w : World) (hd : shCmd.lies S w cs d) (hd' : shCmd.lies S' w cs' d) (hB : ∀ b, S b → b < w.heap.size) (hB' : ∀ b, S' b → b < w.heap.size) (hw : wtCmd d ≤ 1048576) :
    Calls Try.prog 90 #[.agg cs.toArray, .agg cs'.toArray] w fun e w' => e = .returned (.bool true) ∧ Below w.heap.size w w' := by
  obtain ⟨xu0, rfl, xs_t, xr0, xp0⟩ := hd
  obtain ⟨yu0, rfl, ys_t, yr0, yp0⟩ := hd'
  have hb2 : ∀ A R, Below w.heap.size w ((w.alloc A).alloc R) := fun A R => ((Below.refl _ _).alloc (Nat.le_refl _) _).alloc (by simp) _
  unfold wtCmd at hw
  have HS0 : Hid (∀ w1, Below w.heap.size w w1 → Calls Try.prog 19 #[xu0, yu0] w1 fun e w' => e = .returned (.bool true) ∧ Below w1.heap.size w1 w') := fun w1 hb => by
    have := eqStrs_c xu0 yu0 d.acts d.acts w1 ((xr0.keep (.of hb hB)).reads (fun b h => Nat.lt_of_lt_of_le (hB b h) hb.size)) ((yr0.keep (.of hb hB')).reads (fun b h => Nat.lt_of_lt_of_le (hB' b h) hb.size)) (by unfold bulkS at hw; omega)
    rwa [decide_eq_true rfl] at this
  obtain ⟨xa0, xc0, xe0, _⟩ := id xr0
  rw [length_strsV] at xe0
  subst xe0
  clear xr0
  obtain ⟨ya0, yc0, ye0, _⟩ := id yr0
  rw [length_strsV] at ye0
  subst ye0
  clear yr0
  go_enter Try.func90, Try.ntmps90
  go_wp2_with fail
  go_at_call 19
  refine (HS0.out _ (hb2 _ _)).mono ?_
  rintro e w1 ⟨rfl, b1⟩
  obtain ⟨hA1, hR1⟩ := boxTwo b1
  have k1 : Below w.heap.size w w1 := (hb2 _ _).trans (b1.mono (hb2 _ _).size)
  go_wp2_with fail
  go_ret
  exact ⟨rfl, k1⟩

set_option maxHeartbeats 2000000 in
set_option maxRecDepth 100000 in
theorem eqCmdS_c (S S' : Nat → Prop) (v u : Value) (xs : List CmdD) (w : World) (hv : RowIn shCmd S w v xs) (hv' : RowIn shCmd S' w u xs) (hB : ∀ b, S b → b < w.heap.size) (hB' : ∀ b, S' b → b < w.heap.size) (hw : wtRow wtCmd xs ≤ 1048576) :
    Calls Try.prog 73 #[v, u] w fun e w' => e = .returned (.bool true) ∧ Below w.heap.size w w' := by
  obtain ⟨a, cap, rfl, hl, hc, ha⟩ := hv
  obtain ⟨a', cap', rfl, _, hc', ha'⟩ := hv'
  unfold maxLen at hl
  go_enter Try.func73, Try.ntmps73
  go_wp2_with fail
  go_loopw [5] (fun vi wr => ∃ k : Nat, k ≤ xs.length ∧ vi = .int .i64 (k : Int) ∧ Below w.heap.size w wr) (fun vi _ => xs.length - (intOf vi).toNat)
  case atStart => exact ⟨0, Nat.zero_le _, rfl, Below.refl _ _⟩
  case round =>
    obtain ⟨k, hk, rfl, hbr⟩ := hrel
    by_cases hlt' : k < xs.length
    · rcases ha with rfl | ⟨b, off, rfl, hlt, ha⟩
      · simp at hlt'
      rcases ha' with rfl | ⟨b', off', rfl, hlt3, ha'⟩
      · simp at hlt'
      obtain ⟨cs, hL, hcell⟩ := ha k hlt'
      obtain ⟨cs', hL', hcell'⟩ := ha' k hlt'
      have hwt : wtCmd xs[k] ≤ 1048576 := by have := wt_wtRow wtCmd (List.getElem_mem hlt'); omega
      have HC := eqCmd_c S S' xs[k] cs cs' wr.drew (shCmd.keep (.of hbr.drew hB) hL) (shCmd.keep (.of hbr.drew hB') hL') (fun b h => Nat.lt_of_lt_of_le (hB b h) hbr.size) (fun b h => Nat.lt_of_lt_of_le (hB' b h) hbr.size) hwt
      replace hL := shCmd.keep (.of hbr hB) hL
      replace hL' := shCmd.keep (.of hbr hB') hL'
      replace hcell := hcell.keep (.of hbr hB) hlt
      replace hcell' := hcell'.keep (.of hbr hB') hlt3
      obtain ⟨d, hd⟩ : ∃ d, d = xs[k] := ⟨_, rfl⟩
      rw [← hd] at hL hL' hwt
      clear ha ha' hd
      obtain ⟨xu0, rfl, xs_t, xr0, xp0⟩ := hL
      obtain ⟨yu0, rfl, ys_t, yr0, yp0⟩ := hL'
      clear xs_t xp0 ys_t yp0
      obtain ⟨xa0, xc0, xe0, _⟩ := id xr0
      rw [length_strsV] at xe0
      subst xe0
      clear xr0
      have xv0 : wr.cell? ⟨b, off + k * 2, none⟩ = some (.string d.t) := hcell 0 (by simp)
      have xv1 : wr.cell? ⟨b, off + k * 2 + 1, none⟩ = some (.slice xa0 d.acts.length xc0) := hcell 1 (by simp)
      obtain ⟨ya0, yc0, ye0, _⟩ := id yr0
      rw [length_strsV] at ye0
      subst ye0
      clear yr0
      have yv0 : wr.cell? ⟨b', off' + k * 2, none⟩ = some (.string d.t) := hcell' 0 (by simp)
      have yv1 : wr.cell? ⟨b', off' + k * 2 + 1, none⟩ = some (.slice ya0 d.acts.length yc0) := hcell' 1 (by simp)
      have HC2 := hidden HC
      have hki : (k : Int) < (xs.length : Int) := by omega
      clear hcell hcell' HC hwt
      go_wp2_with fail
      go_region_with (go_at_call 90; refine HC2.out.mono ?_; rintro e w2 ⟨rfl, hb2⟩)
      all_goals go_wp2_with fail
      all_goals go_roundw
      all_goals first
        | exact ⟨k + 1, by omega, by go_num, hbr.drew.trans (hb2.mono hbr.size)⟩
        | (simp [intOf]; omega)
    · have he : k = xs.length := by omega
      subst he
      clear ha ha'
      go_wp2_with fail
      go_ret
      exact ⟨rfl, hbr⟩

end Go.Proofs.Ytbhedlobiagngaa

/-! Packs, and rows of them, that are the same are told so by the law's own comparison: contracts for what lies in memory and holds at most 2 to the 20. -/
namespace Go.Proofs.Ytbhedlobiagngaa
open Go.RowKit
set_option linter.unusedSimpArgs false
set_option linter.unusedVariables false

set_option maxHeartbeats 2000000 in
set_option maxRecDepth 100000 in
theorem eqPack_c (S S' : Nat → Prop) (d : PackD) (cs cs' : List Value) (w : World) (hd : shPack.lies S w cs d) (hd' : shPack.lies S' w cs' d) (hB : ∀ b, S b → b < w.heap.size) (hB' : ∀ b, S' b → b < w.heap.size) (hw : wtPack d ≤ 1048576) :
    Calls Try.prog 44 #[.agg cs.toArray, .agg cs'.toArray] w fun e w' => e = .returned (.bool true) ∧ Below w.heap.size w w' := by
  obtain ⟨xu0, xu1, xu2, rfl, xs_name, xr0, xp0, xr1, xr2⟩ := hd
  obtain ⟨yu0, yu1, yu2, rfl, ys_name, yr0, yp0, yr1, yr2⟩ := hd'
  have hb2 : ∀ A R, Below w.heap.size w ((w.alloc A).alloc R) := fun A R => ((Below.refl _ _).alloc (Nat.le_refl _) _).alloc (by simp) _
  unfold wtPack at hw
  have HS0 : Hid (∀ w1, Below w.heap.size w w1 → Calls Try.prog 19 #[xu0, yu0] w1 fun e w' => e = .returned (.bool true) ∧ Below w1.heap.size w1 w') := fun w1 hb => by
    have := eqStrs_c xu0 yu0 d.uses d.uses w1 ((xr0.keep (.of hb hB)).reads (fun b h => Nat.lt_of_lt_of_le (hB b h) hb.size)) ((yr0.keep (.of hb hB')).reads (fun b h => Nat.lt_of_lt_of_le (hB' b h) hb.size)) (by unfold bulkS at hw; omega)
    rwa [decide_eq_true rfl] at this
  have HS1 : Hid (∀ w1, Below w.heap.size w w1 → Calls Try.prog 72 #[xu1, yu1] w1 fun e w' => e = .returned (.bool true) ∧ Below w1.heap.size w1 w') := fun w1 hb =>
    eqNeedS_c S S' xu1 yu1 d.needs w1 (xr1.keep (.of hb hB)) (yr1.keep (.of hb hB')) (fun b h => Nat.lt_of_lt_of_le (hB b h) hb.size) (fun b h => Nat.lt_of_lt_of_le (hB' b h) hb.size) (by omega)
  have HS2 : Hid (∀ w1, Below w.heap.size w w1 → Calls Try.prog 73 #[xu2, yu2] w1 fun e w' => e = .returned (.bool true) ∧ Below w1.heap.size w1 w') := fun w1 hb =>
    eqCmdS_c S S' xu2 yu2 d.cmds w1 (xr2.keep (.of hb hB)) (yr2.keep (.of hb hB')) (fun b h => Nat.lt_of_lt_of_le (hB b h) hb.size) (fun b h => Nat.lt_of_lt_of_le (hB' b h) hb.size) (by omega)
  obtain ⟨xa0, xc0, xe0, _⟩ := id xr0
  rw [length_strsV] at xe0
  subst xe0
  clear xr0
  obtain ⟨ya0, yc0, ye0, _⟩ := id yr0
  rw [length_strsV] at ye0
  subst ye0
  clear yr0
  obtain ⟨xa1, xc1, xe1, _⟩ := id xr1
  subst xe1
  clear xr1
  obtain ⟨ya1, yc1, ye1, _⟩ := id yr1
  subst ye1
  clear yr1
  obtain ⟨xa2, xc2, xe2, _⟩ := id xr2
  subst xe2
  clear xr2
  obtain ⟨ya2, yc2, ye2, _⟩ := id yr2
  subst ye2
  clear yr2
  go_enter Try.func44, Try.ntmps44
  go_wp2_with fail
  go_at_call 19
  refine (HS0.out _ (hb2 _ _)).mono ?_
  rintro e w1 ⟨rfl, b1⟩
  obtain ⟨hA1, hR1⟩ := boxTwo b1
  have k1 : Below w.heap.size w w1 := (hb2 _ _).trans (b1.mono (hb2 _ _).size)
  have o0 := vblk_cell hA1 0
  have q0 := vblk_cell hR1 0
  have o1 := vblk_cell hA1 1
  have q1 := vblk_cell hR1 1
  have o2 := vblk_cell hA1 2
  have q2 := vblk_cell hR1 2
  have o3 := vblk_cell hA1 3
  have q3 := vblk_cell hR1 3
  simp only [List.getElem?_toArray, List.getElem?_cons_succ, List.getElem?_cons_zero] at o0 q0 o1 q1 o2 q2 o3 q3
  go_wp2_with fail
  go_at_call 72
  refine (HS1.out _ k1).mono ?_
  rintro e w2 ⟨rfl, b2⟩
  have hA2 := (b2.block _ (Array.getElem?_eq_some_iff.1 hA1).1).trans hA1
  have hR2 := (b2.block _ (Array.getElem?_eq_some_iff.1 hR1).1).trans hR1
  have k2 := k1.trans (b2.mono k1.size)
  have o0 := vblk_cell hA2 0
  have q0 := vblk_cell hR2 0
  have o1 := vblk_cell hA2 1
  have q1 := vblk_cell hR2 1
  have o2 := vblk_cell hA2 2
  have q2 := vblk_cell hR2 2
  have o3 := vblk_cell hA2 3
  have q3 := vblk_cell hR2 3
  simp only [List.getElem?_toArray, List.getElem?_cons_succ, List.getElem?_cons_zero] at o0 q0 o1 q1 o2 q2 o3 q3
  go_wp2_with fail
  go_at_call 73
  refine (HS2.out _ k2).mono ?_
  rintro e w3 ⟨rfl, b3⟩
  have hA3 := (b3.block _ (Array.getElem?_eq_some_iff.1 hA2).1).trans hA2
  have hR3 := (b3.block _ (Array.getElem?_eq_some_iff.1 hR2).1).trans hR2
  have k3 := k2.trans (b3.mono k2.size)
  go_wp2_with fail
  go_ret
  exact ⟨rfl, k3⟩

set_option maxHeartbeats 2000000 in
set_option maxRecDepth 100000 in
theorem eqPackS_c (S S' : Nat → Prop) (v u : Value) (xs : List PackD) (w : World) (hv : RowIn shPack S w v xs) (hv' : RowIn shPack S' w u xs) (hB : ∀ b, S b → b < w.heap.size) (hB' : ∀ b, S' b → b < w.heap.size) (hw : wtRow wtPack xs ≤ 1048576) :
    Calls Try.prog 20 #[v, u] w fun e w' => e = .returned (.bool true) ∧ Below w.heap.size w w' := by
  obtain ⟨a, cap, rfl, hl, hc, ha⟩ := hv
  obtain ⟨a', cap', rfl, _, hc', ha'⟩ := hv'
  unfold maxLen at hl
  go_enter Try.func20, Try.ntmps20
  go_wp2_with fail
  go_loopw [5] (fun vi wr => ∃ k : Nat, k ≤ xs.length ∧ vi = .int .i64 (k : Int) ∧ Below w.heap.size w wr) (fun vi _ => xs.length - (intOf vi).toNat)
  case atStart => exact ⟨0, Nat.zero_le _, rfl, Below.refl _ _⟩
  case round =>
    obtain ⟨k, hk, rfl, hbr⟩ := hrel
    by_cases hlt' : k < xs.length
    · rcases ha with rfl | ⟨b, off, rfl, hlt, ha⟩
      · simp at hlt'
      rcases ha' with rfl | ⟨b', off', rfl, hlt3, ha'⟩
      · simp at hlt'
      obtain ⟨cs, hL, hcell⟩ := ha k hlt'
      obtain ⟨cs', hL', hcell'⟩ := ha' k hlt'
      have hwt : wtPack xs[k] ≤ 1048576 := by have := wt_wtRow wtPack (List.getElem_mem hlt'); omega
      have HC := eqPack_c S S' xs[k] cs cs' wr.drew (shPack.keep (.of hbr.drew hB) hL) (shPack.keep (.of hbr.drew hB') hL') (fun b h => Nat.lt_of_lt_of_le (hB b h) hbr.size) (fun b h => Nat.lt_of_lt_of_le (hB' b h) hbr.size) hwt
      replace hL := shPack.keep (.of hbr hB) hL
      replace hL' := shPack.keep (.of hbr hB') hL'
      replace hcell := hcell.keep (.of hbr hB) hlt
      replace hcell' := hcell'.keep (.of hbr hB') hlt3
      obtain ⟨d, hd⟩ : ∃ d, d = xs[k] := ⟨_, rfl⟩
      rw [← hd] at hL hL' hwt
      clear ha ha' hd
      obtain ⟨xu0, xu1, xu2, rfl, xs_name, xr0, xp0, xr1, xr2⟩ := hL
      obtain ⟨yu0, yu1, yu2, rfl, ys_name, yr0, yp0, yr1, yr2⟩ := hL'
      clear xs_name xp0 ys_name yp0
      obtain ⟨xa0, xc0, xe0, _⟩ := id xr0
      rw [length_strsV] at xe0
      subst xe0
      clear xr0
      obtain ⟨xa1, xc1, xe1, _⟩ := id xr1
      subst xe1
      clear xr1
      obtain ⟨xa2, xc2, xe2, _⟩ := id xr2
      subst xe2
      clear xr2
      have xv0 : wr.cell? ⟨b, off + k * 4, none⟩ = some (.string d.name) := hcell 0 (by simp)
      have xv1 : wr.cell? ⟨b, off + k * 4 + 1, none⟩ = some (.slice xa0 d.uses.length xc0) := hcell 1 (by simp)
      have xv2 : wr.cell? ⟨b, off + k * 4 + 2, none⟩ = some (.slice xa1 d.needs.length xc1) := hcell 2 (by simp)
      have xv3 : wr.cell? ⟨b, off + k * 4 + 3, none⟩ = some (.slice xa2 d.cmds.length xc2) := hcell 3 (by simp)
      obtain ⟨ya0, yc0, ye0, _⟩ := id yr0
      rw [length_strsV] at ye0
      subst ye0
      clear yr0
      obtain ⟨ya1, yc1, ye1, _⟩ := id yr1
      subst ye1
      clear yr1
      obtain ⟨ya2, yc2, ye2, _⟩ := id yr2
      subst ye2
      clear yr2
      have yv0 : wr.cell? ⟨b', off' + k * 4, none⟩ = some (.string d.name) := hcell' 0 (by simp)
      have yv1 : wr.cell? ⟨b', off' + k * 4 + 1, none⟩ = some (.slice ya0 d.uses.length yc0) := hcell' 1 (by simp)
      have yv2 : wr.cell? ⟨b', off' + k * 4 + 2, none⟩ = some (.slice ya1 d.needs.length yc1) := hcell' 2 (by simp)
      have yv3 : wr.cell? ⟨b', off' + k * 4 + 3, none⟩ = some (.slice ya2 d.cmds.length yc2) := hcell' 3 (by simp)
      have HC2 := hidden HC
      have hki : (k : Int) < (xs.length : Int) := by omega
      clear hcell hcell' HC hwt
      go_wp2_with fail
      go_region_with (go_at_call 44; refine HC2.out.mono ?_; rintro e w2 ⟨rfl, hb2⟩)
      all_goals go_wp2_with fail
      all_goals go_roundw
      all_goals first
        | exact ⟨k + 1, by omega, by go_num, hbr.drew.trans (hb2.mono hbr.size)⟩
        | (simp [intOf]; omega)
    · have he : k = xs.length := by omega
      subst he
      clear ha ha'
      go_wp2_with fail
      go_ret
      exact ⟨rfl, hbr⟩

end Go.Proofs.Ytbhedlobiagngaa

/-! The law on DeepUsedBy, walked: whatever comes in, the program and the specification answer alike, nothing is written into an argument, and the answer owns its memory; condition: what comes in lies in memory. -/
namespace Go.Proofs.Ytbhedlobiagngaa
open Go.RowKit
set_option linter.unusedSimpArgs false
set_option linter.unusedVariables false

set_option maxHeartbeats 8000000 in
set_option maxRecDepth 100000 in
theorem deepUsedBy_walk (a0 : Value) (z0 : List PackD) (a1 : ByteArray) (hs1 : a1.size ≤ maxLen) (w : World) (r0 : RowIn shPack (· < w.heap.size) w a0 z0) :
    Calls Try.prog 5 #[a0, .string a1] w fun e w' => e = .returned (.bool true) ∧ Below w.heap.size w w' := by
  obtain ⟨q0, cap0, hq0⟩ := r0.slice
  by_cases hbig1 : 1048576 < a1.size
  · have hb : (1048576 : Int) < (a1.size : Int) := by omega
    subst hq0
    clear r0
    go_enter Try.func5, Try.ntmps5
    go_wp2_with fail
    go_ret
    exact ⟨rfl, Below.refl _ _⟩
  have hb1' : ¬ (1048576 : Int) < (a1.size : Int) := by omega
  have hn1 : a1.size ≤ 1048576 := by omega
  have hin : ∀ w1, Below w.heap.size w w1 → RowIn shPack (· < w1.heap.size) w1 a0 z0 := fun w1 h => r0.below h
  have HZ : Hid (∀ w1, Below w.heap.size w w1 → Calls Try.prog 16 #[a0, .int .i64 1048576] w1 fun e w' => e = .returned (.int .i64 (leftW (wtRow wtPack z0) 1048576)) ∧ Below w1.heap.size w1 w') := fun w1 h => szPackS_c _ _ z0 _ (by omega) (by omega) w1 (hin w1 h) (fun b h => h)
  subst hq0
  by_cases hbig : 1048576 < wtRow wtPack z0
  · have e1 : leftW (wtRow wtPack z0) 1048576 = -1 := leftW_bad (by omega)
    rw [e1] at HZ
    clear e1 hin r0
    go_enter Try.func5, Try.ntmps5
    go_wp2_with (go_at_call 16; refine (HZ.out _ (Below.refl _ _)).mono ?_; rintro e w1 ⟨rfl, hb1⟩)
    go_ret
    exact ⟨rfl, hb1⟩
  have hwt : wtRow wtPack z0 ≤ 1048576 := by omega
  obtain ⟨p, hp⟩ : ∃ p, p = leftW (wtRow wtPack z0) 1048576 := ⟨_, rfl⟩
  rw [← hp] at HZ
  have hp0 : 0 ≤ p := by rw [hp, leftW_good (by omega)]; omega
  clear hp
  have HT : Hid (∀ w1, Below w.heap.size w w1 → Calls Try.prog 18 #[.slice q0 z0.length cap0] w1 fun e w' => ∃ g, e = .returned (.slice (some ⟨g, 0, none⟩) z0.length z0.length) ∧ RowOwn shPackO 33 (Ow w1.heap.size w'.heap.size) w' (.slice (some ⟨g, 0, none⟩) z0.length z0.length) z0 ∧ Below w1.heap.size w1 w') := fun w1 h => toPackS_c _ _ z0 w1 (hin w1 h) (fun b h => h) hwt
  obtain ⟨NN, hNN⟩ : ∃ N, N = deepBy z0 a1 := ⟨_, rfl⟩
  have HSP : Hid (∀ w1 g lo, RowOwn shPackO 33 (Ow lo w1.heap.size) w1 (.slice (some ⟨g, 0, none⟩) z0.length z0.length) z0 → Calls Try.prog 24 #[.slice (some ⟨g, 0, none⟩) z0.length z0.length, .string a1] w1 fun e w' => ∃ u, e = .returned (u) ∧ StrR w1.heap.size w'.heap.size w' u NN ∧ NN.length ≤ 4294967295 ∧ Below w1.heap.size w1 w') := fun w1 g lo h => by
    rw [hNN]
    exact specDeepBy_s (Ow lo w1.heap.size) _ z0 a1 w1 (RowIn.as (sh := shPackO) (sh' := shPack) rfl (fun S w cs x h => liesPack_plain h) h.plain) (fun b hb => hb.2) hwt hn1
  have HIM : Hid (∀ w1 g lo, RowOwn shPackO 33 (Ow lo w1.heap.size) w1 (.slice (some ⟨g, 0, none⟩) z0.length z0.length) z0 → Calls Try.prog 14 #[.slice (some ⟨g, 0, none⟩) z0.length z0.length, .string a1] w1 fun e w' => ∃ u, e = .returned (u) ∧ StrR w1.heap.size w'.heap.size w' u NN ∧ NN.length ≤ 4294967295 ∧ Below w1.heap.size w1 w') := fun w1 g lo h => by
    rw [hNN]
    exact implDeepBy_s (Ow lo w1.heap.size) _ z0 a1 w1 (RowIn.as (sh := shPackO) (sh' := shPack) rfl (fun S w cs x h => liesPack_plain h) h.plain) (fun b hb => hb.2) hwt hn1
  have HEV : Hid (NN.length ≤ 4294967295 → ∀ W l h l' h' u u', StrR l h W u NN → StrR l' h' W u' NN → Calls Try.prog 19 #[u, u'] W fun e w' => e = .returned (.bool true) ∧ Below W.heap.size W w') := fun hl W l h l' h' u u' a b => by
    have h9 := eqStrs_c u u' NN NN W (reads_of_owns a.1.1) (reads_of_owns b.1.1) (by omega)
    simpa using h9
  have HES : Hid (∀ W g g' l1 h1 l2 h2, RowOwn shPackO 33 (Ow l1 h1) W (.slice (some ⟨g, 0, none⟩) z0.length z0.length) z0 → h1 ≤ W.heap.size → RowOwn shPackO 33 (Ow l2 h2) W (.slice (some ⟨g', 0, none⟩) z0.length z0.length) z0 → h2 ≤ W.heap.size → Calls Try.prog 20 #[.slice (some ⟨g, 0, none⟩) z0.length z0.length, .slice (some ⟨g', 0, none⟩) z0.length z0.length] W fun e w' => e = .returned (.bool true) ∧ Below W.heap.size W w') := fun W g g' l1 h1 l2 h2 a c b d => eqPackS_c (Ow l1 h1) (Ow l2 h2) _ _ z0 W (RowIn.as (sh := shPackO) (sh' := shPack) rfl (fun S w cs x h => liesPack_plain h) a.plain) (RowIn.as (sh := shPackO) (sh' := shPack) rfl (fun S w cs x h => liesPack_plain h) b.plain) (fun b hb => Nat.lt_of_lt_of_le hb.2 c) (fun b hb => Nat.lt_of_lt_of_le hb.2 d) hwt
  have hcE := cntKs_wt z0
  obtain ⟨K1, hK1⟩ : ∃ K, K = 1 + cntKs z0 := ⟨_, rfl⟩
  have hK1n : ¬ (K1 : Int) < 0 := by omega
  have HMX : Hid (∀ W g l h, RowOwn shPackO 33 (Ow l h) W (.slice (some ⟨g, 0, none⟩) z0.length z0.length) z0 → Calls Try.prog 21 #[.slice (some ⟨g, 0, none⟩) z0.length z0.length, .int .i64 1] W fun e w' => e = .returned (.int .i64 (K1 : Int)) ∧ Chg (Ow l h) W w') := fun W g l h a => by rw [hK1]; exact markPackS_c (Ow l h) _ z0 1 W a (Nat.le_refl _) (by omega)
  obtain ⟨M1, hM1⟩ : ∃ K, K = 1 + NN.length := ⟨_, rfl⟩
  have hM1n : ¬ (M1 : Int) < 0 := by omega
  have hMi : ((1 : Nat) : Int) + (NN.length : Int) = (M1 : Int) := by omega
  have HMV : Hid (NN.length ≤ 4294967295 → ∀ W l h u, StrR l h W u NN → Calls Try.prog 22 #[u, .int .i64 1] W fun e w' => e = .returned (.int .i64 (M1 : Int)) ∧ w'.ownsRow 0 9 1 u NN.length (strsV (marksS 1 NN.length)) ∧ Chg (Ow l h) W w') := fun hl W l h u a => by
    have h9 := markStrs_c u 0 NN.length (strsV NN) 1 W a.1.1 (Nat.le_refl _) (by omega) (by omega) (Nat.zero_le _)
    rw [hMi] at h9
    refine h9.mono ?_
    rintro e w' ⟨he, hn, hg⟩
    exact ⟨he, hn, Chg.grown hg a.1.2⟩
  have HHV : Hid (NN.length ≤ 4294967295 → ∀ W u, W.ownsRow 0 9 1 u NN.length (strsV (marksS 1 NN.length)) → Calls Try.prog 23 #[u, .int .i64 1] W fun e w' => e = .returned (.int .i64 (M1 : Int)) ∧ Below W.heap.size W w') := fun hl W u a => by
    have h9 := heldStrs_c u NN.length 1 W (reads_of_owns a) (Nat.le_refl _) (by omega) (by omega)
    rw [hMi] at h9
    exact h9
  clear hNN hin r0 hbig hcE hK1 hM1 hMi hwt hn1 hbig1 hs1
  go_enter Try.func5, Try.ntmps5
  go_wp2_with fail
  go_at_call 16
  refine (HZ.out _ (Below.refl _ _)).mono ?_
  rintro e w1 ⟨rfl, k1⟩
  go_wp2_with fail
  go_at_call 18
  refine (HT.out _ k1).mono ?_
  rintro e w2 ⟨g2, rfl, F2, b2⟩
  have k2 := k1.trans (b2.mono k1.size)
  go_wp2_with fail
  go_at_call 24
  refine (HSP.out _ g2 _ F2).mono ?_
  rintro e w3 ⟨u6, rfl, o6, hlN, b3⟩
  have k3 := k2.trans (b3.mono k2.size)
  have m2 := b2.size
  have m3 := b3.size
  have HL := hidden hlN
  clear F2 b2 b3 HSP HZ hlN
  go_wp2_with fail
  go_at_call 18
  refine (HT.out _ k3).mono ?_
  rintro e w4 ⟨g4, rfl, F4, b4⟩
  have k4 := k3.trans (b4.mono k3.size)
  have o64 := o6.below b4
  have m4 := b4.size
  clear o6 b4
  go_wp2_with fail
  go_at_call 14
  refine (HIM.out _ g4 _ F4).mono ?_
  rintro e w5 ⟨u9, rfl, o9, _, b5⟩
  have k5 := k4.trans (b5.mono k4.size)
  have o65 := o64.below b5
  have F5 := F4.keep (Kp.of b5 (fun b hb => hb.2))
  have m5 := b5.size
  clear o64 F4 b5
  go_wp2_with fail
  go_at_call 19
  refine (HEV.out HL.out _ _ _ _ _ _ _ o9 o65).mono ?_
  rintro e w6 ⟨rfl, b6⟩
  have k6 := k5.trans (b6.mono k5.size)
  have o66 := o65.below b6
  have o96 := o9.below b6
  have F6 := F5.keep (Kp.of b6 (fun b hb => by have := hb.2; omega))
  have m6 := b6.size
  clear o65 o9 F5 b6
  go_wp2_with fail
  go_at_call 18
  refine (HT.out _ k6).mono ?_
  rintro e w7 ⟨g7, rfl, F7, b7⟩
  have k7 := k6.trans (b7.mono k6.size)
  have o67 := o66.below b7
  have o97 := o96.below b7
  have F67 := F6.keep (Kp.of b7 (fun b hb => by have := hb.2; omega))
  have m7 := b7.size
  clear o66 o96 F6 b7
  go_wp2_with fail
  go_at_call 20
  refine (HES.out _ _ _ _ _ _ _ F67 (by omega) F7 (Nat.le_refl _)).mono ?_
  rintro e w8 ⟨rfl, b8⟩
  have k8 := k7.trans (b8.mono k7.size)
  have o68 := o67.below b8
  have o98 := o97.below b8
  have F8 := F67.keep (Kp.of b8 (fun b hb => by have := hb.2; omega))
  have m8 := b8.size
  clear o67 o97 F67 F7 b8 HES
  go_wp2_with fail
  go_at_call 21
  refine (HMX.out _ _ _ _ F8).mono ?_
  rintro e w9 ⟨rfl, ch9⟩
  have k9 := below_chgW k8 ch9 (fun b hb => by have := hb.1; have := k3.size; omega) k8.size
  have o69 := o68.chg ch9 (fun b hb h => by have := hb.2; have := h.1; omega)
  have o99 := o98.chg ch9 (fun b hb h => by have := hb.1; have := h.2; omega)
  have m9 := ch9.size
  clear o68 o98 F8 ch9 HMX
  go_wp2_with fail
  go_at_call 19
  refine (HEV.out HL.out _ _ _ _ _ _ _ o99 o69).mono ?_
  rintro e w10 ⟨rfl, b10⟩
  have k10 := k9.trans (b10.mono k9.size)
  have o6a := o69.below b10
  have o9a := o99.below b10
  have m10 := b10.size
  clear o69 o99 b10
  go_wp2_with fail
  go_at_call 22
  refine (HMV.out HL.out _ _ _ _ o9a).mono ?_
  rintro e w11 ⟨rfl, n11, ch11⟩
  have k11 := below_chgW k10 ch11 (fun b hb => by have := hb.1; have := k3.size; omega) k10.size
  have o6b := o6a.chg ch11 (fun b hb h => by have := hb.2; have := h.1; omega)
  have m11 := ch11.size
  clear o6a o9a ch11 HMV
  go_wp2_with fail
  go_at_call 23
  refine (HHV.out HL.out _ _ n11).mono ?_
  rintro e w12 ⟨rfl, b12⟩
  have k12 := k11.trans (b12.mono k11.size)
  have o6c := o6b.below b12
  have n12 := owns_of_belowN n11 b12
  have m12 := b12.size
  clear o6b n11 b12
  go_wp2_with fail
  go_at_call 18
  refine (HT.out _ k12).mono ?_
  rintro e w13 ⟨g13, rfl, F13, b13⟩
  have k13 := k12.trans (b13.mono k12.size)
  have o6d := o6c.below b13
  have n13 := owns_of_belowN n12 b13
  clear o6c n12 b13 HT
  go_wp2_with fail
  go_at_call 14
  refine (HIM.out _ g13 _ F13).mono ?_
  rintro e w14 ⟨u14, rfl, o14, _, b14⟩
  have k14 := k13.trans (b14.mono k13.size)
  have o6e := o6d.below b14
  have n14 := owns_of_belowN n13 b14
  clear o6d n13 b14 F13 HIM
  go_wp2_with fail
  go_at_call 19
  refine (HEV.out HL.out _ _ _ _ _ _ _ o14 o6e).mono ?_
  rintro e w15 ⟨rfl, b15⟩
  have k15 := k14.trans (b15.mono k14.size)
  have n15 := owns_of_belowN n14 b15
  clear o6e o14 n14 b15
  go_wp2_with fail
  go_at_call 23
  refine (HHV.out HL.out _ _ n15).mono ?_
  rintro e w16 ⟨rfl, b16⟩
  have k16 := k15.trans (b16.mono k15.size)
  go_wp2_with fail
  go_ret
  exact ⟨rfl, k16⟩
end Go.Proofs.Ytbhedlobiagngaa

/-! What comes in as a version of the laws' own type: three numbers, and a list of texts that lies in memory: no condition. -/
namespace Go.Proofs.Ytbhedlobiagngaa
open Go.ChangeShapes Go.WideShapes Go.ChangeAt Go.RowKit
set_option linter.unusedSimpArgs false
set_option linter.unusedVariables false

theorem vaddr_add (b off i : Nat) : ((⟨b, off, none⟩ : Addr).add i) = ⟨b, off + i, none⟩ := by unfold Addr.add; split <;> simp_all
theorem list4 {cs : List Value} (h : cs.length = 4) : ∃ c0 c1 c2 c3, cs = [c0, c1, c2, c3] := by
  match cs, h with
  | [c0, c1, c2, c3], _ => exact ⟨c0, c1, c2, c3, rfl⟩

theorem vreads_open {H : Type} {enc : TypeId × Value → H} {w : World} {spare : Nat → Bool} {held : Bool} {fuel : Nat} {c : Value} {x : DataW H × List MemPlace}
    (hf : DataW.trod enc Try.prog w 0 spare held fuel 26 [c] = some x) : ∃ ks, Reads w c (strsV ks) ∧ saneP ks := by
  rcases open_strings Try.underlying26 Try.underlying9 (by kernel_rfl) hf with ⟨hcs, _⟩ | ⟨x, l, cap, zs, hcs, _, hl, hm, hz, _, hcell, hwz⟩
  · simp at hcs
    subst hcs
    exact ⟨[], ⟨none, 0, rfl, Nat.le_refl _, .inl rfl⟩, by simp [saneP]⟩
  · simp at hcs
    subst hcs
    have hz' : l ≤ zs.length := by rw [hz]; split <;> omega
    have hlen : (zs.take l).length = l := by simp; omega
    refine ⟨zs.take l, ?_, by rw [hlen]; omega, fun s hs => hwz s (List.mem_of_mem_take hs)⟩
    by_cases h0 : l = 0
    · subst h0
      exact ⟨some x, cap, by simp [strsV], by simp [strsV], .inl (by simp [strsV])⟩
    · obtain ⟨b, off, spot⟩ := x
      have hc0 := hcell 0 (by omega)
      have hspot : spot = none := by simpa [Addr.add] using World.cell?_spot hc0
      subst hspot
      refine ⟨some ⟨b, off, none⟩, cap, by simp [strsV]; omega, by simp [strsV]; omega, .inr ⟨b, off, rfl, ?_, fun i hi => ?_⟩⟩
      · rw [vaddr_add] at hc0; exact World.block_lt_of_cell? w _ hc0
      · have hi' : i < l := by simp [strsV] at hi; omega
        have := hcell i (by omega)
        rw [vaddr_add] at this
        rw [this]
        simp [strsV, List.getD_eq_getElem?_getD, show i < zs.length by omega]

end Go.Proofs.Ytbhedlobiagngaa

/-! What comes in as packs of the laws' own type: packs that lie in memory: no condition. -/
namespace Go.Proofs.Ytbhedlobiagngaa
open Go.ChangeShapes Go.WideShapes Go.ChangeAt Go.RowKit
set_option linter.unusedSimpArgs false
set_option linter.unusedVariables false

theorem olist2 {cs : List Value} (h : cs.length = 2) : ∃ c0 c1, cs = [c0, c1] := by
  match cs, h with
  | [c0, c1], _ => exact ⟨c0, c1, rfl⟩
theorem olist4 {cs : List Value} (h : cs.length = 4) : ∃ c0 c1 c2 c3, cs = [c0, c1, c2, c3] := by
  match cs, h with
  | [c0, c1, c2, c3], _ => exact ⟨c0, c1, c2, c3, rfl⟩
theorem olist_of {α : Type} {P : Nat → α → Prop} : ∀ n, (∀ i, i < n → ∃ a, P i a) → ∃ l : List α, l.length = n ∧ ∀ i (h : i < l.length), P i l[i]
  | 0, _ => ⟨[], rfl, fun i h => by simp at h⟩
  | n + 1, h => by
    obtain ⟨l, hl, hp⟩ := olist_of n (fun i hi => h i (by omega))
    obtain ⟨a, ha⟩ := h n (by omega)
    refine ⟨l ++ [a], by simp [hl], fun i hi => ?_⟩
    by_cases h1 : i < l.length
    · rw [List.getElem_append_left h1]; exact hp i h1
    · have : i = n := by simp at hi; omega
      subst this
      rw [List.getElem_append_right (by omega)]
      simpa using ha

/-- A row that comes in, out of what its elements are. -/
theorem rows_of_trod {α H : Type} {P : Program} {enc : TypeId × Value → H} {w : World} {spare : Nat → Bool} {held : Bool} (sh : Sh α) {ts te : TypeId} (hu : P.underlying ts = some (.slice te)) (hn : P.cellsOf te = sh.n) (hpos : 0 < sh.n)
    (helem : ∀ n cs y, DataW.trod enc P w 0 spare held n te cs = some y → ∃ a, sh.lies (· < w.heap.size) w cs a) (fuel : Nat) (c : Value) (x : DataW H × List MemPlace)
    (h : DataW.trod enc P w 0 spare held fuel ts [c] = some x) : ∃ xs, RowIn sh (· < w.heap.size) w c xs := by
  rcases DataW.trod_slice hu h with ⟨hcs, _⟩ | ⟨a, len, cap, elems, rest, n', hn', hcs, _, _, hl, hcm, hel, hat, _, _⟩
  · simp at hcs
    subst hcs
    exact ⟨[], none, 0, rfl, by simp, Nat.le_refl _, .inl rfl⟩
  · simp at hcs
    subst hcs
    rw [hn] at hat
    have heach : ∀ i, i < len → ∃ q : α, ∃ cs, cs.length = sh.n ∧ sh.lies (· < w.heap.size) w cs q ∧ ∀ j (hj : j < cs.length), w.cell? ((a.add (i * sh.n)).add j) = some cs[j] := fun i hi => by
      have hb := hat i hi
      rw [List.getElem?_eq_getElem (by omega)] at hb
      obtain ⟨cs', hc1, hc2⟩ := Option.bind_eq_some_iff.1 hb
      obtain ⟨q, hq⟩ := helem _ cs' _ hc2
      obtain ⟨hb1, hl5, hcell⟩ := World.cells?_some hc1
      exact ⟨q, cs', hl5, hq, fun j hj => (hcell j (by omega)).trans (List.getElem?_eq_getElem hj)⟩
    obtain ⟨q, hq, hqp⟩ := olist_of len heach
    refine ⟨q, some a, cap, by rw [hq], by rw [hq]; omega, by rw [hq]; omega, ?_⟩
    by_cases h0 : len = 0
    · left; exact List.eq_nil_of_length_eq_zero (by omega)
    · right
      obtain ⟨b, off, spot⟩ := a
      obtain ⟨cs0, hl0, _, hc0⟩ := hqp 0 (by omega)
      have hc0 := hc0 0 (by omega)
      have hspot : spot = none := by
        have := World.cell?_spot hc0
        simpa [Addr.add] using this
      subst hspot
      refine ⟨b, off, rfl, ?_, fun i hi => ?_⟩
      · rw [vaddr_add, vaddr_add] at hc0; exact World.block_lt_of_cell? w _ hc0
      · obtain ⟨cs, h1, h2, h3⟩ := hqp i hi
        refine ⟨cs, h2, fun j hj => ?_⟩
        have := h3 j hj
        rw [vaddr_add, vaddr_add] at this
        exact this

set_option maxRecDepth 100000 in
theorem need_of_trod {H : Type} {enc : TypeId × Value → H} {w : World} {spare : Nat → Bool} {held : Bool} (fuel : Nat) (cs : List Value) (x : DataW H × List MemPlace)
    (h : DataW.trod enc Try.prog w 0 spare held fuel 119 cs = some x) : ∃ d : NeedD, shNeed.lies (· < w.heap.size) w cs d := by
  obtain ⟨xs, n, rfl, _, hlen, hxl, hf⟩ := DataW.trod_struct Try.underlying119 h
  have hN : Try.prog.cellsOf 119 = 2 := by kernel_rfl
  obtain ⟨c0, c1, rfl⟩ := olist2 (hlen.trans hN)
  have hx : ∀ i, i < 2 → ∃ y, xs[i]? = some y := fun i hi => ⟨xs[i]'(by rw [hxl]; exact hi), by rw [List.getElem?_eq_getElem]⟩
  obtain ⟨y0, e0⟩ := hx 0 (by omega)
  have k0 : Try.prog.cellsOf 9 = 1 := by kernel_rfl
  have f0 : DataW.trod enc Try.prog w 0 spare held n 9 [c0] = some y0 := by
    have h : DataW.trod enc Try.prog w 0 spare held n 9 ((([c0, c1] : List Value).drop 0).take (Try.prog.cellsOf 9)) = some y0 := (hf 0 _ rfl).trans e0
    rw [k0] at h; exact h
  obtain ⟨y1, e1⟩ := hx 1 (by omega)
  have k1 : Try.prog.cellsOf 9 = 1 := by kernel_rfl
  have f1 : DataW.trod enc Try.prog w 0 spare held n 9 [c1] = some y1 := by
    have h : DataW.trod enc Try.prog w 0 spare held n 9 ((([c0, c1] : List Value).drop 1).take (Try.prog.cellsOf 9)) = some y1 := (hf 1 _ rfl).trans e1
    rw [k1] at h; exact h
  obtain ⟨t0, ht0, _, hl0⟩ := DataW.trod_string Try.underlying9 f0
  simp at ht0
  subst ht0
  obtain ⟨t1, ht1, _, hl1⟩ := DataW.trod_string Try.underlying9 f1
  simp at ht1
  subst ht1
  exact ⟨⟨t0, t1⟩, rfl, hl0, hl1⟩
set_option maxRecDepth 100000 in
theorem needs_of_trod {H : Type} {enc : TypeId × Value → H} {w : World} {spare : Nat → Bool} {held : Bool} (fuel : Nat) (c : Value) (x : DataW H × List MemPlace)
    (h : DataW.trod enc Try.prog w 0 spare held fuel 67 [c] = some x) : ∃ xs, RowIn shNeed (· < w.heap.size) w c xs :=
  rows_of_trod shNeed Try.underlying67 (by kernel_rfl) (by decide) (fun n cs y hh => need_of_trod n cs y hh) fuel c x h

set_option maxRecDepth 100000 in
theorem cmd_of_trod {H : Type} {enc : TypeId × Value → H} {w : World} {spare : Nat → Bool} {held : Bool} (fuel : Nat) (cs : List Value) (x : DataW H × List MemPlace)
    (h : DataW.trod enc Try.prog w 0 spare held fuel 121 cs = some x) : ∃ d : CmdD, shCmd.lies (· < w.heap.size) w cs d := by
  obtain ⟨xs, n, rfl, _, hlen, hxl, hf⟩ := DataW.trod_struct Try.underlying121 h
  have hN : Try.prog.cellsOf 121 = 2 := by kernel_rfl
  obtain ⟨c0, c1, rfl⟩ := olist2 (hlen.trans hN)
  have hx : ∀ i, i < 2 → ∃ y, xs[i]? = some y := fun i hi => ⟨xs[i]'(by rw [hxl]; exact hi), by rw [List.getElem?_eq_getElem]⟩
  obtain ⟨y0, e0⟩ := hx 0 (by omega)
  have k0 : Try.prog.cellsOf 9 = 1 := by kernel_rfl
  have f0 : DataW.trod enc Try.prog w 0 spare held n 9 [c0] = some y0 := by
    have h : DataW.trod enc Try.prog w 0 spare held n 9 ((([c0, c1] : List Value).drop 0).take (Try.prog.cellsOf 9)) = some y0 := (hf 0 _ rfl).trans e0
    rw [k0] at h; exact h
  obtain ⟨y1, e1⟩ := hx 1 (by omega)
  have k1 : Try.prog.cellsOf 26 = 1 := by kernel_rfl
  have f1 : DataW.trod enc Try.prog w 0 spare held n 26 [c1] = some y1 := by
    have h : DataW.trod enc Try.prog w 0 spare held n 26 ((([c0, c1] : List Value).drop 1).take (Try.prog.cellsOf 26)) = some y1 := (hf 1 _ rfl).trans e1
    rw [k1] at h; exact h
  obtain ⟨t0, ht0, _, hl0⟩ := DataW.trod_string Try.underlying9 f0
  simp at ht0
  subst ht0
  obtain ⟨t1, hr1, hs1⟩ := vreads_open f1
  exact ⟨⟨t0, t1⟩, _, rfl, hl0, RdB.of hr1, hs1⟩
set_option maxRecDepth 100000 in
theorem cmds_of_trod {H : Type} {enc : TypeId × Value → H} {w : World} {spare : Nat → Bool} {held : Bool} (fuel : Nat) (c : Value) (x : DataW H × List MemPlace)
    (h : DataW.trod enc Try.prog w 0 spare held fuel 68 [c] = some x) : ∃ xs, RowIn shCmd (· < w.heap.size) w c xs :=
  rows_of_trod shCmd Try.underlying68 (by kernel_rfl) (by decide) (fun n cs y hh => cmd_of_trod n cs y hh) fuel c x h

set_option maxRecDepth 100000 in
theorem pack_of_trod {H : Type} {enc : TypeId × Value → H} {w : World} {spare : Nat → Bool} {held : Bool} (fuel : Nat) (cs : List Value) (x : DataW H × List MemPlace)
    (h : DataW.trod enc Try.prog w 0 spare held fuel 70 cs = some x) : ∃ d : PackD, shPack.lies (· < w.heap.size) w cs d := by
  obtain ⟨xs, n, rfl, _, hlen, hxl, hf⟩ := DataW.trod_struct Try.underlying70 h
  have hN : Try.prog.cellsOf 70 = 4 := by kernel_rfl
  obtain ⟨c0, c1, c2, c3, rfl⟩ := olist4 (hlen.trans hN)
  have hx : ∀ i, i < 4 → ∃ y, xs[i]? = some y := fun i hi => ⟨xs[i]'(by rw [hxl]; exact hi), by rw [List.getElem?_eq_getElem]⟩
  obtain ⟨y0, e0⟩ := hx 0 (by omega)
  have k0 : Try.prog.cellsOf 9 = 1 := by kernel_rfl
  have f0 : DataW.trod enc Try.prog w 0 spare held n 9 [c0] = some y0 := by
    have h : DataW.trod enc Try.prog w 0 spare held n 9 ((([c0, c1, c2, c3] : List Value).drop 0).take (Try.prog.cellsOf 9)) = some y0 := (hf 0 _ rfl).trans e0
    rw [k0] at h; exact h
  obtain ⟨y1, e1⟩ := hx 1 (by omega)
  have k1 : Try.prog.cellsOf 26 = 1 := by kernel_rfl
  have f1 : DataW.trod enc Try.prog w 0 spare held n 26 [c1] = some y1 := by
    have h : DataW.trod enc Try.prog w 0 spare held n 26 ((([c0, c1, c2, c3] : List Value).drop 1).take (Try.prog.cellsOf 26)) = some y1 := (hf 1 _ rfl).trans e1
    rw [k1] at h; exact h
  obtain ⟨y2, e2⟩ := hx 2 (by omega)
  have k2 : Try.prog.cellsOf 67 = 1 := by kernel_rfl
  have f2 : DataW.trod enc Try.prog w 0 spare held n 67 [c2] = some y2 := by
    have h : DataW.trod enc Try.prog w 0 spare held n 67 ((([c0, c1, c2, c3] : List Value).drop 2).take (Try.prog.cellsOf 67)) = some y2 := (hf 2 _ rfl).trans e2
    rw [k2] at h; exact h
  obtain ⟨y3, e3⟩ := hx 3 (by omega)
  have k3 : Try.prog.cellsOf 68 = 1 := by kernel_rfl
  have f3 : DataW.trod enc Try.prog w 0 spare held n 68 [c3] = some y3 := by
    have h : DataW.trod enc Try.prog w 0 spare held n 68 ((([c0, c1, c2, c3] : List Value).drop 3).take (Try.prog.cellsOf 68)) = some y3 := (hf 3 _ rfl).trans e3
    rw [k3] at h; exact h
  obtain ⟨t0, ht0, _, hl0⟩ := DataW.trod_string Try.underlying9 f0
  simp at ht0
  subst ht0
  obtain ⟨t1, hr1, hs1⟩ := vreads_open f1
  obtain ⟨t2, hr2⟩ := needs_of_trod n _ _ f2
  obtain ⟨t3, hr3⟩ := cmds_of_trod n _ _ f3
  exact ⟨⟨t0, t1, t2, t3⟩, _, _, _, rfl, hl0, RdB.of hr1, hs1, hr2, hr3⟩
set_option maxRecDepth 100000 in
theorem packs_of_trod {H : Type} {enc : TypeId × Value → H} {w : World} {spare : Nat → Bool} {held : Bool} (fuel : Nat) (c : Value) (x : DataW H × List MemPlace)
    (h : DataW.trod enc Try.prog w 0 spare held fuel 37 [c] = some x) : ∃ xs, RowIn shPack (· < w.heap.size) w c xs :=
  rows_of_trod shPack Try.underlying37 (by kernel_rfl) (by decide) (fun n cs y hh => pack_of_trod n cs y hh) fuel c x h

end Go.Proofs.Ytbhedlobiagngaa
