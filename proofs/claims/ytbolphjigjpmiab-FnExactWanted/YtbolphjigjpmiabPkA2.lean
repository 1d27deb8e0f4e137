/-
  How much cmds hold, as the law counts it: contracts for the walks; conditions: at most 2 to the 20 is left to count.
-/
import Derived.Test.YtbolphjigjpmiabPkA
namespace Go.Proofs.Ytbolphjigjpmiab
open Go.RowKit
set_option linter.unusedSimpArgs false
set_option linter.unusedVariables false

set_option maxHeartbeats 2000000 in
set_option maxRecDepth 100000 in
theorem szCmd_c (S : Nat → Prop) (d : CmdD) (cs : List Value) (left : Int) (h0 : 0 ≤ left) (h1 : left ≤ 1048576) (w : World) (hd : shCmd.lies S w cs d) (hB : ∀ b, S b → b < w.heap.size) :
    Calls Try.prog 31 #[.agg cs.toArray, .int .i64 left] w fun e w' => e = .returned (.int .i64 (leftW (wtCmd d) left)) ∧ Below w.heap.size w w' := by
  obtain ⟨u0, rfl, s_t, r0, p0⟩ := hd
  unfold maxLen at s_t
  have hbx : ∀ o, Below w.heap.size w (w.alloc o) := fun o => (Below.refl _ _).alloc (Nat.le_refl _) _
  obtain ⟨R, hR⟩ : ∃ R, R = leftW (wtCmd d) left := ⟨_, rfl⟩
  rw [← hR]
  obtain ⟨q0, hq0⟩ : ∃ q, q = leftW (bulkS d.acts) (left - (d.t.size : Int)) := ⟨_, rfl⟩
  have HS0 : Hid (0 ≤ (left - (d.t.size : Int)) → (left - (d.t.size : Int)) ≤ 1048576 → ∀ w1, Below w.heap.size w w1 → Calls Try.prog 21 #[u0, .int .i64 (left - (d.t.size : Int))] w1 fun e w' => e = .returned (.int .i64 q0) ∧ w1 = w') := fun a b w1 hb => by
    rw [hq0]; exact sizeStrsM_c u0 d.acts w1 _ a b ((r0.keep (.of hb hB)).reads (fun b h => Nat.lt_of_lt_of_le (hB b h) hb.size)) p0.1 p0.2
  obtain ⟨a0, cap0, eu0, _⟩ := id r0
  rw [length_strsV] at eu0
  subst eu0
  clear r0
  have lt := lw (wtCmd d) left
  have l0 := lw (bulkS d.acts) (left - (d.t.size : Int))
  rw [← hq0] at l0
  rw [← hR] at lt
  unfold wtCmd at lt
  clear hq0 hR
  by_cases n0 : (left - (d.t.size : Int)) < 0
  · have HR : Hid (R = -1) := by show _ = _; omega
    clear lt l0
    clear HS0
    go_enter Try.func31, Try.ntmps31
    go_wp2_with fail
    go_ret
    exact ⟨by rw [HR.out]; rfl, (hbx _)⟩
  by_cases n1 : q0 < 0
  · have HR : Hid (R = -1) := by show _ = _; omega
    have g0a : 0 ≤ (left - (d.t.size : Int)) := by omega
    have g0b : (left - (d.t.size : Int)) ≤ 1048576 := by omega
    have HC0 := HS0.out g0a g0b
    have HD0 := hidden HC0
    clear HC0
    clear lt l0
    clear HS0
    go_enter Try.func31, Try.ntmps31
    go_wp2_with fail
    go_at_call 21
    refine (HD0.out _ (hbx _)).mono ?_
    rintro e w' ⟨rfl, rfl⟩
    go_wp2_with fail
    go_ret
    exact ⟨by rw [HR.out]; rfl, (hbx _)⟩
  have HR : Hid (R = q0) := by show _ = _; omega
  have g0a : 0 ≤ (left - (d.t.size : Int)) := by omega
  have g0b : (left - (d.t.size : Int)) ≤ 1048576 := by omega
  have HC0 := HS0.out g0a g0b
  have HD0 := hidden HC0
  clear HC0
  clear lt l0
  clear HS0
  go_enter Try.func31, Try.ntmps31
  go_wp2_with fail
  go_at_call 21
  refine (HD0.out _ (hbx _)).mono ?_
  rintro e w' ⟨rfl, rfl⟩
  go_wp2_with fail
  go_ret
  exact ⟨by rw [HR.out]; rfl, (hbx _)⟩

set_option maxHeartbeats 2000000 in
set_option maxRecDepth 100000 in
theorem szCmdS_c (S : Nat → Prop) (v : Value) (xs : List CmdD) (left : Int) (h0 : 0 ≤ left) (h1 : left ≤ 1048576) (w : World) (hv : RowIn shCmd S w v xs) (hB : ∀ b, S b → b < w.heap.size) :
    Calls Try.prog 23 #[v, .int .i64 left] w fun e w' => e = .returned (.int .i64 (leftW (wtRow wtCmd xs) left)) ∧ Below w.heap.size w w' := by
  obtain ⟨a, cap, rfl, hl, hc, ha⟩ := hv
  unfold maxLen at hl
  by_cases hneg : left - (xs.length : Int) < 0
  · have e : leftW (wtRow wtCmd xs) left = -1 := leftW_bad (by have := len_wtRow wtCmd xs; omega)
    rw [e]
    clear ha
    go_enter Try.func23, Try.ntmps23
    go_wp2_with fail
    go_ret
    exact ⟨rfl, Below.refl _ _⟩
  · go_enter Try.func23, Try.ntmps23
    go_wp2_with fail
    go_loopw [1, 5] (fun vl vi wr => ∃ (k : Nat) (q : Int), k ≤ xs.length ∧ vi = .int .i64 (k : Int) ∧ vl = .int .i64 q ∧ 0 ≤ q ∧ q ≤ 1048576 ∧ Hid (q = left - (xs.length : Int) - (wtRow wtCmd (xs.take k) : Int) + (k : Int)) ∧ Below w.heap.size w wr) (fun _ vi _ => xs.length - (intOf vi).toNat)
    case atStart => exact ⟨0, _, Nat.zero_le _, rfl, rfl, by omega, by omega, by show _ = _; simp [wtRow], Below.refl _ _⟩
    case round =>
      obtain ⟨k, q, hk, rfl, rfl, hq0, hq1, hq, hbr⟩ := hrel
      by_cases hlt' : k < xs.length
      · rcases ha with rfl | ⟨b, off, rfl, hlt, ha⟩
        · simp at hlt'
        obtain ⟨cs, hL, hcell⟩ := ha k hlt'
        have hL2 := shCmd.keep (.of hbr hB) hL
        have hcell2 := hcell.keep (.of hbr hB) hlt
        have hBr : ∀ b, S b → b < wr.heap.size := fun b h => Nat.lt_of_lt_of_le (hB b h) hbr.size
        have hwt := wtRow_take wtCmd xs k hlt'
        have hsp := wtRow_split wtCmd xs (k + 1)
        have hln := len_wtRow wtCmd (xs.drop (k + 1))
        have hdl : (xs.drop (k + 1)).length = xs.length - (k + 1) := by simp
        obtain ⟨d, hd⟩ : ∃ d, d = xs[k] := ⟨_, rfl⟩
        rw [← hd] at hL2 hwt
        have HW : Hid (wtRow wtCmd (xs.take (k + 1)) = wtRow wtCmd (xs.take k) + (1 + wtCmd d)) := hwt
        have HSP : Hid (wtRow wtCmd xs = wtRow wtCmd (xs.take (k + 1)) + wtRow wtCmd (xs.drop (k + 1)) ∧ xs.length - (k + 1) ≤ wtRow wtCmd (xs.drop (k + 1))) := ⟨hsp, by omega⟩
        have hki : (k : Int) < (xs.length : Int) := by omega
        obtain ⟨p, hp⟩ : ∃ p, p = leftW (wtCmd d) q := ⟨_, rfl⟩
        have HP : Hid (p = leftW (wtCmd d) q) := hp
        have HC := szCmd_c S d cs q hq0 hq1 wr hL2 hBr
        rw [← hp] at HC
        clear hL hcell ha hwt hd hp hsp hln hdl
        obtain ⟨u0, rfl, s_t, r0, p0⟩ := hL2
        clear s_t p0
        obtain ⟨a0, cap0, eu0, _⟩ := id r0
        rw [length_strsV] at eu0
        subst eu0
        clear r0
        have e0 : wr.cell? ⟨b, off + k * 2, none⟩ = some (.string d.t) := hcell2 0 (by simp)
        have e1 : wr.cell? ⟨b, off + k * 2 + 1, none⟩ = some (.slice a0 d.acts.length cap0) := hcell2 1 (by simp)
        have HC2 := hidden HC
        clear hcell2 HC
        by_cases hpn : p < 0
        · go_wp2_with (go_at_call 31; refine HC2.out.mono ?_; rintro e w1 ⟨rfl, hb1⟩)
          go_ret
          have e : leftW (wtRow wtCmd xs) left = -1 := by
            have h2 := HP.out; have h3 := hq.out; have h4 := HW.out; have h5 := HSP.out
            refine leftW_bad ?_
            by_cases h6 : ((wtCmd d : Nat) : Int) ≤ q
            · rw [leftW_good h6] at h2; omega
            · omega
          exact ⟨by rw [e]; rfl, hbr.trans (hb1.mono hbr.size)⟩
        · go_wp2_with (go_at_call 31; refine HC2.out.mono ?_; rintro e w1 ⟨rfl, hb1⟩)
          go_roundw
          case rel =>
            have h2 := HP.out; have h3 := hq.out; have h4 := HW.out
            have h6 : ((wtCmd d : Nat) : Int) ≤ q := by
              by_cases h6 : ((wtCmd d : Nat) : Int) ≤ q
              · exact h6
              · rw [leftW_bad (by omega)] at h2; omega
            rw [leftW_good h6] at h2
            exact ⟨k + 1, p, by omega, by go_num, rfl, by omega, by omega, (by show _ = _; omega), hbr.trans (hb1.mono hbr.size)⟩
          case measure => simp [intOf]; omega
      · have he : k = xs.length := by omega
        subst he
        clear ha
        go_wp2_with fail
        go_ret
        have e : leftW (wtRow wtCmd xs) left = q := by
          have h3 := hq.out
          rw [List.take_length] at h3
          rw [leftW_good (by omega)]; omega
        exact ⟨by rw [e]; rfl, hbr⟩

end Go.Proofs.Ytbolphjigjpmiab
