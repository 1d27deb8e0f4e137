/-
  How much needs hold, as the law counts it: contracts for the walks; conditions: at most 2 to the 20 is left to count.
-/
import Derived.Test.YtbolphjigjpmiabPkA
namespace Go.Proofs.Ytbolphjigjpmiab
open Go.RowKit
set_option linter.unusedSimpArgs false
set_option linter.unusedVariables false

set_option maxHeartbeats 2000000 in
set_option maxRecDepth 100000 in
theorem szNeed_c (S : Nat → Prop) (d : NeedD) (cs : List Value) (left : Int) (h0 : 0 ≤ left) (h1 : left ≤ 1048576) (w : World) (hd : shNeed.lies S w cs d) (hB : ∀ b, S b → b < w.heap.size) :
    Calls Try.prog 30 #[.agg cs.toArray, .int .i64 left] w fun e w' => e = .returned (.int .i64 (leftW (wtNeed d) left)) ∧ Below w.heap.size w w' := by
  obtain ⟨rfl, s_n, s_r⟩ := hd
  unfold maxLen at s_n
  unfold maxLen at s_r
  have hbx : ∀ o, Below w.heap.size w (w.alloc o) := fun o => (Below.refl _ _).alloc (Nat.le_refl _) _
  obtain ⟨R, hR⟩ : ∃ R, R = leftW (wtNeed d) left := ⟨_, rfl⟩
  rw [← hR]
  have lt := lw (wtNeed d) left
  rw [← hR] at lt
  unfold wtNeed at lt
  clear hR
  by_cases n0 : (left - (d.n.size : Int)) < 0
  · have HR : Hid (R = -1) := by show _ = _; omega
    clear lt 
    go_enter Try.func30, Try.ntmps30
    go_wp2_with fail
    go_ret
    exact ⟨by rw [HR.out]; rfl, (hbx _)⟩
  by_cases n1 : ((left - (d.n.size : Int)) - (d.r.size : Int)) < 0
  · have HR : Hid (R = -1) := by show _ = _; omega
    clear lt 
    go_enter Try.func30, Try.ntmps30
    go_wp2_with fail
    go_ret
    exact ⟨by rw [HR.out]; rfl, (hbx _)⟩
  have HR : Hid (R = ((left - (d.n.size : Int)) - (d.r.size : Int))) := by show _ = _; omega
  clear lt 
  go_enter Try.func30, Try.ntmps30
  go_wp2_with fail
  go_ret
  exact ⟨by rw [HR.out]; rfl, (hbx _)⟩

set_option maxHeartbeats 2000000 in
set_option maxRecDepth 100000 in
theorem szNeedS_c (S : Nat → Prop) (v : Value) (xs : List NeedD) (left : Int) (h0 : 0 ≤ left) (h1 : left ≤ 1048576) (w : World) (hv : RowIn shNeed S w v xs) (hB : ∀ b, S b → b < w.heap.size) :
    Calls Try.prog 22 #[v, .int .i64 left] w fun e w' => e = .returned (.int .i64 (leftW (wtRow wtNeed xs) left)) ∧ Below w.heap.size w w' := by
  obtain ⟨a, cap, rfl, hl, hc, ha⟩ := hv
  unfold maxLen at hl
  by_cases hneg : left - (xs.length : Int) < 0
  · have e : leftW (wtRow wtNeed xs) left = -1 := leftW_bad (by have := len_wtRow wtNeed xs; omega)
    rw [e]
    clear ha
    go_enter Try.func22, Try.ntmps22
    go_wp2_with fail
    go_ret
    exact ⟨rfl, Below.refl _ _⟩
  · go_enter Try.func22, Try.ntmps22
    go_wp2_with fail
    go_loopw [1, 5] (fun vl vi wr => ∃ (k : Nat) (q : Int), k ≤ xs.length ∧ vi = .int .i64 (k : Int) ∧ vl = .int .i64 q ∧ 0 ≤ q ∧ q ≤ 1048576 ∧ Hid (q = left - (xs.length : Int) - (wtRow wtNeed (xs.take k) : Int) + (k : Int)) ∧ Below w.heap.size w wr) (fun _ vi _ => xs.length - (intOf vi).toNat)
    case atStart => exact ⟨0, _, Nat.zero_le _, rfl, rfl, by omega, by omega, by show _ = _; simp [wtRow], Below.refl _ _⟩
    case round =>
      obtain ⟨k, q, hk, rfl, rfl, hq0, hq1, hq, hbr⟩ := hrel
      by_cases hlt' : k < xs.length
      · rcases ha with rfl | ⟨b, off, rfl, hlt, ha⟩
        · simp at hlt'
        obtain ⟨cs, hL, hcell⟩ := ha k hlt'
        have hL2 := shNeed.keep (.of hbr hB) hL
        have hcell2 := hcell.keep (.of hbr hB) hlt
        have hBr : ∀ b, S b → b < wr.heap.size := fun b h => Nat.lt_of_lt_of_le (hB b h) hbr.size
        have hwt := wtRow_take wtNeed xs k hlt'
        have hsp := wtRow_split wtNeed xs (k + 1)
        have hln := len_wtRow wtNeed (xs.drop (k + 1))
        have hdl : (xs.drop (k + 1)).length = xs.length - (k + 1) := by simp
        obtain ⟨d, hd⟩ : ∃ d, d = xs[k] := ⟨_, rfl⟩
        rw [← hd] at hL2 hwt
        have HW : Hid (wtRow wtNeed (xs.take (k + 1)) = wtRow wtNeed (xs.take k) + (1 + wtNeed d)) := hwt
        have HSP : Hid (wtRow wtNeed xs = wtRow wtNeed (xs.take (k + 1)) + wtRow wtNeed (xs.drop (k + 1)) ∧ xs.length - (k + 1) ≤ wtRow wtNeed (xs.drop (k + 1))) := ⟨hsp, by omega⟩
        have hki : (k : Int) < (xs.length : Int) := by omega
        obtain ⟨p, hp⟩ : ∃ p, p = leftW (wtNeed d) q := ⟨_, rfl⟩
        have HP : Hid (p = leftW (wtNeed d) q) := hp
        have HC := szNeed_c S d cs q hq0 hq1 wr hL2 hBr
        rw [← hp] at HC
        clear hL hcell ha hwt hd hp hsp hln hdl
        obtain ⟨rfl, s_n, s_r⟩ := hL2
        clear s_n s_r
        have e0 : wr.cell? ⟨b, off + k * 2, none⟩ = some (.string d.n) := hcell2 0 (by simp)
        have e1 : wr.cell? ⟨b, off + k * 2 + 1, none⟩ = some (.string d.r) := hcell2 1 (by simp)
        have HC2 := hidden HC
        clear hcell2 HC
        by_cases hpn : p < 0
        · go_wp2_with (go_at_call 30; refine HC2.out.mono ?_; rintro e w1 ⟨rfl, hb1⟩)
          go_ret
          have e : leftW (wtRow wtNeed xs) left = -1 := by
            have h2 := HP.out; have h3 := hq.out; have h4 := HW.out; have h5 := HSP.out
            refine leftW_bad ?_
            by_cases h6 : ((wtNeed d : Nat) : Int) ≤ q
            · rw [leftW_good h6] at h2; omega
            · omega
          exact ⟨by rw [e]; rfl, hbr.trans (hb1.mono hbr.size)⟩
        · go_wp2_with (go_at_call 30; refine HC2.out.mono ?_; rintro e w1 ⟨rfl, hb1⟩)
          go_roundw
          case rel =>
            have h2 := HP.out; have h3 := hq.out; have h4 := HW.out
            have h6 : ((wtNeed d : Nat) : Int) ≤ q := by
              by_cases h6 : ((wtNeed d : Nat) : Int) ≤ q
              · exact h6
              · rw [leftW_bad (by omega)] at h2; omega
            rw [leftW_good h6] at h2
            exact ⟨k + 1, p, by omega, by go_num, rfl, by omega, by omega, (by show _ = _; omega), hbr.trans (hb1.mono hbr.size)⟩
          case measure => simp [intOf]; omega
      · have he : k = xs.length := by omega
        subst he
        clear ha
        go_wp2_with fail
        go_ret
        have e : leftW (wtRow wtNeed xs) left = q := by
          have h3 := hq.out
          rw [List.take_length] at h3
          rw [leftW_good (by omega)]; omega
        exact ⟨by rw [e]; rfl, hbr⟩

end Go.Proofs.Ytbolphjigjpmiab
