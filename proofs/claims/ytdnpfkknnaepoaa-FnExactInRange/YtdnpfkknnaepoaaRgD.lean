/-
  How much a list of Cmps, and a list of such lists, holds, as the law's helpers count it: contracts for the walks; conditions: the lists lie in memory as told.
-/
import Derived.Test.YtdnpfkknnaepoaaRgC
namespace Go.Proofs.Ytdnpfkknnaepoaa
open Go.RowKit
set_option linter.unusedSimpArgs false
set_option linter.unusedVariables false

set_option maxHeartbeats 2000000 in
set_option maxRecDepth 100000 in
theorem szCmpS_c (S : Nat → Prop) (v : Value) (ds : List CmpD) (left : Int) (h0 : 0 ≤ left) (h1 : left ≤ 1048576) (w : World) (hv : CmpsIn S w v ds) (hB : ∀ b, S b → b < w.heap.size) :
    Calls Try.prog 56 #[v, .int .i64 left] w fun e w' => e = .returned (.int .i64 (leftW (wtC ds) left)) ∧ Below w.heap.size w w' := by
  obtain ⟨a, cap, rfl, hl, hc, ha⟩ := hv
  unfold maxLen at hl
  by_cases hneg : left - (ds.length : Int) < 0
  · have e : leftW (wtC ds) left = -1 := leftW_bad (by have := len_wtC ds; omega)
    rw [e]
    clear ha
    go_enter Try.func56, Try.ntmps56
    go_wp2_with fail
    go_ret
    exact ⟨rfl, Below.refl _ _⟩
  · rcases ha with rfl | ⟨b, off, us, rfl, hlt, ha⟩
    · have e : leftW (wtC []) left = left := by rw [leftW_good (by simpa [wtC] using h0)]; simp [wtC]
      rw [e]
      go_enter Try.func56, Try.ntmps56
      go_wp2_with fail
      go_loop [1, 5] (fun vl vi => vl = .int .i64 left ∧ vi = .int .i64 0) (fun _ _ => 0)
      case atStart => exact ⟨by simp, rfl⟩
      case round =>
        obtain ⟨rfl, rfl⟩ := hrel
        go_wp2_with fail
        go_ret
        exact ⟨rfl, Below.refl _ _⟩
    · go_enter Try.func56, Try.ntmps56
      go_wp2_with fail
      go_loopw [1, 5] (fun vl vi wr => ∃ (k : Nat) (q : Int), k ≤ ds.length ∧ vi = .int .i64 (k : Int) ∧ vl = .int .i64 q ∧ 0 ≤ q ∧ q ≤ 1048576 ∧ Hid (q = left - (ds.length : Int) - (wtC (ds.take k) : Int) + (k : Int)) ∧ Below w.heap.size w wr) (fun _ vi _ => ds.length - (intOf vi).toNat)
      case atStart => exact ⟨0, _, Nat.zero_le _, rfl, rfl, by omega, by omega, by show _ = _; simp [wtC], Below.refl _ _⟩
      case round =>
        obtain ⟨k, q, hk, rfl, rfl, hq0, hq1, hq, hbr⟩ := hrel
        by_cases hlt' : k < ds.length
        · obtain ⟨e0, e1, e2, e3, e4, hu, hsn⟩ := ha k hlt'
          have hlt2 : b < w.heap.size := hB b hlt
          rw [← hbr.cell (by simpa using hlt2)] at e0 e1 e2 e3 e4
          have hu' : Reads wr (us k) (strsV ds[k].ps) := (hu.keep (.of hbr hB)).reads (fun b h => Nat.lt_of_lt_of_le (hB b h) hbr.size)
          have hwt := wtC_take ds k hlt'
          have hsp := wtC_split ds (k + 1)
          have hln := len_wtC (ds.drop (k + 1))
          have hdl : (ds.drop (k + 1)).length = ds.length - (k + 1) := by simp
          obtain ⟨d, hd⟩ : ∃ d, d = ds[k] := ⟨_, rfl⟩
          rw [← hd] at e0 e1 e2 e3 hu' hsn hwt
          obtain ⟨u, hu0⟩ : ∃ u, u = us k := ⟨_, rfl⟩
          rw [← hu0] at e4 hu'
          clear hu0
          obtain ⟨uq, ucap, rfl, _, _⟩ := reads_strs hu'
          have HW : Hid (wtC (ds.take (k + 1)) = wtC (ds.take k) + (1 + bulkS d.ps)) := hwt
          have HSP : Hid (wtC ds = wtC (ds.take (k + 1)) + wtC (ds.drop (k + 1)) ∧ ds.length - (k + 1) ≤ wtC (ds.drop (k + 1))) := ⟨hsp, by omega⟩
          have hki : (k : Int) < (ds.length : Int) := by omega
          obtain ⟨p, hp⟩ : ∃ p, p = leftW (bulkS d.ps) q := ⟨_, rfl⟩
          have HP : Hid (p = leftW (bulkS d.ps) q) := hp
          clear ha hwt hd hp hsp hln hdl hu
          by_cases hpn : p < 0
          · go_wp2_with (go_at_call 22; refine (szCmp_c _ _ _ _ _ d.ps q hq0 hq1 _ hu' hsn).mono ?_; rintro e w1 ⟨rfl, hb1⟩; rw [leftS_W, ← HP.out])
            go_ret
            have e : leftW (wtC ds) left = -1 := by
              have h2 := HP.out; have h3 := hq.out; have h4 := HW.out; have h5 := HSP.out
              refine leftW_bad ?_
              by_cases h6 : ((bulkS d.ps : Nat) : Int) ≤ q
              · rw [leftW_good h6] at h2; omega
              · omega
            exact ⟨by rw [e]; rfl, hbr.trans (hb1.mono hbr.size)⟩
          · go_wp2_with (go_at_call 22; refine (szCmp_c _ _ _ _ _ d.ps q hq0 hq1 _ hu' hsn).mono ?_; rintro e w1 ⟨rfl, hb1⟩; rw [leftS_W, ← HP.out])
            go_roundw
            case rel =>
              have h2 := HP.out; have h3 := hq.out; have h4 := HW.out
              have h6 : ((bulkS d.ps : Nat) : Int) ≤ q := by
                by_cases h6 : ((bulkS d.ps : Nat) : Int) ≤ q
                · exact h6
                · rw [leftW_bad (by omega)] at h2; omega
              rw [leftW_good h6] at h2
              exact ⟨k + 1, p, by omega, by go_num, rfl, by omega, by omega, (by show _ = _; omega), hbr.trans (hb1.mono hbr.size)⟩
            case measure => simp [intOf]; omega
        · have he : k = ds.length := by omega
          subst he
          clear ha
          go_wp2_with fail
          go_ret
          have e : leftW (wtC ds) left = q := by
            have h3 := hq.out
            rw [List.take_length] at h3
            rw [leftW_good (by omega)]; omega
          exact ⟨by rw [e]; rfl, hbr⟩

set_option maxHeartbeats 2000000 in
set_option maxRecDepth 100000 in
theorem szCmpSS_c (S : Nat → Prop) (v : Value) (dss : List (List CmpD)) (left : Int) (h0 : 0 ≤ left) (h1 : left ≤ 1048576) (w : World) (hv : RangeIn S w v dss) (hB : ∀ b, S b → b < w.heap.size) :
    Calls Try.prog 30 #[v, .int .i64 left] w fun e w' => e = .returned (.int .i64 (leftW (wtR dss) left)) ∧ Below w.heap.size w w' := by
  obtain ⟨a, cap, rfl, hl, hc, ha⟩ := hv
  unfold maxLen at hl
  by_cases hneg : left - (dss.length : Int) < 0
  · have e : leftW (wtR dss) left = -1 := leftW_bad (by have := len_wtR dss; omega)
    rw [e]
    clear ha
    go_enter Try.func30, Try.ntmps30
    go_wp2_with fail
    go_ret
    exact ⟨rfl, Below.refl _ _⟩
  · rcases ha with rfl | ⟨b, off, vs, rfl, hlt, ha⟩
    · have e : leftW (wtR []) left = left := by rw [leftW_good (by simpa [wtR] using h0)]; simp [wtR]
      rw [e]
      go_enter Try.func30, Try.ntmps30
      go_wp2_with fail
      go_loop [1, 5] (fun vl vi => vl = .int .i64 left ∧ vi = .int .i64 0) (fun _ _ => 0)
      case atStart => exact ⟨by simp, rfl⟩
      case round =>
        obtain ⟨rfl, rfl⟩ := hrel
        go_wp2_with fail
        go_ret
        exact ⟨rfl, Below.refl _ _⟩
    · go_enter Try.func30, Try.ntmps30
      go_wp2_with fail
      go_loopw [1, 5] (fun vl vi wr => ∃ (k : Nat) (q : Int), k ≤ dss.length ∧ vi = .int .i64 (k : Int) ∧ vl = .int .i64 q ∧ 0 ≤ q ∧ q ≤ 1048576 ∧ Hid (q = left - (dss.length : Int) - (wtR (dss.take k) : Int) + (k : Int)) ∧ Below w.heap.size w wr) (fun _ vi _ => dss.length - (intOf vi).toNat)
      case atStart => exact ⟨0, _, Nat.zero_le _, rfl, rfl, by omega, by omega, by show _ = _; simp [wtR], Below.refl _ _⟩
      case round =>
        obtain ⟨k, q, hk, rfl, rfl, hq0, hq1, hq, hbr⟩ := hrel
        by_cases hlt' : k < dss.length
        · obtain ⟨e0, hu⟩ := ha k hlt'
          have hlt2 : b < w.heap.size := hB b hlt
          rw [← hbr.cell (by simpa using hlt2)] at e0
          have hu' : CmpsIn S wr (vs k) dss[k] := hu.keep (.of hbr hB)
          have hBr : ∀ b, S b → b < wr.heap.size := fun b h => Nat.lt_of_lt_of_le (hB b h) hbr.size
          have hwt := wtR_take dss k hlt'
          have hsp := wtR_split dss (k + 1)
          have hln := len_wtR (dss.drop (k + 1))
          have hdl : (dss.drop (k + 1)).length = dss.length - (k + 1) := by simp
          obtain ⟨d, hd⟩ : ∃ d, d = dss[k] := ⟨_, rfl⟩
          rw [← hd] at hu' hwt
          obtain ⟨u, hu0⟩ : ∃ u, u = vs k := ⟨_, rfl⟩
          rw [← hu0] at e0 hu'
          clear hu0
          obtain ⟨uq, ucap, hu2, _⟩ := id hu'
          subst hu2
          have HW : Hid (wtR (dss.take (k + 1)) = wtR (dss.take k) + (1 + wtC d)) := hwt
          have HSP : Hid (wtR dss = wtR (dss.take (k + 1)) + wtR (dss.drop (k + 1)) ∧ dss.length - (k + 1) ≤ wtR (dss.drop (k + 1))) := ⟨hsp, by omega⟩
          have hki : (k : Int) < (dss.length : Int) := by omega
          obtain ⟨p, hp⟩ : ∃ p, p = leftW (wtC d) q := ⟨_, rfl⟩
          have HP : Hid (p = leftW (wtC d) q) := hp
          clear ha hwt hd hp hsp hln hdl hu
          by_cases hpn : p < 0
          · go_wp2_with (go_at_call 56; refine (szCmpS_c S _ d q hq0 hq1 _ hu' hBr).mono ?_; rintro e w1 ⟨rfl, hb1⟩; rw [← HP.out])
            go_ret
            have e : leftW (wtR dss) left = -1 := by
              have h2 := HP.out; have h3 := hq.out; have h4 := HW.out; have h5 := HSP.out
              refine leftW_bad ?_
              by_cases h6 : ((wtC d : Nat) : Int) ≤ q
              · rw [leftW_good h6] at h2; omega
              · omega
            exact ⟨by rw [e]; rfl, hbr.trans (hb1.mono hbr.size)⟩
          · go_wp2_with (go_at_call 56; refine (szCmpS_c S _ d q hq0 hq1 _ hu' hBr).mono ?_; rintro e w1 ⟨rfl, hb1⟩; rw [← HP.out])
            go_roundw
            case rel =>
              have h2 := HP.out; have h3 := hq.out; have h4 := HW.out
              have h6 : ((wtC d : Nat) : Int) ≤ q := by
                by_cases h6 : ((wtC d : Nat) : Int) ≤ q
                · exact h6
                · rw [leftW_bad (by omega)] at h2; omega
              rw [leftW_good h6] at h2
              exact ⟨k + 1, p, by omega, by go_num, rfl, by omega, by omega, (by show _ = _; omega), hbr.trans (hb1.mono hbr.size)⟩
            case measure => simp [intOf]; omega
        · have he : k = dss.length := by omega
          subst he
          clear ha
          go_wp2_with fail
          go_ret
          have e : leftW (wtR dss) left = q := by
            have h3 := hq.out
            rw [List.take_length] at h3
            rw [leftW_good (by omega)]; omega
          exact ⟨by rw [e]; rfl, hbr⟩
end Go.Proofs.Ytdnpfkknnaepoaa
