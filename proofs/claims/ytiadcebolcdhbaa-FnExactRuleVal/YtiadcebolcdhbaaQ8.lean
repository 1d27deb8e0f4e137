/-
  Contracts for the walks, several texts in one: each part says what it proves, and under which conditions.
-/
import Derived.Deep.RegionHeld
import Derived.SliceStrings
import Derived.ChangeArms
import Derived.ChangeOld
import Derived.ChangeAt
import Derived.OpenShut
import Derived.ShutString
import Derived.Test.YtiadcebolcdhbaaQ1
import Derived.Test.YtiadcebolcdhbaaQ3
import Derived.Test.YtiadcebolcdhbaaQ5
import Derived.Test.YtiadcebolcdhbaaQ6
import Derived.Test.YtiadcebolcdhbaaQ7

/-! Two values that are the same tree are told so by the law's own comparison: a contract for every two that lie in memory and weigh at most 2 to the 24. -/
namespace Go.Proofs.Ytiadcebolcdhbaa
open Go.RowKit
set_option linter.unusedSimpArgs false
set_option linter.unusedVariables false

def EqCw (T : Tree) : Prop := ∀ (S S' : Nat → Prop) (v u : Value) (w : World), Lies S w v T → Lies S' w u T → (∀ b, S b → b < w.heap.size) → (∀ b, S' b → b < w.heap.size) → T.wt ≤ 16777216 →
  Calls Try.prog 28 #[v, u] w fun e w' => e = .returned (.bool true) ∧ Below w.heap.size w w'
def EqLCw (l : List Tree) : Prop := ∀ (S S' : Nat → Prop) (v u : Value) (w : World), LiesL S w v l → LiesL S' w u l → (∀ b, S b → b < w.heap.size) → (∀ b, S' b → b < w.heap.size) → wtL l ≤ 16777216 →
  Calls Try.prog 66 #[v, u] w fun e w' => e = .returned (.bool true) ∧ Below w.heap.size w w'

set_option maxHeartbeats 2000000 in
set_option maxRecDepth 100000 in
theorem eqVal_stepW (k n : Int) (s : ByteArray) (l : List Tree) (ks : List ByteArray) (ih : EqLCw l) : EqCw (.mk k n s l ks) := by
  intro S S' v u w hv hv' hB hB' hw
  rw [wt_mk] at hw
  obtain ⟨c, u, rfl, hs, hk, hl, hu⟩ := hv.out
  obtain ⟨c', u', rfl, _, _, hl', hu'⟩ := hv'.out
  clear hv hv'
  have hwl : wtL l ≤ 16777216 := by omega
  have hkn : ks.length ≤ 1099511627776 := by unfold bulkS at hw; omega
  have hb2 : ∀ A R, Below w.heap.size w ((w.alloc A).alloc R) := fun A R => ((Below.refl _ _).alloc (Nat.le_refl _) _).alloc (by simp) _
  have hlA : ∀ A R, LiesL S ((w.alloc A).alloc R) c l := fun A R => hl.keep (.of (hb2 A R) hB)
  have hlA' : ∀ A R, LiesL S' ((w.alloc A).alloc R) c' l := fun A R => hl'.keep (.of (hb2 A R) hB')
  have huA : ∀ w1, Below w.heap.size w w1 → Reads w1 u (strsV ks) := fun w1 h1 => (hu.keep (.of h1 hB)).reads (fun b h => Nat.lt_of_lt_of_le (hB b h) h1.size)
  have huA' : ∀ w1, Below w.heap.size w w1 → Reads w1 u' (strsV ks) := fun w1 h1 => (hu'.keep (.of h1 hB')).reads (fun b h => Nat.lt_of_lt_of_le (hB' b h) h1.size)
  have hBA : ∀ A R b, S b → b < ((w.alloc A).alloc R).heap.size := fun A R b h => Nat.lt_of_lt_of_le (hB b h) (hb2 A R).size
  have hBA' : ∀ A R b, S' b → b < ((w.alloc A).alloc R).heap.size := fun A R b h => Nat.lt_of_lt_of_le (hB' b h) (hb2 A R).size
  go_enter Try.func28, Try.ntmps28
  go_wp2_with (first
    | (go_at_call 66; refine (ih S S' c c' _ (hlA _ _) (hlA' _ _) (hBA _ _) (hBA' _ _) hwl).mono ?_; rintro e w1 ⟨rfl, hb1⟩; obtain ⟨x4, y4⟩ := two5 hb1)
    | (go_at_call 67; refine (eqStrs_c u u' ks ks _ (huA _ ((hb2 _ _).trans (hb1.mono (by simp; omega)))) (huA' _ ((hb2 _ _).trans (hb1.mono (by simp; omega)))) hkn).mono ?_; rintro e w3 ⟨rfl, hb3⟩; rw [decide_eq_true (rfl : ks = ks)]))
  go_ret
  exact ⟨rfl, ((hb2 _ _).trans (hb1.mono (by simp; omega))).trans (hb3.mono (by have := hb1.size; simp at this; omega))⟩

set_option maxHeartbeats 2000000 in
set_option maxRecDepth 100000 in
theorem eqValS_stepW (l : List Tree) (ih : ∀ U ∈ l, EqCw U) : EqLCw l := by
  intro S S' v u w hv hv' hB hB' hw
  obtain ⟨a, cap, rfl, hl, hc, ha⟩ := hv.at
  obtain ⟨a', cap', rfl, _, hc', ha'⟩ := hv'.at
  unfold maxLen at hl
  go_enter Try.func66, Try.ntmps66
  go_wp2_with fail
  go_loopw [5] (fun vi wr => ∃ k : Nat, k ≤ l.length ∧ vi = .int .i64 (k : Int) ∧ Below w.heap.size w wr) (fun vi _ => l.length - (intOf vi).toNat)
  case atStart => exact ⟨0, Nat.zero_le _, rfl, Below.refl _ _⟩
  case round =>
    obtain ⟨k, hk, rfl, hbr⟩ := hrel
    by_cases hlt' : k < l.length
    · rcases ha with rfl | ⟨b, off, rfl, hlt, ha⟩
      · simp at hlt'
      rcases ha' with rfl | ⟨b', off', rfl, hlt3, ha'⟩
      · simp at hlt'
      obtain ⟨c0, c1, c2, c3, c4, e0, e1, e2, e3, e4, hT⟩ := ha k hlt'
      obtain ⟨d0, d1, d2, d3, d4, g0, g1, g2, g3, g4, hT2⟩ := ha' k hlt'
      have hlt2 : b < w.heap.size := hB b hlt
      have hlt4 : b' < w.heap.size := hB' b' hlt3
      rw [← hbr.cell (by simpa using hlt2)] at e0 e1 e2 e3 e4
      rw [← hbr.cell (by simpa using hlt4)] at g0 g1 g2 g3 g4
      have ihk := ih _ (List.getElem_mem hlt')
      have hwt : (l[k]).wt ≤ 16777216 := by have := wt_le_wtL (List.getElem_mem hlt'); omega
      obtain ⟨U, hU⟩ : ∃ U, U = l[k] := ⟨_, rfl⟩
      rw [← hU] at hT hT2 ihk hwt
      have hki : (k : Int) < (l.length : Int) := by omega
      have hBr : ∀ b, S b → b < wr.heap.size := fun b h => Nat.lt_of_lt_of_le (hB b h) hbr.size
      have hBr' : ∀ b, S' b → b < wr.heap.size := fun b h => Nat.lt_of_lt_of_le (hB' b h) hbr.size
      have hT3 : Lies S wr.drew _ U := (hT.keep (.of hbr.drew hB))
      have hT4 : Lies S' wr.drew _ U := (hT2.keep (.of hbr.drew hB'))
      clear ha ha' ih hU hT hT2 hv hv'
      go_wp2_with fail
      go_region_with (go_at_call 28; refine (ihk S S' _ _ wr.drew hT3 hT4 hBr hBr' hwt).mono ?_; rintro e w2 ⟨rfl, hb2⟩)
      all_goals go_wp2_with fail
      all_goals go_roundw
      all_goals first
        | exact ⟨k + 1, by omega, by go_num, hbr.drew.trans (hb2.mono hbr.size)⟩
        | (simp [intOf]; omega)
    · have he : k = l.length := by omega
      subst he
      clear ha ha'
      go_wp2_with fail
      go_ret
      exact ⟨rfl, hbr⟩

theorem eqVal_allW : ∀ T, EqCw T := by
  refine Tree.ind ?_
  intro k n s l ks ih
  exact eqVal_stepW k n s l ks (eqValS_stepW l ih)
end Go.Proofs.Ytiadcebolcdhbaa

/-! How much needs hold, as the law counts it: contracts for the walks; conditions: at most 2 to the 20 is left to count. -/
namespace Go.Proofs.Ytiadcebolcdhbaa
open Go.RowKit
set_option linter.unusedSimpArgs false
set_option linter.unusedVariables false

end Go.Proofs.Ytiadcebolcdhbaa

/-! How much they hold, as the law counts it: contracts for the walks; conditions: at most 2 to the 20 is left to count. -/
namespace Go.Proofs.Ytiadcebolcdhbaa
open Go.RowKit
set_option linter.unusedSimpArgs false
set_option linter.unusedVariables false

set_option maxHeartbeats 2000000 in
set_option maxRecDepth 100000 in
theorem szRule_c (S : Nat → Prop) (d : RuleD) (cs : List Value) (left : Int) (h0 : 0 ≤ left) (h1 : left ≤ 1048576) (w : World) (hd : shRule.lies S w cs d) (hB : ∀ b, S b → b < w.heap.size) :
    Calls Try.prog 24 #[.agg cs.toArray, .int .i64 left] w fun e w' => e = .returned (.int .i64 (leftW (wtRule d) left)) ∧ Below w.heap.size w w' := by
  obtain ⟨u0, u1, u2, rfl, s_task, r0, p0, r1, p1, r2, p2⟩ := hd
  unfold maxLen at s_task
  have hbx : ∀ o, Below w.heap.size w (w.alloc o) := fun o => (Below.refl _ _).alloc (Nat.le_refl _) _
  obtain ⟨R, hR⟩ : ∃ R, R = leftW (wtRule d) left := ⟨_, rfl⟩
  rw [← hR]
  obtain ⟨q0, hq0⟩ : ∃ q, q = leftW (bulkS d.on) (left - (d.task.size : Int)) := ⟨_, rfl⟩
  obtain ⟨q1, hq1⟩ : ∃ q, q = leftW (bulkS d.ins) q0 := ⟨_, rfl⟩
  obtain ⟨q2, hq2⟩ : ∃ q, q = leftW (bulkS d.envs) q1 := ⟨_, rfl⟩
  have HS0 : Hid (0 ≤ (left - (d.task.size : Int)) → (left - (d.task.size : Int)) ≤ 1048576 → ∀ w1, Below w.heap.size w w1 → Calls Try.prog 60 #[u0, .int .i64 (left - (d.task.size : Int))] w1 fun e w' => e = .returned (.int .i64 q0) ∧ w1 = w') := fun a b w1 hb => by
    rw [hq0]; exact sizeStrsM_c u0 d.on w1 _ a b ((r0.keep (.of hb hB)).reads (fun b h => Nat.lt_of_lt_of_le (hB b h) hb.size)) p0.1 p0.2
  have HS1 : Hid (0 ≤ q0 → q0 ≤ 1048576 → ∀ w1, Below w.heap.size w w1 → Calls Try.prog 60 #[u1, .int .i64 q0] w1 fun e w' => e = .returned (.int .i64 q1) ∧ w1 = w') := fun a b w1 hb => by
    rw [hq1]; exact sizeStrsM_c u1 d.ins w1 _ a b ((r1.keep (.of hb hB)).reads (fun b h => Nat.lt_of_lt_of_le (hB b h) hb.size)) p1.1 p1.2
  have HS2 : Hid (0 ≤ q1 → q1 ≤ 1048576 → ∀ w1, Below w.heap.size w w1 → Calls Try.prog 60 #[u2, .int .i64 q1] w1 fun e w' => e = .returned (.int .i64 q2) ∧ w1 = w') := fun a b w1 hb => by
    rw [hq2]; exact sizeStrsM_c u2 d.envs w1 _ a b ((r2.keep (.of hb hB)).reads (fun b h => Nat.lt_of_lt_of_le (hB b h) hb.size)) p2.1 p2.2
  obtain ⟨a0, cap0, eu0, _⟩ := id r0
  rw [length_strsV] at eu0
  subst eu0
  clear r0
  obtain ⟨a1, cap1, eu1, _⟩ := id r1
  rw [length_strsV] at eu1
  subst eu1
  clear r1
  obtain ⟨a2, cap2, eu2, _⟩ := id r2
  rw [length_strsV] at eu2
  subst eu2
  clear r2
  have lt := lw (wtRule d) left
  have l0 := lw (bulkS d.on) (left - (d.task.size : Int))
  rw [← hq0] at l0
  have l1 := lw (bulkS d.ins) q0
  rw [← hq1] at l1
  have l2 := lw (bulkS d.envs) q1
  rw [← hq2] at l2
  rw [← hR] at lt
  unfold wtRule at lt
  clear hq0 hq1 hq2 hR
  by_cases n0 : (left - (d.task.size : Int)) < 0
  · have HR : Hid (R = -1) := by show _ = _; omega
    clear lt l0 l1 l2
    clear HS0
    clear HS1
    clear HS2
    go_enter Try.func24, Try.ntmps24
    go_wp2_with fail
    go_ret
    exact ⟨by rw [HR.out]; rfl, (hbx _)⟩
  by_cases n1 : q0 < 0
  · have HR : Hid (R = -1) := by show _ = _; omega
    have g0a : 0 ≤ (left - (d.task.size : Int)) := by omega
    have g0b : (left - (d.task.size : Int)) ≤ 1048576 := by omega
    have HC0 := HS0.out g0a g0b
    have HD0 := hidden HC0
    clear HC0
    clear lt l0 l1 l2
    clear HS0
    clear HS1
    clear HS2
    go_enter Try.func24, Try.ntmps24
    go_wp2_with fail
    go_at_call 60
    refine (HD0.out _ (hbx _)).mono ?_
    rintro e w' ⟨rfl, rfl⟩
    go_wp2_with fail
    go_ret
    exact ⟨by rw [HR.out]; rfl, (hbx _)⟩
  by_cases n2 : q1 < 0
  · have HR : Hid (R = -1) := by show _ = _; omega
    have g0a : 0 ≤ (left - (d.task.size : Int)) := by omega
    have g0b : (left - (d.task.size : Int)) ≤ 1048576 := by omega
    have g1a : 0 ≤ q0 := by omega
    have g1b : q0 ≤ 1048576 := by omega
    have HC0 := HS0.out g0a g0b
    have HD0 := hidden HC0
    clear HC0
    have HC1 := HS1.out g1a g1b
    have HD1 := hidden HC1
    clear HC1
    clear lt l0 l1 l2
    clear HS0
    clear HS1
    clear HS2
    go_enter Try.func24, Try.ntmps24
    go_wp2_with fail
    go_at_call 60
    refine (HD0.out _ (hbx _)).mono ?_
    rintro e w' ⟨rfl, rfl⟩
    go_wp2_with fail
    go_at_call 60
    refine (HD1.out _ (hbx _)).mono ?_
    rintro e w' ⟨rfl, rfl⟩
    go_wp2_with fail
    go_ret
    exact ⟨by rw [HR.out]; rfl, (hbx _)⟩
  by_cases n3 : q2 < 0
  · have HR : Hid (R = -1) := by show _ = _; omega
    have g0a : 0 ≤ (left - (d.task.size : Int)) := by omega
    have g0b : (left - (d.task.size : Int)) ≤ 1048576 := by omega
    have g1a : 0 ≤ q0 := by omega
    have g1b : q0 ≤ 1048576 := by omega
    have g2a : 0 ≤ q1 := by omega
    have g2b : q1 ≤ 1048576 := by omega
    have HC0 := HS0.out g0a g0b
    have HD0 := hidden HC0
    clear HC0
    have HC1 := HS1.out g1a g1b
    have HD1 := hidden HC1
    clear HC1
    have HC2 := HS2.out g2a g2b
    have HD2 := hidden HC2
    clear HC2
    clear lt l0 l1 l2
    clear HS0
    clear HS1
    clear HS2
    go_enter Try.func24, Try.ntmps24
    go_wp2_with fail
    go_at_call 60
    refine (HD0.out _ (hbx _)).mono ?_
    rintro e w' ⟨rfl, rfl⟩
    go_wp2_with fail
    go_at_call 60
    refine (HD1.out _ (hbx _)).mono ?_
    rintro e w' ⟨rfl, rfl⟩
    go_wp2_with fail
    go_at_call 60
    refine (HD2.out _ (hbx _)).mono ?_
    rintro e w' ⟨rfl, rfl⟩
    go_wp2_with fail
    go_ret
    exact ⟨by rw [HR.out]; rfl, (hbx _)⟩
  have HR : Hid (R = q2) := by show _ = _; omega
  have g0a : 0 ≤ (left - (d.task.size : Int)) := by omega
  have g0b : (left - (d.task.size : Int)) ≤ 1048576 := by omega
  have g1a : 0 ≤ q0 := by omega
  have g1b : q0 ≤ 1048576 := by omega
  have g2a : 0 ≤ q1 := by omega
  have g2b : q1 ≤ 1048576 := by omega
  have HC0 := HS0.out g0a g0b
  have HD0 := hidden HC0
  clear HC0
  have HC1 := HS1.out g1a g1b
  have HD1 := hidden HC1
  clear HC1
  have HC2 := HS2.out g2a g2b
  have HD2 := hidden HC2
  clear HC2
  clear lt l0 l1 l2
  clear HS0
  clear HS1
  clear HS2
  go_enter Try.func24, Try.ntmps24
  go_wp2_with fail
  go_at_call 60
  refine (HD0.out _ (hbx _)).mono ?_
  rintro e w' ⟨rfl, rfl⟩
  go_wp2_with fail
  go_at_call 60
  refine (HD1.out _ (hbx _)).mono ?_
  rintro e w' ⟨rfl, rfl⟩
  go_wp2_with fail
  go_at_call 60
  refine (HD2.out _ (hbx _)).mono ?_
  rintro e w' ⟨rfl, rfl⟩
  go_wp2_with fail
  go_ret
  exact ⟨by rw [HR.out]; rfl, (hbx _)⟩

set_option maxHeartbeats 2000000 in
set_option maxRecDepth 100000 in
theorem szRuleS_c (S : Nat → Prop) (v : Value) (xs : List RuleD) (left : Int) (h0 : 0 ≤ left) (h1 : left ≤ 1048576) (w : World) (hv : RowIn shRule S w v xs) (hB : ∀ b, S b → b < w.heap.size) :
    Calls Try.prog 19 #[v, .int .i64 left] w fun e w' => e = .returned (.int .i64 (leftW (wtRow wtRule xs) left)) ∧ Below w.heap.size w w' := by
  obtain ⟨a, cap, rfl, hl, hc, ha⟩ := hv
  unfold maxLen at hl
  by_cases hneg : left - (xs.length : Int) < 0
  · have e : leftW (wtRow wtRule xs) left = -1 := leftW_bad (by have := len_wtRow wtRule xs; omega)
    rw [e]
    clear ha
    go_enter Try.func19, Try.ntmps19
    go_wp2_with fail
    go_ret
    exact ⟨rfl, Below.refl _ _⟩
  · go_enter Try.func19, Try.ntmps19
    go_wp2_with fail
    go_loopw [1, 5] (fun vl vi wr => ∃ (k : Nat) (q : Int), k ≤ xs.length ∧ vi = .int .i64 (k : Int) ∧ vl = .int .i64 q ∧ 0 ≤ q ∧ q ≤ 1048576 ∧ Hid (q = left - (xs.length : Int) - (wtRow wtRule (xs.take k) : Int) + (k : Int)) ∧ Below w.heap.size w wr) (fun _ vi _ => xs.length - (intOf vi).toNat)
    case atStart => exact ⟨0, _, Nat.zero_le _, rfl, rfl, by omega, by omega, by show _ = _; simp [wtRow], Below.refl _ _⟩
    case round =>
      obtain ⟨k, q, hk, rfl, rfl, hq0, hq1, hq, hbr⟩ := hrel
      by_cases hlt' : k < xs.length
      · rcases ha with rfl | ⟨b, off, rfl, hlt, ha⟩
        · simp at hlt'
        obtain ⟨cs, hL, hcell⟩ := ha k hlt'
        have hL2 := shRule.keep (.of hbr hB) hL
        have hcell2 := hcell.keep (.of hbr hB) hlt
        have hBr : ∀ b, S b → b < wr.heap.size := fun b h => Nat.lt_of_lt_of_le (hB b h) hbr.size
        have hwt := wtRow_take wtRule xs k hlt'
        have hsp := wtRow_split wtRule xs (k + 1)
        have hln := len_wtRow wtRule (xs.drop (k + 1))
        have hdl : (xs.drop (k + 1)).length = xs.length - (k + 1) := by simp
        obtain ⟨d, hd⟩ : ∃ d, d = xs[k] := ⟨_, rfl⟩
        rw [← hd] at hL2 hwt
        have HW : Hid (wtRow wtRule (xs.take (k + 1)) = wtRow wtRule (xs.take k) + (1 + wtRule d)) := hwt
        have HSP : Hid (wtRow wtRule xs = wtRow wtRule (xs.take (k + 1)) + wtRow wtRule (xs.drop (k + 1)) ∧ xs.length - (k + 1) ≤ wtRow wtRule (xs.drop (k + 1))) := ⟨hsp, by omega⟩
        have hki : (k : Int) < (xs.length : Int) := by omega
        obtain ⟨p, hp⟩ : ∃ p, p = leftW (wtRule d) q := ⟨_, rfl⟩
        have HP : Hid (p = leftW (wtRule d) q) := hp
        have HC := szRule_c S d cs q hq0 hq1 wr hL2 hBr
        rw [← hp] at HC
        clear hL hcell ha hwt hd hp hsp hln hdl
        obtain ⟨u0, u1, u2, rfl, s_task, r0, p0, r1, p1, r2, p2⟩ := hL2
        clear s_task p0 p1 p2
        obtain ⟨a0, cap0, eu0, _⟩ := id r0
        rw [length_strsV] at eu0
        subst eu0
        clear r0
        obtain ⟨a1, cap1, eu1, _⟩ := id r1
        rw [length_strsV] at eu1
        subst eu1
        clear r1
        obtain ⟨a2, cap2, eu2, _⟩ := id r2
        rw [length_strsV] at eu2
        subst eu2
        clear r2
        have e0 : wr.cell? ⟨b, off + k * 5, none⟩ = some (.string d.task) := hcell2 0 (by simp)
        have e1 : wr.cell? ⟨b, off + k * 5 + 1, none⟩ = some (.slice a0 d.on.length cap0) := hcell2 1 (by simp)
        have e2 : wr.cell? ⟨b, off + k * 5 + 2, none⟩ = some (.slice a1 d.ins.length cap1) := hcell2 2 (by simp)
        have e3 : wr.cell? ⟨b, off + k * 5 + 3, none⟩ = some (.slice a2 d.envs.length cap2) := hcell2 3 (by simp)
        have e4 : wr.cell? ⟨b, off + k * 5 + 4, none⟩ = some (.bool d.keep) := hcell2 4 (by simp)
        have HC2 := hidden HC
        clear hcell2 HC
        by_cases hpn : p < 0
        · go_wp2_with (go_at_call 24; refine HC2.out.mono ?_; rintro e w1 ⟨rfl, hb1⟩)
          go_ret
          have e : leftW (wtRow wtRule xs) left = -1 := by
            have h2 := HP.out; have h3 := hq.out; have h4 := HW.out; have h5 := HSP.out
            refine leftW_bad ?_
            by_cases h6 : ((wtRule d : Nat) : Int) ≤ q
            · rw [leftW_good h6] at h2; omega
            · omega
          exact ⟨by rw [e]; rfl, hbr.trans (hb1.mono hbr.size)⟩
        · go_wp2_with (go_at_call 24; refine HC2.out.mono ?_; rintro e w1 ⟨rfl, hb1⟩)
          go_roundw
          case rel =>
            have h2 := HP.out; have h3 := hq.out; have h4 := HW.out
            have h6 : ((wtRule d : Nat) : Int) ≤ q := by
              by_cases h6 : ((wtRule d : Nat) : Int) ≤ q
              · exact h6
              · rw [leftW_bad (by omega)] at h2; omega
            rw [leftW_good h6] at h2
            exact ⟨k + 1, p, by omega, by go_num, rfl, by omega, by omega, (by show _ = _; omega), hbr.trans (hb1.mono hbr.size)⟩
          case measure => simp [intOf]; omega
      · have he : k = xs.length := by omega
        subst he
        clear ha
        go_wp2_with fail
        go_ret
        have e : leftW (wtRow wtRule xs) left = q := by
          have h3 := hq.out
          rw [List.take_length] at h3
          rw [leftW_good (by omega)]; omega
        exact ⟨by rw [e]; rfl, hbr⟩

end Go.Proofs.Ytiadcebolcdhbaa

/-! Copies in memory of their own, as the law makes them: contracts for the walks; condition: what is copied holds at most 2 to the 20. -/
namespace Go.Proofs.Ytiadcebolcdhbaa
open Go.RowKit
set_option linter.unusedSimpArgs false
set_option linter.unusedVariables false

set_option maxHeartbeats 2000000 in
set_option maxRecDepth 100000 in
theorem toRule_c (S : Nat → Prop) (d : RuleD) (cs : List Value) (w : World) (hd : shRule.lies S w cs d) (hB : ∀ b, S b → b < w.heap.size) (hw : wtRule d ≤ 1048576) :
    Calls Try.prog 26 #[.agg cs.toArray] w fun e w' => ∃ cs', e = .returned (.agg cs'.toArray) ∧ shRuleO.lies (Ow w.heap.size w'.heap.size) w' cs' d ∧ Below w.heap.size w w' := by
  obtain ⟨u0, u1, u2, rfl, s_task, r0, p0, r1, p1, r2, p2⟩ := hd
  have hb3 : ∀ A R O, Below w.heap.size w (((w.alloc A).alloc R).alloc O) := fun A R O => (((Below.refl _ _).alloc (Nat.le_refl _) _).alloc (by simp) _).alloc (by simp; omega) _
  unfold wtRule at hw
  have HS0 : Hid (∀ w1, Below w.heap.size w w1 → Calls Try.prog 62 #[u0] w1 fun e w' => ∃ g, e = .returned (.slice (some ⟨g, 0, none⟩) d.on.length d.on.length) ∧ StrsOwn (Ow w1.heap.size w'.heap.size) w' (.slice (some ⟨g, 0, none⟩) d.on.length d.on.length) d.on ∧ Below w1.heap.size w1 w') := fun w1 hb =>
    (toStrs_c u0 d.on w1 ((r0.keep (.of hb hB)).reads (fun b h => Nat.lt_of_lt_of_le (hB b h) hb.size)) (by unfold bulkS at hw; omega)).mono fun e w' ⟨g, h1, h2, h3⟩ => ⟨g, h1, ⟨owns_lo (Nat.zero_le _) h2, owns_in h2⟩, h3⟩
  have HS1 : Hid (∀ w1, Below w.heap.size w w1 → Calls Try.prog 62 #[u1] w1 fun e w' => ∃ g, e = .returned (.slice (some ⟨g, 0, none⟩) d.ins.length d.ins.length) ∧ StrsOwn (Ow w1.heap.size w'.heap.size) w' (.slice (some ⟨g, 0, none⟩) d.ins.length d.ins.length) d.ins ∧ Below w1.heap.size w1 w') := fun w1 hb =>
    (toStrs_c u1 d.ins w1 ((r1.keep (.of hb hB)).reads (fun b h => Nat.lt_of_lt_of_le (hB b h) hb.size)) (by unfold bulkS at hw; omega)).mono fun e w' ⟨g, h1, h2, h3⟩ => ⟨g, h1, ⟨owns_lo (Nat.zero_le _) h2, owns_in h2⟩, h3⟩
  have HS2 : Hid (∀ w1, Below w.heap.size w w1 → Calls Try.prog 62 #[u2] w1 fun e w' => ∃ g, e = .returned (.slice (some ⟨g, 0, none⟩) d.envs.length d.envs.length) ∧ StrsOwn (Ow w1.heap.size w'.heap.size) w' (.slice (some ⟨g, 0, none⟩) d.envs.length d.envs.length) d.envs ∧ Below w1.heap.size w1 w') := fun w1 hb =>
    (toStrs_c u2 d.envs w1 ((r2.keep (.of hb hB)).reads (fun b h => Nat.lt_of_lt_of_le (hB b h) hb.size)) (by unfold bulkS at hw; omega)).mono fun e w' ⟨g, h1, h2, h3⟩ => ⟨g, h1, ⟨owns_lo (Nat.zero_le _) h2, owns_in h2⟩, h3⟩
  obtain ⟨a0, cap0, eu0, _⟩ := id r0
  rw [length_strsV] at eu0
  subst eu0
  clear r0
  obtain ⟨a1, cap1, eu1, _⟩ := id r1
  rw [length_strsV] at eu1
  subst eu1
  clear r1
  obtain ⟨a2, cap2, eu2, _⟩ := id r2
  rw [length_strsV] at eu2
  subst eu2
  clear r2
  go_enter Try.func26, Try.ntmps26
  go_wp2_with fail
  go_at_call 62
  refine (HS0.out _ (hb3 _ _ _)).mono ?_
  rintro e w1 ⟨g1, rfl, R0, b1⟩
  obtain ⟨hA1, hR1, hO1⟩ := vthree b1
  have s3 : ∀ A R O, (((w.alloc A).alloc R).alloc O).heap.size = w.heap.size + 1 + 1 + 1 := fun A R O => by simp
  rw [s3] at b1 R0
  have m1 : w.heap.size + 3 ≤ w1.heap.size := by have := b1.size; rw [s3] at this; omega
  have kw1 : Below w.heap.size w w1 := (hb3 _ _ _).trans (b1.mono (by omega))
  replace R0 := R0.mono (S' := Ow (w.heap.size + 3) w1.heap.size) (Ow.mono (by omega) (Nat.le_refl _))
  have m1' : w.heap.size + 3 ≤ w1.heap.size := by omega
  have o0 := vblk_cell hO1 0
  have q0 := vblk_cell hR1 0
  have y0 := vblk_cell hA1 0
  have o1 := vblk_cell hO1 1
  have q1 := vblk_cell hR1 1
  have y1 := vblk_cell hA1 1
  have o2 := vblk_cell hO1 2
  have q2 := vblk_cell hR1 2
  have y2 := vblk_cell hA1 2
  have o3 := vblk_cell hO1 3
  have q3 := vblk_cell hR1 3
  have y3 := vblk_cell hA1 3
  have o4 := vblk_cell hO1 4
  have q4 := vblk_cell hR1 4
  have y4 := vblk_cell hA1 4
  have fo := vblk_frozen hO1
  have fr := vblk_frozen hR1
  simp only [List.getElem?_toArray, List.getElem?_cons_succ, List.getElem?_cons_zero, List.setIfInBounds_toArray, List.set_cons_succ, List.set_cons_zero] at o0 q0 y0 o1 q1 y1 o2 q2 y2 o3 q3 y3 o4 q4 y4
  have k1 : Below w.heap.size w (w1.setCell ⟨w.heap.size + 1 + 1, 1, none⟩ (.slice (some ⟨g1, 0, none⟩) d.on.length d.on.length)) := (Below.setCell kw1 (by simp; omega) _)
  go_wp2_with fail
  go_at_call 62
  refine (HS1.out _ k1).mono ?_
  rintro e w2 ⟨g2, rfl, R1, b2⟩
  have hA2 := (b2.block w.heap.size (by simp [World.setCell]; omega)).trans ((Below.heap_setCell _ _ _ _ (by simp <;> omega)).trans (hA1))
  have hR2 := (b2.block (w.heap.size + 1) (by simp [World.setCell]; omega)).trans ((Below.heap_setCell _ _ _ _ (by simp <;> omega)).trans (hR1))
  have hO2 := (b2.block (w.heap.size + 1 + 1) (by simp [World.setCell]; omega)).trans (heap_setCell_same _ _ _ _ _ _ hO1)
  have m2 : w1.heap.size ≤ w2.heap.size := by have := b2.size; simpa [World.setCell] using this
  have kw2 : Below w.heap.size w w2 := k1.trans (b2.mono k1.size)
  replace R1 := R1.mono (S' := Ow (w.heap.size + 3) w2.heap.size) (Ow.mono (by simp [World.setCell]; omega) (Nat.le_refl _))
  replace R0 := (R0.keep ((Kp.set (Ow.not (by omega))).trans (Kp.of b2 (fun b h => by have := h.2; simp [World.setCell]; omega)))).mono (S' := Ow (w.heap.size + 3) w2.heap.size) (Ow.mono (Nat.le_refl _) (by omega))
  have m2' : w.heap.size + 3 ≤ w2.heap.size := by omega
  have o0 := vblk_cell hO2 0
  have q0 := vblk_cell hR2 0
  have y0 := vblk_cell hA2 0
  have o1 := vblk_cell hO2 1
  have q1 := vblk_cell hR2 1
  have y1 := vblk_cell hA2 1
  have o2 := vblk_cell hO2 2
  have q2 := vblk_cell hR2 2
  have y2 := vblk_cell hA2 2
  have o3 := vblk_cell hO2 3
  have q3 := vblk_cell hR2 3
  have y3 := vblk_cell hA2 3
  have o4 := vblk_cell hO2 4
  have q4 := vblk_cell hR2 4
  have y4 := vblk_cell hA2 4
  have fo := vblk_frozen hO2
  have fr := vblk_frozen hR2
  simp only [List.getElem?_toArray, List.getElem?_cons_succ, List.getElem?_cons_zero, List.setIfInBounds_toArray, List.set_cons_succ, List.set_cons_zero] at o0 q0 y0 o1 q1 y1 o2 q2 y2 o3 q3 y3 o4 q4 y4
  have k2 : Below w.heap.size w (w2.setCell ⟨w.heap.size + 1 + 1, 2, none⟩ (.slice (some ⟨g2, 0, none⟩) d.ins.length d.ins.length)) := (Below.setCell kw2 (by simp; omega) _)
  go_wp2_with fail
  go_at_call 62
  refine (HS2.out _ k2).mono ?_
  rintro e w3 ⟨g3, rfl, R2, b3⟩
  have hA3 := (b3.block w.heap.size (by simp [World.setCell]; omega)).trans ((Below.heap_setCell _ _ _ _ (by simp <;> omega)).trans (hA2))
  have hR3 := (b3.block (w.heap.size + 1) (by simp [World.setCell]; omega)).trans ((Below.heap_setCell _ _ _ _ (by simp <;> omega)).trans (hR2))
  have hO3 := (b3.block (w.heap.size + 1 + 1) (by simp [World.setCell]; omega)).trans (heap_setCell_same _ _ _ _ _ _ hO2)
  have m3 : w2.heap.size ≤ w3.heap.size := by have := b3.size; simpa [World.setCell] using this
  have kw3 : Below w.heap.size w w3 := k2.trans (b3.mono k2.size)
  replace R2 := R2.mono (S' := Ow (w.heap.size + 3) w3.heap.size) (Ow.mono (by simp [World.setCell]; omega) (Nat.le_refl _))
  replace R0 := (R0.keep ((Kp.set (Ow.not (by omega))).trans (Kp.of b3 (fun b h => by have := h.2; simp [World.setCell]; omega)))).mono (S' := Ow (w.heap.size + 3) w3.heap.size) (Ow.mono (Nat.le_refl _) (by omega))
  replace R1 := (R1.keep ((Kp.set (Ow.not (by omega))).trans (Kp.of b3 (fun b h => by have := h.2; simp [World.setCell]; omega)))).mono (S' := Ow (w.heap.size + 3) w3.heap.size) (Ow.mono (Nat.le_refl _) (by omega))
  have m3' : w.heap.size + 3 ≤ w3.heap.size := by omega
  have o0 := vblk_cell hO3 0
  have q0 := vblk_cell hR3 0
  have y0 := vblk_cell hA3 0
  have o1 := vblk_cell hO3 1
  have q1 := vblk_cell hR3 1
  have y1 := vblk_cell hA3 1
  have o2 := vblk_cell hO3 2
  have q2 := vblk_cell hR3 2
  have y2 := vblk_cell hA3 2
  have o3 := vblk_cell hO3 3
  have q3 := vblk_cell hR3 3
  have y3 := vblk_cell hA3 3
  have o4 := vblk_cell hO3 4
  have q4 := vblk_cell hR3 4
  have y4 := vblk_cell hA3 4
  have fo := vblk_frozen hO3
  have fr := vblk_frozen hR3
  simp only [List.getElem?_toArray, List.getElem?_cons_succ, List.getElem?_cons_zero, List.setIfInBounds_toArray, List.set_cons_succ, List.set_cons_zero] at o0 q0 y0 o1 q1 y1 o2 q2 y2 o3 q3 y3 o4 q4 y4
  go_wp2_with fail
  refine bodyPost_ret (v := .agg #[.string d.task, .slice (some ⟨g1, 0, none⟩) d.on.length d.on.length, .slice (some ⟨g2, 0, none⟩) d.ins.length d.ins.length, .slice (some ⟨g3, 0, none⟩) d.envs.length d.envs.length, .bool d.keep]) (by simp [results, Try.results26, go_sem, o0, q0, o1, q1, o2, q2, o3, q3, o4, q4]) rfl ⟨[.string d.task, .slice (some ⟨g1, 0, none⟩) d.on.length d.on.length, .slice (some ⟨g2, 0, none⟩) d.ins.length d.ins.length, .slice (some ⟨g3, 0, none⟩) d.envs.length d.envs.length, .bool d.keep], rfl, ?_, ?_⟩
  · have hS : ∀ {W : World}, w3.heap.size ≤ W.heap.size → ∀ b, Ow (w.heap.size + 3) w3.heap.size b → Ow w.heap.size W.heap.size b := fun h => Ow.mono (by omega) h
    refine ⟨_, _, _, rfl, s_task, (R0.keep ?_).mono (hS ?_), p0, (R1.keep ?_).mono (hS ?_), p1, (R2.keep ?_).mono (hS ?_), p2⟩
    all_goals first
      | (simp [World.setCell]; done)
      | ((repeat (refine Kp.trans ?_ (Kp.set (Ow.not (by omega))))); exact fun b hb => rfl)
  · refine ?_
    (repeat (refine Below.setCell ?_ (by simp <;> omega) _))
    exact kw3

set_option maxHeartbeats 2000000 in
set_option maxRecDepth 100000 in
theorem infoRule : (Try.prog.info? 52).map (fun i => (i.zero, i.size, i.bytes)) = some (some (.agg #[.string ⟨#[]⟩, .slice none 0 0, .slice none 0 0, .slice none 0 0, .bool false]), 5, 96) := by kernel_rfl
set_option maxHeartbeats 2000000 in
set_option maxRecDepth 100000 in
theorem toRuleS_c (S : Nat → Prop) (v : Value) (xs : List RuleD) (w : World) (hv : RowIn shRule S w v xs) (hB : ∀ b, S b → b < w.heap.size) (hw : wtRow wtRule xs ≤ 1048576) :
    Calls Try.prog 21 #[v] w fun e w' => ∃ g, e = .returned (.slice (some ⟨g, 0, none⟩) xs.length xs.length) ∧ RowOwn shRuleO 52 (Ow w.heap.size w'.heap.size) w' (.slice (some ⟨g, 0, none⟩) xs.length xs.length) xs ∧ Below w.heap.size w w' := by
  obtain ⟨a, cap, rfl, hl, hc, ha⟩ := hv
  have hn := len_wtRow wtRule xs
  have hlm : xs.length ≤ maxLen := hl
  unfold maxLen at hl
  obtain ⟨i0, hi, hz0, hz1, hz2⟩ := info_parts infoRule
  go_enter Try.func21, Try.ntmps21
  go_wp2_with (first
    | (at_make; refine wpList_make_full _ rfl _ _ 41 rfl w.heap.size 52 i0 _ 5 Try.underlying41 hi hz0 hz1 _ _ _ _ xs.length rfl rfl rfl rfl (by rw [hz2]; omega) (by unfold maxLen; omega) (Nat.le_refl _) ?_))
  intro w1 hown hgrow
  have hb1 := below_of_grown hgrow
  have hs1 : w.heap.size + 1 ≤ w1.heap.size := by
    rcases hown.2 with ⟨h, _⟩ | ⟨g, cap, cur, h, _, hg, _⟩
    · simp at h
    · simp at h
      have := (Array.getElem?_eq_some_iff.1 hg).1
      omega
  obtain ⟨ys1, hown1⟩ : ∃ ys, w1.ownsRow w.heap.size 52 5 (.slice (some ⟨w.heap.size, 0, none⟩) xs.length xs.length) xs.length ys := ⟨_, hown⟩
  clear hgrow hown
  go_wp2_with fail
  go_loopw [4] (fun vi wr => ∃ (k : Nat) (ys : List Value), k ≤ xs.length ∧ vi = .int .i64 (k : Int) ∧ wr.ownsRow w.heap.size 52 5 (.slice (some ⟨w.heap.size, 0, none⟩) xs.length xs.length) xs.length ys ∧ Hid (Laid shRuleO (Ow (w.heap.size + 1) wr.heap.size) wr ys xs k) ∧ Below w.heap.size w wr ∧ w.heap.size + 1 ≤ wr.heap.size) (fun vi _ => xs.length - (intOf vi).toNat)
  case atStart => exact ⟨0, ys1, Nat.zero_le _, rfl, hown1, (fun i h h0 => by omega), hb1, hs1⟩
  case round =>
    obtain ⟨k, ys, hk, rfl, hownr, hy, hbr, hsr⟩ := hrel
    by_cases hlt' : k < xs.length
    · rcases ha with rfl | ⟨b, off, rfl, hlt, ha⟩
      · simp at hlt'
      obtain ⟨cs, hL, hcell⟩ := ha k hlt'
      have hL2 := shRule.keep (.of hbr hB) hL
      have hcell2 := hcell.keep (.of hbr hB) hlt
      have hBr : ∀ b, S b → b < wr.heap.size := fun b h => Nat.lt_of_lt_of_le (hB b h) hbr.size
      have hwt : wtRule xs[k] ≤ 1048576 := by have := wt_wtRow wtRule (List.getElem_mem hlt'); omega
      have hown2 : ∀ w2, Below wr.heap.size wr w2 → w2.ownsRow w.heap.size 52 5 (.slice (some ⟨w.heap.size, 0, none⟩) xs.length xs.length) xs.length ys := fun w2 h2 => hownr.kept (grown_of_below h2 none) (by simp [Value.ownBlock])
      have hlen := hownr.1
      have HC : Hid (∀ w2, Below wr.heap.size wr w2 → ∀ j, j < 5 → ∃ x, w2.cell? ⟨w.heap.size, k * 5 + j, none⟩ = some x) := fun w2 h2 j hj => ⟨ys.getD (k * 5 + j) undef, by rw [(hown2 w2 h2).cellAt _ (by omega)]; simp [List.getD_eq_getElem?_getD, show k * 5 + j < ys.length by omega]⟩
      have HF : Hid (∀ w2, Below wr.heap.size wr w2 → ∀ j, w2.frozen? ⟨w.heap.size, j, none⟩ = false) := fun w2 h2 j => (hown2 w2 h2).frozenAt j
      have HO : Hid (∀ w2, Below wr.heap.size wr w2 → w2.ownsRow w.heap.size 52 5 (.slice (some ⟨w.heap.size, 0, none⟩) xs.length xs.length) xs.length ys) := hown2
      have HST : Hid (∀ w2 cs, Below wr.heap.size wr w2 → cs.length = 5 → shRuleO.lies (Ow (w.heap.size + 1) w2.heap.size) w2 cs xs[k] → Laid shRuleO (Ow (w.heap.size + 1) (setW w2 w.heap.size (k * 5) cs).heap.size) (setW w2 w.heap.size (k * 5) cs) (putL ys (k * 5) cs) xs (k + 1)) := fun w2 cs h2 hc hr => hy.out.step (sh := shRuleO) hlt' hlen h2 (by omega) hc hr
      obtain ⟨d, hd⟩ : ∃ d, d = xs[k] := ⟨_, rfl⟩
      rw [← hd] at hL2 hwt HST
      have HC1 := toRule_c S d cs wr hL2 hBr hwt
      clear ha hL hcell hd hown2 hi hz0 hz1 hz2 hown1 hb1 hlen hwt
      obtain ⟨u0, u1, u2, rfl, s_task, r0, p0, r1, p1, r2, p2⟩ := hL2
      clear s_task p0 p1 p2
      obtain ⟨a0, cap0, eu0, _⟩ := id r0
      rw [length_strsV] at eu0
      subst eu0
      clear r0
      obtain ⟨a1, cap1, eu1, _⟩ := id r1
      rw [length_strsV] at eu1
      subst eu1
      clear r1
      obtain ⟨a2, cap2, eu2, _⟩ := id r2
      rw [length_strsV] at eu2
      subst eu2
      clear r2
      have e0 : wr.cell? ⟨b, off + k * 5, none⟩ = some (.string d.task) := hcell2 0 (by simp)
      have e1 : wr.cell? ⟨b, off + k * 5 + 1, none⟩ = some (.slice a0 d.on.length cap0) := hcell2 1 (by simp)
      have e2 : wr.cell? ⟨b, off + k * 5 + 2, none⟩ = some (.slice a1 d.ins.length cap1) := hcell2 2 (by simp)
      have e3 : wr.cell? ⟨b, off + k * 5 + 3, none⟩ = some (.slice a2 d.envs.length cap2) := hcell2 3 (by simp)
      have e4 : wr.cell? ⟨b, off + k * 5 + 4, none⟩ = some (.bool d.keep) := hcell2 4 (by simp)
      have HC2 := hidden HC1
      have hki : (k : Int) < (xs.length : Int) := by omega
      clear hcell2 HC1
      go_wp2_with (go_at_call 26; refine HC2.out.mono ?_; rintro e w2 ⟨cs, rfl, hX, hb2⟩; have HX := hidden (HST.out w2 cs hb2 (by have h := hX; obtain ⟨u0, u1, u2, h9, s_task, r0, p0, r1, p1, r2, p2⟩ := h; rw [h9]; rfl) (shRuleO.mono (Ow.mono hsr (Nat.le_refl _)) hX)); obtain ⟨u0, u1, u2, rfl, s_task, z0, p0, z1, p1, z2, p2⟩ := hX; obtain ⟨b0, bap0, ev0⟩ := z0.slice; subst ev0; obtain ⟨b1, bap1, ev1⟩ := z1.slice; subst ev1; obtain ⟨b2, bap2, ev2⟩ := z2.slice; subst ev2; obtain ⟨y0, d0⟩ := HC.out w2 hb2 0 (by omega); obtain ⟨y1, d1⟩ := HC.out w2 hb2 1 (by omega); obtain ⟨y2, d2⟩ := HC.out w2 hb2 2 (by omega); obtain ⟨y3, d3⟩ := HC.out w2 hb2 3 (by omega); obtain ⟨y4, d4⟩ := HC.out w2 hb2 4 (by omega); rw [Nat.add_zero] at d0; have f9 := HF.out w2 hb2)
      go_roundw
      case rel =>
        refine ⟨k + 1, _, by omega, by go_num, setW_owns [.string d.task, .slice b0 d.on.length bap0, .slice b1 d.ins.length bap1, .slice b2 d.envs.length bap2, .bool d.keep] w2 ys (k * 5) (HO.out w2 hb2), HX.out, setW_below (Nat.le_refl _) [.string d.task, .slice b0 d.on.length bap0, .slice b1 d.ins.length bap1, .slice b2 d.envs.length bap2, .bool d.keep] w2 w (k * 5) (hbr.trans (hb2.mono hbr.size)), ?_⟩
        have h9 := setW_size [.string d.task, .slice b0 d.on.length bap0, .slice b1 d.ins.length bap1, .slice b2 d.envs.length bap2, .bool d.keep] w2 w.heap.size (k * 5)
        have := hb2.size
        exact Nat.le_trans (show w.heap.size + 1 ≤ w2.heap.size by omega) (Nat.le_of_eq h9.symm)
      case measure => simp [intOf]; omega
    · have he : k = xs.length := by omega
      subst he
      clear ha
      go_wp2_with fail
      go_ret
      exact ⟨_, rfl, rowOwn_of hownr hlm hy.out, hbr⟩

end Go.Proofs.Ytiadcebolcdhbaa

/-! What the law on RuleVal needs of the functions that it calls, told at the slices of a rule and of a value; conditions: what comes in lies in memory and holds at most 2 to the 20. -/
namespace Go.Proofs.Ytiadcebolcdhbaa
open Go.RowKit
set_option linter.unusedSimpArgs false
set_option linter.unusedVariables false

theorem wt_textsQ (ss : List ByteArray) : wtL (ss.map textT) = bulkS ss := by
  induction ss with
  | nil => simp [wtL, bulkS]
  | cons a r ih => simp only [List.map_cons, wtL, textT, wt_mk, ih]; simp [bulkS, wtL]; omega
theorem cnt_textsQ (ss : List ByteArray) : cntL (ss.map textT) = 3 * ss.length := by
  induction ss with
  | nil => simp [cntL]
  | cons a r ih => simp only [List.map_cons, cntL, textT, Tree.cnt, ih, List.length_cons]; simp; omega
theorem wt_rule (d : RuleD) (hw : wtRule d ≤ 1048576) : (ruleT d).wt ≤ 16777216 := by
  have h1 := wt_textsQ d.on
  have h2 := wt_textsQ d.ins
  have h3 := wt_textsQ d.envs
  have e : (⟨#[]⟩ : ByteArray).size = 0 := rfl
  have hk1 : ruleKeys.length = 4 := rfl
  have hk2 : (ruleKeys.map ByteArray.size).sum = 11 := rfl
  simp only [wtRule] at hw
  simp only [ruleT, ruleKids, listT, boolT, wt_mk, wtL, h1, h2, h3, e, bulkS, List.length_nil, List.map_nil, List.sum_nil] at hw ⊢
  omega
theorem cnt_rule (d : RuleD) (hw : wtRule d ≤ 1048576) : 1 + cntL (ruleKids d) + 4 ≤ 4294967296 := by
  have h1 := cnt_textsQ d.on
  have h2 := cnt_textsQ d.ins
  have h3 := cnt_textsQ d.envs
  have l := lens_wt hw
  simp only [ruleKids, listT, boolT, cntL, Tree.cnt, h1, h2, h3, List.length_nil]
  omega
theorem Mk.liesR {w : World} {S : Nat → Prop} {c u : Value} {d : RuleD} (h : Mk w S c u (ruleKids d) ruleKeys) : Lies S w (.agg #[.int .i64 5, .int .i64 0, .string ⟨#[]⟩, c, u]) (ruleT d) := by
  obtain ⟨R1, R2, p, h1, h2⟩ := h.part (by simp [ruleKids]; unfold maxLen; omega)
  exact Lies.of (Nat.zero_le _) ⟨by simp [ruleKeys]; unfold maxLen; omega, by decide⟩ (p.lies.mono h1) ((readsB_in p.keys p.inK).mono h2)
theorem Mk.ownVR {w : World} {S : Nat → Prop} {c u : Value} {d : RuleD} (h : Mk w S c u (ruleKids d) ruleKeys) : ∃ B K : Nat → Prop, OwnV w B K c u (ruleKids d) 4 ∧ ∀ b, B b ∨ K b → S b := by
  obtain ⟨R1, R2, p, h1, h2⟩ := h.part (by simp [ruleKids]; unfold maxLen; omega)
  exact ⟨R1, R2, ⟨p.own, ⟨_, p.keys⟩, p.inK, p.apart⟩, fun b hb => hb.elim (h1 b) (h2 b)⟩
set_option maxHeartbeats 2000000 in
set_option maxRecDepth 100000 in
theorem markRuleQ_c (lo hi : Nat) (u0 u1 u2 : Value) (d : RuleD) (w : World) (h : shRuleO.lies (Ow lo hi) w [.string d.task, u0, u1, u2, .bool d.keep] d) (hlt : hi ≤ w.heap.size) (hw : wtRule d ≤ 1048576) :
    Calls Try.prog 30 #[.agg #[.string d.task, u0, u1, u2, .bool d.keep], .int .i64 1] w fun e w' => ∃ q : Nat, e = .returned (.int .i64 (q : Int)) ∧ Chg (Ow lo hi) w w' := by
  obtain ⟨l0, l1, l2⟩ := lens_wt hw
  obtain ⟨v0, v1, v2, he, _, r0, p0, r1, p1, r2, p2⟩ := h
  simp only [List.cons.injEq, and_true, true_and] at he
  obtain ⟨rfl, rfl, rfl⟩ := he
  obtain ⟨q0, c0, e0⟩ := r0.slice
  obtain ⟨q1, c1, e1⟩ := r1.slice
  obtain ⟨q2, c2, e2⟩ := r2.slice
  have HX : ∀ (u : Value) (n k : Nat), 1 ≤ k → k + n ≤ 4294967296 → ∀ W z, W.ownsRow 0 9 1 u n z → Calls Try.prog 68 #[u, .int .i64 (k : Int)] W fun e w' => e = .returned (.int .i64 ((k + n : Nat) : Int)) ∧ (∃ z', w'.ownsRow 0 9 1 u n z') ∧ W.grownBy w' u.ownBlock := fun u n k h1 h2 W z a => by
    have h9 := markStrs_c u 0 n z k W a h1 (by omega) (by omega) (Nat.zero_le _)
    rw [show ((k : Nat) : Int) + (n : Int) = ((k + n : Nat) : Int) by omega] at h9
    exact h9.mono fun e w' ⟨a, b, c⟩ => ⟨a, ⟨_, b⟩, c⟩
  have H0 := hidden (HX u0 d.on.length 1 (Nat.le_refl _) (by omega))
  have H1 := hidden (HX u1 d.ins.length (1 + d.on.length) (by omega) (by omega))
  have H2 := hidden (HX u2 d.envs.length (1 + d.on.length + d.ins.length) (by omega) (by omega))
  obtain ⟨K1, hK1⟩ : ∃ K, K = 1 + d.on.length := ⟨_, rfl⟩
  obtain ⟨K2, hK2⟩ : ∃ K, K = 1 + d.on.length + d.ins.length := ⟨_, rfl⟩
  obtain ⟨K3, hK3⟩ : ∃ K, K = 1 + d.on.length + d.ins.length + d.envs.length := ⟨_, rfl⟩
  simp only [← hK3] at H2
  simp only [← hK2] at H1 H2
  simp only [← hK1] at H0 H1
  have hbx : ∀ o, Below w.heap.size w (w.alloc o) := fun o => (Below.refl _ _).alloc (Nat.le_refl _) _
  obtain ⟨t, ht⟩ : ∃ t, t = d.task := ⟨_, rfl⟩
  obtain ⟨kp, hkp⟩ : ∃ t, t = d.keep := ⟨_, rfl⟩
  obtain ⟨n0, hn0⟩ : ∃ t, t = d.on.length := ⟨_, rfl⟩
  obtain ⟨n1, hn1⟩ : ∃ t, t = d.ins.length := ⟨_, rfl⟩
  obtain ⟨n2, hn2⟩ : ∃ t, t = d.envs.length := ⟨_, rfl⟩
  have o0 := r0.1
  have o1 := r1.1
  have o2 := r2.1
  have HL := hidden (And.intro r0.2 (And.intro r1.2 r2.2))
  rw [← hn0] at e0 H0 o0
  rw [← hn1] at e1 H1 o1
  rw [← hn2] at e2 H2 o2
  rw [← ht, ← hkp]
  obtain ⟨z0, hz0⟩ : ∃ z, z = strsV d.on := ⟨_, rfl⟩
  obtain ⟨z1, hz1⟩ : ∃ z, z = strsV d.ins := ⟨_, rfl⟩
  obtain ⟨z2, hz2⟩ : ∃ z, z = strsV d.envs := ⟨_, rfl⟩
  rw [← hz0] at o0
  rw [← hz1] at o1
  rw [← hz2] at o2
  clear r0 r1 r2 p0 p1 p2 HX hK1 hK2 hK3 l0 l1 l2 hw ht hkp hn0 hn1 hn2 hz0 hz1 hz2
  subst e0 e1 e2
  have hA0 : (w.alloc (.cells #[.string t, .slice q0 n0 c0, .slice q1 n1 c1, .slice q2 n2 c2, .bool kp] 52 (0, 0))).heap[w.heap.size]? = some (.cells #[.string t, .slice q0 n0 c0, .slice q1 n1 c1, .slice q2 n2 c2, .bool kp] 52 (0, 0)) := vheap_new _ _
  have HO := hidden (And.intro (owns_of_belowN o0 (hbx (.cells #[.string t, .slice q0 n0 c0, .slice q1 n1 c1, .slice q2 n2 c2, .bool kp] 52 (0, 0)))) (And.intro (owns_of_belowN o1 (hbx (.cells #[.string t, .slice q0 n0 c0, .slice q1 n1 c1, .slice q2 n2 c2, .bool kp] 52 (0, 0)))) (owns_of_belowN o2 (hbx (.cells #[.string t, .slice q0 n0 c0, .slice q1 n1 c1, .slice q2 n2 c2, .bool kp] 52 (0, 0))))))
  clear o0 o1 o2
  go_enter Try.func30, Try.ntmps30
  go_wp2_with fail
  go_at_call 68
  refine (H0.out _ _ HO.out.1).mono ?_
  rintro e w1 ⟨rfl, ⟨y0, r0⟩, g1⟩
  have hA1 := (g1.block w.heap.size (by simp) (fun e => by have := (HL.out.1 _ e.symm).2; omega)).trans hA0
  have x0 := vblk_cell hA1 0
  have x1 := vblk_cell hA1 1
  have x2 := vblk_cell hA1 2
  have x3 := vblk_cell hA1 3
  have x4 := vblk_cell hA1 4
  simp only [List.getElem?_toArray, List.getElem?_cons_succ, List.getElem?_cons_zero] at x0 x1 x2 x3 x4
  have HO1 := hidden (And.intro (owns_over HO.out.2.1 HO.out.1 r0 g1 (by omega)) (owns_over HO.out.2.2 HO.out.1 r0 g1 (by omega)))
  have HC1 := hidden ((Chg.of (hbx (.cells #[.string t, .slice q0 n0 c0, .slice q1 n1 c1, .slice q2 n2 c2, .bool kp] 52 (0, 0)))).trans (Chg.grown g1 HL.out.1))
  have hz1 : w.heap.size < w1.heap.size := (Array.getElem?_eq_some_iff.1 hA1).1
  clear r0 g1 hA0 HO H0
  obtain ⟨⟨b1, hb1⟩, ⟨b2, hb2⟩⟩ := HO1.out
  have HB := hidden (And.intro hb1 hb2)
  clear hb1 hb2 HO1
  go_wp2_with fail
  go_at_call 68
  refine (H1.out _ _ HB.out.1).mono ?_
  rintro e w2 ⟨rfl, ⟨y1, r1⟩, g2⟩
  have hA2 := (g2.block w.heap.size hz1 (fun e => by have := (HL.out.2.1 _ e.symm).2; omega)).trans hA1
  clear x0 x1 x2 x3 x4
  have x0 := vblk_cell hA2 0
  have x1 := vblk_cell hA2 1
  have x2 := vblk_cell hA2 2
  have x3 := vblk_cell hA2 3
  have x4 := vblk_cell hA2 4
  simp only [List.getElem?_toArray, List.getElem?_cons_succ, List.getElem?_cons_zero] at x0 x1 x2 x3 x4
  have HO2 := hidden (owns_over HB.out.2 HB.out.1 r1 g2 (by omega))
  have HC2 := hidden (HC1.out.trans (Chg.grown g2 HL.out.2.1))
  clear r1 g2 hA1 HB H1 HC1
  obtain ⟨b3, hb3⟩ := HO2.out
  have HB2 := hidden hb3
  clear hb3 HO2
  go_wp2_with fail
  go_at_call 68
  refine (H2.out _ _ HB2.out).mono ?_
  rintro e w3 ⟨rfl, ⟨y2, r2⟩, g3⟩
  have HF := hidden (HC2.out.trans (Chg.grown g3 HL.out.2.2))
  clear r2 g3 hA2 HB2 H2 HC2 x0 x1 x2 x3 x4
  go_wp2_with fail
  go_ret
  exact ⟨_, rfl, HF.out⟩

/-- A rule's five cells, as slices. -/
theorem rule_cells {S : Nat → Prop} {w : World} {cs : List Value} {d : RuleD} (h : shRule.lies S w cs d) : ∃ x0 y0 x1 y1 x2 y2, cs = [.string d.task, .slice x0 d.on.length y0, .slice x1 d.ins.length y1, .slice x2 d.envs.length y2, .bool d.keep] := by
  obtain ⟨u0, u1, u2, rfl, _, r0, _, r1, _, r2, _⟩ := h
  obtain ⟨a0, c0, e0, _⟩ := r0
  rw [length_strsV] at e0
  obtain ⟨a1, c1, e1, _⟩ := r1
  rw [length_strsV] at e1
  obtain ⟨a2, c2, e2, _⟩ := r2
  rw [length_strsV] at e2
  exact ⟨a0, c0, a1, c1, a2, c2, by rw [e0, e1, e2]⟩
theorem ruleO_cells {S : Nat → Prop} {w : World} {cs : List Value} {d : RuleD} (h : shRuleO.lies S w cs d) : ∃ x0 y0 x1 y1 x2 y2, cs = [.string d.task, .slice x0 d.on.length y0, .slice x1 d.ins.length y1, .slice x2 d.envs.length y2, .bool d.keep] := rule_cells (liesRule_plain h)
/-- A value that is a rule's, its four keys and four values in blocks from lo up to hi. -/
def ValRr (w : World) (lo hi : Nat) (c u : Value) (d : RuleD) : Prop := Mk w (fun b => lo ≤ b ∧ b < hi) c u (ruleKids d) ruleKeys ∧ hi ≤ w.heap.size
theorem ValRr.chg {w w' : World} {lo hi : Nat} {c u : Value} {d : RuleD} {S : Nat → Prop} (h : ValRr w lo hi c u d) (k : Chg S w w') (n : ∀ b, lo ≤ b → b < hi → ¬ S b) : ValRr w' lo hi c u d :=
  ⟨h.1.keep k.size (fun b hb => k.block b (Nat.lt_of_lt_of_le hb.2 h.2) (n b hb.1 hb.2)), Nat.le_trans h.2 k.size⟩
theorem ValRr.below {w w' : World} {lo hi : Nat} {c u : Value} {d : RuleD} (h : ValRr w lo hi c u d) (k : Below w.heap.size w w') : ValRr w' lo hi c u d := h.chg (Chg.of (S := fun _ => False) k) (fun _ _ _ => id)
def RuleR (w : World) (lo hi : Nat) (cs : List Value) (d : RuleD) : Prop := shRuleO.lies (Ow lo hi) w cs d ∧ hi ≤ w.heap.size
theorem RuleR.chg {w w' : World} {lo hi : Nat} {cs : List Value} {d : RuleD} {S : Nat → Prop} (h : RuleR w lo hi cs d) (k : Chg S w w') (n : ∀ b, lo ≤ b → b < hi → ¬ S b) : RuleR w' lo hi cs d :=
  ⟨shRuleO.keep (fun b hb => k.block b (Nat.lt_of_lt_of_le hb.2 h.2) (n b hb.1 hb.2)) h.1, Nat.le_trans h.2 k.size⟩
theorem RuleR.below {w w' : World} {lo hi : Nat} {cs : List Value} {d : RuleD} (h : RuleR w lo hi cs d) (k : Below w.heap.size w w') : RuleR w' lo hi cs d := h.chg (Chg.of (S := fun _ => False) k) (fun _ _ _ => id)

set_option maxHeartbeats 1000000 in
set_option maxRecDepth 100000 in
theorem toRuleL (S : Nat → Prop) (d : RuleD) (x0 : Option Addr) (y0 : Nat) (x1 : Option Addr) (y1 : Nat) (x2 : Option Addr) (y2 : Nat) (w : World) (hd : shRule.lies S w [.string d.task, .slice x0 d.on.length y0, .slice x1 d.ins.length y1, .slice x2 d.envs.length y2, .bool d.keep] d) (hB : ∀ b, S b → b < w.heap.size) (hw : wtRule d ≤ 1048576) :
    Calls Try.prog 26 #[.agg #[.string d.task, .slice x0 d.on.length y0, .slice x1 d.ins.length y1, .slice x2 d.envs.length y2, .bool d.keep]] w fun e w' => ∃ p0 q0 p1 q1 p2 q2, e = .returned (.agg #[.string d.task, .slice p0 d.on.length q0, .slice p1 d.ins.length q1, .slice p2 d.envs.length q2, .bool d.keep]) ∧ RuleR w' w.heap.size w'.heap.size [.string d.task, .slice p0 d.on.length q0, .slice p1 d.ins.length q1, .slice p2 d.envs.length q2, .bool d.keep] d ∧ Below w.heap.size w w' := by
  refine (toRule_c S d [.string d.task, .slice x0 d.on.length y0, .slice x1 d.ins.length y1, .slice x2 d.envs.length y2, .bool d.keep] w hd hB hw).mono ?_
  rintro e w' ⟨cs', he, hl, hb⟩
  obtain ⟨p0, q0, p1, q1, p2, q2, rfl⟩ := ruleO_cells hl
  exact ⟨p0, q0, p1, q1, p2, q2, he, ⟨hl, Nat.le_refl _⟩, hb⟩

set_option maxHeartbeats 1000000 in
set_option maxRecDepth 100000 in
theorem specRuleL (lo hi : Nat) (d : RuleD) (x0 : Option Addr) (y0 : Nat) (x1 : Option Addr) (y1 : Nat) (x2 : Option Addr) (y2 : Nat) (w : World) (hd : RuleR w lo hi [.string d.task, .slice x0 d.on.length y0, .slice x1 d.ins.length y1, .slice x2 d.envs.length y2, .bool d.keep] d) (hw : wtRule d ≤ 1048576) :
    Calls Try.prog 25 #[.agg #[.string d.task, .slice x0 d.on.length y0, .slice x1 d.ins.length y1, .slice x2 d.envs.length y2, .bool d.keep]] w fun e w' => ∃ n c g u v, e = .returned (.agg #[.int .i64 5, .int .i64 0, .string ⟨#[]⟩, .slice c n g, .slice u n v]) ∧ ValRr w' w.heap.size w'.heap.size (.slice c n g) (.slice u n v) d ∧ Below w.heap.size w w' := by
  refine (specRuleVal_c (Ow lo hi) [.string d.task, .slice x0 d.on.length y0, .slice x1 d.ins.length y1, .slice x2 d.envs.length y2, .bool d.keep] d w (liesRule_plain hd.1) (fun b hb => Nat.lt_of_lt_of_le hb.2 hd.2) hw).mono ?_
  rintro e w' ⟨c, u, he, m, hb⟩
  obtain ⟨n, qc, cc, qu, cu, _, rfl, rfl⟩ := m.slicesN
  exact ⟨n, qc, cc, qu, cu, he, ⟨m, Nat.le_refl _⟩, hb⟩

set_option maxHeartbeats 1000000 in
set_option maxRecDepth 100000 in
theorem implRuleL (lo hi : Nat) (d : RuleD) (x0 : Option Addr) (y0 : Nat) (x1 : Option Addr) (y1 : Nat) (x2 : Option Addr) (y2 : Nat) (w : World) (hd : RuleR w lo hi [.string d.task, .slice x0 d.on.length y0, .slice x1 d.ins.length y1, .slice x2 d.envs.length y2, .bool d.keep] d) (hw : wtRule d ≤ 1048576) :
    Calls Try.prog 27 #[.agg #[.string d.task, .slice x0 d.on.length y0, .slice x1 d.ins.length y1, .slice x2 d.envs.length y2, .bool d.keep]] w fun e w' => ∃ n c g u v, e = .returned (.agg #[.int .i64 5, .int .i64 0, .string ⟨#[]⟩, .slice c n g, .slice u n v]) ∧ ValRr w' w.heap.size w'.heap.size (.slice c n g) (.slice u n v) d ∧ Below w.heap.size w w' := by
  refine (ruleVal_c (Ow lo hi) [.string d.task, .slice x0 d.on.length y0, .slice x1 d.ins.length y1, .slice x2 d.envs.length y2, .bool d.keep] d w (liesRule_plain hd.1) (fun b hb => Nat.lt_of_lt_of_le hb.2 hd.2) hw).mono ?_
  rintro e w' ⟨c, u, he, m, hb⟩
  obtain ⟨n, qc, cc, qu, cu, _, rfl, rfl⟩ := m.slicesN
  exact ⟨n, qc, cc, qu, cu, he, ⟨m, Nat.le_refl _⟩, hb⟩

set_option maxHeartbeats 1000000 in
set_option maxRecDepth 100000 in
theorem eqRuleL (lo hi lo' hi' : Nat) (d : RuleD) (x0 : Option Addr) (y0 : Nat) (x1 : Option Addr) (y1 : Nat) (x2 : Option Addr) (y2 : Nat) (p0 : Option Addr) (q0 : Nat) (p1 : Option Addr) (q1 : Nat) (p2 : Option Addr) (q2 : Nat) (w : World) (hd : RuleR w lo hi [.string d.task, .slice x0 d.on.length y0, .slice x1 d.ins.length y1, .slice x2 d.envs.length y2, .bool d.keep] d) (hd' : RuleR w lo' hi' [.string d.task, .slice p0 d.on.length q0, .slice p1 d.ins.length q1, .slice p2 d.envs.length q2, .bool d.keep] d) (hw : wtRule d ≤ 1048576) :
    Calls Try.prog 29 #[.agg #[.string d.task, .slice x0 d.on.length y0, .slice x1 d.ins.length y1, .slice x2 d.envs.length y2, .bool d.keep], .agg #[.string d.task, .slice p0 d.on.length q0, .slice p1 d.ins.length q1, .slice p2 d.envs.length q2, .bool d.keep]] w fun e w' => e = .returned (.bool true) ∧ Below w.heap.size w w' :=
  eqRule_c (Ow lo hi) (Ow lo' hi') d [.string d.task, .slice x0 d.on.length y0, .slice x1 d.ins.length y1, .slice x2 d.envs.length y2, .bool d.keep] [.string d.task, .slice p0 d.on.length q0, .slice p1 d.ins.length q1, .slice p2 d.envs.length q2, .bool d.keep] w (liesRule_plain hd.1) (liesRule_plain hd'.1) (fun b hb => Nat.lt_of_lt_of_le hb.2 hd.2) (fun b hb => Nat.lt_of_lt_of_le hb.2 hd'.2) hw

set_option maxHeartbeats 1000000 in
set_option maxRecDepth 100000 in
theorem markRuleL (lo hi : Nat) (d : RuleD) (x0 : Option Addr) (y0 : Nat) (x1 : Option Addr) (y1 : Nat) (x2 : Option Addr) (y2 : Nat) (w : World) (hd : RuleR w lo hi [.string d.task, .slice x0 d.on.length y0, .slice x1 d.ins.length y1, .slice x2 d.envs.length y2, .bool d.keep] d) (hw : wtRule d ≤ 1048576) :
    Calls Try.prog 30 #[.agg #[.string d.task, .slice x0 d.on.length y0, .slice x1 d.ins.length y1, .slice x2 d.envs.length y2, .bool d.keep], .int .i64 1] w fun e w' => ∃ q : Nat, e = .returned (.int .i64 (q : Int)) ∧ Chg (Ow lo hi) w w' := by
  exact markRuleQ_c lo hi _ _ _ d w hd.1 hd.2 hw

set_option maxHeartbeats 1000000 in
set_option maxRecDepth 100000 in
theorem eqValR (lo hi lo' hi' : Nat) (d : RuleD) (n : Nat) (c : Option Addr) (g : Nat) (u : Option Addr) (v : Nat) (n' : Nat) (c' : Option Addr) (g' : Nat) (u' : Option Addr) (v' : Nat) (w : World) (h : ValRr w lo hi (.slice c n g) (.slice u n v) d) (h' : ValRr w lo' hi' (.slice c' n' g') (.slice u' n' v') d) (hw : wtRule d ≤ 1048576) :
    Calls Try.prog 28 #[.agg #[.int .i64 5, .int .i64 0, .string ⟨#[]⟩, .slice c n g, .slice u n v], .agg #[.int .i64 5, .int .i64 0, .string ⟨#[]⟩, .slice c' n' g', .slice u' n' v']] w fun e w' => e = .returned (.bool true) ∧ Below w.heap.size w w' :=
  eqVal_allW (ruleT d) _ _ _ _ w h.1.liesR h'.1.liesR h.1.low h'.1.low (wt_rule d hw)

set_option maxHeartbeats 1000000 in
set_option maxRecDepth 100000 in
theorem markValR (lo hi : Nat) (d : RuleD) (n : Nat) (c : Option Addr) (g : Nat) (u : Option Addr) (v : Nat) (w : World) (h : ValRr w lo hi (.slice c n g) (.slice u n v) d) (hw : wtRule d ≤ 1048576) :
    Calls Try.prog 31 #[.agg #[.int .i64 5, .int .i64 0, .string ⟨#[]⟩, .slice c n g, .slice u n v], .int .i64 1] w fun e w' => e = .returned (.int .i64 ((1 + cntL (ruleKids d) + 4 : Nat) : Int)) ∧ (∃ D : Nat → Prop, MarkV w' D 1 (.slice c n g) (.slice u n v) (ruleKids d) 4 ∧ ∀ b, D b → lo ≤ b ∧ b < hi) ∧ Chg (Ow lo hi) w w' := by
  obtain ⟨B, K, ho, hs⟩ := h.1.ownVR
  refine (markVal_c 5 0 ⟨#[]⟩ (.slice c n g) (.slice u n v) (ruleKids d) 4 1 B K w ho (fun b hb => h.1.low b (hs b hb)) (Nat.le_refl _) (cnt_rule d hw)).mono ?_
  rintro e w' ⟨he, m, ch⟩
  exact ⟨he, ⟨_, m, hs⟩, ch.mono hs⟩

set_option maxHeartbeats 1000000 in
set_option maxRecDepth 100000 in
theorem heldValR (D : Nat → Prop) (d : RuleD) (n : Nat) (c : Option Addr) (g : Nat) (u : Option Addr) (v : Nat) (w : World) (h : MarkV w D 1 (.slice c n g) (.slice u n v) (ruleKids d) 4) (hD : ∀ b, D b → b < w.heap.size) (hw : wtRule d ≤ 1048576) :
    Calls Try.prog 32 #[.agg #[.int .i64 5, .int .i64 0, .string ⟨#[]⟩, .slice c n g, .slice u n v], .int .i64 1] w fun e w' => e = .returned (.int .i64 ((1 + cntL (ruleKids d) + 4 : Nat) : Int)) ∧ Below w.heap.size w w' :=
  heldVal_c 5 0 ⟨#[]⟩ (.slice c n g) (.slice u n v) (ruleKids d) 4 1 D w h hD (Nat.le_refl _) (cnt_rule d hw)
end Go.Proofs.Ytiadcebolcdhbaa

/-! The law on RuleVal, walked: both answers are one tree, each in memory of its own; nothing is written into the argument, and the answer owns its memory; condition: what comes in lies in memory. -/
namespace Go.Proofs.Ytiadcebolcdhbaa
open Go.RowKit
set_option linter.unusedSimpArgs false
set_option linter.unusedVariables false

theorem cells5Q {w : World} {g : Nat} {a b c d e : Value} {t : TypeId} (h : w.heap[g]? = some (.cells #[a, b, c, d, e] t (0, 0))) : w.cell? ⟨g, 0, none⟩ = some a ∧ w.cell? ⟨g, 1, none⟩ = some b ∧ w.cell? ⟨g, 2, none⟩ = some c ∧ w.cell? ⟨g, 3, none⟩ = some d ∧ w.cell? ⟨g, 4, none⟩ = some e := by
  have h0 := vblk_cell h 0
  have h1 := vblk_cell h 1
  have h2 := vblk_cell h 2
  have h3 := vblk_cell h 3
  have h4 := vblk_cell h 4
  simp only [List.getElem?_toArray, List.getElem?_cons_succ, List.getElem?_cons_zero] at h0 h1 h2 h3 h4
  exact ⟨h0, h1, h2, h3, h4⟩
theorem box_staysQ {w w' : World} {g : Nat} {o : Obj} (hb : w.heap[g]? = some o) (h : Below w.heap.size w w') : w'.heap[g]? = some o := (h.block g (Array.getElem?_eq_some_iff.1 hb).1).trans hb
theorem below_chgVQ {B : Nat} {S : Nat → Prop} {w W W' : World} (h : Below B w W) (k : Chg S W W') (hs : ∀ b, S b → B ≤ b) (hB : B ≤ W.heap.size) : Below B w W' :=
  ⟨k.os.trans h.os, k.tape.trans h.tape, k.output.trans h.output, Nat.le_trans h.size k.size, fun b hb => (k.block b (Nat.lt_of_lt_of_le hb hB) (fun hS => by have := hs b hS; omega)).trans (h.block b hb)⟩
/-- The law's memory: the boxes of the argument, of the first answer, of what was handed in and of the second answer, and what these refer to. -/
structure StVr (N1 N4 N5 N6 l4 h4 l5 h5 l6 h6 : Nat) (O1 O4 O5 O6 : Obj) (c4 u4 c6 u6 : Value) (cs : List Value) (d : RuleD) (W : World) : Prop where
  b1 : W.heap[N1]? = some O1
  b4 : W.heap[N4]? = some O4
  b5 : W.heap[N5]? = some O5
  b6 : W.heap[N6]? = some O6
  v4 : ValRr W l4 h4 c4 u4 d
  p5 : RuleR W l5 h5 cs d
  v6 : ValRr W l6 h6 c6 u6 d
theorem StVr.below {N1 N4 N5 N6 l4 h4 l5 h5 l6 h6 : Nat} {O1 O4 O5 O6 : Obj} {c4 u4 c6 u6 : Value} {cs : List Value} {d : RuleD} {W W' : World} (h : StVr N1 N4 N5 N6 l4 h4 l5 h5 l6 h6 O1 O4 O5 O6 c4 u4 c6 u6 cs d W) (k : Below W.heap.size W W') : StVr N1 N4 N5 N6 l4 h4 l5 h5 l6 h6 O1 O4 O5 O6 c4 u4 c6 u6 cs d W' :=
  ⟨box_staysQ h.b1 k, box_staysQ h.b4 k, box_staysQ h.b5 k, box_staysQ h.b6 k, h.v4.below k, h.p5.below k, h.v6.below k⟩

set_option maxHeartbeats 8000000 in
set_option maxRecDepth 100000 in
theorem ruleVal_walk (b0 : List Value) (d : RuleD) (w : World) (r0 : shRule.lies (· < w.heap.size) w b0 d) :
    Calls Try.prog 6 #[.agg b0.toArray] w fun e w' => e = .returned (.bool true) ∧ Below w.heap.size w w' := by
  obtain ⟨x0, y0, x1, y1, x2, y2, rfl⟩ := rule_cells r0
  have hin : ∀ w1, Below w.heap.size w w1 → shRule.lies (· < w.heap.size) w1 [.string d.task, .slice x0 d.on.length y0, .slice x1 d.ins.length y1, .slice x2 d.envs.length y2, .bool d.keep] d := fun w1 h => shRule.keep (Kp.of h (fun b h => h)) r0
  have hbx : Below w.heap.size w (w.alloc (.cells #[.string d.task, .slice x0 d.on.length y0, .slice x1 d.ins.length y1, .slice x2 d.envs.length y2, .bool d.keep] 46 (0, 0))) := (Below.refl _ _).alloc (Nat.le_refl _) _
  have hA0 : (w.alloc (.cells #[.string d.task, .slice x0 d.on.length y0, .slice x1 d.ins.length y1, .slice x2 d.envs.length y2, .bool d.keep] 46 (0, 0))).heap[w.heap.size]? = some (.cells #[.string d.task, .slice x0 d.on.length y0, .slice x1 d.ins.length y1, .slice x2 d.envs.length y2, .bool d.keep] 46 (0, 0)) := vheap_new _ _
  have HZ : Hid (∀ w1, Below w.heap.size w w1 → Calls Try.prog 24 #[.agg #[.string d.task, .slice x0 d.on.length y0, .slice x1 d.ins.length y1, .slice x2 d.envs.length y2, .bool d.keep], .int .i64 1048576] w1 fun e w' => e = .returned (.int .i64 (leftW (wtRule d) 1048576)) ∧ Below w1.heap.size w1 w') := fun w1 h => szRule_c _ d _ _ (by omega) (by omega) w1 (hin w1 h) (fun b hb => Nat.lt_of_lt_of_le hb h.size)
  by_cases hbig : 1048576 < wtRule d
  · have e1 : leftW (wtRule d) 1048576 = -1 := leftW_bad (by omega)
    rw [e1] at HZ
    clear e1 hin r0
    go_enter Try.func6, Try.ntmps6
    go_wp2_with (go_at_call 24; refine (HZ.out _ hbx).mono ?_; rintro e w1 ⟨rfl, hb1⟩)
    go_ret
    exact ⟨rfl, hbx.trans (hb1.mono hbx.size)⟩
  have hwt : wtRule d ≤ 1048576 := by omega
  obtain ⟨p, hp⟩ : ∃ p, p = leftW (wtRule d) 1048576 := ⟨_, rfl⟩
  rw [← hp] at HZ
  have hp0 : 0 ≤ p := by rw [hp, leftW_good (by omega)]; omega
  clear hp
  have HT : Hid (∀ w1, Below w.heap.size w w1 → Calls Try.prog 26 #[.agg #[.string d.task, .slice x0 d.on.length y0, .slice x1 d.ins.length y1, .slice x2 d.envs.length y2, .bool d.keep]] w1 fun e w' => ∃ p0 q0 p1 q1 p2 q2, e = .returned (.agg #[.string d.task, .slice p0 d.on.length q0, .slice p1 d.ins.length q1, .slice p2 d.envs.length q2, .bool d.keep]) ∧ RuleR w' w1.heap.size w'.heap.size [.string d.task, .slice p0 d.on.length q0, .slice p1 d.ins.length q1, .slice p2 d.envs.length q2, .bool d.keep] d ∧ Below w1.heap.size w1 w') := fun w1 h => toRuleL _ d x0 y0 x1 y1 x2 y2 w1 (hin w1 h) (fun b hb => Nat.lt_of_lt_of_le hb h.size) hwt
  have HWT := hidden hwt
  obtain ⟨mq, hmq⟩ : ∃ mq, mq = 1 + cntL (ruleKids d) + 4 := ⟨_, rfl⟩
  have HMV : Hid (∀ w1 lo hi n c g u v, ValRr w1 lo hi (.slice c n g) (.slice u n v) d → Calls Try.prog 31 #[.agg #[.int .i64 5, .int .i64 0, .string ⟨#[]⟩, .slice c n g, .slice u n v], .int .i64 1] w1 fun e w' => e = .returned (.int .i64 (mq : Int)) ∧ (∃ D : Nat → Prop, MarkV w' D 1 (.slice c n g) (.slice u n v) (ruleKids d) 4 ∧ ∀ b, D b → lo ≤ b ∧ b < hi) ∧ Chg (Ow lo hi) w1 w') := fun w1 lo hi n c g u v h => by rw [hmq]; exact markValR lo hi d n c g u v w1 h hwt
  have HHV : Hid (∀ w1 (D : Nat → Prop) n c g u v, MarkV w1 D 1 (.slice c n g) (.slice u n v) (ruleKids d) 4 → (∀ b, D b → b < w1.heap.size) → Calls Try.prog 32 #[.agg #[.int .i64 5, .int .i64 0, .string ⟨#[]⟩, .slice c n g, .slice u n v], .int .i64 1] w1 fun e w' => e = .returned (.int .i64 (mq : Int)) ∧ Below w1.heap.size w1 w') := fun w1 D n c g u v h hD => by rw [hmq]; exact heldValR D d n c g u v w1 h hD hwt
  have hmq0 : ¬ (mq : Int) < 0 := by omega
  have hmax : ∀ {n : Nat}, True → True := fun _ => trivial
  clear hmq hin r0 hbig hwt hmax
  go_enter Try.func6, Try.ntmps6
  go_wp2_with fail
  go_at_call 24
  refine (HZ.out _ hbx).mono ?_
  rintro e w1 ⟨rfl, b1⟩
  have hA1 := box_staysQ hA0 b1
  have k1 := hbx.trans (b1.mono hbx.size)
  have m1 : w.heap.size < w1.heap.size := (Array.getElem?_eq_some_iff.1 hA1).1
  clear HZ b1 hA0 hbx
  obtain ⟨a0, a1, a2, a3, a4⟩ := cells5Q hA1
  go_wp2_with fail
  go_at_call 26
  refine (HT.out _ k1).mono ?_
  rintro e w2 ⟨p0, q0, p1, q1, p2, q2, rfl, P2, b2⟩
  have hA2 := box_staysQ hA1 b2
  have k2 := k1.trans (b2.mono k1.size)
  have m2 := b2.size
  clear hA1 b2 a0 a1 a2 a3 a4
  go_wp2_with fail
  go_at_call 25
  refine (specRuleL _ _ d _ _ _ _ _ _ w2 P2 HWT.out).mono ?_
  rintro e w3 ⟨n4, c4, g4, u4, v4, rfl, V3, b3⟩
  have hA3 := box_staysQ hA2 b3
  have k3 := k2.trans (b3.mono k2.size)
  have m3 := b3.size
  clear hA2 b3 P2
  have x3 : Below w3.heap.size w3 (w3.alloc (.cells #[.int .i64 5, .int .i64 0, .string ⟨#[]⟩, .slice c4 n4 g4, .slice u4 n4 v4] 50 (0, 0))) := (Below.refl _ _).alloc (Nat.le_refl _) _
  have h4 : (w3.alloc (.cells #[.int .i64 5, .int .i64 0, .string ⟨#[]⟩, .slice c4 n4 g4, .slice u4 n4 v4] 50 (0, 0))).heap[w3.heap.size]? = some (.cells #[.int .i64 5, .int .i64 0, .string ⟨#[]⟩, .slice c4 n4 g4, .slice u4 n4 v4] 50 (0, 0)) := vheap_new _ _
  have s3 : (w3.alloc (.cells #[.int .i64 5, .int .i64 0, .string ⟨#[]⟩, .slice c4 n4 g4, .slice u4 n4 v4] 50 (0, 0))).heap.size = w3.heap.size + 1 := by simp
  obtain ⟨a0, a1, a2, a3, a4⟩ := cells5Q (box_staysQ hA3 x3)
  go_wp2_with fail
  obtain ⟨wa, hwa⟩ : ∃ wa, wa = w3.alloc (.cells #[.int .i64 5, .int .i64 0, .string ⟨#[]⟩, .slice c4 n4 g4, .slice u4 n4 v4] 50 (0, 0)) := ⟨_, rfl⟩
  rw [← hwa] at x3 h4 s3 a0 a1 a2 a3 a4
  rw [← hwa]
  clear hwa
  have ka := k3.trans (x3.mono k3.size)
  have hAa := box_staysQ hA3 x3
  have Va := V3.below x3
  clear hA3 V3 x3
  go_at_call 26
  refine (HT.out _ ka).mono ?_
  rintro e w4 ⟨p0, q0, p1, q1, p2, q2, rfl, P4, b4⟩
  have k4 := ka.trans (b4.mono ka.size)
  have hA4 := box_staysQ hAa b4
  have h44 := box_staysQ h4 b4
  have V4 := Va.below b4
  have m4 := b4.size
  clear hAa h4 Va b4 a0 a1 a2 a3 a4
  have x4 : Below w4.heap.size w4 (w4.alloc (.cells #[.string d.task, .slice p0 d.on.length q0, .slice p1 d.ins.length q1, .slice p2 d.envs.length q2, .bool d.keep] 52 (0, 0))) := (Below.refl _ _).alloc (Nat.le_refl _) _
  have h5 : (w4.alloc (.cells #[.string d.task, .slice p0 d.on.length q0, .slice p1 d.ins.length q1, .slice p2 d.envs.length q2, .bool d.keep] 52 (0, 0))).heap[w4.heap.size]? = some (.cells #[.string d.task, .slice p0 d.on.length q0, .slice p1 d.ins.length q1, .slice p2 d.envs.length q2, .bool d.keep] 52 (0, 0)) := vheap_new _ _
  have s4 : (w4.alloc (.cells #[.string d.task, .slice p0 d.on.length q0, .slice p1 d.ins.length q1, .slice p2 d.envs.length q2, .bool d.keep] 52 (0, 0))).heap.size = w4.heap.size + 1 := by simp
  go_wp2_with fail
  obtain ⟨wb, hwb⟩ : ∃ wb, wb = w4.alloc (.cells #[.string d.task, .slice p0 d.on.length q0, .slice p1 d.ins.length q1, .slice p2 d.envs.length q2, .bool d.keep] 52 (0, 0)) := ⟨_, rfl⟩
  rw [← hwb] at x4 h5 s4
  rw [← hwb]
  clear hwb
  have kb := k4.trans (x4.mono k4.size)
  have hAb := box_staysQ hA4 x4
  have h4b := box_staysQ h44 x4
  have Vb := V4.below x4
  have Pb := P4.below x4
  clear hA4 h44 V4 P4 x4
  go_at_call 27
  refine (implRuleL _ _ d _ _ _ _ _ _ wb Pb HWT.out).mono ?_
  rintro e w5 ⟨n6, c6, g6, u6, v6, rfl, W5, b5⟩
  have k5 := kb.trans (b5.mono kb.size)
  have hA5 := box_staysQ hAb b5
  have h45 := box_staysQ h4b b5
  have h55 := box_staysQ h5 b5
  have V5 := Vb.below b5
  have P5 := Pb.below b5
  have m5 := b5.size
  clear hAb h4b h5 Vb Pb b5
  have x5 : Below w5.heap.size w5 (w5.alloc (.cells #[.int .i64 5, .int .i64 0, .string ⟨#[]⟩, .slice c6 n6 g6, .slice u6 n6 v6] 50 (0, 0))) := (Below.refl _ _).alloc (Nat.le_refl _) _
  have h6 : (w5.alloc (.cells #[.int .i64 5, .int .i64 0, .string ⟨#[]⟩, .slice c6 n6 g6, .slice u6 n6 v6] 50 (0, 0))).heap[w5.heap.size]? = some (.cells #[.int .i64 5, .int .i64 0, .string ⟨#[]⟩, .slice c6 n6 g6, .slice u6 n6 v6] 50 (0, 0)) := vheap_new _ _
  have s5 : (w5.alloc (.cells #[.int .i64 5, .int .i64 0, .string ⟨#[]⟩, .slice c6 n6 g6, .slice u6 n6 v6] 50 (0, 0))).heap.size = w5.heap.size + 1 := by simp
  obtain ⟨f0, f1, f2, f3, f4⟩ := cells5Q (box_staysQ h45 x5)
  go_wp2_with fail
  obtain ⟨wc, hwc⟩ : ∃ wc, wc = w5.alloc (.cells #[.int .i64 5, .int .i64 0, .string ⟨#[]⟩, .slice c6 n6 g6, .slice u6 n6 v6] 50 (0, 0)) := ⟨_, rfl⟩
  rw [← hwc] at x5 h6 s5 f0 f1 f2 f3 f4
  rw [← hwc]
  clear hwc
  have kc := k5.trans (x5.mono k5.size)
  have st : StVr w.heap.size w3.heap.size w4.heap.size w5.heap.size w2.heap.size w3.heap.size wa.heap.size w4.heap.size wb.heap.size w5.heap.size (.cells #[.string d.task, .slice x0 d.on.length y0, .slice x1 d.ins.length y1, .slice x2 d.envs.length y2, .bool d.keep] 46 (0, 0)) (.cells #[.int .i64 5, .int .i64 0, .string ⟨#[]⟩, .slice c4 n4 g4, .slice u4 n4 v4] 50 (0, 0)) (.cells #[.string d.task, .slice p0 d.on.length q0, .slice p1 d.ins.length q1, .slice p2 d.envs.length q2, .bool d.keep] 52 (0, 0)) (.cells #[.int .i64 5, .int .i64 0, .string ⟨#[]⟩, .slice c6 n6 g6, .slice u6 n6 v6] 50 (0, 0)) (.slice c4 n4 g4) (.slice u4 n4 v4) (.slice c6 n6 g6) (.slice u6 n6 v6) [.string d.task, .slice p0 d.on.length q0, .slice p1 d.ins.length q1, .slice p2 d.envs.length q2, .bool d.keep] d wc := ⟨box_staysQ hA5 x5, box_staysQ h45 x5, box_staysQ h55 x5, h6, V5.below x5, P5.below x5, W5.below x5⟩
  clear hA5 h45 h55 h6 V5 P5 W5 x5
  go_at_call 28
  refine (eqValR _ _ _ _ d _ _ _ _ _ _ _ _ _ _ wc st.v6 st.v4 HWT.out).mono ?_
  rintro e w6 ⟨rfl, b6⟩
  have k6 := kc.trans (b6.mono kc.size)
  have st6 := st.below b6
  have m6 := b6.size
  clear st b6 f0 f1 f2 f3 f4
  have h0 : Below w6.heap.size w6 w6.drew := (Below.refl _ _).drew
  have KEEP : Hid (∀ W, Below w6.heap.size w6 W → W.cell? ⟨w4.heap.size, 0, none⟩ = some (.string d.task) ∧ W.cell? ⟨w4.heap.size, 1, none⟩ = some (.slice p0 d.on.length q0) ∧ W.cell? ⟨w4.heap.size, 2, none⟩ = some (.slice p1 d.ins.length q1) ∧ W.cell? ⟨w4.heap.size, 3, none⟩ = some (.slice p2 d.envs.length q2) ∧ W.cell? ⟨w4.heap.size, 4, none⟩ = some (.bool d.keep) ∧ W.cell? ⟨w.heap.size, 0, none⟩ = some (.string d.task) ∧ W.cell? ⟨w.heap.size, 1, none⟩ = some (.slice x0 d.on.length y0) ∧ W.cell? ⟨w.heap.size, 2, none⟩ = some (.slice x1 d.ins.length y1) ∧ W.cell? ⟨w.heap.size, 3, none⟩ = some (.slice x2 d.envs.length y2) ∧ W.cell? ⟨w.heap.size, 4, none⟩ = some (.bool d.keep)) := fun W h => by
    have t := st6.below h
    obtain ⟨i0, i1, i2, i3, i4⟩ := cells5Q t.b5
    obtain ⟨j0, j1, j2, j3, j4⟩ := cells5Q t.b1
    exact ⟨i0, i1, i2, i3, i4, j0, j1, j2, j3, j4⟩
  go_wp2_with fail
  refine wp_region_held_drew (S := (fun W => W.cell? ⟨w4.heap.size, 0, none⟩ = some (.string d.task) ∧ W.cell? ⟨w4.heap.size, 1, none⟩ = some (.slice p0 d.on.length q0) ∧ W.cell? ⟨w4.heap.size, 2, none⟩ = some (.slice p1 d.ins.length q1) ∧ W.cell? ⟨w4.heap.size, 3, none⟩ = some (.slice p2 d.envs.length q2) ∧ W.cell? ⟨w4.heap.size, 4, none⟩ = some (.bool d.keep) ∧ W.cell? ⟨w.heap.size, 0, none⟩ = some (.string d.task) ∧ W.cell? ⟨w.heap.size, 1, none⟩ = some (.slice x0 d.on.length y0) ∧ W.cell? ⟨w.heap.size, 2, none⟩ = some (.slice x1 d.ins.length y1) ∧ W.cell? ⟨w.heap.size, 3, none⟩ = some (.slice x2 d.envs.length y2) ∧ W.cell? ⟨w.heap.size, 4, none⟩ = some (.bool d.keep))) (by kernel_rfl) ?SR10 (fun hHeld => ?_)
  case SR10 => (first | (with_reducible exact KEEP.out _ h2) | (with_reducible exact KEEP.out _ h1) | (with_reducible exact KEEP.out _ h0))
  refine wpAnyH_take (i := 0) (oi := _) (v := ?vR10) rfl (by kernel_rfl) (by kernel_rfl) (by kernel_rfl) (fun _ _ _ h => h) (Or.inl ⟨by rfl, ?yR10⟩) hHeld ?_
  case yR10 => (intro w hSw; (try dsimp only at hSw); go_simp <;> with_reducible rfl)
  try simp only [Act.put, List.getElem_toArray, List.getElem_cons_zero, List.getElem_cons_succ, List.setIfInBounds_toArray, List.set_cons_zero, List.set_cons_succ]
  refine wpAnyH_take (i := 1) (oi := _) (v := ?vR11) rfl (by kernel_rfl) (by kernel_rfl) (by kernel_rfl) (fun _ _ _ h => h) (Or.inl ⟨by rfl, ?yR11⟩) hHeld ?_
  case yR11 => (intro w hSw; (try dsimp only at hSw); go_simp <;> with_reducible rfl)
  try simp only [Act.put, List.getElem_toArray, List.getElem_cons_zero, List.getElem_cons_succ, List.setIfInBounds_toArray, List.set_cons_zero, List.set_cons_succ]
  refine wpAnyH_ready (rs := [2]) (by kernel_rfl) (by simp) ?_
  refine AllReadyH.cons rfl (fun K hK => ?_) AllReadyH.nil
  go_simp
  go_wp2_with (go_at_call 26; refine (HT.out _ (k6.trans (h0.mono k6.size))).mono ?_; rintro e w7 ⟨s0, t0, s1, t1, s2, t2, rfl, P7, b7⟩; have h1 : Below w6.heap.size w6 w7 := h0.trans (b7.mono h0.size))
  clear hHeld
  refine hK.out _ _ ?SR13 (fun hHeld => ?_)
  case SR13 => ((try dsimp only); first | (with_reducible exact KEEP.out _ h2) | (with_reducible exact KEEP.out _ h1) | (with_reducible exact KEEP.out _ h0))
  clear hK K
  refine wpAnyH_ready (rs := [3]) (by kernel_rfl) (by simp) ?_
  refine AllReadyH.cons rfl (fun K hK => ?_) AllReadyH.nil
  go_simp
  go_wp2_with (go_at_call 29; refine (eqRuleL _ _ _ _ d _ _ _ _ _ _ _ _ _ _ _ _ w7 (st6.below h1).p5 P7 HWT.out).mono ?_; rintro e w8 ⟨rfl, b8⟩; have h2 : Below w6.heap.size w6 w8 := h1.trans (b8.mono h1.size))
  clear hHeld
  refine hK.out _ _ ?SR14 (fun hHeld => ?_)
  case SR14 => ((try dsimp only); first | (with_reducible exact KEEP.out _ h2) | (with_reducible exact KEEP.out _ h1) | (with_reducible exact KEEP.out _ h0))
  clear hK K
  refine wpAnyH_take (i := 4) (oi := _) (v := ?vR14) rfl (by kernel_rfl) (by kernel_rfl) (by kernel_rfl) (fun _ _ _ h => h) (Or.inl ⟨by rfl, ?yR14⟩) hHeld ?_
  case yR14 => (intro w hSw; (try dsimp only at hSw); go_simp <;> with_reducible rfl)
  try simp only [Act.put, List.getElem_toArray, List.getElem_cons_zero, List.getElem_cons_succ, List.setIfInBounds_toArray, List.set_cons_zero, List.set_cons_succ]
  refine wpAnyH_done (by kernel_rfl) ?_ _
  have k8 := k6.trans (h2.mono k6.size)
  have st8 := st6.below h2
  have m8 := h2.size
  clear st6 KEEP h0 h1 h2 P7 b7 b8 hHeld
  obtain ⟨i0, i1, i2, i3, i4⟩ := cells5Q st8.b5
  go_wp2_with fail
  go_at_call 30
  refine (markRuleL _ _ d _ _ _ _ _ _ w8 st8.p5 HWT.out).mono ?_
  rintro e w9 ⟨qq, rfl, ch9⟩
  have k9 := below_chgVQ k8 ch9 (fun b hb => by have := hb.1; omega) k8.size
  have b19 := (ch9.block _ (Array.getElem?_eq_some_iff.1 st8.b1).1 (fun h => by have := h.1; omega)).trans st8.b1
  have b49 := (ch9.block _ (Array.getElem?_eq_some_iff.1 st8.b4).1 (fun h => by have := h.1; omega)).trans st8.b4
  have b69 := (ch9.block _ (Array.getElem?_eq_some_iff.1 st8.b6).1 (fun h => by have := h.2; omega)).trans st8.b6
  have v49 := st8.v4.chg ch9 (fun b _ hb h => by have := h.1; omega)
  have v69 := st8.v6.chg ch9 (fun b hb _ h => by have := h.2; omega)
  have m9 := ch9.size
  have hq0 : ¬ (qq : Int) < 0 := by omega
  clear st8 ch9 i0 i1 i2 i3 i4
  obtain ⟨f0, f1, f2, f3, f4⟩ := cells5Q b49
  obtain ⟨i0, i1, i2, i3, i4⟩ := cells5Q b69
  go_wp2_with fail
  go_at_call 28
  refine (eqValR _ _ _ _ d _ _ _ _ _ _ _ _ _ _ w9 v69 v49 HWT.out).mono ?_
  rintro e w10 ⟨rfl, b10⟩
  have k10 := k9.trans (b10.mono k9.size)
  have b1a := box_staysQ b19 b10
  have b4a := box_staysQ b49 b10
  have b6a := box_staysQ b69 b10
  have v4a := v49.below b10
  have v6a := v69.below b10
  have m10 := b10.size
  clear b19 b49 b69 v49 v69 b10 f0 f1 f2 f3 f4 i0 i1 i2 i3 i4
  obtain ⟨i0, i1, i2, i3, i4⟩ := cells5Q b6a
  go_wp2_with fail
  go_at_call 31
  refine (HMV.out w10 _ _ _ _ _ _ _ v6a).mono ?_
  rintro e w11 ⟨rfl, ⟨DM, mk11, hDM⟩, ch11⟩
  have k11 := below_chgVQ k10 ch11 (fun b hb => by have := hb.1; omega) k10.size
  have b1b := (ch11.block _ (Array.getElem?_eq_some_iff.1 b1a).1 (fun h => by have := h.1; omega)).trans b1a
  have b4b := (ch11.block _ (Array.getElem?_eq_some_iff.1 b4a).1 (fun h => by have := h.1; omega)).trans b4a
  have b6b := (ch11.block _ (Array.getElem?_eq_some_iff.1 b6a).1 (fun h => by have := h.2; omega)).trans b6a
  have v4b := v4a.chg ch11 (fun b _ hb h => by have := h.1; omega)
  have m11 := ch11.size
  clear b1a b4a b6a v4a v6a ch11 i0 i1 i2 i3 i4 HMV
  obtain ⟨i0, i1, i2, i3, i4⟩ := cells5Q b6b
  go_wp2_with fail
  go_at_call 32
  refine (HHV.out w11 DM _ _ _ _ _ mk11 (fun b hb => by have := hDM b hb; omega)).mono ?_
  rintro e w12 ⟨rfl, b12⟩
  have k12 := k11.trans (b12.mono k11.size)
  have b1c := box_staysQ b1b b12
  have b4c := box_staysQ b4b b12
  have b6c := box_staysQ b6b b12
  have v4c := v4b.below b12
  have mk12 := mk11.keep (Kp.of b12 (fun b hb => by have := hDM b hb; omega))
  have m12 := b12.size
  clear b1b b4b b6b v4b mk11 b12 i0 i1 i2 i3 i4
  obtain ⟨a0, a1, a2, a3, a4⟩ := cells5Q b1c
  go_wp2_with fail
  go_at_call 26
  refine (HT.out _ k12).mono ?_
  rintro e w13 ⟨s0, t0, s1, t1, s2, t2, rfl, P13, b13⟩
  have k13 := k12.trans (b13.mono k12.size)
  have b4d := box_staysQ b4c b13
  have b6d := box_staysQ b6c b13
  have v4d := v4c.below b13
  have mk13 := mk12.keep (Kp.of b13 (fun b hb => by have := hDM b hb; omega))
  have m13 := b13.size
  clear b1c b4c b6c v4c mk12 b13 a0 a1 a2 a3 a4 HT
  go_wp2_with fail
  go_at_call 27
  refine (implRuleL _ _ d _ _ _ _ _ _ w13 P13 HWT.out).mono ?_
  rintro e w14 ⟨nA, cA, gA, uA, vA, rfl, V14, b14⟩
  have k14 := k13.trans (b14.mono k13.size)
  have b4e := box_staysQ b4d b14
  have b6e := box_staysQ b6d b14
  have v4e := v4d.below b14
  have mk14 := mk13.keep (Kp.of b14 (fun b hb => by have := hDM b hb; omega))
  have m14 := b14.size
  clear b4d b6d v4d mk13 b14 P13
  have x14 : Below w14.heap.size w14 (w14.alloc (.cells #[.int .i64 5, .int .i64 0, .string ⟨#[]⟩, .slice cA nA gA, .slice uA nA vA] 50 (0, 0))) := (Below.refl _ _).alloc (Nat.le_refl _) _
  obtain ⟨f0, f1, f2, f3, f4⟩ := cells5Q (box_staysQ b4e x14)
  go_wp2_with fail
  obtain ⟨wd, hwd⟩ : ∃ wd, wd = w14.alloc (.cells #[.int .i64 5, .int .i64 0, .string ⟨#[]⟩, .slice cA nA gA, .slice uA nA vA] 50 (0, 0)) := ⟨_, rfl⟩
  rw [← hwd] at x14 f0 f1 f2 f3 f4
  rw [← hwd]
  clear hwd
  have kd := k14.trans (x14.mono k14.size)
  have b6f := box_staysQ b6e x14
  have v4f := v4e.below x14
  have V15 := V14.below x14
  have mk15 := mk14.keep (Kp.of x14 (fun b hb => by have := hDM b hb; omega))
  have m15 := x14.size
  clear b4e b6e v4e mk14 V14 x14
  go_at_call 28
  refine (eqValR _ _ _ _ d _ _ _ _ _ _ _ _ _ _ wd V15 v4f HWT.out).mono ?_
  rintro e w16 ⟨rfl, b16⟩
  have k16 := kd.trans (b16.mono kd.size)
  have b6g := box_staysQ b6f b16
  have mk16 := mk15.keep (Kp.of b16 (fun b hb => by have := hDM b hb; omega))
  have m16 := b16.size
  clear b6f v4f V15 mk15 b16 f0 f1 f2 f3 f4
  obtain ⟨i0, i1, i2, i3, i4⟩ := cells5Q b6g
  go_wp2_with fail
  go_at_call 32
  refine (HHV.out w16 DM _ _ _ _ _ mk16 (fun b hb => by have := hDM b hb; omega)).mono ?_
  rintro e w17 ⟨rfl, b17⟩
  have k17 := k16.trans (b17.mono k16.size)
  go_wp2_with fail
  go_ret
  exact ⟨rfl, k17⟩
end Go.Proofs.Ytiadcebolcdhbaa

/-! What comes in as a version of the laws' own type: three numbers, and a list of texts that lies in memory: no condition. -/
namespace Go.Proofs.Ytiadcebolcdhbaa
open Go.ChangeShapes Go.WideShapes Go.ChangeAt Go.RowKit
set_option linter.unusedSimpArgs false
set_option linter.unusedVariables false

theorem vaddr_add (b off i : Nat) : ((⟨b, off, none⟩ : Addr).add i) = ⟨b, off + i, none⟩ := by unfold Addr.add; split <;> simp_all
theorem list4 {cs : List Value} (h : cs.length = 4) : ∃ c0 c1 c2 c3, cs = [c0, c1, c2, c3] := by
  match cs, h with
  | [c0, c1, c2, c3], _ => exact ⟨c0, c1, c2, c3, rfl⟩

theorem vreads_open {H : Type} {enc : TypeId × Value → H} {w : World} {spare : Nat → Bool} {held : Bool} {fuel : Nat} {c : Value} {x : DataW H × List MemPlace}
    (hf : DataW.trod enc Try.prog w 0 spare held fuel 26 [c] = some x) : ∃ ks, Reads w c (strsV ks) ∧ saneP ks := by
  rcases open_strings Try.underlying26 Try.underlying9 (by kernel_rfl) hf with ⟨hcs, _⟩ | ⟨x, l, cap, zs, hcs, _, hl, hm, hz, _, hcell, hwz⟩
  · simp at hcs
    subst hcs
    exact ⟨[], ⟨none, 0, rfl, Nat.le_refl _, .inl rfl⟩, by simp [saneP]⟩
  · simp at hcs
    subst hcs
    have hz' : l ≤ zs.length := by rw [hz]; split <;> omega
    have hlen : (zs.take l).length = l := by simp; omega
    refine ⟨zs.take l, ?_, by rw [hlen]; omega, fun s hs => hwz s (List.mem_of_mem_take hs)⟩
    by_cases h0 : l = 0
    · subst h0
      exact ⟨some x, cap, by simp [strsV], by simp [strsV], .inl (by simp [strsV])⟩
    · obtain ⟨b, off, spot⟩ := x
      have hc0 := hcell 0 (by omega)
      have hspot : spot = none := by simpa [Addr.add] using World.cell?_spot hc0
      subst hspot
      refine ⟨some ⟨b, off, none⟩, cap, by simp [strsV]; omega, by simp [strsV]; omega, .inr ⟨b, off, rfl, ?_, fun i hi => ?_⟩⟩
      · rw [vaddr_add] at hc0; exact World.block_lt_of_cell? w _ hc0
      · have hi' : i < l := by simp [strsV] at hi; omega
        have := hcell i (by omega)
        rw [vaddr_add] at this
        rw [this]
        simp [strsV, List.getD_eq_getElem?_getD, show i < zs.length by omega]

end Go.Proofs.Ytiadcebolcdhbaa

/-! What comes in as packs of the laws' own type: packs that lie in memory: no condition. -/
namespace Go.Proofs.Ytiadcebolcdhbaa
open Go.ChangeShapes Go.WideShapes Go.ChangeAt Go.RowKit
set_option linter.unusedSimpArgs false
set_option linter.unusedVariables false

theorem olist2 {cs : List Value} (h : cs.length = 2) : ∃ c0 c1, cs = [c0, c1] := by
  match cs, h with
  | [c0, c1], _ => exact ⟨c0, c1, rfl⟩
theorem olist4 {cs : List Value} (h : cs.length = 4) : ∃ c0 c1 c2 c3, cs = [c0, c1, c2, c3] := by
  match cs, h with
  | [c0, c1, c2, c3], _ => exact ⟨c0, c1, c2, c3, rfl⟩
theorem olist_of {α : Type} {P : Nat → α → Prop} : ∀ n, (∀ i, i < n → ∃ a, P i a) → ∃ l : List α, l.length = n ∧ ∀ i (h : i < l.length), P i l[i]
  | 0, _ => ⟨[], rfl, fun i h => by simp at h⟩
  | n + 1, h => by
    obtain ⟨l, hl, hp⟩ := olist_of n (fun i hi => h i (by omega))
    obtain ⟨a, ha⟩ := h n (by omega)
    refine ⟨l ++ [a], by simp [hl], fun i hi => ?_⟩
    by_cases h1 : i < l.length
    · rw [List.getElem_append_left h1]; exact hp i h1
    · have : i = n := by simp at hi; omega
      subst this
      rw [List.getElem_append_right (by omega)]
      simpa using ha

/-- A row that comes in, out of what its elements are. -/
theorem rows_of_trod {α H : Type} {P : Program} {enc : TypeId × Value → H} {w : World} {spare : Nat → Bool} {held : Bool} (sh : Sh α) {ts te : TypeId} (hu : P.underlying ts = some (.slice te)) (hn : P.cellsOf te = sh.n) (hpos : 0 < sh.n)
    (helem : ∀ n cs y, DataW.trod enc P w 0 spare held n te cs = some y → ∃ a, sh.lies (· < w.heap.size) w cs a) (fuel : Nat) (c : Value) (x : DataW H × List MemPlace)
    (h : DataW.trod enc P w 0 spare held fuel ts [c] = some x) : ∃ xs, RowIn sh (· < w.heap.size) w c xs := by
  rcases DataW.trod_slice hu h with ⟨hcs, _⟩ | ⟨a, len, cap, elems, rest, n', hn', hcs, _, _, hl, hcm, hel, hat, _, _⟩
  · simp at hcs
    subst hcs
    exact ⟨[], none, 0, rfl, by simp, Nat.le_refl _, .inl rfl⟩
  · simp at hcs
    subst hcs
    rw [hn] at hat
    have heach : ∀ i, i < len → ∃ q : α, ∃ cs, cs.length = sh.n ∧ sh.lies (· < w.heap.size) w cs q ∧ ∀ j (hj : j < cs.length), w.cell? ((a.add (i * sh.n)).add j) = some cs[j] := fun i hi => by
      have hb := hat i hi
      rw [List.getElem?_eq_getElem (by omega)] at hb
      obtain ⟨cs', hc1, hc2⟩ := Option.bind_eq_some_iff.1 hb
      obtain ⟨q, hq⟩ := helem _ cs' _ hc2
      obtain ⟨hb1, hl5, hcell⟩ := World.cells?_some hc1
      exact ⟨q, cs', hl5, hq, fun j hj => (hcell j (by omega)).trans (List.getElem?_eq_getElem hj)⟩
    obtain ⟨q, hq, hqp⟩ := olist_of len heach
    refine ⟨q, some a, cap, by rw [hq], by rw [hq]; omega, by rw [hq]; omega, ?_⟩
    by_cases h0 : len = 0
    · left; exact List.eq_nil_of_length_eq_zero (by omega)
    · right
      obtain ⟨b, off, spot⟩ := a
      obtain ⟨cs0, hl0, _, hc0⟩ := hqp 0 (by omega)
      have hc0 := hc0 0 (by omega)
      have hspot : spot = none := by
        have := World.cell?_spot hc0
        simpa [Addr.add] using this
      subst hspot
      refine ⟨b, off, rfl, ?_, fun i hi => ?_⟩
      · rw [vaddr_add, vaddr_add] at hc0; exact World.block_lt_of_cell? w _ hc0
      · obtain ⟨cs, h1, h2, h3⟩ := hqp i hi
        refine ⟨cs, h2, fun j hj => ?_⟩
        have := h3 j hj
        rw [vaddr_add, vaddr_add] at this
        exact this

end Go.Proofs.Ytiadcebolcdhbaa

/-! What comes in of the laws' own type lies in memory: no condition. -/
namespace Go.Proofs.Ytiadcebolcdhbaa
open Go.ChangeShapes Go.WideShapes Go.ChangeAt Go.RowKit
set_option linter.unusedSimpArgs false
set_option linter.unusedVariables false

theorem olist5 {cs : List Value} (h : cs.length = 5) : ∃ c0 c1 c2 c3 c4, cs = [c0, c1, c2, c3, c4] := by
  match cs, h with
  | [c0, c1, c2, c3, c4], _ => exact ⟨c0, c1, c2, c3, c4, rfl⟩
set_option maxRecDepth 100000 in
theorem rule_of_trod {H : Type} {enc : TypeId × Value → H} {w : World} {spare : Nat → Bool} {held : Bool} (fuel : Nat) (cs : List Value) (x : DataW H × List MemPlace)
    (h : DataW.trod enc Try.prog w 0 spare held fuel 46 cs = some x) : ∃ d : RuleD, shRule.lies (· < w.heap.size) w cs d := by
  obtain ⟨xs, n, rfl, _, hlen, hxl, hf⟩ := DataW.trod_struct Try.underlying46 h
  have hN : Try.prog.cellsOf 46 = 5 := by kernel_rfl
  obtain ⟨c0, c1, c2, c3, c4, rfl⟩ := olist5 (hlen.trans hN)
  have hx : ∀ i, i < 5 → ∃ y, xs[i]? = some y := fun i hi => ⟨xs[i]'(by rw [hxl]; exact hi), by rw [List.getElem?_eq_getElem]⟩
  obtain ⟨y0, e0⟩ := hx 0 (by omega)
  have k0 : Try.prog.cellsOf 9 = 1 := by kernel_rfl
  have f0 : DataW.trod enc Try.prog w 0 spare held n 9 [c0] = some y0 := by
    have h : DataW.trod enc Try.prog w 0 spare held n 9 ((([c0, c1, c2, c3, c4] : List Value).drop 0).take (Try.prog.cellsOf 9)) = some y0 := (hf 0 _ rfl).trans e0
    rw [k0] at h; exact h
  obtain ⟨y1, e1⟩ := hx 1 (by omega)
  have k1 : Try.prog.cellsOf 26 = 1 := by kernel_rfl
  have f1 : DataW.trod enc Try.prog w 0 spare held n 26 [c1] = some y1 := by
    have h : DataW.trod enc Try.prog w 0 spare held n 26 ((([c0, c1, c2, c3, c4] : List Value).drop 1).take (Try.prog.cellsOf 26)) = some y1 := (hf 1 _ rfl).trans e1
    rw [k1] at h; exact h
  obtain ⟨y2, e2⟩ := hx 2 (by omega)
  have k2 : Try.prog.cellsOf 26 = 1 := by kernel_rfl
  have f2 : DataW.trod enc Try.prog w 0 spare held n 26 [c2] = some y2 := by
    have h : DataW.trod enc Try.prog w 0 spare held n 26 ((([c0, c1, c2, c3, c4] : List Value).drop 2).take (Try.prog.cellsOf 26)) = some y2 := (hf 2 _ rfl).trans e2
    rw [k2] at h; exact h
  obtain ⟨y3, e3⟩ := hx 3 (by omega)
  have k3 : Try.prog.cellsOf 26 = 1 := by kernel_rfl
  have f3 : DataW.trod enc Try.prog w 0 spare held n 26 [c3] = some y3 := by
    have h : DataW.trod enc Try.prog w 0 spare held n 26 ((([c0, c1, c2, c3, c4] : List Value).drop 3).take (Try.prog.cellsOf 26)) = some y3 := (hf 3 _ rfl).trans e3
    rw [k3] at h; exact h
  obtain ⟨y4, e4⟩ := hx 4 (by omega)
  have k4 : Try.prog.cellsOf 4 = 1 := by kernel_rfl
  have f4 : DataW.trod enc Try.prog w 0 spare held n 4 [c4] = some y4 := by
    have h : DataW.trod enc Try.prog w 0 spare held n 4 ((([c0, c1, c2, c3, c4] : List Value).drop 4).take (Try.prog.cellsOf 4)) = some y4 := (hf 4 _ rfl).trans e4
    rw [k4] at h; exact h
  obtain ⟨t0, ht0, _, hl0⟩ := DataW.trod_string Try.underlying9 f0
  simp at ht0
  subst ht0
  obtain ⟨t1, hr1, hs1⟩ := vreads_open f1
  obtain ⟨t2, hr2, hs2⟩ := vreads_open f2
  obtain ⟨t3, hr3, hs3⟩ := vreads_open f3
  obtain ⟨t4, ht4, _⟩ := DataW.trod_bool Try.underlying4 f4
  simp at ht4
  subst ht4
  exact ⟨⟨t0, t1, t2, t3, t4⟩, _, _, _, rfl, hl0, RdB.of hr1, hs1, RdB.of hr2, hs2, RdB.of hr3, hs3⟩
set_option maxRecDepth 100000 in
theorem rules_of_trod {H : Type} {enc : TypeId × Value → H} {w : World} {spare : Nat → Bool} {held : Bool} (fuel : Nat) (c : Value) (x : DataW H × List MemPlace)
    (h : DataW.trod enc Try.prog w 0 spare held fuel 38 [c] = some x) : ∃ xs, RowIn shRule (· < w.heap.size) w c xs :=
  rows_of_trod shRule Try.underlying38 (by kernel_rfl) (by decide) (fun n cs y hh => rule_of_trod n cs y hh) fuel c x h

end Go.Proofs.Ytiadcebolcdhbaa
