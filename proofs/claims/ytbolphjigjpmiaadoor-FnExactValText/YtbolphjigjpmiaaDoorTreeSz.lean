/-
  How much a value holds, as the law's own helper reckons it: a contract for every value that lies in memory.
-/
import Derived.Test.YtbolphjigjpmiaaDoorTree
namespace Go.Proofs.YtbolphjigjpmiaaDoor
open Go.RowKit
set_option linter.unusedSimpArgs false
set_option linter.unusedVariables false

set_option maxHeartbeats 1000000 in
set_option maxRecDepth 100000 in
theorem sizeStrsT_c (v : Value) (ss : List ByteArray) (w : World) (left : Int) (hl0 : 0 ≤ left) (hl1 : left ≤ 1048576) (hv : Reads w v (strsV ss)) (hn : ss.length ≤ maxLen) (hs : ∀ s ∈ ss, s.size ≤ maxLen) :
    Calls Tryd.prog 10 #[v, .int .i64 left] w fun e w' => e = .returned (.int .i64 (leftS ss left)) ∧ w = w' := by
  obtain ⟨a, cap, rfl, _, hc⟩ := reads_strs hv
  clear hv
  unfold maxLen at hn hs
  by_cases h0 : left < (ss.length : Int)
  · have hneg : left - (ss.length : Int) < 0 := by omega
    have e : leftS ss left = -1 := by rw [leftS, bulkS, if_neg (by omega)]
    rw [e]
    clear hc hs
    go_enter Tryd.func10, Tryd.ntmps10
    go_wp2
    go_ret
    exact ⟨rfl, rfl⟩
  · have hpos : ¬ (left - (ss.length : Int) < 0) := by omega
    rcases hc with rfl | ⟨b, off, rfl, hlt, hc⟩
    · go_enter Tryd.func10, Tryd.ntmps10
      go_wp2
      go_loop [1, 5] (fun vl vi => vl = .int .i64 left ∧ vi = .int .i64 0) (fun _ _ => 0)
      case atStart => exact ⟨rfl, rfl⟩
      case round =>
        obtain ⟨rfl, rfl⟩ := hrel
        go_wp2
        go_ret
        exact ⟨by rw [show leftS [] left = left by simp [leftS, bulkS, hl0]]; rfl, rfl⟩
    · go_enter Tryd.func10, Tryd.ntmps10
      go_wp2
      go_loop [1, 5] (fun vl vi => ∃ (k : Nat) (l : Int), k ≤ ss.length ∧ vi = .int .i64 (k : Int) ∧ vl = .int .i64 l ∧ 0 ≤ l ∧ l ≤ 1048576 ∧ Hid (l = left - (ss.length : Int) - (((ss.take k).map ByteArray.size).sum : Int))) (fun _ vi => ss.length - (intOf vi).toNat)
      case atStart => exact ⟨0, _, Nat.zero_le _, rfl, rfl, by omega, by omega, by show _ = _; simp⟩
      case round =>
        obtain ⟨k, l, hk, rfl, rfl, hq0, hq1, hl⟩ := hrel
        by_cases hlt' : k < ss.length
        · have hcx := hc k hlt'
          have hsk := hs ss[k] (List.getElem_mem hlt')
          have hsum := sum_take_succ ss k hlt'
          obtain ⟨t, ht⟩ : ∃ t, t = ss[k] := ⟨_, rfl⟩
          rw [← ht] at hcx hsk hsum
          have HS : Hid (((ss.take (k + 1)).map ByteArray.size).sum = ((ss.take k).map ByteArray.size).sum + t.size) := hsum
          have hki : (k : Int) < (ss.length : Int) := by omega
          clear hc hs ht hsum
          by_cases hneg : l - (t.size : Int) < 0
          · have e : leftS ss left = -1 := by
              have h1 := HS.out; have h2 := hl.out; have h3 := sum_take_le ss (k + 1)
              rw [leftS, bulkS, if_neg (by omega)]
            have HE : Hid (leftS ss left = -1) := e
            clear e
            go_wp2
            go_ret
            exact ⟨by rw [HE.out]; rfl, rfl⟩
          · go_wp2
            go_round
            case rel => exact ⟨k + 1, l - (t.size : Int), by omega, by go_num, rfl, by omega, by omega, (by show _ = _; rw [HS.out, hl.out]; omega)⟩
            case measure => simp [intOf]; omega
        · have he : k = ss.length := by omega
          subst he
          have e : leftS ss left = l := by
            have h2 := hl.out
            rw [List.take_length] at h2
            rw [leftS, bulkS, if_pos (by omega)]; omega
          have HE : Hid (leftS ss left = l) := e
          clear hc hs e
          go_wp2
          go_ret
          exact ⟨by rw [HE.out]; rfl, rfl⟩
def leftN (n : Nat) (left : Int) : Int := if (n : Int) ≤ left then left - (n : Int) else -1
theorem leftN_bad {n : Nat} {left : Int} (h : left < (n : Int)) : leftN n left = -1 := by unfold leftN; rw [if_neg (by omega)]
theorem leftN_good {n : Nat} {left : Int} (h : (n : Int) ≤ left) : leftN n left = left - (n : Int) := by unfold leftN; rw [if_pos h]
theorem leftS_N (ks : List ByteArray) (left : Int) : leftS ks left = leftN (bulkS ks) left := rfl
theorem wt_mk (k n : Int) (s : ByteArray) (l : List Tree) (ks : List ByteArray) : (Tree.mk k n s l ks).wt = s.size + (wtL l + bulkS ks) := by rw [Tree.wt]

def SzC (T : Tree) : Prop := ∀ (S : Nat → Prop) (v : Value) (w : World) (left : Int), Lies S w v T → (∀ b, S b → b < w.heap.size) → 0 ≤ left → left ≤ 1048576 →
  Calls Tryd.prog 4 #[v, .int .i64 left] w fun e w' => e = .returned (.int .i64 (leftN T.wt left)) ∧ Below w.heap.size w w'
def SzLC (l : List Tree) : Prop := ∀ (S : Nat → Prop) (v : Value) (w : World) (left : Int), LiesL S w v l → (∀ b, S b → b < w.heap.size) → 0 ≤ left → left ≤ 1048576 →
  Calls Tryd.prog 9 #[v, .int .i64 left] w fun e w' => e = .returned (.int .i64 (leftN (wtL l) left)) ∧ Below w.heap.size w w'

set_option maxHeartbeats 2000000 in
set_option maxRecDepth 100000 in
theorem szVal_step (k n : Int) (s : ByteArray) (l : List Tree) (ks : List ByteArray) (ih : SzLC l) : SzC (.mk k n s l ks) := by
  intro S v w left hv hB h0 h1
  obtain ⟨c, u, rfl, hs, hk, hl, hu⟩ := hv.out
  clear hv
  unfold maxLen at hs
  have hbx : ∀ o, Below w.heap.size w (w.alloc o) := fun o => (Below.refl _ _).alloc (Nat.le_refl _) _
  by_cases hneg : left - (s.size : Int) < 0
  · have e : leftN (Tree.mk k n s l ks).wt left = -1 := leftN_bad (by rw [wt_mk]; omega)
    rw [e]
    go_enter Tryd.func4, Tryd.ntmps4
    go_wp2_with fail
    go_ret
    exact ⟨rfl, hbx _⟩
  · obtain ⟨p, hp⟩ : ∃ p, p = leftN (wtL l) (left - (s.size : Int)) := ⟨_, rfl⟩
    have hpb : p ≤ 1048576 := by unfold leftN at hp; split at hp <;> omega
    have HP : Hid (p = leftN (wtL l) (left - (s.size : Int))) := hp
    clear hp
    have hlA : ∀ o, LiesL S (w.alloc o) c l := fun o => hl.keep (.of (hbx _) hB)
    have huA : ∀ w1, Below w.heap.size w w1 → Reads w1 u (strsV ks) := fun w1 h1 => (hu.keep (.of h1 hB)).reads (fun b h => Nat.lt_of_lt_of_le (hB b h) h1.size)
    have hBA : ∀ o b, S b → b < (w.alloc o).heap.size := fun o b h => Nat.lt_of_lt_of_le (hB b h) (hbx o).size
    by_cases hpn : p < 0
    · have e : leftN (Tree.mk k n s l ks).wt left = -1 := by
        have := HP.out
        refine leftN_bad ?_
        rw [wt_mk]
        by_cases hh : ((wtL l : Nat) : Int) ≤ left - (s.size : Int)
        · rw [leftN_good hh] at this; omega
        · omega
      have HE : Hid (leftN (Tree.mk k n s l ks).wt left = -1) := e
      clear e
      go_enter Tryd.func4, Tryd.ntmps4
      go_wp2_with (go_at_call 9; refine (ih S c _ (left - (s.size : Int)) (hlA _) (hBA _) (by omega) (by omega)).mono ?_; rintro e w1 ⟨rfl, hb1⟩; rw [← HP.out])
      go_ret
      exact ⟨by rw [HE.out]; rfl, (hbx _).trans (hb1.mono (by simp))⟩
    · have e : leftN (Tree.mk k n s l ks).wt left = leftS ks p := by
        have := HP.out
        rw [leftS_N]
        by_cases hh : ((wtL l : Nat) : Int) ≤ left - (s.size : Int)
        · rw [leftN_good hh] at this
          by_cases h2 : ((bulkS ks : Nat) : Int) ≤ p
          · rw [leftN_good h2, leftN_good (by rw [wt_mk]; omega), wt_mk]; omega
          · rw [leftN_bad (n := (Tree.mk k n s l ks).wt) (by rw [wt_mk]; omega), leftN_bad (by omega)]
        · rw [leftN_bad (by omega)] at this; omega
      have HE : Hid (leftN (Tree.mk k n s l ks).wt left = leftS ks p) := e
      obtain ⟨q, hq⟩ : ∃ q, q = leftS ks p := ⟨_, rfl⟩
      have HQ : Hid (q = leftS ks p) := hq
      clear e hq
      go_enter Tryd.func4, Tryd.ntmps4
      go_wp2_with (first
        | (go_at_call 9; refine (ih S c _ (left - (s.size : Int)) (hlA _) (hBA _) (by omega) (by omega)).mono ?_; rintro e w1 ⟨rfl, hb1⟩; rw [← HP.out]; obtain ⟨x0, x1, x2, x3, x4⟩ := box5 hb1)
        | (go_at_call 10; refine (sizeStrsT_c u ks _ p (by omega) (by omega) (huA _ ((hbx _).trans (hb1.mono (by simp)))) hk.1 hk.2).mono ?_; rintro e w2 ⟨rfl, rfl⟩; rw [← HQ.out]))
      · go_ret
        have hq : q = -1 := by
          have := HQ.out
          rw [leftS_N] at this
          by_cases h2 : ((bulkS ks : Nat) : Int) ≤ p
          · rw [leftN_good h2] at this; omega
          · rw [leftN_bad (by omega)] at this; exact this
        exact ⟨by rw [HE.out, ← HQ.out, hq]; rfl, (hbx _).trans (hb1.mono (by simp))⟩
      · go_ret
        exact ⟨by rw [HE.out, ← HQ.out]; rfl, (hbx _).trans (hb1.mono (by simp))⟩

set_option maxHeartbeats 2000000 in
set_option maxRecDepth 100000 in
theorem szValS_step (l : List Tree) (ih : ∀ U ∈ l, SzC U) : SzLC l := by
  intro S v w left hv hB h0 h1
  obtain ⟨a, cap, rfl, hl, hc, ha⟩ := hv.at
  unfold maxLen at hl
  by_cases hneg : left - (l.length : Int) < 0
  · have e : leftN (wtL l) left = -1 := leftN_bad (by have := length_le_wtL l; omega)
    rw [e]
    go_enter Tryd.func9, Tryd.ntmps9
    go_wp2_with fail
    go_ret
    exact ⟨rfl, Below.refl _ _⟩
  · rcases ha with rfl | ⟨b, off, rfl, hlt, ha⟩
    · have e : leftN (wtL []) left = left := by rw [leftN_good (by simpa [wtL] using h0)]; simp [wtL]
      rw [e]
      go_enter Tryd.func9, Tryd.ntmps9
      go_wp2_with fail
      go_loop [1, 5] (fun vl vi => vl = .int .i64 left ∧ vi = .int .i64 0) (fun _ _ => 0)
      case atStart => exact ⟨by simp, rfl⟩
      case round =>
        obtain ⟨rfl, rfl⟩ := hrel
        go_wp2_with fail
        go_ret
        exact ⟨rfl, Below.refl _ _⟩
    · go_enter Tryd.func9, Tryd.ntmps9
      go_wp2_with fail
      go_loopw [1, 5] (fun vl vi wr => ∃ (k : Nat) (q : Int), k ≤ l.length ∧ vi = .int .i64 (k : Int) ∧ vl = .int .i64 q ∧ 0 ≤ q ∧ q ≤ 1048576 ∧ Hid (q = left - (l.length : Int) - (wtL (l.take k) : Int) + (k : Int)) ∧ Below w.heap.size w wr) (fun _ vi _ => l.length - (intOf vi).toNat)
      case atStart => exact ⟨0, _, Nat.zero_le _, rfl, rfl, by omega, by omega, by show _ = _; simp [wtL], Below.refl _ _⟩
      case round =>
        obtain ⟨k, q, hk, rfl, rfl, hq0, hq1, hq, hbr⟩ := hrel
        by_cases hlt' : k < l.length
        · obtain ⟨c0, c1, c2, c3, c4, e0, e1, e2, e3, e4, hT⟩ := ha k hlt'
          have hlt2 : b < w.heap.size := hB b hlt
          rw [← hbr.cell (by simpa using hlt2)] at e0 e1 e2 e3 e4
          have ihk := ih _ (List.getElem_mem hlt')
          have hwt := wtL_take_succ l k hlt'
          obtain ⟨U, hU⟩ : ∃ U, U = l[k] := ⟨_, rfl⟩
          rw [← hU] at hT ihk hwt
          have HW : Hid (wtL (l.take (k + 1)) = wtL (l.take k) + 1 + U.wt) := hwt
          have hki : (k : Int) < (l.length : Int) := by omega
          have hT' := hT.keep (.of hbr hB)
          have hBr : ∀ b, S b → b < wr.heap.size := fun b h => Nat.lt_of_lt_of_le (hB b h) hbr.size
          obtain ⟨p, hp⟩ : ∃ p, p = leftN U.wt q := ⟨_, rfl⟩
          have HP : Hid (p = leftN U.wt q) := hp
          clear ha ih hwt hU hT hp hv
          by_cases hpn : p < 0
          · go_wp2_with (go_at_call 4; refine (ihk S _ _ q hT' hBr hq0 hq1).mono ?_; rintro e w1 ⟨rfl, hb1⟩; rw [← HP.out])
            go_ret
            have e : leftN (wtL l) left = -1 := by
              have h2 := HP.out; have h3 := hq.out; have h4 := HW.out; have h5 := wtL_take_rest l (k + 1)
              refine leftN_bad ?_
              by_cases h6 : (U.wt : Int) ≤ q
              · rw [leftN_good h6] at h2; omega
              · omega
            exact ⟨by rw [e]; rfl, hbr.trans (hb1.mono hbr.size)⟩
          · go_wp2_with (go_at_call 4; refine (ihk S _ _ q hT' hBr hq0 hq1).mono ?_; rintro e w1 ⟨rfl, hb1⟩; rw [← HP.out])
            go_roundw
            case rel =>
              have h2 := HP.out; have h3 := hq.out; have h4 := HW.out
              have h6 : (U.wt : Int) ≤ q := by
                by_cases h6 : (U.wt : Int) ≤ q
                · exact h6
                · rw [leftN_bad (by omega)] at h2; omega
              rw [leftN_good h6] at h2
              exact ⟨k + 1, p, by omega, by go_num, rfl, by omega, by omega, (by show _ = _; omega), hbr.trans (hb1.mono hbr.size)⟩
            case measure => simp [intOf]; omega
        · have he : k = l.length := by omega
          subst he
          clear ha
          go_wp2_with fail
          go_ret
          have e : leftN (wtL l) left = q := by
            have h3 := hq.out
            rw [List.take_length] at h3
            rw [leftN_good (by omega)]; omega
          exact ⟨by rw [e]; rfl, hbr⟩

theorem szVal_all : ∀ T, SzC T := by
  refine Tree.ind ?_
  intro k n s l ks ih
  exact szVal_step k n s l ks (szValS_step l ih)
#print axioms szVal_all
end Go.Proofs.YtbolphjigjpmiaaDoor
