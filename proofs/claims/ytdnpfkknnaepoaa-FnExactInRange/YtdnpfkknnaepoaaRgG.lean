/-
  What InRange answers, the program's: contracts for the walks; conditions: what comes in lies in memory as told, and holds no more than 2 to the 20.
-/
import Derived.Test.YtdnpfkknnaepoaaRgA
import Derived.Test.YtdnpfkknnaepoaaRgC
namespace Go.Proofs.Ytdnpfkknnaepoaa
open Go.RowKit
set_option linter.unusedSimpArgs false
set_option linter.unusedVariables false

/-- Does a Cmp hold, and does it ask for a Pre of these numbers? -/
def holdsD (a' b' c' : Int) (ps' : List ByteArray) (d : CmpD) : Bool := cmpB d.o d.a d.b d.c d.ps a' b' c' ps'
def asksD (a' b' c' : Int) (d : CmpD) : Bool := decide (0 < d.ps.length) && coreB d.a d.b d.c a' b' c'
/-- Is a version taken by a list of Cmps; by a range? -/
def takeB (a' b' c' : Int) (ps' : List ByteArray) (ds : List CmpD) : Bool := ds.all (holdsD a' b' c' ps') && (decide (ps'.length = 0) || ds.any (asksD a' b' c'))
def inRB (a' b' c' : Int) (ps' : List ByteArray) (dss : List (List CmpD)) : Bool := verB a' b' c' ps' && dss.any (takeB a' b' c' ps')

theorem any_take {α : Type} (f : α → Bool) (l : List α) (k : Nat) (h : k < l.length) : (l.take (k + 1)).any f = ((l.take k).any f || f l[k]) := by
  rw [List.take_succ_eq_append_getElem h, List.any_append]; simp
theorem all_at {α : Type} (f : α → Bool) (l : List α) (k : Nat) (h : k < l.length) (hf : f l[k] = false) : l.all f = false := by
  rw [List.all_eq_false]; exact ⟨l[k], List.getElem_mem h, by simp [hf]⟩
theorem all_take {α : Type} (f : α → Bool) (l : List α) (k : Nat) (h : k < l.length) : (l.take (k + 1)).all f = ((l.take k).all f && f l[k]) := by
  rw [List.take_succ_eq_append_getElem h, List.all_append]; simp

set_option maxHeartbeats 1000000 in
set_option maxRecDepth 100000 in
theorem sameNums_c (a b c : Int) (q : Option Addr) (n cap : Nat) (a' b' c' : Int) (q' : Option Addr) (n' cap' : Nat) (w : World) :
    Calls Try.prog 76 #[.agg #[.int .i64 a, .int .i64 b, .int .i64 c, .slice q n cap], .agg #[.int .i64 a', .int .i64 b', .int .i64 c', .slice q' n' cap']] w fun e w' => e = .returned (.bool (coreB a b c a' b' c')) ∧ Below w.heap.size w w' := by
  cases ha : (a == a') with
  | false =>
    have e : coreB a b c a' b' c' = false := by rw [coreB, ha]; rfl
    rw [e]
    go_enter Try.func76, Try.ntmps76
    go_wp2
    go_ret
    exact ⟨rfl, two_box _ _⟩
  | true =>
  cases hb : (b == b') with
  | false =>
    have e : coreB a b c a' b' c' = false := by rw [coreB, hb, Bool.and_false]; rfl
    rw [e]
    go_enter Try.func76, Try.ntmps76
    go_wp2
    go_ret
    exact ⟨rfl, two_box _ _⟩
  | true =>
    have e : coreB a b c a' b' c' = (c == c') := by rw [coreB, ha, hb]; rfl
    rw [e]
    clear e
    go_enter Try.func76, Try.ntmps76
    go_wp2
    go_ret
    exact ⟨rfl, two_box _ _⟩

theorem take_end (a' b' c' : Int) (ps' : List ByteArray) (ds : List CmpD) (h : (ds.take ds.length).all (holdsD a' b' c' ps') = true) : takeB a' b' c' ps' ds = (decide (ps'.length = 0) || (ds.take ds.length).any (asksD a' b' c')) := by
  rw [List.take_length] at h ⊢
  rw [takeB, h, Bool.true_and]
theorem len_beq (n : Nat) : ((n : Int) == 0) = decide (n = 0) := by
  by_cases h : n = 0
  · simp [h]
  · have : ¬ (n : Int) = 0 := by omega
    simp [h]

set_option maxHeartbeats 4000000 in
set_option maxRecDepth 100000 in
theorem allTake_c (S : Nat → Prop) (v : Value) (ds : List CmpD) (a' b' c' : Int) (u' : Value) (ps' : List ByteArray) (w : World) (hv : CmpsIn S w v ds) (hB : ∀ b, S b → b < w.heap.size) (hw : wtC ds ≤ 1048576) (hu' : Reads w u' (strsV ps')) (hb' : bulkS ps' ≤ 1048576) :
    Calls Try.prog 60 #[v, .agg #[.int .i64 a', .int .i64 b', .int .i64 c', u']] w fun e w' => e = .returned (.bool (takeB a' b' c' ps' ds)) ∧ Below w.heap.size w w' := by
  obtain ⟨a, cap, rfl, hl, hc, ha⟩ := hv
  unfold maxLen at hl
  have hrv : ∀ w1, Below w.heap.size w w1 → Reads w1 u' (strsV ps') := fun w1 h => hu'.below h
  have hn' : ps'.length ≤ 1048576 := by unfold bulkS at hb'; omega
  obtain ⟨q', cap', rfl, _, _⟩ := reads_strs hu'
  have HR : Hid (∀ w1, Below w.heap.size w w1 → Reads w1 (.slice q' ps'.length cap') (strsV ps')) := hrv
  have F0 := four_new w 26 (.int .i64 a') (.int .i64 b') (.int .i64 c') (.slice q' ps'.length cap')
  have hbx : ∀ o, Below w.heap.size w (w.alloc o) := fun o => (Below.refl _ _).alloc (Nat.le_refl _) _
  clear hu' hrv
  go_enter Try.func60, Try.ntmps60
  go_wp2_with fail
  go_loopw [5, 14] (fun v5 vi wr => ∃ (k : Nat) (p : Bool), k ≤ ds.length ∧ vi = .int .i64 (k : Int) ∧ v5 = .bool p ∧ Hid (p = (decide (ps'.length = 0) || (ds.take k).any (asksD a' b' c'))) ∧ Hid ((ds.take k).all (holdsD a' b' c' ps') = true) ∧ Below w.heap.size w wr ∧ Four wr w.heap.size 26 (.int .i64 a') (.int .i64 b') (.int .i64 c') (.slice q' ps'.length cap')) (fun _ vi _ => ds.length - (intOf vi).toNat)
  case atStart => exact ⟨0, _, Nat.zero_le _, rfl, rfl, (by show _ = _; rw [len_beq]; simp), (by show _ = _; simp), hbx _, F0⟩
  case round =>
    obtain ⟨k, p, hk, rfl, rfl, hp, hall, hbr, hF⟩ := hrel
    clear F0
    by_cases hlt' : k < ds.length
    · rcases ha with rfl | ⟨b, off, us, rfl, hlt, ha⟩
      · simp at hlt'
      obtain ⟨e0, e1, e2, e3, e4, hu, hsn⟩ := ha k hlt'
      have hlt2 : b < w.heap.size := hB b hlt
      rw [← hbr.cell (by simpa using hlt2)] at e0 e1 e2 e3 e4
      have hbk : bulkS ds[k].ps ≤ 1048576 := by have := bulk_wtC (List.getElem_mem hlt'); omega
      have hpl : ds[k].ps.length ≤ 1048576 := by unfold bulkS at hbk; omega
      have hr1 : ∀ w1, Below wr.heap.size wr w1 → Reads w1 (us k) (strsV ds[k].ps) := fun w1 h => (hu.keep (.of (hbr.trans (h.mono hbr.size)) hB)).reads (fun b hb => Nat.lt_of_lt_of_le (hB b hb) (Nat.le_trans hbr.size h.size))
      have HA : Hid (∀ q : Bool, q = holdsD a' b' c' ps' ds[k] → q = true → (ds.take (k + 1)).all (holdsD a' b' c' ps') = true) := fun q h1 h2 => by rw [all_take _ _ _ hlt', hall.out, ← h1, h2]; rfl
      have HX : Hid (holdsD a' b' c' ps' ds[k] = false → takeB a' b' c' ps' ds = false) := fun h => by rw [takeB, all_at _ _ k hlt' h]; rfl
      have HY : Hid (∀ q : Bool, q = (p || asksD a' b' c' ds[k]) → q = (decide (ps'.length = 0) || (ds.take (k + 1)).any (asksD a' b' c'))) := fun q h => by rw [any_take _ _ _ hlt', ← Bool.or_assoc, ← hp.out]; exact h
      obtain ⟨d, hd⟩ : ∃ d, d = ds[k] := ⟨_, rfl⟩
      rw [← hd] at e0 e1 e2 e3 hr1 hbk hpl HA HX HY
      obtain ⟨u, hu0⟩ : ∃ u, u = us k := ⟨_, rfl⟩
      rw [← hu0] at e4 hr1
      obtain ⟨uq, ucap, hu2, _, _⟩ := reads_strs (hr1 wr (Below.refl _ _))
      subst hu2
      obtain ⟨r, hr⟩ : ∃ r, r = holdsD a' b' c' ps' d := ⟨_, rfl⟩
      have HC : Hid (∀ w1, Below wr.heap.size wr w1 → Calls Try.prog 27 #[.agg #[.int .i64 d.o, .int .i64 d.a, .int .i64 d.b, .int .i64 d.c, .slice uq d.ps.length ucap], .agg #[.int .i64 a', .int .i64 b', .int .i64 c', .slice q' ps'.length cap']] w1 fun e w' => e = .returned (.bool r) ∧ Below w1.heap.size w1 w') := fun w1 h => by rw [hr]; exact implCmpOk_c _ _ _ _ _ d.ps _ _ _ _ ps' w1 (hr1 w1 h) (HR.out w1 (hbr.trans (h.mono hbr.size))) hbk hb'
      rw [← hr] at HX
      have HA2 : Hid (r = true → (ds.take (k + 1)).all (holdsD a' b' c' ps') = true) := HA.out r hr
      have hbw : ∀ o, Below wr.heap.size wr (wr.alloc o) := fun o => (Below.refl _ _).alloc (Nat.le_refl _) _
      have hC0 := five_new wr 49 (.int .i64 d.o) (.int .i64 d.a) (.int .i64 d.b) (.int .i64 d.c) (.slice uq d.ps.length ucap)
      have hF1 := hF.keep (hbw (.cells #[.int .i64 d.o, .int .i64 d.a, .int .i64 d.b, .int .i64 d.c, .slice uq d.ps.length ucap] 49))
      obtain ⟨x0, x1, x2, x3⟩ := hF.cells
      have hNw : w.heap.size < wr.heap.size := hF.lt
      have hki : (k : Int) < (ds.length : Int) := by omega
      clear ha hu hd hu0 hr1 hr HA hsn hbk
      cases r with
      | false =>
        have HX2 : Hid (takeB a' b' c' ps' ds = false) := HX.out rfl
        clear HX
        go_wp2_with (go_at_call 27; refine (HC.out _ (hbw _)).mono ?_; rintro e w1 ⟨rfl, b1⟩)
        go_ret
        exact ⟨by rw [HX2.out]; rfl, hbr.trans (((hbw _).trans (b1.mono (by simp))).mono hbr.size)⟩
      | true =>
        have HA3 := HA2.out rfl
        have HA4 : Hid ((ds.take (k + 1)).all (holdsD a' b' c' ps') = true) := HA3
        clear HX HA2 HA3
        cases p with
        | true =>
          have HY2 : Hid (true = (decide (ps'.length = 0) || (ds.take (k + 1)).any (asksD a' b' c'))) := HY.out true rfl
          clear HY
          go_wp2_with (go_at_call 27; refine (HC.out _ (hbw _)).mono ?_; rintro e w1 ⟨rfl, b1⟩; have G1 := hF1.keep b1)
          go_roundw
          case rel => exact ⟨k + 1, true, by omega, by go_num, rfl, HY2, HA4, hbr.trans (((hbw _).trans (b1.mono (by simp))).mono hbr.size), G1⟩
          case measure => simp [intOf]; omega
        | false =>
          by_cases hgt : 0 < d.ps.length
          · have hgt' : (0 : Int) < (d.ps.length : Int) := by omega
            obtain ⟨r2, hr2⟩ : ∃ r, r = coreB d.a d.b d.c a' b' c' := ⟨_, rfl⟩
            have HY2 : Hid (r2 = (decide (ps'.length = 0) || (ds.take (k + 1)).any (asksD a' b' c'))) := HY.out r2 (by rw [asksD, decide_eq_true hgt, hr2]; rfl)
            have HN : Hid (∀ w1, Calls Try.prog 76 #[.agg #[.int .i64 d.a, .int .i64 d.b, .int .i64 d.c, .slice uq d.ps.length ucap], .agg #[.int .i64 a', .int .i64 b', .int .i64 c', .slice q' ps'.length cap']] w1 fun e w' => e = .returned (.bool r2) ∧ Below w1.heap.size w1 w') := fun w1 => by rw [hr2]; exact sameNums_c _ _ _ _ _ _ _ _ _ _ _ _ w1
            clear HY hr2 hgt
            go_wp2_with (first
              | (go_at_call 27; refine (HC.out _ (hbw _)).mono ?_; rintro e w1 ⟨rfl, b1⟩; have G1 := hF1.keep b1; have D1 := hC0.keep b1; obtain ⟨y0, y1, y2, y3⟩ := G1.cells; obtain ⟨z0, z1, z2, z3, z4⟩ := D1.cells)
              | (go_at_call 76; refine (HN.out _).mono ?_; rintro e w2 ⟨rfl, b2⟩))
            go_roundw
            case rel => exact ⟨k + 1, r2, by omega, by go_num, rfl, HY2, HA4, hbr.trans ((((hbw _).trans (b1.mono (by simp))).trans (b2.mono (Nat.le_trans (hbw (.cells #[.int .i64 d.o, .int .i64 d.a, .int .i64 d.b, .int .i64 d.c, .slice uq d.ps.length ucap] 49)).size b1.size))).mono hbr.size), G1.keep b2⟩
            case measure => simp [intOf]; omega
          · have hgt' : ¬ (0 : Int) < (d.ps.length : Int) := by omega
            have HY2 : Hid (false = (decide (ps'.length = 0) || (ds.take (k + 1)).any (asksD a' b' c'))) := HY.out false (by rw [asksD, decide_eq_false hgt]; rfl)
            clear HY hgt
            go_wp2_with (go_at_call 27; refine (HC.out _ (hbw _)).mono ?_; rintro e w1 ⟨rfl, b1⟩; have G1 := hF1.keep b1; have D1 := hC0.keep b1; obtain ⟨y0, y1, y2, y3⟩ := G1.cells; obtain ⟨z0, z1, z2, z3, z4⟩ := D1.cells)
            go_roundw
            case rel => exact ⟨k + 1, false, by omega, by go_num, rfl, HY2, HA4, hbr.trans (((hbw _).trans (b1.mono (by simp))).mono hbr.size), G1⟩
            case measure => simp [intOf]; omega
    · have he : k = ds.length := by omega
      subst he
      have HE : Hid (takeB a' b' c' ps' ds = p) := by show _ = _; rw [take_end _ _ _ _ _ hall.out, ← hp.out]
      clear ha hall hp
      go_wp2_with fail
      go_ret
      exact ⟨by rw [HE.out]; rfl, hbr⟩
end Go.Proofs.Ytdnpfkknnaepoaa
