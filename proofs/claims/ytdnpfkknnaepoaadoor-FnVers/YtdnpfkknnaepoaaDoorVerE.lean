/-
  What SameVer answers, the program's and the specification's: contracts for the walks; conditions: the lists of texts lie in memory as told, and are no longer than 2 to the 40.
-/
import Derived.Test.YtdnpfkknnaepoaaDoorVerC
import Derived.Test.YtdnpfkknnaepoaaDoorVerD
namespace Go.Proofs.YtdnpfkknnaepoaaDoor
open Go.RowKit
set_option linter.unusedSimpArgs false
set_option linter.unusedVariables false

set_option maxHeartbeats 1000000 in
set_option maxRecDepth 100000 in
theorem equalStrs_c (v u : Value) (ss ts : List ByteArray) (w : World) (hv : Reads w v (strsV ss)) (hu : Reads w u (strsV ts)) (hn : ss.length ≤ 1099511627776) :
    Calls Tryd.prog 41 #[v, u] w fun e w' => e = .returned (.bool (decide (ss = ts))) ∧ Below w.heap.size w w' := by
  obtain ⟨a, cap, rfl, _, hc⟩ := reads_strs hv
  obtain ⟨a2, cap2, rfl, _, hc2⟩ := reads_strs hu
  clear hv hu
  by_cases hl : ss.length = ts.length
  · rcases hc with rfl | ⟨b, off, rfl, hlt, hc⟩
    · have : ts = [] := List.eq_nil_of_length_eq_zero (by simpa using hl.symm)
      subst this
      go_enter Tryd.func41, Tryd.ntmps41
      go_wp2
      go_loopw [5, 13] (fun _ vi wr => vi = .int .i64 0 ∧ wr = w) (fun _ _ _ => 0)
      case atStart => exact ⟨rfl, rfl⟩
      case round =>
        obtain ⟨rfl, rfl⟩ := hrel
        go_wp2
        go_ret
        exact ⟨rfl, Below.refl _ _⟩
    rcases hc2 with rfl | ⟨b2, off2, rfl, hlt2, hc2⟩
    · have : ss = [] := List.eq_nil_of_length_eq_zero (by simpa using hl)
      subst this
      go_enter Tryd.func41, Tryd.ntmps41
      go_wp2
      go_loopw [5, 13] (fun _ vi wr => vi = .int .i64 0 ∧ wr = w) (fun _ _ _ => 0)
      case atStart => exact ⟨rfl, rfl⟩
      case round =>
        obtain ⟨rfl, rfl⟩ := hrel
        go_wp2
        go_ret
        exact ⟨rfl, Below.refl _ _⟩
    · have HL : Hid (ss.length = ts.length) := hl
      have hc2' : ∀ k (h : k < ts.length), w.cell? ⟨b2, off2 + k, none⟩ = some (.string ts[k]) := hc2
      have HC2 : Hid (∀ k (h : k < ts.length), w.cell? ⟨b2, off2 + k, none⟩ = some (.string ts[k])) := hc2'
      rw [← hl]
      clear hl hc2 hc2'
      go_enter Tryd.func41, Tryd.ntmps41
      go_wp2
      go_loopw [5, 13] (fun _ vi wr => ∃ k : Nat, k ≤ ss.length ∧ vi = .int .i64 (k : Int) ∧ Hid (∀ j (h1 : j < ss.length) (h2 : j < ts.length), j < k → ss[j] = ts[j]) ∧ Below w.heap.size w wr) (fun _ vi _ => ss.length - (intOf vi).toNat)
      case atStart => exact ⟨0, Nat.zero_le _, rfl, fun j h1 h2 hj => by omega, Below.refl _ _⟩
      case round =>
        obtain ⟨k, hk, rfl, hy, hbr⟩ := hrel
        by_cases hlt' : k < ss.length
        · have hlt2' : k < ts.length := by have := HL.out; omega
          have hcx : wr.cell? ⟨b, off + k, none⟩ = some (.string ss[k]) := (hbr.cell (p := ⟨b, off + k, none⟩) hlt).trans (hc k hlt')
          have hcy : wr.cell? ⟨b2, off2 + k, none⟩ = some (.string ts[k]) := (hbr.cell (p := ⟨b2, off2 + k, none⟩) hlt2).trans (HC2.out k hlt2')
          obtain ⟨x, hx⟩ : ∃ x, x = ss[k] := ⟨_, rfl⟩
          obtain ⟨y, hy'⟩ : ∃ y, y = ts[k] := ⟨_, rfl⟩
          rw [← hx] at hcx
          rw [← hy'] at hcy
          have HX : Hid (x = ss[k]) := hx
          have HY : Hid (y = ts[k]) := hy'
          have hki : (k : Int) < (ss.length : Int) := by omega
          clear hc hx hy'
          go_wp2
          go_quiet (fail)
          go_wp2
          · have hne : (!x.toList == y.toList) = true := by assumption
            have hne' : ¬ ss = ts := fun e => by
              have e1 := HX.out; have e2 := HY.out; subst e; rw [← e2] at e1; subst e1; simp at hne
            go_ret
            exact ⟨by simp [hne'], below_drewN' hbr _⟩
          · have he : (!x.toList == y.toList) = false := by assumption
            have he' : x = y := bytes_eq_of_toList (by simpa using he)
            go_roundw
            case rel => exact ⟨k + 1, by omega, by go_num, fun j h1 h2 hj => (by
              by_cases e : j = k
              · subst e; rw [← HX.out, ← HY.out]; exact he'
              · exact hy.out j h1 h2 (by omega)), below_drewN' hbr _⟩
            case measure => simp [intOf]; omega
        · clear hc
          have he : k = ss.length := by omega
          subst he
          have e : ss = ts := strs_done HL.out (fun j h1 h2 => hy.out j h1 h2 h1)
          go_wp2
          go_ret
          exact ⟨by simp [e], hbr⟩
  · have hne : ¬ ss = ts := fun e => hl (by rw [e])
    have hl' : ((ss.length : Int) != (ts.length : Int)) = true := by simp; omega
    rw [decide_eq_false hne]
    clear hc hc2
    go_enter Tryd.func41, Tryd.ntmps41
    go_wp2
    go_ret
    exact ⟨rfl, Below.refl _ _⟩

theorem boxes_pre {w w1 : World} {c0 c1 c2 c3 d0 d1 d2 d3 : Value} {t t' : TypeId} (hb : Below ((w.alloc (.cells #[c0, c1, c2, c3] t)).alloc (.cells #[d0, d1, d2, d3] t')).heap.size ((w.alloc (.cells #[c0, c1, c2, c3] t)).alloc (.cells #[d0, d1, d2, d3] t')) w1) :
    w1.cell? ⟨w.heap.size, 3, none⟩ = some c3 ∧ w1.cell? ⟨w.heap.size + 1, 3, none⟩ = some d3 := by
  have s1 : ∀ o, (w.alloc o).heap.size = w.heap.size + 1 := fun o => by simp
  refine ⟨?_, ?_⟩
  · rw [hb.cell (p := ⟨w.heap.size, 3, none⟩) (by simp; omega)]
    exact vblk_cell ((vheap_old _ _ (by simp)).trans (vheap_new _ _)) 3
  · rw [hb.cell (p := ⟨w.heap.size + 1, 3, none⟩) (by simp)]
    have h := vheap_new (w.alloc (.cells #[c0, c1, c2, c3] t)) (.cells #[d0, d1, d2, d3] t')
    rw [s1] at h
    exact vblk_cell h 3


def coreB (a b c a' b' c' : Int) : Bool := a == a' && b == b' && c == c'
def sameB (a b c : Int) (ps : List ByteArray) (a' b' c' : Int) (ps' : List ByteArray) : Bool := coreB a b c a' b' c' && decide (ps = ps')

theorem two_box {w : World} (o o' : Obj) : Below w.heap.size w ((w.alloc o).alloc o') := ((Below.refl _ _).alloc (Nat.le_refl _) _).alloc (by simp) _

set_option maxHeartbeats 1000000 in
set_option maxRecDepth 100000 in
theorem implSame_c (a b c : Int) (u : Value) (ps : List ByteArray) (a' b' c' : Int) (u' : Value) (ps' : List ByteArray) (w : World) (hu : Reads w u (strsV ps)) (hu' : Reads w u' (strsV ps')) (hn : ps.length ≤ 1048576) :
    Calls Tryd.prog 14 #[.agg #[.int .i64 a, .int .i64 b, .int .i64 c, u], .agg #[.int .i64 a', .int .i64 b', .int .i64 c', u']] w fun e w' => e = .returned (.bool (sameB a b c ps a' b' c' ps')) ∧ Below w.heap.size w w' := by
  have hru : ∀ w1, Below w.heap.size w w1 → Reads w1 u (strsV ps) ∧ Reads w1 u' (strsV ps') := fun w1 h => ⟨hu.below h, hu'.below h⟩
  have HS : Hid (∀ w1, Below w.heap.size w w1 → Calls Tryd.prog 41 #[u, u'] w1 fun e w' => e = .returned (.bool (decide (ps = ps'))) ∧ Below w1.heap.size w1 w') := fun w1 h => equalStrs_c u u' ps ps' w1 (hru w1 h).1 (hru w1 h).2 (by omega)
  obtain ⟨q, cap, rfl, _, _⟩ := reads_strs hu
  obtain ⟨q', cap', rfl, _, _⟩ := reads_strs hu'
  clear hu hu' hru
  have EF : Hid (coreB a b c a' b' c' = false → sameB a b c ps a' b' c' ps' = false) := fun h => by rw [sameB, h]; rfl
  cases ha : (a == a') with
  | false =>
    rw [EF.out (by rw [coreB, ha]; rfl)]
    go_enter Tryd.func14, Tryd.ntmps14
    go_wp2
    go_ret
    exact ⟨rfl, two_box _ _⟩
  | true =>
  cases hb : (b == b') with
  | false =>
    rw [EF.out (by rw [coreB, hb, Bool.and_false]; rfl)]
    go_enter Tryd.func14, Tryd.ntmps14
    go_wp2
    go_ret
    exact ⟨rfl, two_box _ _⟩
  | true =>
  cases hc : (c == c') with
  | false =>
    rw [EF.out (by rw [coreB, hc, Bool.and_false])]
    go_enter Tryd.func14, Tryd.ntmps14
    go_wp2
    go_ret
    exact ⟨rfl, two_box _ _⟩
  | true =>
    have e : sameB a b c ps a' b' c' ps' = decide (ps = ps') := by rw [sameB, coreB, ha, hb, hc]; rfl
    rw [e]
    clear e EF
    go_enter Tryd.func14, Tryd.ntmps14
    go_wp2_with (go_at_call 41; refine (HS.out _ (two_box _ _)).mono ?_; rintro e w2 ⟨rfl, b2⟩)
    go_ret
    exact ⟨rfl, (two_box _ _).trans (b2.mono (by simp; omega))⟩
end Go.Proofs.YtdnpfkknnaepoaaDoor
