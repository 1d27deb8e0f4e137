/-
  What the helpers of the laws answer (a byte of the code or a number in its place, whether a text is in a list, whether a list rises, whether two lists are alike, whether a code is long): contracts for the walks; conditions: the lists lie in memory as told.
-/
import Derived.Test.YthapeknfhlpadaaDoorSortA
namespace Go.Proofs.YthapeknfhlpadaaDoor
open Go.RowKit
set_option linter.unusedSimpArgs false
set_option linter.unusedVariables false

theorem big_t (v : Value) (zs : List Int) (w : World) (hr : Reads w v (bytesV zs)) (h : (1048576 : Int) < (zs.length : Int)) :
    Calls Tryd.prog 5 #[v] w fun e w' => e = .returned (.bool true) ∧ w = w' := by
  obtain ⟨a, cap, rfl, _, hc⟩ := reads_bytes hr
  clear hr hc
  go_enter Tryd.func5, Tryd.ntmps5
  go_wp2
  go_ret
  exact ⟨by simp [h], rfl⟩
theorem big_f (v : Value) (zs : List Int) (w : World) (hr : Reads w v (bytesV zs)) (h : ¬ (1048576 : Int) < (zs.length : Int)) :
    Calls Tryd.prog 5 #[v] w fun e w' => e = .returned (.bool false) ∧ w = w' := by
  obtain ⟨a, cap, rfl, _, hc⟩ := reads_bytes hr
  clear hr hc
  go_enter Tryd.func5, Tryd.ntmps5
  go_wp2
  go_ret
  exact ⟨by simp [h], rfl⟩

set_option maxHeartbeats 1000000 in
set_option maxRecDepth 100000 in
theorem atN_c (v : Value) (zs : List Int) (i : Nat) (w : World) (hr : Reads w v (bytesV zs)) (hn : zs.length ≤ 1048576) (hz : ∀ z ∈ zs, 0 ≤ z ∧ z ≤ 255) (hi : i ≤ 1048576) :
    Calls Tryd.prog 6 #[v, .int .i64 (i : Int)] w fun e w' => ∃ x : Nat, x ≤ 255 ∧ e = .returned (.int .i64 (x : Int)) ∧ w = w' := by
  obtain ⟨a, cap, rfl, _, hc⟩ := reads_bytes hr
  clear hr
  by_cases hlt : i < zs.length
  · rcases hc with rfl | ⟨b, off, rfl, hbl, hc⟩
    · simp at hlt
    have hcx := hc i hlt
    have hb := hz (zs.getD i 0) (by rw [List.getD_eq_getElem?_getD]; simp [hlt])
    obtain ⟨x, hx⟩ : ∃ x : Nat, zs.getD i 0 = (x : Int) := ⟨(zs.getD i 0).toNat, by omega⟩
    rw [hx] at hcx hb
    have hli : (i : Int) < (zs.length : Int) := by omega
    clear hc hx hz
    go_enter Tryd.func6, Tryd.ntmps6
    go_wp2
    go_ret
    exact ⟨x, by omega, rfl, rfl⟩
  · have hli : ¬ (i : Int) < (zs.length : Int) := by omega
    clear hc hz
    go_enter Tryd.func6, Tryd.ntmps6
    go_wp2
    go_ret
    exact ⟨(((i : Int) * 31 + (zs.length : Int) * 7) % 256).toNat, by omega, by rw [Int.toNat_of_nonneg (by omega)]; rfl, rfl⟩

theorem at_c (v : Value) (zs : List Int) (i : Int) (w : World) (hr : Reads w v (bytesV zs)) (hn : zs.length ≤ 1048576) (hz : ∀ z ∈ zs, 0 ≤ z ∧ z ≤ 255) (hi0 : 0 ≤ i) (hi : i ≤ 1048576) :
    Calls Tryd.prog 6 #[v, .int .i64 i] w fun e w' => ∃ x : Nat, x ≤ 255 ∧ e = .returned (.int .i64 (x : Int)) ∧ w = w' := by
  obtain ⟨k, rfl⟩ := Int.eq_ofNat_of_zero_le hi0
  exact atN_c v zs k w hr hn hz (by omega)

set_option maxHeartbeats 1000000 in
set_option maxRecDepth 100000 in
theorem hasText_c (v : Value) (ss : List ByteArray) (s : ByteArray) (w : World) (hv : Reads w v (strsV ss)) (hn : ss.length ≤ 1099511627776) :
    Calls Tryd.prog 14 #[v, .string s] w fun e w' => e = .returned (.bool (hasS ss s)) ∧ w = w' := by
  obtain ⟨a, cap, rfl, _, hc⟩ := reads_strs hv
  clear hv
  rcases hc with rfl | ⟨b, off, rfl, hlt, hc⟩
  · go_enter Tryd.func14, Tryd.ntmps14
    go_wp2
    go_loop [5] (fun vi => vi = .int .i64 0) (fun _ => 0)
    case atStart => rfl
    case round =>
      obtain rfl := hrel
      go_wp2
      go_ret
      exact ⟨rfl, rfl⟩
  · go_enter Tryd.func14, Tryd.ntmps14
    go_wp2
    go_loop [5] (fun vi => ∃ k : Nat, k ≤ ss.length ∧ vi = .int .i64 (k : Int) ∧ Hid (∀ j (h : j < ss.length), j < k → ss[j] ≠ s)) (fun vi => ss.length - (intOf vi).toNat)
    case atStart => exact ⟨0, Nat.zero_le _, rfl, fun j h hj => by omega⟩
    case round =>
      obtain ⟨k, hk, rfl, hh⟩ := hrel
      by_cases hlt' : k < ss.length
      · have hcx := hc k hlt'
        obtain ⟨t, ht⟩ : ∃ t, t = ss[k] := ⟨_, rfl⟩
        rw [← ht] at hcx
        have HT : Hid (t = ss[k]) := ht
        have hki : (k : Int) < (ss.length : Int) := by omega
        clear hc ht
        go_wp2
        · have h1 : (t.toList == s.toList) = true := by assumption
          have e : t = s := bytes_eq_of_toList (by simpa using h1)
          have hm : s ∈ ss := by rw [← e, HT.out]; exact List.getElem_mem hlt'
          go_ret
          exact ⟨by rw [(hasS_iff ss s).2 hm]; rfl, rfl⟩
        · have h1 : (t.toList == s.toList) = false := by assumption
          have e : t ≠ s := fun e => by subst e; simp at h1
          go_round
          case rel => exact ⟨k + 1, by omega, by go_num, fun j h hj => (by
            by_cases ej : j = k
            · subst ej; rw [← HT.out]; exact e
            · exact hh.out j h (by omega))⟩
          case measure => simp [intOf]; omega
      · have he : k = ss.length := by omega
        subst he
        have hm : ¬ s ∈ ss := fun hm => by
          obtain ⟨j, hj, e⟩ := List.getElem_of_mem hm
          exact hh.out j hj hj e
        clear hc
        go_wp2
        go_ret
        exact ⟨by rw [hasS_not hm]; rfl, rfl⟩

set_option maxHeartbeats 1000000 in
set_option maxRecDepth 100000 in
theorem sameTexts_c (v u : Value) (ss ts : List ByteArray) (w : World) (hv : Reads w v (strsV ss)) (hu : Reads w u (strsV ts)) (hn : ss.length ≤ 1099511627776) :
    Calls Tryd.prog 20 #[v, u] w fun e w' => e = .returned (.bool (decide (ss = ts))) ∧ Below w.heap.size w w' := by
  obtain ⟨a, cap, rfl, _, hc⟩ := reads_strs hv
  obtain ⟨a2, cap2, rfl, _, hc2⟩ := reads_strs hu
  clear hv hu
  by_cases hl : ss.length = ts.length
  · rcases hc with rfl | ⟨b, off, rfl, hlt, hc⟩
    · have : ts = [] := List.eq_nil_of_length_eq_zero (by simpa using hl.symm)
      subst this
      go_enter Tryd.func20, Tryd.ntmps20
      go_wp2
      go_loopw [5] (fun vi wr => vi = .int .i64 0 ∧ wr = w) (fun _ _ => 0)
      case atStart => exact ⟨rfl, rfl⟩
      case round =>
        obtain ⟨rfl, rfl⟩ := hrel
        go_wp2
        go_ret
        exact ⟨rfl, Below.refl _ _⟩
    rcases hc2 with rfl | ⟨b2, off2, rfl, hlt2, hc2⟩
    · have : ss = [] := List.eq_nil_of_length_eq_zero (by simpa using hl)
      subst this
      go_enter Tryd.func20, Tryd.ntmps20
      go_wp2
      go_loopw [5] (fun vi wr => vi = .int .i64 0 ∧ wr = w) (fun _ _ => 0)
      case atStart => exact ⟨rfl, rfl⟩
      case round =>
        obtain ⟨rfl, rfl⟩ := hrel
        go_wp2
        go_ret
        exact ⟨rfl, Below.refl _ _⟩
    · have HL : Hid (ss.length = ts.length) := hl
      have hc2' : ∀ k (h : k < ts.length), w.cell? ⟨b2, off2 + k, none⟩ = some (.string ts[k]) := hc2
      have HC2 : Hid (∀ k (h : k < ts.length), w.cell? ⟨b2, off2 + k, none⟩ = some (.string ts[k])) := hc2'
      rw [← hl]
      clear hl hc2 hc2'
      go_enter Tryd.func20, Tryd.ntmps20
      go_wp2
      go_loopw [5] (fun vi wr => ∃ k : Nat, k ≤ ss.length ∧ vi = .int .i64 (k : Int) ∧ Hid (∀ j (h1 : j < ss.length) (h2 : j < ts.length), j < k → ss[j] = ts[j]) ∧ Below w.heap.size w wr) (fun vi _ => ss.length - (intOf vi).toNat)
      case atStart => exact ⟨0, Nat.zero_le _, rfl, fun j h1 h2 hj => by omega, Below.refl _ _⟩
      case round =>
        obtain ⟨k, hk, rfl, hy, hbr⟩ := hrel
        by_cases hlt' : k < ss.length
        · have hlt2' : k < ts.length := by have := HL.out; omega
          have hcx : wr.cell? ⟨b, off + k, none⟩ = some (.string ss[k]) := (hbr.cell (p := ⟨b, off + k, none⟩) hlt).trans (hc k hlt')
          have hcy : wr.cell? ⟨b2, off2 + k, none⟩ = some (.string ts[k]) := (hbr.cell (p := ⟨b2, off2 + k, none⟩) hlt2).trans (HC2.out k hlt2')
          obtain ⟨x, hx⟩ : ∃ x, x = ss[k] := ⟨_, rfl⟩
          obtain ⟨y, hy'⟩ : ∃ y, y = ts[k] := ⟨_, rfl⟩
          rw [← hx] at hcx
          rw [← hy'] at hcy
          have HX : Hid (x = ss[k]) := hx
          have HY : Hid (y = ts[k]) := hy'
          have hki : (k : Int) < (ss.length : Int) := by omega
          clear hc hx hy'
          go_wp2
          go_quiet (fail)
          go_wp2
          · have hne : (!x.toList == y.toList) = true := by assumption
            have hne' : ¬ ss = ts := fun e => by
              have e1 := HX.out; have e2 := HY.out; subst e; rw [← e2] at e1; subst e1; simp at hne
            go_ret
            exact ⟨by simp [hne'], below_drewN' hbr _⟩
          · have he : (!x.toList == y.toList) = false := by assumption
            have he' : x = y := bytes_eq_of_toList (by simpa using he)
            go_roundw
            case rel => exact ⟨k + 1, by omega, by go_num, fun j h1 h2 hj => (by
              by_cases e : j = k
              · subst e; rw [← HX.out, ← HY.out]; exact he'
              · exact hy.out j h1 h2 (by omega)), below_drewN' hbr _⟩
            case measure => simp [intOf]; omega
        · clear hc
          have he : k = ss.length := by omega
          subst he
          have e : ss = ts := strs_done HL.out (fun j h1 h2 => hy.out j h1 h2 h1)
          go_wp2
          go_ret
          exact ⟨by simp [e], hbr⟩
  · have hne : ¬ ss = ts := fun e => hl (by rw [e])
    have hl' : ((ss.length : Int) != (ts.length : Int)) = true := by simp; omega
    rw [decide_eq_false hne]
    clear hc hc2
    go_enter Tryd.func20, Tryd.ntmps20
    go_wp2
    go_ret
    exact ⟨rfl, Below.refl _ _⟩

theorem ge_false {a b : ByteArray} (h : bytesL a < bytesL b) : Op.bytesLess a.toList b.toList = true := by
  rw [ByteArray.toList_eq, ByteArray.toList_eq, bytesLess_eq]
  exact decide_eq_true h
theorem rises_next {ss : List ByteArray} (hr : risesS ss) (k : Nat) (hk : 0 < k) (h : k < ss.length) : bytesL (ss[k - 1]) < bytesL ss[k] := by
  have := List.pairwise_iff_getElem.1 hr (k - 1) k (by simp; omega) (by simpa using h) (by omega)
  simpa using this

set_option maxHeartbeats 1000000 in
set_option maxRecDepth 100000 in
theorem ascending_c (v : Value) (ss : List ByteArray) (w : World) (hv : Reads w v (strsV ss)) (hn : ss.length ≤ 1099511627776) (hr : risesS ss) :
    Calls Tryd.prog 19 #[v] w fun e w' => e = .returned (.bool true) ∧ Below w.heap.size w w' := by
  obtain ⟨a, cap, rfl, _, hc⟩ := reads_strs hv
  clear hv
  have HR : Hid (risesS ss) := hr
  clear hr
  go_enter Tryd.func19, Tryd.ntmps19
  go_wp2
  go_loopw [3] (fun vi wr => ∃ k : Nat, 0 < k ∧ k ≤ ss.length + 1 ∧ vi = .int .i64 (k : Int) ∧ Below w.heap.size w wr) (fun vi _ => ss.length + 1 - (intOf vi).toNat)
  case atStart => exact ⟨1, by omega, by omega, rfl, Below.refl _ _⟩
  case round =>
    obtain ⟨k, hk0, hk, rfl, hbr⟩ := hrel
    by_cases hlt' : k < ss.length
    · rcases hc with rfl | ⟨b, off, rfl, hlt, hc⟩
      · simp at hlt'
      have hcx : wr.cell? ⟨b, off + (k - 1), none⟩ = some (.string ss[k - 1]) := (hbr.cell (p := ⟨b, off + (k - 1), none⟩) hlt).trans (hc (k - 1) (by omega))
      have hcy : wr.cell? ⟨b, off + k, none⟩ = some (.string ss[k]) := (hbr.cell (p := ⟨b, off + k, none⟩) hlt).trans (hc k hlt')
      have hge := ge_false (rises_next HR.out k hk0 hlt')
      obtain ⟨x, hx⟩ : ∃ x, x = ss[k - 1] := ⟨_, rfl⟩
      obtain ⟨y, hy⟩ : ∃ y, y = ss[k] := ⟨_, rfl⟩
      rw [← hx] at hcx hge
      rw [← hy] at hcy hge
      have hki : (k : Int) < (ss.length : Int) := by omega
      have hk1 : (k : Int) - 1 < (ss.length : Int) := by omega
      clear hc hx hy
      go_wp2
      go_quiet (fail)
      go_wp2
      go_roundw
      case rel => exact ⟨k + 1, by omega, by omega, by go_num, below_drewN' hbr _⟩
      case measure => simp [intOf]; omega
    · clear hc
      go_wp2
      go_ret
      exact ⟨rfl, hbr⟩
end Go.Proofs.YthapeknfhlpadaaDoor
