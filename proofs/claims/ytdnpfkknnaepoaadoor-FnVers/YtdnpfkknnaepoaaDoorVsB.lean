/-
  What the functions that draw texts of versions, and hold versions against each other, answer: contracts for the walks; conditions: what comes in lies in memory as told.
-/
import Derived.Test.YtdnpfkknnaepoaaDoorVsA
import Derived.Test.YtdnpfkknnaepoaaDoorVerE
import Derived.Test.YtdnpfkknnaepoaaDoorVerU
import Derived.Test.YtdnpfkknnaepoaaDoorVerBk2
namespace Go.Proofs.YtdnpfkknnaepoaaDoor
open Go.RowKit
set_option linter.unusedSimpArgs false
set_option linter.unusedVariables false
attribute [local go_sem ↓] Go.wp_at_zero Go.wp_at_succ

set_option maxHeartbeats 2000000 in
set_option maxRecDepth 100000 in
theorem drawVerText_c (v : Value) (zs : List Int) (w : World) (hr : Reads w v (bytesV zs)) (hn : zs.length ≤ 1048576) (hz : ∀ z ∈ zs, 0 ≤ z ∧ z ≤ 255) :
    Calls Tryd.prog 7 #[v] w fun e w' => ∃ (a b c : Int) (u : Value) (ps : List ByteArray), e = .returned (.agg #[.int .i64 a, .int .i64 b, .int .i64 c, u]) ∧ Reads w' u (strsV ps) ∧ smallP 4 ps ∧ Below w.heap.size w w' := by
  have hbx : ∀ o, Below w.heap.size w (w.alloc o) := fun o => (Below.refl _ _).alloc (Nat.le_refl _) _
  have A0 := four_new w 26 (.int .i64 0) (.int .i64 0) (.int .i64 0) (.slice none 0 0)
  have HN := new_c v zs (w.alloc (.cells #[.int .i64 0, .int .i64 0, .int .i64 0, .slice none 0 0] 26)) (hr.below (hbx _)) hn hz
  have hs0 : (w.alloc (.cells #[.int .i64 0, .int .i64 0, .int .i64 0, .slice none 0 0] 26)).heap.size = w.heap.size + 1 := by simp
  obtain ⟨qv, cv, hv, _, _⟩ := reads_bytes hr
  subst hv
  clear hr
  go_enter Tryd.func7, Tryd.ntmps7
  go_wp2_with fail
  go_at_call 28
  refine HN.mono ?_
  rintro e w1 ⟨g, rfl, c1, b1⟩
  have A1 := A0.keep b1
  have k1 := (hbx (.cells #[.int .i64 0, .int .i64 0, .int .i64 0, .slice none 0 0] 26)).trans (b1.mono (by simp))
  rw [hs0] at c1
  have hg : w.heap.size + 1 ≤ g := c1.1
  have l1 := cur_lt c1
  clear A0 HN b1 hs0
  go_wp2_with fail
  go_at_call 29
  refine (any_c (w.heap.size + 1) g zs w1 c1 A1.lt).mono ?_
  rintro e w2 ⟨a, b, c, u, ps, rfl, o2, s2, c2, g2⟩
  have A2 := A1.turned g2 (by simp; omega)
  have k2 := below_turned k1 g2 (k1.size) (fun k hk => by injection hk; omega)
  obtain ⟨q, n, cap, hu⟩ : ∃ q n cap, u = .slice q n cap := by rcases o2.2 with ⟨rfl, _⟩ | ⟨g, cap, cur, rfl, _⟩ <;> exact ⟨_, _, _, rfl⟩
  subst hu
  obtain ⟨x0, x1, x2, x3⟩ := A2.cells
  have fx := A2.ice
  have l2 := A2.lt
  clear A1 c1 g2
  go_wp2_with fail
  refine bodyPost_ret (v := .agg #[.int .i64 a, .int .i64 b, .int .i64 c, .slice q n cap]) (by simp [results, Tryd.results7, go_sem, x0, x1, x2, x3]) rfl ⟨a, b, c, _, ps, rfl, ?_, s2, ?_⟩
  · exact reads_of_owns (owns_put4 o2 A2 (by decide) _ _ _ _)
  · exact below_put4 k2 (Nat.le_refl _) _ _ _ _
set_option maxHeartbeats 1000000 in
set_option maxRecDepth 100000 in
theorem sameTextsL_c (v u : Value) (ss ts : List ByteArray) (w : World) (hv : Reads w v (strsV ss)) (hu : Reads w u (strsV ts)) (hn : ss.length ≤ 1099511627776) :
    Calls Tryd.prog 46 #[v, u] w fun e w' => e = .returned (.bool (decide (ss = ts))) ∧ Below w.heap.size w w' := by
  obtain ⟨a, cap, rfl, _, hc⟩ := reads_strs hv
  obtain ⟨a2, cap2, rfl, _, hc2⟩ := reads_strs hu
  clear hv hu
  by_cases hl : ss.length = ts.length
  · rcases hc with rfl | ⟨b, off, rfl, hlt, hc⟩
    · have : ts = [] := List.eq_nil_of_length_eq_zero (by simpa using hl.symm)
      subst this
      go_enter Tryd.func46, Tryd.ntmps46
      go_wp2
      go_loopw [5] (fun vi wr => vi = .int .i64 0 ∧ wr = w) (fun _ _ => 0)
      case atStart => exact ⟨rfl, rfl⟩
      case round =>
        obtain ⟨rfl, rfl⟩ := hrel
        go_wp2
        go_ret
        exact ⟨rfl, Below.refl _ _⟩
    rcases hc2 with rfl | ⟨b2, off2, rfl, hlt2, hc2⟩
    · have : ss = [] := List.eq_nil_of_length_eq_zero (by simpa using hl)
      subst this
      go_enter Tryd.func46, Tryd.ntmps46
      go_wp2
      go_loopw [5] (fun vi wr => vi = .int .i64 0 ∧ wr = w) (fun _ _ => 0)
      case atStart => exact ⟨rfl, rfl⟩
      case round =>
        obtain ⟨rfl, rfl⟩ := hrel
        go_wp2
        go_ret
        exact ⟨rfl, Below.refl _ _⟩
    · have HL : Hid (ss.length = ts.length) := hl
      have hc2' : ∀ k (h : k < ts.length), w.cell? ⟨b2, off2 + k, none⟩ = some (.string ts[k]) := hc2
      have HC2 : Hid (∀ k (h : k < ts.length), w.cell? ⟨b2, off2 + k, none⟩ = some (.string ts[k])) := hc2'
      rw [← hl]
      clear hl hc2 hc2'
      go_enter Tryd.func46, Tryd.ntmps46
      go_wp2
      go_loopw [5] (fun vi wr => ∃ k : Nat, k ≤ ss.length ∧ vi = .int .i64 (k : Int) ∧ Hid (∀ j (h1 : j < ss.length) (h2 : j < ts.length), j < k → ss[j] = ts[j]) ∧ Below w.heap.size w wr) (fun vi _ => ss.length - (intOf vi).toNat)
      case atStart => exact ⟨0, Nat.zero_le _, rfl, fun j h1 h2 hj => by omega, Below.refl _ _⟩
      case round =>
        obtain ⟨k, hk, rfl, hy, hbr⟩ := hrel
        by_cases hlt' : k < ss.length
        · have hlt2' : k < ts.length := by have := HL.out; omega
          have hcx : wr.cell? ⟨b, off + k, none⟩ = some (.string ss[k]) := (hbr.cell (p := ⟨b, off + k, none⟩) hlt).trans (hc k hlt')
          have hcy : wr.cell? ⟨b2, off2 + k, none⟩ = some (.string ts[k]) := (hbr.cell (p := ⟨b2, off2 + k, none⟩) hlt2).trans (HC2.out k hlt2')
          obtain ⟨x, hx⟩ : ∃ x, x = ss[k] := ⟨_, rfl⟩
          obtain ⟨y, hy'⟩ : ∃ y, y = ts[k] := ⟨_, rfl⟩
          rw [← hx] at hcx
          rw [← hy'] at hcy
          have HX : Hid (x = ss[k]) := hx
          have HY : Hid (y = ts[k]) := hy'
          have hki : (k : Int) < (ss.length : Int) := by omega
          clear hc hx hy'
          go_wp2
          go_quiet (fail)
          go_wp2
          · have hne : (!x.toList == y.toList) = true := by assumption
            have hne' : ¬ ss = ts := fun e => by
              have e1 := HX.out; have e2 := HY.out; subst e; rw [← e2] at e1; subst e1; simp at hne
            go_ret
            exact ⟨by simp [hne'], below_drewN' hbr _⟩
          · have he : (!x.toList == y.toList) = false := by assumption
            have he' : x = y := bytes_eq_of_toList (by simpa using he)
            go_roundw
            case rel => exact ⟨k + 1, by omega, by go_num, fun j h1 h2 hj => (by
              by_cases e : j = k
              · subst e; rw [← HX.out, ← HY.out]; exact he'
              · exact hy.out j h1 h2 (by omega)), below_drewN' hbr _⟩
            case measure => simp [intOf]; omega
        · clear hc
          have he : k = ss.length := by omega
          subst he
          have e : ss = ts := strs_done HL.out (fun j h1 h2 => hy.out j h1 h2 h1)
          go_wp2
          go_ret
          exact ⟨by simp [e], hbr⟩
  · have hne : ¬ ss = ts := fun e => hl (by rw [e])
    have hl' : ((ss.length : Int) != (ts.length : Int)) = true := by simp; omega
    rw [decide_eq_false hne]
    clear hc hc2
    go_enter Tryd.func46, Tryd.ntmps46
    go_wp2
    go_ret
    exact ⟨rfl, Below.refl _ _⟩

set_option maxHeartbeats 1000000 in
set_option maxRecDepth 100000 in
theorem sameVerL_c (a b c : Int) (u : Value) (ps : List ByteArray) (a' b' c' : Int) (u' : Value) (ps' : List ByteArray) (w : World) (hu : Reads w u (strsV ps)) (hu' : Reads w u' (strsV ps')) (hn : ps.length ≤ 1048576) :
    Calls Tryd.prog 17 #[.agg #[.int .i64 a, .int .i64 b, .int .i64 c, u], .agg #[.int .i64 a', .int .i64 b', .int .i64 c', u']] w fun e w' => e = .returned (.bool (sameB a b c ps a' b' c' ps')) ∧ Below w.heap.size w w' := by
  have hru : ∀ w1, Below w.heap.size w w1 → Reads w1 u (strsV ps) ∧ Reads w1 u' (strsV ps') := fun w1 h => ⟨hu.below h, hu'.below h⟩
  have HS : Hid (∀ w1, Below w.heap.size w w1 → Calls Tryd.prog 46 #[u, u'] w1 fun e w' => e = .returned (.bool (decide (ps = ps'))) ∧ Below w1.heap.size w1 w') := fun w1 h => sameTextsL_c u u' ps ps' w1 (hru w1 h).1 (hru w1 h).2 (by omega)
  obtain ⟨q, cap, rfl, _, _⟩ := reads_strs hu
  obtain ⟨q', cap', rfl, _, _⟩ := reads_strs hu'
  clear hu hu' hru
  have EF : Hid (coreB a b c a' b' c' = false → sameB a b c ps a' b' c' ps' = false) := fun h => by rw [sameB, h]; rfl
  cases ha : (a == a') with
  | false =>
    rw [EF.out (by rw [coreB, ha]; rfl)]
    go_enter Tryd.func17, Tryd.ntmps17
    go_wp2
    go_ret
    exact ⟨rfl, two_box _ _⟩
  | true =>
  cases hb : (b == b') with
  | false =>
    rw [EF.out (by rw [coreB, hb, Bool.and_false]; rfl)]
    go_enter Tryd.func17, Tryd.ntmps17
    go_wp2
    go_ret
    exact ⟨rfl, two_box _ _⟩
  | true =>
  cases hc : (c == c') with
  | false =>
    rw [EF.out (by rw [coreB, hc, Bool.and_false])]
    go_enter Tryd.func17, Tryd.ntmps17
    go_wp2
    go_ret
    exact ⟨rfl, two_box _ _⟩
  | true =>
    have e : sameB a b c ps a' b' c' ps' = decide (ps = ps') := by rw [sameB, coreB, ha, hb, hc]; rfl
    rw [e]
    clear e EF
    go_enter Tryd.func17, Tryd.ntmps17
    go_wp2_with (go_at_call 46; refine (HS.out _ (two_box _ _)).mono ?_; rintro e w2 ⟨rfl, b2⟩)
    go_ret
    exact ⟨rfl, (two_box _ _).trans (b2.mono (by simp; omega))⟩

theorem size_app (x y : ByteArray) : (x ++ y).size = x.size + y.size := ByteArray.size_append
theorem join_two (ps : List ByteArray) (h : smallP 2 ps) : (joinS ps ⟨#[46]⟩).size ≤ 19 := by
  obtain ⟨hl, hs⟩ := h
  match ps, hl, hs with
  | [], _, _ => decide
  | [x], _, hs => rw [vjoinS_one]; have := hs x (by simp); omega
  | [x, y], _, hs =>
    rw [vjoinS_cons _ _ _ (by simp), vjoinS_one, size_app, size_app]
    have h1 := hs x (by simp)
    have h2 := hs y (by simp)
    have h3 : (⟨#[46]⟩ : ByteArray).size = 1 := rfl
    omega
theorem verT_small (a b c : Int) (ps : List ByteArray) (h : smallP 2 ps) : (verT a b c ps).size ≤ 40 := by
  unfold verT
  split
  · rename_i hv
    obtain ⟨h1, h2, h3⟩ := verB_nums hv
    have r1 := in_range h1
    have r2 := in_range h2
    have r3 := in_range h3
    have n1 := numStr_four a.toNat (by omega)
    have n2 := numStr_four b.toNat (by omega)
    have n3 := numStr_four c.toNat (by omega)
    have e1 : (⟨#[46]⟩ : ByteArray).size = 1 := rfl
    have e2 : (⟨#[45]⟩ : ByteArray).size = 1 := rfl
    have hc : (coreT a b c).size ≤ 14 := by
      unfold coreT
      rw [size_app, size_app, size_app, size_app]
      omega
    split
    · rw [size_app, size_app]
      have := join_two ps h
      omega
    · omega
  · have : (⟨#[]⟩ : ByteArray).size = 0 := rfl
    omega

theorem vs_bulk {n : Nat} {ps : List ByteArray} (h : smallP n ps) (hn : n ≤ 4) : bulkS ps ≤ 1048576 := by
  have h2 : ∀ l : List ByteArray, (∀ t ∈ l, t.size ≤ 9) → (l.map ByteArray.size).sum ≤ 9 * l.length := by
    intro l
    induction l with
    | nil => simp
    | cons x l ih =>
      intro hl
      have := ih (fun t ht => hl t (List.mem_cons_of_mem _ ht))
      have := hl x (List.mem_cons_self ..)
      simp only [List.map_cons, List.sum_cons, List.length_cons]
      omega
  have := h2 ps h.2
  have := h.1
  unfold bulkS
  omega
def badVers : List ByteArray := [⟨#[]⟩, ⟨#[49, 46, 50]⟩, ⟨#[49, 46, 50, 46, 51, 46, 52]⟩, ⟨#[48, 49, 46, 50, 46, 51]⟩, ⟨#[49, 46, 50, 46, 51, 45]⟩, ⟨#[49, 46, 50, 46, 51, 45, 48, 49]⟩, ⟨#[49, 46, 50, 46, 51, 45, 97, 46, 46, 98]⟩, ⟨#[49, 46, 50, 46, 51, 45, 97, 45, 98]⟩, ⟨#[49, 46, 50, 46, 120]⟩, ⟨#[49, 48, 48, 48, 48, 46, 48, 46, 48]⟩, ⟨#[118, 49, 46, 50, 46, 51]⟩, ⟨#[49, 46, 50, 46, 51, 45, 97, 46, 98, 46, 99, 46, 100]⟩, ⟨#[57, 57, 57, 57, 46, 48, 46, 48, 45, 48]⟩]
def bends : List ByteArray := [⟨#[46]⟩, ⟨#[45]⟩, ⟨#[48]⟩, ⟨#[120]⟩, ⟨#[32]⟩]
theorem badVers_small : ∀ t ∈ badVers, t.size ≤ 20 := by decide +kernel
theorem bends_small : ∀ t ∈ bends, t.size ≤ 1 := by decide +kernel

set_option maxHeartbeats 4000000 in
set_option maxRecDepth 100000 in
theorem drawParseVer_c (v : Value) (zs : List Int) (w : World) (hr : Reads w v (bytesV zs)) (hn : zs.length ≤ 1048576) (hz : ∀ z ∈ zs, 0 ≤ z ∧ z ≤ 255) :
    Calls Tryd.prog 9 #[v] w fun e w' => ∃ s : ByteArray, s.size ≤ 100 ∧ e = .returned (.string s) ∧ Below w.heap.size w w' := by
  have HN := new_c v zs w hr hn hz
  obtain ⟨qv, cv, hv, _, _⟩ := reads_bytes hr
  subst hv
  clear hr
  go_enter Tryd.func9, Tryd.ntmps9
  go_wp2_with fail
  go_at_call 28
  refine HN.mono ?_
  rintro e w1 ⟨g, rfl, c1, b1⟩
  have hg : w.heap.size ≤ g := c1.1
  have hrg : ∀ k, (some g) = some k → w.heap.size ≤ k := fun k hk => by injection hk; omega
  clear HN
  go_wp2_with fail
  go_at_call 33
  refine (draw_c w.heap.size g zs w1 c1 b1.size).mono ?_
  rintro e w2 ⟨a, b, c, u, ps, rfl, o2, s2, c2, g2⟩
  have k2 := below_turned b1 g2 b1.size hrg
  have hbk : bulkS ps ≤ 1048576 := vs_bulk (small_more s2) (by omega)
  obtain ⟨qa, na, ca, hu⟩ : ∃ q n cap, u = .slice q n cap := by rcases o2.2 with ⟨rfl, _⟩ | ⟨g, cap, cur, rfl, _⟩ <;> exact ⟨_, _, _, rfl⟩
  subst hu
  have hsz := verT_small a b c ps s2
  have HT := specVerText_c a b c _ ps w2 (reads_of_owns o2) hbk
  obtain ⟨s, hs⟩ : ∃ s, s = verT a b c ps := ⟨_, rfl⟩
  rw [← hs] at HT hsz
  clear g2 c1 hs o2 hbk s2
  go_wp2_with fail
  go_at_call 32
  refine HT.mono ?_
  rintro e w3 ⟨rfl, b3⟩
  have k3 := k2.trans (b3.mono k2.size)
  have c3 := cur_grown c2 (grown_of_below b3 none) (by simp) (by simp)
  clear HT c2 b3 k2 b1
  go_wp2_with fail
  go_at_call 34
  refine (below_c w.heap.size g zs 4 w3 c3).mono ?_
  rintro e w4 ⟨x, rfl, hx, c4, g4⟩
  have k4 := below_turned k3 g4 k3.size hrg
  have hx4 : x < 4 := by have := hx (by omega); omega
  clear hx c3 g4 k3
  by_cases hx0 : x = 0
  · subst hx0
    have HS := str_at w.heap.size g zs badVers w4 c4 (by decide) (by decide)
    have kA := k4.alloc k4.size (.cells (badVers.map Value.string).toArray 9)
    go_wp2_with (go_at_call 35; refine HS.mono ?_; rintro e w5 ⟨t, ht, rfl, c5, g5⟩)
    go_ret
    exact ⟨t, by have := badVers_small t ht; omega, rfl, below_turned kA g5 kA.size hrg⟩
  by_cases hx1 : x = 1
  · subst hx1
    have hsi : ((s.size : Nat) : Int) + 1 ≤ 1000 := by omega
    go_wp2_with fail
    go_at_call 34
    refine (below_c w.heap.size g zs _ w4 c4).mono ?_
    rintro e w5 ⟨k, rfl, hk, c5, g5⟩
    have k5 := below_turned k4 g5 k4.size hrg
    have hk5 : k ≤ s.size := by have := hk (by omega); omega
    have hki : (k : Int) ≤ (s.size : Int) := by omega
    have HS := str_at_d w.heap.size g zs bends w5 c5 (by decide) (by decide)
    have kA := k5.alloc k5.size (.cells (bends.map Value.string).toArray 9)
    clear hk g5 c4 k4 hx0 hx4
    go_wp2_with fail
    refine wp_region_held_drew (S := (fun _ => True)) (by kernel_rfl) ?SR10 (fun hHeld => ?_)
    case SR10 => (first | done | exact True.intro)
    refine wpAnyH_take (i := 0) (oi := _) (v := ?vR10) rfl (by kernel_rfl) (by kernel_rfl) (by kernel_rfl) (fun _ _ _ h => h) (Or.inl ⟨by rfl, ?yR10⟩) hHeld ?_
    case yR10 => (intro w hSw; (try dsimp only at hSw); go_simp <;> with_reducible rfl)
    try simp only [Act.put, List.getElem_toArray, List.getElem_cons_zero, List.getElem_cons_succ, List.setIfInBounds_toArray, List.set_cons_zero, List.set_cons_succ]
    refine wpAnyH_take (i := 1) (oi := _) (v := ?vR11) rfl (by kernel_rfl) (by kernel_rfl) (by kernel_rfl) (fun _ _ _ h => h) (Or.inl ⟨by rfl, ?yR11⟩) hHeld ?_
    case yR11 => (intro w hSw; (try dsimp only at hSw); go_simp <;> with_reducible rfl)
    try simp only [Act.put, List.getElem_toArray, List.getElem_cons_zero, List.getElem_cons_succ, List.setIfInBounds_toArray, List.set_cons_zero, List.set_cons_succ]
    refine wpAnyH_take (i := 2) (oi := _) (v := ?vR12) rfl (by kernel_rfl) (by kernel_rfl) (by kernel_rfl) (fun _ _ _ h => h) (Or.inl ⟨by rfl, ?yR12⟩) hHeld ?_
    case yR12 => (intro w hSw; (try dsimp only at hSw); go_simp <;> with_reducible rfl)
    try simp only [Act.put, List.getElem_toArray, List.getElem_cons_zero, List.getElem_cons_succ, List.setIfInBounds_toArray, List.set_cons_zero, List.set_cons_succ]
    refine wpAnyH_take (i := 3) (oi := _) (v := ?vR13) rfl (by kernel_rfl) (by kernel_rfl) (by kernel_rfl) (fun _ _ _ h => h) (Or.inl ⟨by rfl, ?yR13⟩) hHeld ?_
    case yR13 => (intro w hSw; (try dsimp only at hSw); go_simp <;> with_reducible rfl)
    try simp only [Act.put, List.getElem_toArray, List.getElem_cons_zero, List.getElem_cons_succ, List.setIfInBounds_toArray, List.set_cons_zero, List.set_cons_succ]
    refine wpAnyH_take (i := 7) (oi := _) (v := ?vR14) rfl (by kernel_rfl) (by kernel_rfl) (by kernel_rfl) (fun _ _ _ h => h) (Or.inl ⟨by rfl, ?yR14⟩) hHeld ?_
    case yR14 => (intro w hSw; (try dsimp only at hSw); go_simp <;> with_reducible rfl)
    try simp only [Act.put, List.getElem_toArray, List.getElem_cons_zero, List.getElem_cons_succ, List.setIfInBounds_toArray, List.set_cons_zero, List.set_cons_succ]
    refine wpAnyH_take (i := 8) (oi := _) (v := ?vR15) rfl (by kernel_rfl) (by kernel_rfl) (by kernel_rfl) (fun _ _ _ h => h) (Or.inl ⟨by rfl, ?yR15⟩) hHeld ?_
    case yR15 => (intro w hSw; (try dsimp only at hSw); go_simp <;> with_reducible rfl)
    try simp only [Act.put, List.getElem_toArray, List.getElem_cons_zero, List.getElem_cons_succ, List.setIfInBounds_toArray, List.set_cons_zero, List.set_cons_succ]
    refine wpAnyH_take (i := 9) (oi := _) (v := ?vR16) rfl (by kernel_rfl) (by kernel_rfl) (by kernel_rfl) (fun _ _ _ h => h) (Or.inl ⟨by rfl, ?yR16⟩) hHeld ?_
    case yR16 => (intro w hSw; (try dsimp only at hSw); go_simp <;> with_reducible rfl)
    try simp only [Act.put, List.getElem_toArray, List.getElem_cons_zero, List.getElem_cons_succ, List.setIfInBounds_toArray, List.set_cons_zero, List.set_cons_succ]
    refine wpAnyH_ready (rs := [4]) (by kernel_rfl) (by simp) ?_
    refine AllReadyH.cons rfl (fun K hK => ?_) AllReadyH.nil
    go_simp
    clear hHeld
    refine hK.out _ _ ?SR18 (fun hHeld => ?_)
    case SR18 => ((try dsimp only); first | done | exact True.intro)
    clear hK K
    refine wpAnyH_ready (rs := [5]) (by kernel_rfl) (by simp) ?_
    refine AllReadyH.cons rfl (fun K hK => ?_) AllReadyH.nil
    go_simp
    go_wp2_with (go_at_call 35; refine HS.mono ?_; rintro e w6 ⟨t, ht, rfl, c6, g6⟩; have ht1 := bends_small t ht; have hcat : ¬ 9223372036854775807 < k + t.size := (by omega); have hcat2 : ¬ 9223372036854775807 < k + t.size + (s.size - k) := (by omega))
    clear hHeld
    refine hK.out _ _ ?SR19 (fun hHeld => ?_)
    case SR19 => ((try dsimp only); first | done | exact True.intro)
    clear hK K
    refine wpAnyH_take (i := 6) (oi := _) (v := ?vR19) rfl (by kernel_rfl) (by kernel_rfl) (by kernel_rfl) (fun _ _ _ h => h) (Or.inl ⟨by rfl, ?yR19⟩) hHeld ?_
    case yR19 => (intro w hSw; (try dsimp only at hSw); go_simp <;> with_reducible rfl)
    try simp only [Act.put, List.getElem_toArray, List.getElem_cons_zero, List.getElem_cons_succ, List.setIfInBounds_toArray, List.set_cons_zero, List.set_cons_succ]
    refine wpAnyH_take (i := 10) (oi := _) (v := ?vR110) rfl (by kernel_rfl) (by kernel_rfl) (by kernel_rfl) (fun _ _ _ h => h) (Or.inl ⟨by rfl, ?yR110⟩) hHeld ?_
    case yR110 => (intro w hSw; (try dsimp only at hSw); go_simp <;> with_reducible rfl)
    try simp only [Act.put, List.getElem_toArray, List.getElem_cons_zero, List.getElem_cons_succ, List.setIfInBounds_toArray, List.set_cons_zero, List.set_cons_succ]
    refine wpAnyH_take (i := 11) (oi := _) (v := ?vR111) rfl (by kernel_rfl) (by kernel_rfl) (by kernel_rfl) (fun _ _ _ h => h) (Or.inl ⟨by rfl, ?yR111⟩) hHeld ?_
    case yR111 => (intro w hSw; (try dsimp only at hSw); go_simp <;> with_reducible rfl)
    try simp only [Act.put, List.getElem_toArray, List.getElem_cons_zero, List.getElem_cons_succ, List.setIfInBounds_toArray, List.set_cons_zero, List.set_cons_succ]
    refine wpAnyH_done (by kernel_rfl) ?_ _
    go_wp2_with fail
    go_ret
    refine ⟨_, ?_, rfl, below_turned kA.drew g6 kA.size hrg⟩
    rw [size_app, size_app, ByteArray.size_extract, ByteArray.size_extract]
    omega
  · have hx0' : ((x : Int) == 0) = false := by rw [beq_eq_false_iff_ne]; omega
    have hx1' : ((x : Int) == 1) = false := by rw [beq_eq_false_iff_ne]; omega
    go_wp2_with fail
    go_ret
    exact ⟨s, by omega, rfl, k4⟩
end Go.Proofs.YtdnpfkknnaepoaaDoor
