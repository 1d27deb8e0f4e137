/-
  What the law's helpers over versions answer (how much there is, a copy, whether two are alike): contracts for the walks; conditions: the lists of texts lie in memory as told.
-/
import Derived.Test.YtbolphjigjpmiaaKeep
namespace Go.Proofs.Ytbolphjigjpmiaa
open Go.RowKit
set_option linter.unusedSimpArgs false
set_option linter.unusedVariables false

theorem owns_set {w : World} {base : Nat} {e : TypeId} {v : Value} {n : Nat} {xs : List Value} (h : w.ownsRow base e 1 v n xs) {p : Addr} (hp : p.block < base) (x : Value) : (w.setCell p x).ownsRow base e 1 v n xs := by
  obtain ⟨h1, h2⟩ := h
  refine ⟨h1, ?_⟩
  rcases h2 with h2 | ⟨g, cap, cur, a, b, c, d⟩
  · exact .inl h2
  · exact .inr ⟨g, cap, cur, a, b, by rw [Below.heap_setCell _ _ _ _ (by omega)]; exact c, d⟩

/-- A parameter that was put into a block of its own is still there behind a call. -/
theorem box4 {w w1 : World} {c0 c1 c2 c3 : Value} {t : TypeId} (hb : Below (w.alloc (.cells #[c0, c1, c2, c3] t)).heap.size (w.alloc (.cells #[c0, c1, c2, c3] t)) w1) :
    w1.cell? ⟨w.heap.size, 0, none⟩ = some c0 ∧ w1.cell? ⟨w.heap.size, 1, none⟩ = some c1 ∧ w1.cell? ⟨w.heap.size, 2, none⟩ = some c2 ∧ w1.cell? ⟨w.heap.size, 3, none⟩ = some c3 := by
  have h : ∀ j, w1.cell? ⟨w.heap.size, j, none⟩ = (#[c0, c1, c2, c3] : Array Value)[j]? := fun j => by
    rw [hb.cell (p := ⟨w.heap.size, j, none⟩) (by simp)]
    exact vblk_cell (vheap_new _ _) j
  exact ⟨h 0, h 1, h 2, h 3⟩

def saneP (ps : List ByteArray) : Prop := ps.length ≤ maxLen ∧ ∀ s ∈ ps, s.size ≤ maxLen

set_option maxHeartbeats 1000000 in
set_option maxRecDepth 100000 in
theorem sizeStrsL_c (v : Value) (ss : List ByteArray) (w : World) (left : Int) (hl0 : 0 ≤ left) (hl1 : left ≤ 1048576) (hv : Reads w v (strsV ss)) (hn : ss.length ≤ maxLen) (hs : ∀ s ∈ ss, s.size ≤ maxLen) :
    Calls Try.prog 37 #[v, .int .i64 left] w fun e w' => e = .returned (.int .i64 (leftS ss left)) ∧ w = w' := by
  obtain ⟨a, cap, rfl, _, hc⟩ := reads_strs hv
  clear hv
  unfold maxLen at hn hs
  by_cases h0 : left < (ss.length : Int)
  · have hneg : left - (ss.length : Int) < 0 := by omega
    have e : leftS ss left = -1 := by rw [leftS, bulkS, if_neg (by omega)]
    rw [e]
    clear hc hs
    go_enter Try.func37, Try.ntmps37
    go_wp2
    go_ret
    exact ⟨rfl, rfl⟩
  · have hpos : ¬ (left - (ss.length : Int) < 0) := by omega
    rcases hc with rfl | ⟨b, off, rfl, hlt, hc⟩
    · go_enter Try.func37, Try.ntmps37
      go_wp2
      go_loop [1, 5] (fun vl vi => vl = .int .i64 left ∧ vi = .int .i64 0) (fun _ _ => 0)
      case atStart => exact ⟨rfl, rfl⟩
      case round =>
        obtain ⟨rfl, rfl⟩ := hrel
        go_wp2
        go_ret
        exact ⟨by rw [show leftS [] left = left by simp [leftS, bulkS, hl0]]; rfl, rfl⟩
    · go_enter Try.func37, Try.ntmps37
      go_wp2
      go_loop [1, 5] (fun vl vi => ∃ (k : Nat) (l : Int), k ≤ ss.length ∧ vi = .int .i64 (k : Int) ∧ vl = .int .i64 l ∧ 0 ≤ l ∧ l ≤ 1048576 ∧ Hid (l = left - (ss.length : Int) - (((ss.take k).map ByteArray.size).sum : Int))) (fun _ vi => ss.length - (intOf vi).toNat)
      case atStart => exact ⟨0, _, Nat.zero_le _, rfl, rfl, by omega, by omega, by show _ = _; simp⟩
      case round =>
        obtain ⟨k, l, hk, rfl, rfl, hq0, hq1, hl⟩ := hrel
        by_cases hlt' : k < ss.length
        · have hcx := hc k hlt'
          have hsk := hs ss[k] (List.getElem_mem hlt')
          have hsum := sum_take_succ ss k hlt'
          obtain ⟨t, ht⟩ : ∃ t, t = ss[k] := ⟨_, rfl⟩
          rw [← ht] at hcx hsk hsum
          have HS : Hid (((ss.take (k + 1)).map ByteArray.size).sum = ((ss.take k).map ByteArray.size).sum + t.size) := hsum
          have hki : (k : Int) < (ss.length : Int) := by omega
          clear hc hs ht hsum
          by_cases hneg : l - (t.size : Int) < 0
          · have e : leftS ss left = -1 := by
              have h1 := HS.out; have h2 := hl.out; have h3 := sum_take_le ss (k + 1)
              rw [leftS, bulkS, if_neg (by omega)]
            have HE : Hid (leftS ss left = -1) := e
            clear e
            go_wp2
            go_ret
            exact ⟨by rw [HE.out]; rfl, rfl⟩
          · go_wp2
            go_round
            case rel => exact ⟨k + 1, l - (t.size : Int), by omega, by go_num, rfl, by omega, by omega, (by show _ = _; rw [HS.out, hl.out]; omega)⟩
            case measure => simp [intOf]; omega
        · have he : k = ss.length := by omega
          subst he
          have e : leftS ss left = l := by
            have h2 := hl.out
            rw [List.take_length] at h2
            rw [leftS, bulkS, if_pos (by omega)]; omega
          have HE : Hid (leftS ss left = l) := e
          clear hc hs e
          go_wp2
          go_ret
          exact ⟨by rw [HE.out]; rfl, rfl⟩

theorem szVer_c (a b c : Int) (u : Value) (ps : List ByteArray) (left : Int) (hl0 : 0 ≤ left) (hl1 : left ≤ 1048576) (w : World) (hu : Reads w u (strsV ps)) (hs : saneP ps) :
    Calls Try.prog 85 #[.agg #[.int .i64 a, .int .i64 b, .int .i64 c, u], .int .i64 left] w fun e w' => e = .returned (.int .i64 (leftS ps left)) ∧ Below w.heap.size w w' := by
  have hbx : ∀ o, Below w.heap.size w (w.alloc o) := fun o => (Below.refl _ _).alloc (Nat.le_refl _) _
  have hr : ∀ o, Reads (w.alloc o) u (strsV ps) := fun o => hu.below (hbx o)
  obtain ⟨p, hp⟩ : ∃ p, p = leftS ps left := ⟨_, rfl⟩
  have HS : Hid (∀ o, Calls Try.prog 37 #[u, .int .i64 left] (w.alloc o) fun e w' => e = .returned (.int .i64 p) ∧ w.alloc o = w') := fun o => by rw [hp]; exact sizeStrsL_c u ps _ left hl0 hl1 (hr o) hs.1 hs.2
  have hneg : p < 0 → p = -1 := by
    rw [hp]; unfold leftS; split <;> intro h
    · omega
    · rfl
  have HN : Hid (p < 0 → p = -1) := hneg
  rw [← hp]
  obtain ⟨q, cap, rfl, _, _⟩ := reads_strs hu
  clear hneg hp hu hr hs
  by_cases h : p < 0
  · have e := HN.out h
    subst e
    go_enter Try.func85, Try.ntmps85
    go_wp2_with (go_at_call 37; refine (HS.out _).mono ?_; rintro e w1 ⟨rfl, rfl⟩)
    go_ret
    exact ⟨rfl, hbx _⟩
  · go_enter Try.func85, Try.ntmps85
    go_wp2_with (go_at_call 37; refine (HS.out _).mono ?_; rintro e w1 ⟨rfl, rfl⟩)
    go_ret
    exact ⟨rfl, hbx _⟩

set_option maxHeartbeats 1000000 in
set_option maxRecDepth 100000 in
theorem eqVer_c (a b c : Int) (u u' : Value) (ps : List ByteArray) (w : World) (hu : Reads w u (strsV ps)) (hu' : Reads w u' (strsV ps)) (hn : ps.length ≤ 1048576) :
    Calls Try.prog 31 #[.agg #[.int .i64 a, .int .i64 b, .int .i64 c, u], .agg #[.int .i64 a, .int .i64 b, .int .i64 c, u']] w fun e w' => e = .returned (.bool true) ∧ Below w.heap.size w w' := by
  have hbx : ∀ o o', Below w.heap.size w ((w.alloc o).alloc o') := fun o o' => ((Below.refl _ _).alloc (Nat.le_refl _) _).alloc (by simp) _
  have HS : Hid (∀ o o', Calls Try.prog 43 #[u, u'] ((w.alloc o).alloc o') fun e w' => e = .returned (.bool true) ∧ Below ((w.alloc o).alloc o').heap.size ((w.alloc o).alloc o') w') := fun o o' => by
    have := eqStrs_c u u' ps ps _ (hu.below (hbx o o')) (hu'.below (hbx o o')) (by omega)
    rwa [decide_eq_true rfl] at this
  obtain ⟨q, cap, rfl, _, _⟩ := reads_strs hu
  obtain ⟨q', cap', rfl, _, _⟩ := reads_strs hu'
  clear hu hu'
  go_enter Try.func31, Try.ntmps31
  go_wp2_with (go_at_call 43; refine (HS.out _ _).mono ?_; rintro e w1 ⟨rfl, b1⟩)
  go_ret
  exact ⟨rfl, (hbx _ _).trans (b1.mono (by simp; omega))⟩

theorem vthree {w w1 : World} {A R O : Obj} (hb : Below (((w.alloc A).alloc R).alloc O).heap.size (((w.alloc A).alloc R).alloc O) w1) :
    w1.heap[w.heap.size]? = some A ∧ w1.heap[w.heap.size + 1]? = some R ∧ w1.heap[w.heap.size + 1 + 1]? = some O := by
  have s1 : (w.alloc A).heap.size = w.heap.size + 1 := by simp
  have s2 : ((w.alloc A).alloc R).heap.size = w.heap.size + 1 + 1 := by simp
  refine ⟨?_, ?_, ?_⟩
  · rw [hb.block _ (by simp; omega), vheap_old _ _ (by simp; omega), vheap_old _ _ (by simp), vheap_new]
  · rw [hb.block _ (by simp), vheap_old _ _ (by simp), ← s1, vheap_new]
  · rw [hb.block _ (by simp), ← s2, vheap_new]

set_option maxHeartbeats 1000000 in
set_option maxRecDepth 100000 in
theorem toVer_c (a b c : Int) (u : Value) (ps : List ByteArray) (w : World) (hu : Reads w u (strsV ps)) (hn : ps.length ≤ 1048576) :
    Calls Try.prog 87 #[.agg #[.int .i64 a, .int .i64 b, .int .i64 c, u]] w fun e w' => ∃ g, e = .returned (.agg #[.int .i64 a, .int .i64 b, .int .i64 c, .slice (some ⟨g, 0, none⟩) ps.length ps.length]) ∧ Reads w' (.slice (some ⟨g, 0, none⟩) ps.length ps.length) (strsV ps) ∧ Below w.heap.size w w' := by
  have huA : ∀ w1, Below w.heap.size w w1 → Reads w1 u (strsV ps) := fun w1 h1 => hu.below h1
  obtain ⟨q, cap, rfl, _, _⟩ := reads_strs hu
  clear hu
  go_enter Try.func87, Try.ntmps87
  have hb3 : ∀ A R O, Below w.heap.size w (((w.alloc A).alloc R).alloc O) := fun A R O => (((Below.refl _ _).alloc (Nat.le_refl _) _).alloc (by simp) _).alloc (by simp; omega) _
  go_wp2_with (
    go_at_call 40
    refine (toStrs_c _ ps _ (huA _ (hb3 _ _ _)) (by omega)).mono ?_
    rintro e w1 ⟨g, rfl, hM, hb1⟩
    obtain ⟨hA, hR, hO⟩ := vthree hb1
    have o0 := vblk_cell hO 0
    have o1 := vblk_cell hO 1
    have o2 := vblk_cell hO 2
    have o3 := vblk_cell hO 3
    have r0 := vblk_cell hR 0
    have r1 := vblk_cell hR 1
    have r2 := vblk_cell hR 2
    have r3 := vblk_cell hR 3
    have fo := vblk_frozen hO
    have fr := vblk_frozen hR
    simp only [List.getElem?_toArray, List.getElem?_cons_succ, List.getElem?_cons_zero] at o0 o1 o2 o3 r0 r1 r2 r3)
  have s3 : ∀ A R O, (((w.alloc A).alloc R).alloc O).heap.size = w.heap.size + 1 + 1 + 1 := fun A R O => by simp
  rw [s3] at hb1 hM
  have hN : w.heap.size + 1 + 1 + 1 ≤ w1.heap.size := by have := hb1.size; rw [s3] at this; exact this
  refine bodyPost_ret (v := .agg #[.int .i64 a, .int .i64 b, .int .i64 c, .slice (some ⟨g, 0, none⟩) ps.length ps.length]) (by simp [results, Try.results87, go_sem, o0, o1, o2, o3, r0, r1, r2, r3]) rfl ⟨_, rfl, ?_, ?_⟩
  · refine reads_of_owns (base := w.heap.size + 1 + 1 + 1) (e := 9) (n := ps.length) ?_
    refine owns_set (owns_set (owns_set (owns_set (owns_set hM ?_ _) ?_ _) ?_ _) ?_ _) ?_ _ <;> simp
  · have b1 := ((hb3 _ _ _).trans (hb1.mono (by omega)))
    refine Below.setCell (Below.setCell (Below.setCell (Below.setCell (Below.setCell b1 ?_ _) ?_ _) ?_ _) ?_ _) ?_ _ <;> simp <;> omega
end Go.Proofs.Ytbolphjigjpmiaa
