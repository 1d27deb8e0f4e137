/-
  Contracts for the walks, several texts in one: each part says what it proves, and under which conditions.
-/
import Derived.Deep.RegionHeld
import Derived.Test.YtiadcebolcdhbaaQ2
import Derived.Test.YtiadcebolcdhbaaQ1

/-! A list of texts told as a value, by the specification: a contract for the walks; condition: the texts hold at most 2 to the 20. -/
namespace Go.Proofs.Ytiadcebolcdhbaa
open Go.RowKit
set_option linter.unusedSimpArgs false
set_option linter.unusedVariables false

set_option maxHeartbeats 8000000 in
set_option maxRecDepth 100000 in
theorem listVal_c (v : Value) (ss : List ByteArray) (w : World) (hv : Reads w v (strsV ss)) (hs : bulkS ss ≤ 1048576) :
    Calls Try.prog 61 #[v] w fun e w' => ∃ c, e = .returned (.agg #[.int .i64 4, .int .i64 0, .string ⟨#[]⟩, c, .slice none 0 0]) ∧ w'.ownsRow w.heap.size 50 5 c ss.length (textsV ss) ∧ Below w.heap.size w w' := by
  obtain ⟨a, cap, rfl, _, ha⟩ := reads_strs hv
  have hl : ss.length ≤ 1048576 := by unfold bulkS at hs; omega
  have hbx : ∀ o o', Below w.heap.size w ((w.alloc o).alloc o') := fun o o' => ((Below.refl _ _).alloc (Nat.le_refl _) _).alloc (by simp) _
  clear hv
  go_enter Try.func61, Try.ntmps61
  go_wp2_with fail
  go_loopw [4] (fun vi wr => ∃ (k : Nat) (c : Value), k ≤ ss.length ∧ vi = .int .i64 (k : Int) ∧ wr.heap[w.heap.size]? = some (.cells #[.int .i64 0, .int .i64 0, .string ⟨#[]⟩, .slice none 0 0, .slice none 0 0] 50 (0, 0)) ∧ wr.heap[w.heap.size + 1]? = some (boxL c) ∧ wr.ownsRow (w.heap.size + 2) 50 5 c k (textsV (ss.take k)) ∧ Below w.heap.size w wr) (fun vi _ => ss.length - (intOf vi).toNat)
  case atStart =>
    refine ⟨0, .slice none 0 0, Nat.zero_le _, rfl, ?_, ?_, ?_, hbx _ _⟩
    · rw [vheap_old _ _ (by simp), vheap_new]
    · have := vheap_new (w.alloc (.cells #[.int .i64 0, .int .i64 0, .string ⟨#[]⟩, .slice none 0 0, .slice none 0 0] 50)) (boxL (.slice none 0 0))
      rw [show (w.alloc (.cells #[.int .i64 0, .int .i64 0, .string ⟨#[]⟩, .slice none 0 0, .slice none 0 0] 50)).heap.size = w.heap.size + 1 by simp] at this
      exact this
    · exact ⟨rfl, .inl ⟨rfl, rfl⟩⟩
  case round =>
    obtain ⟨k, c, hk, rfl, hR, hO, hrow, hbr⟩ := hrel
    by_cases hlt : k < ss.length
    · rcases ha with rfl | ⟨b, off, rfl, hltb, ha⟩
      · simp at hlt
      have e0 : wr.cell? ⟨b, off + k, none⟩ = some (.string ss[k]) := (hbr.cell (by simpa using hltb)).trans (ha k hlt)
      have hki : (k : Int) < (ss.length : Int) := by omega
      obtain ⟨t, ht⟩ : ∃ t, t = ss[k] := ⟨_, rfl⟩
      rw [← ht] at e0
      have hts : t.size ≤ 1048576 := by
        have h1 := List.getElem_mem hlt
        rw [← ht] at h1
        have h2 : t.size ≤ (ss.map ByteArray.size).sum := List.single_le_sum_nat h1
        unfold bulkS at hs; omega
      have HTK := hidden (textsV_take ss k hlt)
      rw [← ht] at HTK
      have HT := hidden (fun w1 => textVal_c t w1)
      have KEEP : Hid (∀ w', Below wr.heap.size wr w' → w'.cell? ⟨b, off + k, none⟩ = some (.string t)) := fun w' h => (h.cell (by simpa using Nat.lt_of_lt_of_le hltb hbr.size)).trans e0
      have hcw : w.cell? ⟨b, off + k, none⟩ = some (.string t) := by rw [ht]; exact ha k hlt
      have KEEPW : Hid (∀ w', Below w.heap.size w w' → w'.cell? ⟨b, off + k, none⟩ = some (.string t)) := fun w' h => (h.cell (by simpa using hltb)).trans hcw
      clear ht ha hcw e0
      go_wp2_with fail
      obtain ⟨i0, hi, hz0, hz1, hz2⟩ := info_parts infoVal
      refine wp_region_held_drew (S := (fun w' => w'.cell? ⟨b, off + k, none⟩ = some (.string t))) (by kernel_rfl) (KEEP.out _ (Below.refl _ _).drew) (fun hHeld => ?_)
      refine wpAnyH_take (i := 0) (oi := _) (v := ?vT1) rfl (by kernel_rfl) (by kernel_rfl) (by kernel_rfl) (fun _ _ _ h => h) (Or.inl ⟨by rfl, ?yT1⟩) hHeld ?_
      case yT1 => (intro w hSw; (try dsimp only at hSw); go_simp <;> with_reducible rfl)
      try simp only [Act.put, List.getElem_toArray, List.getElem_cons_zero, List.getElem_cons_succ, List.setIfInBounds_toArray, List.set_cons_zero, List.set_cons_succ]
      refine wpAnyH_take (i := 2) (oi := _) (v := ?vT2) rfl (by kernel_rfl) (by kernel_rfl) (by kernel_rfl) (fun _ _ _ h => h) (Or.inl ⟨by rfl, ?yT2⟩) hHeld ?_
      case yT2 => (intro w hSw; (try dsimp only at hSw); go_simp <;> with_reducible rfl)
      try simp only [Act.put, List.getElem_toArray, List.getElem_cons_zero, List.getElem_cons_succ, List.setIfInBounds_toArray, List.set_cons_zero, List.set_cons_succ]
      refine wpAnyH_take (i := 3) (oi := _) (v := ?vT3) rfl (by kernel_rfl) (by kernel_rfl) (by kernel_rfl) (fun _ _ _ h => h) (Or.inl ⟨by rfl, ?yT3⟩) hHeld ?_
      case yT3 => (intro w hSw; (try dsimp only at hSw); go_simp <;> with_reducible rfl)
      try simp only [Act.put, List.getElem_toArray, List.getElem_cons_zero, List.getElem_cons_succ, List.setIfInBounds_toArray, List.set_cons_zero, List.set_cons_succ]
      refine wpAnyH_take (i := 4) (oi := _) (v := ?vT4) rfl (by kernel_rfl) (by kernel_rfl) (by kernel_rfl) (fun _ _ _ h => h) (Or.inl ⟨by rfl, ?yT4⟩) hHeld ?_
      case yT4 => (intro w hSw; (try dsimp only at hSw); go_simp <;> with_reducible rfl)
      try simp only [Act.put, List.getElem_toArray, List.getElem_cons_zero, List.getElem_cons_succ, List.setIfInBounds_toArray, List.set_cons_zero, List.set_cons_succ]
      refine wpAnyH_take (i := 5) (oi := _) (v := ?vT5) rfl (by kernel_rfl) (by kernel_rfl) (by kernel_rfl) (fun _ _ _ h => h) (Or.inl ⟨by rfl, ?yT5⟩) hHeld ?_
      case yT5 => (intro w hSw; (try dsimp only at hSw); go_simp <;> with_reducible rfl)
      try simp only [Act.put, List.getElem_toArray, List.getElem_cons_zero, List.getElem_cons_succ, List.setIfInBounds_toArray, List.set_cons_zero, List.set_cons_succ]
      refine as_phi2 (fun Φ hΦ => ?_)
      have N12 : Hid (∀ (W : World) (hO : W.heap[w.heap.size + 1]? = some (boxL c)) (hrow : W.ownsRow (w.heap.size + 2) 50 5 c k (textsV (ss.take k))) (hb : Below wr.heap.size wr W) (bb : Nat) (hbb : W.ownsRow 0 50 5 (.slice (some ⟨bb, 0, none⟩) 1 1) 1 (textV t)), Φ 3 #[true, true, true, true, true, true, true, true, false, false, false] { tmps := #[.slice (some ⟨b, off, none⟩) ss.length cap, undef, .pointer (some ⟨w.heap.size, 0, none⟩), .pointer (some ⟨w.heap.size + 1, 0, none⟩), .int .i64 (k : Int), .agg #[.int .i64 4, .int .i64 0, .string ⟨#[]⟩, .slice none 0 0, .slice none 0 0], .int .i64 (k : Int), .slice (some ⟨b, off, none⟩) ss.length cap, .int .i64 (ss.length : Int), .bool true, u10, u11, .pointer (some ⟨w.heap.size + 1, 3, none⟩), c, .slice (some ⟨b, off, none⟩) ss.length cap, .int .i64 (k : Int), .pointer (some ⟨b, off + k, none⟩), .string t, .agg (textV t).toArray, .slice (some ⟨bb, 0, none⟩) 1 1, u20, u21, undef], defers := [] } W) := by
        intro W hO hrow hb bb hbb
        rw [hΦ]
        have hHeld := KEEP.out _ hb
        refine wpAnyH_ready (rs := [8]) (by kernel_rfl) (by simp) ?_
        refine AllReadyH.cons rfl (fun K hK => ?_) AllReadyH.nil
        rw [if_pos (by rfl)]
        have hb2 : w.heap.size + 2 ≤ W.heap.size := by have := (Array.getElem?_eq_some_iff.1 hO).1; omega
        refine wp_append_own _ _ _ 48 rfl (w.heap.size + 2) 50 i0 (.agg #[.int .i64 0, .int .i64 0, .string ⟨#[]⟩, .slice none 0 0, .slice none 0 0]) 5 80 Try.underlying48 hi hz0 hz1 hz2 rfl (by decide) c k _ rfl hrow ⟨bb, 0, none⟩ 1 1 (textV t) rfl (by rfl) (fun j u hj => ?_) (by simp [textV, Value.oneCell']) (by unfold maxLen; omega) (by omega) hb2 ?_
        · have hj5 : j < 5 := by
            have := (List.getElem?_eq_some_iff.1 hj).1
            simpa [textV] using this
          have := (hbb.cellAt j (by omega)).trans hj
          have e : ((⟨bb, 0, none⟩ : Addr).add j) = ⟨bb, j, none⟩ := by unfold Addr.add; split <;> simp_all
          rw [e]; exact this
        intro c' W1 hrow1 gr1 _
        obtain ⟨q', cap', ec'⟩ := owns_sl hrow1
        subst ec'
        have hne : c.ownBlock ≠ some (w.heap.size + 1) := fun e => by have := (owns_in hrow _ e).1; omega
        have hO1 := (gr1.block _ (Array.getElem?_eq_some_iff.1 hO).1 (fun e => hne e.symm)).trans hO
        have hbw : Below w.heap.size w W1 := Below.grown (hbr.trans (hb.mono hbr.size)) gr1 (Nat.le_trans hbr.size hb.size) (fun j hj => by have := (owns_in hrow _ hj).1; omega)
        clear hHeld
        refine hK.out _ _ (KEEPW.out _ hbw) (fun hHeld => ?_)
        clear hK K
        try simp only [Act.put, List.getElem_toArray, List.getElem_cons_zero, List.getElem_cons_succ, List.setIfInBounds_toArray, List.set_cons_zero, List.set_cons_succ]
        refine wpAnyH_take (i := 9) (oi := _) (v := ?vT6) rfl (by kernel_rfl) (by kernel_rfl) (by kernel_rfl) (fun _ _ _ h => h) (Or.inl ⟨by rfl, ?yT6⟩) hHeld ?_
        case yT6 => (intro w hSw; (try dsimp only at hSw); go_simp <;> with_reducible rfl)
        try simp only [Act.put, List.getElem_toArray, List.getElem_cons_zero, List.getElem_cons_succ, List.setIfInBounds_toArray, List.set_cons_zero, List.set_cons_succ]
        have x3 := vblk_cell hO1 3
        have fx := vblk_frozen hO1
        simp only [List.getElem?_toArray, List.getElem?_cons_succ, List.getElem?_cons_zero] at x3
        refine wpAnyH_ready (rs := [10]) (by kernel_rfl) (by simp) ?_
        refine AllReadyH.cons rfl (fun K hK => ?_) AllReadyH.nil
        go_simp
        clear hHeld
        refine hK.out _ _ (KEEPW.out _ (Below.setCell hbw (p := ⟨w.heap.size + 1, 3, none⟩) (by simp) _)) (fun hHeld => ?_)
        clear hK K
        try simp only [Act.put, List.getElem_toArray, List.getElem_cons_zero, List.getElem_cons_succ, List.setIfInBounds_toArray, List.set_cons_zero, List.set_cons_succ]
        refine wpAnyH_done (by kernel_rfl) ?_ _
        clear hHeld
        have hR1 : W1.heap[w.heap.size]? = _ := (gr1.block w.heap.size (by omega) (fun e => by have := (owns_in hrow _ e.symm).1; omega)).trans ((hb.block w.heap.size (by have := (Array.getElem?_eq_some_iff.1 hR).1; exact this)).trans hR)
        have hR2 := (Below.heap_setCell W1 ⟨w.heap.size + 1, 3, none⟩ (.slice q' (k + 1) cap') w.heap.size (by simp)).trans hR1
        have hO2 := heap_setCell_same W1 (w.heap.size + 1) 3 _ _ (.slice q' (k + 1) cap') hO1
        have hrow2 := owns_kept (S := fun b => w.heap.size + 2 ≤ b) (Kp.set (g := w.heap.size + 1) (j := 3) (v := .slice q' (k + 1) cap') (by omega)) (fun g h => (owns_in hrow1 g h).1) hrow1
        rw [← HTK.out] at hrow2
        have hbw2 := Below.setCell hbw (p := ⟨w.heap.size + 1, 3, none⟩) (by simp) (.slice q' (k + 1) cap')
        have HF := hidden (And.intro hR2 (And.intro hO2 (And.intro hrow2 hbw2)))
        clear hR1 hR2 hO2 hrow2 hbw2 hrow1 gr1 hO1 x3 fx hbb hO hrow hb hbw
        go_wp2_with fail
        go_roundw
        case rel => exact ⟨k + 1, _, by omega, by go_num, HF.out.1, HF.out.2.1, HF.out.2.2.1, HF.out.2.2.2⟩
        case measure => simp [intOf]; omega
      have N02 : Hid (∀ (W : World) (hO : W.heap[w.heap.size + 1]? = some (boxL c)) (hrow : W.ownsRow (w.heap.size + 2) 50 5 c k (textsV (ss.take k))) (hb : Below wr.heap.size wr W) (bb : Nat) (hbb : W.ownsRow 0 50 5 (.slice (some ⟨bb, 0, none⟩) 1 1) 1 (textV t)), Φ 4 #[true, false, true, true, true, true, true, true, false, false, false] { tmps := #[.slice (some ⟨b, off, none⟩) ss.length cap, undef, .pointer (some ⟨w.heap.size, 0, none⟩), .pointer (some ⟨w.heap.size + 1, 0, none⟩), .int .i64 (k : Int), .agg #[.int .i64 4, .int .i64 0, .string ⟨#[]⟩, .slice none 0 0, .slice none 0 0], .int .i64 (k : Int), .slice (some ⟨b, off, none⟩) ss.length cap, .int .i64 (ss.length : Int), .bool true, u10, u11, .pointer (some ⟨w.heap.size + 1, 3, none⟩), u13, .slice (some ⟨b, off, none⟩) ss.length cap, .int .i64 (k : Int), .pointer (some ⟨b, off + k, none⟩), .string t, .agg (textV t).toArray, .slice (some ⟨bb, 0, none⟩) 1 1, u20, u21, undef], defers := [] } W) := by
        intro W hO hrow hb bb hbb
        rw [hΦ]
        have hHeld := KEEP.out _ hb
        refine wpAnyH_ready (rs := [1]) (by kernel_rfl) (by simp) ?_
        refine AllReadyH.cons rfl (fun K hK => ?_) AllReadyH.nil
        have x3 := vblk_cell hO 3
        simp only [List.getElem?_toArray, List.getElem?_cons_succ, List.getElem?_cons_zero] at x3
        go_simp
        clear hHeld
        refine hK.out _ _ (KEEP.out _ hb) (fun hHeld => ?_)
        clear hK K
        try simp only [Act.put, List.getElem_toArray, List.getElem_cons_zero, List.getElem_cons_succ, List.setIfInBounds_toArray, List.set_cons_zero, List.set_cons_succ]
        have h := N12.out W hO hrow hb bb hbb
        rw [hΦ] at h
        exact wpAny_at2 h (by kernel_rfl) (by kernel_rfl)
      have N11 : Hid (∀ (W : World) (hO : W.heap[w.heap.size + 1]? = some (boxL c)) (hrow : W.ownsRow (w.heap.size + 2) 50 5 c k (textsV (ss.take k))) (hb : Below wr.heap.size wr W), Φ 4 #[true, true, true, true, true, true, true, false, false, false, false] { tmps := #[.slice (some ⟨b, off, none⟩) ss.length cap, undef, .pointer (some ⟨w.heap.size, 0, none⟩), .pointer (some ⟨w.heap.size + 1, 0, none⟩), .int .i64 (k : Int), .agg #[.int .i64 4, .int .i64 0, .string ⟨#[]⟩, .slice none 0 0, .slice none 0 0], .int .i64 (k : Int), .slice (some ⟨b, off, none⟩) ss.length cap, .int .i64 (ss.length : Int), .bool true, u10, u11, .pointer (some ⟨w.heap.size + 1, 3, none⟩), c, .slice (some ⟨b, off, none⟩) ss.length cap, .int .i64 (k : Int), .pointer (some ⟨b, off + k, none⟩), .string t, .agg (textV t).toArray, u19, u20, u21, undef], defers := [] } W) := by
        intro W hO hrow hb
        rw [hΦ]
        have hHeld := KEEP.out _ hb
        refine wpAnyH_ready (rs := [7]) (by kernel_rfl) (by simp) ?_
        refine AllReadyH.cons rfl (fun K hK => ?_) AllReadyH.nil
        unfold textV
        go_simp
        have ka : Below W.heap.size W (W.alloc (.cells (textV t).toArray 50)) := (Below.refl _ _).alloc (Nat.le_refl _) _
        have hbb : (W.alloc (.cells (textV t).toArray 50)).ownsRow 0 50 5 (.slice (some ⟨W.heap.size, 0, none⟩) 1 1) 1 (textV t) := owns_lo (Nat.zero_le _) (World.ownsRow_lit W (textV t).toArray 1 (Nat.le_refl _) (by unfold maxLen; omega) rfl)
        have hO := (ka.block _ (Array.getElem?_eq_some_iff.1 hO).1).trans hO
        have hrow := hrow.kept (grown_of_below ka none) (by cases hq : c.ownBlock <;> simp)
        have hb := hb.trans (ka.mono hb.size)
        obtain ⟨bb, hbbe⟩ : ∃ q, q = W.heap.size := ⟨_, rfl⟩
        rw [← hbbe] at hbb
        try rw [← hbbe]
        clear hHeld
        refine hK.out _ (W.alloc (.cells (textV t).toArray 50)) (KEEP.out _ hb) (fun hHeld => ?_)
        clear hK K
        try simp only [Act.put, List.getElem_toArray, List.getElem_cons_zero, List.getElem_cons_succ, List.setIfInBounds_toArray, List.set_cons_zero, List.set_cons_succ]
        have h := N12.out (W.alloc (.cells (textV t).toArray 50)) hO hrow hb bb hbb
        rw [hΦ] at h
        exact wpAny_at2 h (by kernel_rfl) (by kernel_rfl)
      have N01 : Hid (∀ (W : World) (hO : W.heap[w.heap.size + 1]? = some (boxL c)) (hrow : W.ownsRow (w.heap.size + 2) 50 5 c k (textsV (ss.take k))) (hb : Below wr.heap.size wr W), Φ 5 #[true, false, true, true, true, true, true, false, false, false, false] { tmps := #[.slice (some ⟨b, off, none⟩) ss.length cap, undef, .pointer (some ⟨w.heap.size, 0, none⟩), .pointer (some ⟨w.heap.size + 1, 0, none⟩), .int .i64 (k : Int), .agg #[.int .i64 4, .int .i64 0, .string ⟨#[]⟩, .slice none 0 0, .slice none 0 0], .int .i64 (k : Int), .slice (some ⟨b, off, none⟩) ss.length cap, .int .i64 (ss.length : Int), .bool true, u10, u11, .pointer (some ⟨w.heap.size + 1, 3, none⟩), u13, .slice (some ⟨b, off, none⟩) ss.length cap, .int .i64 (k : Int), .pointer (some ⟨b, off + k, none⟩), .string t, .agg (textV t).toArray, u19, u20, u21, undef], defers := [] } W) := by
        intro W hO hrow hb
        rw [hΦ]
        have hHeld := KEEP.out _ hb
        refine wpAnyH_ready (rs := [1, 7]) (by kernel_rfl) (by simp) ?_
        refine AllReadyH.cons rfl (fun K hK => ?_) (AllReadyH.cons rfl (fun K hK => ?_) AllReadyH.nil)
        · have x3 := vblk_cell hO 3
          simp only [List.getElem?_toArray, List.getElem?_cons_succ, List.getElem?_cons_zero] at x3
          go_simp
          clear hHeld
          refine hK.out _ _ (KEEP.out _ hb) (fun hHeld => ?_)
          clear hK K
          try simp only [Act.put, List.getElem_toArray, List.getElem_cons_zero, List.getElem_cons_succ, List.setIfInBounds_toArray, List.set_cons_zero, List.set_cons_succ]
          have h := N11.out W hO hrow hb
          rw [hΦ] at h
          exact wpAny_at2 h (by kernel_rfl) (by kernel_rfl)
        · unfold textV
          go_simp
          have ka : Below W.heap.size W (W.alloc (.cells (textV t).toArray 50)) := (Below.refl _ _).alloc (Nat.le_refl _) _
          have hbb : (W.alloc (.cells (textV t).toArray 50)).ownsRow 0 50 5 (.slice (some ⟨W.heap.size, 0, none⟩) 1 1) 1 (textV t) := owns_lo (Nat.zero_le _) (World.ownsRow_lit W (textV t).toArray 1 (Nat.le_refl _) (by unfold maxLen; omega) rfl)
          have hO := (ka.block _ (Array.getElem?_eq_some_iff.1 hO).1).trans hO
          have hrow := hrow.kept (grown_of_below ka none) (by cases hq : c.ownBlock <;> simp)
          have hb := hb.trans (ka.mono hb.size)
          obtain ⟨bb, hbbe⟩ : ∃ q, q = W.heap.size := ⟨_, rfl⟩
          rw [← hbbe] at hbb
          try rw [← hbbe]
          clear hHeld
          refine hK.out _ (W.alloc (.cells (textV t).toArray 50)) (KEEP.out _ hb) (fun hHeld => ?_)
          clear hK K
          try simp only [Act.put, List.getElem_toArray, List.getElem_cons_zero, List.getElem_cons_succ, List.setIfInBounds_toArray, List.set_cons_zero, List.set_cons_succ]
          have h := N02.out (W.alloc (.cells (textV t).toArray 50)) hO hrow hb bb hbb
          rw [hΦ] at h
          exact wpAny_at2 h (by kernel_rfl) (by kernel_rfl)
      have N10 : Hid (∀ (W : World) (hO : W.heap[w.heap.size + 1]? = some (boxL c)) (hrow : W.ownsRow (w.heap.size + 2) 50 5 c k (textsV (ss.take k))) (hb : Below wr.heap.size wr W), Φ 5 #[true, true, true, true, true, true, false, false, false, false, false] { tmps := #[.slice (some ⟨b, off, none⟩) ss.length cap, undef, .pointer (some ⟨w.heap.size, 0, none⟩), .pointer (some ⟨w.heap.size + 1, 0, none⟩), .int .i64 (k : Int), .agg #[.int .i64 4, .int .i64 0, .string ⟨#[]⟩, .slice none 0 0, .slice none 0 0], .int .i64 (k : Int), .slice (some ⟨b, off, none⟩) ss.length cap, .int .i64 (ss.length : Int), .bool true, u10, u11, .pointer (some ⟨w.heap.size + 1, 3, none⟩), c, .slice (some ⟨b, off, none⟩) ss.length cap, .int .i64 (k : Int), .pointer (some ⟨b, off + k, none⟩), .string t, u18, u19, u20, u21, undef], defers := [] } W) := by
        intro W hO hrow hb
        rw [hΦ]
        have hHeld := KEEP.out _ hb
        refine wpAnyH_ready (rs := [6]) (by kernel_rfl) (by simp) ?_
        refine AllReadyH.cons rfl (fun K hK => ?_) AllReadyH.nil
        go_simp
        go_wp2_with (go_at_call 104; refine (HT.out _).mono ?_; rintro e W1 ⟨rfl, b1⟩)
        have hO := (b1.block _ (Array.getElem?_eq_some_iff.1 hO).1).trans hO
        have hrow := hrow.kept (grown_of_below b1 none) (by cases hq : c.ownBlock <;> simp)
        have hb := hb.trans (b1.mono hb.size)
        clear hHeld
        refine hK.out _ _ (KEEP.out _ hb) (fun hHeld => ?_)
        clear hK K
        try simp only [Act.put, List.getElem_toArray, List.getElem_cons_zero, List.getElem_cons_succ, List.setIfInBounds_toArray, List.set_cons_zero, List.set_cons_succ]
        have h := N11.out W1 hO hrow hb
        rw [hΦ] at h
        exact wpAny_at2 h (by kernel_rfl) (by kernel_rfl)
      have N00 : Hid (∀ (W : World) (hO : W.heap[w.heap.size + 1]? = some (boxL c)) (hrow : W.ownsRow (w.heap.size + 2) 50 5 c k (textsV (ss.take k))) (hb : Below wr.heap.size wr W), Φ 6 #[true, false, true, true, true, true, false, false, false, false, false] { tmps := #[.slice (some ⟨b, off, none⟩) ss.length cap, undef, .pointer (some ⟨w.heap.size, 0, none⟩), .pointer (some ⟨w.heap.size + 1, 0, none⟩), .int .i64 (k : Int), .agg #[.int .i64 4, .int .i64 0, .string ⟨#[]⟩, .slice none 0 0, .slice none 0 0], .int .i64 (k : Int), .slice (some ⟨b, off, none⟩) ss.length cap, .int .i64 (ss.length : Int), .bool true, u10, u11, .pointer (some ⟨w.heap.size + 1, 3, none⟩), u13, .slice (some ⟨b, off, none⟩) ss.length cap, .int .i64 (k : Int), .pointer (some ⟨b, off + k, none⟩), .string t, u18, u19, u20, u21, undef], defers := [] } W) := by
        intro W hO hrow hb
        rw [hΦ]
        have hHeld := KEEP.out _ hb
        refine wpAnyH_ready (rs := [1, 6]) (by kernel_rfl) (by simp) ?_
        refine AllReadyH.cons rfl (fun K hK => ?_) (AllReadyH.cons rfl (fun K hK => ?_) AllReadyH.nil)
        · have x3 := vblk_cell hO 3
          simp only [List.getElem?_toArray, List.getElem?_cons_succ, List.getElem?_cons_zero] at x3
          go_simp
          clear hHeld
          refine hK.out _ _ (KEEP.out _ hb) (fun hHeld => ?_)
          clear hK K
          try simp only [Act.put, List.getElem_toArray, List.getElem_cons_zero, List.getElem_cons_succ, List.setIfInBounds_toArray, List.set_cons_zero, List.set_cons_succ]
          have h := N10.out W hO hrow hb
          rw [hΦ] at h
          exact wpAny_at2 h (by kernel_rfl) (by kernel_rfl)
        · go_simp
          go_wp2_with (go_at_call 104; refine (HT.out _).mono ?_; rintro e W1 ⟨rfl, b1⟩)
          have hO := (b1.block _ (Array.getElem?_eq_some_iff.1 hO).1).trans hO
          have hrow := hrow.kept (grown_of_below b1 none) (by cases hq : c.ownBlock <;> simp)
          have hb := hb.trans (b1.mono hb.size)
          clear hHeld
          refine hK.out _ _ (KEEP.out _ hb) (fun hHeld => ?_)
          clear hK K
          try simp only [Act.put, List.getElem_toArray, List.getElem_cons_zero, List.getElem_cons_succ, List.setIfInBounds_toArray, List.set_cons_zero, List.set_cons_succ]
          have h := N01.out W1 hO hrow hb
          rw [hΦ] at h
          exact wpAny_at2 h (by kernel_rfl) (by kernel_rfl)
      have h := N00.out wr.drew hO (show wr.drew.ownsRow _ _ _ _ _ _ from hrow) (Below.refl _ _).drew
      rw [hΦ] at h
      exact wpAny_at2 h (by kernel_rfl) (by kernel_rfl)
    · have he : k = ss.length := by omega
      subst he
      rw [List.take_length] at hrow
      obtain ⟨qc, cc, ec⟩ := owns_sl hrow
      subst ec
      have x0 := vblk_cell hO 0
      have x1 := vblk_cell hO 1
      have x2 := vblk_cell hO 2
      have x3 := vblk_cell hO 3
      have x4 := vblk_cell hO 4
      have y0 := vblk_cell hR 0
      have y1 := vblk_cell hR 1
      have y2 := vblk_cell hR 2
      have y3 := vblk_cell hR 3
      have y4 := vblk_cell hR 4
      have fy := vblk_frozen hR
      simp only [List.getElem?_toArray, List.getElem?_cons_succ, List.getElem?_cons_zero] at x0 x1 x2 x3 x4 y0 y1 y2 y3 y4
      have HRW := hidden hrow
      clear ha hO hR hrow
      go_wp2_with fail
      refine bodyPost_ret (v := .agg #[.int .i64 4, .int .i64 0, .string ⟨#[]⟩, .slice qc ss.length cc, .slice none 0 0]) (by simp [results, Try.results61, go_sem, x0, x1, x2, x3, x4, y0, y1, y2, y3, y4]) rfl ⟨_, rfl, ?_, ?_⟩
      · refine owns_lo (lo := w.heap.size + 2) (by omega) (owns_kept (S := fun b => w.heap.size + 2 ≤ b) ?_ (fun g h => (owns_in HRW.out g h).1) HRW.out)
        (repeat (refine Kp.trans ?_ (Kp.set (by omega))))
        exact fun b hb => rfl
      · (repeat (refine Below.setCell ?_ (by simp) _))
        exact hbr
end Go.Proofs.Ytiadcebolcdhbaa

/-! How much a list of texts holds, as the law's own helper reckons it, from what is left on: a contract for the walks; conditions: at most 2 to the 20 is left, the list lies in memory. -/
namespace Go.Proofs.Ytiadcebolcdhbaa
open Go.RowKit
set_option linter.unusedSimpArgs false
set_option linter.unusedVariables false

set_option maxHeartbeats 1000000 in
set_option maxRecDepth 100000 in
theorem sizeStrsM_c (v : Value) (ss : List ByteArray) (w : World) (left : Int) (hl0 : 0 ≤ left) (hl1 : left ≤ 1048576) (hv : Reads w v (strsV ss)) (hn : ss.length ≤ maxLen) (hs : ∀ s ∈ ss, s.size ≤ maxLen) :
    Calls Try.prog 60 #[v, .int .i64 left] w fun e w' => e = .returned (.int .i64 (leftS ss left)) ∧ w = w' := by
  obtain ⟨a, cap, rfl, _, hc⟩ := reads_strs hv
  clear hv
  unfold maxLen at hn hs
  by_cases h0 : left < (ss.length : Int)
  · have hneg : left - (ss.length : Int) < 0 := by omega
    have e : leftS ss left = -1 := by rw [leftS, bulkS, if_neg (by omega)]
    rw [e]
    clear hc hs
    go_enter Try.func60, Try.ntmps60
    go_wp2
    go_ret
    exact ⟨rfl, rfl⟩
  · have hpos : ¬ (left - (ss.length : Int) < 0) := by omega
    rcases hc with rfl | ⟨b, off, rfl, hlt, hc⟩
    · go_enter Try.func60, Try.ntmps60
      go_wp2
      go_loop [1, 5] (fun vl vi => vl = .int .i64 left ∧ vi = .int .i64 0) (fun _ _ => 0)
      case atStart => exact ⟨rfl, rfl⟩
      case round =>
        obtain ⟨rfl, rfl⟩ := hrel
        go_wp2
        go_ret
        exact ⟨by rw [show leftS [] left = left by simp [leftS, bulkS, hl0]]; rfl, rfl⟩
    · go_enter Try.func60, Try.ntmps60
      go_wp2
      go_loop [1, 5] (fun vl vi => ∃ (k : Nat) (l : Int), k ≤ ss.length ∧ vi = .int .i64 (k : Int) ∧ vl = .int .i64 l ∧ 0 ≤ l ∧ l ≤ 1048576 ∧ Hid (l = left - (ss.length : Int) - (((ss.take k).map ByteArray.size).sum : Int))) (fun _ vi => ss.length - (intOf vi).toNat)
      case atStart => exact ⟨0, _, Nat.zero_le _, rfl, rfl, by omega, by omega, by show _ = _; simp⟩
      case round =>
        obtain ⟨k, l, hk, rfl, rfl, hq0, hq1, hl⟩ := hrel
        by_cases hlt' : k < ss.length
        · have hcx := hc k hlt'
          have hsk := hs ss[k] (List.getElem_mem hlt')
          have hsum := sum_take_succ ss k hlt'
          obtain ⟨t, ht⟩ : ∃ t, t = ss[k] := ⟨_, rfl⟩
          rw [← ht] at hcx hsk hsum
          have HS : Hid (((ss.take (k + 1)).map ByteArray.size).sum = ((ss.take k).map ByteArray.size).sum + t.size) := hsum
          have hki : (k : Int) < (ss.length : Int) := by omega
          clear hc hs ht hsum
          by_cases hneg : l - (t.size : Int) < 0
          · have e : leftS ss left = -1 := by
              have h1 := HS.out; have h2 := hl.out; have h3 := sum_take_le ss (k + 1)
              rw [leftS, bulkS, if_neg (by omega)]
            have HE : Hid (leftS ss left = -1) := e
            clear e
            go_wp2
            go_ret
            exact ⟨by rw [HE.out]; rfl, rfl⟩
          · go_wp2
            go_round
            case rel => exact ⟨k + 1, l - (t.size : Int), by omega, by go_num, rfl, by omega, by omega, (by show _ = _; rw [HS.out, hl.out]; omega)⟩
            case measure => simp [intOf]; omega
        · have he : k = ss.length := by omega
          subst he
          have e : leftS ss left = l := by
            have h2 := hl.out
            rw [List.take_length] at h2
            rw [leftS, bulkS, if_pos (by omega)]; omega
          have HE : Hid (leftS ss left = l) := e
          clear hc hs e
          go_wp2
          go_ret
          exact ⟨by rw [HE.out]; rfl, rfl⟩
end Go.Proofs.Ytiadcebolcdhbaa

/-! What the law's helpers over versions answer (how much there is, a copy, whether two are alike): contracts for the walks; conditions: the lists of texts lie in memory as told. -/
namespace Go.Proofs.Ytiadcebolcdhbaa
open Go.RowKit
set_option linter.unusedSimpArgs false
set_option linter.unusedVariables false

theorem owns_set {w : World} {base : Nat} {e : TypeId} {v : Value} {n : Nat} {xs : List Value} (h : w.ownsRow base e 1 v n xs) {p : Addr} (hp : p.block < base) (x : Value) : (w.setCell p x).ownsRow base e 1 v n xs := by
  obtain ⟨h1, h2⟩ := h
  refine ⟨h1, ?_⟩
  rcases h2 with h2 | ⟨g, cap, cur, a, b, c, d⟩
  · exact .inl h2
  · exact .inr ⟨g, cap, cur, a, b, by rw [Below.heap_setCell _ _ _ _ (by omega)]; exact c, d⟩

/-- A parameter that was put into a block of its own is still there behind a call. -/
theorem box4 {w w1 : World} {c0 c1 c2 c3 : Value} {t : TypeId} (hb : Below (w.alloc (.cells #[c0, c1, c2, c3] t)).heap.size (w.alloc (.cells #[c0, c1, c2, c3] t)) w1) :
    w1.cell? ⟨w.heap.size, 0, none⟩ = some c0 ∧ w1.cell? ⟨w.heap.size, 1, none⟩ = some c1 ∧ w1.cell? ⟨w.heap.size, 2, none⟩ = some c2 ∧ w1.cell? ⟨w.heap.size, 3, none⟩ = some c3 := by
  have h : ∀ j, w1.cell? ⟨w.heap.size, j, none⟩ = (#[c0, c1, c2, c3] : Array Value)[j]? := fun j => by
    rw [hb.cell (p := ⟨w.heap.size, j, none⟩) (by simp)]
    exact vblk_cell (vheap_new _ _) j
  exact ⟨h 0, h 1, h 2, h 3⟩

def saneP (ps : List ByteArray) : Prop := ps.length ≤ maxLen ∧ ∀ s ∈ ps, s.size ≤ maxLen

set_option maxHeartbeats 1000000 in
set_option maxRecDepth 100000 in
theorem sizeStrsL_c (v : Value) (ss : List ByteArray) (w : World) (left : Int) (hl0 : 0 ≤ left) (hl1 : left ≤ 1048576) (hv : Reads w v (strsV ss)) (hn : ss.length ≤ maxLen) (hs : ∀ s ∈ ss, s.size ≤ maxLen) :
    Calls Try.prog 60 #[v, .int .i64 left] w fun e w' => e = .returned (.int .i64 (leftS ss left)) ∧ w = w' := by
  obtain ⟨a, cap, rfl, _, hc⟩ := reads_strs hv
  clear hv
  unfold maxLen at hn hs
  by_cases h0 : left < (ss.length : Int)
  · have hneg : left - (ss.length : Int) < 0 := by omega
    have e : leftS ss left = -1 := by rw [leftS, bulkS, if_neg (by omega)]
    rw [e]
    clear hc hs
    go_enter Try.func60, Try.ntmps60
    go_wp2
    go_ret
    exact ⟨rfl, rfl⟩
  · have hpos : ¬ (left - (ss.length : Int) < 0) := by omega
    rcases hc with rfl | ⟨b, off, rfl, hlt, hc⟩
    · go_enter Try.func60, Try.ntmps60
      go_wp2
      go_loop [1, 5] (fun vl vi => vl = .int .i64 left ∧ vi = .int .i64 0) (fun _ _ => 0)
      case atStart => exact ⟨rfl, rfl⟩
      case round =>
        obtain ⟨rfl, rfl⟩ := hrel
        go_wp2
        go_ret
        exact ⟨by rw [show leftS [] left = left by simp [leftS, bulkS, hl0]]; rfl, rfl⟩
    · go_enter Try.func60, Try.ntmps60
      go_wp2
      go_loop [1, 5] (fun vl vi => ∃ (k : Nat) (l : Int), k ≤ ss.length ∧ vi = .int .i64 (k : Int) ∧ vl = .int .i64 l ∧ 0 ≤ l ∧ l ≤ 1048576 ∧ Hid (l = left - (ss.length : Int) - (((ss.take k).map ByteArray.size).sum : Int))) (fun _ vi => ss.length - (intOf vi).toNat)
      case atStart => exact ⟨0, _, Nat.zero_le _, rfl, rfl, by omega, by omega, by show _ = _; simp⟩
      case round =>
        obtain ⟨k, l, hk, rfl, rfl, hq0, hq1, hl⟩ := hrel
        by_cases hlt' : k < ss.length
        · have hcx := hc k hlt'
          have hsk := hs ss[k] (List.getElem_mem hlt')
          have hsum := sum_take_succ ss k hlt'
          obtain ⟨t, ht⟩ : ∃ t, t = ss[k] := ⟨_, rfl⟩
          rw [← ht] at hcx hsk hsum
          have HS : Hid (((ss.take (k + 1)).map ByteArray.size).sum = ((ss.take k).map ByteArray.size).sum + t.size) := hsum
          have hki : (k : Int) < (ss.length : Int) := by omega
          clear hc hs ht hsum
          by_cases hneg : l - (t.size : Int) < 0
          · have e : leftS ss left = -1 := by
              have h1 := HS.out; have h2 := hl.out; have h3 := sum_take_le ss (k + 1)
              rw [leftS, bulkS, if_neg (by omega)]
            have HE : Hid (leftS ss left = -1) := e
            clear e
            go_wp2
            go_ret
            exact ⟨by rw [HE.out]; rfl, rfl⟩
          · go_wp2
            go_round
            case rel => exact ⟨k + 1, l - (t.size : Int), by omega, by go_num, rfl, by omega, by omega, (by show _ = _; rw [HS.out, hl.out]; omega)⟩
            case measure => simp [intOf]; omega
        · have he : k = ss.length := by omega
          subst he
          have e : leftS ss left = l := by
            have h2 := hl.out
            rw [List.take_length] at h2
            rw [leftS, bulkS, if_pos (by omega)]; omega
          have HE : Hid (leftS ss left = l) := e
          clear hc hs e
          go_wp2
          go_ret
          exact ⟨by rw [HE.out]; rfl, rfl⟩

theorem vthree {w w1 : World} {A R O : Obj} (hb : Below (((w.alloc A).alloc R).alloc O).heap.size (((w.alloc A).alloc R).alloc O) w1) :
    w1.heap[w.heap.size]? = some A ∧ w1.heap[w.heap.size + 1]? = some R ∧ w1.heap[w.heap.size + 1 + 1]? = some O := by
  have s1 : (w.alloc A).heap.size = w.heap.size + 1 := by simp
  have s2 : ((w.alloc A).alloc R).heap.size = w.heap.size + 1 + 1 := by simp
  refine ⟨?_, ?_, ?_⟩
  · rw [hb.block _ (by simp; omega), vheap_old _ _ (by simp; omega), vheap_old _ _ (by simp), vheap_new]
  · rw [hb.block _ (by simp), vheap_old _ _ (by simp), ← s1, vheap_new]
  · rw [hb.block _ (by simp), ← s2, vheap_new]

end Go.Proofs.Ytiadcebolcdhbaa

/-! Needs, commands and packs that lie in memory: what they are, and how much they hold, as the law counts it: contracts for the walks; conditions: at most 2 to the 20 is left to count. -/
namespace Go.Proofs.Ytiadcebolcdhbaa
open Go.RowKit
set_option linter.unusedSimpArgs false
set_option linter.unusedVariables false

theorem lw (n : Nat) (l : Int) : ((n : Int) ≤ l ∧ leftW n l = l - (n : Int)) ∨ (l < (n : Int) ∧ leftW n l = -1) := by
  by_cases h : (n : Int) ≤ l
  · exact .inl ⟨h, leftW_good h⟩
  · exact .inr ⟨by omega, leftW_bad h⟩

/-- A list of texts that may be written. -/
def StrsOwn (S : Nat → Prop) (w : World) (u : Value) (ss : List ByteArray) : Prop := w.ownsRow 0 9 1 u ss.length (strsV ss) ∧ ∀ g, u.ownBlock = some g → S g
theorem StrsOwn.keep {S : Nat → Prop} {w w' : World} {u : Value} {ss : List ByteArray} (hk : Kp S w w') (h : StrsOwn S w u ss) : StrsOwn S w' u ss := ⟨owns_kept hk h.2 h.1, h.2⟩
theorem StrsOwn.mono {S S' : Nat → Prop} {w : World} {u : Value} {ss : List ByteArray} (hS : ∀ b, S b → S' b) (h : StrsOwn S w u ss) : StrsOwn S' w u ss := ⟨h.1, fun g hg => hS g (h.2 g hg)⟩
theorem StrsOwn.plain {S : Nat → Prop} {w : World} {u : Value} {ss : List ByteArray} (h : StrsOwn S w u ss) : RdB S w u (strsV ss) := by
  obtain ⟨a, cap, hv, hc, hx⟩ := reads_of_owns h.1
  refine ⟨a, cap, hv, hc, ?_⟩
  rcases hx with hx | ⟨b, off, rfl, hlt, hx⟩
  · exact .inl hx
  · exact .inr ⟨b, off, rfl, h.2 b (by rw [hv]; rfl), hx⟩

structure NeedD where
  n : ByteArray
  r : ByteArray
def wtNeed (d : NeedD) : Nat := d.n.size + d.r.size
def shNeed : Sh NeedD where
  n := 2
  lies S w cs d := cs = [.string d.n, .string d.r] ∧ d.n.size ≤ maxLen ∧ d.r.size ≤ maxLen
  keep hk h := by obtain ⟨h0, h1, h2⟩ := h; exact ⟨h0, h1, h2⟩
  mono hS h := by obtain ⟨h0, h1, h2⟩ := h; exact ⟨h0, h1, h2⟩

structure CmdD where
  t : ByteArray
  acts : List ByteArray
def wtCmd (d : CmdD) : Nat := d.t.size + bulkS d.acts
def shCmd : Sh CmdD where
  n := 2
  lies S w cs d := ∃ u0, cs = [.string d.t, u0] ∧ d.t.size ≤ maxLen ∧ RdB S w u0 (strsV d.acts) ∧ saneP d.acts
  keep hk h := by obtain ⟨u0, h0, h1, h2, h3⟩ := h; exact ⟨u0, h0, h1, h2.keep hk, h3⟩
  mono hS h := by obtain ⟨u0, h0, h1, h2, h3⟩ := h; exact ⟨u0, h0, h1, h2.mono hS, h3⟩
def shCmdO : Sh CmdD where
  n := 2
  lies S w cs d := ∃ u0, cs = [.string d.t, u0] ∧ d.t.size ≤ maxLen ∧ StrsOwn S w u0 d.acts ∧ saneP d.acts
  keep hk h := by obtain ⟨u0, h0, h1, h2, h3⟩ := h; exact ⟨u0, h0, h1, h2.keep hk, h3⟩
  mono hS h := by obtain ⟨u0, h0, h1, h2, h3⟩ := h; exact ⟨u0, h0, h1, h2.mono hS, h3⟩
theorem liesCmd_plain {S : Nat → Prop} {w : World} {cs : List Value} {d : CmdD} (h : shCmdO.lies S w cs d) : shCmd.lies S w cs d := by
  obtain ⟨u0, e0, s_t, r0, p0⟩ := h
  exact ⟨u0, e0, s_t, r0.plain, p0⟩

structure PackD where
  name : ByteArray
  uses : List ByteArray
  needs : List NeedD
  cmds : List CmdD
def wtPack (d : PackD) : Nat := d.name.size + bulkS d.uses + wtRow wtNeed d.needs + wtRow wtCmd d.cmds
def shPack : Sh PackD where
  n := 4
  lies S w cs d := ∃ u0 u1 u2, cs = [.string d.name, u0, u1, u2] ∧ d.name.size ≤ maxLen ∧ RdB S w u0 (strsV d.uses) ∧ saneP d.uses ∧ RowIn shNeed S w u1 d.needs ∧ RowIn shCmd S w u2 d.cmds
  keep hk h := by obtain ⟨u0, u1, u2, h0, h1, h2, h3, h4, h5⟩ := h; exact ⟨u0, u1, u2, h0, h1, h2.keep hk, h3, h4.keep hk, h5.keep hk⟩
  mono hS h := by obtain ⟨u0, u1, u2, h0, h1, h2, h3, h4, h5⟩ := h; exact ⟨u0, u1, u2, h0, h1, h2.mono hS, h3, h4.mono hS, h5.mono hS⟩
def shPackO : Sh PackD where
  n := 4
  lies S w cs d := ∃ u0 u1 u2, cs = [.string d.name, u0, u1, u2] ∧ d.name.size ≤ maxLen ∧ StrsOwn S w u0 d.uses ∧ saneP d.uses ∧ RowOwn shNeed 154 S w u1 d.needs ∧ RowOwn shCmdO 141 S w u2 d.cmds
  keep hk h := by obtain ⟨u0, u1, u2, h0, h1, h2, h3, h4, h5⟩ := h; exact ⟨u0, u1, u2, h0, h1, h2.keep hk, h3, h4.keep hk, h5.keep hk⟩
  mono hS h := by obtain ⟨u0, u1, u2, h0, h1, h2, h3, h4, h5⟩ := h; exact ⟨u0, u1, u2, h0, h1, h2.mono hS, h3, h4.mono hS, h5.mono hS⟩
theorem liesPack_plain {S : Nat → Prop} {w : World} {cs : List Value} {d : PackD} (h : shPackO.lies S w cs d) : shPack.lies S w cs d := by
  obtain ⟨u0, u1, u2, e0, s_name, r0, p0, r1, r2⟩ := h
  exact ⟨u0, u1, u2, e0, s_name, r0.plain, p0, r1.plain, (RowIn.as (sh := shCmdO) (sh' := shCmd) rfl (fun S w cs x h => liesCmd_plain h) r2.plain)⟩

end Go.Proofs.Ytiadcebolcdhbaa

/-! Copies of needs and commands, and of rows of them, in memory of their own, as the law makes them: contracts for the walks; condition: what is copied holds at most 2 to the 20. -/
namespace Go.Proofs.Ytiadcebolcdhbaa
open Go.RowKit
set_option linter.unusedSimpArgs false
set_option linter.unusedVariables false

theorem owns_sliceP {w : World} {lo : Nat} {e : TypeId} {sz n : Nat} {v : Value} {xs : List Value} (hg : w.ownsRow lo e sz v n xs) : ∃ q cap, v = .slice q n cap := by
  rcases hg.2 with ⟨h1, h2⟩ | ⟨g, cap, cur, h1, _⟩
  · exact ⟨none, 0, by rw [h1, h2]⟩
  · exact ⟨_, _, h1⟩
theorem StrsOwn.slice {S : Nat → Prop} {w : World} {u : Value} {ss : List ByteArray} (h : StrsOwn S w u ss) : ∃ q cap, u = .slice q ss.length cap := owns_sliceP h.1
theorem RowOwn.slice {α : Type} {sh : Sh α} {t : TypeId} {S : Nat → Prop} {w : World} {v : Value} {xs : List α} (h : RowOwn sh t S w v xs) : ∃ q cap, v = .slice q xs.length cap := by
  obtain ⟨_, ys, h1, _⟩ := h; exact owns_sliceP h1

set_option maxHeartbeats 2000000 in
set_option maxRecDepth 100000 in
theorem infoNeed : (Try.prog.info? 154).map (fun i => (i.zero, i.size, i.bytes)) = some (some (.agg #[.string ⟨#[]⟩, .string ⟨#[]⟩]), 2, 32) := by kernel_rfl
set_option maxHeartbeats 2000000 in
set_option maxRecDepth 100000 in
theorem infoCmd : (Try.prog.info? 141).map (fun i => (i.zero, i.size, i.bytes)) = some (some (.agg #[.string ⟨#[]⟩, .slice none 0 0]), 2, 40) := by kernel_rfl
end Go.Proofs.Ytiadcebolcdhbaa

/-! Copies of packs, and of rows of them, in memory of their own, as the law makes them: contracts for the walks; condition: what is copied holds at most 2 to the 20. -/
namespace Go.Proofs.Ytiadcebolcdhbaa
open Go.RowKit
set_option linter.unusedSimpArgs false
set_option linter.unusedVariables false

set_option maxHeartbeats 2000000 in
set_option maxRecDepth 100000 in
theorem infoPack : (Try.prog.info? 33).map (fun i => (i.zero, i.size, i.bytes)) = some (some (.agg #[.string ⟨#[]⟩, .slice none 0 0, .slice none 0 0, .slice none 0 0]), 4, 88) := by kernel_rfl
end Go.Proofs.Ytiadcebolcdhbaa

/-! Marks put into a pack that may be written, as the law puts them: contracts for the walks; conditions: its rows lie in memory and may be written, and there are at most 2 to the 32 marks. -/
namespace Go.Proofs.Ytiadcebolcdhbaa
open Go.RowKit
set_option linter.unusedSimpArgs false
set_option linter.unusedVariables false

/-- A row that may be written stays one where another row is written over, be it the same. -/
theorem owns_over {w w' : World} {lo lo' sz n n' : Nat} {e : TypeId} {v v' : Value} {xs xs' ys : List Value} (h : w.ownsRow lo e sz v n xs) (h0 : w.ownsRow lo' e sz v' n' xs') (h1 : w'.ownsRow lo' e sz v' n' ys) (hg : w.grownBy w' v'.ownBlock) (hs : 0 < sz) : ∃ zs, w'.ownsRow lo e sz v n zs := by
  by_cases hne : v.ownBlock = none ∨ v.ownBlock ≠ v'.ownBlock
  · exact ⟨xs, h.kept hg hne⟩
  · have he : v.ownBlock = v'.ownBlock := by
      by_cases k : v.ownBlock = v'.ownBlock
      · exact k
      · exact absurd (.inr k) hne
    have hn : v.ownBlock ≠ none := fun k => hne (.inl k)
    rcases h.2 with ⟨rfl, _⟩ | ⟨g, cap, cur, rfl, hlo, hgb, hc, hm, hz, ht⟩
    · exact absurd rfl hn
    rcases h0.2 with ⟨rfl, _⟩ | ⟨g0, cap0, cur0, rfl, _, hgb0, hc0, hm0, hz0, _⟩
    · exact absurd he (by simp [Value.ownBlock])
    simp [Value.ownBlock] at he
    subst he
    rcases h1.2 with ⟨hx, _⟩ | ⟨g1, cap1, cur1, hx, _, hgb1, hc1, hm1, hz1, _⟩
    · simp at hx
    · simp only [Value.slice.injEq, Option.some.injEq, Addr.mk.injEq, and_true, true_and] at hx
      obtain ⟨rfl, rfl⟩ := hx
      rw [hgb] at hgb0
      have hcur : cur = cur0 := by simpa using hgb0
      subst hcur
      have hcap : cap = cap0 := by
        have : cap * sz = cap0 * sz := by omega
        exact Nat.eq_of_mul_eq_mul_right hs this
      subst hcap
      refine ⟨cur1.toList.take (n * sz), ?_, .inr ⟨g, cap, cur1, rfl, hlo, hgb1, hc, hm, hz1, rfl⟩⟩
      have hle : n * sz ≤ cap * sz := Nat.mul_le_mul_right _ hc
      rw [List.length_take, Array.length_toList, hz1]
      exact Nat.min_eq_left hle

/-- The rows of a row of commands: each may be written. -/
def CmdRows (w : World) (S : Nat → Prop) (ys : List Value) (ns : List Nat) : Prop := ∀ i (h : i < ns.length), ∃ u xs, ys[i * 2 + 1]? = some u ∧ w.ownsRow 0 9 1 u ns[i] xs ∧ ∀ g, u.ownBlock = some g → S g
theorem CmdRows.set0 {w : World} {S : Nat → Prop} {ys : List Value} {ns : List Nat} (h : CmdRows w S ys ns) (i : Nat) (v : Value) : CmdRows w S (ys.set (i * 2) v) ns := fun j hj => by
  obtain ⟨u, xs, h1, h2, h3⟩ := h j hj
  exact ⟨u, xs, by rw [List.getElem?_set_ne (by omega)]; exact h1, h2, h3⟩
theorem CmdRows.below {w w' : World} {S : Nat → Prop} {ys : List Value} {ns : List Nat} (h : CmdRows w S ys ns) (hb : Below w.heap.size w w') : CmdRows w' S ys ns := fun j hj => by
  obtain ⟨u, xs, h1, h2, h3⟩ := h j hj
  exact ⟨u, xs, h1, owns_kept (S := fun b => b < w.heap.size) (.of hb (fun b h => h)) (fun g h => (owns_in h2 g h).2) h2, h3⟩
/-- A store into a row of commands touches no row of texts. -/
theorem CmdRows.store {w : World} {S : Nat → Prop} {ys : List Value} {ns : List Nat} {g j n cap : Nat} {zs : List Value} {x : Value} (h : CmdRows w S ys ns) (hg : w.ownsRow 0 141 2 (.slice (some ⟨g, 0, none⟩) n cap) n zs) : CmdRows (w.setCell ⟨g, j, none⟩ x) S ys ns := fun i hi => by
  obtain ⟨u, xs, h1, h2, h3⟩ := h i hi
  refine ⟨u, xs, h1, owns_kept (S := fun b => b ≠ g) (Kp.set (fun k => k rfl)) (fun g' hg' => ?_) h2, h3⟩
  rintro rfl
  rcases h2.2 with ⟨rfl, _⟩ | ⟨g2, c2, cur2, rfl, _, hb2, _⟩
  · simp [Value.ownBlock] at hg'
  · simp [Value.ownBlock] at hg'
    subst hg'
    rcases hg.2 with ⟨hx, _⟩ | ⟨g3, c3, cur3, hx, _, hb3, _⟩
    · simp at hx
    · simp only [Value.slice.injEq, Option.some.injEq, Addr.mk.injEq, and_true, true_and] at hx
      obtain ⟨rfl, rfl⟩ := hx
      rw [hb2] at hb3
      simp at hb3

theorem owns_apart {w : World} {lo lo' sz sz' n n' : Nat} {e e' : TypeId} {v v' : Value} {xs xs' : List Value} (h : w.ownsRow lo e sz v n xs) (h' : w.ownsRow lo' e' sz' v' n' xs') (hne : e ≠ e') : v.ownBlock = none ∨ v.ownBlock ≠ v'.ownBlock := by
  rcases h.2 with ⟨rfl, _⟩ | ⟨g, c, cur, rfl, _, hb, _⟩
  · exact .inl rfl
  · right
    intro k
    rcases h'.2 with ⟨rfl, _⟩ | ⟨g', c', cur', rfl, _, hb', _⟩
    · simp [Value.ownBlock] at k
    · simp [Value.ownBlock] at k
      subst k
      rw [hb] at hb'
      simp at hb'
      exact hne hb'.2
theorem cmdRows_of {S : Nat → Prop} {w : World} {ys : List Value} {xs : List CmdD} (h : Laid shCmdO S w ys xs xs.length) : CmdRows w S ys (xs.map fun c => c.acts.length) := fun i hi => by
  have hi' : i < xs.length := by simpa using hi
  obtain ⟨cs, h1, ⟨u, rfl, _, h2, _⟩, h3⟩ := h i hi' hi'
  exact ⟨u, _, h3 1 (by simp), by simpa using h2.1, h2.2⟩
theorem cmds_sum (xs : List CmdD) : (xs.map fun c => c.acts.length).length + (xs.map fun c => c.acts.length).sum ≤ wtRow wtCmd xs := by
  induction xs with
  | nil => simp [wtRow]
  | cons x xs ih =>
    have e : wtRow wtCmd (x :: xs) = (1 + wtCmd x) + wtRow wtCmd xs := by simp [wtRow]
    rw [e]
    simp only [List.map_cons, List.length_cons, List.sum_cons]
    have : x.acts.length ≤ wtCmd x := by unfold wtCmd bulkS; omega
    omega

end Go.Proofs.Ytiadcebolcdhbaa

/-! Where the list lies that an append to a list of the call's own hands on: in the same block, or in a new one; conditions as the library's law asks them. -/
namespace Go.Proofs.Ytiadcebolcdhbaa
open Go.RowKit
set_option linter.unusedSimpArgs false
set_option linter.unusedVariables false

theorem append_block {P : Program} (w : World) (base : Nat) (t ty e : TypeId) (i : TypeInfo) (z : Value) (size bytes : Nat) (ht : P.underlying t = some (.slice e)) (hi : P.info? e = some i) (hz : i.zero = some z)
    (hsize : i.size = size) (hby : i.bytes = bytes) (hzs : z.cells.size = size) (hsz : 0 < size)
    (v : Value) (n : Nat) (xs : List Value) (hown : w.ownsRow base e size v n xs)
    (a : Addr) (m c : Nat) (news : List Value) (hl : news.length = m * size) (hnews : ∀ j u, news[j]? = some u → w.cell? (a.add j) = some u) (h1 : ∀ u ∈ news, u.oneCell' = true)
    (h63 : n + m ≤ maxLen) (hbytes : (n + m) * bytes ≤ 140737488355328) (hm : 0 < m) (v' : Value) (w' : World)
    (hr : (Builtin.append_ #[t, t] ty #[v, .slice (some a) m c]).run P w = .ok v' w') : v'.ownBlock = v.ownBlock ∨ v'.ownBlock = some w.heap.size := by
  subst hsize
  subst hby
  have hsmall : n + m ≤ 9223372036854775807 := by simp only [maxLen] at h63; omega
  rcases hown.2 with ⟨rfl, rfl⟩ | ⟨g, cap, cur, rfl, hbg, hg, hnc, hcm, hcs, htake⟩
  · have h := run_append_nil (P := P) w t ty e i z ht hi hz a m c news hl hnews (by omega) (by omega) (by have hb := hbytes; simp only [Nat.zero_add] at hb; omega)
    rw [hr] at h
    obtain ⟨rfl, _⟩ := (Result.ok.injEq ..).mp h
    exact .inr rfl
  · by_cases hroom : n + m ≤ cap
    · have hfit : n * i.size + news.length ≤ cur.size := by rw [hl, hcs, ← Nat.add_mul]; exact Nat.mul_le_mul_right _ hroom
      have h := run_append_room (P := P) w t ty e i ht hi g n cap cur hg a m c news hl hnews h1 hroom hfit
      rw [hr] at h
      obtain ⟨rfl, _⟩ := (Result.ok.injEq ..).mp h
      exact .inl rfl
    · have h := run_append_grow (P := P) w t ty e i z ht hi hz ⟨g, 0, none⟩ n cap xs hown.1 (hown.cells (g := g) rfl) a m c news hl hnews (by omega) (by omega) (growslice_fits (by omega) hbytes)
      rw [hr] at h
      obtain ⟨rfl, _⟩ := (Result.ok.injEq ..).mp h
      exact .inr rfl

end Go.Proofs.Ytiadcebolcdhbaa
