/-
  A list of texts told as a value, by the specification: a contract for the walks; condition: the texts hold at most 2 to the 20.
-/
import Derived.Test.YtbolphjigjpmiaaPvB
import Derived.Deep.RegionHeld
namespace Go.Proofs.Ytbolphjigjpmiaa
open Go.RowKit
set_option linter.unusedSimpArgs false
set_option linter.unusedVariables false

set_option maxHeartbeats 8000000 in
set_option maxRecDepth 100000 in
theorem listVal_c (v : Value) (ss : List ByteArray) (w : World) (hv : Reads w v (strsV ss)) (hs : bulkS ss ≤ 1048576) :
    Calls Try.prog 47 #[v] w fun e w' => ∃ c, e = .returned (.agg #[.int .i64 4, .int .i64 0, .string ⟨#[]⟩, c, .slice none 0 0]) ∧ w'.ownsRow w.heap.size 30 5 c ss.length (textsV ss) ∧ Below w.heap.size w w' := by
  obtain ⟨a, cap, rfl, _, ha⟩ := reads_strs hv
  have hl : ss.length ≤ 1048576 := by unfold bulkS at hs; omega
  have hbx : ∀ o o', Below w.heap.size w ((w.alloc o).alloc o') := fun o o' => ((Below.refl _ _).alloc (Nat.le_refl _) _).alloc (by simp) _
  clear hv
  go_enter Try.func47, Try.ntmps47
  go_wp2_with fail
  go_loopw [4] (fun vi wr => ∃ (k : Nat) (c : Value), k ≤ ss.length ∧ vi = .int .i64 (k : Int) ∧ wr.heap[w.heap.size]? = some (.cells #[.int .i64 0, .int .i64 0, .string ⟨#[]⟩, .slice none 0 0, .slice none 0 0] 30 (0, 0)) ∧ wr.heap[w.heap.size + 1]? = some (boxL c) ∧ wr.ownsRow (w.heap.size + 2) 30 5 c k (textsV (ss.take k)) ∧ Below w.heap.size w wr) (fun vi _ => ss.length - (intOf vi).toNat)
  case atStart =>
    refine ⟨0, .slice none 0 0, Nat.zero_le _, rfl, ?_, ?_, ?_, hbx _ _⟩
    · rw [vheap_old _ _ (by simp), vheap_new]
    · have := vheap_new (w.alloc (.cells #[.int .i64 0, .int .i64 0, .string ⟨#[]⟩, .slice none 0 0, .slice none 0 0] 30)) (boxL (.slice none 0 0))
      rw [show (w.alloc (.cells #[.int .i64 0, .int .i64 0, .string ⟨#[]⟩, .slice none 0 0, .slice none 0 0] 30)).heap.size = w.heap.size + 1 by simp] at this
      exact this
    · exact ⟨rfl, .inl ⟨rfl, rfl⟩⟩
  case round =>
    obtain ⟨k, c, hk, rfl, hR, hO, hrow, hbr⟩ := hrel
    by_cases hlt : k < ss.length
    · rcases ha with rfl | ⟨b, off, rfl, hltb, ha⟩
      · simp at hlt
      have e0 : wr.cell? ⟨b, off + k, none⟩ = some (.string ss[k]) := (hbr.cell (by simpa using hltb)).trans (ha k hlt)
      have hki : (k : Int) < (ss.length : Int) := by omega
      obtain ⟨t, ht⟩ : ∃ t, t = ss[k] := ⟨_, rfl⟩
      rw [← ht] at e0
      have hts : t.size ≤ 1048576 := by
        have h1 := List.getElem_mem hlt
        rw [← ht] at h1
        have h2 : t.size ≤ (ss.map ByteArray.size).sum := List.single_le_sum_nat h1
        unfold bulkS at hs; omega
      have HTK := hidden (textsV_take ss k hlt)
      rw [← ht] at HTK
      have HT := hidden (fun w1 => textVal_c t w1)
      have KEEP : Hid (∀ w', Below wr.heap.size wr w' → w'.cell? ⟨b, off + k, none⟩ = some (.string t)) := fun w' h => (h.cell (by simpa using Nat.lt_of_lt_of_le hltb hbr.size)).trans e0
      have hcw : w.cell? ⟨b, off + k, none⟩ = some (.string t) := by rw [ht]; exact ha k hlt
      have KEEPW : Hid (∀ w', Below w.heap.size w w' → w'.cell? ⟨b, off + k, none⟩ = some (.string t)) := fun w' h => (h.cell (by simpa using hltb)).trans hcw
      clear ht ha hcw e0
      go_wp2_with fail
      obtain ⟨i0, hi, hz0, hz1, hz2⟩ := info_parts infoVal
      refine wp_region_held_drew (S := (fun w' => w'.cell? ⟨b, off + k, none⟩ = some (.string t))) (by kernel_rfl) (KEEP.out _ (Below.refl _ _).drew) (fun hHeld => ?_)
      refine wpAnyH_take (i := 0) (oi := _) (v := ?vT1) rfl (by kernel_rfl) (by kernel_rfl) (by kernel_rfl) (fun _ _ _ h => h) (Or.inl ⟨by rfl, ?yT1⟩) hHeld ?_
      case yT1 => (intro w hSw; (try dsimp only at hSw); go_simp <;> with_reducible rfl)
      try simp only [Act.put, List.getElem_toArray, List.getElem_cons_zero, List.getElem_cons_succ, List.setIfInBounds_toArray, List.set_cons_zero, List.set_cons_succ]
      refine wpAnyH_take (i := 2) (oi := _) (v := ?vT2) rfl (by kernel_rfl) (by kernel_rfl) (by kernel_rfl) (fun _ _ _ h => h) (Or.inl ⟨by rfl, ?yT2⟩) hHeld ?_
      case yT2 => (intro w hSw; (try dsimp only at hSw); go_simp <;> with_reducible rfl)
      try simp only [Act.put, List.getElem_toArray, List.getElem_cons_zero, List.getElem_cons_succ, List.setIfInBounds_toArray, List.set_cons_zero, List.set_cons_succ]
      refine wpAnyH_take (i := 3) (oi := _) (v := ?vT3) rfl (by kernel_rfl) (by kernel_rfl) (by kernel_rfl) (fun _ _ _ h => h) (Or.inl ⟨by rfl, ?yT3⟩) hHeld ?_
      case yT3 => (intro w hSw; (try dsimp only at hSw); go_simp <;> with_reducible rfl)
      try simp only [Act.put, List.getElem_toArray, List.getElem_cons_zero, List.getElem_cons_succ, List.setIfInBounds_toArray, List.set_cons_zero, List.set_cons_succ]
      refine wpAnyH_take (i := 4) (oi := _) (v := ?vT4) rfl (by kernel_rfl) (by kernel_rfl) (by kernel_rfl) (fun _ _ _ h => h) (Or.inl ⟨by rfl, ?yT4⟩) hHeld ?_
      case yT4 => (intro w hSw; (try dsimp only at hSw); go_simp <;> with_reducible rfl)
      try simp only [Act.put, List.getElem_toArray, List.getElem_cons_zero, List.getElem_cons_succ, List.setIfInBounds_toArray, List.set_cons_zero, List.set_cons_succ]
      refine wpAnyH_take (i := 5) (oi := _) (v := ?vT5) rfl (by kernel_rfl) (by kernel_rfl) (by kernel_rfl) (fun _ _ _ h => h) (Or.inl ⟨by rfl, ?yT5⟩) hHeld ?_
      case yT5 => (intro w hSw; (try dsimp only at hSw); go_simp <;> with_reducible rfl)
      try simp only [Act.put, List.getElem_toArray, List.getElem_cons_zero, List.getElem_cons_succ, List.setIfInBounds_toArray, List.set_cons_zero, List.set_cons_succ]
      refine as_phi2 (fun Φ hΦ => ?_)
      have N12 : Hid (∀ (W : World) (hO : W.heap[w.heap.size + 1]? = some (boxL c)) (hrow : W.ownsRow (w.heap.size + 2) 30 5 c k (textsV (ss.take k))) (hb : Below wr.heap.size wr W) (bb : Nat) (hbb : W.ownsRow 0 30 5 (.slice (some ⟨bb, 0, none⟩) 1 1) 1 (textV t)), Φ 3 #[true, true, true, true, true, true, true, true, false, false, false] { tmps := #[.slice (some ⟨b, off, none⟩) ss.length cap, undef, .pointer (some ⟨w.heap.size, 0, none⟩), .pointer (some ⟨w.heap.size + 1, 0, none⟩), .int .i64 (k : Int), .agg #[.int .i64 4, .int .i64 0, .string ⟨#[]⟩, .slice none 0 0, .slice none 0 0], .int .i64 (k : Int), .slice (some ⟨b, off, none⟩) ss.length cap, .int .i64 (ss.length : Int), .bool true, u10, u11, .pointer (some ⟨w.heap.size + 1, 3, none⟩), c, .slice (some ⟨b, off, none⟩) ss.length cap, .int .i64 (k : Int), .pointer (some ⟨b, off + k, none⟩), .string t, .agg (textV t).toArray, .slice (some ⟨bb, 0, none⟩) 1 1, u20, u21, undef], defers := [] } W) := by
        intro W hO hrow hb bb hbb
        rw [hΦ]
        have hHeld := KEEP.out _ hb
        refine wpAnyH_ready (rs := [8]) (by kernel_rfl) (by simp) ?_
        refine AllReadyH.cons rfl (fun K hK => ?_) AllReadyH.nil
        rw [if_pos (by rfl)]
        have hb2 : w.heap.size + 2 ≤ W.heap.size := by have := (Array.getElem?_eq_some_iff.1 hO).1; omega
        refine wp_append_own _ _ _ 28 rfl (w.heap.size + 2) 30 i0 (.agg #[.int .i64 0, .int .i64 0, .string ⟨#[]⟩, .slice none 0 0, .slice none 0 0]) 5 80 Try.underlying28 hi hz0 hz1 hz2 rfl (by decide) c k _ rfl hrow ⟨bb, 0, none⟩ 1 1 (textV t) rfl (by rfl) (fun j u hj => ?_) (by simp [textV, Value.oneCell']) (by unfold maxLen; omega) (by omega) hb2 ?_
        · have hj5 : j < 5 := by
            have := (List.getElem?_eq_some_iff.1 hj).1
            simpa [textV] using this
          have := (hbb.cellAt j (by omega)).trans hj
          have e : ((⟨bb, 0, none⟩ : Addr).add j) = ⟨bb, j, none⟩ := by unfold Addr.add; split <;> simp_all
          rw [e]; exact this
        intro c' W1 hrow1 gr1 _
        obtain ⟨q', cap', ec'⟩ := owns_sl hrow1
        subst ec'
        have hne : c.ownBlock ≠ some (w.heap.size + 1) := fun e => by have := (owns_in hrow _ e).1; omega
        have hO1 := (gr1.block _ (Array.getElem?_eq_some_iff.1 hO).1 (fun e => hne e.symm)).trans hO
        have hbw : Below w.heap.size w W1 := Below.grown (hbr.trans (hb.mono hbr.size)) gr1 (Nat.le_trans hbr.size hb.size) (fun j hj => by have := (owns_in hrow _ hj).1; omega)
        clear hHeld
        refine hK.out _ _ (KEEPW.out _ hbw) (fun hHeld => ?_)
        clear hK K
        try simp only [Act.put, List.getElem_toArray, List.getElem_cons_zero, List.getElem_cons_succ, List.setIfInBounds_toArray, List.set_cons_zero, List.set_cons_succ]
        refine wpAnyH_take (i := 9) (oi := _) (v := ?vT6) rfl (by kernel_rfl) (by kernel_rfl) (by kernel_rfl) (fun _ _ _ h => h) (Or.inl ⟨by rfl, ?yT6⟩) hHeld ?_
        case yT6 => (intro w hSw; (try dsimp only at hSw); go_simp <;> with_reducible rfl)
        try simp only [Act.put, List.getElem_toArray, List.getElem_cons_zero, List.getElem_cons_succ, List.setIfInBounds_toArray, List.set_cons_zero, List.set_cons_succ]
        have x3 := vblk_cell hO1 3
        have fx := vblk_frozen hO1
        simp only [List.getElem?_toArray, List.getElem?_cons_succ, List.getElem?_cons_zero] at x3
        refine wpAnyH_ready (rs := [10]) (by kernel_rfl) (by simp) ?_
        refine AllReadyH.cons rfl (fun K hK => ?_) AllReadyH.nil
        go_simp
        clear hHeld
        refine hK.out _ _ (KEEPW.out _ (Below.setCell hbw (p := ⟨w.heap.size + 1, 3, none⟩) (by simp) _)) (fun hHeld => ?_)
        clear hK K
        try simp only [Act.put, List.getElem_toArray, List.getElem_cons_zero, List.getElem_cons_succ, List.setIfInBounds_toArray, List.set_cons_zero, List.set_cons_succ]
        refine wpAnyH_done (by kernel_rfl) ?_ _
        clear hHeld
        have hR1 : W1.heap[w.heap.size]? = _ := (gr1.block w.heap.size (by omega) (fun e => by have := (owns_in hrow _ e.symm).1; omega)).trans ((hb.block w.heap.size (by have := (Array.getElem?_eq_some_iff.1 hR).1; exact this)).trans hR)
        have hR2 := (Below.heap_setCell W1 ⟨w.heap.size + 1, 3, none⟩ (.slice q' (k + 1) cap') w.heap.size (by simp)).trans hR1
        have hO2 := heap_setCell_same W1 (w.heap.size + 1) 3 _ _ (.slice q' (k + 1) cap') hO1
        have hrow2 := owns_kept (S := fun b => w.heap.size + 2 ≤ b) (Kp.set (g := w.heap.size + 1) (j := 3) (v := .slice q' (k + 1) cap') (by omega)) (fun g h => (owns_in hrow1 g h).1) hrow1
        rw [← HTK.out] at hrow2
        have hbw2 := Below.setCell hbw (p := ⟨w.heap.size + 1, 3, none⟩) (by simp) (.slice q' (k + 1) cap')
        have HF := hidden (And.intro hR2 (And.intro hO2 (And.intro hrow2 hbw2)))
        clear hR1 hR2 hO2 hrow2 hbw2 hrow1 gr1 hO1 x3 fx hbb hO hrow hb hbw
        go_wp2_with fail
        go_roundw
        case rel => exact ⟨k + 1, _, by omega, by go_num, HF.out.1, HF.out.2.1, HF.out.2.2.1, HF.out.2.2.2⟩
        case measure => simp [intOf]; omega
      have N02 : Hid (∀ (W : World) (hO : W.heap[w.heap.size + 1]? = some (boxL c)) (hrow : W.ownsRow (w.heap.size + 2) 30 5 c k (textsV (ss.take k))) (hb : Below wr.heap.size wr W) (bb : Nat) (hbb : W.ownsRow 0 30 5 (.slice (some ⟨bb, 0, none⟩) 1 1) 1 (textV t)), Φ 4 #[true, false, true, true, true, true, true, true, false, false, false] { tmps := #[.slice (some ⟨b, off, none⟩) ss.length cap, undef, .pointer (some ⟨w.heap.size, 0, none⟩), .pointer (some ⟨w.heap.size + 1, 0, none⟩), .int .i64 (k : Int), .agg #[.int .i64 4, .int .i64 0, .string ⟨#[]⟩, .slice none 0 0, .slice none 0 0], .int .i64 (k : Int), .slice (some ⟨b, off, none⟩) ss.length cap, .int .i64 (ss.length : Int), .bool true, u10, u11, .pointer (some ⟨w.heap.size + 1, 3, none⟩), u13, .slice (some ⟨b, off, none⟩) ss.length cap, .int .i64 (k : Int), .pointer (some ⟨b, off + k, none⟩), .string t, .agg (textV t).toArray, .slice (some ⟨bb, 0, none⟩) 1 1, u20, u21, undef], defers := [] } W) := by
        intro W hO hrow hb bb hbb
        rw [hΦ]
        have hHeld := KEEP.out _ hb
        refine wpAnyH_ready (rs := [1]) (by kernel_rfl) (by simp) ?_
        refine AllReadyH.cons rfl (fun K hK => ?_) AllReadyH.nil
        have x3 := vblk_cell hO 3
        simp only [List.getElem?_toArray, List.getElem?_cons_succ, List.getElem?_cons_zero] at x3
        go_simp
        clear hHeld
        refine hK.out _ _ (KEEP.out _ hb) (fun hHeld => ?_)
        clear hK K
        try simp only [Act.put, List.getElem_toArray, List.getElem_cons_zero, List.getElem_cons_succ, List.setIfInBounds_toArray, List.set_cons_zero, List.set_cons_succ]
        have h := N12.out W hO hrow hb bb hbb
        rw [hΦ] at h
        exact wpAny_at2 h (by kernel_rfl) (by kernel_rfl)
      have N11 : Hid (∀ (W : World) (hO : W.heap[w.heap.size + 1]? = some (boxL c)) (hrow : W.ownsRow (w.heap.size + 2) 30 5 c k (textsV (ss.take k))) (hb : Below wr.heap.size wr W), Φ 4 #[true, true, true, true, true, true, true, false, false, false, false] { tmps := #[.slice (some ⟨b, off, none⟩) ss.length cap, undef, .pointer (some ⟨w.heap.size, 0, none⟩), .pointer (some ⟨w.heap.size + 1, 0, none⟩), .int .i64 (k : Int), .agg #[.int .i64 4, .int .i64 0, .string ⟨#[]⟩, .slice none 0 0, .slice none 0 0], .int .i64 (k : Int), .slice (some ⟨b, off, none⟩) ss.length cap, .int .i64 (ss.length : Int), .bool true, u10, u11, .pointer (some ⟨w.heap.size + 1, 3, none⟩), c, .slice (some ⟨b, off, none⟩) ss.length cap, .int .i64 (k : Int), .pointer (some ⟨b, off + k, none⟩), .string t, .agg (textV t).toArray, u19, u20, u21, undef], defers := [] } W) := by
        intro W hO hrow hb
        rw [hΦ]
        have hHeld := KEEP.out _ hb
        refine wpAnyH_ready (rs := [7]) (by kernel_rfl) (by simp) ?_
        refine AllReadyH.cons rfl (fun K hK => ?_) AllReadyH.nil
        unfold textV
        go_simp
        have ka : Below W.heap.size W (W.alloc (.cells (textV t).toArray 30)) := (Below.refl _ _).alloc (Nat.le_refl _) _
        have hbb : (W.alloc (.cells (textV t).toArray 30)).ownsRow 0 30 5 (.slice (some ⟨W.heap.size, 0, none⟩) 1 1) 1 (textV t) := owns_lo (Nat.zero_le _) (World.ownsRow_lit W (textV t).toArray 1 (Nat.le_refl _) (by unfold maxLen; omega) rfl)
        have hO := (ka.block _ (Array.getElem?_eq_some_iff.1 hO).1).trans hO
        have hrow := hrow.kept (grown_of_below ka none) (by cases hq : c.ownBlock <;> simp)
        have hb := hb.trans (ka.mono hb.size)
        obtain ⟨bb, hbbe⟩ : ∃ q, q = W.heap.size := ⟨_, rfl⟩
        rw [← hbbe] at hbb
        try rw [← hbbe]
        clear hHeld
        refine hK.out _ (W.alloc (.cells (textV t).toArray 30)) (KEEP.out _ hb) (fun hHeld => ?_)
        clear hK K
        try simp only [Act.put, List.getElem_toArray, List.getElem_cons_zero, List.getElem_cons_succ, List.setIfInBounds_toArray, List.set_cons_zero, List.set_cons_succ]
        have h := N12.out (W.alloc (.cells (textV t).toArray 30)) hO hrow hb bb hbb
        rw [hΦ] at h
        exact wpAny_at2 h (by kernel_rfl) (by kernel_rfl)
      have N01 : Hid (∀ (W : World) (hO : W.heap[w.heap.size + 1]? = some (boxL c)) (hrow : W.ownsRow (w.heap.size + 2) 30 5 c k (textsV (ss.take k))) (hb : Below wr.heap.size wr W), Φ 5 #[true, false, true, true, true, true, true, false, false, false, false] { tmps := #[.slice (some ⟨b, off, none⟩) ss.length cap, undef, .pointer (some ⟨w.heap.size, 0, none⟩), .pointer (some ⟨w.heap.size + 1, 0, none⟩), .int .i64 (k : Int), .agg #[.int .i64 4, .int .i64 0, .string ⟨#[]⟩, .slice none 0 0, .slice none 0 0], .int .i64 (k : Int), .slice (some ⟨b, off, none⟩) ss.length cap, .int .i64 (ss.length : Int), .bool true, u10, u11, .pointer (some ⟨w.heap.size + 1, 3, none⟩), u13, .slice (some ⟨b, off, none⟩) ss.length cap, .int .i64 (k : Int), .pointer (some ⟨b, off + k, none⟩), .string t, .agg (textV t).toArray, u19, u20, u21, undef], defers := [] } W) := by
        intro W hO hrow hb
        rw [hΦ]
        have hHeld := KEEP.out _ hb
        refine wpAnyH_ready (rs := [1, 7]) (by kernel_rfl) (by simp) ?_
        refine AllReadyH.cons rfl (fun K hK => ?_) (AllReadyH.cons rfl (fun K hK => ?_) AllReadyH.nil)
        · have x3 := vblk_cell hO 3
          simp only [List.getElem?_toArray, List.getElem?_cons_succ, List.getElem?_cons_zero] at x3
          go_simp
          clear hHeld
          refine hK.out _ _ (KEEP.out _ hb) (fun hHeld => ?_)
          clear hK K
          try simp only [Act.put, List.getElem_toArray, List.getElem_cons_zero, List.getElem_cons_succ, List.setIfInBounds_toArray, List.set_cons_zero, List.set_cons_succ]
          have h := N11.out W hO hrow hb
          rw [hΦ] at h
          exact wpAny_at2 h (by kernel_rfl) (by kernel_rfl)
        · unfold textV
          go_simp
          have ka : Below W.heap.size W (W.alloc (.cells (textV t).toArray 30)) := (Below.refl _ _).alloc (Nat.le_refl _) _
          have hbb : (W.alloc (.cells (textV t).toArray 30)).ownsRow 0 30 5 (.slice (some ⟨W.heap.size, 0, none⟩) 1 1) 1 (textV t) := owns_lo (Nat.zero_le _) (World.ownsRow_lit W (textV t).toArray 1 (Nat.le_refl _) (by unfold maxLen; omega) rfl)
          have hO := (ka.block _ (Array.getElem?_eq_some_iff.1 hO).1).trans hO
          have hrow := hrow.kept (grown_of_below ka none) (by cases hq : c.ownBlock <;> simp)
          have hb := hb.trans (ka.mono hb.size)
          obtain ⟨bb, hbbe⟩ : ∃ q, q = W.heap.size := ⟨_, rfl⟩
          rw [← hbbe] at hbb
          try rw [← hbbe]
          clear hHeld
          refine hK.out _ (W.alloc (.cells (textV t).toArray 30)) (KEEP.out _ hb) (fun hHeld => ?_)
          clear hK K
          try simp only [Act.put, List.getElem_toArray, List.getElem_cons_zero, List.getElem_cons_succ, List.setIfInBounds_toArray, List.set_cons_zero, List.set_cons_succ]
          have h := N02.out (W.alloc (.cells (textV t).toArray 30)) hO hrow hb bb hbb
          rw [hΦ] at h
          exact wpAny_at2 h (by kernel_rfl) (by kernel_rfl)
      have N10 : Hid (∀ (W : World) (hO : W.heap[w.heap.size + 1]? = some (boxL c)) (hrow : W.ownsRow (w.heap.size + 2) 30 5 c k (textsV (ss.take k))) (hb : Below wr.heap.size wr W), Φ 5 #[true, true, true, true, true, true, false, false, false, false, false] { tmps := #[.slice (some ⟨b, off, none⟩) ss.length cap, undef, .pointer (some ⟨w.heap.size, 0, none⟩), .pointer (some ⟨w.heap.size + 1, 0, none⟩), .int .i64 (k : Int), .agg #[.int .i64 4, .int .i64 0, .string ⟨#[]⟩, .slice none 0 0, .slice none 0 0], .int .i64 (k : Int), .slice (some ⟨b, off, none⟩) ss.length cap, .int .i64 (ss.length : Int), .bool true, u10, u11, .pointer (some ⟨w.heap.size + 1, 3, none⟩), c, .slice (some ⟨b, off, none⟩) ss.length cap, .int .i64 (k : Int), .pointer (some ⟨b, off + k, none⟩), .string t, u18, u19, u20, u21, undef], defers := [] } W) := by
        intro W hO hrow hb
        rw [hΦ]
        have hHeld := KEEP.out _ hb
        refine wpAnyH_ready (rs := [6]) (by kernel_rfl) (by simp) ?_
        refine AllReadyH.cons rfl (fun K hK => ?_) AllReadyH.nil
        go_simp
        go_wp2_with (go_at_call 46; refine (HT.out _).mono ?_; rintro e W1 ⟨rfl, b1⟩)
        have hO := (b1.block _ (Array.getElem?_eq_some_iff.1 hO).1).trans hO
        have hrow := hrow.kept (grown_of_below b1 none) (by cases hq : c.ownBlock <;> simp)
        have hb := hb.trans (b1.mono hb.size)
        clear hHeld
        refine hK.out _ _ (KEEP.out _ hb) (fun hHeld => ?_)
        clear hK K
        try simp only [Act.put, List.getElem_toArray, List.getElem_cons_zero, List.getElem_cons_succ, List.setIfInBounds_toArray, List.set_cons_zero, List.set_cons_succ]
        have h := N11.out W1 hO hrow hb
        rw [hΦ] at h
        exact wpAny_at2 h (by kernel_rfl) (by kernel_rfl)
      have N00 : Hid (∀ (W : World) (hO : W.heap[w.heap.size + 1]? = some (boxL c)) (hrow : W.ownsRow (w.heap.size + 2) 30 5 c k (textsV (ss.take k))) (hb : Below wr.heap.size wr W), Φ 6 #[true, false, true, true, true, true, false, false, false, false, false] { tmps := #[.slice (some ⟨b, off, none⟩) ss.length cap, undef, .pointer (some ⟨w.heap.size, 0, none⟩), .pointer (some ⟨w.heap.size + 1, 0, none⟩), .int .i64 (k : Int), .agg #[.int .i64 4, .int .i64 0, .string ⟨#[]⟩, .slice none 0 0, .slice none 0 0], .int .i64 (k : Int), .slice (some ⟨b, off, none⟩) ss.length cap, .int .i64 (ss.length : Int), .bool true, u10, u11, .pointer (some ⟨w.heap.size + 1, 3, none⟩), u13, .slice (some ⟨b, off, none⟩) ss.length cap, .int .i64 (k : Int), .pointer (some ⟨b, off + k, none⟩), .string t, u18, u19, u20, u21, undef], defers := [] } W) := by
        intro W hO hrow hb
        rw [hΦ]
        have hHeld := KEEP.out _ hb
        refine wpAnyH_ready (rs := [1, 6]) (by kernel_rfl) (by simp) ?_
        refine AllReadyH.cons rfl (fun K hK => ?_) (AllReadyH.cons rfl (fun K hK => ?_) AllReadyH.nil)
        · have x3 := vblk_cell hO 3
          simp only [List.getElem?_toArray, List.getElem?_cons_succ, List.getElem?_cons_zero] at x3
          go_simp
          clear hHeld
          refine hK.out _ _ (KEEP.out _ hb) (fun hHeld => ?_)
          clear hK K
          try simp only [Act.put, List.getElem_toArray, List.getElem_cons_zero, List.getElem_cons_succ, List.setIfInBounds_toArray, List.set_cons_zero, List.set_cons_succ]
          have h := N10.out W hO hrow hb
          rw [hΦ] at h
          exact wpAny_at2 h (by kernel_rfl) (by kernel_rfl)
        · go_simp
          go_wp2_with (go_at_call 46; refine (HT.out _).mono ?_; rintro e W1 ⟨rfl, b1⟩)
          have hO := (b1.block _ (Array.getElem?_eq_some_iff.1 hO).1).trans hO
          have hrow := hrow.kept (grown_of_below b1 none) (by cases hq : c.ownBlock <;> simp)
          have hb := hb.trans (b1.mono hb.size)
          clear hHeld
          refine hK.out _ _ (KEEP.out _ hb) (fun hHeld => ?_)
          clear hK K
          try simp only [Act.put, List.getElem_toArray, List.getElem_cons_zero, List.getElem_cons_succ, List.setIfInBounds_toArray, List.set_cons_zero, List.set_cons_succ]
          have h := N01.out W1 hO hrow hb
          rw [hΦ] at h
          exact wpAny_at2 h (by kernel_rfl) (by kernel_rfl)
      have h := N00.out wr.drew hO (show wr.drew.ownsRow _ _ _ _ _ _ from hrow) (Below.refl _ _).drew
      rw [hΦ] at h
      exact wpAny_at2 h (by kernel_rfl) (by kernel_rfl)
    · have he : k = ss.length := by omega
      subst he
      rw [List.take_length] at hrow
      obtain ⟨qc, cc, ec⟩ := owns_sl hrow
      subst ec
      have x0 := vblk_cell hO 0
      have x1 := vblk_cell hO 1
      have x2 := vblk_cell hO 2
      have x3 := vblk_cell hO 3
      have x4 := vblk_cell hO 4
      have y0 := vblk_cell hR 0
      have y1 := vblk_cell hR 1
      have y2 := vblk_cell hR 2
      have y3 := vblk_cell hR 3
      have y4 := vblk_cell hR 4
      have fy := vblk_frozen hR
      simp only [List.getElem?_toArray, List.getElem?_cons_succ, List.getElem?_cons_zero] at x0 x1 x2 x3 x4 y0 y1 y2 y3 y4
      have HRW := hidden hrow
      clear ha hO hR hrow
      go_wp2_with fail
      refine bodyPost_ret (v := .agg #[.int .i64 4, .int .i64 0, .string ⟨#[]⟩, .slice qc ss.length cc, .slice none 0 0]) (by simp [results, Try.results47, go_sem, x0, x1, x2, x3, x4, y0, y1, y2, y3, y4]) rfl ⟨_, rfl, ?_, ?_⟩
      · refine owns_lo (lo := w.heap.size + 2) (by omega) (owns_kept (S := fun b => w.heap.size + 2 ≤ b) ?_ (fun g h => (owns_in HRW.out g h).1) HRW.out)
        (repeat (refine Kp.trans ?_ (Kp.set (by omega))))
        exact fun b hb => rfl
      · (repeat (refine Below.setCell ?_ (by simp) _))
        exact hbr
end Go.Proofs.Ytbolphjigjpmiaa
