/-
  What the functions that draw the arguments of chapter 1 answer: some text, some number, some list of bytes within their bounds; nothing that was there is written; conditions: the code lies in memory as told, and has at most 2 to the 20 bytes.
-/
import Derived.Test.YthapeknfhlpadaaDraw
import Derived.Laws.BytesArg
namespace Go.Proofs.Ythapeknfhlpadaa
open Go.RowKit
set_option linter.unusedSimpArgs false
set_option linter.unusedVariables false

theorem below_cur {w w1 w2 : World} {base g : Nat} {zs : List Int} (hb : Below base w w1) (hc : Cur w1 base g zs) (hbw : base ≤ w1.heap.size) (hg : w1.grownBy w2 (some g)) : Below base w w2 :=
  Below.grown hb hg hbw (fun k hk => by have := hc.1; simp at hk; omega)

set_option maxHeartbeats 1000000 in
set_option maxRecDepth 100000 in
theorem drawName_c (v : Value) (zs : List Int) (w : World) (hr : Reads w v (bytesV zs)) (hn : zs.length ≤ 1048576) (hz : ∀ z ∈ zs, 0 ≤ z ∧ z ≤ 255) :
    Calls Try.prog 15 #[v] w fun e w' => ∃ t : ByteArray, t.size ≤ 11 ∧ e = .returned (.string t) ∧ Below w.heap.size w w' := by
  go_enter Try.func15, Try.ntmps15
  go_wp2_with (first
    | (go_at_call 41; refine (new_c _ zs _ hr hn hz).mono ?_; rintro e w1 ⟨g, rfl, hc1, hb1⟩)
    | (go_at_call 42; refine (text_c _ g zs _ hc1).mono ?_; rintro e w2 ⟨t, ht, rfl, hc2, hg2⟩))
  go_ret
  exact ⟨t, ht, rfl, below_cur hb1 hc1 hb1.size hg2⟩

set_option maxHeartbeats 1000000 in
set_option maxRecDepth 100000 in
theorem drawPlain_c (v : Value) (zs : List Int) (w : World) (hr : Reads w v (bytesV zs)) (hn : zs.length ≤ 1048576) (hz : ∀ z ∈ zs, 0 ≤ z ∧ z ≤ 255) :
    Calls Try.prog 16 #[v] w fun e w' => ∃ (t : ByteArray) (m : Int), t.size ≤ 11 ∧ e = .returned (.tuple #[.string t, .int .i64 m]) ∧ Below w.heap.size w w' := by
  go_enter Try.func16, Try.ntmps16
  go_wp2_with (first
    | (go_at_call 41; refine (new_c _ zs _ hr hn hz).mono ?_; rintro e w1 ⟨g, rfl, hc1, hb1⟩)
    | (go_at_call 42; refine (text_c _ g zs _ hc1).mono ?_; rintro e w2 ⟨t, ht, rfl, hc2, hg2⟩
       have hs := int_c _ g zs w2.heap.size 5 [0, 3, 10, -1, 9223372036854775807] (w2.alloc (.cells ([0, 3, 10, -1, 9223372036854775807].map (Value.int .i64)).toArray 3)) (cur_alloc hc2 _) (by decide) (by decide) (by have := cur_lt hc2; omega) (lit_ints w2 _))
    | (go_at_call 47; refine hs.mono ?_; rintro e w3 ⟨j, hj, rfl, hc3, hg3⟩))
  go_ret2
  exact ⟨t, _, ht, rfl, below_cur hb1 hc1 hb1.size (grown_trans hg2 (grown_trans (World.grownBy_alloc _ _ _) hg3))⟩

theorem owns_weaken' {w : World} {base base' : Nat} {e : TypeId} {v : Value} {n : Nat} {xs : List Value} (h : w.ownsRow base e 1 v n xs) (hb : base' ≤ base) : w.ownsRow base' e 1 v n xs := by
  refine ⟨h.1, ?_⟩
  rcases h.2 with h | ⟨g, cap, cur, hv, hg, r⟩
  · exact .inl h
  · exact .inr ⟨g, cap, cur, hv, Nat.le_trans hb hg, r⟩

theorem conv_zeros {w : World} {base g n : Nat} (h : w.ownsRow base 5 1 (.slice (some ⟨g, 0, none⟩) n n) n (madeCells #[Value.int .u8 0] n).toList) :
    ∃ s : ByteArray, s.size = n ∧ ∀ w', Below w.heap.size w w' → (convert 22 9 (.slice (some ⟨g, 0, none⟩) n n)).run Try.prog w' = .ok (.string s) w' := by
  refine ⟨strOfNums (List.replicate n 0), by rw [strOfNums_size]; simp, fun w' hb => ?_⟩
  have h' := h.kept (grown_of_below hb none) (.inr (by simp [Value.ownBlock]))
  refine run_convert_bytes_arg w' 22 5 Try.underlying22 Try.underlying5 g 0 n n _ (by simp) (fun i hi => ?_) 9 Try.underlying9
  rw [Nat.zero_add, h'.cellAt i (by omega)]
  rw [toList_madeCells_one]
  simp [hi, List.getD_eq_getElem?_getD]

set_option maxHeartbeats 1000000 in
set_option maxRecDepth 100000 in
theorem drawPut_c (v : Value) (zs : List Int) (w : World) (hr : Reads w v (bytesV zs)) (hn : zs.length ≤ 1048576) (hz : ∀ z ∈ zs, 0 ≤ z ∧ z ≤ 255) :
    Calls Try.prog 13 #[v] w fun e w' => ∃ (u : Value) (bs : List Int) (s : ByteArray), bs.length ≤ 4 ∧ (∀ z ∈ bs, 0 ≤ z ∧ z ≤ 255) ∧ u ≠ .slice none 0 0 ∧ s.size ≤ 60001 ∧ e = .returned (.tuple #[u, .string s]) ∧ w'.ownsRow w.heap.size 5 1 u bs.length (bytesV bs) ∧ Below w.heap.size w w' := by
  obtain ⟨i0, hi, hz0, hz1, hz2⟩ := info_parts info5
  go_enter Try.func13, Try.ntmps13
  go_wp2_with (first
    | (go_at_call 41; refine (new_c _ zs _ hr hn hz).mono ?_; rintro e w1 ⟨g, rfl, hc1, hb1⟩)
    | (go_at_call 42; refine (text_c _ g zs _ hc1).mono ?_; rintro e w2 ⟨t, ht, rfl, hc2, hg2⟩)
    | (go_at_call 43; refine (once_c _ g zs _ _ hc2).mono ?_; rintro e w3 ⟨b, rfl, hc3, hg3⟩))
  · refine (below_c _ g zs 2 _ hc3).mono ?_
    rintro e w4 ⟨x, rfl, hx, hc4, hg4⟩
    have hx2 : x < 2 := by have := hx (by omega); omega
    go_wp2_with (first
      | (at_make; refine wpList_make_full _ rfl _ _ 22 rfl w4.heap.size 5 i0 (.int .u8 0) 1 Try.underlying22 hi hz0 hz1 _ _ _ _ (60000 + x) rfl rfl (by omega) (by omega) (by rw [hz2]; omega) (by unfold maxLen; omega) (Nat.le_refl _) ?_))
    intro w5 o5 gr5
    obtain ⟨sZ, hsZ, hcv0⟩ := conv_zeros o5
    have hcv := hcv0 w5 (Below.refl _ _)
    clear hcv0
    have hc5 : Cur w5 w.heap.size g zs := cur_grown hc4 gr5 (by simp) (by simp)
    have hg5 : w2.grownBy w5 (some g) := grown_trans (grown_trans hg3 hg4) (grown_of_below (below_of_grown gr5) _)
    have hg25 := grown_trans hg2 hg5
    clear o5 gr5
    go_wp2_with fail
    go_at_call 44
    refine (below_c _ g zs 4 _ hc5).mono ?_
    rintro e w6 ⟨y, rfl, hy, hc6, hg6⟩
    have hy4 : y < 4 := by have := hy (by omega); omega
    have hbw6 : w.heap.size ≤ w6.heap.size := by have h1 := hb1.size; have h2 := hg25.size; have h3 := hg6.size; omega
    go_wp2_with (go_at_call 45; refine (bytes_c _ g zs y _ (by omega) hc6 hbw6).mono ?_; rintro e w7 ⟨u, bs, hl, hzb, hnn, rfl, o7, hc7, hg7⟩)
    go_ret2
    subst hl
    exact ⟨u, bs, _, by omega, hzb, hnn, by omega, rfl, owns_weaken' o7 hbw6, below_cur hb1 hc1 hb1.size (grown_trans hg25 (grown_trans hg6 hg7))⟩
  · have hg23 := grown_trans hg2 hg3
    refine (below_c _ g zs 4 _ hc3).mono ?_
    rintro e w6 ⟨y, rfl, hy, hc6, hg6⟩
    have hy4 : y < 4 := by have := hy (by omega); omega
    have hbw6 : w.heap.size ≤ w6.heap.size := by have h1 := hb1.size; have h2 := hg23.size; have h3 := hg6.size; omega
    go_wp2_with (go_at_call 45; refine (bytes_c _ g zs y _ (by omega) hc6 hbw6).mono ?_; rintro e w7 ⟨u, bs, hl, hzb, hnn, rfl, o7, hc7, hg7⟩)
    go_ret2
    subst hl
    exact ⟨u, bs, _, by omega, hzb, hnn, by omega, rfl, owns_weaken' o7 hbw6, below_cur hb1 hc1 hb1.size (grown_trans hg23 (grown_trans hg6 hg7))⟩
end Go.Proofs.Ythapeknfhlpadaa
