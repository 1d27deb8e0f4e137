/-
  What the functions that draw the arguments of chapter 1 answer: some list of texts, some number, some text and byte within their bounds; nothing that was there is written; conditions: the code lies in memory as told, and has at most 2 to the 20 bytes.
-/
import Derived.Test.YthapeknfhlpadaaDoorDraw
import Derived.Test.YthapeknfhlpadaaDoorWordsF
import Derived.Laws.BytesArg
namespace Go.Proofs.YthapeknfhlpadaaDoor
open Go.RowKit
set_option linter.unusedSimpArgs false
set_option linter.unusedVariables false

theorem belowCur {w w1 w2 : World} {base g : Nat} {zs : List Int} (hb : Below base w w1) (hc : Cur w1 base g zs) (hbw : base ≤ w1.heap.size) (hg : w1.grownBy w2 (some g)) : Below base w w2 :=
  Below.grown hb hg hbw (fun k hk => by have := hc.1; simp at hk; omega)
theorem ownsLower {w : World} {base base' : Nat} {e : TypeId} {v : Value} {n : Nat} {xs : List Value} (h : w.ownsRow base e 1 v n xs) (hb : base' ≤ base) : w.ownsRow base' e 1 v n xs := by
  refine ⟨h.1, ?_⟩
  rcases h.2 with h | ⟨g, cap, cur, hv, hg, r⟩
  · exact .inl h
  · exact .inr ⟨g, cap, cur, hv, Nat.le_trans hb hg, r⟩

theorem intIn_c (base g : Nat) (zs : List Int) (gl mcap : Nat) (xs : List Int) (w : World) (hc : Cur w base g zs) (hm : 0 < xs.length) (hm2 : xs.length ≤ 1048576) (hne : gl ≠ g) (hxs : ∀ k, k < xs.length → w.cell? ⟨gl, k, none⟩ = some (.int .i64 (xs.getD k 0))) :
    Calls Tryd.prog 29 #[.pointer (some ⟨g, 0, none⟩), .slice (some ⟨gl, 0, none⟩) xs.length mcap] w fun e w' => ∃ x, x ∈ xs ∧ e = .returned (.int .i64 x) ∧ Cur w' base g zs ∧ w.grownBy w' (some g) :=
  (int_c base g zs gl mcap xs w hc hm hm2 hne hxs).mono fun e w' ⟨j, hj, he, h1, h2⟩ => ⟨xs.getD j 0, by rw [List.getD_eq_getElem?_getD]; simp [hj], he, h1, h2⟩

def numList : List Int := [0, 1, 9, 10, 42, 999, 9999, 65535, 9999999, 10000000, -1, -9223372036854775808, 9223372036854775807]
theorem numList_in : ∀ x ∈ numList, -9223372036854775808 ≤ x ∧ x ≤ 9223372036854775807 := by decide

set_option maxHeartbeats 1000000 in
set_option maxRecDepth 100000 in
theorem num_c (base g : Nat) (zs : List Int) (w : World) (hc : Cur w base g zs) :
    Calls Tryd.prog 26 #[.pointer (some ⟨g, 0, none⟩)] w fun e w' => ∃ x : Int, -9223372036854775808 ≤ x ∧ x ≤ 9223372036854775807 ∧ e = .returned (.int .i64 x) ∧ Cur w' base g zs ∧ w.grownBy w' (some g) := by
  have hlt := cur_lt hc
  have hs := intIn_c base g zs w.heap.size 13 numList (w.alloc (.cells (numList.map (Value.int .i64)).toArray 3)) (cur_alloc hc _) (by decide) (by decide) (by omega) (lit_ints w numList)
  go_enter Tryd.func26, Tryd.ntmps26
  go_wp2_with (go_at_call 29; refine hs.mono ?_; rintro e w1 ⟨x, hx, rfl, hc1, hg1⟩)
  go_ret
  exact ⟨x, (numList_in x hx).1, (numList_in x hx).2, rfl, hc1, grown_trans (World.grownBy_alloc _ _ _) hg1⟩

set_option maxHeartbeats 1000000 in
set_option maxRecDepth 100000 in
theorem list_c (base g : Nat) (zs : List Int) (w : World) (hc : Cur w base g zs) (hbw : base ≤ w.heap.size) :
    Calls Tryd.prog 32 #[.pointer (some ⟨g, 0, none⟩)] w fun e w' => ∃ (v : Value) (ts : List ByteArray), ts.length ≤ 6 ∧ (∀ t ∈ ts, t.size ≤ 11) ∧ e = .returned v ∧ w'.ownsRow w.heap.size 9 1 v ts.length (strsV ts) ∧ Cur w' base g zs ∧ w.grownBy w' (some g) := by
  obtain ⟨i0, hi, hz0, hz1, hz2⟩ := info_parts infoS
  have ho : (w.alloc (.cells #[] 9)).ownsRow w.heap.size 9 1 (.slice (some ⟨w.heap.size, 0, none⟩) 0 0) 0 [] := World.ownsRow_lit w #[] 0 (Nat.le_refl _) (by unfold maxLen; omega) rfl
  have hlt := cur_lt hc
  have hc0 := cur_alloc hc (.cells #[] 9)
  have hg0 : w.grownBy (w.alloc (.cells #[] 9)) (some g) := World.grownBy_alloc _ _ _
  go_enter Tryd.func32, Tryd.ntmps32
  go_wp2_with (go_at_call 40; refine (below_c base g zs 6 _ hc0).mono ?_; rintro e w1 ⟨n, rfl, hn, hc1, hg1⟩)
  have hn6 : n < 6 := by have := hn (by omega); omega
  have ho1 := ho.kept hg1 (.inr (fun e => by have := (ho.lt g e).1; omega))
  have hg01 := grown_trans hg0 hg1
  clear ho hc0 hg0 hg1 hn
  go_loopw [3, 4] (fun vo vi wr => ∃ (k : Nat) (ts : List ByteArray), k + ts.length = n ∧ vi = .int .i64 (k : Int) ∧ wr.ownsRow w.heap.size 9 1 vo ts.length (strsV ts) ∧ Hid (∀ t ∈ ts, t.size ≤ 11) ∧ Cur wr base g zs ∧ w.grownBy wr (some g)) (fun _ vi _ => (intOf vi).toNat)
  case atStart => exact ⟨n, [], by simp, rfl, ho1, (by intro t ht; simp at ht), hc1, hg01⟩
  case round =>
    obtain ⟨k, ts, hk, rfl, hown, hts, hcr, hgr⟩ := hrel
    clear ho1 hc1 hg01
    by_cases h0 : 0 < k
    · have hki : (0 : Int) < (k : Int) := by omega
      go_wp2_with (first
        | (go_at_call 41
           refine (text_c base g zs _ hcr).mono ?_
           rintro e w2 ⟨t, ht, rfl, hc2, hg2⟩
           have hown2 := hown.kept hg2 (.inr (fun e => by have := (hown.lt g e).1; omega))
           have hg3 := grown_trans hgr hg2
           clear hown hgr)
        | (at_builtin; refine wpList_append_own _ rfl _ _ 32 rfl w.heap.size 9 i0 (.string ⟨#[]⟩) 1 16 Tryd.underlying32 hi hz0 hz1 hz2 rfl (by decide) _ ts.length (strsV ts) rfl (hown2.alloc _) ⟨w2.heap.size, 0, none⟩ 1 1 (strsV [t]) rfl rfl (cell_one_new _ _ _) (fun u hu => by simp [strsV] at hu; subst hu; rfl) (by unfold maxLen; omega) (by omega) (by have := hg3.size; simp; omega) ?_))
      intro v2 w3 o3 gr3 hnil
      have hlt1 := cur_lt hc2
      have hrow : ∀ j, Value.ownBlock _ = some j → w.heap.size ≤ j := fun j hj => (hown2.lt j hj).1
      have hc3 : Cur w3 base g zs := cur_grown (cur_alloc hc2 _) gr3 (fun j hj => Nat.le_trans hbw (hrow j hj)) (fun e => by have := hrow g e; omega)
      have hg4 : w.grownBy w3 (some g) := grown_own hg3 gr3 hrow
      rw [strs_append] at o3
      have hl3 : (ts ++ [t]).length = ts.length + 1 := by simp
      rw [← hl3] at o3
      have hts3 : Hid (∀ x ∈ ts ++ [t], x.size ≤ 11) := fun x hx => by
        rcases List.mem_append.1 hx with h | h
        · exact hts.out x h
        · simp at h; subst h; exact ht
      clear hnil hown2 gr3 hg3 hrow hl3
      go_wp2
      go_roundw
      case rel => exact ⟨k - 1, ts ++ [t], (by simp; omega), by go_num, o3, hts3, hc3, hg4⟩
      case measure => simp [intOf]; omega
    · have hki : ¬ (0 : Int) < (k : Int) := by omega
      go_wp2
      go_ret
      exact ⟨_, ts, by omega, hts.out, rfl, hown, hcr, hgr⟩

set_option maxHeartbeats 1000000 in
set_option maxRecDepth 100000 in
theorem drawNum_c (v : Value) (zs : List Int) (w : World) (hr : Reads w v (bytesV zs)) (hn : zs.length ≤ 1048576) (hz : ∀ z ∈ zs, 0 ≤ z ∧ z ≤ 255) :
    Calls Tryd.prog 16 #[v] w fun e w' => ∃ x : Int, -9223372036854775808 ≤ x ∧ x ≤ 9223372036854775807 ∧ e = .returned (.int .i64 x) ∧ Below w.heap.size w w' := by
  go_enter Tryd.func16, Tryd.ntmps16
  go_wp2_with (first
    | (go_at_call 25; refine (new_c _ zs _ hr hn hz).mono ?_; rintro e w1 ⟨g, rfl, hc1, hb1⟩)
    | (go_at_call 26; refine (num_c _ g zs _ hc1).mono ?_; rintro e w2 ⟨x, hx0, hx1, rfl, hc2, hg2⟩))
  go_ret
  exact ⟨x, hx0, hx1, rfl, belowCur hb1 hc1 hb1.size hg2⟩

set_option maxHeartbeats 1000000 in
set_option maxRecDepth 100000 in
theorem drawSorted_c (v : Value) (zs : List Int) (w : World) (hr : Reads w v (bytesV zs)) (hn : zs.length ≤ 1048576) (hz : ∀ z ∈ zs, 0 ≤ z ∧ z ≤ 255) :
    Calls Tryd.prog 12 #[v] w fun e w' => ∃ (u : Value) (ts : List ByteArray), ts.length ≤ 6 ∧ (∀ t ∈ ts, t.size ≤ 11) ∧ e = .returned u ∧ w'.ownsRow w.heap.size 9 1 u ts.length (strsV ts) ∧ Below w.heap.size w w' := by
  go_enter Tryd.func12, Tryd.ntmps12
  go_wp2_with (first
    | (go_at_call 25; refine (new_c _ zs _ hr hn hz).mono ?_; rintro e w1 ⟨g, rfl, hc1, hb1⟩)
    | (go_at_call 32; refine (list_c _ g zs _ hc1 hb1.size).mono ?_; rintro e w2 ⟨u, ts, hl, hts, rfl, o2, hc2, hg2⟩))
  go_ret
  exact ⟨u, ts, hl, hts, rfl, ownsLower o2 hb1.size, belowCur hb1 hc1 hb1.size hg2⟩

set_option maxHeartbeats 1000000 in
set_option maxRecDepth 100000 in
theorem drawJoin_c (v : Value) (zs : List Int) (w : World) (hr : Reads w v (bytesV zs)) (hn : zs.length ≤ 1048576) (hz : ∀ z ∈ zs, 0 ≤ z ∧ z ≤ 255) :
    Calls Tryd.prog 15 #[v] w fun e w' => ∃ (u : Value) (ts : List ByteArray) (s : ByteArray), ts.length ≤ 6 ∧ (∀ t ∈ ts, t.size ≤ 11) ∧ s.size ≤ 4 ∧ e = .returned (.tuple #[u, .string s]) ∧ w'.ownsRow w.heap.size 9 1 u ts.length (strsV ts) ∧ Below w.heap.size w w' := by
  go_enter Tryd.func15, Tryd.ntmps15
  go_wp2_with (first
    | (go_at_call 25; refine (new_c _ zs _ hr hn hz).mono ?_; rintro e w1 ⟨g, rfl, hc1, hb1⟩)
    | (go_at_call 32; refine (list_c _ g zs _ hc1 hb1.size).mono ?_; rintro e w2 ⟨u, ts, hl, hts, rfl, o2, hc2, hg2⟩
       have hlt1 := cur_lt hc1
       have hne2 : ¬ u.ownBlock = some g := fun e => by have := (o2.lt g e).1; omega
       have hs := str_c _ g zs w2.heap.size 3 [⟨#[]⟩, ⟨#[44]⟩, ⟨#[32, 124, 124, 32]⟩] (w2.alloc (.cells ([⟨#[]⟩, ⟨#[44]⟩, ⟨#[32, 124, 124, 32]⟩].map Value.string).toArray 9)) (cur_alloc hc2 _) (by decide) (by decide) (by have := cur_lt hc2; omega) (lit_strs w2 _))
    | (go_at_call 28; refine hs.mono ?_; rintro e w3 ⟨s, hs3, rfl, hc3, hg3⟩))
  go_ret2
  have hsz : s.size ≤ 4 := by
    simp only [List.mem_cons, List.not_mem_nil, or_false] at hs3
    rcases hs3 with rfl | rfl | rfl <;> decide
  have hg23 := grown_trans (World.grownBy_alloc w2 _ _) hg3
  exact ⟨u, ts, s, hl, hts, hsz, rfl, ownsLower (o2.kept hg23 (.inr hne2)) hb1.size, belowCur hb1 hc1 hb1.size (grown_trans hg2 hg23)⟩

theorem join_small (ts : List ByteArray) (s : ByteArray) (hl : ts.length ≤ 6) (hts : ∀ t ∈ ts, t.size ≤ 11) (hs : s.size ≤ 4) : (joinS ts s).size ≤ 90 := by
  have h1 := joinUpto_size ts s ts.length (Nat.le_refl _)
  rw [List.take_length] at h1
  have h2 := sum_le_mul 11 ts hts
  have h3 : ts.length * s.size ≤ 6 * 4 := Nat.mul_le_mul hl hs
  have h4 : ts.length * 11 ≤ 66 := by omega
  unfold joinS
  omega
theorem bulk_small (ts : List ByteArray) (hl : ts.length ≤ 6) (hts : ∀ t ∈ ts, t.size ≤ 11) : bulkS ts ≤ 1048576 := by
  have h2 := sum_le_mul 11 ts hts
  unfold bulkS
  omega

set_option maxHeartbeats 1000000 in
set_option maxRecDepth 100000 in
theorem drawSplit_c (v : Value) (zs : List Int) (w : World) (hr : Reads w v (bytesV zs)) (hn : zs.length ≤ 1048576) (hz : ∀ z ∈ zs, 0 ≤ z ∧ z ≤ 255) :
    Calls Tryd.prog 11 #[v] w fun e w' => ∃ (s : ByteArray) (c : Int), s.size ≤ 90 ∧ 0 ≤ c ∧ c ≤ 255 ∧ e = .returned (.tuple #[.string s, .int .u8 c]) ∧ Below w.heap.size w w' := by
  go_enter Tryd.func11, Tryd.ntmps11
  go_wp2_with (first
    | (go_at_call 25; refine (new_c _ zs _ hr hn hz).mono ?_; rintro e w1 ⟨g, rfl, hc1, hb1⟩)
    | (go_at_call 32; refine (list_c _ g zs _ hc1 hb1.size).mono ?_; rintro e w2 ⟨u, ts, hl, hts, rfl, o2, hc2, hg2⟩
       have hs := intIn_c _ g zs w2.heap.size 4 [44, 44, 97, 0] (w2.alloc (.cells ([44, 44, 97, 0].map (Value.int .i64)).toArray 3)) (cur_alloc hc2 _) (by decide) (by decide) (by have := cur_lt hc2; omega) (lit_ints w2 _)
       have hsz := join_small ts ⟨#[44]⟩ hl hts (by decide)
       have hbk := bulk_small ts hl hts)
    | (go_at_call 21; refine (specJoin_c _ ts _ _ (reads_of_owns o2) hbk (by decide)).mono ?_; rintro e w3 ⟨rfl, rfl⟩)
    | (go_at_call 29; refine hs.mono ?_; rintro e w4 ⟨x, hx, rfl, hc3, hg3⟩
       have hx0 : 0 ≤ x := by simp at hx; omega
       have hx1 : x ≤ 255 := by simp at hx; omega))
  go_ret2
  exact ⟨joinS ts ⟨#[44]⟩, x, hsz, hx0, hx1, by simp, belowCur hb1 hc1 hb1.size (grown_trans hg2 (grown_trans (World.grownBy_alloc _ _ _) hg3))⟩

set_option maxHeartbeats 1000000 in
set_option maxRecDepth 100000 in
theorem drawParse_c (v : Value) (zs : List Int) (w : World) (hr : Reads w v (bytesV zs)) (hn : zs.length ≤ 1048576) (hz : ∀ z ∈ zs, 0 ≤ z ∧ z ≤ 255) :
    Calls Tryd.prog 9 #[v] w fun e w' => ∃ (s : ByteArray) (m : Int), s.size ≤ 20 ∧ e = .returned (.tuple #[.string s, .int .i64 m]) ∧ Below w.heap.size w w' := by
  go_enter Tryd.func9, Tryd.ntmps9
  go_wp2_with (first
    | (go_at_call 25; refine (new_c _ zs _ hr hn hz).mono ?_; rintro e w1 ⟨g, rfl, hc1, hb1⟩)
    | (go_at_call 26; refine (num_c _ g zs _ hc1).mono ?_; rintro e w2 ⟨x, hx0, hx1, rfl, hc2, hg2⟩)
    | (go_at_call 22; refine (specNumText_c _ _ hx1).mono ?_; rintro e w3 ⟨rfl, b3⟩
       have hsx : (numStr x.toNat).size ≤ 20 := by have := numStr_small x.toNat (by omega); omega
       have hc3 := cur_grown hc2 (grown_of_below b3 none) (by simp) (by simp)
       have hg3 := grown_trans hg2 (grown_of_below b3 (some g)))
    | (go_at_call 27; refine (once_c _ g zs _ _ hc3).mono ?_; rintro e w4 ⟨b, rfl, hc4, hg4⟩
       have hg14 := grown_trans hg3 hg4))
  · have hs := str_c _ g zs w4.heap.size 7 [⟨#[]⟩, ⟨#[48, 48]⟩, ⟨#[48, 49]⟩, ⟨#[120]⟩, ⟨#[49, 120]⟩, ⟨#[45, 49]⟩, ⟨#[49, 50, 51, 52, 53, 54, 55, 56]⟩] (w4.alloc (.cells ([⟨#[]⟩, ⟨#[48, 48]⟩, ⟨#[48, 49]⟩, ⟨#[120]⟩, ⟨#[49, 120]⟩, ⟨#[45, 49]⟩, ⟨#[49, 50, 51, 52, 53, 54, 55, 56]⟩].map Value.string).toArray 9)) (cur_alloc hc4 _) (by decide) (by decide) (by have := cur_lt hc4; omega) (lit_strs w4 _)
    refine hs.mono ?_
    rintro e w5 ⟨s, hs5, rfl, hc5, hg5⟩
    have hsz : s.size ≤ 20 := by
      simp only [List.mem_cons, List.not_mem_nil, or_false] at hs5
      rcases hs5 with rfl | rfl | rfl | rfl | rfl | rfl | rfl <;> decide
    have hg15 := grown_trans hg14 (grown_trans (World.grownBy_alloc w4 _ _) hg5)
    have hi := intIn_c _ g zs w5.heap.size 4 [100, 9999999, 0, -1] (w5.alloc (.cells ([100, 9999999, 0, -1].map (Value.int .i64)).toArray 3)) (cur_alloc hc5 _) (by decide) (by decide) (by have := cur_lt hc5; omega) (lit_ints w5 _)
    go_wp2_with (go_at_call 29; refine hi.mono ?_; rintro e w6 ⟨m, hm, rfl, hc6, hg6⟩)
    go_ret2
    exact ⟨s, m, hsz, rfl, belowCur hb1 hc1 hb1.size (grown_trans hg15 (grown_trans (World.grownBy_alloc _ _ _) hg6))⟩
  · have hi := intIn_c _ g zs w4.heap.size 4 [100, 9999999, 0, -1] (w4.alloc (.cells ([100, 9999999, 0, -1].map (Value.int .i64)).toArray 3)) (cur_alloc hc4 _) (by decide) (by decide) (by have := cur_lt hc4; omega) (lit_ints w4 _)
    refine hi.mono ?_
    rintro e w6 ⟨m, hm, rfl, hc6, hg6⟩
    go_wp2
    go_ret2
    exact ⟨_, m, hsx, rfl, belowCur hb1 hc1 hb1.size (grown_trans hg14 (grown_trans (World.grownBy_alloc _ _ _) hg6))⟩
end Go.Proofs.YthapeknfhlpadaaDoor
