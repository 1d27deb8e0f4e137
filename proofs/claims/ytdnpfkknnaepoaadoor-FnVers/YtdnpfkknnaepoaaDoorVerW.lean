/-
  What the function that draws any version answers: a contract for the walks: a version in memory of its own, of no more than four short texts; conditions: the code lies in memory as told.
-/
import Derived.Test.YtdnpfkknnaepoaaDoorVerV
namespace Go.Proofs.YtdnpfkknnaepoaaDoor
open Go.RowKit
set_option linter.unusedSimpArgs false
set_option linter.unusedVariables false
attribute [local go_sem ↓] Go.wp_at_zero Go.wp_at_succ

def bentInts : List Int := [-1, 9999, 10000]
def cutInts : List Int := [3, 4]
def bentPre : List ByteArray := [⟨#[]⟩, ⟨#[48, 49]⟩, ⟨#[110, 105, 110, 101, 45, 98, 121, 116, 101]⟩, ⟨#[97, 95]⟩, ⟨#[48, 48]⟩, ⟨#[101, 105, 103, 104, 116, 45, 98, 121]⟩]
def abcd : List ByteArray := [⟨#[97]⟩, ⟨#[98]⟩, ⟨#[99]⟩, ⟨#[100]⟩]
theorem bentPre_small : ∀ t ∈ bentPre, t.size ≤ 9 := by decide +kernel
theorem abcd_small : ∀ t ∈ abcd, t.size ≤ 9 := by decide +kernel

theorem int_at (base g : Nat) (zs : List Int) (xs : List Int) (w : World) (hc : Cur w base g zs) (hm : 0 < xs.length) (hm2 : xs.length ≤ 1048576) :
    Calls Tryd.prog 67 #[.pointer (some ⟨g, 0, none⟩), .slice (some ⟨w.heap.size, 0, none⟩) xs.length xs.length] (w.alloc (.cells (xs.map (Value.int .i64)).toArray 3)) fun e w' => ∃ j, j < xs.length ∧ e = .returned (.int .i64 (xs.getD j 0)) ∧ Cur w' base g zs ∧ (w.alloc (.cells (xs.map (Value.int .i64)).toArray 3)).grownBy w' (some g) :=
  int_c base g zs w.heap.size xs.length xs _ (cur_alloc hc _) hm hm2 (by have := cur_lt hc; omega) (lit_ints w xs)

theorem own_lower {w : World} {base base' : Nat} {e : TypeId} {v : Value} {n : Nat} {xs : List Value} (h : w.ownsRow base e 1 v n xs) (hb : base' ≤ base) : w.ownsRow base' e 1 v n xs := by
  obtain ⟨h1, h2⟩ := h
  refine ⟨h1, ?_⟩
  rcases h2 with h2 | ⟨g, cap, cur, a, b, c⟩
  · exact .inl h2
  · exact .inr ⟨g, cap, cur, a, Nat.le_trans hb b, c⟩
theorem small_more {ps : List ByteArray} (h : smallP 2 ps) : smallP 4 ps := ⟨by have := h.1; omega, h.2⟩
theorem small_snoc {ps : List ByteArray} {t : ByteArray} (h : smallP 2 ps) (ht : t.size ≤ 9) : smallP 4 (ps ++ [t]) := ⟨by have := h.1; simp; omega, fun x hx => by
  rcases List.mem_append.1 hx with h1 | h1
  · exact h.2 x h1
  · simp at h1; subst h1; exact ht⟩
theorem row_take {w : World} {base : Nat} {e : TypeId} {g n k cap : Nat} {xs : List Value} (h : w.ownsRow base e 1 (.slice (some ⟨g, 0, none⟩) n cap) n xs) (hk : k ≤ n) : w.ownsRow base e 1 (.slice (some ⟨g, 0, none⟩) k cap) k (xs.take k) := by
  have hl := h.1
  rcases h.2 with ⟨h, _⟩ | ⟨g', cap', cur, hv, hb, hg, hn, hc, hs, ht⟩
  · cases h
  · cases hv
    refine ⟨by simp; omega, .inr ⟨g, cap, cur, rfl, hb, hg, by omega, hc, hs, ?_⟩⟩
    rw [← ht, List.take_take, Nat.mul_one, Nat.mul_one, Nat.min_eq_left hk]

set_option maxHeartbeats 4000000 in
set_option maxRecDepth 100000 in
theorem any_c (base g : Nat) (zs : List Int) (w : World) (hc : Cur w base g zs) (hbw : base ≤ w.heap.size) :
    Calls Tryd.prog 29 #[.pointer (some ⟨g, 0, none⟩)] w fun e w' => ∃ (a b c : Int) (u : Value) (ps : List ByteArray), e = .returned (.agg #[.int .i64 a, .int .i64 b, .int .i64 c, u]) ∧ w'.ownsRow w.heap.size 9 1 u ps.length (strsV ps) ∧ smallP 4 ps ∧ Cur w' base g zs ∧ w.grownBy w' (some g) := by
  obtain ⟨i0, hi, hz0, hz1, hz2⟩ := info_parts infoS
  have hlt := cur_lt hc
  have A0 := four_new w 26 (.int .i64 0) (.int .i64 0) (.int .i64 0) (.slice none 0 0)
  have g0 := World.grownBy_alloc w (.cells #[.int .i64 0, .int .i64 0, .int .i64 0, .slice none 0 0] 26) (some g)
  have c0 := cur_alloc hc (.cells #[.int .i64 0, .int .i64 0, .int .i64 0, .slice none 0 0] 26)
  have hne : (some g) ≠ some w.heap.size := by simp; omega
  have hD := draw_c base g zs _ c0 (by simp; omega)
  go_enter Tryd.func29, Tryd.ntmps29
  go_wp2_with fail
  go_at_call 33
  refine hD.mono ?_
  rintro e w1 ⟨a, b, c, u, ps, rfl, o1, s1, c1, g1⟩
  have A1 := A0.turned g1 hne
  have G1 := grown_trans g0 g1
  have o1' : w1.ownsRow w.heap.size 9 1 u ps.length (strsV ps) := own_lower o1 (by simp)
  obtain ⟨q, n, cap, hu⟩ : ∃ q n cap, u = .slice q n cap := by rcases o1.2 with ⟨rfl, _⟩ | ⟨g, cap, cur, rfl, _⟩ <;> exact ⟨_, _, _, rfl⟩
  subst hu
  have hrow0 : ∀ k, Value.ownBlock (.slice q n cap) = some k → w.heap.size ≤ k := fun k hk => (o1'.lt k hk).1
  have l1 := A1.lt
  clear A0 g0 c0 o1 g1 hD
  have B2 := four_new w1 26 (.int .i64 a) (.int .i64 b) (.int .i64 c) (.slice q n cap)
  have A2 := four_old A1 (.cells #[.int .i64 a, .int .i64 b, .int .i64 c, .slice q n cap] 26)
  have c2 := cur_alloc c1 (.cells #[.int .i64 a, .int .i64 b, .int .i64 c, .slice q n cap] 26)
  have o2 := o1'.alloc (.cells #[.int .i64 a, .int .i64 b, .int .i64 c, .slice q n cap] 26)
  have G2 := grown_trans G1 (World.grownBy_alloc w1 (.cells #[.int .i64 a, .int .i64 b, .int .i64 c, .slice q n cap] 26) (some g))
  have hneV : (some g) ≠ some w1.heap.size := by have := cur_lt c1; simp; omega
  go_wp2_with fail
  go_at_call 34
  refine (below_c base g zs 8 _ c2).mono ?_
  rintro e w3 ⟨x, rfl, hx, c3, g3⟩
  have A3 := A2.turned g3 hne
  have B3 := B2.turned g3 hneV
  have hrow : Value.ownBlock (.slice q n cap) ≠ some g := fun h => by have := hrow0 g h; omega
  have O3 := o2.kept g3 (.inr hrow)
  have G3 := grown_trans G2 g3
  obtain ⟨V, hV⟩ : ∃ V, V = w1.heap.size := ⟨_, rfl⟩
  have lVA : w.heap.size < V := by omega
  rw [← hV] at B3 hneV ⊢
  clear A1 A2 B2 c1 c2 o1' o2 G1 G2 g3 hx hV l1
  obtain ⟨y0, y1, y2, y3⟩ := B3.cells
  have fy := B3.ice
  have lV := B3.lt
  obtain ⟨x0, x1, x2, x3⟩ := A3.cells
  have fx := A3.ice
  have l3 := A3.lt
  by_cases h0 : x = 0
  · subst h0
    have HI := int_at base g zs bentInts w3 c3 (by decide) (by decide)
    go_wp2_with fail
    go_at_call 67
    refine HI.mono ?_
    rintro e w4 ⟨j, hj, rfl, c4, g4⟩
    obtain ⟨m, hm⟩ : ∃ m, m = bentInts.getD j 0 := ⟨_, rfl⟩
    rw [← hm]
    have A4 := four_far (N := V) (j := 0) ((four_old A3 (.cells (bentInts.map (Value.int .i64)).toArray 3)).turned g4 hne) (by omega) (.int .i64 m)
    have B4' := (four_old B3 (.cells (bentInts.map (Value.int .i64)).toArray 3)).turned g4 hneV
    have O4' := (O3.alloc (.cells (bentInts.map (Value.int .i64)).toArray 3)).kept g4 (.inr hrow)
    have B4 := (four_put B4' (.int .i64 m)).1
    have O4 := owns_put (j := 0) O4' B4' (by decide) (.int .i64 m)
    have C4 := cur_put (j := 0) c4 (by omega : base ≤ V) (fun e => hneV (by rw [e])) (.int .i64 m)
    have G4 := grown_put (j := 0) (grown_trans (grown_trans G3 (World.grownBy_alloc w3 (.cells (bentInts.map (Value.int .i64)).toArray 3) (some g))) g4) (by omega : w.heap.size ≤ V) (.int .i64 m)
    obtain ⟨k0, k1, k2, k3⟩ := B4'.cells
    have fk := B4'.ice
    clear x0 x1 x2 x3 fx y0 y1 y2 y3 fy hm HI
    obtain ⟨p0, p1, p2, p3⟩ := A4.cells
    have fp := A4.ice
    obtain ⟨r0, r1, r2, r3⟩ := B4.cells
    go_wp2_with fail
    refine bodyPost_ret (v := .agg #[.int .i64 m, .int .i64 b, .int .i64 c, .slice q n cap]) (by simp [results, Tryd.results29, go_sem, p0, p1, p2, p3]) rfl ⟨m, b, c, _, ps, rfl, ?_, (small_more s1), ?_, ?_⟩
    · simpa using (put_all O4 A4 (by decide) C4 hbw (by omega) G4 (Nat.le_refl _) _ _ _ _).1
    · exact (put_all O4 A4 (by decide) C4 hbw (by omega) G4 (Nat.le_refl _) _ _ _ _).2.1
    · exact (put_all O4 A4 (by decide) C4 hbw (by omega) G4 (Nat.le_refl _) _ _ _ _).2.2
  by_cases h1 : x = 1
  · subst h1
    have HI := int_at base g zs bentInts w3 c3 (by decide) (by decide)
    go_wp2_with fail
    go_at_call 67
    refine HI.mono ?_
    rintro e w4 ⟨j, hj, rfl, c4, g4⟩
    obtain ⟨m, hm⟩ : ∃ m, m = bentInts.getD j 0 := ⟨_, rfl⟩
    rw [← hm]
    have A4 := four_far (N := V) (j := 2) ((four_old A3 (.cells (bentInts.map (Value.int .i64)).toArray 3)).turned g4 hne) (by omega) (.int .i64 m)
    have B4' := (four_old B3 (.cells (bentInts.map (Value.int .i64)).toArray 3)).turned g4 hneV
    have O4' := (O3.alloc (.cells (bentInts.map (Value.int .i64)).toArray 3)).kept g4 (.inr hrow)
    have B4 := (four_put B4' (.int .i64 m)).2.2.1
    have O4 := owns_put (j := 2) O4' B4' (by decide) (.int .i64 m)
    have C4 := cur_put (j := 2) c4 (by omega : base ≤ V) (fun e => hneV (by rw [e])) (.int .i64 m)
    have G4 := grown_put (j := 2) (grown_trans (grown_trans G3 (World.grownBy_alloc w3 (.cells (bentInts.map (Value.int .i64)).toArray 3) (some g))) g4) (by omega : w.heap.size ≤ V) (.int .i64 m)
    obtain ⟨k0, k1, k2, k3⟩ := B4'.cells
    have fk := B4'.ice
    clear x0 x1 x2 x3 fx y0 y1 y2 y3 fy hm HI
    obtain ⟨p0, p1, p2, p3⟩ := A4.cells
    have fp := A4.ice
    obtain ⟨r0, r1, r2, r3⟩ := B4.cells
    go_wp2_with fail
    refine bodyPost_ret (v := .agg #[.int .i64 a, .int .i64 b, .int .i64 m, .slice q n cap]) (by simp [results, Tryd.results29, go_sem, p0, p1, p2, p3]) rfl ⟨a, b, m, _, ps, rfl, ?_, (small_more s1), ?_, ?_⟩
    · simpa using (put_all O4 A4 (by decide) C4 hbw (by omega) G4 (Nat.le_refl _) _ _ _ _).1
    · exact (put_all O4 A4 (by decide) C4 hbw (by omega) G4 (Nat.le_refl _) _ _ _ _).2.1
    · exact (put_all O4 A4 (by decide) C4 hbw (by omega) G4 (Nat.le_refl _) _ _ _ _).2.2
  by_cases h2 : x = 2
  · subst h2
    have HS1 := str_at_d base g zs bentPre w3 c3 (by decide) (by decide)
    have hps : ps.length ≤ 2 := s1.1
    go_wp2_with fail
    go_region_law (first
      | (go_simp; go_at_call 35
         refine HS1.mono ?_
         rintro e w9 ⟨t2, ht2, rfl, c9, g9⟩
         have B9 := (four_old B3 (.cells (bentPre.map Value.string).toArray 9)).drew.turned g9 hneV
         have A9 := (four_old A3 (.cells (bentPre.map Value.string).toArray 9)).drew.turned g9 hne
         have O9 := ((O3.alloc (.cells (bentPre.map Value.string).toArray 9)).drew).kept g9 (.inr hrow)
         obtain ⟨z0, z1, z2, z3⟩ := B9.cells
         have fz := B9.ice
         have lz := B9.lt
         have G9 : w.grownBy w9 (some g) := grown_trans (grown_trans G3 (World.grownBy_alloc w3 (.cells (bentPre.map Value.string).toArray 9) (some g))) (grown_drewl g9)
         have hb9 : w.heap.size ≤ (w9.alloc (.cells #[.string t2] 9)).heap.size := by have := G9.size; simp; omega
         have hown := O9.alloc (.cells #[.string t2] 9)
         have HN : Hid (∀ j u, (strsV [t2])[j]? = some u → (w9.alloc (.cells #[.string t2] 9)).cell? ((⟨w9.heap.size, 0, none⟩ : Addr).add j) = some u) := cell_one_new _ _ _
         have hgV : Value.ownBlock (.slice q n cap) ≠ some V := row_four O9 B9 (by decide)
         have hgN : Value.ownBlock (.slice q n cap) ≠ some w.heap.size := row_four O9 A9 (by decide))
      | ((refine step_append_lies _ (by rfl) _ _ _ (by rfl) w.heap.size 9 i0 _ 1 16 Tryd.underlying24 hi hz0 hz1 hz2 rfl (by omega) (.slice q n cap) ps.length (strsV ps) (by rfl) hown ⟨w9.heap.size, 0, none⟩ 1 1 (strsV [t2]) (by rfl) (by rfl) HN.out (fun u hu => by simp [strsV] at hu; subst hu; rfl) (by omega) (by unfold maxLen; omega) (by omega) hb9 (w9.heap.size + 1) (by simp) ?_; intro gg2 cap2 wA hownA hgrow hat hltA; have BA := (four_old B9 (.cells #[.string t2] 9)).turned hgrow hgV; have AA := (four_old A9 (.cells #[.string t2] 9)).turned hgrow hgN; have GA : w.grownBy wA (some g) := grown_own G9 hgrow hrow0; have cA := cur_grown (cur_alloc c9 (.cells #[.string t2] 9)) hgrow (fun k hk => Nat.le_trans hbw (hrow0 k hk)) hrow; obtain ⟨k0, k1, k2, k3⟩ := BA.cells; have fk := BA.ice)))
    all_goals (
      have hO : (wA.setCell ⟨V, 3, none⟩ (.slice (some ⟨gg2, 0, none⟩) (ps.length + 1) cap2)).ownsRow w.heap.size 9 1 (.slice (some ⟨gg2, 0, none⟩) (ps.length + 1) cap2) (ps.length + 1) (strsV (ps ++ [t2])) := by simpa [strsV] using owns_put (j := 3) hownA BA (by decide) (.slice (some ⟨gg2, 0, none⟩) (ps.length + 1) cap2)
      have hB := (four_put BA (.slice (some ⟨gg2, 0, none⟩) (ps.length + 1) cap2)).2.2.2
      have hA := four_far (N := V) (j := 3) AA (by omega) (.slice (some ⟨gg2, 0, none⟩) (ps.length + 1) cap2)
      have hC := cur_put (j := 3) cA (by omega : base ≤ V) (fun e => hneV (by rw [e])) (.slice (some ⟨gg2, 0, none⟩) (ps.length + 1) cap2)
      have hG := grown_put (j := 3) GA (by omega : w.heap.size ≤ V) (.slice (some ⟨gg2, 0, none⟩) (ps.length + 1) cap2)
      clear x0 x1 x2 x3 fx y0 y1 y2 y3 fy HS1 A3 B3 O3 c3 G3 lV l3 hown HN hgrow hownA AA cA GA z0 z1 z2 z3 fz
      obtain ⟨p0, p1, p2, p3⟩ := hA.cells
      have fp := hA.ice
      obtain ⟨r0, r1, r2, r3⟩ := hB.cells
      have lA := hA.lt
      go_wp2_with fail
      refine bodyPost_ret (v := .agg #[.int .i64 a, .int .i64 b, .int .i64 c, .slice (some ⟨gg2, 0, none⟩) (ps.length + 1) cap2]) (by simp [results, Tryd.results29, go_sem, p0, p1, p2, p3]) rfl ⟨a, b, c, _, (ps ++ [t2]), rfl, ?_, (small_snoc s1 (bentPre_small t2 ht2)), ?_, ?_⟩
      · simpa using (put_all hO hA (by decide) hC hbw (by omega) hG (Nat.le_refl _) _ _ _ _).1
      · exact (put_all hO hA (by decide) hC hbw (by omega) hG (Nat.le_refl _) _ _ _ _).2.1
      · exact (put_all hO hA (by decide) hC hbw (by omega) hG (Nat.le_refl _) _ _ _ _).2.2)
  by_cases h3 : x = 3
  · subst h3
    have hO4 := World.ownsRow_lit w3 (abcd.map Value.string).toArray 4 (base := w.heap.size) (e := 9) (size := 1) (by omega) (by unfold maxLen; omega) rfl
    have c4 := cur_alloc c3 (.cells (abcd.map Value.string).toArray 9)
    have A4 := four_old A3 (.cells (abcd.map Value.string).toArray 9)
    have B4 := four_old B3 (.cells (abcd.map Value.string).toArray 9)
    have G4 := grown_trans G3 (World.grownBy_alloc w3 (.cells (abcd.map Value.string).toArray 9) (some g))
    have HI := int_at base g zs cutInts _ c4 (by decide) (by decide)
    have hsM : (w3.alloc (.cells (abcd.map Value.string).toArray 9)).heap.size = w3.heap.size + 1 := by simp
    rw [hsM] at HI
    clear hsM
    go_wp2_with fail
    go_at_call 67
    refine HI.mono ?_
    rintro e w4 ⟨j, hj, rfl, c5, g5⟩
    have A5 := (four_old A4 (.cells (cutInts.map (Value.int .i64)).toArray 3)).turned g5 hne
    have B5 := (four_old B4 (.cells (cutInts.map (Value.int .i64)).toArray 3)).turned g5 hneV
    have O5 := (hO4.alloc (.cells (cutInts.map (Value.int .i64)).toArray 3)).kept g5 (.inr (fun h => by have := cur_lt c3; simp [Value.ownBlock] at h; omega))
    have G5 := grown_trans (grown_trans G4 (World.grownBy_alloc _ (.cells (cutInts.map (Value.int .i64)).toArray 3) (some g))) g5
    obtain ⟨M, hM⟩ : ∃ M, M = w3.heap.size := ⟨_, rfl⟩
    rw [← hM] at O5 ⊢
    clear x0 x1 x2 x3 fx y0 y1 y2 y3 fy hM HI A4 B4 hO4 c4 G4 g5 A3 B3 O3 c3 G3 lV l3
    obtain ⟨k0, k1, k2, k3⟩ := B5.cells
    have fk := B5.ice
    have hm : cutInts.getD j 0 = 3 ∨ cutInts.getD j 0 = 4 := by
      obtain rfl | rfl : j = 0 ∨ j = 1 := by have : cutInts.length = 2 := rfl; omega
      · exact .inl rfl
      · exact .inr rfl
    generalize cutInts.getD j 0 = m at hm ⊢
    rcases hm with rfl | rfl
    · have O6 := row_take (k := 3) O5 (by omega)
      have O7 := owns_put (j := 3) O6 B5 (by decide) (.slice (some ⟨M, 0, none⟩) 3 4)
      have hO : (w4.setCell ⟨V, 3, none⟩ (.slice (some ⟨M, 0, none⟩) 3 4)).ownsRow w.heap.size 9 1 (.slice (some ⟨M, 0, none⟩) 3 4) (abcd.take 3).length (strsV (abcd.take 3)) := O7
      have hB := (four_put B5 (.slice (some ⟨M, 0, none⟩) 3 4)).2.2.2
      have hA := four_far (N := V) (j := 3) A5 (by omega) (.slice (some ⟨M, 0, none⟩) 3 4)
      have hC := cur_put (j := 3) c5 (by omega : base ≤ V) (fun e => hneV (by rw [e])) (.slice (some ⟨M, 0, none⟩) 3 4)
      have hG := grown_put (j := 3) G5 (by omega : w.heap.size ≤ V) (.slice (some ⟨M, 0, none⟩) 3 4)
      obtain ⟨p0, p1, p2, p3⟩ := hA.cells
      have fp := hA.ice
      obtain ⟨r0, r1, r2, r3⟩ := hB.cells
      clear O6 O7
      go_wp2_with fail
      refine bodyPost_ret (v := .agg #[.int .i64 a, .int .i64 b, .int .i64 c, .slice (some ⟨M, 0, none⟩) 3 4]) (by simp [results, Tryd.results29, go_sem, p0, p1, p2, p3]) rfl ⟨a, b, c, _, (abcd.take 3), rfl, ?_, ⟨by decide, fun t ht => abcd_small t (List.mem_of_mem_take ht)⟩, ?_, ?_⟩
      · simpa using (put_all hO hA (by decide) hC hbw (by omega) hG (Nat.le_refl _) _ _ _ _).1
      · exact (put_all hO hA (by decide) hC hbw (by omega) hG (Nat.le_refl _) _ _ _ _).2.1
      · exact (put_all hO hA (by decide) hC hbw (by omega) hG (Nat.le_refl _) _ _ _ _).2.2
    · have O6 := row_take (k := 4) O5 (by omega)
      have O7 := owns_put (j := 3) O6 B5 (by decide) (.slice (some ⟨M, 0, none⟩) 4 4)
      have hO : (w4.setCell ⟨V, 3, none⟩ (.slice (some ⟨M, 0, none⟩) 4 4)).ownsRow w.heap.size 9 1 (.slice (some ⟨M, 0, none⟩) 4 4) (abcd.take 4).length (strsV (abcd.take 4)) := O7
      have hB := (four_put B5 (.slice (some ⟨M, 0, none⟩) 4 4)).2.2.2
      have hA := four_far (N := V) (j := 3) A5 (by omega) (.slice (some ⟨M, 0, none⟩) 4 4)
      have hC := cur_put (j := 3) c5 (by omega : base ≤ V) (fun e => hneV (by rw [e])) (.slice (some ⟨M, 0, none⟩) 4 4)
      have hG := grown_put (j := 3) G5 (by omega : w.heap.size ≤ V) (.slice (some ⟨M, 0, none⟩) 4 4)
      obtain ⟨p0, p1, p2, p3⟩ := hA.cells
      have fp := hA.ice
      obtain ⟨r0, r1, r2, r3⟩ := hB.cells
      clear O6 O7
      go_wp2_with fail
      refine bodyPost_ret (v := .agg #[.int .i64 a, .int .i64 b, .int .i64 c, .slice (some ⟨M, 0, none⟩) 4 4]) (by simp [results, Tryd.results29, go_sem, p0, p1, p2, p3]) rfl ⟨a, b, c, _, (abcd.take 4), rfl, ?_, ⟨by decide, fun t ht => abcd_small t (List.mem_of_mem_take ht)⟩, ?_, ?_⟩
      · simpa using (put_all hO hA (by decide) hC hbw (by omega) hG (Nat.le_refl _) _ _ _ _).1
      · exact (put_all hO hA (by decide) hC hbw (by omega) hG (Nat.le_refl _) _ _ _ _).2.1
      · exact (put_all hO hA (by decide) hC hbw (by omega) hG (Nat.le_refl _) _ _ _ _).2.2
  have e0 : ((x : Int) == 0) = false := by rw [beq_eq_false_iff_ne]; omega
  have e1 : ((x : Int) == 1) = false := by rw [beq_eq_false_iff_ne]; omega
  have e2 : ((x : Int) == 2) = false := by rw [beq_eq_false_iff_ne]; omega
  have e3 : ((x : Int) == 3) = false := by rw [beq_eq_false_iff_ne]; omega
  clear h0 h1 h2 h3
  go_wp2_with fail
  refine bodyPost_ret (v := .agg #[.int .i64 a, .int .i64 b, .int .i64 c, .slice q n cap]) (by simp [results, Tryd.results29, go_sem, x0, x1, x2, x3]) rfl ⟨a, b, c, _, ps, rfl, ?_, (small_more s1), ?_, ?_⟩
  · simpa using (put_all O3 A3 (by decide) c3 hbw (by omega) G3 (Nat.le_refl _) _ _ _ _).1
  · exact (put_all O3 A3 (by decide) c3 hbw (by omega) G3 (Nat.le_refl _) _ _ _ _).2.1
  · exact (put_all O3 A3 (by decide) c3 hbw (by omega) G3 (Nat.le_refl _) _ _ _ _).2.2
end Go.Proofs.YtdnpfkknnaepoaaDoor
