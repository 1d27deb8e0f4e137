/-
  What the functions that draw versions answer: contracts for the walks: a version in memory of its own, of no more than a few short texts; conditions: the code lies in memory as told.
-/
import Derived.Test.YtdnpfkknnaepoaaDoorVerR
import Derived.Test.YtdnpfkknnaepoaaDoorDraw
import Derived.Deep.RegionLaw
import Derived.Deep.AppendLies
import Derived.Deep.DrawnRows
import Derived.Deep.DeepCutAuto
namespace Go.Proofs.YtdnpfkknnaepoaaDoor
open Go.RowKit
set_option linter.unusedSimpArgs false
set_option linter.unusedVariables false
attribute [local go_sem ↓] Go.wp_at_zero Go.wp_at_succ

theorem Four.ice {w : World} {N : Nat} {t : TypeId} {c0 c1 c2 c3 : Value} (h : Four w N t c0 c1 c2 c3) (j : Nat) : w.frozen? ⟨N, j, none⟩ = false := vblk_frozen h j

theorem four_put {w : World} {R : Nat} {t : TypeId} {c0 c1 c2 c3 : Value} (h : Four w R t c0 c1 c2 c3) (v : Value) :
    Four (w.setCell ⟨R, 0, none⟩ v) R t v c1 c2 c3 ∧ Four (w.setCell ⟨R, 1, none⟩ v) R t c0 v c2 c3 ∧ Four (w.setCell ⟨R, 2, none⟩ v) R t c0 c1 v c3 ∧ Four (w.setCell ⟨R, 3, none⟩ v) R t c0 c1 c2 v := by
  refine ⟨?_, ?_, ?_, ?_⟩ <;> (unfold Four at *; rw [heap_setCell_same w R _ _ t v h]; rfl)
theorem four_far {w : World} {R N j : Nat} {t : TypeId} {c0 c1 c2 c3 : Value} (h : Four w R t c0 c1 c2 c3) (hn : R ≠ N) (v : Value) : Four (w.setCell ⟨N, j, none⟩ v) R t c0 c1 c2 c3 := (Below.heap_setCell w ⟨N, j, none⟩ v R hn).trans h
theorem owns_put {w : World} {base N j : Nat} {e t : TypeId} {u : Value} {n : Nat} {xs : List Value} {c0 c1 c2 c3 : Value} (h : w.ownsRow base e 1 u n xs) (hF : Four w N t c0 c1 c2 c3) (hne : t ≠ e) (v : Value) : (w.setCell ⟨N, j, none⟩ v).ownsRow base e 1 u n xs := by
  obtain ⟨h1, h2⟩ := h
  refine ⟨h1, ?_⟩
  rcases h2 with h2 | ⟨g, cap, cur, a, b, c, d⟩
  · exact .inl h2
  · have hg : g ≠ N := fun e1 => by
      subst e1
      unfold Four at hF
      rw [c] at hF
      simp only [Option.some.injEq, Obj.cells.injEq] at hF
      exact hne hF.2.1.symm
    exact .inr ⟨g, cap, cur, a, b, by rw [Below.heap_setCell _ _ _ _ hg]; exact c, d⟩
theorem row_four {w : World} {base N : Nat} {e t : TypeId} {u : Value} {n : Nat} {xs : List Value} {c0 c1 c2 c3 : Value} (h : w.ownsRow base e 1 u n xs) (hF : Four w N t c0 c1 c2 c3) (hne : t ≠ e) : u.ownBlock ≠ some N := by
  rcases h.2 with ⟨rfl, _⟩ | ⟨g, cap, cur, rfl, b, c, d⟩
  · simp [Value.ownBlock]
  · intro e1
    simp only [Value.ownBlock, Option.some.injEq] at e1
    subst e1
    unfold Four at hF
    rw [c] at hF
    simp only [Option.some.injEq, Obj.cells.injEq] at hF
    exact hne hF.2.1.symm
theorem cur_put {w : World} {base g N j : Nat} {zs : List Int} (h : Cur w base g zs) (hb : base ≤ N) (hn : g ≠ N) (v : Value) : Cur (w.setCell ⟨N, j, none⟩ v) base g zs :=
  cur_grown h (grown_set w N j v) (fun k hk => by injection hk; omega) (fun e => by injection e; omega)
theorem grown_put {w0 w : World} {r : Option Nat} {N j : Nat} (h : w0.grownBy w r) (hN : w0.heap.size ≤ N) (v : Value) : w0.grownBy (w.setCell ⟨N, j, none⟩ v) r :=
  ⟨h.os, h.tape, h.output, by simpa [World.setCell] using h.size, fun k hk hne => (Below.heap_setCell w ⟨N, j, none⟩ v k (by simp; omega)).trans (h.block k hk hne)⟩
/-- A version that is stored whole. -/
theorem put_all {w0 w : World} {base g N : Nat} {zs : List Int} {e t : TypeId} {u : Value} {n : Nat} {xs : List Value} {c0 c1 c2 c3 : Value} {r : Option Nat} (hO : w.ownsRow w0.heap.size e 1 u n xs) (hF : Four w N t c0 c1 c2 c3) (hne : t ≠ e) (hc : Cur w base g zs) (hb : base ≤ N) (hgN : g ≠ N) (hG : w0.grownBy w r) (hN : w0.heap.size ≤ N) (v0 v1 v2 v3 : Value) :
    ((((w.setCell ⟨N, 0, none⟩ v0).setCell ⟨N, 1, none⟩ v1).setCell ⟨N, 2, none⟩ v2).setCell ⟨N, 3, none⟩ v3).ownsRow w0.heap.size e 1 u n xs ∧ Cur ((((w.setCell ⟨N, 0, none⟩ v0).setCell ⟨N, 1, none⟩ v1).setCell ⟨N, 2, none⟩ v2).setCell ⟨N, 3, none⟩ v3) base g zs ∧ w0.grownBy ((((w.setCell ⟨N, 0, none⟩ v0).setCell ⟨N, 1, none⟩ v1).setCell ⟨N, 2, none⟩ v2).setCell ⟨N, 3, none⟩ v3) r :=
  ⟨owns_put (owns_put (owns_put (owns_put hO hF hne v0) (four_put hF v0).1 hne v1) (four_put (four_put hF v0).1 v1).2.1 hne v2) (four_put (four_put (four_put hF v0).1 v1).2.1 v2).2.2.1 hne v3,
   cur_put (cur_put (cur_put (cur_put hc hb hgN v0) hb hgN v1) hb hgN v2) hb hgN v3, grown_put (grown_put (grown_put (grown_put hG hN v0) hN v1) hN v2) hN v3⟩

/-- What is drawn is small. -/
def smallP (n : Nat) (ps : List ByteArray) : Prop := ps.length ≤ n ∧ ∀ t ∈ ps, t.size ≤ 9
def pre1 : List ByteArray := [⟨#[48]⟩, ⟨#[49]⟩, ⟨#[49, 48]⟩, ⟨#[97]⟩, ⟨#[114, 99]⟩, ⟨#[98, 45, 49]⟩]
def pre2 : List ByteArray := [⟨#[48]⟩, ⟨#[50]⟩, ⟨#[120]⟩]
theorem pre1_small : ∀ t ∈ pre1, t.size ≤ 9 := by decide +kernel
theorem pre2_small : ∀ t ∈ pre2, t.size ≤ 9 := by decide +kernel

theorem grown_drewl {a b : World} {r : Option Nat} (h : a.drew.grownBy b r) : a.grownBy b r := ⟨h.os, h.tape, h.output, h.size, h.block⟩

theorem str_at (base g : Nat) (zs : List Int) (xs : List ByteArray) (w : World) (hc : Cur w base g zs) (hm : 0 < xs.length) (hm2 : xs.length ≤ 1048576) :
    Calls Tryd.prog 35 #[.pointer (some ⟨g, 0, none⟩), .slice (some ⟨w.heap.size, 0, none⟩) xs.length xs.length] (w.alloc (.cells (xs.map Value.string).toArray 9)) fun e w' => ∃ t, t ∈ xs ∧ e = .returned (.string t) ∧ Cur w' base g zs ∧ (w.alloc (.cells (xs.map Value.string).toArray 9)).grownBy w' (some g) :=
  str_c base g zs w.heap.size xs.length xs _ (cur_alloc hc _) hm hm2 (by have := cur_lt hc; omega) (lit_strs w xs)

theorem str_at_d (base g : Nat) (zs : List Int) (xs : List ByteArray) (w : World) (hc : Cur w base g zs) (hm : 0 < xs.length) (hm2 : xs.length ≤ 1048576) :
    Calls Tryd.prog 35 #[.pointer (some ⟨g, 0, none⟩), .slice (some ⟨w.heap.size, 0, none⟩) xs.length xs.length] (w.alloc (.cells (xs.map Value.string).toArray 9)).drew fun e w' => ∃ t, t ∈ xs ∧ e = .returned (.string t) ∧ Cur w' base g zs ∧ (w.alloc (.cells (xs.map Value.string).toArray 9)).drew.grownBy w' (some g) :=
  str_at base g zs xs w.drew hc hm hm2

set_option maxHeartbeats 4000000 in
set_option maxRecDepth 100000 in
theorem draw_c (base g : Nat) (zs : List Int) (w : World) (hc : Cur w base g zs) (hbw : base ≤ w.heap.size) :
    Calls Tryd.prog 33 #[.pointer (some ⟨g, 0, none⟩)] w fun e w' => ∃ (a b c : Int) (u : Value) (ps : List ByteArray), e = .returned (.agg #[.int .i64 a, .int .i64 b, .int .i64 c, u]) ∧ w'.ownsRow w.heap.size 9 1 u ps.length (strsV ps) ∧ smallP 2 ps ∧ Cur w' base g zs ∧ w.grownBy w' (some g) := by
  obtain ⟨i0, hi, hz0, hz1, hz2⟩ := info_parts infoS
  have hlt := cur_lt hc
  have A0 := four_new w 26 (.int .i64 0) (.int .i64 0) (.int .i64 0) (.slice none 0 0)
  have g0 := World.grownBy_alloc w (.cells #[.int .i64 0, .int .i64 0, .int .i64 0, .slice none 0 0] 26) (some g)
  have c0 := cur_alloc hc (.cells #[.int .i64 0, .int .i64 0, .int .i64 0, .slice none 0 0] 26)
  go_enter Tryd.func33, Tryd.ntmps33
  go_wp2_with fail
  go_at_call 34
  refine (below_c base g zs 3 _ c0).mono ?_
  rintro e w1 ⟨a, rfl, ha, c1, g1⟩
  go_wp2_with fail
  go_at_call 34
  refine (below_c base g zs 3 _ c1).mono ?_
  rintro e w2 ⟨b, rfl, hb, c2, g2⟩
  go_wp2_with fail
  go_at_call 34
  refine (below_c base g zs 3 _ c2).mono ?_
  rintro e w3 ⟨c, rfl, hcc, c3, g3⟩
  have hne : (some g) ≠ some w.heap.size := by simp; omega
  have A3 := ((A0.turned g1 hne).turned g2 hne).turned g3 hne
  have G3 := grown_trans (grown_trans (grown_trans g0 g1) g2) g3
  have l3 := cur_lt c3
  have lA3 := A3.lt
  clear A0 g0 c0 g1 g2 g3 c1 c2 ha hb hcc
  have B4 := four_new w3 26 (.int .i64 (a : Int)) (.int .i64 (b : Int)) (.int .i64 (c : Int)) (.slice none 0 0)
  have A4 := four_old A3 (.cells #[.int .i64 (a : Int), .int .i64 (b : Int), .int .i64 (c : Int), .slice none 0 0] 26)
  have c4 := cur_alloc c3 (.cells #[.int .i64 (a : Int), .int .i64 (b : Int), .int .i64 (c : Int), .slice none 0 0] 26)
  have G4 := grown_trans G3 (World.grownBy_alloc w3 (.cells #[.int .i64 (a : Int), .int .i64 (b : Int), .int .i64 (c : Int), .slice none 0 0] 26) (some g))
  have hneV : (some g) ≠ some w3.heap.size := by simp; omega
  go_wp2_with fail
  go_at_call 73
  refine (once_c base g zs 3 _ c4).mono ?_
  rintro e w5 ⟨o1, rfl, c5, g5⟩
  have A5 := A4.turned g5 hne
  have B5 := B4.turned g5 hneV
  have G5 := grown_trans G4 g5
  obtain ⟨V, hV⟩ : ∃ V, V = w3.heap.size := ⟨_, rfl⟩
  have lVA : w.heap.size < V := by omega
  rw [← hV] at B5 hneV ⊢
  clear A4 B4 c4 G4 g5 A3 G3 c3 l3 lA3 hV
  obtain ⟨x0, x1, x2, x3⟩ := A5.cells
  have fx := A5.ice
  obtain ⟨y0, y1, y2, y3⟩ := B5.cells
  have fy := B5.ice
  have lV := B5.lt
  go_upto_if 12 with (fail)
  go_cut [] (fun wc => ∃ (u : Value) (ps : List ByteArray), wc.ownsRow w.heap.size 9 1 u ps.length (strsV ps) ∧ smallP 2 ps ∧ Four wc V 26 (.int .i64 (a : Int)) (.int .i64 (b : Int)) (.int .i64 (c : Int)) u ∧ Four wc w.heap.size 26 (.int .i64 0) (.int .i64 0) (.int .i64 0) (.slice none 0 0) ∧ Cur wc base g zs ∧ w.grownBy wc (some g))
  case rest =>
    obtain ⟨u, ps, hO, hS, hB, hA, hC, hG⟩ := hcut
    clear x0 x1 x2 x3 y0 y1 y2 y3 fx fy A5 B5 c5 G5 lV
    obtain ⟨x0, x1, x2, x3⟩ := hA.cells
    have fx := hA.ice
    obtain ⟨y0, y1, y2, y3⟩ := hB.cells
    obtain ⟨q, n, cap, rfl⟩ : ∃ q n cap, u = .slice q n cap := by rcases hO.2 with ⟨rfl, _⟩ | ⟨g, cap, cur, rfl, _⟩ <;> exact ⟨_, _, _, rfl⟩
    have lA := hA.lt
    go_wp2_with fail
    refine bodyPost_ret (v := .agg #[.int .i64 a, .int .i64 b, .int .i64 c, .slice q n cap]) (by simp [results, Tryd.results33, go_sem, x0, x1, x2, x3]) rfl ⟨a, b, c, _, ps, rfl, ?_, hS, ?_, ?_⟩
    · exact (put_all hO hA (by decide) hC hbw (by omega) hG (Nat.le_refl _) _ _ _ _).1
    · exact (put_all hO hA (by decide) hC hbw (by omega) hG (Nat.le_refl _) _ _ _ _).2.1
    · exact (put_all hO hA (by decide) hC hbw (by omega) hG (Nat.le_refl _) _ _ _ _).2.2
  case first =>
    cases o1 with
    | false =>
      go_wp2_with fail
      go_meet
      case rel => exact ⟨_, [], World.ownsRow_nil _ _ _ _, ⟨by simp, by simp⟩, B5, A5, c5, G5⟩
    | true =>
      have HS1 := str_at_d base g zs pre1 w5 c5 (by decide) (by decide)
      go_wp2_with fail
      go_cut [] (fun wc => ∃ (gg cap : Nat) (t : ByteArray), t.size ≤ 9 ∧ wc.ownsRow w.heap.size 9 1 (.slice (some ⟨gg, 0, none⟩) 1 cap) 1 (strsV [t]) ∧ Four wc V 26 (.int .i64 (a : Int)) (.int .i64 (b : Int)) (.int .i64 (c : Int)) (.slice (some ⟨gg, 0, none⟩) 1 cap) ∧ Four wc w.heap.size 26 (.int .i64 0) (.int .i64 0) (.int .i64 0) (.slice none 0 0) ∧ Cur wc base g zs ∧ w.grownBy wc (some g))
      case first =>
        go_region_law (first
          | (go_simp; go_at_call 35
             refine HS1.mono ?_
             rintro e w6 ⟨t, ht, rfl, c6, g6⟩
             have B6 := (four_old B5 (.cells (pre1.map Value.string).toArray 9)).drew.turned g6 hneV
             have A6 := (four_old A5 (.cells (pre1.map Value.string).toArray 9)).drew.turned g6 hne
             obtain ⟨z0, z1, z2, z3⟩ := B6.cells
             have fz := B6.ice
             have lz := B6.lt
             have G6 : w.grownBy w6 (some g) := grown_trans (grown_trans G5 (World.grownBy_alloc w5 (.cells (pre1.map Value.string).toArray 9) (some g))) (grown_drewl g6)
             have hb6 : w.heap.size ≤ (w6.alloc (.cells #[.string t] 9)).heap.size := by have := G6.size; simp; omega
             have hnil : (w6.alloc (.cells #[.string t] 9)).ownsRow w.heap.size 9 1 (.slice none 0 0) 0 [] := World.ownsRow_nil _ _ _ _
             have HN : Hid (∀ j u, (strsV [t])[j]? = some u → (w6.alloc (.cells #[.string t] 9)).cell? ((⟨w6.heap.size, 0, none⟩ : Addr).add j) = some u) := cell_one_new _ _ _)
          | ((refine step_append_lies _ (by rfl) _ _ _ (by rfl) w.heap.size 9 i0 _ 1 16 Tryd.underlying24 hi hz0 hz1 hz2 rfl (by omega) (.slice none 0 0) 0 [] (by rfl) hnil ⟨w6.heap.size, 0, none⟩ 1 1 (strsV [t]) (by rfl) (by rfl) HN.out (fun u hu => by simp [strsV] at hu; subst hu; rfl) (by omega) (by unfold maxLen; omega) (by omega) hb6 (w6.heap.size + 1) (by simp) ?_; intro gg cap w7 hown7 hgrow hat hlt7; have B7 := (four_old B6 (.cells #[.string t] 9)).turned hgrow (by simp [Value.ownBlock]); have A7 := (four_old A6 (.cells #[.string t] 9)).turned hgrow (by simp [Value.ownBlock]); have G7 : w.grownBy w7 (some g) := grown_own G6 hgrow (by simp [Value.ownBlock]); have c7 := cur_grown (cur_alloc c6 (.cells #[.string t] 9)) hgrow (by simp [Value.ownBlock]) (by simp [Value.ownBlock]); obtain ⟨k0, k1, k2, k3⟩ := B7.cells; have fk := B7.ice)))
        all_goals go_wp2_with fail
        all_goals go_meet
        all_goals exact ⟨gg, cap, t, pre1_small t ht, by simpa using owns_put (j := 3) hown7 B7 (by decide) (.slice (some ⟨gg, 0, none⟩) 1 cap), (four_put B7 (.slice (some ⟨gg, 0, none⟩) 1 cap)).2.2.2, four_far A7 (by omega) _, cur_put c7 (by omega) (fun e => hneV (by rw [e])) _, grown_put G7 (by omega) _⟩
      case rest =>
        obtain ⟨gg, cap, t, hts, hO, hB, hA, hC, hG⟩ := hcut
        clear x0 x1 x2 x3 y0 y1 y2 y3 fx fy A5 B5 c5 G5 lV HS1
        go_wp2_with fail
        go_at_call 73
        refine (once_c base g zs 3 _ hC).mono ?_
        rintro e w8 ⟨o2, rfl, c8, g8⟩
        have hrow : Value.ownBlock (.slice (some ⟨gg, 0, none⟩) 1 cap) ≠ some g := fun h => by have := (hO.lt g h).1; omega
        have O8 := hO.kept g8 (.inr hrow)
        have A8 := hA.turned g8 hne
        have B8 := hB.turned g8 hneV
        have G8 := grown_trans hG g8
        clear hO hA hB hC hG g8
        obtain ⟨y0, y1, y2, y3⟩ := B8.cells
        have fy := B8.ice
        have lV := B8.lt
        cases o2 with
        | false =>
          go_wp2_with fail
          go_meet
          case rel => exact ⟨_, [t], by simpa using O8, ⟨by simp, by simpa using hts⟩, B8, A8, c8, G8⟩
        | true =>
          have HS2 := str_at_d base g zs pre2 w8 c8 (by decide) (by decide)
          go_wp2_with fail
          go_region_law (first
            | (go_simp; go_at_call 35
               refine HS2.mono ?_
               rintro e w9 ⟨t2, ht2, rfl, c9, g9⟩
               have B9 := (four_old B8 (.cells (pre2.map Value.string).toArray 9)).drew.turned g9 hneV
               have A9 := (four_old A8 (.cells (pre2.map Value.string).toArray 9)).drew.turned g9 hne
               have O9 := ((O8.alloc (.cells (pre2.map Value.string).toArray 9)).drew).kept g9 (.inr hrow)
               obtain ⟨z0, z1, z2, z3⟩ := B9.cells
               have fz := B9.ice
               have lz := B9.lt
               have G9 : w.grownBy w9 (some g) := grown_trans (grown_trans G8 (World.grownBy_alloc w8 (.cells (pre2.map Value.string).toArray 9) (some g))) (grown_drewl g9)
               have hb9 : w.heap.size ≤ (w9.alloc (.cells #[.string t2] 9)).heap.size := by have := G9.size; simp; omega
               have hown := O9.alloc (.cells #[.string t2] 9)
               have HN : Hid (∀ j u, (strsV [t2])[j]? = some u → (w9.alloc (.cells #[.string t2] 9)).cell? ((⟨w9.heap.size, 0, none⟩ : Addr).add j) = some u) := cell_one_new _ _ _
               have hgb : ∀ k, Value.ownBlock (.slice (some ⟨gg, 0, none⟩) 1 cap) = some k → w.heap.size ≤ k := fun k hk => (O9.lt k hk).1
               have hgV : Value.ownBlock (.slice (some ⟨gg, 0, none⟩) 1 cap) ≠ some V := row_four O9 B9 (by decide)
               have hgN : Value.ownBlock (.slice (some ⟨gg, 0, none⟩) 1 cap) ≠ some w.heap.size := row_four O9 A9 (by decide))
            | ((refine step_append_lies _ (by rfl) _ _ _ (by rfl) w.heap.size 9 i0 _ 1 16 Tryd.underlying24 hi hz0 hz1 hz2 rfl (by omega) (.slice (some ⟨gg, 0, none⟩) 1 cap) 1 (strsV [t]) (by rfl) hown ⟨w9.heap.size, 0, none⟩ 1 1 (strsV [t2]) (by rfl) (by rfl) HN.out (fun u hu => by simp [strsV] at hu; subst hu; rfl) (by omega) (by unfold maxLen; omega) (by omega) hb9 (w9.heap.size + 1) (by simp) ?_; intro gg2 cap2 wA hownA hgrow hat hltA; have BA := (four_old B9 (.cells #[.string t2] 9)).turned hgrow hgV; have AA := (four_old A9 (.cells #[.string t2] 9)).turned hgrow hgN; have GA : w.grownBy wA (some g) := grown_own G9 hgrow hgb; have cA := cur_grown (cur_alloc c9 (.cells #[.string t2] 9)) hgrow (fun k hk => Nat.le_trans hbw (hgb k hk)) hrow; obtain ⟨k0, k1, k2, k3⟩ := BA.cells; have fk := BA.ice)))
          all_goals go_wp2_with fail
          all_goals go_meet
          all_goals exact ⟨.slice (some ⟨gg2, 0, none⟩) 2 cap2, [t, t2], by simpa [strsV] using owns_put (j := 3) hownA BA (by decide) (.slice (some ⟨gg2, 0, none⟩) 2 cap2), ⟨by simp, by simpa using ⟨hts, pre2_small t2 ht2⟩⟩, (four_put BA (.slice (some ⟨gg2, 0, none⟩) 2 cap2)).2.2.2, four_far AA (by omega) _, cur_put cA (by omega) (fun e => hneV (by rw [e])) _, grown_put GA (by omega) _⟩
end Go.Proofs.YtdnpfkknnaepoaaDoor
