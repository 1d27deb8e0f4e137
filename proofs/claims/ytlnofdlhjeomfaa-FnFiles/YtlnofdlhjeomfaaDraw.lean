/-
  What the functions that draw out of a code answer: contracts for the walks over a cursor (a pointer to a struct of the call's own) that reads the code; each says no more of what is drawn than its bounds; conditions: the code lies in memory as told.
-/
import Derived.Test.YtlnofdlhjeomfaaBytes
import Derived.Laws.BitsAllLaws
import Derived.Lib.AppendStr
import Derived.Deep.DeepMust
namespace Go.Proofs.Ytlnofdlhjeomfaa
open Go.RowKit
set_option linter.unusedSimpArgs false
set_option linter.unusedVariables false

/-- The cursor at block g: what it holds; the code that it reads lies below base, the cursor from base on. -/
def Cur (w : World) (base g : Nat) (zs : List Int) : Prop :=
  base ≤ g ∧ zs.length ≤ 281474976710656 ∧ (∀ z ∈ zs, 0 ≤ z ∧ z ≤ 255) ∧
  ∃ (a : Option Addr) (cap i : Nat) (h : Int), i ≤ zs.length ∧ w.heap[g]? = some (.cells #[.slice a zs.length cap, .int .i64 (i : Int), .int .i64 h] 118 (0, 0)) ∧
    (zs = [] ∨ ∃ b off, a = some ⟨b, off, none⟩ ∧ b < base ∧ ∀ k, k < zs.length → w.cell? ⟨b, off + k, none⟩ = some (.int .u8 (zs.getD k 0)))

theorem cur_new (w : World) (a : Option Addr) (zs : List Int) (cap : Nat) (h : Int) (hn : zs.length ≤ 281474976710656) (hz : ∀ z ∈ zs, 0 ≤ z ∧ z ≤ 255)
    (hc : zs = [] ∨ ∃ b off, a = some ⟨b, off, none⟩ ∧ b < w.heap.size ∧ ∀ k, k < zs.length → w.cell? ⟨b, off + k, none⟩ = some (.int .u8 (zs.getD k 0))) :
    Cur (w.alloc (.cells #[.slice a zs.length cap, .int .i64 0, .int .i64 h] 118)) w.heap.size w.heap.size zs := by
  refine ⟨Nat.le_refl _, hn, hz, a, cap, 0, h, Nat.zero_le _, heap_alloc_new w _, ?_⟩
  rcases hc with hc | ⟨b, off, ha, hlt, hc⟩
  · exact .inl hc
  · exact .inr ⟨b, off, ha, hlt, fun k hk => by rw [World.cell?_alloc_lt _ _ _ hlt]; exact hc k hk⟩

set_option maxHeartbeats 1000000 in
set_option maxRecDepth 100000 in
theorem new_c (v : Value) (zs : List Int) (w : World) (hr : Reads w v (bytesV zs)) (hn : zs.length ≤ 1048576) (hz : ∀ z ∈ zs, 0 ≤ z ∧ z ≤ 255) :
    Calls Try.prog 35 #[v] w fun e w' => ∃ g, e = .returned (.pointer (some ⟨g, 0, none⟩)) ∧ Cur w' w.heap.size g zs ∧ Below w.heap.size w w' := by
  obtain ⟨a, cap, rfl, _, hc⟩ := reads_bytes hr
  clear hr
  rcases hc with rfl | ⟨b, off, rfl, hlt, hc⟩
  · go_enter Try.func35, Try.ntmps35
    go_wp2
    go_loop [3, 4] (fun vh vi => ∃ h : Int, vh = .int .i64 h ∧ vi = .int .i64 0) (fun _ _ => 0)
    case atStart => exact ⟨_, rfl, rfl⟩
    case round =>
      obtain ⟨h, rfl, rfl⟩ := hrel
      go_wp2
      go_ret
      exact ⟨_, rfl, cur_new w _ _ _ _ (by simp) hz (.inl rfl), (Below.refl _ _).alloc (Nat.le_refl _) _⟩
  · go_enter Try.func35, Try.ntmps35
    go_wp2
    go_loop [3, 4] (fun vh vi => ∃ (k : Nat) (h : Int), k ≤ zs.length ∧ vh = .int .i64 h ∧ vi = .int .i64 (k : Int)) (fun _ vi => zs.length - (intOf vi).toNat)
    case atStart => exact ⟨0, _, Nat.zero_le _, rfl, rfl⟩
    case round =>
      obtain ⟨k, h, hk, rfl, rfl⟩ := hrel
      have hcx : k < zs.length → w.cell? ⟨b, off + k, none⟩ = some (.int .u8 (zs.getD k 0)) := hc k
      have HC : Hid (∀ k, k < zs.length → w.cell? ⟨b, off + k, none⟩ = some (.int .u8 (zs.getD k 0))) := hc
      clear hc
      go_wp2
      · have hlt' : k < zs.length := by assumption
        go_round
        case rel => exact ⟨k + 1, _, by omega, rfl, by go_num⟩
        case measure => simp [intOf]; omega
      · go_ret
        exact ⟨_, rfl, cur_new w _ _ _ _ (by omega) hz (.inr ⟨b, off, rfl, hlt, HC.out⟩), (Below.refl _ _).alloc (Nat.le_refl _) _⟩
      · go_ret
        exact ⟨_, rfl, cur_new w _ _ _ _ (by omega) hz (.inr ⟨b, off, rfl, hlt, HC.out⟩), (Below.refl _ _).alloc (Nat.le_refl _) _⟩

theorem and_255 (x : Int) : 0 ≤ bits .and .i64 x 255 ∧ bits .and .i64 x 255 ≤ 255 := by
  show 0 ≤ IntKind.i64.wrap ((BitVec.ofInt 64 x &&& BitVec.ofInt 64 ((255 : Nat) : Int)).toNat : Int) ∧ IntKind.i64.wrap ((BitVec.ofInt 64 x &&& BitVec.ofInt 64 ((255 : Nat) : Int)).toNat : Int) ≤ 255
  rw [BitVec.toNat_and, ofInt_u64 255 (by omega)]
  have h := Nat.and_le_right (n := (BitVec.ofInt 64 x).toNat) (m := 255)
  rw [IntKind.wrap_i64]
  omega

theorem cell_of_heap {w : World} {g : Nat} {cs : Array Value} {t : TypeId} (h : w.heap[g]? = some (.cells cs t (0, 0))) (j : Nat) : w.cell? ⟨g, j, none⟩ = cs[j]? := cell_of_row w g j cs t (0, 0) h

/-- The cursor behind a step: its two numbers have turned, nothing else. -/
theorem cur_step {w w' : World} {base g : Nat} {zs : List Int} (hc : Cur w base g zs) (i : Nat) (hi : i ≤ zs.length) (h : Int) (hg : w.grownBy w' (some g))
    (hh : ∀ a cap i0 h0, w.heap[g]? = some (.cells #[.slice a zs.length cap, .int .i64 i0, .int .i64 h0] 118 (0, 0)) → w'.heap[g]? = some (.cells #[.slice a zs.length cap, .int .i64 (i : Int), .int .i64 h] 118 (0, 0))) : Cur w' base g zs := by
  obtain ⟨hb, hn, hz, a, cap, i0, h0, hi0, hw, hr⟩ := hc
  refine ⟨hb, hn, hz, a, cap, i, h, hi, hh _ _ _ _ hw, ?_⟩
  rcases hr with hr | ⟨b, off, ha, hlt, hr⟩
  · exact .inl hr
  · refine .inr ⟨b, off, ha, hlt, fun k hk => ?_⟩
    exact hg.cell (hr k hk) (by simp; omega)

theorem grown_set (w : World) (g j : Nat) (u : Value) : w.grownBy (w.setCell ⟨g, j, none⟩ u) (some g) :=
  ⟨rfl, rfl, rfl, by simp, fun k _ hk => heap_setCell_other w ⟨g, j, none⟩ k u (fun e => hk (by simp [e]))⟩
theorem grown_drewN {w w' : World} {r : Option Nat} (h : w.grownBy w' r) (n : Nat) : w.grownBy (w'.drewN n) r := ⟨h.os, h.tape, h.output, h.size, h.block⟩
theorem cur_drewN {w : World} {base g : Nat} {zs : List Int} (h : Cur w base g zs) (n : Nat) : Cur (w.drewN n) base g zs := h
theorem cur_one {w : World} {base g : Nat} {zs : List Int} (hc : Cur w base g zs) (h' : Int) : Cur (w.setCell ⟨g, 2, none⟩ (.int .i64 h')) base g zs := by
  have hc0 := hc
  obtain ⟨hb, hn, hz, a, cap, i, h, hi, hw, hr⟩ := hc
  refine cur_step hc0 i hi h' (grown_set w g 2 _) fun a' cap' i' h0 e => ?_
  rw [hw] at e
  simp only [Option.some.injEq, Obj.cells.injEq, and_true, Array.mk.injEq, List.cons.injEq, Value.slice.injEq, Value.int.injEq, true_and] at e
  obtain ⟨⟨rfl, rfl⟩, rfl, rfl⟩ := e
  rw [heap_setCell_same w g 2 _ 118 _ hw]
  rfl
theorem cur_two {w : World} {base g : Nat} {zs : List Int} (hc : Cur w base g zs) (h' : Int) (n i' : Nat) (hi' : i' ≤ zs.length) : Cur (((w.setCell ⟨g, 2, none⟩ (.int .i64 h')).drewN n).setCell ⟨g, 1, none⟩ (.int .i64 (i' : Int))) base g zs := by
  have hc1 := cur_drewN (cur_one hc h') n
  have hc0 := hc1
  obtain ⟨hb, hn, hz, a, cap, i, h, hi, hw, hr⟩ := hc1
  refine cur_step hc0 i' hi' h (grown_set _ g 1 _) fun a' cap' i0 h0 e => ?_
  rw [hw] at e
  simp only [Option.some.injEq, Obj.cells.injEq, and_true, Array.mk.injEq, List.cons.injEq, Value.slice.injEq, Value.int.injEq, true_and] at e
  obtain ⟨⟨rfl, rfl⟩, rfl, rfl⟩ := e
  rw [heap_setCell_same _ g 1 _ 118 _ hw]
  rfl

set_option maxHeartbeats 1000000 in
set_option maxRecDepth 100000 in
theorem byte_c (base g : Nat) (zs : List Int) (w : World) (hc : Cur w base g zs) :
    Calls Try.prog 102 #[.pointer (some ⟨g, 0, none⟩)] w fun e w' => ∃ x : Int, e = .returned (.int .i64 x) ∧ 0 ≤ x ∧ x ≤ 255 ∧ Cur w' base g zs ∧ w.grownBy w' (some g) := by
  have hc0 := hc
  obtain ⟨hb, hn, hz, a, cap, i, h, hi, hw, hr⟩ := hc
  have c0 := cell_of_heap hw 0
  have c1 := cell_of_heap hw 1
  have c2 := cell_of_heap hw 2
  have f1 := frozen_of_row w g 1 _ 118 hw
  have f2 := frozen_of_row w g 2 _ 118 hw
  simp at c0 c1 c2
  by_cases hlt : i < zs.length
  · rcases hr with rfl | ⟨b, off, rfl, hbl, hr⟩
    · simp at hlt
    have hx := hr i hlt
    have hne : ¬ b = g := by omega
    have hx2 : ∀ v, (w.setCell ⟨g, 2, none⟩ v).cell? ⟨b, off + i, none⟩ = some (.int .u8 (zs.getD i 0)) := fun v => by
      rw [World.cell?_setCell_other _ _ _ _ (by intro e; injection e; omega)]; exact hx
    have hil : (i : Int) < (zs.length : Int) := by omega
    clear hr hx
    go_enter Try.func102, Try.ntmps102
    go_wp2
    go_quiet (fail)
    go_wp2
    go_quiet (fail)
    go_wp2
    go_quiet (fail)
    go_wp2
    go_ret
    exact ⟨_, rfl, (and_255 _).1, (and_255 _).2, cur_two hc0 _ _ (i + 1) (by omega), grown_trans (grown_drewN (grown_set w g 2 _) _) (grown_set _ g 1 _)⟩
  · go_enter Try.func102, Try.ntmps102
    go_wp2
    go_quiet (fail)
    go_wp2
    go_quiet (fail)
    go_wp2
    go_ret
    exact ⟨_, rfl, (and_255 _).1, (and_255 _).2, cur_drewN (cur_drewN (cur_one hc0 _) _) _, grown_drewN (grown_drewN (grown_set w g 2 _) _) _⟩

set_option maxHeartbeats 1000000 in
set_option maxRecDepth 100000 in
theorem below_c (base g : Nat) (zs : List Int) (n : Int) (w : World) (hc : Cur w base g zs) :
    Calls Try.prog 79 #[.pointer (some ⟨g, 0, none⟩), .int .i64 n] w fun e w' => ∃ x : Nat, e = .returned (.int .i64 (x : Int)) ∧ (0 < n → (x : Int) < n) ∧ Cur w' base g zs ∧ w.grownBy w' (some g) := by
  by_cases h0 : n ≤ 0
  · go_enter Try.func79, Try.ntmps79
    go_wp2
    go_ret
    exact ⟨0, rfl, fun h => by omega, hc, World.grownBy.refl _ _⟩
  by_cases h1 : n ≤ 256
  · have hnz : ¬ n = 0 := by omega
    go_enter Try.func79, Try.ntmps79
    go_wp2_with (go_at_call 102; refine (byte_c base g zs _ hc).mono ?_; rintro e w1 ⟨x, rfl, hx0, hx1, hc1, hg1⟩)
    go_ret
    have e1 := Int.emod_nonneg x hnz
    have e2 := Int.emod_lt_of_pos x (show 0 < n by omega)
    exact ⟨(x % n).toNat, by rw [Int.toNat_of_nonneg e1]; rfl, fun _ => by omega, hc1, hg1⟩
  · have hnz : ¬ n = 0 := by omega
    go_enter Try.func79, Try.ntmps79
    go_wp2_with (go_at_call 102; refine (byte_c base g zs _ hc).mono ?_; rintro e w1 ⟨x, rfl, hx0, hx1, hc1, hg1⟩)
    go_wp2_with (go_at_call 102; refine (byte_c base g zs _ hc1).mono ?_; rintro e w2 ⟨y, rfl, hy0, hy1, hc2, hg2⟩)
    go_wp2_with (go_at_call 102; refine (byte_c base g zs _ hc2).mono ?_; rintro e w3 ⟨z, rfl, hz0, hz1, hc3, hg3⟩)
    go_ret
    have e1 := Int.emod_nonneg (x * 65536 + y * 256 + z) hnz
    have e2 := Int.emod_lt_of_pos (x * 65536 + y * 256 + z) (show 0 < n by omega)
    exact ⟨((x * 65536 + y * 256 + z) % n).toNat, by rw [Int.toNat_of_nonneg e1]; rfl, fun _ => by omega, hc3, grown_trans (grown_trans hg1 hg2) hg3⟩

theorem str_c (base g : Nat) (zs : List Int) (gl mcap : Nat) (xs : List ByteArray) (w : World) (hc : Cur w base g zs) (hm : 0 < xs.length) (hm2 : xs.length ≤ 1048576) (hne : gl ≠ g) (hxs : ∀ k (h : k < xs.length), w.cell? ⟨gl, k, none⟩ = some (.string xs[k])) :
    Calls Try.prog 37 #[.pointer (some ⟨g, 0, none⟩), .slice (some ⟨gl, 0, none⟩) xs.length mcap] w fun e w' => ∃ t, t ∈ xs ∧ e = .returned (.string t) ∧ Cur w' base g zs ∧ w.grownBy w' (some g) := by
  go_enter Try.func37, Try.ntmps37
  go_wp2_with (
    go_at_call 79
    refine (below_c base g zs _ _ hc).mono ?_
    rintro e w1 ⟨x, rfl, hx, hc1, hg1⟩
    have hx' : x < xs.length := by have := hx (by omega); omega
    have hcx : w1.cell? ⟨gl, x, none⟩ = some (.string xs[x]) := hg1.cell (hxs x hx') (by simp; exact hne)
    have hmem : xs[x] ∈ xs := List.getElem_mem hx'
    obtain ⟨t, ht⟩ : ∃ t, t = xs[x] := ⟨_, rfl⟩
    rw [← ht] at hcx hmem
    have hxi : (x : Int) < (xs.length : Int) := by omega
    clear hxs hx ht)
  go_ret
  exact ⟨t, hmem, rfl, hc1, hg1⟩

def textList : List ByteArray := [⟨#[]⟩, ⟨#[97]⟩, ⟨#[98]⟩, ⟨#[97, 98]⟩, ⟨#[97, 45, 98]⟩, ⟨#[65, 98]⟩, ⟨#[120, 49]⟩, ⟨#[101, 108, 101, 118, 101, 110, 98, 121, 116, 101, 115]⟩, ⟨#[116, 101, 110, 45, 98, 121, 116, 101, 115, 49]⟩, ⟨#[97, 32, 98]⟩, ⟨#[9]⟩, ⟨#[127]⟩, ⟨#[49, 97]⟩, ⟨#[45, 97]⟩, ⟨#[122]⟩, ⟨#[104, 101, 108, 108, 111]⟩]
theorem textList_small : ∀ t ∈ textList, t.size ≤ 11 := by decide +kernel

theorem lit_strs (w : World) (xs : List ByteArray) : ∀ k (h : k < xs.length), (w.alloc (.cells (xs.map Value.string).toArray 9)).cell? ⟨w.heap.size, k, none⟩ = some (.string xs[k]) := by
  intro k h
  simp [h]
theorem lit_ints (w : World) (xs : List Int) : ∀ k, k < xs.length → (w.alloc (.cells (xs.map (Value.int .i64)).toArray 3)).cell? ⟨w.heap.size, k, none⟩ = some (.int .i64 (xs.getD k 0)) := by
  intro k h
  simp [h, List.getD_eq_getElem?_getD]

theorem cur_lt {w : World} {base g : Nat} {zs : List Int} (h : Cur w base g zs) : g < w.heap.size := by
  obtain ⟨hb, hn, hz, a, cap, i, hh, hi, hw, hr⟩ := h
  exact (Array.getElem?_eq_some_iff.1 hw).1
theorem cur_grown {w w' : World} {base g : Nat} {zs : List Int} {r : Option Nat} (h : Cur w base g zs) (hg : w.grownBy w' r) (hr : ∀ k, r = some k → base ≤ k) (hne : r ≠ some g) : Cur w' base g zs := by
  have hlt := cur_lt h
  obtain ⟨hb, hn, hz, a, cap, i, hh, hi, hw, hrd⟩ := h
  refine ⟨hb, hn, hz, a, cap, i, hh, hi, by rw [hg.block g hlt (fun e => hne e.symm)]; exact hw, ?_⟩
  rcases hrd with hrd | ⟨b, off, ha, hlt', hrd⟩
  · exact .inl hrd
  · refine .inr ⟨b, off, ha, hlt', fun k hk => ?_⟩
    refine hg.cell (hrd k hk) (fun e => ?_)
    have := hr b e.symm
    omega
theorem grown_own {w w1 w2 : World} {o : Obj} {g : Nat} {r : Option Nat} (h1 : w.grownBy w1 (some g)) (h2 : (w1.alloc o).grownBy w2 r) (hr : ∀ k, r = some k → w.heap.size ≤ k) : w.grownBy w2 (some g) := by
  have ha := World.grownBy_alloc w1 o none
  refine ⟨h2.os.trans h1.os, h2.tape.trans h1.tape, h2.output.trans h1.output, Nat.le_trans h1.size (Nat.le_trans ha.size h2.size), fun k hk hne => ?_⟩
  rw [h2.block k (Nat.lt_of_lt_of_le (Nat.lt_of_lt_of_le hk h1.size) ha.size) (fun e => by have := hr k e.symm; omega)]
  rw [ha.block k (Nat.lt_of_lt_of_le hk h1.size) (by simp)]
  exact h1.block k hk hne
theorem cur_alloc {w : World} {base g : Nat} {zs : List Int} (h : Cur w base g zs) (o : Obj) : Cur (w.alloc o) base g zs :=
  cur_grown h (World.grownBy_alloc w o none) (by simp) (by simp)

end Go.Proofs.Ytlnofdlhjeomfaa
