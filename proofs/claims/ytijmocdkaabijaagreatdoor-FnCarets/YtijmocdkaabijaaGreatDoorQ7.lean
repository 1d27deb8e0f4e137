/-
  Contracts for the walks, several texts in one: each part says what it proves, and under which conditions.
-/
import Derived.Laws.BitsAllLaws
import Derived.Lib.AppendStr
import Derived.Deep.DeepMust
import Derived.Deep.RegionLaw
import Derived.Deep.AppendLies
import Derived.Deep.DrawnRows
import Derived.Deep.DeepCutAuto
import Derived.Laws.AppendOwnNone
import Derived.Test.YtijmocdkaabijaaGreatDoorQ1
import Derived.Test.YtijmocdkaabijaaGreatDoorQ5
import Derived.Test.YtijmocdkaabijaaGreatDoorQ6

/-! What the functions that draw out of a code answer: contracts for the walks over a cursor (a pointer to a struct of the call's own) that reads the code; each says no more of what is drawn than its bounds; conditions: the code lies in memory as told. -/
namespace Go.Proofs.YtijmocdkaabijaaGreatDoor
open Go.RowKit
set_option linter.unusedSimpArgs false
set_option linter.unusedVariables false

/-- The cursor at block g: what it holds; the code that it reads lies below base, the cursor from base on. -/
def Cur (w : World) (base g : Nat) (zs : List Int) : Prop :=
  base ≤ g ∧ zs.length ≤ 281474976710656 ∧ (∀ z ∈ zs, 0 ≤ z ∧ z ≤ 255) ∧
  ∃ (a : Option Addr) (cap i : Nat) (h : Int), i ≤ zs.length ∧ w.heap[g]? = some (.cells #[.slice a zs.length cap, .int .i64 (i : Int), .int .i64 h] 78 (0, 0)) ∧
    (zs = [] ∨ ∃ b off, a = some ⟨b, off, none⟩ ∧ b < base ∧ ∀ k, k < zs.length → w.cell? ⟨b, off + k, none⟩ = some (.int .u8 (zs.getD k 0)))

theorem cur_new (w : World) (a : Option Addr) (zs : List Int) (cap : Nat) (h : Int) (hn : zs.length ≤ 281474976710656) (hz : ∀ z ∈ zs, 0 ≤ z ∧ z ≤ 255)
    (hc : zs = [] ∨ ∃ b off, a = some ⟨b, off, none⟩ ∧ b < w.heap.size ∧ ∀ k, k < zs.length → w.cell? ⟨b, off + k, none⟩ = some (.int .u8 (zs.getD k 0))) :
    Cur (w.alloc (.cells #[.slice a zs.length cap, .int .i64 0, .int .i64 h] 78)) w.heap.size w.heap.size zs := by
  refine ⟨Nat.le_refl _, hn, hz, a, cap, 0, h, Nat.zero_le _, heap_alloc_new w _, ?_⟩
  rcases hc with hc | ⟨b, off, ha, hlt, hc⟩
  · exact .inl hc
  · exact .inr ⟨b, off, ha, hlt, fun k hk => by rw [World.cell?_alloc_lt _ _ _ hlt]; exact hc k hk⟩

set_option maxHeartbeats 1000000 in
set_option maxRecDepth 100000 in
theorem new_c (v : Value) (zs : List Int) (w : World) (hr : Reads w v (bytesV zs)) (hn : zs.length ≤ 1048576) (hz : ∀ z ∈ zs, 0 ≤ z ∧ z ≤ 255) :
    Calls Tryz.prog 16 #[v] w fun e w' => ∃ g, e = .returned (.pointer (some ⟨g, 0, none⟩)) ∧ Cur w' w.heap.size g zs ∧ Below w.heap.size w w' := by
  obtain ⟨a, cap, rfl, _, hc⟩ := reads_bytes hr
  clear hr
  rcases hc with rfl | ⟨b, off, rfl, hlt, hc⟩
  · go_enter Tryz.func16, Tryz.ntmps16
    go_wp2
    go_loop [3, 4] (fun vh vi => ∃ h : Int, vh = .int .i64 h ∧ vi = .int .i64 0) (fun _ _ => 0)
    case atStart => exact ⟨_, rfl, rfl⟩
    case round =>
      obtain ⟨h, rfl, rfl⟩ := hrel
      go_wp2
      go_ret
      exact ⟨_, rfl, cur_new w _ _ _ _ (by simp) hz (.inl rfl), (Below.refl _ _).alloc (Nat.le_refl _) _⟩
  · go_enter Tryz.func16, Tryz.ntmps16
    go_wp2
    go_loop [3, 4] (fun vh vi => ∃ (k : Nat) (h : Int), k ≤ zs.length ∧ vh = .int .i64 h ∧ vi = .int .i64 (k : Int)) (fun _ vi => zs.length - (intOf vi).toNat)
    case atStart => exact ⟨0, _, Nat.zero_le _, rfl, rfl⟩
    case round =>
      obtain ⟨k, h, hk, rfl, rfl⟩ := hrel
      have hcx : k < zs.length → w.cell? ⟨b, off + k, none⟩ = some (.int .u8 (zs.getD k 0)) := hc k
      have HC : Hid (∀ k, k < zs.length → w.cell? ⟨b, off + k, none⟩ = some (.int .u8 (zs.getD k 0))) := hc
      clear hc
      go_wp2
      · have hlt' : k < zs.length := by assumption
        go_round
        case rel => exact ⟨k + 1, _, by omega, rfl, by go_num⟩
        case measure => simp [intOf]; omega
      · go_ret
        exact ⟨_, rfl, cur_new w _ _ _ _ (by omega) hz (.inr ⟨b, off, rfl, hlt, HC.out⟩), (Below.refl _ _).alloc (Nat.le_refl _) _⟩
      · go_ret
        exact ⟨_, rfl, cur_new w _ _ _ _ (by omega) hz (.inr ⟨b, off, rfl, hlt, HC.out⟩), (Below.refl _ _).alloc (Nat.le_refl _) _⟩

theorem and_255 (x : Int) : 0 ≤ bits .and .i64 x 255 ∧ bits .and .i64 x 255 ≤ 255 := by
  show 0 ≤ IntKind.i64.wrap ((BitVec.ofInt 64 x &&& BitVec.ofInt 64 ((255 : Nat) : Int)).toNat : Int) ∧ IntKind.i64.wrap ((BitVec.ofInt 64 x &&& BitVec.ofInt 64 ((255 : Nat) : Int)).toNat : Int) ≤ 255
  rw [BitVec.toNat_and, ofInt_u64 255 (by omega)]
  have h := Nat.and_le_right (n := (BitVec.ofInt 64 x).toNat) (m := 255)
  rw [IntKind.wrap_i64]
  omega

theorem cell_of_heap {w : World} {g : Nat} {cs : Array Value} {t : TypeId} (h : w.heap[g]? = some (.cells cs t (0, 0))) (j : Nat) : w.cell? ⟨g, j, none⟩ = cs[j]? := cell_of_row w g j cs t (0, 0) h

/-- The cursor behind a step: its two numbers have turned, nothing else. -/
theorem cur_step {w w' : World} {base g : Nat} {zs : List Int} (hc : Cur w base g zs) (i : Nat) (hi : i ≤ zs.length) (h : Int) (hg : w.grownBy w' (some g))
    (hh : ∀ a cap i0 h0, w.heap[g]? = some (.cells #[.slice a zs.length cap, .int .i64 i0, .int .i64 h0] 78 (0, 0)) → w'.heap[g]? = some (.cells #[.slice a zs.length cap, .int .i64 (i : Int), .int .i64 h] 78 (0, 0))) : Cur w' base g zs := by
  obtain ⟨hb, hn, hz, a, cap, i0, h0, hi0, hw, hr⟩ := hc
  refine ⟨hb, hn, hz, a, cap, i, h, hi, hh _ _ _ _ hw, ?_⟩
  rcases hr with hr | ⟨b, off, ha, hlt, hr⟩
  · exact .inl hr
  · refine .inr ⟨b, off, ha, hlt, fun k hk => ?_⟩
    exact hg.cell (hr k hk) (by simp; omega)

theorem grown_set (w : World) (g j : Nat) (u : Value) : w.grownBy (w.setCell ⟨g, j, none⟩ u) (some g) :=
  ⟨rfl, rfl, rfl, by simp, fun k _ hk => heap_setCell_other w ⟨g, j, none⟩ k u (fun e => hk (by simp [e]))⟩
theorem grown_drewN {w w' : World} {r : Option Nat} (h : w.grownBy w' r) (n : Nat) : w.grownBy (w'.drewN n) r := ⟨h.os, h.tape, h.output, h.size, h.block⟩
theorem cur_drewN {w : World} {base g : Nat} {zs : List Int} (h : Cur w base g zs) (n : Nat) : Cur (w.drewN n) base g zs := h
theorem cur_one {w : World} {base g : Nat} {zs : List Int} (hc : Cur w base g zs) (h' : Int) : Cur (w.setCell ⟨g, 2, none⟩ (.int .i64 h')) base g zs := by
  have hc0 := hc
  obtain ⟨hb, hn, hz, a, cap, i, h, hi, hw, hr⟩ := hc
  refine cur_step hc0 i hi h' (grown_set w g 2 _) fun a' cap' i' h0 e => ?_
  rw [hw] at e
  simp only [Option.some.injEq, Obj.cells.injEq, and_true, Array.mk.injEq, List.cons.injEq, Value.slice.injEq, Value.int.injEq, true_and] at e
  obtain ⟨⟨rfl, rfl⟩, rfl, rfl⟩ := e
  rw [heap_setCell_same w g 2 _ 78 _ hw]
  rfl
theorem cur_two {w : World} {base g : Nat} {zs : List Int} (hc : Cur w base g zs) (h' : Int) (n i' : Nat) (hi' : i' ≤ zs.length) : Cur (((w.setCell ⟨g, 2, none⟩ (.int .i64 h')).drewN n).setCell ⟨g, 1, none⟩ (.int .i64 (i' : Int))) base g zs := by
  have hc1 := cur_drewN (cur_one hc h') n
  have hc0 := hc1
  obtain ⟨hb, hn, hz, a, cap, i, h, hi, hw, hr⟩ := hc1
  refine cur_step hc0 i' hi' h (grown_set _ g 1 _) fun a' cap' i0 h0 e => ?_
  rw [hw] at e
  simp only [Option.some.injEq, Obj.cells.injEq, and_true, Array.mk.injEq, List.cons.injEq, Value.slice.injEq, Value.int.injEq, true_and] at e
  obtain ⟨⟨rfl, rfl⟩, rfl, rfl⟩ := e
  rw [heap_setCell_same _ g 1 _ 78 _ hw]
  rfl

set_option maxHeartbeats 1000000 in
set_option maxRecDepth 100000 in
theorem byte_c (base g : Nat) (zs : List Int) (w : World) (hc : Cur w base g zs) :
    Calls Tryz.prog 80 #[.pointer (some ⟨g, 0, none⟩)] w fun e w' => ∃ x : Int, e = .returned (.int .i64 x) ∧ 0 ≤ x ∧ x ≤ 255 ∧ Cur w' base g zs ∧ w.grownBy w' (some g) := by
  have hc0 := hc
  obtain ⟨hb, hn, hz, a, cap, i, h, hi, hw, hr⟩ := hc
  have c0 := cell_of_heap hw 0
  have c1 := cell_of_heap hw 1
  have c2 := cell_of_heap hw 2
  have f1 := frozen_of_row w g 1 _ 78 hw
  have f2 := frozen_of_row w g 2 _ 78 hw
  simp at c0 c1 c2
  by_cases hlt : i < zs.length
  · rcases hr with rfl | ⟨b, off, rfl, hbl, hr⟩
    · simp at hlt
    have hx := hr i hlt
    have hne : ¬ b = g := by omega
    have hx2 : ∀ v, (w.setCell ⟨g, 2, none⟩ v).cell? ⟨b, off + i, none⟩ = some (.int .u8 (zs.getD i 0)) := fun v => by
      rw [World.cell?_setCell_other _ _ _ _ (by intro e; injection e; omega)]; exact hx
    have hil : (i : Int) < (zs.length : Int) := by omega
    clear hr hx
    go_enter Tryz.func80, Tryz.ntmps80
    go_wp2
    go_quiet (fail)
    go_wp2
    go_quiet (fail)
    go_wp2
    go_quiet (fail)
    go_wp2
    go_ret
    exact ⟨_, rfl, (and_255 _).1, (and_255 _).2, cur_two hc0 _ _ (i + 1) (by omega), grown_trans (grown_drewN (grown_set w g 2 _) _) (grown_set _ g 1 _)⟩
  · go_enter Tryz.func80, Tryz.ntmps80
    go_wp2
    go_quiet (fail)
    go_wp2
    go_quiet (fail)
    go_wp2
    go_ret
    exact ⟨_, rfl, (and_255 _).1, (and_255 _).2, cur_drewN (cur_drewN (cur_one hc0 _) _) _, grown_drewN (grown_drewN (grown_set w g 2 _) _) _⟩

set_option maxHeartbeats 1000000 in
set_option maxRecDepth 100000 in
theorem below_c (base g : Nat) (zs : List Int) (n : Int) (w : World) (hc : Cur w base g zs) :
    Calls Tryz.prog 40 #[.pointer (some ⟨g, 0, none⟩), .int .i64 n] w fun e w' => ∃ x : Nat, e = .returned (.int .i64 (x : Int)) ∧ (0 < n → (x : Int) < n) ∧ Cur w' base g zs ∧ w.grownBy w' (some g) := by
  by_cases h0 : n ≤ 0
  · go_enter Tryz.func40, Tryz.ntmps40
    go_wp2
    go_ret
    exact ⟨0, rfl, fun h => by omega, hc, World.grownBy.refl _ _⟩
  by_cases h1 : n ≤ 256
  · have hnz : ¬ n = 0 := by omega
    go_enter Tryz.func40, Tryz.ntmps40
    go_wp2_with (go_at_call 80; refine (byte_c base g zs _ hc).mono ?_; rintro e w1 ⟨x, rfl, hx0, hx1, hc1, hg1⟩)
    go_ret
    have e1 := Int.emod_nonneg x hnz
    have e2 := Int.emod_lt_of_pos x (show 0 < n by omega)
    exact ⟨(x % n).toNat, by rw [Int.toNat_of_nonneg e1]; rfl, fun _ => by omega, hc1, hg1⟩
  · have hnz : ¬ n = 0 := by omega
    go_enter Tryz.func40, Tryz.ntmps40
    go_wp2_with (go_at_call 80; refine (byte_c base g zs _ hc).mono ?_; rintro e w1 ⟨x, rfl, hx0, hx1, hc1, hg1⟩)
    go_wp2_with (go_at_call 80; refine (byte_c base g zs _ hc1).mono ?_; rintro e w2 ⟨y, rfl, hy0, hy1, hc2, hg2⟩)
    go_wp2_with (go_at_call 80; refine (byte_c base g zs _ hc2).mono ?_; rintro e w3 ⟨z, rfl, hz0, hz1, hc3, hg3⟩)
    go_ret
    have e1 := Int.emod_nonneg (x * 65536 + y * 256 + z) hnz
    have e2 := Int.emod_lt_of_pos (x * 65536 + y * 256 + z) (show 0 < n by omega)
    exact ⟨((x * 65536 + y * 256 + z) % n).toNat, by rw [Int.toNat_of_nonneg e1]; rfl, fun _ => by omega, hc3, grown_trans (grown_trans hg1 hg2) hg3⟩

set_option maxHeartbeats 1000000 in
set_option maxRecDepth 100000 in
theorem once_c (base g : Nat) (zs : List Int) (n : Int) (w : World) (hc : Cur w base g zs) :
    Calls Tryz.prog 41 #[.pointer (some ⟨g, 0, none⟩), .int .i64 n] w fun e w' => ∃ b : Bool, e = .returned (.bool b) ∧ Cur w' base g zs ∧ w.grownBy w' (some g) := by
  go_enter Tryz.func41, Tryz.ntmps41
  go_wp2_with (go_at_call 40; refine (below_c base g zs _ _ hc).mono ?_; rintro e w1 ⟨x, rfl, hx, hc1, hg1⟩)
  go_ret
  exact ⟨_, rfl, hc1, hg1⟩

theorem str_c (base g : Nat) (zs : List Int) (gl mcap : Nat) (xs : List ByteArray) (w : World) (hc : Cur w base g zs) (hm : 0 < xs.length) (hm2 : xs.length ≤ 1048576) (hne : gl ≠ g) (hxs : ∀ k (h : k < xs.length), w.cell? ⟨gl, k, none⟩ = some (.string xs[k])) :
    Calls Tryz.prog 42 #[.pointer (some ⟨g, 0, none⟩), .slice (some ⟨gl, 0, none⟩) xs.length mcap] w fun e w' => ∃ t, t ∈ xs ∧ e = .returned (.string t) ∧ Cur w' base g zs ∧ w.grownBy w' (some g) := by
  go_enter Tryz.func42, Tryz.ntmps42
  go_wp2_with (
    go_at_call 40
    refine (below_c base g zs _ _ hc).mono ?_
    rintro e w1 ⟨x, rfl, hx, hc1, hg1⟩
    have hx' : x < xs.length := by have := hx (by omega); omega
    have hcx : w1.cell? ⟨gl, x, none⟩ = some (.string xs[x]) := hg1.cell (hxs x hx') (by simp; exact hne)
    have hmem : xs[x] ∈ xs := List.getElem_mem hx'
    obtain ⟨t, ht⟩ : ∃ t, t = xs[x] := ⟨_, rfl⟩
    rw [← ht] at hcx hmem
    have hxi : (x : Int) < (xs.length : Int) := by omega
    clear hxs hx ht)
  go_ret
  exact ⟨t, hmem, rfl, hc1, hg1⟩

def textList : List ByteArray := [⟨#[]⟩, ⟨#[97]⟩, ⟨#[98]⟩, ⟨#[97, 98]⟩, ⟨#[97, 45, 98]⟩, ⟨#[65, 98]⟩, ⟨#[120, 49]⟩, ⟨#[101, 108, 101, 118, 101, 110, 98, 121, 116, 101, 115]⟩, ⟨#[116, 101, 110, 45, 98, 121, 116, 101, 115, 49]⟩, ⟨#[97, 32, 98]⟩, ⟨#[9]⟩, ⟨#[127]⟩, ⟨#[49, 97]⟩, ⟨#[45, 97]⟩, ⟨#[122]⟩, ⟨#[104, 101, 108, 108, 111]⟩]
theorem textList_small : ∀ t ∈ textList, t.size ≤ 11 := by decide +kernel

theorem lit_strs (w : World) (xs : List ByteArray) : ∀ k (h : k < xs.length), (w.alloc (.cells (xs.map Value.string).toArray 9)).cell? ⟨w.heap.size, k, none⟩ = some (.string xs[k]) := by
  intro k h
  simp [h]
theorem lit_ints (w : World) (xs : List Int) : ∀ k, k < xs.length → (w.alloc (.cells (xs.map (Value.int .i64)).toArray 3)).cell? ⟨w.heap.size, k, none⟩ = some (.int .i64 (xs.getD k 0)) := by
  intro k h
  simp [h, List.getD_eq_getElem?_getD]

theorem cur_lt {w : World} {base g : Nat} {zs : List Int} (h : Cur w base g zs) : g < w.heap.size := by
  obtain ⟨hb, hn, hz, a, cap, i, hh, hi, hw, hr⟩ := h
  exact (Array.getElem?_eq_some_iff.1 hw).1
theorem cur_grown {w w' : World} {base g : Nat} {zs : List Int} {r : Option Nat} (h : Cur w base g zs) (hg : w.grownBy w' r) (hr : ∀ k, r = some k → base ≤ k) (hne : r ≠ some g) : Cur w' base g zs := by
  have hlt := cur_lt h
  obtain ⟨hb, hn, hz, a, cap, i, hh, hi, hw, hrd⟩ := h
  refine ⟨hb, hn, hz, a, cap, i, hh, hi, by rw [hg.block g hlt (fun e => hne e.symm)]; exact hw, ?_⟩
  rcases hrd with hrd | ⟨b, off, ha, hlt', hrd⟩
  · exact .inl hrd
  · refine .inr ⟨b, off, ha, hlt', fun k hk => ?_⟩
    refine hg.cell (hrd k hk) (fun e => ?_)
    have := hr b e.symm
    omega
theorem grown_own {w w1 w2 : World} {o : Obj} {g : Nat} {r : Option Nat} (h1 : w.grownBy w1 (some g)) (h2 : (w1.alloc o).grownBy w2 r) (hr : ∀ k, r = some k → w.heap.size ≤ k) : w.grownBy w2 (some g) := by
  have ha := World.grownBy_alloc w1 o none
  refine ⟨h2.os.trans h1.os, h2.tape.trans h1.tape, h2.output.trans h1.output, Nat.le_trans h1.size (Nat.le_trans ha.size h2.size), fun k hk hne => ?_⟩
  rw [h2.block k (Nat.lt_of_lt_of_le (Nat.lt_of_lt_of_le hk h1.size) ha.size) (fun e => by have := hr k e.symm; omega)]
  rw [ha.block k (Nat.lt_of_lt_of_le hk h1.size) (by simp)]
  exact h1.block k hk hne
theorem cur_alloc {w : World} {base g : Nat} {zs : List Int} (h : Cur w base g zs) (o : Obj) : Cur (w.alloc o) base g zs :=
  cur_grown h (World.grownBy_alloc w o none) (by simp) (by simp)

end Go.Proofs.YtijmocdkaabijaaGreatDoor

/-! What the functions that draw versions answer: contracts for the walks: a version in memory of its own, of no more than a few short texts; conditions: the code lies in memory as told. -/
namespace Go.Proofs.YtijmocdkaabijaaGreatDoor
open Go.RowKit
set_option linter.unusedSimpArgs false
set_option linter.unusedVariables false
attribute [local go_sem ↓] Go.wp_at_zero Go.wp_at_succ

theorem Four.ice {w : World} {N : Nat} {t : TypeId} {c0 c1 c2 c3 : Value} (h : Four w N t c0 c1 c2 c3) (j : Nat) : w.frozen? ⟨N, j, none⟩ = false := vblk_frozen h j

theorem four_put {w : World} {R : Nat} {t : TypeId} {c0 c1 c2 c3 : Value} (h : Four w R t c0 c1 c2 c3) (v : Value) :
    Four (w.setCell ⟨R, 0, none⟩ v) R t v c1 c2 c3 ∧ Four (w.setCell ⟨R, 1, none⟩ v) R t c0 v c2 c3 ∧ Four (w.setCell ⟨R, 2, none⟩ v) R t c0 c1 v c3 ∧ Four (w.setCell ⟨R, 3, none⟩ v) R t c0 c1 c2 v := by
  refine ⟨?_, ?_, ?_, ?_⟩ <;> (unfold Four at *; rw [heap_setCell_same w R _ _ t v h]; rfl)
theorem four_far {w : World} {R N j : Nat} {t : TypeId} {c0 c1 c2 c3 : Value} (h : Four w R t c0 c1 c2 c3) (hn : R ≠ N) (v : Value) : Four (w.setCell ⟨N, j, none⟩ v) R t c0 c1 c2 c3 := (Below.heap_setCell w ⟨N, j, none⟩ v R hn).trans h
theorem owns_put {w : World} {base N j : Nat} {e t : TypeId} {u : Value} {n : Nat} {xs : List Value} {c0 c1 c2 c3 : Value} (h : w.ownsRow base e 1 u n xs) (hF : Four w N t c0 c1 c2 c3) (hne : t ≠ e) (v : Value) : (w.setCell ⟨N, j, none⟩ v).ownsRow base e 1 u n xs := by
  obtain ⟨h1, h2⟩ := h
  refine ⟨h1, ?_⟩
  rcases h2 with h2 | ⟨g, cap, cur, a, b, c, d⟩
  · exact .inl h2
  · have hg : g ≠ N := fun e1 => by
      subst e1
      unfold Four at hF
      rw [c] at hF
      simp only [Option.some.injEq, Obj.cells.injEq] at hF
      exact hne hF.2.1.symm
    exact .inr ⟨g, cap, cur, a, b, by rw [Below.heap_setCell _ _ _ _ hg]; exact c, d⟩
theorem row_four {w : World} {base N : Nat} {e t : TypeId} {u : Value} {n : Nat} {xs : List Value} {c0 c1 c2 c3 : Value} (h : w.ownsRow base e 1 u n xs) (hF : Four w N t c0 c1 c2 c3) (hne : t ≠ e) : u.ownBlock ≠ some N := by
  rcases h.2 with ⟨rfl, _⟩ | ⟨g, cap, cur, rfl, b, c, d⟩
  · simp [Value.ownBlock]
  · intro e1
    simp only [Value.ownBlock, Option.some.injEq] at e1
    subst e1
    unfold Four at hF
    rw [c] at hF
    simp only [Option.some.injEq, Obj.cells.injEq] at hF
    exact hne hF.2.1.symm
theorem cur_put {w : World} {base g N j : Nat} {zs : List Int} (h : Cur w base g zs) (hb : base ≤ N) (hn : g ≠ N) (v : Value) : Cur (w.setCell ⟨N, j, none⟩ v) base g zs :=
  cur_grown h (grown_set w N j v) (fun k hk => by injection hk; omega) (fun e => by injection e; omega)
theorem grown_put {w0 w : World} {r : Option Nat} {N j : Nat} (h : w0.grownBy w r) (hN : w0.heap.size ≤ N) (v : Value) : w0.grownBy (w.setCell ⟨N, j, none⟩ v) r :=
  ⟨h.os, h.tape, h.output, by simpa [World.setCell] using h.size, fun k hk hne => (Below.heap_setCell w ⟨N, j, none⟩ v k (by simp; omega)).trans (h.block k hk hne)⟩
/-- A version that is stored whole. -/
theorem put_all {w0 w : World} {base g N : Nat} {zs : List Int} {e t : TypeId} {u : Value} {n : Nat} {xs : List Value} {c0 c1 c2 c3 : Value} {r : Option Nat} (hO : w.ownsRow w0.heap.size e 1 u n xs) (hF : Four w N t c0 c1 c2 c3) (hne : t ≠ e) (hc : Cur w base g zs) (hb : base ≤ N) (hgN : g ≠ N) (hG : w0.grownBy w r) (hN : w0.heap.size ≤ N) (v0 v1 v2 v3 : Value) :
    ((((w.setCell ⟨N, 0, none⟩ v0).setCell ⟨N, 1, none⟩ v1).setCell ⟨N, 2, none⟩ v2).setCell ⟨N, 3, none⟩ v3).ownsRow w0.heap.size e 1 u n xs ∧ Cur ((((w.setCell ⟨N, 0, none⟩ v0).setCell ⟨N, 1, none⟩ v1).setCell ⟨N, 2, none⟩ v2).setCell ⟨N, 3, none⟩ v3) base g zs ∧ w0.grownBy ((((w.setCell ⟨N, 0, none⟩ v0).setCell ⟨N, 1, none⟩ v1).setCell ⟨N, 2, none⟩ v2).setCell ⟨N, 3, none⟩ v3) r :=
  ⟨owns_put (owns_put (owns_put (owns_put hO hF hne v0) (four_put hF v0).1 hne v1) (four_put (four_put hF v0).1 v1).2.1 hne v2) (four_put (four_put (four_put hF v0).1 v1).2.1 v2).2.2.1 hne v3,
   cur_put (cur_put (cur_put (cur_put hc hb hgN v0) hb hgN v1) hb hgN v2) hb hgN v3, grown_put (grown_put (grown_put (grown_put hG hN v0) hN v1) hN v2) hN v3⟩

/-- What is drawn is small. -/
def smallP (n : Nat) (ps : List ByteArray) : Prop := ps.length ≤ n ∧ ∀ t ∈ ps, t.size ≤ 9
def pre1 : List ByteArray := [⟨#[48]⟩, ⟨#[49]⟩, ⟨#[49, 48]⟩, ⟨#[97]⟩, ⟨#[114, 99]⟩, ⟨#[98, 45, 49]⟩]
def pre2 : List ByteArray := [⟨#[48]⟩, ⟨#[50]⟩, ⟨#[120]⟩]
theorem pre1_small : ∀ t ∈ pre1, t.size ≤ 9 := by decide +kernel
theorem pre2_small : ∀ t ∈ pre2, t.size ≤ 9 := by decide +kernel

theorem grown_drewl {a b : World} {r : Option Nat} (h : a.drew.grownBy b r) : a.grownBy b r := ⟨h.os, h.tape, h.output, h.size, h.block⟩

theorem str_at (base g : Nat) (zs : List Int) (xs : List ByteArray) (w : World) (hc : Cur w base g zs) (hm : 0 < xs.length) (hm2 : xs.length ≤ 1048576) :
    Calls Tryz.prog 42 #[.pointer (some ⟨g, 0, none⟩), .slice (some ⟨w.heap.size, 0, none⟩) xs.length xs.length] (w.alloc (.cells (xs.map Value.string).toArray 9)) fun e w' => ∃ t, t ∈ xs ∧ e = .returned (.string t) ∧ Cur w' base g zs ∧ (w.alloc (.cells (xs.map Value.string).toArray 9)).grownBy w' (some g) :=
  str_c base g zs w.heap.size xs.length xs _ (cur_alloc hc _) hm hm2 (by have := cur_lt hc; omega) (lit_strs w xs)

theorem str_at_d (base g : Nat) (zs : List Int) (xs : List ByteArray) (w : World) (hc : Cur w base g zs) (hm : 0 < xs.length) (hm2 : xs.length ≤ 1048576) :
    Calls Tryz.prog 42 #[.pointer (some ⟨g, 0, none⟩), .slice (some ⟨w.heap.size, 0, none⟩) xs.length xs.length] (w.alloc (.cells (xs.map Value.string).toArray 9)).drew fun e w' => ∃ t, t ∈ xs ∧ e = .returned (.string t) ∧ Cur w' base g zs ∧ (w.alloc (.cells (xs.map Value.string).toArray 9)).drew.grownBy w' (some g) :=
  str_at base g zs xs w.drew hc hm hm2

/-- A drawn version: its numbers are at most 2. -/
def small3 (a b c : Int) (ps : List ByteArray) : Prop := smallP 2 ps ∧ (0 ≤ a ∧ a ≤ 2) ∧ (0 ≤ b ∧ b ≤ 2) ∧ (0 ≤ c ∧ c ≤ 2)

set_option maxHeartbeats 4000000 in
set_option maxRecDepth 100000 in
theorem draw3_c (base g : Nat) (zs : List Int) (w : World) (hc : Cur w base g zs) (hbw : base ≤ w.heap.size) :
    Calls Tryz.prog 17 #[.pointer (some ⟨g, 0, none⟩)] w fun e w' => ∃ (a b c : Int) (u : Value) (ps : List ByteArray), e = .returned (.agg #[.int .i64 a, .int .i64 b, .int .i64 c, u]) ∧ w'.ownsRow w.heap.size 9 1 u ps.length (strsV ps) ∧ small3 a b c ps ∧ Cur w' base g zs ∧ w.grownBy w' (some g) := by
  obtain ⟨i0, hi, hz0, hz1, hz2⟩ := info_parts infoS
  have hlt := cur_lt hc
  have A0 := four_new w 26 (.int .i64 0) (.int .i64 0) (.int .i64 0) (.slice none 0 0)
  have g0 := World.grownBy_alloc w (.cells #[.int .i64 0, .int .i64 0, .int .i64 0, .slice none 0 0] 26) (some g)
  have c0 := cur_alloc hc (.cells #[.int .i64 0, .int .i64 0, .int .i64 0, .slice none 0 0] 26)
  go_enter Tryz.func17, Tryz.ntmps17
  go_wp2_with fail
  go_at_call 40
  refine (below_c base g zs 3 _ c0).mono ?_
  rintro e w1 ⟨a, rfl, ha, c1, g1⟩
  go_wp2_with fail
  go_at_call 40
  refine (below_c base g zs 3 _ c1).mono ?_
  rintro e w2 ⟨b, rfl, hb, c2, g2⟩
  go_wp2_with fail
  go_at_call 40
  refine (below_c base g zs 3 _ c2).mono ?_
  rintro e w3 ⟨c, rfl, hcc, c3, g3⟩
  have hne : (some g) ≠ some w.heap.size := by simp; omega
  have A3 := ((A0.turned g1 hne).turned g2 hne).turned g3 hne
  have G3 := grown_trans (grown_trans (grown_trans g0 g1) g2) g3
  have l3 := cur_lt c3
  have lA3 := A3.lt
  have HIN : Hid ((0 ≤ (a : Int) ∧ (a : Int) ≤ 2) ∧ (0 ≤ (b : Int) ∧ (b : Int) ≤ 2) ∧ (0 ≤ (c : Int) ∧ (c : Int) ≤ 2)) := by have := ha (by omega); have := hb (by omega); have := hcc (by omega); exact ⟨⟨by omega, by omega⟩, ⟨by omega, by omega⟩, by omega, by omega⟩
  clear A0 g0 c0 g1 g2 g3 c1 c2 ha hb hcc
  have B4 := four_new w3 26 (.int .i64 (a : Int)) (.int .i64 (b : Int)) (.int .i64 (c : Int)) (.slice none 0 0)
  have A4 := four_old A3 (.cells #[.int .i64 (a : Int), .int .i64 (b : Int), .int .i64 (c : Int), .slice none 0 0] 26)
  have c4 := cur_alloc c3 (.cells #[.int .i64 (a : Int), .int .i64 (b : Int), .int .i64 (c : Int), .slice none 0 0] 26)
  have G4 := grown_trans G3 (World.grownBy_alloc w3 (.cells #[.int .i64 (a : Int), .int .i64 (b : Int), .int .i64 (c : Int), .slice none 0 0] 26) (some g))
  have hneV : (some g) ≠ some w3.heap.size := by simp; omega
  go_wp2_with fail
  go_at_call 41
  refine (once_c base g zs 3 _ c4).mono ?_
  rintro e w5 ⟨o1, rfl, c5, g5⟩
  have A5 := A4.turned g5 hne
  have B5 := B4.turned g5 hneV
  have G5 := grown_trans G4 g5
  obtain ⟨V, hV⟩ : ∃ V, V = w3.heap.size := ⟨_, rfl⟩
  have lVA : w.heap.size < V := by omega
  rw [← hV] at B5 hneV ⊢
  clear A4 B4 c4 G4 g5 A3 G3 c3 l3 lA3 hV
  obtain ⟨x0, x1, x2, x3⟩ := A5.cells
  have fx := A5.ice
  obtain ⟨y0, y1, y2, y3⟩ := B5.cells
  have fy := B5.ice
  have lV := B5.lt
  go_upto_if 12 with (fail)
  go_cut [] (fun wc => ∃ (u : Value) (ps : List ByteArray), wc.ownsRow w.heap.size 9 1 u ps.length (strsV ps) ∧ smallP 2 ps ∧ Four wc V 26 (.int .i64 (a : Int)) (.int .i64 (b : Int)) (.int .i64 (c : Int)) u ∧ Four wc w.heap.size 26 (.int .i64 0) (.int .i64 0) (.int .i64 0) (.slice none 0 0) ∧ Cur wc base g zs ∧ w.grownBy wc (some g))
  case rest =>
    obtain ⟨u, ps, hO, hS, hB, hA, hC, hG⟩ := hcut
    clear x0 x1 x2 x3 y0 y1 y2 y3 fx fy A5 B5 c5 G5 lV
    obtain ⟨x0, x1, x2, x3⟩ := hA.cells
    have fx := hA.ice
    obtain ⟨y0, y1, y2, y3⟩ := hB.cells
    obtain ⟨q, n, cap, rfl⟩ : ∃ q n cap, u = .slice q n cap := by rcases hO.2 with ⟨rfl, _⟩ | ⟨g, cap, cur, rfl, _⟩ <;> exact ⟨_, _, _, rfl⟩
    have lA := hA.lt
    go_wp2_with fail
    refine bodyPost_ret (v := .agg #[.int .i64 a, .int .i64 b, .int .i64 c, .slice q n cap]) (by simp [results, Tryz.results17, go_sem, x0, x1, x2, x3]) rfl ⟨a, b, c, _, ps, rfl, ?_, ⟨hS, HIN.out⟩, ?_, ?_⟩
    · exact (put_all hO hA (by decide) hC hbw (by omega) hG (Nat.le_refl _) _ _ _ _).1
    · exact (put_all hO hA (by decide) hC hbw (by omega) hG (Nat.le_refl _) _ _ _ _).2.1
    · exact (put_all hO hA (by decide) hC hbw (by omega) hG (Nat.le_refl _) _ _ _ _).2.2
  case first =>
    cases o1 with
    | false =>
      go_wp2_with fail
      go_meet
      case rel => exact ⟨_, [], World.ownsRow_nil _ _ _ _, ⟨by simp, by simp⟩, B5, A5, c5, G5⟩
    | true =>
      have HS1 := str_at_d base g zs pre1 w5 c5 (by decide) (by decide)
      go_wp2_with fail
      go_cut [] (fun wc => ∃ (gg cap : Nat) (t : ByteArray), t.size ≤ 9 ∧ wc.ownsRow w.heap.size 9 1 (.slice (some ⟨gg, 0, none⟩) 1 cap) 1 (strsV [t]) ∧ Four wc V 26 (.int .i64 (a : Int)) (.int .i64 (b : Int)) (.int .i64 (c : Int)) (.slice (some ⟨gg, 0, none⟩) 1 cap) ∧ Four wc w.heap.size 26 (.int .i64 0) (.int .i64 0) (.int .i64 0) (.slice none 0 0) ∧ Cur wc base g zs ∧ w.grownBy wc (some g))
      case first =>
        go_region_law (first
          | (go_simp; go_at_call 42
             refine HS1.mono ?_
             rintro e w6 ⟨t, ht, rfl, c6, g6⟩
             have B6 := (four_old B5 (.cells (pre1.map Value.string).toArray 9)).drew.turned g6 hneV
             have A6 := (four_old A5 (.cells (pre1.map Value.string).toArray 9)).drew.turned g6 hne
             obtain ⟨z0, z1, z2, z3⟩ := B6.cells
             have fz := B6.ice
             have lz := B6.lt
             have G6 : w.grownBy w6 (some g) := grown_trans (grown_trans G5 (World.grownBy_alloc w5 (.cells (pre1.map Value.string).toArray 9) (some g))) (grown_drewl g6)
             have hb6 : w.heap.size ≤ (w6.alloc (.cells #[.string t] 9)).heap.size := by have := G6.size; simp; omega
             have hnil : (w6.alloc (.cells #[.string t] 9)).ownsRow w.heap.size 9 1 (.slice none 0 0) 0 [] := World.ownsRow_nil _ _ _ _
             have HN : Hid (∀ j u, (strsV [t])[j]? = some u → (w6.alloc (.cells #[.string t] 9)).cell? ((⟨w6.heap.size, 0, none⟩ : Addr).add j) = some u) := cell_one_new _ _ _)
          | ((refine step_append_lies _ (by rfl) _ _ _ (by rfl) w.heap.size 9 i0 _ 1 16 Tryz.underlying24 hi hz0 hz1 hz2 rfl (by omega) (.slice none 0 0) 0 [] (by rfl) hnil ⟨w6.heap.size, 0, none⟩ 1 1 (strsV [t]) (by rfl) (by rfl) HN.out (fun u hu => by simp [strsV] at hu; subst hu; rfl) (by omega) (by unfold maxLen; omega) (by omega) hb6 (w6.heap.size + 1) (by simp) ?_; intro gg cap w7 hown7 hgrow hat hlt7; have B7 := (four_old B6 (.cells #[.string t] 9)).turned hgrow (by simp [Value.ownBlock]); have A7 := (four_old A6 (.cells #[.string t] 9)).turned hgrow (by simp [Value.ownBlock]); have G7 : w.grownBy w7 (some g) := grown_own G6 hgrow (by simp [Value.ownBlock]); have c7 := cur_grown (cur_alloc c6 (.cells #[.string t] 9)) hgrow (by simp [Value.ownBlock]) (by simp [Value.ownBlock]); obtain ⟨k0, k1, k2, k3⟩ := B7.cells; have fk := B7.ice)))
        all_goals go_wp2_with fail
        all_goals go_meet
        all_goals exact ⟨gg, cap, t, pre1_small t ht, by simpa using owns_put (j := 3) hown7 B7 (by decide) (.slice (some ⟨gg, 0, none⟩) 1 cap), (four_put B7 (.slice (some ⟨gg, 0, none⟩) 1 cap)).2.2.2, four_far A7 (by omega) _, cur_put c7 (by omega) (fun e => hneV (by rw [e])) _, grown_put G7 (by omega) _⟩
      case rest =>
        obtain ⟨gg, cap, t, hts, hO, hB, hA, hC, hG⟩ := hcut
        clear x0 x1 x2 x3 y0 y1 y2 y3 fx fy A5 B5 c5 G5 lV HS1
        go_wp2_with fail
        go_at_call 41
        refine (once_c base g zs 3 _ hC).mono ?_
        rintro e w8 ⟨o2, rfl, c8, g8⟩
        have hrow : Value.ownBlock (.slice (some ⟨gg, 0, none⟩) 1 cap) ≠ some g := fun h => by have := (hO.lt g h).1; omega
        have O8 := hO.kept g8 (.inr hrow)
        have A8 := hA.turned g8 hne
        have B8 := hB.turned g8 hneV
        have G8 := grown_trans hG g8
        clear hO hA hB hC hG g8
        obtain ⟨y0, y1, y2, y3⟩ := B8.cells
        have fy := B8.ice
        have lV := B8.lt
        cases o2 with
        | false =>
          go_wp2_with fail
          go_meet
          case rel => exact ⟨_, [t], by simpa using O8, ⟨by simp, by simpa using hts⟩, B8, A8, c8, G8⟩
        | true =>
          have HS2 := str_at_d base g zs pre2 w8 c8 (by decide) (by decide)
          go_wp2_with fail
          go_region_law (first
            | (go_simp; go_at_call 42
               refine HS2.mono ?_
               rintro e w9 ⟨t2, ht2, rfl, c9, g9⟩
               have B9 := (four_old B8 (.cells (pre2.map Value.string).toArray 9)).drew.turned g9 hneV
               have A9 := (four_old A8 (.cells (pre2.map Value.string).toArray 9)).drew.turned g9 hne
               have O9 := ((O8.alloc (.cells (pre2.map Value.string).toArray 9)).drew).kept g9 (.inr hrow)
               obtain ⟨z0, z1, z2, z3⟩ := B9.cells
               have fz := B9.ice
               have lz := B9.lt
               have G9 : w.grownBy w9 (some g) := grown_trans (grown_trans G8 (World.grownBy_alloc w8 (.cells (pre2.map Value.string).toArray 9) (some g))) (grown_drewl g9)
               have hb9 : w.heap.size ≤ (w9.alloc (.cells #[.string t2] 9)).heap.size := by have := G9.size; simp; omega
               have hown := O9.alloc (.cells #[.string t2] 9)
               have HN : Hid (∀ j u, (strsV [t2])[j]? = some u → (w9.alloc (.cells #[.string t2] 9)).cell? ((⟨w9.heap.size, 0, none⟩ : Addr).add j) = some u) := cell_one_new _ _ _
               have hgb : ∀ k, Value.ownBlock (.slice (some ⟨gg, 0, none⟩) 1 cap) = some k → w.heap.size ≤ k := fun k hk => (O9.lt k hk).1
               have hgV : Value.ownBlock (.slice (some ⟨gg, 0, none⟩) 1 cap) ≠ some V := row_four O9 B9 (by decide)
               have hgN : Value.ownBlock (.slice (some ⟨gg, 0, none⟩) 1 cap) ≠ some w.heap.size := row_four O9 A9 (by decide))
            | ((refine step_append_lies _ (by rfl) _ _ _ (by rfl) w.heap.size 9 i0 _ 1 16 Tryz.underlying24 hi hz0 hz1 hz2 rfl (by omega) (.slice (some ⟨gg, 0, none⟩) 1 cap) 1 (strsV [t]) (by rfl) hown ⟨w9.heap.size, 0, none⟩ 1 1 (strsV [t2]) (by rfl) (by rfl) HN.out (fun u hu => by simp [strsV] at hu; subst hu; rfl) (by omega) (by unfold maxLen; omega) (by omega) hb9 (w9.heap.size + 1) (by simp) ?_; intro gg2 cap2 wA hownA hgrow hat hltA; have BA := (four_old B9 (.cells #[.string t2] 9)).turned hgrow hgV; have AA := (four_old A9 (.cells #[.string t2] 9)).turned hgrow hgN; have GA : w.grownBy wA (some g) := grown_own G9 hgrow hgb; have cA := cur_grown (cur_alloc c9 (.cells #[.string t2] 9)) hgrow (fun k hk => Nat.le_trans hbw (hgb k hk)) hrow; obtain ⟨k0, k1, k2, k3⟩ := BA.cells; have fk := BA.ice)))
          all_goals go_wp2_with fail
          all_goals go_meet
          all_goals exact ⟨.slice (some ⟨gg2, 0, none⟩) 2 cap2, [t, t2], by simpa [strsV] using owns_put (j := 3) hownA BA (by decide) (.slice (some ⟨gg2, 0, none⟩) 2 cap2), ⟨by simp, by simpa using ⟨hts, pre2_small t2 ht2⟩⟩, (four_put BA (.slice (some ⟨gg2, 0, none⟩) 2 cap2)).2.2.2, four_far AA (by omega) _, cur_put cA (by omega) (fun e => hneV (by rw [e])) _, grown_put GA (by omega) _⟩

theorem draw_c (base g : Nat) (zs : List Int) (w : World) (hc : Cur w base g zs) (hbw : base ≤ w.heap.size) :
    Calls Tryz.prog 17 #[.pointer (some ⟨g, 0, none⟩)] w fun e w' => ∃ (a b c : Int) (u : Value) (ps : List ByteArray), e = .returned (.agg #[.int .i64 a, .int .i64 b, .int .i64 c, u]) ∧ w'.ownsRow w.heap.size 9 1 u ps.length (strsV ps) ∧ smallP 2 ps ∧ Cur w' base g zs ∧ w.grownBy w' (some g) :=
  (draw3_c base g zs w hc hbw).mono fun e w' ⟨a, b, c, u, ps, h1, h2, h3, h4, h5⟩ => ⟨a, b, c, u, ps, h1, h2, h3.1, h4, h5⟩
end Go.Proofs.YtijmocdkaabijaaGreatDoor

/-! What the function that draws any version answers: a contract for the walks: a version in memory of its own, of no more than four short texts; conditions: the code lies in memory as told. -/
namespace Go.Proofs.YtijmocdkaabijaaGreatDoor
open Go.RowKit
set_option linter.unusedSimpArgs false
set_option linter.unusedVariables false
attribute [local go_sem ↓] Go.wp_at_zero Go.wp_at_succ

def bentInts : List Int := [-1, 9999, 10000]
def cutInts : List Int := [3, 4]
def bentPre : List ByteArray := [⟨#[]⟩, ⟨#[48, 49]⟩, ⟨#[110, 105, 110, 101, 45, 98, 121, 116, 101]⟩, ⟨#[97, 95]⟩, ⟨#[48, 48]⟩, ⟨#[101, 105, 103, 104, 116, 45, 98, 121]⟩]
def abcd : List ByteArray := [⟨#[97]⟩, ⟨#[98]⟩, ⟨#[99]⟩, ⟨#[100]⟩]
theorem bentPre_small : ∀ t ∈ bentPre, t.size ≤ 9 := by decide +kernel
theorem abcd_small : ∀ t ∈ abcd, t.size ≤ 9 := by decide +kernel

theorem own_lower {w : World} {base base' : Nat} {e : TypeId} {v : Value} {n : Nat} {xs : List Value} (h : w.ownsRow base e 1 v n xs) (hb : base' ≤ base) : w.ownsRow base' e 1 v n xs := by
  obtain ⟨h1, h2⟩ := h
  refine ⟨h1, ?_⟩
  rcases h2 with h2 | ⟨g, cap, cur, a, b, c⟩
  · exact .inl h2
  · exact .inr ⟨g, cap, cur, a, Nat.le_trans hb b, c⟩
theorem small_more {ps : List ByteArray} (h : smallP 2 ps) : smallP 4 ps := ⟨by have := h.1; omega, h.2⟩
theorem small_snoc {ps : List ByteArray} {t : ByteArray} (h : smallP 2 ps) (ht : t.size ≤ 9) : smallP 4 (ps ++ [t]) := ⟨by have := h.1; simp; omega, fun x hx => by
  rcases List.mem_append.1 hx with h1 | h1
  · exact h.2 x h1
  · simp at h1; subst h1; exact ht⟩
theorem row_take {w : World} {base : Nat} {e : TypeId} {g n k cap : Nat} {xs : List Value} (h : w.ownsRow base e 1 (.slice (some ⟨g, 0, none⟩) n cap) n xs) (hk : k ≤ n) : w.ownsRow base e 1 (.slice (some ⟨g, 0, none⟩) k cap) k (xs.take k) := by
  have hl := h.1
  rcases h.2 with ⟨h, _⟩ | ⟨g', cap', cur, hv, hb, hg, hn, hc, hs, ht⟩
  · cases h
  · cases hv
    refine ⟨by simp; omega, .inr ⟨g, cap, cur, rfl, hb, hg, by omega, hc, hs, ?_⟩⟩
    rw [← ht, List.take_take, Nat.mul_one, Nat.mul_one, Nat.min_eq_left hk]

end Go.Proofs.YtijmocdkaabijaaGreatDoor

/-! What the functions that copy and draw versions answer: contracts for the walks; conditions: what comes in lies in memory as told. -/
namespace Go.Proofs.YtijmocdkaabijaaGreatDoor
open Go.RowKit
set_option linter.unusedSimpArgs false
set_option linter.unusedVariables false
attribute [local go_sem ↓] Go.wp_at_zero Go.wp_at_succ

theorem four_put4 {w : World} {R N : Nat} {t : TypeId} {c0 c1 c2 c3 : Value} (h : Four w R t c0 c1 c2 c3) (hn : R ≠ N) (v0 v1 v2 v3 : Value) : Four ((((w.setCell ⟨N, 0, none⟩ v0).setCell ⟨N, 1, none⟩ v1).setCell ⟨N, 2, none⟩ v2).setCell ⟨N, 3, none⟩ v3) R t c0 c1 c2 c3 :=
  four_far (four_far (four_far (four_far h hn v0) hn v1) hn v2) hn v3
theorem owns_put4 {w : World} {base N : Nat} {e t : TypeId} {u : Value} {n : Nat} {xs : List Value} {c0 c1 c2 c3 : Value} (hO : w.ownsRow base e 1 u n xs) (hF : Four w N t c0 c1 c2 c3) (hne : t ≠ e) (v0 v1 v2 v3 : Value) :
    ((((w.setCell ⟨N, 0, none⟩ v0).setCell ⟨N, 1, none⟩ v1).setCell ⟨N, 2, none⟩ v2).setCell ⟨N, 3, none⟩ v3).ownsRow base e 1 u n xs :=
  owns_put (owns_put (owns_put (owns_put hO hF hne v0) (four_put hF v0).1 hne v1) (four_put (four_put hF v0).1 v1).2.1 hne v2) (four_put (four_put (four_put hF v0).1 v1).2.1 v2).2.2.1 hne v3
theorem below_put4 {B : Nat} {w0 w : World} {N : Nat} (h : Below B w0 w) (hN : B ≤ N) (v0 v1 v2 v3 : Value) : Below B w0 ((((w.setCell ⟨N, 0, none⟩ v0).setCell ⟨N, 1, none⟩ v1).setCell ⟨N, 2, none⟩ v2).setCell ⟨N, 3, none⟩ v3) :=
  (((h.setCell (by simpa using hN) _).setCell (by simpa using hN) _).setCell (by simpa using hN) _).setCell (by simpa using hN) _

theorem four_three (w : World) (t : TypeId) (a0 a1 a2 a3 b0 b1 b2 b3 c0 c1 c2 c3 : Value) : Four (((w.alloc (.cells #[a0, a1, a2, a3] t)).alloc (.cells #[b0, b1, b2, b3] t)).alloc (.cells #[c0, c1, c2, c3] t)) w.heap.size t a0 a1 a2 a3 ∧ Four (((w.alloc (.cells #[a0, a1, a2, a3] t)).alloc (.cells #[b0, b1, b2, b3] t)).alloc (.cells #[c0, c1, c2, c3] t)) (w.heap.size + 1) t b0 b1 b2 b3 ∧ Four (((w.alloc (.cells #[a0, a1, a2, a3] t)).alloc (.cells #[b0, b1, b2, b3] t)).alloc (.cells #[c0, c1, c2, c3] t)) (w.heap.size + 1 + 1) t c0 c1 c2 c3 := by
  obtain ⟨h1, h2⟩ := four_two w t t a0 a1 a2 a3 b0 b1 b2 b3
  refine ⟨four_old h1 _, four_old h2 _, ?_⟩
  have h := four_new ((w.alloc (.cells #[a0, a1, a2, a3] t)).alloc (.cells #[b0, b1, b2, b3] t)) t c0 c1 c2 c3
  have s2 : ∀ o o', ((w.alloc o).alloc o').heap.size = w.heap.size + 1 + 1 := fun o o' => by simp
  rw [s2] at h
  exact h

end Go.Proofs.YtijmocdkaabijaaGreatDoor

/-! What the functions that draw for FnVers answer: contracts for the walks; conditions: what comes in lies in memory as told. -/
namespace Go.Proofs.YtijmocdkaabijaaGreatDoor
open Go.RowKit
set_option linter.unusedSimpArgs false
set_option linter.unusedVariables false
attribute [local go_sem ↓] Go.wp_at_zero Go.wp_at_succ

/-- Three versions that are answered. -/
def ThreeOut (w : World) (e : Ending) (w' : World) : Prop :=
  ∃ (a1 a2 a3 : Int) (u : Value) (pa : List ByteArray) (b1 b2 b3 : Int) (u' : Value) (pb : List ByteArray) (c1 c2 c3 : Int) (u'' : Value) (pc : List ByteArray), e = .returned (.tuple #[.agg #[.int .i64 a1, .int .i64 a2, .int .i64 a3, u], .agg #[.int .i64 b1, .int .i64 b2, .int .i64 b3, u'], .agg #[.int .i64 c1, .int .i64 c2, .int .i64 c3, u'']]) ∧ Reads w' u (strsV pa) ∧ Reads w' u' (strsV pb) ∧ Reads w' u'' (strsV pc) ∧ smallP 2 pa ∧ smallP 2 pb ∧ smallP 2 pc ∧ Below w.heap.size w w'

/-- .. the numbers of the first two being at most 2. -/
def ThreeOut3 (w : World) (e : Ending) (w' : World) : Prop :=
  ∃ (a1 a2 a3 : Int) (u : Value) (pa : List ByteArray) (b1 b2 b3 : Int) (u' : Value) (pb : List ByteArray) (c1 c2 c3 : Int) (u'' : Value) (pc : List ByteArray), e = .returned (.tuple #[.agg #[.int .i64 a1, .int .i64 a2, .int .i64 a3, u], .agg #[.int .i64 b1, .int .i64 b2, .int .i64 b3, u'], .agg #[.int .i64 c1, .int .i64 c2, .int .i64 c3, u'']]) ∧ Reads w' u (strsV pa) ∧ Reads w' u' (strsV pb) ∧ Reads w' u'' (strsV pc) ∧ small3 a1 a2 a3 pa ∧ small3 b1 b2 b3 pb ∧ smallP 2 pc ∧ Below w.heap.size w w'

theorem four_self' {w : World} {R : Nat} {t : TypeId} {c0 c1 c2 c3 : Value} (h : Four w R t c0 c1 c2 c3) (v0 v1 v2 v3 : Value) : Four ((((w.setCell ⟨R, 0, none⟩ v0).setCell ⟨R, 1, none⟩ v1).setCell ⟨R, 2, none⟩ v2).setCell ⟨R, 3, none⟩ v3) R t v0 v1 v2 v3 :=
  (four_put (four_put (four_put (four_put h v0).1 v1).2.1 v2).2.2.1 v3).2.2.2

set_option maxHeartbeats 4000000 in
set_option maxRecDepth 100000 in
theorem drawVers3_c (v : Value) (zs : List Int) (w : World) (hr : Reads w v (bytesV zs)) (hn : zs.length ≤ 1048576) (hz : ∀ z ∈ zs, 0 ≤ z ∧ z ≤ 255) :
    Calls Tryz.prog 6 #[v] w (ThreeOut3 w) := by
  have kW : Below w.heap.size w (((w.alloc (.cells #[.int .i64 0, .int .i64 0, .int .i64 0, .slice none 0 0] 26)).alloc (.cells #[.int .i64 0, .int .i64 0, .int .i64 0, .slice none 0 0] 26)).alloc (.cells #[.int .i64 0, .int .i64 0, .int .i64 0, .slice none 0 0] 26)) := (((Below.refl _ _).alloc (Nat.le_refl _) _).alloc (by simp) _).alloc (by simp; omega) _
  obtain ⟨A0, B0, C0⟩ := four_three w 26 (.int .i64 0) (.int .i64 0) (.int .i64 0) (.slice none 0 0) (.int .i64 0) (.int .i64 0) (.int .i64 0) (.slice none 0 0) (.int .i64 0) (.int .i64 0) (.int .i64 0) (.slice none 0 0)
  have hs0 : (((w.alloc (.cells #[.int .i64 0, .int .i64 0, .int .i64 0, .slice none 0 0] 26)).alloc (.cells #[.int .i64 0, .int .i64 0, .int .i64 0, .slice none 0 0] 26)).alloc (.cells #[.int .i64 0, .int .i64 0, .int .i64 0, .slice none 0 0] 26)).heap.size = w.heap.size + 1 + 1 + 1 := by simp
  have HN := new_c v zs _ (hr.below kW) hn hz
  obtain ⟨qv, cv, hv, _, _⟩ := reads_bytes hr
  subst hv
  clear hr
  go_enter Tryz.func6, Tryz.ntmps6
  go_wp2_with fail
  go_at_call 16
  refine HN.mono ?_
  rintro e w1 ⟨g, rfl, c1, b1⟩
  have A1 := A0.keep b1
  have B1 := B0.keep b1
  have C1 := C0.keep b1
  have k1 := kW.trans (b1.mono kW.size)
  rw [hs0] at c1
  have hg : w.heap.size + 1 + 1 + 1 ≤ g := c1.1
  have l1 := cur_lt c1
  have hgA : (some g) ≠ some w.heap.size := by simp; omega
  have hgB : (some g) ≠ some (w.heap.size + 1) := by simp; omega
  have hgC : (some g) ≠ some (w.heap.size + 1 + 1) := by simp; omega
  have hrg : ∀ k, (some g) = some k → w.heap.size ≤ k := fun k hk => by injection hk; omega
  clear A0 B0 C0 HN b1 hs0 kW
  go_wp2_with fail
  go_at_call 17
  refine (draw3_c (w.heap.size + 1 + 1 + 1) g zs w1 c1 (by omega)).mono ?_
  rintro e w2 ⟨a1, a2, a3, u, pa, rfl, o2, sa, c2, g2⟩
  have A2 := A1.turned g2 hgA
  have B2 := B1.turned g2 hgB
  have C2 := C1.turned g2 hgC
  have k2 := below_turned k1 g2 k1.size hrg
  obtain ⟨qa, na, ca, hu⟩ : ∃ q n cap, u = .slice q n cap := by rcases o2.2 with ⟨rfl, _⟩ | ⟨g, cap, cur, rfl, _⟩ <;> exact ⟨_, _, _, rfl⟩
  subst hu
  have l2 := cur_lt c2
  have hra : Value.ownBlock (.slice qa na ca) ≠ some g := fun h => by have := (o2.lt g h).1; omega
  have o2' := own_lower o2 (base' := w.heap.size) (by omega)
  have o3 := o2'.alloc (.cells #[.int .i64 a1, .int .i64 a2, .int .i64 a3, .slice qa na ca] 26)
  have A3 := four_old A2 (.cells #[.int .i64 a1, .int .i64 a2, .int .i64 a3, .slice qa na ca] 26)
  have B3 := four_old B2 (.cells #[.int .i64 a1, .int .i64 a2, .int .i64 a3, .slice qa na ca] 26)
  have C3 := four_old C2 (.cells #[.int .i64 a1, .int .i64 a2, .int .i64 a3, .slice qa na ca] 26)
  have P3 := four_new w2 26 (.int .i64 a1) (.int .i64 a2) (.int .i64 a3) (.slice qa na ca)
  have c3' := cur_alloc c2 (.cells #[.int .i64 a1, .int .i64 a2, .int .i64 a3, .slice qa na ca] 26)
  have k3 := k2.alloc k2.size (.cells #[.int .i64 a1, .int .i64 a2, .int .i64 a3, .slice qa na ca] 26)
  have hgP : (some g) ≠ some w2.heap.size := by simp; omega
  have lC2 := C2.lt
  clear A1 B1 C1 c1 g2 k1 o2 A2 B2 C2 k2 c2 o2' l1
  go_wp2_with fail
  go_at_call 17
  refine (draw3_c (w.heap.size + 1 + 1 + 1) g zs _ c3' (by simp; omega)).mono ?_
  rintro e w4 ⟨b1, b2, b3, u', pb, rfl, o4, sb, c4, g4⟩
  obtain ⟨Ba, hBa⟩ : ∃ Ba, Ba = w2.heap.size := ⟨_, rfl⟩
  have lBa : w.heap.size + 1 + 1 < Ba := by omega
  rw [← hBa] at P3 hgP ⊢
  have A4 := A3.turned g4 hgA
  have B4 := B3.turned g4 hgB
  have C4 := C3.turned g4 hgC
  have P4 := P3.turned g4 hgP
  have oa4 := o3.kept g4 (.inr hra)
  have k4 := below_turned k3 g4 k3.size hrg
  obtain ⟨qb, nb, cb, hu⟩ : ∃ q n cap, u' = .slice q n cap := by rcases o4.2 with ⟨rfl, _⟩ | ⟨g, cap, cur, rfl, _⟩ <;> exact ⟨_, _, _, rfl⟩
  subst hu
  have hrb : Value.ownBlock (.slice qb nb cb) ≠ some g := fun h => by have := (o4.lt g h).1; simp at this; omega
  have ob4 := own_lower o4 (base' := w.heap.size) (by simp; omega)
  have l4 := cur_lt c4
  have lP4 := P4.lt
  have hgQ : (some g) ≠ some w4.heap.size := by simp; omega
  have A5 := four_old A4 (.cells #[.int .i64 b1, .int .i64 b2, .int .i64 b3, .slice qb nb cb] 26)
  have B5 := four_old B4 (.cells #[.int .i64 b1, .int .i64 b2, .int .i64 b3, .slice qb nb cb] 26)
  have C5 := four_old C4 (.cells #[.int .i64 b1, .int .i64 b2, .int .i64 b3, .slice qb nb cb] 26)
  have P5 := four_old P4 (.cells #[.int .i64 b1, .int .i64 b2, .int .i64 b3, .slice qb nb cb] 26)
  have Q5 := four_new w4 26 (.int .i64 b1) (.int .i64 b2) (.int .i64 b3) (.slice qb nb cb)
  have oa5 := oa4.alloc (.cells #[.int .i64 b1, .int .i64 b2, .int .i64 b3, .slice qb nb cb] 26)
  have ob5 := ob4.alloc (.cells #[.int .i64 b1, .int .i64 b2, .int .i64 b3, .slice qb nb cb] 26)
  have c5 := cur_alloc c4 (.cells #[.int .i64 b1, .int .i64 b2, .int .i64 b3, .slice qb nb cb] 26)
  have k5 := k4.alloc k4.size (.cells #[.int .i64 b1, .int .i64 b2, .int .i64 b3, .slice qb nb cb] 26)
  have hDR := draw_c (w.heap.size + 1 + 1 + 1) g zs (w4.alloc (.cells #[.int .i64 b1, .int .i64 b2, .int .i64 b3, .slice qb nb cb] 26)).drew c5 (by simp; omega)
  have hs5 : (w4.alloc (.cells #[.int .i64 b1, .int .i64 b2, .int .i64 b3, .slice qb nb cb] 26)).heap.size = w4.heap.size + 1 := by simp
  clear A3 B3 C3 P3 o3 c3' k3 g4 o4 A4 B4 C4 P4 oa4 ob4 c4 k4 hBa l2
  go_wp2_with fail
  obtain ⟨Bb, hBb⟩ : ∃ Bb, Bb = w4.heap.size := ⟨_, rfl⟩
  have lBb : Ba < Bb := by omega
  generalize (w4.alloc (.cells #[.int .i64 b1, .int .i64 b2, .int .i64 b3, .slice qb nb cb] 26)) = W5 at A5 B5 C5 P5 Q5 oa5 ob5 c5 k5 hDR hs5 ⊢
  rw [← hBb] at Q5 hgQ hs5 ⊢
  have HDR : Hid (Calls Tryz.prog 17 #[.pointer (some ⟨g, 0, none⟩)] W5.drew fun e w' => ∃ (a b c : Int) (u : Value) (ps : List ByteArray), e = .returned (.agg #[.int .i64 a, .int .i64 b, .int .i64 c, u]) ∧ w'.ownsRow W5.drew.heap.size 9 1 u ps.length (strsV ps) ∧ smallP 2 ps ∧ Cur w' (w.heap.size + 1 + 1 + 1) g zs ∧ W5.drew.grownBy w' (some g)) := hDR
  clear hBb hDR
  have nA : Ba ≠ w.heap.size := by omega
  have nB : Ba ≠ w.heap.size + 1 := by omega
  have nC : Ba ≠ w.heap.size + 1 + 1 := by omega
  have mA : Bb ≠ w.heap.size := by omega
  have mB : Bb ≠ w.heap.size + 1 := by omega
  have mC : Bb ≠ w.heap.size + 1 + 1 := by omega
  have nA' : w.heap.size ≠ Ba := by omega
  have nB' : w.heap.size + 1 ≠ Ba := by omega
  have nC' : w.heap.size + 1 + 1 ≠ Ba := by omega
  have mA' : w.heap.size ≠ Bb := by omega
  have mB' : w.heap.size + 1 ≠ Bb := by omega
  have mC' : w.heap.size + 1 + 1 ≠ Bb := by omega
  obtain ⟨m0, m1, m2, m3⟩ := P5.cells
  obtain ⟨n0, n1, n2, n3⟩ := Q5.cells
  go_region_held (fun w' => w'.cell? ⟨Ba, 0, none⟩ = some (.int .i64 a1) ∧ w'.cell? ⟨Ba, 1, none⟩ = some (.int .i64 a2) ∧ w'.cell? ⟨Ba, 2, none⟩ = some (.int .i64 a3) ∧ w'.cell? ⟨Ba, 3, none⟩ = some (.slice qa na ca) ∧ w'.cell? ⟨Bb, 0, none⟩ = some (.int .i64 b1) ∧ w'.cell? ⟨Bb, 1, none⟩ = some (.int .i64 b2) ∧ w'.cell? ⟨Bb, 2, none⟩ = some (.int .i64 b3) ∧ w'.cell? ⟨Bb, 3, none⟩ = some (.slice qb nb cb)) (go_keep) (first | (
    go_at_call 17
    refine HDR.out.mono ?_
    rintro e w6 ⟨c1, c2, c3, u'', pc, rfl, o6, sc, c6, g6⟩
    obtain ⟨qc, nc, cc, hu⟩ : ∃ q n cap, u'' = .slice q n cap := by (rcases o6.2 with ⟨rfl, _⟩ | ⟨g, cap, cur, rfl, _⟩ <;> exact ⟨_, _, _, rfl⟩)
    subst hu
    have A6 := A5.drew.turned g6 hgA
    have B6 := B5.drew.turned g6 hgB
    have C6 := C5.drew.turned g6 hgC
    have P6 := P5.drew.turned g6 hgP
    have Q6 := Q5.drew.turned g6 hgQ
    have oa6 := oa5.kept (grown_drewl g6) (.inr hra)
    have ob6 := ob5.kept (grown_drewl g6) (.inr hrb)
    have oc6 := own_lower o6 (base' := w.heap.size) (Nat.le_trans k5.size (Nat.le_refl _))
    have k6 := below_turned k5 (grown_drewl g6) k5.size hrg
    obtain ⟨i0, i1, i2, i3⟩ := A6.cells
    have fi := A6.ice
    obtain ⟨j0, j1, j2, j3⟩ := B6.cells
    have fj := B6.ice
    obtain ⟨h0, h1, h2, h3⟩ := C6.cells
    have fh := C6.ice
    obtain ⟨mm0, mm1, mm2, mm3⟩ := P6.cells
    obtain ⟨nn0, nn1, nn2, nn3⟩ := Q6.cells
    clear m0 m1 m2 m3 n0 n1 n2 n3))
  go_wp2_with fail
  have E1 := four_put4 (four_put4 (four_self' A6 (.int .i64 a1) (.int .i64 a2) (.int .i64 a3) (.slice qa na ca)) (show w.heap.size ≠ w.heap.size + 1 by omega) (.int .i64 b1) (.int .i64 b2) (.int .i64 b3) (.slice qb nb cb)) (show w.heap.size ≠ w.heap.size + 1 + 1 by omega) (.int .i64 c1) (.int .i64 c2) (.int .i64 c3) (.slice qc nc cc)
  have B6a := four_put4 B6 (show w.heap.size + 1 ≠ w.heap.size by omega) (.int .i64 a1) (.int .i64 a2) (.int .i64 a3) (.slice qa na ca)
  have E2 := four_put4 (four_self' B6a (.int .i64 b1) (.int .i64 b2) (.int .i64 b3) (.slice qb nb cb)) (show w.heap.size + 1 ≠ w.heap.size + 1 + 1 by omega) (.int .i64 c1) (.int .i64 c2) (.int .i64 c3) (.slice qc nc cc)
  have C6b := four_put4 (four_put4 C6 (show w.heap.size + 1 + 1 ≠ w.heap.size by omega) (.int .i64 a1) (.int .i64 a2) (.int .i64 a3) (.slice qa na ca)) (show w.heap.size + 1 + 1 ≠ w.heap.size + 1 by omega) (.int .i64 b1) (.int .i64 b2) (.int .i64 b3) (.slice qb nb cb)
  have E3 := four_self' C6b (.int .i64 c1) (.int .i64 c2) (.int .i64 c3) (.slice qc nc cc)
  have R1 := reads_of_owns (owns_put4 (owns_put4 (owns_put4 oa6 A6 (by decide) (.int .i64 a1) (.int .i64 a2) (.int .i64 a3) (.slice qa na ca)) B6a (by decide) (.int .i64 b1) (.int .i64 b2) (.int .i64 b3) (.slice qb nb cb)) C6b (by decide) (.int .i64 c1) (.int .i64 c2) (.int .i64 c3) (.slice qc nc cc))
  have R2 := reads_of_owns (owns_put4 (owns_put4 (owns_put4 ob6 A6 (by decide) (.int .i64 a1) (.int .i64 a2) (.int .i64 a3) (.slice qa na ca)) B6a (by decide) (.int .i64 b1) (.int .i64 b2) (.int .i64 b3) (.slice qb nb cb)) C6b (by decide) (.int .i64 c1) (.int .i64 c2) (.int .i64 c3) (.slice qc nc cc))
  have R3 := reads_of_owns (owns_put4 (owns_put4 (owns_put4 oc6 A6 (by decide) (.int .i64 a1) (.int .i64 a2) (.int .i64 a3) (.slice qa na ca)) B6a (by decide) (.int .i64 b1) (.int .i64 b2) (.int .i64 b3) (.slice qb nb cb)) C6b (by decide) (.int .i64 c1) (.int .i64 c2) (.int .i64 c3) (.slice qc nc cc))
  have KE := below_put4 (below_put4 (below_put4 k6 (Nat.le_refl _) (.int .i64 a1) (.int .i64 a2) (.int .i64 a3) (.slice qa na ca)) (show w.heap.size ≤ w.heap.size + 1 by omega) (.int .i64 b1) (.int .i64 b2) (.int .i64 b3) (.slice qb nb cb)) (show w.heap.size ≤ w.heap.size + 1 + 1 by omega) (.int .i64 c1) (.int .i64 c2) (.int .i64 c3) (.slice qc nc cc)
  clear A5 B5 C5 P5 Q5 A6 B6 C6 P6 Q6 B6a C6b oa5 ob5 oa6 ob6 oc6 o6 k5 k6 i0 i1 i2 i3 j0 j1 j2 j3 h0 h1 h2 h3 mm0 mm1 mm2 mm3 nn0 nn1 nn2 nn3 fi fj fh
  generalize ((((((((((((w6.setCell ⟨w.heap.size, 0, none⟩ (.int .i64 a1)).setCell ⟨w.heap.size, 1, none⟩ (.int .i64 a2)).setCell ⟨w.heap.size, 2, none⟩ (.int .i64 a3)).setCell ⟨w.heap.size, 3, none⟩ (.slice qa na ca)).setCell ⟨w.heap.size + 1, 0, none⟩ (.int .i64 b1)).setCell ⟨w.heap.size + 1, 1, none⟩ (.int .i64 b2)).setCell ⟨w.heap.size + 1, 2, none⟩ (.int .i64 b3)).setCell ⟨w.heap.size + 1, 3, none⟩ (.slice qb nb cb)).setCell ⟨w.heap.size + 1 + 1, 0, none⟩ (.int .i64 c1)).setCell ⟨w.heap.size + 1 + 1, 1, none⟩ (.int .i64 c2)).setCell ⟨w.heap.size + 1 + 1, 2, none⟩ (.int .i64 c3)).setCell ⟨w.heap.size + 1 + 1, 3, none⟩ (.slice qc nc cc)) = WE at E1 E2 E3 R1 R2 R3 KE ⊢
  obtain ⟨x0, x1, x2, x3⟩ := E1.cells
  obtain ⟨y0, y1, y2, y3⟩ := E2.cells
  obtain ⟨z0, z1, z2, z3⟩ := E3.cells
  exact bodyPost_ret (v := .tuple #[.agg #[.int .i64 a1, .int .i64 a2, .int .i64 a3, .slice qa na ca], .agg #[.int .i64 b1, .int .i64 b2, .int .i64 b3, .slice qb nb cb], .agg #[.int .i64 c1, .int .i64 c2, .int .i64 c3, .slice qc nc cc]]) (by simp [results, Tryz.results6, go_sem, x0, x1, x2, x3, y0, y1, y2, y3, z0, z1, z2, z3]) rfl ⟨a1, a2, a3, _, pa, b1, b2, b3, _, pb, c1, c2, c3, _, pc, rfl, R1, R2, R3, sa, sb, sc, KE⟩

theorem drawVers_c (v : Value) (zs : List Int) (w : World) (hr : Reads w v (bytesV zs)) (hn : zs.length ≤ 1048576) (hz : ∀ z ∈ zs, 0 ≤ z ∧ z ≤ 255) :
    Calls Tryz.prog 6 #[v] w (ThreeOut w) :=
  (drawVers3_c v zs w hr hn hz).mono fun e w' ⟨a1, a2, a3, u, pa, b1, b2, b3, u', pb, c1, c2, c3, u'', pc, h1, h2, h3, h4, h5, h6, h7, h8⟩ => ⟨a1, a2, a3, u, pa, b1, b2, b3, u', pb, c1, c2, c3, u'', pc, h1, h2, h3, h4, h5.1, h6.1, h7, h8⟩
end Go.Proofs.YtijmocdkaabijaaGreatDoor

/-! What InRange answers, the program's: the search for a list that takes a version; conditions: what comes in lies in memory as told, and holds no more than 2 to the 20. -/
namespace Go.Proofs.YtijmocdkaabijaaGreatDoor
open Go.RowKit
set_option linter.unusedSimpArgs false
set_option linter.unusedVariables false

set_option maxHeartbeats 1000000 in
set_option maxRecDepth 100000 in
theorem inRangeFn_c (S : Nat → Prop) (v : Value) (ds : List CmpD) (B : Nat) (a' b' c' : Int) (u' : Value) (ps' : List ByteArray) (w : World) (hv : CmpsIn S w v ds) (hB : ∀ b, S b → b < w.heap.size) (hw : wtC ds ≤ 1048576) (hu' : Reads w u' (strsV ps')) (hb' : bulkS ps' ≤ 1048576) (hF : Four w B 26 (.int .i64 a') (.int .i64 b') (.int .i64 c') u') :
    Calls Tryz.prog 25 #[v, .pointer (some ⟨B, 0, none⟩)] w fun e w' => e = .returned (.bool (takeB a' b' c' ps' ds)) ∧ Below w.heap.size w w' := by
  have HA : Hid (Calls Tryz.prog 26 #[v, .agg #[.int .i64 a', .int .i64 b', .int .i64 c', u']] w fun e w' => e = .returned (.bool (takeB a' b' c' ps' ds)) ∧ Below w.heap.size w w') := allTake_c S v ds a' b' c' u' ps' w hv hB hw hu' hb'
  obtain ⟨q', cap', rfl, _, _⟩ := reads_strs hu'
  obtain ⟨a, cap, rfl, _⟩ := hv
  obtain ⟨x0, x1, x2, x3⟩ := hF.cells
  clear hu' hF
  go_enter Tryz.func25, Tryz.ntmps25
  go_wp2_with (go_at_call 26; refine HA.out.mono ?_; rintro e w1 ⟨rfl, b1⟩)
  go_ret
  exact ⟨rfl, b1⟩

theorem any_at {α : Type} (f : α → Bool) (l : List α) (k : Nat) (h : k < l.length) (hf : f l[k] = true) : l.any f = true := by
  rw [List.any_eq_true]; exact ⟨l[k], List.getElem_mem h, hf⟩

set_option maxHeartbeats 1000000 in
set_option maxRecDepth 100000 in
theorem indexRange_c (S : Nat → Prop) (v : Value) (dss : List (List CmpD)) (B : Nat) (a' b' c' : Int) (u' : Value) (ps' : List ByteArray) (w : World) (hv : RangeIn S w v dss) (hB : ∀ b, S b → b < w.heap.size) (hw : wtR dss ≤ 1048576) (hu' : Reads w u' (strsV ps')) (hb' : bulkS ps' ≤ 1048576) (hF : Four w B 26 (.int .i64 a') (.int .i64 b') (.int .i64 c') u') :
    Calls Tryz.prog 59 #[v, .func (.func 25) #[] #[.pointer (some ⟨B, 0, none⟩)]] w fun e w' => ∃ r : Int, e = .returned (.int .i64 r) ∧ decide (r ≥ 0) = dss.any (takeB a' b' c' ps') ∧ Below w.heap.size w w' := by
  obtain ⟨a, cap, rfl, hl, hc, ha⟩ := hv
  unfold maxLen at hl
  go_enter Tryz.func59, Tryz.ntmps59
  go_wp2_with fail
  go_loopw [8] (fun vi wr => ∃ k : Nat, k ≤ dss.length ∧ vi = .int .i64 (k : Int) ∧ Hid ((dss.take k).any (takeB a' b' c' ps') = false) ∧ Below w.heap.size w wr) (fun vi _ => dss.length - (intOf vi).toNat)
  case atStart => exact ⟨0, Nat.zero_le _, rfl, (by show _ = _; simp), Below.refl _ _⟩
  case round =>
    obtain ⟨k, hk, rfl, hany, hbr⟩ := hrel
    by_cases hlt' : k < dss.length
    · rcases ha with rfl | ⟨b, off, vs, rfl, hlt, ha⟩
      · simp at hlt'
      obtain ⟨e0, hu⟩ := ha k hlt'
      have hlt2 : b < w.heap.size := hB b hlt
      rw [← hbr.cell (by simpa using hlt2)] at e0
      have hwt : wtC dss[k] ≤ 1048576 := by have := wtC_wtR (List.getElem_mem hlt'); omega
      have hr1 : CmpsIn S wr (vs k) dss[k] := hu.keep (.of hbr hB)
      have hBr : ∀ b, S b → b < wr.heap.size := fun b h => Nat.lt_of_lt_of_le (hB b h) hbr.size
      have HT : Hid (takeB a' b' c' ps' dss[k] = true → dss.any (takeB a' b' c' ps') = true) := fun h => any_at _ _ k hlt' h
      have HN : Hid (takeB a' b' c' ps' dss[k] = false → (dss.take (k + 1)).any (takeB a' b' c' ps') = false) := fun h => by rw [any_take _ _ _ hlt', hany.out, h]; rfl
      obtain ⟨d, hd⟩ : ∃ d, d = dss[k] := ⟨_, rfl⟩
      rw [← hd] at hr1 hwt HT HN
      obtain ⟨x, hx⟩ : ∃ x, x = vs k := ⟨_, rfl⟩
      rw [← hx] at e0 hr1
      obtain ⟨r, hr⟩ : ∃ r, r = takeB a' b' c' ps' d := ⟨_, rfl⟩
      rw [← hr] at HT HN
      have HC : Hid (Calls Tryz.prog 25 #[x, .pointer (some ⟨B, 0, none⟩)] wr fun e w' => e = .returned (.bool r) ∧ Below wr.heap.size wr w') := by rw [hr]; exact inRangeFn_c S x d B a' b' c' u' ps' wr hr1 hBr hwt (hu'.below hbr) hb' ((hbr.block B hF.lt).trans hF)
      obtain ⟨uq, ucap, hu3, _⟩ := id hr1
      subst hu3
      have hki : (k : Int) < (dss.length : Int) := by omega
      clear ha hu hd hx hr hr1 hu' hF
      cases r with
      | true =>
        have HT2 : Hid (dss.any (takeB a' b' c' ps') = true) := HT.out rfl
        clear HT HN
        go_wp2_with (go_at_call 25; refine HC.out.mono ?_; rintro e w1 ⟨rfl, b1⟩)
        go_ret
        exact ⟨(k : Int), rfl, by rw [HT2.out]; exact decide_eq_true (by omega), hbr.trans (b1.mono hbr.size)⟩
      | false =>
        have HN2 : Hid ((dss.take (k + 1)).any (takeB a' b' c' ps') = false) := HN.out rfl
        clear HT HN
        go_wp2_with (go_at_call 25; refine HC.out.mono ?_; rintro e w1 ⟨rfl, b1⟩)
        go_roundw
        case rel => exact ⟨k + 1, by omega, by go_num, HN2, hbr.trans (b1.mono hbr.size)⟩
        case measure => simp [intOf]; omega
    · have he : k = dss.length := by omega
      subst he
      have HE : Hid (dss.any (takeB a' b' c' ps') = false) := by have := hany.out; rw [List.take_length] at this; exact this
      clear ha hany hu' hF
      go_wp2_with fail
      go_ret
      exact ⟨-1, rfl, by rw [HE.out]; rfl, hbr⟩

set_option maxHeartbeats 1000000 in
set_option maxRecDepth 100000 in
theorem containsRange_c (S : Nat → Prop) (v : Value) (dss : List (List CmpD)) (B : Nat) (a' b' c' : Int) (u' : Value) (ps' : List ByteArray) (w : World) (hv : RangeIn S w v dss) (hB : ∀ b, S b → b < w.heap.size) (hw : wtR dss ≤ 1048576) (hu' : Reads w u' (strsV ps')) (hb' : bulkS ps' ≤ 1048576) (hF : Four w B 26 (.int .i64 a') (.int .i64 b') (.int .i64 c') u') :
    Calls Tryz.prog 24 #[v, .func (.func 25) #[] #[.pointer (some ⟨B, 0, none⟩)]] w fun e w' => e = .returned (.bool (dss.any (takeB a' b' c' ps'))) ∧ Below w.heap.size w w' := by
  have HA := indexRange_c S v dss B a' b' c' u' ps' w hv hB hw hu' hb' hF
  obtain ⟨a, cap, rfl, _⟩ := hv
  obtain ⟨R, hR⟩ : ∃ R, R = dss.any (takeB a' b' c' ps') := ⟨_, rfl⟩
  rw [← hR] at HA
  rw [← hR]
  have HA' : Hid (Calls Tryz.prog 59 #[.slice a dss.length cap, .func (.func 25) #[] #[.pointer (some ⟨B, 0, none⟩)]] w fun e w' => ∃ r : Int, e = .returned (.int .i64 r) ∧ decide (r ≥ 0) = R ∧ Below w.heap.size w w') := HA
  clear HA hR hu' hF
  go_enter Tryz.func24, Tryz.ntmps24
  go_wp2_with (go_at_call 59; refine HA'.out.mono ?_; rintro e w1 ⟨r, rfl, hr, b1⟩; have HR : Hid (decide (r ≥ 0) = R) := hr; clear hr)
  go_ret
  exact ⟨by rw [← HR.out]; rfl, b1⟩

set_option maxHeartbeats 1000000 in
set_option maxRecDepth 100000 in
theorem implInRange_c (S : Nat → Prop) (v : Value) (dss : List (List CmpD)) (a' b' c' : Int) (u' : Value) (ps' : List ByteArray) (w : World) (hv : RangeIn S w v dss) (hB : ∀ b, S b → b < w.heap.size) (hw : wtR dss ≤ 1048576) (hu' : Reads w u' (strsV ps')) (hb' : bulkS ps' ≤ 1048576) :
    Calls Tryz.prog 9 #[v, .agg #[.int .i64 a', .int .i64 b', .int .i64 c', u']] w fun e w' => e = .returned (.bool (inRB a' b' c' ps' dss)) ∧ Below w.heap.size w w' := by
  have hbx : ∀ o, Below w.heap.size w (w.alloc o) := fun o => (Below.refl _ _).alloc (Nat.le_refl _) _
  have F0 := four_new w 26 (.int .i64 a') (.int .i64 b') (.int .i64 c') u'
  have hmf : ∀ (fn : Fn) (first cap : Array Value) (w : World), (Instr.makeFunc fn first cap).run Tryz.prog w = .ok (.func fn first cap) w := fun _ _ _ _ => rfl
  have hB1 : ∀ w1, Below w.heap.size w w1 → ∀ b, S b → b < w1.heap.size := fun w1 h b hb => Nat.lt_of_lt_of_le (hB b hb) h.size
  obtain ⟨r1, hr1⟩ : ∃ r, r = verB a' b' c' ps' := ⟨_, rfl⟩
  obtain ⟨r2, hr2⟩ : ∃ r, r = dss.any (takeB a' b' c' ps') := ⟨_, rfl⟩
  have HV : Hid (∀ w1, Below w.heap.size w w1 → Calls Tryz.prog 21 #[.agg #[.int .i64 a', .int .i64 b', .int .i64 c', u']] w1 fun e w' => e = .returned (.bool r1) ∧ Below w1.heap.size w1 w') := fun w1 h => by rw [hr1]; exact implVerOk_c a' b' c' u' ps' w1 (hu'.below h) hb'
  have HC : Hid (∀ w1, Below w.heap.size w w1 → Four w1 w.heap.size 26 (.int .i64 a') (.int .i64 b') (.int .i64 c') u' → Calls Tryz.prog 24 #[v, .func (.func 25) #[] #[.pointer (some ⟨w.heap.size, 0, none⟩)]] w1 fun e w' => e = .returned (.bool r2) ∧ Below w1.heap.size w1 w') := fun w1 h hF => by rw [hr2]; exact containsRange_c S v dss w.heap.size a' b' c' u' ps' w1 (hv.keep (.of h hB)) (hB1 w1 h) hw (hu'.below h) hb' hF
  have e : inRB a' b' c' ps' dss = (r1 && r2) := by rw [inRB, hr1, hr2]
  rw [e]
  obtain ⟨q', cap', rfl, _, _⟩ := reads_strs hu'
  obtain ⟨a, cap, rfl, _⟩ := hv
  clear hu' hr1 hr2 e
  cases r1 with
  | false =>
    rw [Bool.false_and]
    go_enter Tryz.func9, Tryz.ntmps9
    go_wp2_with (go_at_call 21; refine (HV.out _ (hbx _)).mono ?_; rintro e w1 ⟨rfl, b1⟩)
    go_ret
    exact ⟨rfl, (hbx _).trans (b1.mono (by simp))⟩
  | true =>
    rw [Bool.true_and]
    go_enter Tryz.func9, Tryz.ntmps9
    go_wp2_with (first
      | (go_at_call 21; refine (HV.out _ (hbx _)).mono ?_; rintro e w1 ⟨rfl, b1⟩; have F1 := F0.keep b1; have k1 := (hbx (.cells #[.int .i64 a', .int .i64 b', .int .i64 c', .slice q' ps'.length cap'] 26)).trans (b1.mono (by simp)))
      | (go_at_call 24; refine (HC.out _ k1 F1).mono ?_; rintro e w2 ⟨rfl, b2⟩))
    go_ret
    exact ⟨rfl, k1.trans (b2.mono k1.size)⟩
end Go.Proofs.YtijmocdkaabijaaGreatDoor
