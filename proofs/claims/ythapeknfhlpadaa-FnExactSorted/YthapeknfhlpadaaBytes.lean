/-
  What the helpers over lists of bytes answer (a copy, whether two are alike, marking, whether the marks are held): contracts for the walks, over any world; conditions: the lists lie in memory as told, and are no longer than 2 to the 48.
-/
import Derived.Test.YthapeknfhlpadaaScan
import Derived.Deep.LoopGhost
import Derived.Deep.QuietTactic
import Derived.BigQuiet
import Derived.WalkSmall
namespace Go.Proofs.Ythapeknfhlpadaa
open Go.RowKit
set_option linter.unusedSimpArgs false
set_option linter.unusedVariables false

/-- The slice value v reads as the list xs in the world w. -/
def Reads (w : World) (v : Value) (xs : List Value) : Prop :=
  ∃ a cap, v = .slice a xs.length cap ∧ xs.length ≤ cap ∧ (xs = [] ∨ ∃ b off, a = some ⟨b, off, none⟩ ∧ b < w.heap.size ∧ ∀ i (h : i < xs.length), w.cell? ⟨b, off + i, none⟩ = some xs[i])

theorem Reads.below {w w' : World} {v : Value} {xs : List Value} (h : Reads w v xs) (hb : Below w.heap.size w w') : Reads w' v xs := by
  obtain ⟨a, cap, hv, hcp, h | ⟨b, off, ha, hlt, hc⟩⟩ := h
  · exact ⟨a, cap, hv, hcp, .inl h⟩
  · exact ⟨a, cap, hv, hcp, .inr ⟨b, off, ha, Nat.lt_of_lt_of_le hlt hb.size, fun i hi => by rw [hb.cell (p := ⟨b, off + i, none⟩) hlt]; exact hc i hi⟩⟩

theorem below_of_grown {w w' : World} (h : w.grownBy w' none) : Below w.heap.size w w' := ⟨h.os, h.tape, h.output, h.size, fun k hk => h.block k hk (by simp)⟩
theorem grown_of_below {w w' : World} (h : Below w.heap.size w w') (row : Option Nat) : w.grownBy w' row := ⟨h.os, h.tape, h.output, h.size, fun k hk _ => h.block k hk⟩

theorem reads_of_owns {w : World} {base : Nat} {e : TypeId} {v : Value} {n : Nat} {xs : List Value} (h : w.ownsRow base e 1 v n xs) : Reads w v xs := by
  obtain ⟨hl, h⟩ := h
  rw [Nat.mul_one] at hl
  rcases h with ⟨rfl, hn⟩ | ⟨g, cap, cur, rfl, hb, hg, hn, hcap, hsz, htake⟩
  · have : xs = [] := List.eq_nil_of_length_eq_zero (by omega)
    subst this
    exact ⟨none, 0, rfl, Nat.le_refl _, .inl rfl⟩
  · refine ⟨some ⟨g, 0, none⟩, cap, by rw [hl], by omega, .inr ⟨g, 0, rfl, (Array.getElem?_eq_some_iff.1 hg).1, fun i hi => ?_⟩⟩
    rw [Nat.zero_add]
    have := World.ownsRow.cellAt (w := w) (base := base) (e := e) (size := 1) (g := g) (n := n) (cap := cap) (xs := xs) ⟨by omega, .inr ⟨g, cap, cur, rfl, hb, hg, hn, hcap, hsz, htake⟩⟩ i (by omega)
    rw [this]
    simp [hi]

theorem owns_of_below {w w' : World} {base : Nat} {e : TypeId} {v : Value} {n : Nat} {xs : List Value} (h : w.ownsRow base e 1 v n xs) (hb : Below w.heap.size w w') : w'.ownsRow base e 1 v n xs :=
  h.kept (grown_of_below hb none) (by cases hv : v.ownBlock <;> simp)

theorem owns_empty {w : World} {base : Nat} {e : TypeId} {v : Value} {xs : List Value} (h : w.ownsRow base e 1 v 0 xs) : w.ownsRow base e 1 v 0 [] := by
  have : xs = [] := List.eq_nil_of_length_eq_zero (by simpa using h.1)
  subst this
  exact h

theorem info5 : (Try.prog.info? 5).map (fun i => (i.zero, i.size, i.bytes)) = some (some (.int .u8 0), 1, 1) := by kernel_rfl

theorem set_step {ys xs : List Value} {n k : Nat} {u : Value} (hk : k < n) (h : ys.length = n ∧ ∀ j, j < k → ys[j]? = xs[j]?) (hu : xs[k]? = some u) :
    Hid ((ys.set k u).length = n ∧ ∀ j, j < k + 1 → (ys.set k u)[j]? = xs[j]?) := by
  refine ⟨by simp [h.1], fun j hj => ?_⟩
  rw [List.getElem?_set]
  by_cases e : k = j
  · subst e; simp [h.1, hk, hu]
  · rw [if_neg e]; exact h.2 j (by omega)

theorem list_done {ys xs : List Value} {n : Nat} (h1 : ys.length = n) (h2 : xs.length = n) (h : ∀ j, j < n → ys[j]? = xs[j]?) : ys = xs := by
  apply List.ext_getElem?
  intro j
  by_cases hj : j < n
  · exact h j hj
  · rw [List.getElem?_eq_none (by omega), List.getElem?_eq_none (by omega)]

def bytesV (zs : List Int) : List Value := zs.map (Value.int .u8)
@[simp] theorem length_bytesV (zs : List Int) : (bytesV zs).length = zs.length := by simp [bytesV]

set_option maxHeartbeats 1000000 in
set_option maxRecDepth 100000 in
theorem toBytes_c (v : Value) (zs : List Int) (w : World) (hr : Reads w v (bytesV zs)) (hn : zs.length ≤ 281474976710656) :
    Calls Try.prog 36 #[v] w fun e w' => ∃ g, e = .returned (.slice (some ⟨g, 0, none⟩) zs.length zs.length) ∧ w'.ownsRow w.heap.size 5 1 (.slice (some ⟨g, 0, none⟩) zs.length zs.length) zs.length (bytesV zs) ∧ Below w.heap.size w w' := by
  obtain ⟨a, cap, hv, _, hc⟩ := hr
  rw [length_bytesV] at hv
  subst hv
  obtain ⟨i0, hi, hz0, hz1, hz2⟩ := info_parts info5
  rcases hc with hc | ⟨b, off, rfl, hlt, hc⟩
  · have : zs = [] := by simpa [bytesV] using hc
    subst this
    go_enter Try.func36, Try.ntmps36
    go_wp2_with (first
      | (at_make; refine wpList_make_full _ rfl _ _ 22 rfl w.heap.size 5 i0 (.int .u8 0) 1 Try.underlying22 hi hz0 hz1 _ _ _ _ 0 rfl rfl rfl rfl (by omega) (by unfold maxLen; omega) (Nat.le_refl _) ?_)
      | go_in)
    intro w1 hown hgrow
    have hb1 := below_of_grown hgrow
    go_wp2
    go_loopw [4] (fun vi wr => vi = .int .i64 0 ∧ wr = w1) (fun _ _ => 0)
    case atStart => exact ⟨rfl, rfl⟩
    case round =>
      obtain ⟨rfl, rfl⟩ := hrel
      go_wp2
      go_ret
      exact ⟨_, rfl, owns_empty hown, hb1⟩
  · have hc' : ∀ k, k < zs.length → w.cell? ⟨b, off + k, none⟩ = some (.int .u8 (zs.getD k 0)) := fun k hk => by
      rw [hc k (by simpa using hk)]
      simp [bytesV, List.getD_eq_getElem?_getD, hk]
    clear hc
    go_enter Try.func36, Try.ntmps36
    go_wp2_with (first
      | (at_make; refine wpList_make_full _ rfl _ _ 22 rfl w.heap.size 5 i0 (.int .u8 0) 1 Try.underlying22 hi hz0 hz1 _ _ _ _ zs.length rfl rfl rfl rfl (by rw [hz2]; omega) (by unfold maxLen; omega) (Nat.le_refl _) ?_)
      | go_in)
    intro w1 hown hgrow
    have hb1 := below_of_grown hgrow
    obtain ⟨ys1, hl1, hown1⟩ : ∃ ys, ys.length = zs.length ∧ w1.ownsRow w.heap.size 5 1 (.slice (some ⟨w.heap.size, 0, none⟩) zs.length zs.length) zs.length ys := ⟨_, by simpa using hown.1, hown⟩
    clear hgrow hown
    go_wp2
    go_loopw [4] (fun vi wr => ∃ (k : Nat) (ys : List Value), k ≤ zs.length ∧ vi = .int .i64 (k : Int) ∧ wr.ownsRow w.heap.size 5 1 (.slice (some ⟨w.heap.size, 0, none⟩) zs.length zs.length) zs.length ys ∧ Hid (ys.length = zs.length ∧ ∀ j, j < k → ys[j]? = (bytesV zs)[j]?) ∧ Below w.heap.size w wr) (fun vi _ => zs.length - (intOf vi).toNat)
    case atStart => exact ⟨0, ys1, Nat.zero_le _, rfl, hown1, ⟨hl1, fun j hj => by omega⟩, hb1⟩
    case round =>
      obtain ⟨k, ys, hk, rfl, hownr, hy, hbr⟩ := hrel
      have hcx : k < zs.length → wr.cell? ⟨b, off + k, none⟩ = some (.int .u8 (zs.getD k 0)) := fun h => (hbr.cell (p := ⟨b, off + k, none⟩) hlt).trans (hc' k h)
      have hcy : k < zs.length → wr.cell? ⟨w.heap.size, k, none⟩ = some (ys.getD k undef) := fun h => by
        rw [hownr.cellAt k (by omega)]; simp [List.getD_eq_getElem?_getD, hy.out.1, h]
      have hfr := hownr.frozenAt k
      clear hc' hown1 hb1 hi hz0 hz1 hz2 hl1
      go_wp2
      · have hlt' : k < zs.length := by assumption
        go_roundw
        case rel => exact ⟨k + 1, ys.set k (.int .u8 zs[k]), by omega, by go_num, (hownr.stored k _).1, set_step hlt' hy.out (by simp [bytesV, hlt']), hbr.setCell (Nat.le_refl _) _⟩
        case measure => simp [intOf]; omega
      · have he : k = zs.length := by omega
        subst he
        go_ret
        refine ⟨_, rfl, ?_, hbr⟩
        have e : ys = bytesV zs := list_done hy.out.1 (by simp) hy.out.2
        rw [← e]
        exact hownr

/-- A byte list's cells, as the walk asks for them. -/
theorem reads_bytes {w : World} {v : Value} {zs : List Int} (h : Reads w v (bytesV zs)) :
    ∃ a cap, v = .slice a zs.length cap ∧ zs.length ≤ cap ∧ (zs = [] ∨ ∃ b off, a = some ⟨b, off, none⟩ ∧ b < w.heap.size ∧ ∀ k, k < zs.length → w.cell? ⟨b, off + k, none⟩ = some (.int .u8 (zs.getD k 0))) := by
  obtain ⟨a, cap, hv, hcp, hc⟩ := h
  rw [length_bytesV] at hv hcp
  refine ⟨a, cap, hv, hcp, ?_⟩
  rcases hc with hc | ⟨b, off, rfl, hlt, hc⟩
  · exact .inl (by simpa [bytesV] using hc)
  · refine .inr ⟨b, off, rfl, hlt, fun k hk => ?_⟩
    rw [hc k (by simpa using hk)]
    simp [bytesV, List.getD_eq_getElem?_getD, hk]

theorem below_drewN' {B : Nat} {a w : World} (h : Below B a w) (n : Nat) : Below B a (w.drewN n) := h.trans ⟨rfl, rfl, rfl, Nat.le_refl _, fun _ _ => rfl⟩

theorem eq_step {zs ys : List Int} {k : Nat} (h : ∀ j, j < k → zs.getD j 0 = ys.getD j 0) (hk : zs.getD k 0 = ys.getD k 0) : Hid (∀ j, j < k + 1 → zs.getD j 0 = ys.getD j 0) := fun j hj => by
  by_cases e : j = k
  · subst e; exact hk
  · exact h j (by omega)

theorem ints_done {zs ys : List Int} (hl : zs.length = ys.length) (h : ∀ j, j < zs.length → zs.getD j 0 = ys.getD j 0) : zs = ys := by
  apply List.ext_getElem hl
  intro j h1 h2
  have := h j h1
  simpa [List.getD_eq_getElem?_getD, h1, h2] using this

set_option maxHeartbeats 1000000 in
set_option maxRecDepth 100000 in
theorem eqBytes_c (v u : Value) (zs ys : List Int) (w : World) (hv : Reads w v (bytesV zs)) (hu : Reads w u (bytesV ys)) (hn : zs.length ≤ 281474976710656) :
    Calls Try.prog 37 #[v, u] w fun e w' => e = .returned (.bool (decide (zs = ys))) ∧ Below w.heap.size w w' := by
  obtain ⟨a, cap, rfl, _, hc⟩ := reads_bytes hv
  obtain ⟨a2, cap2, rfl, _, hc2⟩ := reads_bytes hu
  clear hv hu
  by_cases hl : zs.length = ys.length
  · rcases hc with rfl | ⟨b, off, rfl, hlt, hc⟩
    · have : ys = [] := List.eq_nil_of_length_eq_zero (by simpa using hl.symm)
      subst this
      go_enter Try.func37, Try.ntmps37
      go_wp2
      go_loopw [5] (fun vi wr => vi = .int .i64 0 ∧ wr = w) (fun _ _ => 0)
      case atStart => exact ⟨rfl, rfl⟩
      case round =>
        obtain ⟨rfl, rfl⟩ := hrel
        go_wp2
        go_ret
        exact ⟨rfl, Below.refl _ _⟩
    rcases hc2 with rfl | ⟨b2, off2, rfl, hlt2, hc2⟩
    · have : zs = [] := List.eq_nil_of_length_eq_zero (by simpa using hl)
      subst this
      go_enter Try.func37, Try.ntmps37
      go_wp2
      go_loopw [5] (fun vi wr => vi = .int .i64 0 ∧ wr = w) (fun _ _ => 0)
      case atStart => exact ⟨rfl, rfl⟩
      case round =>
        obtain ⟨rfl, rfl⟩ := hrel
        go_wp2
        go_ret
        exact ⟨rfl, Below.refl _ _⟩
    · rw [← hl] at hc2 ⊢
      have HL : Hid (zs.length = ys.length) := hl
      clear hl
      go_enter Try.func37, Try.ntmps37
      go_wp2
      go_loopw [5] (fun vi wr => ∃ k : Nat, k ≤ zs.length ∧ vi = .int .i64 (k : Int) ∧ Hid (∀ j, j < k → zs.getD j 0 = ys.getD j 0) ∧ Below w.heap.size w wr) (fun vi _ => zs.length - (intOf vi).toNat)
      case atStart => exact ⟨0, Nat.zero_le _, rfl, fun j hj => by omega, Below.refl _ _⟩
      case round =>
        obtain ⟨k, hk, rfl, hy, hbr⟩ := hrel
        by_cases hlt' : k < zs.length
        · have hcx : wr.cell? ⟨b, off + k, none⟩ = some (.int .u8 (zs.getD k 0)) := (hbr.cell (p := ⟨b, off + k, none⟩) hlt).trans (hc k hlt')
          have hcy : wr.cell? ⟨b2, off2 + k, none⟩ = some (.int .u8 (ys.getD k 0)) := (hbr.cell (p := ⟨b2, off2 + k, none⟩) hlt2).trans (hc2 k hlt')
          obtain ⟨x, hx⟩ : ∃ x, x = zs.getD k 0 := ⟨_, rfl⟩
          obtain ⟨y, hy'⟩ : ∃ y, y = ys.getD k 0 := ⟨_, rfl⟩
          rw [← hx] at hcx
          rw [← hy'] at hcy
          have HX : Hid (x = zs.getD k 0) := hx
          have HY : Hid (y = ys.getD k 0) := hy'
          have hki : (k : Int) < (zs.length : Int) := by omega
          clear hc hc2 hx hy'
          go_wp2
          go_quiet (fail)
          go_wp2
          · have hne : (x != y) = true := by assumption
            have hne' : ¬ zs = ys := fun e => by
              have e1 := HX.out; have e2 := HY.out; rw [e] at e1; rw [← e2] at e1; simp [e1] at hne
            go_ret
            exact ⟨by simp [hne'], below_drewN' hbr _⟩
          · have he : (x != y) = false := by assumption
            have he' : x = y := by simpa using he
            go_roundw
            case rel => exact ⟨k + 1, by omega, by go_num, eq_step hy.out (by rw [← HX.out, ← HY.out]; exact he'), below_drewN' hbr _⟩
            case measure => simp [intOf]; omega
        · clear hc hc2
          go_wp2
          have he : k = zs.length := by omega
          subst he
          have e : zs = ys := ints_done HL.out hy.out
          go_ret
          exact ⟨by simp [e], hbr⟩
  · have hne : ¬ zs = ys := fun e => hl (by rw [e])
    have hl' : ((zs.length : Int) != (ys.length : Int)) = true := by simp; omega
    rw [decide_eq_false hne]
    clear hc hc2
    go_enter Try.func37, Try.ntmps37
    go_wp2
    go_ret
    exact ⟨rfl, Below.refl _ _⟩

/-- The marks k, k + 1 .. as bytes. -/
def marksB (k : Int) (n : Nat) : List Int := (List.range n).map fun (j : Nat) => (k + (j : Int)) % 256
@[simp] theorem length_marksB (k : Int) (n : Nat) : (marksB k n).length = n := by simp [marksB]
theorem marksB_at (k : Int) (n j : Nat) (h : j < n) : (bytesV (marksB k n))[j]? = some (.int .u8 ((k + (j : Int)) % 256)) := by
  simp [bytesV, marksB, h]

theorem grown_trans {a b c : World} {r : Option Nat} (h : a.grownBy b r) (k : b.grownBy c r) : a.grownBy c r :=
  ⟨k.os.trans h.os, k.tape.trans h.tape, k.output.trans h.output, Nat.le_trans h.size k.size, fun i hi hne => (k.block i (Nat.lt_of_lt_of_le hi h.size) hne).trans (h.block i hi hne)⟩

set_option maxHeartbeats 1000000 in
set_option maxRecDepth 100000 in
theorem markBytes_c (v : Value) (base n : Nat) (xs : List Value) (k0 : Int) (w : World) (hv : w.ownsRow base 5 1 v n xs) (h0 : 0 ≤ k0) (h1 : k0 ≤ 4294967296) (hn : n ≤ 281474976710656) :
    Calls Try.prog 38 #[v, .int .i64 k0] w fun e w' => e = .returned (.int .i64 (k0 + (n : Int))) ∧ w'.ownsRow base 5 1 v n (bytesV (marksB k0 n)) ∧ w.grownBy w' v.ownBlock := by
  have hv0 := hv
  rcases hv.2 with ⟨rfl, rfl⟩ | ⟨g, cap, cur, rfl, hb, hg, hcap, hmax, hsz, htake⟩
  · clear hv0
    go_enter Try.func38, Try.ntmps38
    go_wp2
    go_loopw [1, 5] (fun vk vi wr => vk = .int .i64 k0 ∧ vi = .int .i64 0 ∧ wr = w) (fun _ _ _ => 0)
    case atStart => exact ⟨rfl, rfl, rfl⟩
    case round =>
      obtain ⟨rfl, rfl, rfl⟩ := hrel
      go_wp2
      go_ret
      exact ⟨by simp, by rw [show bytesV (marksB k0 0) = [] from rfl]; exact owns_empty hv, World.grownBy.refl _ _⟩
  · have hl : xs.length = n := by simpa using hv.1
    clear hb hg hsz htake hv0
    go_enter Try.func38, Try.ntmps38
    go_wp2
    go_loopw [1, 5] (fun vk vi wr => ∃ (k : Nat) (ys : List Value), k ≤ n ∧ vi = .int .i64 (k : Int) ∧ vk = .int .i64 (k0 + (k : Int)) ∧ wr.ownsRow base 5 1 (.slice (some ⟨g, 0, none⟩) n cap) n ys ∧ Hid (ys.length = n ∧ ∀ j, j < k → ys[j]? = (bytesV (marksB k0 n))[j]?) ∧ w.grownBy wr (some g)) (fun _ vi _ => n - (intOf vi).toNat)
    case atStart => exact ⟨0, xs, Nat.zero_le _, rfl, by simp, hv, ⟨hl, fun j hj => by omega⟩, World.grownBy.refl _ _⟩
    case round =>
      obtain ⟨k, ys, hk, rfl, rfl, hownr, hy, hbr⟩ := hrel
      have hcy : k < n → wr.cell? ⟨g, k, none⟩ = some (ys.getD k undef) := fun h => by
        rw [hownr.cellAt k (by omega)]; simp [List.getD_eq_getElem?_getD, hy.out.1, h]
      have hfr := hownr.frozenAt k
      clear hv hl
      go_wp2
      · have hlt' : k < n := by assumption
        go_roundw
        case rel => exact ⟨k + 1, ys.set k _, by omega, by go_num, by congr 1; omega, (hownr.stored k _).1, set_step hlt' hy.out (marksB_at k0 n k hlt'), grown_trans hbr (hownr.stored k _).2⟩
        case measure => simp [intOf]; omega
      · have he : k = n := by omega
        subst he
        have e : ys = bytesV (marksB k0 k) := list_done hy.out.1 (by simp) hy.out.2
        go_ret
        refine ⟨rfl, ?_, hbr⟩
        rw [← e]
        exact hownr

set_option maxHeartbeats 1000000 in
set_option maxRecDepth 100000 in
theorem heldBytes_c (v : Value) (n : Nat) (k0 : Int) (w : World) (hv : Reads w v (bytesV (marksB k0 n))) (h0 : 0 ≤ k0) (h1 : k0 ≤ 4294967296) (hn : n ≤ 281474976710656) :
    Calls Try.prog 39 #[v, .int .i64 k0] w fun e w' => e = .returned (.int .i64 (k0 + (n : Int))) ∧ w = w' := by
  obtain ⟨a, cap, hvv, _, hc⟩ := reads_bytes hv
  rw [length_marksB] at hvv
  subst hvv
  clear hv
  rcases hc with hc | ⟨b, off, rfl, hlt, hc⟩
  · have : n = 0 := by have := congrArg List.length hc; simpa using this
    subst this
    go_enter Try.func39, Try.ntmps39
    go_wp2
    go_loop [1, 5] (fun vk vi => vk = .int .i64 k0 ∧ vi = .int .i64 0) (fun _ _ => 0)
    case atStart => exact ⟨rfl, rfl⟩
    case round =>
      obtain ⟨rfl, rfl⟩ := hrel
      go_wp2
      go_ret
      exact ⟨by simp, rfl⟩
  · have hc' : ∀ k, k < n → w.cell? ⟨b, off + k, none⟩ = some (.int .u8 ((k0 + (k : Int)) % 256)) := fun k hk => by
      rw [hc k (by simpa using hk)]
      simp [marksB, List.getD_eq_getElem?_getD, hk]
    clear hc
    go_enter Try.func39, Try.ntmps39
    go_wp2
    go_loop [1, 5] (fun vk vi => ∃ k : Nat, k ≤ n ∧ vi = .int .i64 (k : Int) ∧ vk = .int .i64 (k0 + (k : Int))) (fun _ vi => n - (intOf vi).toNat)
    case atStart => exact ⟨0, Nat.zero_le _, rfl, by simp⟩
    case round =>
      obtain ⟨k, hk, rfl, rfl⟩ := hrel
      have hcx : k < n → w.cell? ⟨b, off + k, none⟩ = some (.int .u8 ((k0 + (k : Int)) % 256)) := hc' k
      clear hc'
      go_wp2
      · have hlt' : k < n := by assumption
        go_round
        case rel => exact ⟨k + 1, by omega, by go_num, by congr 1; omega⟩
        case measure => simp [intOf]; omega
      · have he : k = n := by omega
        subst he
        go_ret
        exact ⟨rfl, rfl⟩
end Go.Proofs.Ythapeknfhlpadaa
