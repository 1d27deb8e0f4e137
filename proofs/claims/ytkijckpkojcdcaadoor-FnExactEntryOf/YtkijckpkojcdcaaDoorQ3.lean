/-
  Contracts for the walks, several texts in one: each part says what it proves, and under which conditions.
-/
import Derived.Deep.RegionHeld
import Derived.Laws.BitsAllLaws
import Derived.Lib.AppendStr
import Derived.Deep.DeepMust
import Derived.Deep.RegionLaw
import Derived.Deep.AppendLies
import Derived.Deep.DrawnRows
import Derived.Deep.DeepCutAuto
import Derived.Laws.AppendOwnNone
import Derived.Test.YtkijckpkojcdcaaDoorQ2
import Derived.Test.YtkijckpkojcdcaaDoorQ1

/-! Copies of needs and entries, as the program makes them: contracts for the walks; conditions: they lie in memory, and hold at most 2 to the 20. -/
namespace Go.Proofs.YtkijckpkojcdcaaDoor
open Go.RowKit
set_option linter.unusedSimpArgs false
set_option linter.unusedVariables false

/-- The cells of needs. -/
def needsV (xs : List NeedD) : List Value := xs.flatMap fun d => [.string d.n, .string d.r]
theorem needsV_length (xs : List NeedD) : (needsV xs).length = xs.length * 2 := by
  induction xs with
  | nil => rfl
  | cons d l ih => simp only [needsV, List.flatMap_cons, List.length_append, List.length_cons, List.length_nil] at *; omega
theorem needsV_append (xs ys : List NeedD) : needsV xs ++ needsV ys = needsV (xs ++ ys) := by simp [needsV]
theorem needsV_take (xs : List NeedD) (k : Nat) (h : k < xs.length) : needsV (xs.take k) ++ [.string xs[k].n, .string xs[k].r] = needsV (xs.take (k + 1)) := by
  rw [List.take_succ_eq_append_getElem h, ← needsV_append]; rfl
theorem needsV_at (xs : List NeedD) : ∀ i (h : i < xs.length), (needsV xs)[i * 2]? = some (.string xs[i].n) ∧ (needsV xs)[i * 2 + 1]? = some (.string xs[i].r) := by
  induction xs with
  | nil => intro i h; simp at h
  | cons d l ih =>
    intro i h
    have e : needsV (d :: l) = [.string d.n, .string d.r] ++ needsV l := by simp [needsV]
    cases i with
    | zero => rw [e]; simp
    | succ i =>
      have h' := ih i (by simpa using h)
      rw [e, List.getElem?_append_right (by simp; omega), List.getElem?_append_right (by simp; omega)]
      simp only [List.length_cons, List.length_nil]
      rw [show (i + 1) * 2 - (0 + 1 + 1) = i * 2 by omega, show (i + 1) * 2 + 1 - (0 + 1 + 1) = i * 2 + 1 by omega]
      simpa using h'
theorem needs_own {w : World} {lo : Nat} {v : Value} {xs : List NeedD} (h : w.ownsRow lo 106 2 v xs.length (needsV xs)) (hl : xs.length ≤ maxLen) (hs : ∀ d ∈ xs, d.n.size ≤ maxLen ∧ d.r.size ≤ maxLen) : RowOwn shNeed 106 (Ow lo w.heap.size) w v xs := by
  refine ⟨hl, needsV xs, owns_lo (Nat.zero_le _) h, owns_in h, fun i hi _ => ⟨[.string xs[i].n, .string xs[i].r], rfl, ⟨rfl, hs _ (List.getElem_mem hi)⟩, fun j hj => ?_⟩⟩
  obtain ⟨h1, h2⟩ := needsV_at xs i hi
  match j, hj with
  | 0, _ => exact h1
  | 1, _ => exact h2

theorem owns_of_belowN {w w' : World} {lo sz n : Nat} {e : TypeId} {v : Value} {xs : List Value} (h : w.ownsRow lo e sz v n xs) (hb : Below w.heap.size w w') : w'.ownsRow lo e sz v n xs := h.kept (grown_of_below hb none) (by cases hq : v.ownBlock <;> simp)
theorem cells_put {w : World} {N M : Nat} {o : Obj} (h : w.heap[N]? = some o) (hne : N ≠ M) (j : Nat) (v : Value) : (w.setCell ⟨M, j, none⟩ v).heap[N]? = some o := (Below.heap_setCell w ⟨M, j, none⟩ v N (by simpa using hne)).trans h
theorem two_src (w : World) (c0 c1 : Value) : ∀ j u, ([c0, c1] : List Value)[j]? = some u → (w.alloc (.cells #[c0, c1] 106)).cell? ((⟨w.heap.size, 0, none⟩ : Addr).add j) = some u := fun j u hu => by
  have e : ((⟨w.heap.size, 0, none⟩ : Addr).add j) = ⟨w.heap.size, j, none⟩ := by unfold Addr.add; split <;> simp_all
  rw [e, vblk_cell (vheap_new _ _) j]
  simpa using hu

set_option maxHeartbeats 2000000 in
set_option maxRecDepth 100000 in
theorem copyNeeds_c (S : Nat → Prop) (v : Value) (xs : List NeedD) (w : World) (hv : RowIn shNeed S w v xs) (hB : ∀ b, S b → b < w.heap.size) (hw : wtRow wtNeed xs ≤ 1048576) :
    Calls Tryd.prog 63 #[v] w fun e w' => ∃ u', e = .returned u' ∧ w'.ownsRow w.heap.size 106 2 u' xs.length (needsV xs) ∧ Below w.heap.size w w' := by
  obtain ⟨i0, hi, hz0, hz1, hz2⟩ := info_parts infoNeed
  obtain ⟨a, cap, rfl, hl, hc, ha⟩ := hv
  have hn := len_wtRow wtNeed xs
  have hsz : ∀ d ∈ xs, d.n.size ≤ 1048576 ∧ d.r.size ≤ 1048576 := fun d hd => by
    have h1 : d.n.size + d.r.size ≤ wtRow wtNeed xs := wt_wtRow wtNeed hd
    omega
  unfold maxLen at hl
  go_enter Tryd.func63, Tryd.ntmps63
  go_wp2_with fail
  go_loopw [3, 8] (fun vx vi wr => ∃ (k : Nat), k ≤ xs.length ∧ vi = .int .i64 (k : Int) ∧ wr.ownsRow w.heap.size 106 2 vx k (needsV (xs.take k)) ∧ Below w.heap.size w wr) (fun _ vi _ => xs.length - (intOf vi).toNat)
  case atStart => exact ⟨0, Nat.zero_le _, rfl, (by rw [List.take_zero]; exact World.ownsRow_nil _ _ _ _), Below.refl _ _⟩
  case round =>
    obtain ⟨k, hk, rfl, hown, hbr⟩ := hrel
    obtain ⟨qo, co, hvo⟩ := owns_sliceP hown
    subst hvo
    by_cases hlt' : k < xs.length
    · rcases ha with rfl | ⟨b0, off, rfl, hlt, ha⟩
      · simp at hlt'
      obtain ⟨cs, hL, hcell⟩ := ha k hlt'
      replace hcell := hcell.keep (.of hbr hB) hlt
      obtain ⟨hs1, hs2⟩ := hsz xs[k] (List.getElem_mem hlt')
      have HT : Hid (needsV (xs.take k) ++ [.string xs[k].n, .string xs[k].r] = needsV (xs.take (k + 1))) := needsV_take xs k hlt'
      obtain ⟨d, hd⟩ : ∃ d, d = xs[k] := ⟨_, rfl⟩
      rw [← hd] at hL hs1 hs2 HT
      obtain ⟨rfl, _, _⟩ := hL
      have e0 : wr.cell? ⟨b0, off + k * 2, none⟩ = some (.string d.n) := hcell 0 (by simp)
      have e1 : wr.cell? ⟨b0, off + k * 2 + 1, none⟩ = some (.string d.r) := hcell 1 (by simp)
      have hki : (k : Int) < (xs.length : Int) := by omega
      clear ha hd hsz hcell
      have kB : Below wr.heap.size wr (wr.alloc (.cells #[.string d.n, .string d.r] 106)) := (Below.refl _ _).alloc (Nat.le_refl _) _
      have hbx5 : (wr.alloc (.cells #[.string d.n, .string d.r] 106)).heap[wr.heap.size]? = some (.cells #[.string d.n, .string d.r] 106 (0, 0)) := vheap_new _ _
      have hown5 := owns_of_belowN hown kB
      have hbr5 := hbr.trans (kB.mono hbr.size)
      have hne5 : (Value.slice qo k co).ownBlock ≠ some wr.heap.size := fun e => by have := (hown.lt _ e).2; omega
      clear kB hown
      go_wp2_with fail
      obtain ⟨N5, hN5e⟩ : ∃ N5, N5 = wr.heap.size := ⟨_, rfl⟩
      obtain ⟨w5, hW5⟩ : ∃ w5, w5 = wr.alloc (.cells #[.string d.n, .string d.r] 106) := ⟨_, rfl⟩
      rw [← hN5e, ← hW5] at hbx5
      rw [← hW5] at hown5 hbr5
      rw [← hN5e] at hne5
      rw [← hN5e, ← hW5]
      clear hN5e hW5 e0 e1
      have h0 : Below w5.heap.size w5 w5.drew := (Below.refl _ _).drew
      have KEEP : Hid (∀ w1, Below w5.heap.size w5 w1 → w1.cell? ⟨N5, 0, none⟩ = some (.string d.n) ∧ w1.cell? ⟨N5, 1, none⟩ = some (.string d.r)) := fun w1 h => ⟨vblk_cell (box_below hbx5 h) 0, vblk_cell (box_below hbx5 h) 1⟩
      refine wp_region_held_drew (S := (fun w' => w'.cell? ⟨N5, 0, none⟩ = some (.string d.n) ∧ w'.cell? ⟨N5, 1, none⟩ = some (.string d.r))) (by kernel_rfl) ?SR10 (fun hHeld => ?_)
      case SR10 => (first | (with_reducible exact KEEP.out _ h3) | (with_reducible exact KEEP.out _ h2) | (with_reducible exact KEEP.out _ h1) | (with_reducible exact KEEP.out _ h0))
      refine wpAnyH_take (i := 0) (oi := _) (v := ?vR10) rfl (by kernel_rfl) (by kernel_rfl) (by kernel_rfl) (fun _ _ _ h => h) (Or.inl ⟨by rfl, ?yR10⟩) hHeld ?_
      case yR10 => (intro w hSw; (try dsimp only at hSw); go_simp <;> with_reducible rfl)
      try simp only [Act.put, List.getElem_toArray, List.getElem_cons_zero, List.getElem_cons_succ, List.setIfInBounds_toArray, List.set_cons_zero, List.set_cons_succ]
      refine wpAnyH_take (i := 1) (oi := _) (v := ?vR11) rfl (by kernel_rfl) (by kernel_rfl) (by kernel_rfl) (fun _ _ _ h => h) (Or.inl ⟨by rfl, ?yR11⟩) hHeld ?_
      case yR11 => (intro w hSw; (try dsimp only at hSw); go_simp <;> with_reducible rfl)
      try simp only [Act.put, List.getElem_toArray, List.getElem_cons_zero, List.getElem_cons_succ, List.setIfInBounds_toArray, List.set_cons_zero, List.set_cons_succ]
      refine wpAnyH_take (i := 2) (oi := _) (v := ?vR12) rfl (by kernel_rfl) (by kernel_rfl) (by kernel_rfl) (fun _ _ _ h => h) (Or.inl ⟨by rfl, ?yR12⟩) hHeld ?_
      case yR12 => (intro w hSw; (try dsimp only at hSw); go_simp <;> with_reducible rfl)
      try simp only [Act.put, List.getElem_toArray, List.getElem_cons_zero, List.getElem_cons_succ, List.setIfInBounds_toArray, List.set_cons_zero, List.set_cons_succ]
      refine wpAnyH_take (i := 4) (oi := _) (v := ?vR13) rfl (by kernel_rfl) (by kernel_rfl) (by kernel_rfl) (fun _ _ _ h => h) (Or.inl ⟨by rfl, ?yR13⟩) hHeld ?_
      case yR13 => (intro w hSw; (try dsimp only at hSw); go_simp <;> with_reducible rfl)
      try simp only [Act.put, List.getElem_toArray, List.getElem_cons_zero, List.getElem_cons_succ, List.setIfInBounds_toArray, List.set_cons_zero, List.set_cons_succ]
      refine wpAnyH_take (i := 5) (oi := _) (v := ?vR14) rfl (by kernel_rfl) (by kernel_rfl) (by kernel_rfl) (fun _ _ _ h => h) (Or.inl ⟨by rfl, ?yR14⟩) hHeld ?_
      case yR14 => (intro w hSw; (try dsimp only at hSw); go_simp <;> with_reducible rfl)
      try simp only [Act.put, List.getElem_toArray, List.getElem_cons_zero, List.getElem_cons_succ, List.setIfInBounds_toArray, List.set_cons_zero, List.set_cons_succ]
      refine wpAnyH_ready (rs := [3]) (by kernel_rfl) (by simp) ?_
      refine AllReadyH.cons rfl (fun K hK => ?_) AllReadyH.nil
      go_simp
      go_wp2_with (go_at_call 61; refine (clone_c d.n _ hs1).mono ?_; rintro e w1 ⟨rfl, b1⟩; have h1 : Below w5.heap.size w5 w1 := h0.trans (b1.mono h0.size))
      clear hHeld
      refine hK.out _ _ ?SR16 (fun hHeld => ?_)
      case SR16 => ((try dsimp only); first | (with_reducible exact KEEP.out _ h3) | (with_reducible exact KEEP.out _ h2) | (with_reducible exact KEEP.out _ h1) | (with_reducible exact KEEP.out _ h0))
      clear hK K
      refine wpAnyH_ready (rs := [6]) (by kernel_rfl) (by simp) ?_
      refine AllReadyH.cons rfl (fun K hK => ?_) AllReadyH.nil
      go_simp
      go_wp2_with (go_at_call 61; refine (clone_c d.r _ hs2).mono ?_; rintro e w2 ⟨rfl, b2⟩; have h2 : Below w5.heap.size w5 w2 := h1.trans (b2.mono h1.size))
      clear hHeld
      refine hK.out _ _ ?SR17 (fun hHeld => ?_)
      case SR17 => ((try dsimp only); first | (with_reducible exact KEEP.out _ h3) | (with_reducible exact KEEP.out _ h2) | (with_reducible exact KEEP.out _ h1) | (with_reducible exact KEEP.out _ h0))
      clear hK K
      refine wpAnyH_take (i := 7) (oi := _) (v := ?vR17) rfl (by kernel_rfl) (by kernel_rfl) (by kernel_rfl) (fun _ _ _ h => h) (Or.inl ⟨by rfl, ?yR17⟩) hHeld ?_
      case yR17 => (intro w hSw; (try dsimp only at hSw); go_simp <;> with_reducible rfl)
      try simp only [Act.put, List.getElem_toArray, List.getElem_cons_zero, List.getElem_cons_succ, List.setIfInBounds_toArray, List.set_cons_zero, List.set_cons_succ]
      have k2 := hbr5.trans (h2.mono hbr5.size)
      have o2 := owns_of_belowN hown5 h2
      have kA : Below w2.heap.size w2 (w2.alloc (.cells #[.string d.n, .string d.r] 106)) := (Below.refl _ _).alloc (Nat.le_refl _) _
      refine wpAnyH_ready (rs := [8]) (by kernel_rfl) (by simp) ?_
      refine AllReadyH.cons rfl (fun K hK => ?_) AllReadyH.nil
      go_simp
      clear hHeld
      have h3 : Below w5.heap.size w5 (w2.alloc (.cells #[.string d.n, .string d.r] 106)) := h2.trans (kA.mono h2.size)
      refine hK.out _ (w2.alloc (.cells #[.string d.n, .string d.r] 106)) ?SR1_8 (fun hHeld => ?_)
      case SR1_8 => (exact KEEP.out _ h3)
      clear hK K
      try simp only [Act.put, List.getElem_toArray, List.getElem_cons_zero, List.getElem_cons_succ, List.setIfInBounds_toArray, List.set_cons_zero, List.set_cons_succ]
      refine wpAnyH_ready (rs := [9]) (by kernel_rfl) (by simp) ?_
      refine AllReadyH.cons rfl (fun K hK => ?_) AllReadyH.nil
      rw [if_pos (by rfl)]
      refine wp_append_own _ _ _ 40 rfl w.heap.size 106 i0 (.agg #[.string ⟨#[]⟩, .string ⟨#[]⟩]) 2 32 Tryd.underlying40 hi hz0 hz1 hz2 rfl (by decide) _ k (needsV (xs.take k)) rfl (owns_of_belowN o2 kA) ⟨w2.heap.size, 0, none⟩ 1 1 [.string d.n, .string d.r] rfl rfl (two_src w2 _ _) (by simp [Value.oneCell']) (by unfold maxLen; omega) (by omega) (Nat.le_trans k2.size kA.size) ?_
      intro v3 w3 o3 gr3 _
      rw [HT.out] at o3
      have hb3 : Below w.heap.size w w3 := Below.grown (k2.trans (kA.mono k2.size)) gr3 (Nat.le_trans k2.size kA.size) (fun j hj => ((owns_of_belowN o2 kA).lt _ hj).1)
      clear hHeld
      refine hK.out _ _ ?TR1_8 (fun hHeld => ?_)
      case TR1_8 => (exact ⟨vblk_cell (box_grown (box_below hbx5 h3) gr3 hne5) 0, vblk_cell (box_grown (box_below hbx5 h3) gr3 hne5) 1⟩)
      clear hK K
      try simp only [Act.put, List.getElem_toArray, List.getElem_cons_zero, List.getElem_cons_succ, List.setIfInBounds_toArray, List.set_cons_zero, List.set_cons_succ]
      refine wpAnyH_take (i := 10) (oi := _) (v := ?vR19) rfl (by kernel_rfl) (by kernel_rfl) (by kernel_rfl) (fun _ _ _ h => h) (Or.inl ⟨by rfl, ?yR19⟩) hHeld ?_
      case yR19 => (intro w hSw; (try dsimp only at hSw); go_simp <;> with_reducible rfl)
      try simp only [Act.put, List.getElem_toArray, List.getElem_cons_zero, List.getElem_cons_succ, List.setIfInBounds_toArray, List.set_cons_zero, List.set_cons_succ]
      refine wpAnyH_done (by kernel_rfl) ?_ _
      go_wp2_with fail
      go_roundw
      case rel => exact ⟨k + 1, by omega, by go_num, o3, hb3⟩
      case measure => simp [intOf]; omega
    · have he : k = xs.length := by omega
      subst he
      rw [List.take_length] at hown
      clear ha
      go_wp2_with fail
      go_ret
      exact ⟨_, rfl, hown, hbr⟩

end Go.Proofs.YtkijckpkojcdcaaDoor

/-! Facts on blocks of memory that are kept, for the laws over two versions; no condition. -/
namespace Go.Proofs.YtkijckpkojcdcaaDoor
open Go.RowKit
set_option linter.unusedSimpArgs false
set_option linter.unusedVariables false

/-- The block N holds these four cells. -/
def Four (w : World) (N : Nat) (t : TypeId) (c0 c1 c2 c3 : Value) : Prop := w.heap[N]? = some (.cells #[c0, c1, c2, c3] t (0, 0))
theorem Four.lt {w : World} {N : Nat} {t : TypeId} {c0 c1 c2 c3 : Value} (h : Four w N t c0 c1 c2 c3) : N < w.heap.size := (Array.getElem?_eq_some_iff.1 h).1
theorem Four.keep {w w' : World} {N : Nat} {t : TypeId} {c0 c1 c2 c3 : Value} (h : Four w N t c0 c1 c2 c3) (b : Below w.heap.size w w') : Four w' N t c0 c1 c2 c3 := (b.block N h.lt).trans h
theorem Four.cells {w : World} {N : Nat} {t : TypeId} {c0 c1 c2 c3 : Value} (h : Four w N t c0 c1 c2 c3) : w.cell? ⟨N, 0, none⟩ = some c0 ∧ w.cell? ⟨N, 1, none⟩ = some c1 ∧ w.cell? ⟨N, 2, none⟩ = some c2 ∧ w.cell? ⟨N, 3, none⟩ = some c3 :=
  ⟨vblk_cell h 0, vblk_cell h 1, vblk_cell h 2, vblk_cell h 3⟩
theorem Four.drew {w : World} {N : Nat} {t : TypeId} {c0 c1 c2 c3 : Value} (h : Four w N t c0 c1 c2 c3) : Four w.drew N t c0 c1 c2 c3 := h
theorem four_new (w : World) (t : TypeId) (c0 c1 c2 c3 : Value) : Four (w.alloc (.cells #[c0, c1, c2, c3] t)) w.heap.size t c0 c1 c2 c3 := vheap_new _ _
theorem four_old {w : World} {N : Nat} {t : TypeId} {c0 c1 c2 c3 : Value} (h : Four w N t c0 c1 c2 c3) (o : Obj) : Four (w.alloc o) N t c0 c1 c2 c3 := (vheap_old w o h.lt).trans h
theorem four_two (w : World) (t t' : TypeId) (c0 c1 c2 c3 d0 d1 d2 d3 : Value) : Four ((w.alloc (.cells #[c0, c1, c2, c3] t)).alloc (.cells #[d0, d1, d2, d3] t')) w.heap.size t c0 c1 c2 c3 ∧ Four ((w.alloc (.cells #[c0, c1, c2, c3] t)).alloc (.cells #[d0, d1, d2, d3] t')) (w.heap.size + 1) t' d0 d1 d2 d3 := by
  refine ⟨four_old (four_new _ _ _ _ _ _) _, ?_⟩
  have h := four_new (w.alloc (.cells #[c0, c1, c2, c3] t)) t' d0 d1 d2 d3
  have s1 : ∀ o, (w.alloc o).heap.size = w.heap.size + 1 := fun o => by simp
  rw [s1] at h
  exact h
end Go.Proofs.YtkijckpkojcdcaaDoor

/-! What the law's helpers that mark a version's texts, and look whether the marks are held, answer: contracts for the walks; condition: the list lies in memory as told. -/
namespace Go.Proofs.YtkijckpkojcdcaaDoor
open Go.RowKit
set_option linter.unusedSimpArgs false
set_option linter.unusedVariables false

theorem Four.turned {w w' : World} {R : Nat} {t : TypeId} {c0 c1 c2 c3 : Value} {row : Option Nat} (h : Four w R t c0 c1 c2 c3) (hg : w.grownBy w' row) (hne : row ≠ some R) : Four w' R t c0 c1 c2 c3 :=
  (hg.block R h.lt (fun e => hne e.symm)).trans h
theorem below_turned {B : Nat} {w0 w w' : World} {row : Option Nat} (h : Below B w0 w) (hg : w.grownBy w' row) (hB : B ≤ w.heap.size) (hrow : ∀ k, row = some k → B ≤ k) : Below B w0 w' :=
  h.trans ⟨hg.os, hg.tape, hg.output, hg.size, fun k hk => hg.block k (by omega) (fun e => by have := hrow k e.symm; omega)⟩

set_option maxHeartbeats 1000000 in
set_option maxRecDepth 100000 in
theorem markVer_c (a b c : Int) (u : Value) (base n : Nat) (xs : List Value) (w : World) (hv : w.ownsRow base 9 1 u n xs) (hn : n ≤ 1048576) (hbw : base ≤ w.heap.size) :
    Calls Tryd.prog 20 #[.agg #[.int .i64 a, .int .i64 b, .int .i64 c, u], .int .i64 1] w fun e w' => e = .returned (.int .i64 (1 + (n : Int))) ∧ w'.ownsRow base 9 1 u n (strsV (marksS 1 n)) ∧ w.grownBy w' u.ownBlock := by
  have HM : Hid (∀ o, Calls Tryd.prog 42 #[u, .int .i64 1] (w.alloc o) fun e w' => e = .returned (.int .i64 (1 + (n : Int))) ∧ w'.ownsRow base 9 1 u n (strsV (marksS 1 n)) ∧ (w.alloc o).grownBy w' u.ownBlock) := fun o => markStrs_c u base n xs 1 (w.alloc o) (hv.alloc o) (by omega) (by omega) (by omega) (by simp; omega)
  have hgA : ∀ o, w.grownBy (w.alloc o) u.ownBlock := fun o => World.grownBy_alloc w o _
  obtain ⟨q, m, cap, rfl⟩ : ∃ q m cap, u = .slice q m cap := by rcases hv.2 with ⟨rfl, _⟩ | ⟨g, cap, cur, rfl, _⟩ <;> exact ⟨_, _, _, rfl⟩
  clear hv
  go_enter Tryd.func20, Tryd.ntmps20
  go_wp2_with (go_at_call 42; refine (HM.out _).mono ?_; rintro e w1 ⟨rfl, o1, g1⟩)
  go_ret
  exact ⟨rfl, o1, grown_trans (hgA _) g1⟩

set_option maxHeartbeats 1000000 in
set_option maxRecDepth 100000 in
theorem heldVer_c (a b c : Int) (u : Value) (n : Nat) (w : World) (hv : Reads w u (strsV (marksS 1 n))) (hn : n ≤ 1048576) :
    Calls Tryd.prog 44 #[.agg #[.int .i64 a, .int .i64 b, .int .i64 c, u], .int .i64 1] w fun e w' => e = .returned (.int .i64 (1 + (n : Int))) ∧ Below w.heap.size w w' := by
  have hbx : ∀ o, Below w.heap.size w (w.alloc o) := fun o => (Below.refl _ _).alloc (Nat.le_refl _) _
  have HM : Hid (∀ o, Calls Tryd.prog 65 #[u, .int .i64 1] (w.alloc o) fun e w' => e = .returned (.int .i64 (1 + (n : Int))) ∧ Below (w.alloc o).heap.size (w.alloc o) w') := fun o => heldStrs_c u n 1 (w.alloc o) (hv.below (hbx o)) (by omega) (by omega) (by omega)
  obtain ⟨q, cap, hq, _, _⟩ := reads_strs hv
  rw [length_marksS] at hq
  subst hq
  clear hv
  have hpos : ¬ (1 + (n : Int)) < 0 := by omega
  go_enter Tryd.func44, Tryd.ntmps44
  go_wp2_with (go_at_call 65; refine (HM.out _).mono ?_; rintro e w1 ⟨rfl, b1⟩)
  go_ret
  exact ⟨rfl, (hbx _).trans (b1.mono (by simp))⟩
end Go.Proofs.YtkijckpkojcdcaaDoor

/-! What the functions that draw out of a code answer: contracts for the walks over a cursor (a pointer to a struct of the call's own) that reads the code; each says no more of what is drawn than its bounds; conditions: the code lies in memory as told. -/
namespace Go.Proofs.YtkijckpkojcdcaaDoor
open Go.RowKit
set_option linter.unusedSimpArgs false
set_option linter.unusedVariables false

theorem and_255 (x : Int) : 0 ≤ bits .and .i64 x 255 ∧ bits .and .i64 x 255 ≤ 255 := by
  show 0 ≤ IntKind.i64.wrap ((BitVec.ofInt 64 x &&& BitVec.ofInt 64 ((255 : Nat) : Int)).toNat : Int) ∧ IntKind.i64.wrap ((BitVec.ofInt 64 x &&& BitVec.ofInt 64 ((255 : Nat) : Int)).toNat : Int) ≤ 255
  rw [BitVec.toNat_and, ofInt_u64 255 (by omega)]
  have h := Nat.and_le_right (n := (BitVec.ofInt 64 x).toNat) (m := 255)
  rw [IntKind.wrap_i64]
  omega

theorem cell_of_heap {w : World} {g : Nat} {cs : Array Value} {t : TypeId} (h : w.heap[g]? = some (.cells cs t (0, 0))) (j : Nat) : w.cell? ⟨g, j, none⟩ = cs[j]? := cell_of_row w g j cs t (0, 0) h

theorem grown_set (w : World) (g j : Nat) (u : Value) : w.grownBy (w.setCell ⟨g, j, none⟩ u) (some g) :=
  ⟨rfl, rfl, rfl, by simp, fun k _ hk => heap_setCell_other w ⟨g, j, none⟩ k u (fun e => hk (by simp [e]))⟩
theorem grown_drewN {w w' : World} {r : Option Nat} (h : w.grownBy w' r) (n : Nat) : w.grownBy (w'.drewN n) r := ⟨h.os, h.tape, h.output, h.size, h.block⟩
def textList : List ByteArray := [⟨#[]⟩, ⟨#[97]⟩, ⟨#[98]⟩, ⟨#[97, 98]⟩, ⟨#[97, 45, 98]⟩, ⟨#[65, 98]⟩, ⟨#[120, 49]⟩, ⟨#[101, 108, 101, 118, 101, 110, 98, 121, 116, 101, 115]⟩, ⟨#[116, 101, 110, 45, 98, 121, 116, 101, 115, 49]⟩, ⟨#[97, 32, 98]⟩, ⟨#[9]⟩, ⟨#[127]⟩, ⟨#[49, 97]⟩, ⟨#[45, 97]⟩, ⟨#[122]⟩, ⟨#[104, 101, 108, 108, 111]⟩]
theorem textList_small : ∀ t ∈ textList, t.size ≤ 11 := by decide +kernel

theorem lit_strs (w : World) (xs : List ByteArray) : ∀ k (h : k < xs.length), (w.alloc (.cells (xs.map Value.string).toArray 9)).cell? ⟨w.heap.size, k, none⟩ = some (.string xs[k]) := by
  intro k h
  simp [h]
theorem lit_ints (w : World) (xs : List Int) : ∀ k, k < xs.length → (w.alloc (.cells (xs.map (Value.int .i64)).toArray 3)).cell? ⟨w.heap.size, k, none⟩ = some (.int .i64 (xs.getD k 0)) := by
  intro k h
  simp [h, List.getD_eq_getElem?_getD]

theorem grown_own {w w1 w2 : World} {o : Obj} {g : Nat} {r : Option Nat} (h1 : w.grownBy w1 (some g)) (h2 : (w1.alloc o).grownBy w2 r) (hr : ∀ k, r = some k → w.heap.size ≤ k) : w.grownBy w2 (some g) := by
  have ha := World.grownBy_alloc w1 o none
  refine ⟨h2.os.trans h1.os, h2.tape.trans h1.tape, h2.output.trans h1.output, Nat.le_trans h1.size (Nat.le_trans ha.size h2.size), fun k hk hne => ?_⟩
  rw [h2.block k (Nat.lt_of_lt_of_le (Nat.lt_of_lt_of_le hk h1.size) ha.size) (fun e => by have := hr k e.symm; omega)]
  rw [ha.block k (Nat.lt_of_lt_of_le hk h1.size) (by simp)]
  exact h1.block k hk hne
end Go.Proofs.YtkijckpkojcdcaaDoor

/-! What the functions that draw versions answer: contracts for the walks: a version in memory of its own, of no more than a few short texts; conditions: the code lies in memory as told. -/
namespace Go.Proofs.YtkijckpkojcdcaaDoor
open Go.RowKit
set_option linter.unusedSimpArgs false
set_option linter.unusedVariables false
attribute [local go_sem ↓] Go.wp_at_zero Go.wp_at_succ

theorem Four.ice {w : World} {N : Nat} {t : TypeId} {c0 c1 c2 c3 : Value} (h : Four w N t c0 c1 c2 c3) (j : Nat) : w.frozen? ⟨N, j, none⟩ = false := vblk_frozen h j

theorem four_put {w : World} {R : Nat} {t : TypeId} {c0 c1 c2 c3 : Value} (h : Four w R t c0 c1 c2 c3) (v : Value) :
    Four (w.setCell ⟨R, 0, none⟩ v) R t v c1 c2 c3 ∧ Four (w.setCell ⟨R, 1, none⟩ v) R t c0 v c2 c3 ∧ Four (w.setCell ⟨R, 2, none⟩ v) R t c0 c1 v c3 ∧ Four (w.setCell ⟨R, 3, none⟩ v) R t c0 c1 c2 v := by
  refine ⟨?_, ?_, ?_, ?_⟩ <;> (unfold Four at *; rw [heap_setCell_same w R _ _ t v h]; rfl)
theorem four_far {w : World} {R N j : Nat} {t : TypeId} {c0 c1 c2 c3 : Value} (h : Four w R t c0 c1 c2 c3) (hn : R ≠ N) (v : Value) : Four (w.setCell ⟨N, j, none⟩ v) R t c0 c1 c2 c3 := (Below.heap_setCell w ⟨N, j, none⟩ v R hn).trans h
theorem owns_put {w : World} {base N j : Nat} {e t : TypeId} {u : Value} {n : Nat} {xs : List Value} {c0 c1 c2 c3 : Value} (h : w.ownsRow base e 1 u n xs) (hF : Four w N t c0 c1 c2 c3) (hne : t ≠ e) (v : Value) : (w.setCell ⟨N, j, none⟩ v).ownsRow base e 1 u n xs := by
  obtain ⟨h1, h2⟩ := h
  refine ⟨h1, ?_⟩
  rcases h2 with h2 | ⟨g, cap, cur, a, b, c, d⟩
  · exact .inl h2
  · have hg : g ≠ N := fun e1 => by
      subst e1
      unfold Four at hF
      rw [c] at hF
      simp only [Option.some.injEq, Obj.cells.injEq] at hF
      exact hne hF.2.1.symm
    exact .inr ⟨g, cap, cur, a, b, by rw [Below.heap_setCell _ _ _ _ hg]; exact c, d⟩
theorem row_four {w : World} {base N : Nat} {e t : TypeId} {u : Value} {n : Nat} {xs : List Value} {c0 c1 c2 c3 : Value} (h : w.ownsRow base e 1 u n xs) (hF : Four w N t c0 c1 c2 c3) (hne : t ≠ e) : u.ownBlock ≠ some N := by
  rcases h.2 with ⟨rfl, _⟩ | ⟨g, cap, cur, rfl, b, c, d⟩
  · simp [Value.ownBlock]
  · intro e1
    simp only [Value.ownBlock, Option.some.injEq] at e1
    subst e1
    unfold Four at hF
    rw [c] at hF
    simp only [Option.some.injEq, Obj.cells.injEq] at hF
    exact hne hF.2.1.symm
theorem grown_put {w0 w : World} {r : Option Nat} {N j : Nat} (h : w0.grownBy w r) (hN : w0.heap.size ≤ N) (v : Value) : w0.grownBy (w.setCell ⟨N, j, none⟩ v) r :=
  ⟨h.os, h.tape, h.output, by simpa [World.setCell] using h.size, fun k hk hne => (Below.heap_setCell w ⟨N, j, none⟩ v k (by simp; omega)).trans (h.block k hk hne)⟩
/-- What is drawn is small. -/
def smallP (n : Nat) (ps : List ByteArray) : Prop := ps.length ≤ n ∧ ∀ t ∈ ps, t.size ≤ 9
def pre1 : List ByteArray := [⟨#[48]⟩, ⟨#[49]⟩, ⟨#[49, 48]⟩, ⟨#[97]⟩, ⟨#[114, 99]⟩, ⟨#[98, 45, 49]⟩]
def pre2 : List ByteArray := [⟨#[48]⟩, ⟨#[50]⟩, ⟨#[120]⟩]
theorem pre1_small : ∀ t ∈ pre1, t.size ≤ 9 := by decide +kernel
theorem pre2_small : ∀ t ∈ pre2, t.size ≤ 9 := by decide +kernel

theorem grown_drewl {a b : World} {r : Option Nat} (h : a.drew.grownBy b r) : a.grownBy b r := ⟨h.os, h.tape, h.output, h.size, h.block⟩

/-- A drawn version: its numbers are at most 2. -/
def small3 (a b c : Int) (ps : List ByteArray) : Prop := smallP 2 ps ∧ (0 ≤ a ∧ a ≤ 2) ∧ (0 ≤ b ∧ b ≤ 2) ∧ (0 ≤ c ∧ c ≤ 2)

end Go.Proofs.YtkijckpkojcdcaaDoor

/-! What the function that draws any version answers: a contract for the walks: a version in memory of its own, of no more than four short texts; conditions: the code lies in memory as told. -/
namespace Go.Proofs.YtkijckpkojcdcaaDoor
open Go.RowKit
set_option linter.unusedSimpArgs false
set_option linter.unusedVariables false
attribute [local go_sem ↓] Go.wp_at_zero Go.wp_at_succ

def bentInts : List Int := [-1, 9999, 10000]
def cutInts : List Int := [3, 4]
def bentPre : List ByteArray := [⟨#[]⟩, ⟨#[48, 49]⟩, ⟨#[110, 105, 110, 101, 45, 98, 121, 116, 101]⟩, ⟨#[97, 95]⟩, ⟨#[48, 48]⟩, ⟨#[101, 105, 103, 104, 116, 45, 98, 121]⟩]
def abcd : List ByteArray := [⟨#[97]⟩, ⟨#[98]⟩, ⟨#[99]⟩, ⟨#[100]⟩]
theorem bentPre_small : ∀ t ∈ bentPre, t.size ≤ 9 := by decide +kernel
theorem abcd_small : ∀ t ∈ abcd, t.size ≤ 9 := by decide +kernel

theorem own_lower {w : World} {base base' : Nat} {e : TypeId} {v : Value} {n : Nat} {xs : List Value} (h : w.ownsRow base e 1 v n xs) (hb : base' ≤ base) : w.ownsRow base' e 1 v n xs := by
  obtain ⟨h1, h2⟩ := h
  refine ⟨h1, ?_⟩
  rcases h2 with h2 | ⟨g, cap, cur, a, b, c⟩
  · exact .inl h2
  · exact .inr ⟨g, cap, cur, a, Nat.le_trans hb b, c⟩
theorem small_more {ps : List ByteArray} (h : smallP 2 ps) : smallP 4 ps := ⟨by have := h.1; omega, h.2⟩
theorem small_snoc {ps : List ByteArray} {t : ByteArray} (h : smallP 2 ps) (ht : t.size ≤ 9) : smallP 4 (ps ++ [t]) := ⟨by have := h.1; simp; omega, fun x hx => by
  rcases List.mem_append.1 hx with h1 | h1
  · exact h.2 x h1
  · simp at h1; subst h1; exact ht⟩
theorem row_take {w : World} {base : Nat} {e : TypeId} {g n k cap : Nat} {xs : List Value} (h : w.ownsRow base e 1 (.slice (some ⟨g, 0, none⟩) n cap) n xs) (hk : k ≤ n) : w.ownsRow base e 1 (.slice (some ⟨g, 0, none⟩) k cap) k (xs.take k) := by
  have hl := h.1
  rcases h.2 with ⟨h, _⟩ | ⟨g', cap', cur, hv, hb, hg, hn, hc, hs, ht⟩
  · cases h
  · cases hv
    refine ⟨by simp; omega, .inr ⟨g, cap, cur, rfl, hb, hg, by omega, hc, hs, ?_⟩⟩
    rw [← ht, List.take_take, Nat.mul_one, Nat.mul_one, Nat.min_eq_left hk]

end Go.Proofs.YtkijckpkojcdcaaDoor

/-! What the functions that copy and draw versions answer: contracts for the walks; conditions: what comes in lies in memory as told. -/
namespace Go.Proofs.YtkijckpkojcdcaaDoor
open Go.RowKit
set_option linter.unusedSimpArgs false
set_option linter.unusedVariables false
attribute [local go_sem ↓] Go.wp_at_zero Go.wp_at_succ

theorem four_put4 {w : World} {R N : Nat} {t : TypeId} {c0 c1 c2 c3 : Value} (h : Four w R t c0 c1 c2 c3) (hn : R ≠ N) (v0 v1 v2 v3 : Value) : Four ((((w.setCell ⟨N, 0, none⟩ v0).setCell ⟨N, 1, none⟩ v1).setCell ⟨N, 2, none⟩ v2).setCell ⟨N, 3, none⟩ v3) R t c0 c1 c2 c3 :=
  four_far (four_far (four_far (four_far h hn v0) hn v1) hn v2) hn v3
theorem owns_put4 {w : World} {base N : Nat} {e t : TypeId} {u : Value} {n : Nat} {xs : List Value} {c0 c1 c2 c3 : Value} (hO : w.ownsRow base e 1 u n xs) (hF : Four w N t c0 c1 c2 c3) (hne : t ≠ e) (v0 v1 v2 v3 : Value) :
    ((((w.setCell ⟨N, 0, none⟩ v0).setCell ⟨N, 1, none⟩ v1).setCell ⟨N, 2, none⟩ v2).setCell ⟨N, 3, none⟩ v3).ownsRow base e 1 u n xs :=
  owns_put (owns_put (owns_put (owns_put hO hF hne v0) (four_put hF v0).1 hne v1) (four_put (four_put hF v0).1 v1).2.1 hne v2) (four_put (four_put (four_put hF v0).1 v1).2.1 v2).2.2.1 hne v3
theorem below_put4 {B : Nat} {w0 w : World} {N : Nat} (h : Below B w0 w) (hN : B ≤ N) (v0 v1 v2 v3 : Value) : Below B w0 ((((w.setCell ⟨N, 0, none⟩ v0).setCell ⟨N, 1, none⟩ v1).setCell ⟨N, 2, none⟩ v2).setCell ⟨N, 3, none⟩ v3) :=
  (((h.setCell (by simpa using hN) _).setCell (by simpa using hN) _).setCell (by simpa using hN) _).setCell (by simpa using hN) _

theorem four_three (w : World) (t : TypeId) (a0 a1 a2 a3 b0 b1 b2 b3 c0 c1 c2 c3 : Value) : Four (((w.alloc (.cells #[a0, a1, a2, a3] t)).alloc (.cells #[b0, b1, b2, b3] t)).alloc (.cells #[c0, c1, c2, c3] t)) w.heap.size t a0 a1 a2 a3 ∧ Four (((w.alloc (.cells #[a0, a1, a2, a3] t)).alloc (.cells #[b0, b1, b2, b3] t)).alloc (.cells #[c0, c1, c2, c3] t)) (w.heap.size + 1) t b0 b1 b2 b3 ∧ Four (((w.alloc (.cells #[a0, a1, a2, a3] t)).alloc (.cells #[b0, b1, b2, b3] t)).alloc (.cells #[c0, c1, c2, c3] t)) (w.heap.size + 1 + 1) t c0 c1 c2 c3 := by
  obtain ⟨h1, h2⟩ := four_two w t t a0 a1 a2 a3 b0 b1 b2 b3
  refine ⟨four_old h1 _, four_old h2 _, ?_⟩
  have h := four_new ((w.alloc (.cells #[a0, a1, a2, a3] t)).alloc (.cells #[b0, b1, b2, b3] t)) t c0 c1 c2 c3
  have s2 : ∀ o o', ((w.alloc o).alloc o').heap.size = w.heap.size + 1 + 1 := fun o o' => by simp
  rw [s2] at h
  exact h

set_option maxHeartbeats 2000000 in
set_option maxRecDepth 100000 in
theorem copy_c (a b c : Int) (u : Value) (ps : List ByteArray) (base : Nat) (w : World) (hu : w.ownsRow base 9 1 u ps.length (strsV ps)) (hn : ps.length ≤ 1048576) :
    Calls Tryd.prog 58 #[.agg #[.int .i64 a, .int .i64 b, .int .i64 c, u]] w fun e w' => ∃ u', e = .returned (.agg #[.int .i64 a, .int .i64 b, .int .i64 c, u']) ∧ w'.ownsRow w.heap.size 9 1 u' ps.length (strsV ps) ∧ Below w.heap.size w w' := by
  obtain ⟨i0, hi, hz0, hz1, hz2⟩ := info_parts infoS
  have hb3 : ∀ A R O, Below w.heap.size w (((w.alloc A).alloc R).alloc O) := fun A R O => (((Below.refl _ _).alloc (Nat.le_refl _) _).alloc (by simp) _).alloc (by simp; omega) _
  have hs3 : ∀ A R O, (((w.alloc A).alloc R).alloc O).heap.size = w.heap.size + 1 + 1 + 1 := fun A R O => by simp
  have LIT : Hid (∀ A R O, ((((w.alloc A).alloc R).alloc O).alloc (.cells #[] 9)).ownsRow w.heap.size 9 1 (.slice (some ⟨w.heap.size + 1 + 1 + 1, 0, none⟩) 0 0) 0 []) := fun A R O => by
    have ho := World.ownsRow_lit (((w.alloc A).alloc R).alloc O) #[] 0 (base := w.heap.size) (e := 9) (size := 1) (hb3 _ _ _).size (by unfold maxLen; omega) rfl
    rw [hs3] at ho
    exact ho
  have hb4 : ∀ A R O, Below w.heap.size w ((((w.alloc A).alloc R).alloc O).alloc (.cells #[] 9)) := fun A R O => (hb3 A R O).alloc (hb3 A R O).size _
  rcases hu.2 with ⟨rfl, h0⟩ | ⟨gu, cap, cur, rfl, hgu, hgh, _⟩
  · have hps : ps = [] := List.eq_nil_of_length_eq_zero h0
    subst hps
    clear hu
    go_enter Tryd.func58, Tryd.ntmps58
    go_wp2_with (at_builtin; refine wpList_append_own_none rfl _ _ 23 rfl w.heap.size 9 i0 1 Tryd.underlying23 hi (.slice (some ⟨w.heap.size + 1 + 1 + 1, 0, none⟩) 0 0) 0 [] rfl (LIT.out _ _ _) rfl ?_)
    exact bodyPost_ret (v := .agg #[.int .i64 a, .int .i64 b, .int .i64 c, .slice (some ⟨w.heap.size + 1 + 1 + 1, 0, none⟩) 0 0]) (by simp [results, Tryd.results58, go_sem]) rfl ⟨_, rfl, LIT.out _ _ _, hb4 _ _ _⟩
  · have hgl : gu < w.heap.size := (Array.getElem?_eq_some_iff.1 hgh).1
    obtain ⟨F0, F1, F2⟩ := four_three w 39 (.int .i64 a) (.int .i64 b) (.int .i64 c) (.slice (some ⟨gu, 0, none⟩) ps.length cap) (.int .i64 0) (.int .i64 0) (.int .i64 0) (.slice none 0 0) (.int .i64 a) (.int .i64 b) (.int .i64 c) (.slice (some ⟨gu, 0, none⟩) ps.length cap)
    have G1 := four_old F1 (.cells #[] 9)
    have G2 := four_old F2 (.cells #[] 9)
    have KB := hb4 (.cells #[.int .i64 a, .int .i64 b, .int .i64 c, .slice (some ⟨gu, 0, none⟩) ps.length cap] 39) (.cells #[.int .i64 0, .int .i64 0, .int .i64 0, .slice none 0 0] 39) (.cells #[.int .i64 a, .int .i64 b, .int .i64 c, .slice (some ⟨gu, 0, none⟩) ps.length cap] 39)
    have HN : Hid (∀ j u, (strsV ps)[j]? = some u → ((((w.alloc (.cells #[.int .i64 a, .int .i64 b, .int .i64 c, .slice (some ⟨gu, 0, none⟩) ps.length cap] 39)).alloc (.cells #[.int .i64 0, .int .i64 0, .int .i64 0, .slice none 0 0] 39)).alloc (.cells #[.int .i64 a, .int .i64 b, .int .i64 c, .slice (some ⟨gu, 0, none⟩) ps.length cap] 39)).alloc (.cells #[] 9)).cell? ((⟨gu, 0, none⟩ : Addr).add j) = some u) := fun j x hx => by
      have hj : j < ps.length := by have := (List.getElem?_eq_some_iff.1 hx).1; simpa using this
      have e : ((⟨gu, 0, none⟩ : Addr).add j) = ⟨gu, j, none⟩ := by unfold Addr.add; split <;> simp_all
      rw [e, KB.cell (p := ⟨gu, j, none⟩) hgl, hu.cellAt j (by simpa using hj), hx]
    clear F0 F1 F2 hgh
    go_enter Tryd.func58, Tryd.ntmps58
    go_wp2_with (at_builtin; refine wpList_append_own _ rfl _ _ 23 rfl w.heap.size 9 i0 (.string ⟨#[]⟩) 1 16 Tryd.underlying23 hi hz0 hz1 hz2 rfl (by decide) (.slice (some ⟨w.heap.size + 1 + 1 + 1, 0, none⟩) 0 0) 0 [] rfl (LIT.out _ _ _) ⟨gu, 0, none⟩ ps.length cap (strsV ps) rfl (by simp) HN.out (fun u hu => by simp [strsV] at hu; obtain ⟨t, _, rfl⟩ := hu; rfl) (by unfold maxLen; omega) (by omega) KB.size ?_)
    intro v2 w2 o2 gr2 _
    have X1 := G1.turned gr2 (fun h => by simp only [Value.ownBlock, Option.some.injEq] at h; omega)
    have X2 := G2.turned gr2 (fun h => by simp only [Value.ownBlock, Option.some.injEq] at h; omega)
    have KB2 := below_turned KB gr2 KB.size (fun k hk => by simp [Value.ownBlock] at hk; omega)
    obtain ⟨q2, n2, c2, hv2⟩ : ∃ q n c, v2 = .slice q n c := by rcases o2.2 with ⟨rfl, _⟩ | ⟨g, cap, cur, rfl, _⟩ <;> exact ⟨_, _, _, rfl⟩
    subst hv2
    have o3 : w2.ownsRow w.heap.size 9 1 (.slice q2 n2 c2) ps.length (strsV ps) := by simpa using o2
    obtain ⟨x0, x1, x2, x3⟩ := X1.cells
    have fx := X1.ice
    obtain ⟨y0, y1, y2, y3⟩ := X2.cells
    have fy := X2.ice
    clear gr2 o2 G1 G2 HN hu KB
    have O4 := owns_put (j := 3) o3 X2 (by decide) (.slice q2 n2 c2)
    have Y1 := four_far (N := w.heap.size + 1 + 1) (j := 3) X1 (by omega) (.slice q2 n2 c2)
    have KB3 := KB2.setCell (p := ⟨w.heap.size + 1 + 1, 3, none⟩) (by simp; omega) (.slice q2 n2 c2)
    go_wp2_with fail
    refine bodyPost_ret (v := .agg #[.int .i64 a, .int .i64 b, .int .i64 c, .slice q2 n2 c2]) (by simp [results, Tryd.results58, go_sem, x0, x1, x2, x3]) rfl ⟨_, rfl, ?_, ?_⟩
    · exact owns_put4 O4 Y1 (by decide) _ _ _ _
    · exact below_put4 KB3 (by omega) _ _ _ _

end Go.Proofs.YtkijckpkojcdcaaDoor
