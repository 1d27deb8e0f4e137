/-
  For every list of texts the law FnExactSorted answers true and leaves its argument as it was: the Sorted of the program answers as that of the specification, writes into nothing that was handed in, and its answer owns its memory, behind another call too; no condition.
-/
import Derived.Test.YthapeknfhlpadaaRows
import Derived.WalkKit
import Derived.Test.YthapeknfhlpadaaSortB
import Derived.ProofKit
import Derived.OpenShut
import Derived.ShutString
import Derived.SliceStrings
import Derived.ChangeOld
import Derived.Below
namespace Go.Proofs.Ythapeknfhlpadaa.fnExactSorted
open Go.ChangeShapes Go.WideShapes Go.ChangeAt Go.RowKit
open Go.ChangeMaps (open_string shut_string)
set_option linter.unusedVariables false
set_option linter.unusedSimpArgs false

theorem own : ownKnob Try.prog.godebug = none := by kernel_rfl
theorem laidOut : laidOutB Try.prog = true := by kernel_rfl

theorem addr_add (b off i : Nat) : ((⟨b, off, none⟩ : Addr).add i) = ⟨b, off + i, none⟩ := by unfold Addr.add; split <;> simp_all
theorem reads_mk {w : World} {x : Addr} {len cap : Nat} {xs : List Value} (hl : xs.length = len) (hc : len ≤ cap) (hcell : ∀ i (h : i < xs.length), w.cell? (x.add i) = some xs[i]) : Reads w (.slice (some x) len cap) xs := by
  subst hl
  by_cases h0 : xs.length = 0
  · exact ⟨some x, cap, rfl, hc, .inl (List.eq_nil_of_length_eq_zero h0)⟩
  · obtain ⟨b, off, spot⟩ := x
    have hc0 := hcell 0 (by omega)
    have hspot : spot = none := by simpa [Addr.add] using World.cell?_spot hc0
    subst hspot
    refine ⟨some ⟨b, off, none⟩, cap, rfl, hc, .inr ⟨b, off, rfl, ?_, fun i hi => ?_⟩⟩
    · rw [addr_add] at hc0; exact World.block_lt_of_cell? w _ hc0
    · have := hcell i hi; rw [addr_add] at this; exact this

theorem apart_old {w1 w2 : World} {b1 b2 : Nat} {e1 e2 : TypeId} {v1 v2 : Value} {n1 n2 : Nat} {x1 x2 : List Value} (h1 : w1.ownsRow b1 e1 1 v1 n1 x1) (h2 : w2.ownsRow b2 e2 1 v2 n2 x2) (hb : w1.heap.size ≤ b2) : v1.ownBlock = none ∨ v1.ownBlock ≠ v2.ownBlock := by
  cases e : v1.ownBlock with
  | none => exact .inl rfl
  | some k =>
    refine .inr fun h => ?_
    have := (h1.lt k e).2
    have := (h2.lt k h.symm).1
    omega
theorem apart_new {w1 w2 : World} {b1 b2 : Nat} {e1 e2 : TypeId} {v1 v2 : Value} {n1 n2 : Nat} {x1 x2 : List Value} (h1 : w1.ownsRow b1 e1 1 v1 n1 x1) (h2 : w2.ownsRow b2 e2 1 v2 n2 x2) (hb : w1.heap.size ≤ b2) : v2.ownBlock = none ∨ v2.ownBlock ≠ v1.ownBlock := by
  cases e : v2.ownBlock with
  | none => exact .inl rfl
  | some k =>
    refine .inr fun h => ?_
    have := (h1.lt k h.symm).2
    have := (h2.lt k e).1
    omega

theorem sizes_of_bulk {ss : List ByteArray} (h : bulkS ss ≤ 1048576) : ∀ s ∈ ss, s.size ≤ 1048576 := fun s hs => by
  obtain ⟨j, hj, e⟩ := List.getElem_of_mem hs
  have h1 := sum_take_succ ss j hj
  have h2 := sum_take_le ss (j + 1)
  unfold bulkS at h
  subst e
  omega
theorem sorted_same {ss ys : List ByteArray} (h : risesS ys) (hm : ∀ x, x ∈ ys ↔ x ∈ ss) : ys = sortedS ss :=
  risesS_eq h (sortedS_rises ss) (fun x => (hm x).trans (sortedS_mem ss x).symm)

set_option maxHeartbeats 4000000 in
set_option maxRecDepth 100000 in
theorem walk (a0 : Value) (z0 : List ByteArray) (w : World) (r0 : Reads w a0 (strsV z0)) (w0 : ∀ s ∈ z0, s.size ≤ maxLen) (l0 : z0.length ≤ maxLen) :
    Calls Try.prog 9 #[a0] w fun e w' => e = .returned (.bool true) ∧ Below w.heap.size w w' := by
  have hsz := sizeStrs_c a0 z0 w r0 l0 w0
  by_cases hk : (bulkS z0 : Int) ≤ 1048576
  · have hbk : bulkS z0 ≤ 1048576 := by omega
    have hl : leftS z0 1048576 = 1048576 - (bulkS z0 : Int) := if_pos hk
    have hn : z0.length ≤ 1099511627776 := by unfold bulkS at hbk; omega
    have hn2 : z0.length ≤ 1048576 := by unfold bulkS at hbk; omega
    have hn4 : z0.length ≤ 4294967296 := by omega
    have hzz := sizes_of_bulk hbk
    have hp : ¬ ((1048576 : Int) - (bulkS z0 : Int) < 0) := by omega
    rw [hl] at hsz
    have hdd : ∀ l : List ByteArray, decide (l = l) = true := fun l => by simp
    have hrl : (sortedS z0).length ≤ 1048576 := by
      have h1 := compact_len (sortL (z0.map bytesL))
      rw [sortL_len, List.length_map] at h1
      simp only [sortedS, List.length_map]
      omega
    have hspec := fun u w' h => (specSorted_c u z0 w' h hn2).mono (fun e w'' h => show ∃ u, e = .returned u ∧ w''.ownsRow w'.heap.size 9 1 u (sortedS z0).length (strsV (sortedS z0)) ∧ Below w'.heap.size w' w'' by
      obtain ⟨u, ys, h1, h2, h3, h4, h5, h6⟩ := h
      have e := sorted_same h3 h4
      subst e
      exact ⟨u, h1, h2, h6⟩)
    have himpl := fun u w' h => implSorted_c u z0 w' h hn2 hzz
    obtain ⟨rs, hrs⟩ : ∃ rs, rs = sortedS z0 := ⟨_, rfl⟩
    rw [← hrs] at hspec himpl hrl
    have hnr : rs.length ≤ 1099511627776 := by omega
    have hnq : rs.length ≤ 4294967296 := by omega
    have hq : ¬ ((1 : Int) + (rs.length : Int) < 0) := by omega
    have hq2 : ¬ ((1 : Int) + (z0.length : Int) < 0) := by omega
    clear hl hk hrs hzz w0 l0
    go_enter Try.func9, Try.ntmps9
    go_wp2_with (go_at_call 29; refine hsz.mono ?_; rintro e w1 ⟨rfl, rfl⟩)
    go_wp2_with (go_at_call 31; refine (toStrs_c _ z0 _ r0 hn).mono ?_; rintro e w1 ⟨g1, rfl, o1, b1⟩)
    go_wp2_with (go_at_call 33; refine (hspec _ _ (reads_of_owns o1)).mono ?_; rintro e w2 ⟨vW, rfl, oW, b2⟩)
    have c2 := b1.trans (b2.mono b1.size)
    clear o1 b2
    go_wp2_with (go_at_call 31; refine (toStrs_c _ z0 _ (r0.below c2) hn).mono ?_; rintro e w3 ⟨g3, rfl, o3, b3⟩)
    have c3 := c2.trans (b3.mono c2.size)
    have oW3 := owns_of_below oW b3
    have aWx := apart_old oW o3 (Nat.le_refl _)
    have s23 := b3.size
    clear oW b3
    go_wp2_with (go_at_call 34; refine (himpl _ _ (reads_of_owns o3)).mono ?_; rintro e w4 ⟨vG, rfl, oG, b4⟩)
    have c4 := c3.trans (b4.mono c3.size)
    have oW4 := owns_of_below oW3 b4
    have o34 := owns_of_below o3 b4
    have aWG := apart_old oW3 oG (Nat.le_refl _)
    have aGx := apart_new o3 oG (Nat.le_refl _)
    have s34 := b4.size
    clear oW3 o3 b4
    go_wp2_with (go_at_call 26; refine (eqStrs_c _ _ rs rs _ (reads_of_owns oG) (reads_of_owns oW4) hnr).mono ?_; rintro e w5 ⟨rfl, b5⟩)
    have c5 := c4.trans (b5.mono c4.size)
    have oW5 := owns_of_below oW4 b5
    have oG5 := owns_of_below oG b5
    have o35 := owns_of_below o34 b5
    have s45 := b5.size
    clear oW4 oG o34 b5
    go_wp2_with (go_at_call 31; refine (toStrs_c _ z0 _ (r0.below c5) hn).mono ?_; rintro e w6 ⟨g6, rfl, o6, b6⟩)
    have c6 := c5.trans (b6.mono c5.size)
    have oW6 := owns_of_below oW5 b6
    have oG6 := owns_of_below oG5 b6
    have o36 := owns_of_below o35 b6
    have s56 := b6.size
    clear oW5 oG5 o35 b6
    go_wp2_with (go_at_call 26; refine (eqStrs_c _ _ z0 z0 _ (reads_of_owns o36) (reads_of_owns o6) hn).mono ?_; rintro e w7 ⟨rfl, b7⟩)
    have c7 := c6.trans (b7.mono c6.size)
    have oW7 := owns_of_below oW6 b7
    have oG7 := owns_of_below oG6 b7
    have o37 := owns_of_below o36 b7
    have s67 := b7.size
    clear oW6 oG6 o36 o6 b7
    go_wp2_with (go_at_call 27; refine (markStrs_c _ _ z0.length _ 1 _ o37 (by omega) (by omega) hn4 (by omega)).mono ?_; rintro e w8 ⟨rfl, _, gr8⟩)
    have c8 : Below w.heap.size w w8 := Below.grown c7 gr8 c7.size (fun k hk => Nat.le_trans c2.size (o37.lt k hk).1)
    have oW8 := oW7.kept gr8 aWx
    have oG8 := oG7.kept gr8 aGx
    have s78 := gr8.size
    clear oW7 oG7 o37 gr8 aWx aGx
    go_wp2_with (go_at_call 26; refine (eqStrs_c _ _ rs rs _ (reads_of_owns oG8) (reads_of_owns oW8) hnr).mono ?_; rintro e w9 ⟨rfl, b9⟩)
    have c9 := c8.trans (b9.mono c8.size)
    have oW9 := owns_of_below oW8 b9
    have oG9 := owns_of_below oG8 b9
    have s89 := b9.size
    clear oW8 oG8 b9
    go_wp2_with (go_at_call 27; refine (markStrs_c _ _ rs.length _ 1 _ oG9 (by omega) (by omega) hnq (by omega)).mono ?_; rintro e w10 ⟨rfl, oG10, gr10⟩)
    have c10 : Below w.heap.size w w10 := Below.grown c9 gr10 c9.size (fun k hk => Nat.le_trans c3.size (oG9.lt k hk).1)
    have oW10 := oW9.kept gr10 aWG
    clear oW9 oG9 gr10 aWG
    go_wp2_with (go_at_call 28; refine (heldStrs_c _ rs.length 1 _ (reads_of_owns oG10) (by omega) (by omega) hnq).mono ?_; rintro e w11 ⟨rfl, b11⟩)
    have c11 := c10.trans (b11.mono c10.size)
    have oW11 := owns_of_below oW10 b11
    have oG11 := owns_of_below oG10 b11
    clear oW10 oG10 b11
    go_wp2_with (go_at_call 31; refine (toStrs_c _ z0 _ (r0.below c11) hn).mono ?_; rintro e w12 ⟨g12, rfl, o12, b12⟩)
    have c12 := c11.trans (b12.mono c11.size)
    have oW12 := owns_of_below oW11 b12
    have oG12 := owns_of_below oG11 b12
    clear oW11 oG11 b12
    go_wp2_with (go_at_call 34; refine (himpl _ _ (reads_of_owns o12)).mono ?_; rintro e w13 ⟨vH, rfl, oH, b13⟩)
    have c13 := c12.trans (b13.mono c12.size)
    have oW13 := owns_of_below oW12 b13
    have oG13 := owns_of_below oG12 b13
    clear oW12 oG12 b13 o12
    go_wp2_with (go_at_call 26; refine (eqStrs_c _ _ rs rs _ (reads_of_owns oH) (reads_of_owns oW13) hnr).mono ?_; rintro e w14 ⟨rfl, b14⟩)
    have c14 := c13.trans (b14.mono c13.size)
    have oG14 := owns_of_below oG13 b14
    clear oW13 oG13 b14
    go_wp2_with (go_at_call 28; refine (heldStrs_c _ rs.length 1 _ (reads_of_owns oG14) (by omega) (by omega) hnq).mono ?_; rintro e w15 ⟨rfl, b15⟩)
    have c15 := c14.trans (b15.mono c14.size)
    go_ret
    exact ⟨rfl, c15⟩
  · have hl : leftS z0 1048576 = -1 := if_neg hk
    rw [hl] at hsz
    clear hk hl
    go_enter Try.func9, Try.ntmps9
    go_wp2_with (go_at_call 29; refine hsz.mono ?_; rintro e w1 ⟨rfl, rfl⟩)
    go_ret
    exact ⟨rfl, Below.refl _ _⟩

set_option maxRecDepth 100000 in
theorem lifted (os : Os) (started : os.Started) (H : Type) (enc : TypeId × Value → H) :
    ReturnsInHanded {} Try.checked os 9 .any (Rows.fnExactSortedSpec.pre6 enc Try.prog Try.f9 Rows.fnExactSortedRow.domain false) (Rows.fnExactSortedSpec.post enc Try.prog Try.f9 false true false false) := by
  refine returnsInHanded_of_change (C := Try.checked) own started (by kernel_rfl) Try.func9
    (ChangeSpec.witness6 (enc := enc) (C := Try.checked) false ⟨#[], #[.slice none 0 0], []⟩ 8 (by kernel_rfl) (by kernel_rfl) (by kernel_rfl) (by kernel_rfl)) ?_
  intro W base args ds gs before hval0 hW hcnd _
  have hval : ∀ (j : Nat) t v, Try.f9.params[j]? = some t → args[j]? = some v → Value.okWide Try.prog W .any base t v := hval0
  have hW' := hW
  obtain ⟨p, q, hA0, hV, rfl, hfz, hnd⟩ := hW
  have hA : DataW.TrodAll enc Try.prog W 0 (fun _ => true) true Try.f9.params.toList args.toList ds p := hA0
  rw [Try.params9] at hA hval
  obtain ⟨v0, vs0, d0, ds0, p0, q0, hargs, rfl, rfl, h0, r0⟩ := trodAll_cons hA
  obtain ⟨rfl, rfl, rfl⟩ := trodAll_nil r0
  obtain rfl : args = #[v0] := by cases args; simp_all
  obtain ⟨rfl, rfl⟩ := trodVars_none hV
  obtain ⟨a0, len0, cap0, rfl⟩ := okWide_slice Try.underlying36 (hval 0 36 v0 rfl rfl)
  have k0 := h0
  have lt0 : ∀ x ∈ p0, x.block < W.heap.size := by obtain ⟨m, hm⟩ := k0; exact DataW.trod_lt m _ _ _ hm
  obtain ⟨z0, t0, w0, l0⟩ : ∃ zs : List ByteArray, Reads W (.slice a0 len0 cap0) (strsV zs) ∧ (∀ s ∈ zs, s.size ≤ maxLen) ∧ zs.length ≤ maxLen := by
    obtain ⟨fuel, hf⟩ := h0
    rcases open_strings Try.underlying36 Try.underlying9 (by kernel_rfl) hf with ⟨hcs, _⟩ | ⟨x, l, c, zs, hcs, _, hl, hm, hz, _, hcell, hwz⟩
    · simp [Value.cells] at hcs
      obtain ⟨rfl, rfl, rfl⟩ := hcs
      exact ⟨[], ⟨none, 0, rfl, Nat.le_refl _, .inl rfl⟩, by simp, by simp⟩
    · simp [Value.cells] at hcs
      obtain ⟨rfl, rfl, rfl⟩ := hcs
      have hz' : zs.length = cap0 := by simpa using hz
      refine ⟨zs.take len0, reads_mk (by simp; omega) hl (fun i hi => ?_), fun z hzm => hwz z (List.mem_of_mem_take hzm), by simp; omega⟩
      simp at hi
      rw [hcell i (by omega)]
      simp [strsV, List.getD_eq_getElem?_getD, show i < zs.length by omega]
  clear hA0 hval0
  refine (walk _ z0 W t0 w0 l0).mono fun e W' ⟨he, bel⟩ => ?_
  subst he
  exact ⟨_, rfl, _, _, _, [], _, [], hW', trodAll_mk1 (shut_bool Try.underlying4 _), (trodAll_cons_mk (Below.trod laidOut (by kernel_rfl) (of_decide_eq_true (by kernel_rfl)) k0 bel lt0) trodAll_mk0), rfl, bel.frame _, fun h => by cases h⟩

theorem over : Rows.fnExactSortedRow.holds Try.pinned (OpenSpec.ofChange Rows.fnExactSortedSpec) :=
  OpenClaim.holds_of_wide 9 Try.f9 rfl rfl rfl rfl rfl rfl rfl ⟨rfl, rfl, rfl, rfl, rfl⟩ rfl rfl rfl rfl rfl (by kernel_rfl) Try.func9 (by kernel_rfl)
    (of_decide_eq_true (by kernel_rfl)) (by unfold Func.isWrapper; first | (rw [if_pos (by decide +kernel)]; kernel_rfl) | (rw [if_neg (by decide +kernel)]; exact ⟨rfl, rfl⟩))
    (fun os started H enc _ => lifted os started H enc)

theorem proved : Rows.FnExactSortedSaid := over
end Go.Proofs.Ythapeknfhlpadaa.fnExactSorted
namespace Go.Proofs.Ythapeknfhlpadaa
theorem fnExactSorted_holds : Rows.FnExactSortedSaid := fnExactSorted.proved
#print axioms fnExactSorted_holds
end Go.Proofs.Ythapeknfhlpadaa
