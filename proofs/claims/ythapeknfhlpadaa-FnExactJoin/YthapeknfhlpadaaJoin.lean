/-
  For every list of texts and every text the law FnExactJoin answers true and leaves its arguments as they were: the Join of the program answers as that of the specification, and writes into nothing; no condition.
-/
import Derived.Test.YthapeknfhlpadaaRows
import Derived.WalkKit
import Derived.Test.YthapeknfhlpadaaJoinA
import Derived.ProofKit
import Derived.OpenShut
import Derived.ShutString
import Derived.SliceStrings
import Derived.ChangeOld
import Derived.Below
namespace Go.Proofs.Ythapeknfhlpadaa.fnExactJoin
open Go.ChangeShapes Go.WideShapes Go.ChangeAt Go.RowKit
open Go.ChangeMaps (open_string shut_string)
set_option linter.unusedVariables false
set_option linter.unusedSimpArgs false

theorem own : ownKnob Try.prog.godebug = none := by kernel_rfl
theorem laidOut : laidOutB Try.prog = true := by kernel_rfl

theorem addr_add (b off i : Nat) : ((⟨b, off, none⟩ : Addr).add i) = ⟨b, off + i, none⟩ := by unfold Addr.add; split <;> simp_all
theorem reads_mk {w : World} {x : Addr} {len cap : Nat} {xs : List Value} (hl : xs.length = len) (hc : len ≤ cap) (hcell : ∀ i (h : i < xs.length), w.cell? (x.add i) = some xs[i]) : Reads w (.slice (some x) len cap) xs := by
  subst hl
  by_cases h0 : xs.length = 0
  · exact ⟨some x, cap, rfl, hc, .inl (List.eq_nil_of_length_eq_zero h0)⟩
  · obtain ⟨b, off, spot⟩ := x
    have hc0 := hcell 0 (by omega)
    have hspot : spot = none := by simpa [Addr.add] using World.cell?_spot hc0
    subst hspot
    refine ⟨some ⟨b, off, none⟩, cap, rfl, hc, .inr ⟨b, off, rfl, ?_, fun i hi => ?_⟩⟩
    · rw [addr_add] at hc0; exact World.block_lt_of_cell? w _ hc0
    · have := hcell i hi; rw [addr_add] at this; exact this

set_option maxHeartbeats 4000000 in
set_option maxRecDepth 100000 in
theorem walk (a0 : Value) (z0 : List ByteArray) (a1 : ByteArray) (w : World) (r0 : Reads w a0 (strsV z0)) (w0 : ∀ s ∈ z0, s.size ≤ maxLen) (l0 : z0.length ≤ maxLen) (w1 : a1.size ≤ maxLen) :
    Calls Try.prog 8 #[a0, .string a1] w fun e w' => e = .returned (.bool true) ∧ Below w.heap.size w w' := by
  by_cases hb : (1048576 : Int) < (a1.size : Int)
  · go_enter Try.func8, Try.ntmps8
    go_wp2
    go_ret
    exact ⟨rfl, Below.refl _ _⟩
  have ht : a1.size ≤ 1048576 := by omega
  have hsz := sizeStrs_c a0 z0 w r0 l0 w0
  by_cases hk : (bulkS z0 : Int) ≤ 1048576
  · have hbk : bulkS z0 ≤ 1048576 := by omega
    have hl : leftS z0 1048576 = 1048576 - (bulkS z0 : Int) := if_pos hk
    have hn : z0.length ≤ 1099511627776 := by unfold bulkS at hbk; omega
    have hp : ¬ ((1048576 : Int) - (bulkS z0 : Int) < 0) := by omega
    rw [hl] at hsz
    have hdd : decide (z0 = z0) = true := by simp
    clear hl hk
    go_enter Try.func8, Try.ntmps8
    go_wp2_with (go_at_call 29; refine hsz.mono ?_; rintro e w1 ⟨rfl, rfl⟩)
    go_wp2_with (go_at_call 31; refine (toStrs_c _ z0 _ r0 hn).mono ?_; rintro e w1 ⟨g1, rfl, o1, b1⟩)
    go_wp2_with (go_at_call 30; refine (specJoin_c _ z0 _ _ (reads_of_owns o1) hbk ht).mono ?_; rintro e w2 ⟨rfl, rfl⟩)
    go_wp2_with (go_at_call 31; refine (toStrs_c _ z0 _ (r0.below b1) hn).mono ?_; rintro e w3 ⟨g3, rfl, o3, b3⟩)
    have c3 := b1.trans (b3.mono b1.size)
    go_wp2_with (go_at_call 32; refine (implJoin_c _ z0 _ _ (reads_of_owns o3) hbk ht).mono ?_; rintro e w4 ⟨rfl, b4⟩)
    have c4 := c3.trans (b4.mono c3.size)
    have o34 := owns_of_below o3 b4
    go_wp2_with (go_at_call 31; refine (toStrs_c _ z0 _ (r0.below c4) hn).mono ?_; rintro e w5 ⟨g5, rfl, o5, b5⟩)
    have c5 := c4.trans (b5.mono c4.size)
    have o35 := owns_of_below o34 b5
    go_wp2_with (go_at_call 26; refine (eqStrs_c _ _ z0 z0 _ (reads_of_owns o35) (reads_of_owns o5) hn).mono ?_; rintro e w6 ⟨rfl, b6⟩)
    have c6 := c5.trans (b6.mono c5.size)
    go_ret
    exact ⟨rfl, c6⟩
  · have hl : leftS z0 1048576 = -1 := if_neg hk
    rw [hl] at hsz
    clear hk hl
    go_enter Try.func8, Try.ntmps8
    go_wp2_with (go_at_call 29; refine hsz.mono ?_; rintro e w1 ⟨rfl, rfl⟩)
    go_ret
    exact ⟨rfl, Below.refl _ _⟩

set_option maxRecDepth 100000 in
theorem lifted (os : Os) (started : os.Started) (H : Type) (enc : TypeId × Value → H) :
    ReturnsInHanded {} Try.checked os 8 .any (Rows.fnExactJoinSpec.pre6 enc Try.prog Try.f8 Rows.fnExactJoinRow.domain false) (Rows.fnExactJoinSpec.post enc Try.prog Try.f8 false true false false) := by
  refine returnsInHanded_of_change (C := Try.checked) own started (by kernel_rfl) Try.func8
    (ChangeSpec.witness6 (enc := enc) (C := Try.checked) false ⟨#[], #[.slice none 0 0, .string ByteArray.empty], []⟩ 8 (by kernel_rfl) (by kernel_rfl) (by kernel_rfl) (by kernel_rfl)) ?_
  intro W base args ds gs before hval0 hW hcnd _
  have hval : ∀ (j : Nat) t v, Try.f8.params[j]? = some t → args[j]? = some v → Value.okWide Try.prog W .any base t v := hval0
  have hW' := hW
  obtain ⟨p, q, hA0, hV, rfl, hfz, hnd⟩ := hW
  have hA : DataW.TrodAll enc Try.prog W 0 (fun _ => true) true Try.f8.params.toList args.toList ds p := hA0
  rw [Try.params8] at hA hval
  obtain ⟨v0, vs0, d0, ds0, p0, q0, hargs, rfl, rfl, h0, r0⟩ := trodAll_cons hA
  obtain ⟨v1, vs1, d1, ds1, p1, q1, rfl, rfl, rfl, h1, r1⟩ := trodAll_cons r0
  obtain ⟨rfl, rfl, rfl⟩ := trodAll_nil r1
  obtain rfl : args = #[v0, v1] := by cases args; simp_all
  obtain ⟨rfl, rfl⟩ := trodVars_none hV
  obtain ⟨a0, len0, cap0, rfl⟩ := okWide_slice Try.underlying36 (hval 0 36 v0 rfl rfl)
  have k0 := h0
  have lt0 : ∀ x ∈ p0, x.block < W.heap.size := by obtain ⟨m, hm⟩ := k0; exact DataW.trod_lt m _ _ _ hm
  obtain ⟨z0, t0, w0, l0⟩ : ∃ zs : List ByteArray, Reads W (.slice a0 len0 cap0) (strsV zs) ∧ (∀ s ∈ zs, s.size ≤ maxLen) ∧ zs.length ≤ maxLen := by
    obtain ⟨fuel, hf⟩ := h0
    rcases open_strings Try.underlying36 Try.underlying9 (by kernel_rfl) hf with ⟨hcs, _⟩ | ⟨x, l, c, zs, hcs, _, hl, hm, hz, _, hcell, hwz⟩
    · simp [Value.cells] at hcs
      obtain ⟨rfl, rfl, rfl⟩ := hcs
      exact ⟨[], ⟨none, 0, rfl, Nat.le_refl _, .inl rfl⟩, by simp, by simp⟩
    · simp [Value.cells] at hcs
      obtain ⟨rfl, rfl, rfl⟩ := hcs
      have hz' : zs.length = cap0 := by simpa using hz
      refine ⟨zs.take len0, reads_mk (by simp; omega) hl (fun i hi => ?_), fun z hzm => hwz z (List.mem_of_mem_take hzm), by simp; omega⟩
      simp at hi
      rw [hcell i (by omega)]
      simp [strsV, List.getD_eq_getElem?_getD, show i < zs.length by omega]
  obtain ⟨a1, rfl, rfl, rfl, w1⟩ := open_string Try.underlying9 (hval 1 9 v1 rfl rfl) h1
  clear hA0 hval0
  refine (walk _ z0 a1 W t0 w0 l0 w1).mono fun e W' ⟨he, bel⟩ => ?_
  subst he
  exact ⟨_, rfl, _, _, _, [], _, [], hW', trodAll_mk1 (shut_bool Try.underlying4 _), (trodAll_cons_mk (Below.trod laidOut (by kernel_rfl) (of_decide_eq_true (by kernel_rfl)) k0 bel lt0) (trodAll_cons_mk (shut_string Try.underlying9 w1) trodAll_mk0)), rfl, bel.frame _, fun h => by cases h⟩

theorem over : Rows.fnExactJoinRow.holds Try.pinned (OpenSpec.ofChange Rows.fnExactJoinSpec) :=
  OpenClaim.holds_of_wide 8 Try.f8 rfl rfl rfl rfl rfl rfl rfl ⟨rfl, rfl, rfl, rfl, rfl⟩ rfl rfl rfl rfl rfl (by kernel_rfl) Try.func8 (by kernel_rfl)
    (of_decide_eq_true (by kernel_rfl)) (by unfold Func.isWrapper; first | (rw [if_pos (by decide +kernel)]; kernel_rfl) | (rw [if_neg (by decide +kernel)]; exact ⟨rfl, rfl⟩))
    (fun os started H enc _ => lifted os started H enc)

theorem proved : Rows.FnExactJoinSaid := over
end Go.Proofs.Ythapeknfhlpadaa.fnExactJoin
namespace Go.Proofs.Ythapeknfhlpadaa
theorem fnExactJoin_holds : Rows.FnExactJoinSaid := fnExactJoin.proved
#print axioms fnExactJoin_holds
end Go.Proofs.Ythapeknfhlpadaa
