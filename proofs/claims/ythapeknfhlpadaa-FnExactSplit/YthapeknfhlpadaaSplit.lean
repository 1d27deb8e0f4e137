/-
  For every string and every byte the law FnExactSplit answers true and leaves its arguments as they were: the Split of the program answers as that of the specification, and its answer owns its memory, behind another call too; no condition.
-/
import Derived.Test.YthapeknfhlpadaaRows
import Derived.WalkKit
import Derived.Test.YthapeknfhlpadaaSplitB
import Derived.ProofKit
import Derived.OpenShut
import Derived.ShutString
import Derived.ChangeOld
import Derived.Below
namespace Go.Proofs.Ythapeknfhlpadaa.fnExactSplit
open Go.ChangeShapes Go.WideShapes Go.ChangeAt Go.RowKit
open Go.ChangeMaps (open_string shut_string)
set_option linter.unusedVariables false      -- a walk need not use every 'w<i>' (that an integer argument fits its kind)

theorem own : ownKnob Try.prog.godebug = none := by kernel_rfl

theorem splitGo_len (s : ByteArray) (c : Int) : ∀ f i b, (splitGo s c f i b).length ≤ f + 1
  | 0, i, b => by simp [splitGo]
  | f + 1, i, b => by
    rw [splitGo]
    split
    · have := splitGo_len s c f (i + 1) (i + 1); simp; omega
    · have := splitGo_len s c f (i + 1) b; omega
theorem splitS_len (s : ByteArray) (c : Int) : (splitS s c).length ≤ s.size + 1 := splitGo_len s c _ _ _
theorem apart_old {w1 w2 : World} {b1 b2 : Nat} {e1 e2 : TypeId} {v1 v2 : Value} {n1 n2 : Nat} {x1 x2 : List Value} (h1 : w1.ownsRow b1 e1 1 v1 n1 x1) (h2 : w2.ownsRow b2 e2 1 v2 n2 x2) (hb : w1.heap.size ≤ b2) : v1.ownBlock = none ∨ v1.ownBlock ≠ v2.ownBlock := by
  cases e : v1.ownBlock with
  | none => exact .inl rfl
  | some k =>
    refine .inr fun h => ?_
    have := (h1.lt k e).2
    have := (h2.lt k h.symm).1
    omega
theorem apart_new {w1 w2 : World} {b1 b2 : Nat} {e1 e2 : TypeId} {v1 v2 : Value} {n1 n2 : Nat} {x1 x2 : List Value} (h1 : w1.ownsRow b1 e1 1 v1 n1 x1) (h2 : w2.ownsRow b2 e2 1 v2 n2 x2) (hb : w1.heap.size ≤ b2) : v2.ownBlock = none ∨ v2.ownBlock ≠ v1.ownBlock := by
  cases e : v2.ownBlock with
  | none => exact .inl rfl
  | some k =>
    refine .inr fun h => ?_
    have := (h1.lt k h.symm).2
    have := (h2.lt k e).1
    omega

/-! ### STEP 1: THE WALK: the Go text returns true. 'Grown w w'': the world has at most new blocks (Derived/RowKit3.lean). Part the cases AHEAD of 'go_enter' where a test parts the walk; take each callee by a contract of your own. -/
set_option maxHeartbeats 4000000 in
set_option maxRecDepth 100000 in
theorem walk (a0 : ByteArray) (a1 : Int) (w0 : a0.size ≤ maxLen) (w1 : (Lit.int .u8 a1).wf = true) (w : World) :
    Calls Try.prog 7 #[.string a0, .int .u8 a1] w fun e w' => e = .returned (.bool true) ∧ Below w.heap.size w w' := by
  have hc : 0 ≤ a1 ∧ a1 ≤ 255 := by simpa [Lit.wf, IntKind.min, IntKind.max, IntKind.signed, IntKind.bits] using w1
  by_cases hb : (1048576 : Int) < (a0.size : Int)
  · go_enter Try.func7, Try.ntmps7
    go_wp2
    go_ret
    exact ⟨rfl, Below.refl _ _⟩
  · have hs : a0.size ≤ 1048576 := by omega
    have hpl := splitS_len a0 a1
    obtain ⟨ps, hps⟩ : ∃ ps, ps = splitS a0 a1 := ⟨_, rfl⟩
    rw [← hps] at hpl
    have hnp : ps.length ≤ 1099511627776 := by omega
    have hnq : ps.length ≤ 4294967296 := by omega
    have hdd : ∀ l : List ByteArray, decide (l = l) = true := fun l => by simp
    have hq : ¬ ((1 : Int) + (ps.length : Int) < 0) := by omega
    clear w0 w1
    go_enter Try.func7, Try.ntmps7
    go_wp2_with (go_at_call 24; refine (specSplit_c _ _ _ hs).mono ?_; rintro e w1 ⟨vW, rfl, oW, b1⟩)
    rw [← hps] at oW
    go_wp2_with (go_at_call 25; refine (implSplit_c _ _ _ hs hc.1 hc.2).mono ?_; rintro e w2 ⟨vG, rfl, oG, b2⟩)
    rw [← hps] at oG
    have c2 := b1.trans (b2.mono b1.size)
    have oW2 := owns_of_below oW b2
    have aWG := apart_old oW oG (Nat.le_refl _)
    have b2s := b2.size
    clear oW b2
    go_wp2_with (go_at_call 26; refine (eqStrs_c _ _ ps ps _ (reads_of_owns oG) (reads_of_owns oW2) hnp).mono ?_; rintro e w3 ⟨rfl, b3⟩)
    have c3 := c2.trans (b3.mono c2.size)
    have oW3 := owns_of_below oW2 b3
    have oG3 := owns_of_below oG b3
    clear oW2 oG
    go_wp2_with (go_at_call 27; refine (markStrs_c _ _ ps.length _ 1 _ oG3 (by omega) (by omega) hnq (Nat.le_trans b2s b3.size)).mono ?_; rintro e w4 ⟨rfl, oG4, gr4⟩)
    have c4 : Below w.heap.size w w4 := Below.grown c3 gr4 c3.size (fun k hk => Nat.le_trans b1.size (oG3.lt k hk).1)
    have oW4 := oW3.kept gr4 aWG
    clear oW3 oG3 gr4 aWG b3
    go_wp2_with (go_at_call 28; refine (heldStrs_c _ ps.length 1 _ (reads_of_owns oG4) (by omega) (by omega) hnq).mono ?_; rintro e w5 ⟨rfl, b5⟩)
    have c5 := c4.trans (b5.mono c4.size)
    have oW5 := owns_of_below oW4 b5
    have oG5 := owns_of_below oG4 b5
    clear oW4 oG4 b5
    go_wp2_with (go_at_call 25; refine (implSplit_c _ _ _ hs hc.1 hc.2).mono ?_; rintro e w6 ⟨vH, rfl, oH, b6⟩)
    rw [← hps] at oH
    have c6 := c5.trans (b6.mono c5.size)
    have oW6 := owns_of_below oW5 b6
    have oG6 := owns_of_below oG5 b6
    clear oW5 oG5 b6
    go_wp2_with (go_at_call 26; refine (eqStrs_c _ _ ps ps _ (reads_of_owns oH) (reads_of_owns oW6) hnp).mono ?_; rintro e w7 ⟨rfl, b7⟩)
    have c7 := c6.trans (b7.mono c6.size)
    have oG7 := owns_of_below oG6 b7
    clear oW6 oG6 oH b7
    go_wp2_with (go_at_call 28; refine (heldStrs_c _ ps.length 1 _ (reads_of_owns oG7) (by omega) (by omega) hnq).mono ?_; rintro e w8 ⟨rfl, b8⟩)
    have c8 := c7.trans (b8.mono c7.size)
    go_ret
    exact ⟨rfl, c8⟩

/-! ### THE ROW's STEP: WRITTEN OUT: LEAVE IT -/
set_option maxRecDepth 100000 in
theorem lifted (os : Os) (started : os.Started) (H : Type) (enc : TypeId × Value → H) :
    ReturnsInHanded {} Try.checked os 7 .any (Rows.fnExactSplitSpec.pre6 enc Try.prog Try.f7 Rows.fnExactSplitRow.domain false) (Rows.fnExactSplitSpec.post enc Try.prog Try.f7 false true false false) := by
  refine returnsInHanded_of_change (C := Try.checked) own started (by kernel_rfl) Try.func7
    (ChangeSpec.witness6 (enc := enc) (C := Try.checked) false ⟨#[], #[.string ByteArray.empty, .int .u8 0], []⟩ 8 (by kernel_rfl) (by kernel_rfl) (by kernel_rfl) (by kernel_rfl)) ?_
  intro W base args ds gs before hval0 hW hcnd _
  have hval : ∀ (j : Nat) t v, Try.f7.params[j]? = some t → args[j]? = some v → Value.okWide Try.prog W .any base t v := hval0
  have hW' := hW
  obtain ⟨p, q, hA0, hV, rfl, hfz, hnd⟩ := hW
  have hA : DataW.TrodAll enc Try.prog W 0 (fun _ => true) true Try.f7.params.toList args.toList ds p := hA0
  rw [Try.params7] at hA hval
  obtain ⟨v0, vs0, d0, ds0, p0, q0, hargs, rfl, rfl, h0, r0⟩ := trodAll_cons hA
  obtain ⟨v1, vs1, d1, ds1, p1, q1, rfl, rfl, rfl, h1, r1⟩ := trodAll_cons r0
  obtain ⟨rfl, rfl, rfl⟩ := trodAll_nil r1
  obtain rfl : args = #[v0, v1] := by cases args; simp_all
  obtain ⟨rfl, rfl⟩ := trodVars_none hV
  obtain ⟨a0, rfl, rfl, rfl, w0⟩ := open_string Try.underlying9 (hval 0 9 v0 rfl rfl) h0
  obtain ⟨a1, rfl, rfl, rfl, w1⟩ := open_int Try.underlying5 (hval 1 5 v1 rfl rfl) h1
  clear hA0 hval0
  refine (walk a0 a1 w0 w1 W).mono fun e W' ⟨he, bel⟩ => ?_
  subst he
  exact ⟨_, rfl, _, _, _, [], _, [], hW', (trodAll_cons_mk (shut_bool Try.underlying4 _) trodAll_mk0), (trodAll_cons_mk (shut_string Try.underlying9 w0) (trodAll_cons_mk (shut_int Try.underlying5 w1) trodAll_mk0)), rfl, bel.frame _, fun h => by cases h⟩

theorem over : Rows.fnExactSplitRow.holds Try.pinned (OpenSpec.ofChange Rows.fnExactSplitSpec) :=
  OpenClaim.holds_of_wide 7 Try.f7 rfl rfl rfl rfl rfl rfl rfl ⟨rfl, rfl, rfl, rfl, rfl⟩ rfl rfl rfl rfl rfl (by kernel_rfl) Try.func7 (by kernel_rfl)
    (of_decide_eq_true (by kernel_rfl)) (by unfold Func.isWrapper; first | (rw [if_pos (by decide +kernel)]; kernel_rfl) | (rw [if_neg (by decide +kernel)]; exact ⟨rfl, rfl⟩))
    (fun os started H enc _ => lifted os started H enc)

theorem proved : Rows.FnExactSplitSaid :=
  over
#print axioms proved
end Go.Proofs.Ythapeknfhlpadaa.fnExactSplit
namespace Go.Proofs.Ythapeknfhlpadaa
theorem fnExactSplit_holds : Rows.FnExactSplitSaid := fnExactSplit.proved
end Go.Proofs.Ythapeknfhlpadaa
