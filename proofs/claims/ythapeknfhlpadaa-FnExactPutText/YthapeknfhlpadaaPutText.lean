/-
  For every list of bytes and every string the law FnExactPutText answers true and leaves its arguments as they were: the PutText of the program answers as that of the specification, writes into nothing that was handed in, and its answer owns its memory; no condition.
-/
import Derived.Test.YthapeknfhlpadaaRows
import Derived.WalkKit
import Derived.Test.YthapeknfhlpadaaPut
import Derived.ProofKit
import Derived.OpenShut
import Derived.ShutString
import Derived.ChangeOld
import Derived.Below
namespace Go.Proofs.Ythapeknfhlpadaa.fnExactPutText
open Go.ChangeShapes Go.WideShapes Go.ChangeAt Go.RowKit
open Go.ChangeMaps (open_string shut_string)
set_option linter.unusedVariables false

theorem own : ownKnob Try.prog.godebug = none := by kernel_rfl
theorem laidOut : laidOutB Try.prog = true := by kernel_rfl

/-- WHAT THE WALK IS TOLD OF A SLICE OF INTEGERS THAT CAME IN: it is nil; or it leads to a row of 'cap' cells, the numbers 'zs' (the first 'len' are its elements, the rest its spare room), each fitting its kind. -/
def IsRow (k : IntKind) (w : World) (a : Option Addr) (len cap : Nat) (zs : List Int) : Prop :=
  (a = none ∧ len = 0 ∧ cap = 0 ∧ zs = []) ∨
  ∃ x, a = some x ∧ len ≤ cap ∧ cap ≤ maxLen ∧ zs.length = cap ∧ (∀ i, i < zs.length → w.cell? (x.add i) = some (.int k (zs.getD i 0))) ∧ ∀ n ∈ zs, (Lit.int k n).wf = true

theorem reads_of_row {w : World} {a : Option Addr} {len cap : Nat} {zs : List Int} (h : IsRow .u8 w a len cap zs) :
    ∃ ys : List Int, ys.length = len ∧ Reads w (.slice a len cap) (bytesV ys) ∧ ∀ z ∈ ys, 0 ≤ z ∧ z ≤ 255 := by
  rcases h with ⟨rfl, rfl, rfl, rfl⟩ | ⟨x, rfl, hl, hm, hz, hcell, hwz⟩
  · exact ⟨[], rfl, ⟨none, 0, rfl, Nat.le_refl _, .inl rfl⟩, by simp⟩
  · refine ⟨zs.take len, by simp; omega, ?_, fun z hz' => ?_⟩
    · by_cases h0 : len = 0
      · subst h0
        exact ⟨some x, cap, by simp [bytesV], by simp [bytesV], .inl (by simp [bytesV])⟩
      · obtain ⟨b, off, spot⟩ := x
        have hc0 := hcell 0 (by omega)
        have hspot : spot = none := by simpa [Addr.add] using World.cell?_spot hc0
        subst hspot
        have hlen : (bytesV (zs.take len)).length = len := by simp; omega
        refine ⟨some ⟨b, off, none⟩, cap, by rw [hlen], by omega, .inr ⟨b, off, rfl, World.block_lt_of_cell? w _ hc0, fun i hi => ?_⟩⟩
        have hi' : i < zs.length := by omega
        have hc := hcell i hi'
        rw [show ((⟨b, off, none⟩ : Addr).add i) = ⟨b, off + i, none⟩ by unfold Addr.add; split <;> simp_all] at hc
        rw [hc]
        simp [bytesV, List.getD_eq_getElem?_getD, hi']
    · have := hwz z (List.mem_of_mem_take hz')
      simpa [Lit.wf, IntKind.min, IntKind.max, IntKind.signed, IntKind.bits] using this

theorem apart_old {w1 w2 : World} {b1 b2 : Nat} {e1 e2 : TypeId} {v1 v2 : Value} {n1 n2 : Nat} {x1 x2 : List Value} (h1 : w1.ownsRow b1 e1 1 v1 n1 x1) (h2 : w2.ownsRow b2 e2 1 v2 n2 x2) (hb : w1.heap.size ≤ b2) : v1.ownBlock = none ∨ v1.ownBlock ≠ v2.ownBlock := by
  cases e : v1.ownBlock with
  | none => exact .inl rfl
  | some k =>
    refine .inr fun h => ?_
    have := (h1.lt k e).2
    have := (h2.lt k h.symm).1
    omega
theorem apart_new {w1 w2 : World} {b1 b2 : Nat} {e1 e2 : TypeId} {v1 v2 : Value} {n1 n2 : Nat} {x1 x2 : List Value} (h1 : w1.ownsRow b1 e1 1 v1 n1 x1) (h2 : w2.ownsRow b2 e2 1 v2 n2 x2) (hb : w1.heap.size ≤ b2) : v2.ownBlock = none ∨ v2.ownBlock ≠ v1.ownBlock := by
  cases e : v2.ownBlock with
  | none => exact .inl rfl
  | some k =>
    refine .inr fun h => ?_
    have := (h1.lt k h.symm).2
    have := (h2.lt k e).1
    omega

/-! ### STEP 1: THE WALK: the Go text returns true, AND WRITES NOTHING THAT WAS THERE: 'Below w.heap.size w w'' (Derived/Below.lean: '.refl', '.alloc', '.drew', '.setCell' at a new block, '.trans'). Open each 'IsRow' by 'rcases' AHEAD of 'go_enter'; part every test ahead of the walk. -/
set_option maxHeartbeats 4000000 in
set_option maxRecDepth 100000 in
theorem walk (a0 : Option Addr) (len0 cap0 : Nat) (z0 : List Int) (a1 : ByteArray) (w : World) (w0 : IsRow .u8 w a0 len0 cap0 z0) (w1 : a1.size ≤ maxLen) :
    Calls Try.prog 10 #[.slice a0 len0 cap0, .string a1] w fun e w' => e = .returned (.bool true) ∧ Below w.heap.size w w' := by
  obtain ⟨zs, hl, hr, hz⟩ := reads_of_row w0
  subst hl
  clear w0
  by_cases hb : (1048576 : Int) < (zs.length : Int)
  · go_enter Try.func10, Try.ntmps10
    go_wp2
    go_ret
    exact ⟨rfl, Below.refl _ _⟩
  by_cases hb2 : (1048576 : Int) < (a1.size : Int)
  · go_enter Try.func10, Try.ntmps10
    go_wp2
    go_ret
    exact ⟨rfl, Below.refl _ _⟩
  · have hn : zs.length ≤ 281474976710656 := by omega
    have hn2 : zs.length ≤ 70368744177664 := by omega
    have hn3 : zs.length ≤ 35184372088832 := by omega
    have hs : a1.size ≤ 1048576 := by omega
    have hpl := putB_len zs a1
    obtain ⟨ps, hps⟩ : ∃ ps, ps = putB zs a1 := ⟨_, rfl⟩
    rw [← hps] at hpl
    have hnp : ps.length ≤ 281474976710656 := by omega
    have hdd : ∀ l : List Int, decide (l = l) = true := fun l => by simp
    have hq : ¬ ((1 : Int) + (ps.length : Int) < 0) := by omega
    have hq2 : ¬ ((1 : Int) + (zs.length : Int) < 0) := by omega
    go_enter Try.func10, Try.ntmps10
    go_wp2_with (go_at_call 36; refine (toBytes_c _ zs _ hr hn).mono ?_; rintro e w1 ⟨g1, rfl, o1, b1⟩)
    go_wp2_with (go_at_call 35; refine (specPut_c _ _ zs _ _ o1 (by simp) hn2 hs).mono ?_; rintro e w2 ⟨vW, rfl, oW, b2⟩)
    rw [← hps] at oW
    have c2 := b1.trans (b2.mono b1.size)
    clear o1 b2
    go_wp2_with (go_at_call 36; refine (toBytes_c _ zs _ (hr.below c2) hn).mono ?_; rintro e w3 ⟨g3, rfl, o3, b3⟩)
    have c3 := c2.trans (b3.mono c2.size)
    have oW3 := owns_of_below oW b3
    have aWx := apart_old oW o3 (Nat.le_refl _)
    clear oW b3
    go_wp2_with (go_at_call 14; refine (implPut_c _ _ zs _ _ o3 (by simp) hn3).mono ?_; rintro e w4 ⟨vG, rfl, oG, b4⟩)
    rw [← hps] at oG
    have c4 := c3.trans (b4.mono c3.size)
    have oW4 := owns_of_below oW3 b4
    have o34 := owns_of_below o3 b4
    have aWG := apart_old oW3 oG (Nat.le_refl _)
    have aGx := apart_new o3 oG (Nat.le_refl _)
    clear oW3 o3 b4
    go_wp2_with (go_at_call 37; refine (eqBytes_c _ _ ps ps _ (reads_of_owns oG) (reads_of_owns oW4) hnp).mono ?_; rintro e w5 ⟨rfl, b5⟩)
    have c5 := c4.trans (b5.mono c4.size)
    have oW5 := owns_of_below oW4 b5
    have oG5 := owns_of_below oG b5
    have o35 := owns_of_below o34 b5
    clear oW4 oG o34 b5
    go_wp2_with (go_at_call 36; refine (toBytes_c _ zs _ (hr.below c5) hn).mono ?_; rintro e w6 ⟨g6, rfl, o6, b6⟩)
    have c6 := c5.trans (b6.mono c5.size)
    have oW6 := owns_of_below oW5 b6
    have oG6 := owns_of_below oG5 b6
    have o36 := owns_of_below o35 b6
    clear oW5 oG5 o35 b6
    go_wp2_with (go_at_call 37; refine (eqBytes_c _ _ zs zs _ (reads_of_owns o36) (reads_of_owns o6) hn).mono ?_; rintro e w7 ⟨rfl, b7⟩)
    have c7 := c6.trans (b7.mono c6.size)
    have oW7 := owns_of_below oW6 b7
    have oG7 := owns_of_below oG6 b7
    have o37 := owns_of_below o36 b7
    clear oW6 oG6 o36 o6 b7
    go_wp2_with (go_at_call 38; refine (markBytes_c _ _ zs.length _ 1 _ o37 (by omega) (by omega) hn).mono ?_; rintro e w8 ⟨rfl, _, gr8⟩)
    have c8 : Below w.heap.size w w8 := Below.grown c7 gr8 c7.size (fun k hk => Nat.le_trans c2.size (o37.lt k hk).1)
    have oW8 := oW7.kept gr8 aWx
    have oG8 := oG7.kept gr8 aGx
    clear oW7 oG7 o37 gr8 aWx aGx
    go_wp2_with (go_at_call 37; refine (eqBytes_c _ _ ps ps _ (reads_of_owns oG8) (reads_of_owns oW8) hnp).mono ?_; rintro e w9 ⟨rfl, b9⟩)
    have c9 := c8.trans (b9.mono c8.size)
    have oW9 := owns_of_below oW8 b9
    have oG9 := owns_of_below oG8 b9
    clear oW8 oG8 b9
    go_wp2_with (go_at_call 38; refine (markBytes_c _ _ ps.length _ 1 _ oG9 (by omega) (by omega) hnp).mono ?_; rintro e w10 ⟨rfl, oG10, gr10⟩)
    have c10 : Below w.heap.size w w10 := Below.grown c9 gr10 c9.size (fun k hk => Nat.le_trans c3.size (oG9.lt k hk).1)
    have oW10 := oW9.kept gr10 aWG
    clear oW9 oG9 gr10 aWG
    go_wp2_with (go_at_call 39; refine (heldBytes_c _ ps.length 1 _ (reads_of_owns oG10) (by omega) (by omega) hnp).mono ?_; rintro e w11 ⟨rfl, rfl⟩)
    go_wp2_with (go_at_call 36; refine (toBytes_c _ zs _ (hr.below c10) hn).mono ?_; rintro e w12 ⟨g12, rfl, o12, b12⟩)
    have c12 := c10.trans (b12.mono c10.size)
    have oW12 := owns_of_below oW10 b12
    have oG12 := owns_of_below oG10 b12
    clear oW10 oG10 b12
    go_wp2_with (go_at_call 14; refine (implPut_c _ _ zs _ _ o12 (by simp) hn3).mono ?_; rintro e w13 ⟨vH, rfl, oH, b13⟩)
    rw [← hps] at oH
    have c13 := c12.trans (b13.mono c12.size)
    have oW13 := owns_of_below oW12 b13
    have oG13 := owns_of_below oG12 b13
    clear oW12 oG12 b13 o12
    go_wp2_with (go_at_call 37; refine (eqBytes_c _ _ ps ps _ (reads_of_owns oH) (reads_of_owns oW13) hnp).mono ?_; rintro e w14 ⟨rfl, b14⟩)
    have c14 := c13.trans (b14.mono c13.size)
    have oG14 := owns_of_below oG13 b14
    clear oW13 oG13 b14
    go_wp2_with (go_at_call 39; refine (heldBytes_c _ ps.length 1 _ (reads_of_owns oG14) (by omega) (by omega) hnp).mono ?_; rintro e w15 ⟨rfl, rfl⟩)
    go_ret
    exact ⟨rfl, c14⟩

/-! ### THE ROW's STEP: WRITTEN OUT: LEAVE IT -/
set_option maxRecDepth 100000 in
theorem lifted (os : Os) (started : os.Started) (H : Type) (enc : TypeId × Value → H) :
    ReturnsInHanded {} Try.checked os 10 .any (Rows.fnExactPutTextSpec.pre6 enc Try.prog Try.f10 Rows.fnExactPutTextRow.domain false) (Rows.fnExactPutTextSpec.post enc Try.prog Try.f10 false true false false) := by
  refine returnsInHanded_of_change (C := Try.checked) own started (by kernel_rfl) Try.func10
    (ChangeSpec.witness6 (enc := enc) (C := Try.checked) false ⟨#[], #[.slice none 0 0, .string ByteArray.empty], []⟩ 8 (by kernel_rfl) (by kernel_rfl) (by kernel_rfl) (by kernel_rfl)) ?_
  intro W base args ds gs before hval0 hW hcnd _
  have hval : ∀ (j : Nat) t v, Try.f10.params[j]? = some t → args[j]? = some v → Value.okWide Try.prog W .any base t v := hval0
  have hW' := hW
  obtain ⟨p, q, hA0, hV, rfl, hfz, hnd⟩ := hW
  have hA : DataW.TrodAll enc Try.prog W 0 (fun _ => true) true Try.f10.params.toList args.toList ds p := hA0
  rw [Try.params10] at hA hval
  obtain ⟨v0, vs0, d0, ds0, p0, q0, hargs, rfl, rfl, h0, r0⟩ := trodAll_cons hA
  obtain ⟨v1, vs1, d1, ds1, p1, q1, rfl, rfl, rfl, h1, r1⟩ := trodAll_cons r0
  obtain ⟨rfl, rfl, rfl⟩ := trodAll_nil r1
  obtain rfl : args = #[v0, v1] := by cases args; simp_all
  obtain ⟨rfl, rfl⟩ := trodVars_none hV
  obtain ⟨a0, len0, cap0, rfl⟩ := okWide_slice Try.underlying22 (hval 0 22 v0 rfl rfl)
  have k0 := h0
  have lt0 : ∀ x ∈ p0, x.block < W.heap.size := by obtain ⟨m, hm⟩ := k0; exact DataW.trod_lt m _ _ _ hm
  obtain ⟨z0, w0⟩ : ∃ zs, IsRow .u8 W a0 len0 cap0 zs := by
    obtain ⟨fuel, hf⟩ := h0
    rcases open_ints Try.underlying22 Try.underlying5 (by kernel_rfl) hf with ⟨hcs, _⟩ | ⟨x, l, c, zs, hcs, _, hl, hm, hz, _, hcell, hwz⟩
    · simp [Value.cells] at hcs
      obtain ⟨rfl, rfl, rfl⟩ := hcs
      exact ⟨[], .inl ⟨rfl, rfl, rfl, rfl⟩⟩
    · simp [Value.cells] at hcs
      obtain ⟨rfl, rfl, rfl⟩ := hcs
      exact ⟨zs, .inr ⟨_, rfl, hl, hm, by simpa using hz, hcell, hwz⟩⟩
  obtain ⟨a1, rfl, rfl, rfl, w1⟩ := open_string Try.underlying9 (hval 1 9 v1 rfl rfl) h1
  clear hA0 hval0
  refine (walk a0 len0 cap0 z0 a1 W w0 w1).mono fun e W' ⟨he, bel⟩ => ?_
  subst he
  exact ⟨_, rfl, _, _, _, [], _, [], hW', trodAll_mk1 (shut_bool Try.underlying4 _), (trodAll_cons_mk (Below.trod laidOut (by kernel_rfl) (of_decide_eq_true (by kernel_rfl)) k0 bel lt0) (trodAll_cons_mk (shut_string Try.underlying9 w1) trodAll_mk0)), rfl, bel.frame _, fun h => by cases h⟩

theorem over : Rows.fnExactPutTextRow.holds Try.pinned (OpenSpec.ofChange Rows.fnExactPutTextSpec) :=
  OpenClaim.holds_of_wide 10 Try.f10 rfl rfl rfl rfl rfl rfl rfl ⟨rfl, rfl, rfl, rfl, rfl⟩ rfl rfl rfl rfl rfl (by kernel_rfl) Try.func10 (by kernel_rfl)
    (of_decide_eq_true (by kernel_rfl)) (by unfold Func.isWrapper; first | (rw [if_pos (by decide +kernel)]; kernel_rfl) | (rw [if_neg (by decide +kernel)]; exact ⟨rfl, rfl⟩))
    (fun os started H enc _ => lifted os started H enc)

theorem proved : Rows.FnExactPutTextSaid := over
#print axioms proved
end Go.Proofs.Ythapeknfhlpadaa.fnExactPutText
namespace Go.Proofs.Ythapeknfhlpadaa
theorem fnExactPutText_holds : Rows.FnExactPutTextSaid := fnExactPutText.proved
end Go.Proofs.Ythapeknfhlpadaa
