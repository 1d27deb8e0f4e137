/-
  At every version that comes in, the program answers VerText as the specification does, and what came in reads as it did; no condition but that the tables of the library hold at the start what the program text lays, which the card ties.
-/
import Derived.Test.YtjbhgmbbhbookaaDoorRows
import Derived.WalkKit
import Derived.Test.YtjbhgmbbhbookaaDoorCards
import Derived.Test.YtjbhgmbbhbookaaDoorTie
import Derived.Test.YtjbhgmbbhbookaaDoorTab
import Derived.Test.YtjbhgmbbhbookaaDoorVerU
import Derived.Test.YtjbhgmbbhbookaaDoorVerD
import Derived.Test.YtjbhgmbbhbookaaDoorOpenV
import Derived.ProofKit
import Derived.OpenShut
import Derived.ShutString
import Derived.SliceStrings
import Derived.ChangeOld
import Derived.Below
namespace Go.Proofs.YtjbhgmbbhbookaaDoor.fnExactVerText
open Go.ChangeShapes Go.WideShapes Go.ChangeAt Go.RowKit
open Go.ChangeMaps (open_string shut_string)
set_option linter.unusedVariables false
set_option linter.unusedSimpArgs false

theorem own : ownKnob Tryd.prog.godebug = none := by kernel_rfl
theorem laidOut : laidOutB Tryd.prog = true := by kernel_rfl

theorem addr_add (b off i : Nat) : ((⟨b, off, none⟩ : Addr).add i) = ⟨b, off + i, none⟩ := by unfold Addr.add; split <;> simp_all
theorem reads_mk {w : World} {x : Addr} {len cap : Nat} {xs : List Value} (hl : xs.length = len) (hc : len ≤ cap) (hcell : ∀ i (h : i < xs.length), w.cell? (x.add i) = some xs[i]) : Reads w (.slice (some x) len cap) xs := by
  subst hl
  by_cases h0 : xs.length = 0
  · exact ⟨some x, cap, rfl, hc, .inl (List.eq_nil_of_length_eq_zero h0)⟩
  · obtain ⟨b, off, spot⟩ := x
    have hc0 := hcell 0 (by omega)
    have hspot : spot = none := by simpa [Addr.add] using World.cell?_spot hc0
    subst hspot
    refine ⟨some ⟨b, off, none⟩, cap, rfl, hc, .inr ⟨b, off, rfl, ?_, fun i hi => ?_⟩⟩
    · rw [addr_add] at hc0; exact World.block_lt_of_cell? w _ hc0
    · have := hcell i hi; rw [addr_add] at this; exact this

set_option maxHeartbeats 4000000 in
set_option maxRecDepth 100000 in
theorem walk (xa0 xb0 xc0 : Int) (u0 : Value) (z0 : List ByteArray) (w : World) (r0 : Reads w u0 (strsV z0)) (s0 : saneP z0) (htab : Lib.TabIs Tryd.prog w "internal/strconv.uint64pow10" .u64 Lib.pow10Tab) :
    Calls Tryd.prog 5 #[.agg #[.int .i64 xa0, .int .i64 xb0, .int .i64 xc0, u0]] w fun e w' => e = .returned (.bool true) ∧ Below w.heap.size w w' := by
  have hbx : ∀ o, Below w.heap.size w (w.alloc o) := fun o => (Below.refl _ _).alloc (Nat.le_refl _) _
  have hrw : ∀ w1, Below w.heap.size w w1 → Reads w1 u0 (strsV z0) := fun w1 h1 => r0.below h1
  have HSz : Hid (∀ w1, Below w.heap.size w w1 → Calls Tryd.prog 23 #[.agg #[.int .i64 xa0, .int .i64 xb0, .int .i64 xc0, u0], .int .i64 1048576] w1 fun e w' => e = .returned (.int .i64 (leftS z0 1048576)) ∧ Below w1.heap.size w1 w') := fun w1 h1 => szVer_c _ _ _ _ z0 _ (by omega) (by omega) w1 (hrw w1 h1) s0
  obtain ⟨q, cap, hq, _, _⟩ := reads_strs r0
  subst hq
  by_cases hbig : 1048576 < bulkS z0
  · have e1 : leftS z0 1048576 = -1 := by rw [leftS, if_neg (by omega)]
    rw [e1] at HSz
    clear e1 hrw r0
    go_enter Tryd.func5, Tryd.ntmps5
    go_wp2_with (go_at_call 23; refine (HSz.out _ (hbx _)).mono ?_; rintro e w1 ⟨rfl, hb1⟩)
    go_ret
    exact ⟨rfl, (hbx _).trans (hb1.mono (by simp))⟩
  have hbk : bulkS z0 ≤ 1048576 := by omega
  have hn : z0.length ≤ 1048576 := by unfold bulkS at hbk; omega
  have HTo : Hid (∀ w1, Below w.heap.size w w1 → Calls Tryd.prog 25 #[.agg #[.int .i64 xa0, .int .i64 xb0, .int .i64 xc0, .slice q z0.length cap]] w1 fun e w' => ∃ g, e = .returned (.agg #[.int .i64 xa0, .int .i64 xb0, .int .i64 xc0, .slice (some ⟨g, 0, none⟩) z0.length z0.length]) ∧ Reads w' (.slice (some ⟨g, 0, none⟩) z0.length z0.length) (strsV z0) ∧ Below w1.heap.size w1 w') := fun w1 h1 => toVer_c _ _ _ _ z0 w1 (hrw w1 h1) hn
  obtain ⟨p, hp⟩ : ∃ p, p = leftS z0 1048576 := ⟨_, rfl⟩
  rw [← hp] at HSz
  have hp0 : 0 ≤ p := by rw [hp, leftS, if_pos (by omega)]; omega
  clear hp r0 hrw
  go_enter Tryd.func5, Tryd.ntmps5
  go_wp2_with (go_at_call 23; refine (HSz.out _ (hbx _)).mono ?_; rintro e w1 ⟨rfl, hb1⟩; obtain ⟨x0, x1, x2, x3⟩ := box4 hb1; have hw1 := (hbx _).trans (hb1.mono (by simp)); have hN1 : w.heap.size < w1.heap.size := by (have := hb1.size; simp at this; omega))
  go_at_call 25
  refine (HTo.out w1 hw1).mono ?_
  rintro e w2 ⟨g2, rfl, hX2, b2⟩
  have hw2 := hw1.trans (b2.mono hw1.size)
  go_wp2_with fail
  go_at_call 24
  refine (specVerText_c _ _ _ _ z0 w2 hX2 hbk).mono ?_
  rintro e w3 ⟨rfl, b3⟩
  have hw3 := hw2.trans (b3.mono hw2.size)
  have b13 : Below w1.heap.size w1 w3 := b2.trans (b3.mono b2.size)
  rw [← b13.cell (p := ⟨w.heap.size, _, none⟩) hN1] at x0 x1 x2 x3
  clear hX2 b2
  go_wp2_with fail
  go_at_call 25
  refine (HTo.out w3 hw3).mono ?_
  rintro e w4 ⟨g4, rfl, hX4, b4⟩
  have hw4 := hw3.trans (b4.mono hw3.size)
  have hN3 : w.heap.size < w3.heap.size := Nat.lt_of_lt_of_le hN1 b13.size
  rw [← b4.cell (p := ⟨w.heap.size, _, none⟩) hN3] at x0 x1 x2 x3
  go_wp2_with fail
  go_at_call 8
  have hA : Below w4.heap.size w4 (w4.alloc (.cells #[.int .i64 xa0, .int .i64 xb0, .int .i64 xc0, .slice (some ⟨g4, 0, none⟩) z0.length z0.length] 26)) := (Below.refl _ _).alloc (Nat.le_refl _) _
  refine (implVerText_c _ _ _ _ z0 _ (hX4.below hA) hbk (tabIs_below (hw4.trans (hA.mono hw4.size)) htab)).mono ?_
  rintro e w5 ⟨rfl, b5⟩
  obtain ⟨y0, y1, y2, y3⟩ := box4 b5
  have hN4 : w.heap.size < w4.heap.size := Nat.lt_of_lt_of_le hN3 b4.size
  have b45 : Below w4.heap.size w4 w5 := hA.trans (b5.mono (by simp))
  have hN5 : w4.heap.size < w5.heap.size := by have := b5.size; simp at this; omega
  rw [← b45.cell (p := ⟨w.heap.size, _, none⟩) hN4] at x0 x1 x2 x3
  have hw5 := hw4.trans (b45.mono hw4.size)
  have hX5 := hX4.below b45
  have HEq : Hid (∀ w6 g6, Below w5.heap.size w5 w6 → Reads w6 (.slice (some ⟨g6, 0, none⟩) z0.length z0.length) (strsV z0) → Calls Tryd.prog 26 #[.agg #[.int .i64 xa0, .int .i64 xb0, .int .i64 xc0, .slice (some ⟨g4, 0, none⟩) z0.length z0.length], .agg #[.int .i64 xa0, .int .i64 xb0, .int .i64 xc0, .slice (some ⟨g6, 0, none⟩) z0.length z0.length]] w6 fun e w' => e = .returned (.bool true) ∧ Below w6.heap.size w6 w') := fun w6 g6 h6 l6 => eqVer_c _ _ _ _ _ z0 w6 (hX5.below h6) l6 hn
  have HT5 := HTo.out w5.drew hw5.drew
  clear hX4 hX5 hA b4 b45 b5 b13 b3 hb1
  generalize verT xa0 xb0 xc0 z0 = T
  go_wp2_with fail
  go_region_with (first
    | (go_at_call 25; refine HT5.mono ?_; rintro e w6 ⟨g6, rfl, hX6, b6⟩; have t0 := (b6.cell (p := ⟨w4.heap.size, 0, none⟩) hN5).trans y0; have t1 := (b6.cell (p := ⟨w4.heap.size, 1, none⟩) hN5).trans y1; have t2 := (b6.cell (p := ⟨w4.heap.size, 2, none⟩) hN5).trans y2; have t3 := (b6.cell (p := ⟨w4.heap.size, 3, none⟩) hN5).trans y3)
    | (go_at_call 26; refine (HEq.out w6 g6 ((Below.refl _ _).drew.trans (b6.mono (Nat.le_refl _))) hX6).mono ?_; rintro e w7 ⟨rfl, b7⟩))
  all_goals go_wp2_with fail
  all_goals go_ret
  all_goals exact ⟨rfl, (hw5.drew.trans (b6.mono hw5.size)).trans (b7.mono (Nat.le_trans hw5.size b6.size))⟩

set_option maxRecDepth 100000 in
theorem witnessWorld (os : Os) {H : Type} (enc : TypeId × Value → H) : ∃ W0 : World, W0.os = os ∧ (W0.forCall (fun _ _ => 0) ⟨#[], #[.agg #[.int .i64 0, .int .i64 0, .int .i64 0, .slice none 0 0]], []⟩).variablesB Tryd.prog = true ∧
    ((W0.forCall (fun _ _ => 0) ⟨#[], #[.agg #[.int .i64 0, .int .i64 0, .int .i64 0, .slice none 0 0]], []⟩).heap.toList.drop Tryd.prog.globals.size).take ((begin Tryd.prog (fun _ _ => 0) default).world.heap.size - Tryd.prog.globals.size) = (begin Tryd.prog (fun _ _ => 0) default).world.heap.toList.drop Tryd.prog.globals.size ∧
    Input.okWideB Tryd.prog (W0.forCall (fun _ _ => 0) ⟨#[], #[.agg #[.int .i64 0, .int .i64 0, .int .i64 0, .slice none 0 0]], []⟩) 5 ⟨#[], #[.agg #[.int .i64 0, .int .i64 0, .int .i64 0, .slice none 0 0]], []⟩ = true ∧
    laidMet Tryd.prog Rows.fnExactVerTextRow.laid (W0.forCall (fun _ _ => 0) ⟨#[], #[.agg #[.int .i64 0, .int .i64 0, .int .i64 0, .slice none 0 0]], []⟩).memory ∧
    ∃ places, DataW.whole enc Tryd.prog (W0.forCall (fun _ _ => 0) ⟨#[], #[.agg #[.int .i64 0, .int .i64 0, .int .i64 0, .slice none 0 0]], []⟩).memory Tryd.f5.params.toList Rows.fnExactVerTextSpec.vars false (#[.agg #[.int .i64 0, .int .i64 0, .int .i64 0, .slice none 0 0]] : Array Value).toList 8 = some ([.agg [.lit (.int .i64 0), .lit (.int .i64 0), .lit (.int .i64 0), .nil]], [], places) :=
  ⟨{ World.holding Tryd.prog os ⟨#[], #[], []⟩ with heap := ((((World.holding Tryd.prog os ⟨#[], #[], []⟩).heap).modify 1 (fun | .cells _ t frozen => .cells #[.int .u8 0, .int .u8 1, .int .u8 28, .int .u8 2, .int .u8 29, .int .u8 14, .int .u8 24, .int .u8 3, .int .u8 30, .int .u8 22, .int .u8 20, .int .u8 15, .int .u8 25, .int .u8 17, .int .u8 4, .int .u8 8, .int .u8 31, .int .u8 27, .int .u8 13, .int .u8 23, .int .u8 21, .int .u8 19, .int .u8 16, .int .u8 7, .int .u8 26, .int .u8 12, .int .u8 18, .int .u8 6, .int .u8 11, .int .u8 5, .int .u8 10, .int .u8 9] t frozen | o => o)).modify 2 (fun | .cells _ t frozen => .cells #[.int .u8 0, .int .u8 1, .int .u8 56, .int .u8 2, .int .u8 57, .int .u8 49, .int .u8 28, .int .u8 3, .int .u8 61, .int .u8 58, .int .u8 42, .int .u8 50, .int .u8 38, .int .u8 29, .int .u8 17, .int .u8 4, .int .u8 62, .int .u8 47, .int .u8 59, .int .u8 36, .int .u8 45, .int .u8 43, .int .u8 51, .int .u8 22, .int .u8 53, .int .u8 39, .int .u8 33, .int .u8 30, .int .u8 24, .int .u8 18, .int .u8 12, .int .u8 5, .int .u8 63, .int .u8 55, .int .u8 48, .int .u8 27, .int .u8 60, .int .u8 41, .int .u8 37, .int .u8 16, .int .u8 46, .int .u8 35, .int .u8 44, .int .u8 21, .int .u8 52, .int .u8 32, .int .u8 23, .int .u8 11, .int .u8 54, .int .u8 26, .int .u8 40, .int .u8 15, .int .u8 34, .int .u8 20, .int .u8 31, .int .u8 10, .int .u8 25, .int .u8 14, .int .u8 19, .int .u8 9, .int .u8 13, .int .u8 8, .int .u8 7, .int .u8 6] t frozen | o => o)).modify 0 (fun | .cells _ t frozen => .cells #[.int .u64 1, .int .u64 10, .int .u64 100, .int .u64 1000, .int .u64 10000, .int .u64 100000, .int .u64 1000000, .int .u64 10000000, .int .u64 100000000, .int .u64 1000000000, .int .u64 10000000000, .int .u64 100000000000, .int .u64 1000000000000, .int .u64 10000000000000, .int .u64 100000000000000, .int .u64 1000000000000000, .int .u64 10000000000000000, .int .u64 100000000000000000, .int .u64 1000000000000000000, .int .u64 10000000000000000000] t frozen | o => o) },
    rfl, by kernel_rfl, by kernel_rfl, by kernel_rfl, laidMet_of_run3 8 (by kernel_rfl) (by kernel_rfl) (by kernel_rfl), [], by kernel_rfl⟩

set_option maxRecDepth 100000 in
theorem lifted (os : Os) (started : os.Started) (H : Type) (enc : TypeId × Value → H) (F : Stop.Interp) :
    ReturnsInHanded {} Tryd.checked os 5 .any ((OpenSpec.ofChange Rows.fnExactVerTextSpec).preRow enc Tryd.prog Tryd.f5 Rows.fnExactVerTextRow.domain false Rows.fnExactVerTextRow.laid) (((OpenSpec.ofChange Rows.fnExactVerTextSpec).at F).post enc Tryd.prog Tryd.f5 false true false false) := by
  obtain ⟨W0, hos, hv, hr, hok, hlaid, places, hx⟩ := witnessWorld os enc
  refine returnsInHanded_of_row (C := Tryd.checked) (s := OpenSpec.ofChange Rows.fnExactVerTextSpec) own started (by kernel_rfl) Tryd.func5
    (witness_row_at (enc := enc) (C := Tryd.checked) false W0 #[.agg #[.int .i64 0, .int .i64 0, .int .i64 0, .slice none 0 0]] hos hv hr hok
      (OpenSpec.preRow_of_cond 8 hx (by kernel_rfl) (fun k hk => by cases hk) (by kernel_rfl) hlaid)) ?_
  intro W base args ds gs before hval0 hW _ _ _ hL _ _
  have hval : ∀ (j : Nat) t v, Tryd.f5.params[j]? = some t → args[j]? = some v → Value.okWide Tryd.prog W .any base t v := hval0
  have hW' := hW
  obtain ⟨p, q, hA0, hV, rfl, hfz, hnd⟩ := hW
  have hA : DataW.TrodAll enc Tryd.prog W 0 (fun _ => true) true Tryd.f5.params.toList args.toList ds p := hA0
  rw [Tryd.params5] at hA hval
  obtain ⟨v0, vs0, d0, ds0, p0, q0, hargs, rfl, rfl, h0, r0⟩ := trodAll_cons hA
  obtain ⟨rfl, rfl, rfl⟩ := trodAll_nil r0
  obtain rfl : args = #[v0] := by cases args; simp_all
  obtain ⟨rfl, rfl⟩ := trodVars_none hV
  obtain ⟨cs0, rfl, _⟩ := okWide_struct Tryd.underlying47 (hval 0 47 v0 rfl rfl)
  have k0 := h0
  have lt0 : ∀ x ∈ p0, x.block < W.heap.size := by obtain ⟨m, hm⟩ := k0; exact DataW.trod_lt m _ _ _ hm
  obtain ⟨xa0, xb0, xc0, u0, z0, hcs0, t0, s0⟩ : ∃ a b c u ps, cs0.toList = [.int .i64 a, .int .i64 b, .int .i64 c, u] ∧ Reads W u (strsV ps) ∧ saneP ps := by
    obtain ⟨fuel, hf⟩ := h0
    exact ver_of_trod fuel _ _ hf
  obtain rfl : cs0 = #[.int .i64 xa0, .int .i64 xb0, .int .i64 xc0, u0] := by cases cs0; simp_all
  clear hA0 hval0
  refine (walk _ _ _ _ z0 W t0 s0 (powers hL)).mono fun e W' ⟨he, bel⟩ => ?_
  subst he
  exact ⟨_, rfl, _, _, _, [], _, [], hW', trodAll_mk1 (shut_bool Tryd.underlying4 _), (trodAll_cons_mk (Below.trod laidOut (by kernel_rfl) (of_decide_eq_true (by kernel_rfl)) k0 bel lt0) trodAll_mk0), rfl, bel.frame _, fun h => by cases h⟩

theorem said : Rows.FnExactVerTextSaid :=
  OpenClaim.holds_of_cond 5 Tryd.f5 rfl rfl rfl rfl rfl rfl rfl ⟨rfl, rfl, rfl, rfl, rfl⟩ rfl rfl rfl rfl rfl (by kernel_rfl) Tryd.func5 (by kernel_rfl)
    (of_decide_eq_true (by kernel_rfl)) (by unfold Func.isWrapper; first | (rw [if_pos (by decide +kernel)]; kernel_rfl) | (rw [if_neg (by decide +kernel)]; exact ⟨rfl, rfl⟩))
    (fun os started H enc _ F => by rw [OpenClaim.pre_eq_preRow]; exact lifted os started H enc F)

theorem plain (f : FuncId) (fn : Func) (hf : Tryd.pinned.checked.prog.funcNamed "loop.example/g00464/laws.FnExactVerText" = some f) (hfn : Tryd.pinned.checked.prog.funcs[f]? = some fn) :
    true = Tryd.pinned.checked.prog.looks [] ∧ ∀ (j : Nat) t, fn.params[j]? = some t → Tryd.pinned.checked.prog.wantsStandIn t = false := by
  obtain rfl : f = 5 := Option.some.inj ((show Tryd.prog.funcNamed "loop.example/g00464/laws.FnExactVerText" = some 5 by kernel_rfl).symm.trans hf) |>.symm
  obtain rfl : fn = Tryd.f5 := (Option.some.inj (Tryd.func5.symm.trans hfn)).symm
  refine ⟨by kernel_rfl, fun j t ht => ?_⟩
  have hall : (Tryd.f5.params.toList.all fun t => Tryd.prog.wantsStandIn t == false) = true := by kernel_rfl
  exact beq_iff_eq.1 (List.all_eq_true.1 hall t (Array.mem_toList_iff.2 (Array.mem_of_getElem? ht)))

theorem card : Rows.FnExactVerTextCardSaid :=
  Claim7.holds_tied_plain_at .later [] _ _ _ _ said (fun _ h => by cases h) (by kernel_rfl) (fun _ h => by cases h) fnExactVerText_row_tie rfl ⟨rfl, rfl⟩ (by kernel_rfl) rfl plain (by kernel_rfl)
end Go.Proofs.YtjbhgmbbhbookaaDoor.fnExactVerText
namespace Go.Proofs.YtjbhgmbbhbookaaDoor
theorem fnExactVerText_holds : Rows.FnExactVerTextCardSaid := fnExactVerText.card
#print axioms fnExactVerText_holds
end Go.Proofs.YtjbhgmbbhbookaaDoor
