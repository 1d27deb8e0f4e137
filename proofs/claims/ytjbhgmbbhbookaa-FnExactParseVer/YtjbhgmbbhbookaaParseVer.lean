/-
  At every text that comes in, the program answers ParseVer as the specification does, field by field; its answer lies in memory of its own, behind another call too; no condition.
-/
import Derived.Test.YtjbhgmbbhbookaaRows
import Derived.WalkKit
import Derived.Test.YtjbhgmbbhbookaaVerQ
import Derived.Test.YtjbhgmbbhbookaaVerR
import Derived.ProofKit
import Derived.OpenShut
import Derived.ShutString
import Derived.SliceStrings
import Derived.ChangeOld
import Derived.Below
namespace Go.Proofs.Ytjbhgmbbhbookaa.fnExactParseVer
open Go.ChangeShapes Go.WideShapes Go.ChangeAt Go.RowKit
open Go.ChangeMaps (open_string shut_string)
set_option linter.unusedVariables false
set_option linter.unusedSimpArgs false

theorem own : ownKnob Try.prog.godebug = none := by kernel_rfl
theorem laidOut : laidOutB Try.prog = true := by kernel_rfl

theorem addr_add (b off i : Nat) : ((⟨b, off, none⟩ : Addr).add i) = ⟨b, off + i, none⟩ := by unfold Addr.add; split <;> simp_all
theorem reads_mk {w : World} {x : Addr} {len cap : Nat} {xs : List Value} (hl : xs.length = len) (hc : len ≤ cap) (hcell : ∀ i (h : i < xs.length), w.cell? (x.add i) = some xs[i]) : Reads w (.slice (some x) len cap) xs := by
  subst hl
  by_cases h0 : xs.length = 0
  · exact ⟨some x, cap, rfl, hc, .inl (List.eq_nil_of_length_eq_zero h0)⟩
  · obtain ⟨b, off, spot⟩ := x
    have hc0 := hcell 0 (by omega)
    have hspot : spot = none := by simpa [Addr.add] using World.cell?_spot hc0
    subst hspot
    refine ⟨some ⟨b, off, none⟩, cap, rfl, hc, .inr ⟨b, off, rfl, ?_, fun i hi => ?_⟩⟩
    · rw [addr_add] at hc0; exact World.block_lt_of_cell? w _ hc0
    · have := hcell i hi; rw [addr_add] at this; exact this

set_option maxHeartbeats 4000000 in
set_option maxRecDepth 100000 in
theorem walk (a0 : ByteArray) (w : World) (w0 : a0.size ≤ maxLen) :
    Calls Try.prog 6 #[.string a0] w fun e w' => e = .returned (.bool true) ∧ Below w.heap.size w w' := by
  by_cases hbig : 1048576 < a0.size
  · have hbig' : (1048576 : Int) < (a0.size : Int) := by omega
    unfold maxLen at w0
    go_enter Try.func6, Try.ntmps6
    go_wp2
    go_ret
    exact ⟨rfl, Below.refl _ _⟩
  have hbig' : ¬ (1048576 : Int) < (a0.size : Int) := by omega
  have hs : a0.size ≤ 1048576 := by omega
  have hpl := resP_len a0
  obtain ⟨ps, hps⟩ : ∃ ps, ps = resP a0 := ⟨_, rfl⟩
  obtain ⟨m0, hm0⟩ : ∃ m, m = resN a0 0 := ⟨_, rfl⟩
  obtain ⟨m1, hm1⟩ : ∃ m, m = resN a0 1 := ⟨_, rfl⟩
  obtain ⟨m2, hm2⟩ : ∃ m, m = resN a0 2 := ⟨_, rfl⟩
  obtain ⟨ok, hok⟩ : ∃ m, m = resOk a0 := ⟨_, rfl⟩
  have HS : Hid (∀ w1, Calls Try.prog 27 #[.string a0] w1 fun e w' => ∃ u, e = .returned (.tuple #[.agg #[.int .i64 m0, .int .i64 m1, .int .i64 m2, u], .bool ok]) ∧ Reads w' u (strsV ps) ∧ Below w1.heap.size w1 w') := fun w1 => by rw [hps, hm0, hm1, hm2, hok]; exact specParse_c a0 hs w1
  have HI : Hid (∀ w1, Calls Try.prog 28 #[.string a0] w1 fun e w' => ∃ u, e = .returned (.tuple #[.agg #[.int .i64 m0, .int .i64 m1, .int .i64 m2, u], .bool ok]) ∧ w'.ownsRow w1.heap.size 9 1 u ps.length (strsV ps) ∧ Below w1.heap.size w1 w') := fun w1 => by rw [hps, hm0, hm1, hm2, hok]; exact implParse_c a0 hs w1
  rw [← hps] at hpl
  have hpl2 : ps.length ≤ 1048576 := by omega
  clear hps hm0 hm1 hm2 hok
  go_enter Try.func6, Try.ntmps6
  go_wp2_with fail
  go_at_call 27
  refine (HS.out _).mono ?_
  rintro e w1 ⟨u1, rfl, r1, b1⟩
  obtain ⟨q1, c1, hu1, _, _⟩ := reads_strs r1
  subst hu1
  go_wp2_with fail
  go_at_call 28
  have kA : Below w1.heap.size w1 (w1.alloc (.cells #[.int .i64 m0, .int .i64 m1, .int .i64 m2, .slice q1 ps.length c1] 26)) := (Below.refl _ _).alloc (Nat.le_refl _) _
  have A1 := four_new w1 26 (.int .i64 m0) (.int .i64 m1) (.int .i64 m2) (.slice q1 ps.length c1)
  refine (HI.out _).mono ?_
  rintro e w2 ⟨u2, rfl, o2, b2⟩
  have hsA : (w1.alloc (.cells #[.int .i64 m0, .int .i64 m1, .int .i64 m2, .slice q1 ps.length c1] 26)).heap.size = w1.heap.size + 1 := by simp
  have A2 := A1.keep b2
  have k2 := kA.trans (b2.mono kA.size)
  rw [hsA] at o2
  obtain ⟨N1, hN1⟩ : ∃ N1, N1 = w1.heap.size := ⟨_, rfl⟩
  rw [← hN1] at A2 o2 ⊢
  have HN1 : Hid (N1 = w1.heap.size) := hN1
  clear hN1
  obtain ⟨q2, n2, c2, hu2⟩ : ∃ q n c, u2 = .slice q n c := by rcases o2.2 with ⟨rfl, _⟩ | ⟨g, cap, cur, rfl, _⟩ <;> exact ⟨_, _, _, rfl⟩
  subst hu2
  clear A1 b2 kA hsA
  have kB : Below w2.heap.size w2 (w2.alloc (.cells #[.int .i64 m0, .int .i64 m1, .int .i64 m2, .slice q2 n2 c2] 26)) := (Below.refl _ _).alloc (Nat.le_refl _) _
  have B3 := four_new w2 26 (.int .i64 m0) (.int .i64 m1) (.int .i64 m2) (.slice q2 n2 c2)
  have A3 := A2.keep kB
  have o3 := o2.alloc (.cells #[.int .i64 m0, .int .i64 m1, .int .i64 m2, .slice q2 n2 c2] 26)
  have k3 := k2.trans (kB.mono k2.size)
  have hne : Value.ownBlock (.slice q2 n2 c2) ≠ some w2.heap.size := fun h => by have := (o2.lt _ h).2; omega
  have hN12 : N1 < w2.heap.size := A2.lt
  obtain ⟨x0, x1, x2, x3⟩ := A2.cells
  clear o2 A2 kB
  go_wp2_with fail
  go_at_call 26
  refine (eqVer_c _ _ _ _ _ ps _ (reads_of_owns o3) (r1.below k3) hpl2).mono ?_
  rintro e w4 ⟨rfl, b4⟩
  obtain ⟨N2, hN2⟩ : ∃ N2, N2 = w2.heap.size := ⟨_, rfl⟩
  rw [← hN2] at B3 hne ⊢
  clear hN2
  have A4 := A3.keep b4
  have B4 := B3.keep b4
  have o4 := owns_of_below o3 b4
  have k4 := k3.trans (b4.mono k3.size)
  clear A3 B3 o3 b4 k3 x0 x1 x2 x3
  obtain ⟨x0, x1, x2, x3⟩ := A4.cells
  obtain ⟨y0, y1, y2, y3⟩ := B4.cells
  have hb4 : N1 + 1 ≤ w4.heap.size := A4.lt
  have hrow : ∀ k, Value.ownBlock (.slice q2 n2 c2) = some k → w1.heap.size ≤ k := fun k hk => by have := (o4.lt k hk).1; have := HN1.out; omega
  have hrowN : ∀ k, Value.ownBlock (.slice q2 n2 c2) = some k → N1 + 1 ≤ k := fun k hk => (o4.lt k hk).1
  have hsw : w1.heap.size ≤ w4.heap.size := k4.size
  have hwr : ∀ k, Value.ownBlock (.slice q2 n2 c2) = some k → w.heap.size ≤ k := fun k hk => Nat.le_trans b1.size (hrow k hk)
  cases ok
  all_goals (
    go_wp2_with fail
    go_at_call 29
    refine (markVer_c _ _ _ _ (N1 + 1) ps.length (strsV ps) _ o4 hpl2 hb4).mono ?_
    rintro e w5 ⟨rfl, o5, g5⟩
    have A5 := A4.turned g5 (fun h => by have := hrowN _ h; omega)
    have B5 := B4.turned g5 hne
    have k5 := below_turned k4 g5 hsw hrow
    have kw5 := below_turned (b1.trans (k4.mono b1.size)) g5 (Nat.le_trans b1.size hsw) hwr
    clear A4 B4 o4 k4 g5 x0 x1 x2 x3 y0 y1 y2 y3
    obtain ⟨x0, x1, x2, x3⟩ := A5.cells
    obtain ⟨y0, y1, y2, y3⟩ := B5.cells
    go_wp2_with fail
    go_at_call 30
    refine (heldVer_c _ _ _ _ ps.length _ (reads_of_owns o5) hpl2).mono ?_
    rintro e w6 ⟨rfl, b6⟩
    have A6 := A5.keep b6
    have B6 := B5.keep b6
    have o6 := owns_of_below o5 b6
    have k6 := k5.trans (b6.mono k5.size)
    have kw6 := kw5.trans (b6.mono kw5.size)
    clear A5 B5 o5 k5 kw5 b6 x0 x1 x2 x3 y0 y1 y2 y3
    obtain ⟨x0, x1, x2, x3⟩ := A6.cells
    obtain ⟨y0, y1, y2, y3⟩ := B6.cells
    have hp1 : ¬ (1 + (ps.length : Int)) < 0 := by omega
    go_wp2_with fail
    go_at_call 28
    refine (HI.out _).mono ?_
    rintro e w7 ⟨u7, rfl, o7, b7⟩
    have A7 := A6.keep b7
    have B7 := B6.keep b7
    have o67 := owns_of_below o6 b7
    have k7 := k6.trans (b7.mono k6.size)
    have kw7 := kw6.trans (b7.mono kw6.size)
    obtain ⟨q7, n7, c7, hu7⟩ : ∃ q n c, u7 = .slice q n c := by rcases o7.2 with ⟨rfl, _⟩ | ⟨g, cap, cur, rfl, _⟩ <;> exact ⟨_, _, _, rfl⟩
    subst hu7
    clear A6 B6 o6 k6 kw6 b7 x0 x1 x2 x3 y0 y1 y2 y3
    obtain ⟨x0, x1, x2, x3⟩ := A7.cells
    obtain ⟨y0, y1, y2, y3⟩ := B7.cells
    have la7 := A7.lt
    have lb7 := B7.lt
    have kC : Below w7.heap.size w7 (w7.alloc (.cells #[.int .i64 m0, .int .i64 m1, .int .i64 m2, .slice q7 n7 c7] 26)) := (Below.refl _ _).alloc (Nat.le_refl _) _
    go_wp2_with fail
    go_at_call 26
    refine (eqVer_c _ _ _ _ _ ps _ ((reads_of_owns o7).below kC) (r1.below (k7.trans (kC.mono k7.size))) hpl2).mono ?_
    rintro e w8 ⟨rfl, b8⟩
    have B8 := (B7.keep kC).keep b8
    have o8 := owns_of_below (owns_of_below o67 kC) b8
    have kw8 := (kw7.trans (kC.mono kw7.size)).trans (b8.mono (kw7.trans (kC.mono kw7.size)).size)
    clear A7 B7 o7 o67 k7 kw7 b8 kC x0 x1 x2 x3 y0 y1 y2 y3
    obtain ⟨y0, y1, y2, y3⟩ := B8.cells
    go_wp2_with fail
    go_at_call 30
    refine (heldVer_c _ _ _ _ ps.length _ (reads_of_owns o8) hpl2).mono ?_
    rintro e w9 ⟨rfl, b9⟩
    go_wp2_with fail
    go_ret
    exact ⟨rfl, kw8.trans (b9.mono kw8.size)⟩)

set_option maxRecDepth 100000 in
theorem lifted (os : Os) (started : os.Started) (H : Type) (enc : TypeId × Value → H) :
    ReturnsInHanded {} Try.checked os 6 .any (Rows.fnExactParseVerSpec.pre6 enc Try.prog Try.f6 Rows.fnExactParseVerRow.domain false) (Rows.fnExactParseVerSpec.post enc Try.prog Try.f6 false true false false) := by
  refine returnsInHanded_of_change (C := Try.checked) own started (by kernel_rfl) Try.func6
    (ChangeSpec.witness6 (enc := enc) (C := Try.checked) false ⟨#[], #[.string ByteArray.empty], []⟩ 8 (by kernel_rfl) (by kernel_rfl) (by kernel_rfl) (by kernel_rfl)) ?_
  intro W base args ds gs before hval0 hW hcnd _
  have hval : ∀ (j : Nat) t v, Try.f6.params[j]? = some t → args[j]? = some v → Value.okWide Try.prog W .any base t v := hval0
  have hW' := hW
  obtain ⟨p, q, hA0, hV, rfl, hfz, hnd⟩ := hW
  have hA : DataW.TrodAll enc Try.prog W 0 (fun _ => true) true Try.f6.params.toList args.toList ds p := hA0
  rw [Try.params6] at hA hval
  obtain ⟨v0, vs0, d0, ds0, p0, q0, hargs, rfl, rfl, h0, r0⟩ := trodAll_cons hA
  obtain ⟨rfl, rfl, rfl⟩ := trodAll_nil r0
  obtain rfl : args = #[v0] := by cases args; simp_all
  obtain ⟨rfl, rfl⟩ := trodVars_none hV
  obtain ⟨a0, rfl, rfl, rfl, w0⟩ := open_string Try.underlying9 (hval 0 9 v0 rfl rfl) h0
  clear hA0 hval0
  refine (walk a0 W w0).mono fun e W' ⟨he, bel⟩ => ?_
  subst he
  exact ⟨_, rfl, _, _, _, [], _, [], hW', trodAll_mk1 (shut_bool Try.underlying4 _), (trodAll_cons_mk (shut_string Try.underlying9 w0) trodAll_mk0), rfl, bel.frame _, fun h => by cases h⟩

theorem over : Rows.fnExactParseVerRow.holds Try.pinned (OpenSpec.ofChange Rows.fnExactParseVerSpec) :=
  OpenClaim.holds_of_wide 6 Try.f6 rfl rfl rfl rfl rfl rfl rfl ⟨rfl, rfl, rfl, rfl, rfl⟩ rfl rfl rfl rfl rfl (by kernel_rfl) Try.func6 (by kernel_rfl)
    (of_decide_eq_true (by kernel_rfl)) (by unfold Func.isWrapper; first | (rw [if_pos (by decide +kernel)]; kernel_rfl) | (rw [if_neg (by decide +kernel)]; exact ⟨rfl, rfl⟩))
    (fun os started H enc _ => lifted os started H enc)

theorem proved : Rows.FnExactParseVerSaid := over
end Go.Proofs.Ytjbhgmbbhbookaa.fnExactParseVer
namespace Go.Proofs.Ytjbhgmbbhbookaa
theorem fnExactParseVer_holds : Rows.FnExactParseVerSaid := fnExactParseVer.proved
#print axioms fnExactParseVer_holds
end Go.Proofs.Ytjbhgmbbhbookaa
