/-
  At every list of packs and every name the program and the specification answer alike (the place of the first pack of this name, or -1), and nothing is written into the list; no condition (what holds more than 2 to the 20 is passed by, as the law says).
-/
import Derived.Test.YtlnofdlhjeomfaaRows
import Derived.WalkKit
import Derived.Test.YtlnofdlhjeomfaaPkA3
import Derived.Test.YtlnofdlhjeomfaaPkB2
import Derived.Test.YtlnofdlhjeomfaaPkC2
import Derived.Test.YtlnofdlhjeomfaaPkF
import Derived.Test.YtlnofdlhjeomfaaOpenP
import Derived.ProofKit
import Derived.OpenShut
import Derived.ShutString
import Derived.SliceStrings
import Derived.ChangeOld
import Derived.Below
namespace Go.Proofs.Ytlnofdlhjeomfaa.fnExactFindPack
open Go.ChangeShapes Go.WideShapes Go.ChangeAt Go.RowKit
open Go.ChangeMaps (open_string shut_string)
set_option linter.unusedVariables false
set_option linter.unusedSimpArgs false

theorem own : ownKnob Try.prog.godebug = none := by kernel_rfl
theorem laidOut : laidOutB Try.prog = true := by kernel_rfl

theorem addr_add (b off i : Nat) : ((⟨b, off, none⟩ : Addr).add i) = ⟨b, off + i, none⟩ := by unfold Addr.add; split <;> simp_all
theorem reads_mk {w : World} {x : Addr} {len cap : Nat} {xs : List Value} (hl : xs.length = len) (hc : len ≤ cap) (hcell : ∀ i (h : i < xs.length), w.cell? (x.add i) = some xs[i]) : Reads w (.slice (some x) len cap) xs := by
  subst hl
  by_cases h0 : xs.length = 0
  · exact ⟨some x, cap, rfl, hc, .inl (List.eq_nil_of_length_eq_zero h0)⟩
  · obtain ⟨b, off, spot⟩ := x
    have hc0 := hcell 0 (by omega)
    have hspot : spot = none := by simpa [Addr.add] using World.cell?_spot hc0
    subst hspot
    refine ⟨some ⟨b, off, none⟩, cap, rfl, hc, .inr ⟨b, off, rfl, ?_, fun i hi => ?_⟩⟩
    · rw [addr_add] at hc0; exact World.block_lt_of_cell? w _ hc0
    · have := hcell i hi; rw [addr_add] at this; exact this

set_option maxHeartbeats 4000000 in
set_option maxRecDepth 100000 in
theorem walk (a0 : Value) (z0 : List PackD) (a1 : ByteArray) (w : World) (r0 : RowIn shPack (· < w.heap.size) w a0 z0) (w1 : a1.size ≤ maxLen) :
    Calls Try.prog 6 #[a0, .string a1] w fun e w' => e = .returned (.bool true) ∧ Below w.heap.size w w' := by
  by_cases hbig1 : 1048576 < a1.size
  · have hb : (1048576 : Int) < (a1.size : Int) := by omega
    obtain ⟨q0, cap0, hq0, _⟩ := id r0
    subst hq0
    go_enter Try.func6, Try.ntmps6
    go_wp2_with fail
    go_ret
    exact ⟨rfl, Below.refl _ _⟩
  have hb1' : ¬ (1048576 : Int) < (a1.size : Int) := by omega
  obtain ⟨q0, cap0, hq0, _⟩ := id r0
  have hin : ∀ w1, Below w.heap.size w w1 → RowIn shPack (· < w1.heap.size) w1 a0 z0 := fun w1 h => r0.below h
  have HZ : Hid (∀ w1, Below w.heap.size w w1 → Calls Try.prog 30 #[a0, .int .i64 1048576] w1 fun e w' => e = .returned (.int .i64 (leftW (wtL wtPack z0) 1048576)) ∧ Below w1.heap.size w1 w') := fun w1 h => szPackS_c _ _ z0 _ (by omega) (by omega) w1 (hin w1 h) (fun b h => h)
  subst hq0
  by_cases hbig : 1048576 < wtL wtPack z0
  · have e1 : leftW (wtL wtPack z0) 1048576 = -1 := leftW_bad (by omega)
    rw [e1] at HZ
    clear e1 hin r0
    go_enter Try.func6, Try.ntmps6
    go_wp2_with (go_at_call 30; refine (HZ.out _ (Below.refl _ _)).mono ?_; rintro e w1 ⟨rfl, hb1⟩)
    go_ret
    exact ⟨rfl, hb1⟩
  obtain ⟨p, hp⟩ : ∃ p, p = leftW (wtL wtPack z0) 1048576 := ⟨_, rfl⟩
  rw [← hp] at HZ
  have hp0 : 0 ≤ p := by rw [hp, leftW_good (by omega)]; omega
  clear hp
  have hwt : wtL wtPack z0 ≤ 1048576 := by omega
  have HT : Hid (∀ w1, Below w.heap.size w w1 → Calls Try.prog 32 #[.slice q0 z0.length cap0] w1 fun e w' => ∃ g, e = .returned (.slice (some ⟨g, 0, none⟩) z0.length z0.length) ∧ RowIn shPack (· < w'.heap.size) w' (.slice (some ⟨g, 0, none⟩) z0.length z0.length) z0 ∧ Below w1.heap.size w1 w') := fun w1 h => (toPackS_c _ _ z0 w1 (hin w1 h) (fun b h => h) hwt).mono fun e w' ⟨g, h1, h2, h3⟩ => ⟨g, h1, (RowIn.as (sh := shPackO) (sh' := shPack) rfl (fun S w cs x h => liesPack_plain h) h2.plain).mono (fun b h => h.2), h3⟩
  obtain ⟨R, hR⟩ : ∃ R, R = findP z0 a1 := ⟨_, rfl⟩
  have HS : Hid (∀ w1 g, RowIn shPack (· < w1.heap.size) w1 (.slice (some ⟨g, 0, none⟩) z0.length z0.length) z0 → Calls Try.prog 31 #[.slice (some ⟨g, 0, none⟩) z0.length z0.length, .string a1] w1 fun e w' => e = .returned (.int .i64 R) ∧ Below w1.heap.size w1 w') := fun w1 g h => by rw [hR]; exact specFind_c _ _ z0 a1 w1 h (fun b h => h)
  have HI : Hid (∀ w1 g, RowIn shPack (· < w1.heap.size) w1 (.slice (some ⟨g, 0, none⟩) z0.length z0.length) z0 → Calls Try.prog 33 #[.slice (some ⟨g, 0, none⟩) z0.length z0.length, .string a1] w1 fun e w' => e = .returned (.int .i64 R) ∧ Below w1.heap.size w1 w') := fun w1 g h => by rw [hR]; exact implFind_c _ _ z0 a1 w1 h (fun b h => h)
  have HE : Hid (∀ w1 g g', RowIn shPack (· < w1.heap.size) w1 (.slice (some ⟨g, 0, none⟩) z0.length z0.length) z0 → RowIn shPack (· < w1.heap.size) w1 (.slice (some ⟨g', 0, none⟩) z0.length z0.length) z0 → Calls Try.prog 34 #[.slice (some ⟨g, 0, none⟩) z0.length z0.length, .slice (some ⟨g', 0, none⟩) z0.length z0.length] w1 fun e w' => e = .returned (.bool true) ∧ Below w1.heap.size w1 w') := fun w1 g g' h h' => eqPackS_c _ _ _ _ z0 w1 h h' (fun b h => h) (fun b h => h) hwt
  clear hin r0 hR hbig1
  go_enter Try.func6, Try.ntmps6
  go_wp2_with fail
  go_at_call 30
  refine (HZ.out _ (Below.refl _ _)).mono ?_
  rintro e w1 ⟨rfl, k1⟩
  clear HZ
  go_wp2_with fail
  go_at_call 32
  refine (HT.out w1 k1).mono ?_
  rintro e w2 ⟨g2, rfl, F2, b2⟩
  have k2 := k1.trans (b2.mono k1.size)
  clear b2
  go_wp2_with fail
  go_at_call 31
  refine (HS.out w2 g2 F2).mono ?_
  rintro e w3 ⟨rfl, b3⟩
  have k3 := k2.trans (b3.mono k2.size)
  clear HS F2 b3
  go_wp2_with fail
  go_at_call 32
  refine (HT.out w3 k3).mono ?_
  rintro e w4 ⟨g4, rfl, F4, b4⟩
  have k4 := k3.trans (b4.mono k3.size)
  clear b4
  go_wp2_with fail
  go_at_call 33
  refine (HI.out w4 g4 F4).mono ?_
  rintro e w5 ⟨rfl, b5⟩
  have k5 := k4.trans (b5.mono k4.size)
  have F5 := F4.below b5
  clear b5 HI F4
  go_wp2_with fail
  go_at_call 32
  refine (HT.out w5 k5).mono ?_
  rintro e w6 ⟨g6, rfl, F6, b6⟩
  have k6 := k5.trans (b6.mono k5.size)
  have F5' := F5.below b6
  clear b6 HT F5
  go_wp2_with fail
  go_at_call 34
  refine (HE.out w6 g4 g6 F5' F6).mono ?_
  rintro e w7 ⟨rfl, b7⟩
  have k7 := k6.trans (b7.mono k6.size)
  go_wp2_with fail
  go_ret
  exact ⟨rfl, k7⟩

set_option maxRecDepth 100000 in
theorem lifted (os : Os) (started : os.Started) (H : Type) (enc : TypeId × Value → H) :
    ReturnsInHanded {} Try.checked os 6 .any (Rows.fnExactFindPackSpec.pre6 enc Try.prog Try.f6 Rows.fnExactFindPackRow.domain false) (Rows.fnExactFindPackSpec.post enc Try.prog Try.f6 false true false false) := by
  refine returnsInHanded_of_change (C := Try.checked) own started (by kernel_rfl) Try.func6
    (ChangeSpec.witness6 (enc := enc) (C := Try.checked) false ⟨#[], #[.slice none 0 0, .string ByteArray.empty], []⟩ 8 (by kernel_rfl) (by kernel_rfl) (by kernel_rfl) (by kernel_rfl)) ?_
  intro W base args ds gs before hval0 hW hcnd _
  have hval : ∀ (j : Nat) t v, Try.f6.params[j]? = some t → args[j]? = some v → Value.okWide Try.prog W .any base t v := hval0
  have hW' := hW
  obtain ⟨p, q, hA0, hV, rfl, hfz, hnd⟩ := hW
  have hA : DataW.TrodAll enc Try.prog W 0 (fun _ => true) true Try.f6.params.toList args.toList ds p := hA0
  rw [Try.params6] at hA hval
  obtain ⟨v0, vs0, d0, ds0, p0, q0, hargs, rfl, rfl, h0, r0⟩ := trodAll_cons hA
  obtain ⟨v1, vs1, d1, ds1, p1, q1, rfl, rfl, rfl, h1, r1⟩ := trodAll_cons r0
  obtain ⟨rfl, rfl, rfl⟩ := trodAll_nil r1
  obtain rfl : args = #[v0, v1] := by cases args; simp_all
  obtain ⟨rfl, rfl⟩ := trodVars_none hV
  obtain ⟨a0, len0, cap0, rfl⟩ := okWide_slice Try.underlying64 (hval 0 64 v0 rfl rfl)
  have k0 := h0
  have lt0 : ∀ x ∈ p0, x.block < W.heap.size := by obtain ⟨m, hm⟩ := k0; exact DataW.trod_lt m _ _ _ hm
  obtain ⟨z0, t0⟩ : ∃ xs, RowIn shPack (· < W.heap.size) W (.slice a0 len0 cap0) xs := by
    obtain ⟨fuel, hf⟩ := h0
    exact packs_of_trod fuel _ _ hf
  obtain ⟨a1, rfl, rfl, rfl, w1⟩ := open_string Try.underlying9 (hval 1 9 v1 rfl rfl) h1
  clear hA0 hval0
  refine (walk _ z0 a1 W t0 w1).mono fun e W' ⟨he, bel⟩ => ?_
  subst he
  exact ⟨_, rfl, _, _, _, [], _, [], hW', trodAll_mk1 (shut_bool Try.underlying4 _), (trodAll_cons_mk (Below.trod laidOut (by kernel_rfl) (of_decide_eq_true (by kernel_rfl)) k0 bel lt0) (trodAll_cons_mk (shut_string Try.underlying9 w1) trodAll_mk0)), rfl, bel.frame _, fun h => by cases h⟩

theorem over : Rows.fnExactFindPackRow.holds Try.pinned (OpenSpec.ofChange Rows.fnExactFindPackSpec) :=
  OpenClaim.holds_of_wide 6 Try.f6 rfl rfl rfl rfl rfl rfl rfl ⟨rfl, rfl, rfl, rfl, rfl⟩ rfl rfl rfl rfl rfl (by kernel_rfl) Try.func6 (by kernel_rfl)
    (of_decide_eq_true (by kernel_rfl)) (by unfold Func.isWrapper; first | (rw [if_pos (by decide +kernel)]; kernel_rfl) | (rw [if_neg (by decide +kernel)]; exact ⟨rfl, rfl⟩))
    (fun os started H enc _ => lifted os started H enc)

theorem proved : Rows.FnExactFindPackSaid := over
end Go.Proofs.Ytlnofdlhjeomfaa.fnExactFindPack
namespace Go.Proofs.Ytlnofdlhjeomfaa
theorem fnExactFindPack_holds : Rows.FnExactFindPackSaid := fnExactFindPack.proved
#print axioms fnExactFindPack_holds
end Go.Proofs.Ytlnofdlhjeomfaa
