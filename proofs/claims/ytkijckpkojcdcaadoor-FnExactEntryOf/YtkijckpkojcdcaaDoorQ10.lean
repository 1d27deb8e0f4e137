/-
  Contracts for the walks, several texts in one: each part says what it proves, and under which conditions.
-/
import Derived.Deep.RegionHeld
import Derived.Test.YtkijckpkojcdcaaDoorQ9
import Derived.Test.YtkijckpkojcdcaaDoorQ8
import Derived.Test.YtkijckpkojcdcaaDoorQ2

/-! Marks put into a tree of values that may be written, as the law puts them: contracts for the walks; conditions: no two rows are the same, and there are at most 2 to the 32 marks. -/
namespace Go.Proofs.YtkijckpkojcdcaaDoor
open Go.RowKit
set_option linter.unusedSimpArgs false
set_option linter.unusedVariables false

/-- What is done, and what is left, when the elements below i bear their marks. -/
structure MInv (w : World) (l : List Tree) (k : Nat) (C U : Nat → Value) (B K : Nat → Nat → Prop) (ys : List Value) (i : Nat) : Prop where
  at34 : ∀ j, j < l.length → ys[j * 5 + 3]? = some (C j) ∧ ys[j * 5 + 4]? = some (U j)
  at012 : ∀ j, j < l.length → i ≤ j → ∃ c0 c1 c2, ys[j * 5]? = some c0 ∧ ys[j * 5 + 1]? = some c1 ∧ ys[j * 5 + 2]? = some c2
  done : ∀ j, j < l.length → j < i → ys[j * 5]? = some (.int .i64 ((k + cntL (l.take j) : Nat) : Int)) ∧ ys[j * 5 + 1]? = some (.int .i64 ((k + cntL (l.take j) + 1 : Nat) : Int)) ∧ ys[j * 5 + 2]? = some (.string (markStr (k + cntL (l.take j) + 2)))
  doneC : ∀ j (h : j < l.length), j < i → MarkL w (B j) (k + cntL (l.take j) + 3) (C j) l[j].kids
  doneU : ∀ j (h : j < l.length), j < i → RdB (K j) w (U j) (strsV (marksS (k + cntL (l.take j) + 3 + cntL l[j].kids) l[j].keys.length))
  leftC : ∀ j (h : j < l.length), i ≤ j → OwnL w (B j) (C j) l[j].kids
  leftU : ∀ j (h : j < l.length), i ≤ j → ∃ xs, w.ownsRow 0 9 1 (U j) l[j].keys.length xs ∧ ∀ g, (U j).ownBlock = some g → K j g

theorem Chg.set {S : Nat → Prop} {w : World} {g j : Nat} {v : Value} (h : S g) : Chg S w (w.setCell ⟨g, j, none⟩ v) :=
  ⟨rfl, rfl, rfl, by simp [World.setCell], fun b hb hn => Below.heap_setCell w ⟨g, j, none⟩ v b (fun e => by have e' : b = g := e; subst e'; exact hn h)⟩
theorem Chg.grown {S : Nat → Prop} {w w' : World} {r : Option Nat} (h : w.grownBy w' r) (hr : ∀ g, r = some g → S g) : Chg S w w' :=
  ⟨h.os, h.tape, h.output, h.size, fun b hb hn => h.block b hb (fun e => hn (hr b e.symm))⟩
theorem rdB_in {S : Nat → Prop} {w : World} {lo : Nat} {e : TypeId} {v : Value} {n : Nat} {xs : List Value} (h : w.ownsRow lo e 1 v n xs) (hs : ∀ g, v.ownBlock = some g → S g) : RdB S w v xs := by
  obtain ⟨a, cap, hv, hc, hx⟩ := reads_of_owns h
  refine ⟨a, cap, hv, hc, ?_⟩
  rcases hx with hx | ⟨b, off, rfl, hlt, hx⟩
  · exact .inl hx
  · exact .inr ⟨b, off, rfl, hs b (by rw [hv]; rfl), hx⟩
theorem owns_sl {w : World} {lo : Nat} {e : TypeId} {sz n : Nat} {v : Value} {xs : List Value} (hg : w.ownsRow lo e sz v n xs) : ∃ q cap, v = .slice q n cap := by
  rcases hg.2 with ⟨h1, h2⟩ | ⟨g, cap, cur, h1, _⟩
  · exact ⟨none, 0, by rw [h1, h2]⟩
  · exact ⟨_, _, h1⟩
def put3 (ys : List Value) (i : Nat) (a b c : Value) : List Value := ((ys.set (i * 5) a).set (i * 5 + 1) b).set (i * 5 + 2) c
theorem put3_other {ys : List Value} {i j : Nat} {a b c : Value} (h : j < i * 5 ∨ i * 5 + 2 < j) : (put3 ys i a b c)[j]? = ys[j]? := by
  unfold put3
  rw [List.getElem?_set_ne (by omega), List.getElem?_set_ne (by omega), List.getElem?_set_ne (by omega)]
theorem put3_same {ys : List Value} {i : Nat} {a b c : Value} (h : i * 5 + 2 < ys.length) : (put3 ys i a b c)[i * 5]? = some a ∧ (put3 ys i a b c)[i * 5 + 1]? = some b ∧ (put3 ys i a b c)[i * 5 + 2]? = some c := by
  simp [put3, List.getElem?_set, h, show i * 5 < ys.length by omega, show i * 5 + 1 < ys.length by omega]

set_option maxHeartbeats 1000000 in
theorem MInv.step {w w' : World} {l : List Tree} {k m : Nat} {C U : Nat → Value} {B K : Nat → Nat → Prop} {ys : List Value} {i : Nat} (h : MInv w l k C U B K ys i) (hi : i < l.length) (hm : m = k + cntL (l.take i)) (hy : i * 5 + 2 < ys.length)
    (hK : ∀ R : Nat → Prop, (∀ j, j ≠ i → (∀ b, R b → B j b) ∨ (∀ b, R b → K j b) → Kp R w w'))
    (hC : MarkL w' (B i) (m + 3) (C i) l[i].kids) (hU : RdB (K i) w' (U i) (strsV (marksS (m + 3 + cntL l[i].kids) l[i].keys.length))) :
    MInv w' l k C U B K (put3 ys i (.int .i64 (m : Int)) (.int .i64 ((m : Int) + 1)) (.string (markStr (m + 2)))) (i + 1) := by
  subst hm
  refine ⟨fun j hj => ?_, fun j hj hij => ?_, fun j hj hij => ?_, fun j hj hij => ?_, fun j hj hij => ?_, fun j hj hij => ?_, fun j hj hij => ?_⟩
  · have := h.at34 j hj
    by_cases e : j = i
    · subst e; rw [put3_other (by omega), put3_other (by omega)]; exact this
    · by_cases e2 : j < i
      · rw [put3_other (by omega), put3_other (by omega)]; exact this
      · rw [put3_other (by omega), put3_other (by omega)]; exact this
  · obtain ⟨c0, c1, c2, h0, h1, h2⟩ := h.at012 j hj (by omega)
    exact ⟨c0, c1, c2, by rw [put3_other (by omega)]; exact h0, by rw [put3_other (by omega)]; exact h1, by rw [put3_other (by omega)]; exact h2⟩
  · by_cases e : j = i
    · subst e
      obtain ⟨a, b, c⟩ := put3_same (a := (.int .i64 ((k + cntL (l.take j) : Nat) : Int))) (b := (.int .i64 (((k + cntL (l.take j) : Nat) : Int) + 1))) (c := (.string (markStr (k + cntL (l.take j) + 2)))) hy
      exact ⟨a, by rw [b]; simp, c⟩
    · have := h.done j hj (by omega)
      rw [put3_other (by omega), put3_other (by omega), put3_other (by omega)]; exact this
  · by_cases e : j = i
    · subst e; exact hC
    · exact (h.doneC j hj (by omega)).keep (hK _ j e (.inl fun b hb => hb))
  · by_cases e : j = i
    · subst e; exact hU
    · exact (h.doneU j hj (by omega)).keep (hK _ j e (.inr fun b hb => hb))
  · exact (h.leftC j hj (by omega)).keep (hK _ j (by omega) (.inl fun b hb => hb))
  · obtain ⟨xs, a, b⟩ := h.leftU j hj (by omega)
    exact ⟨xs, owns_kept (hK _ j (by omega) (.inr fun b hb => hb)) b a, b⟩

end Go.Proofs.YtkijckpkojcdcaaDoor

/-! Marks put into a pack that may be written, as the law puts them: contracts for the walks; conditions: its rows lie in memory and may be written, and there are at most 2 to the 32 marks. -/
namespace Go.Proofs.YtkijckpkojcdcaaDoor
open Go.RowKit
set_option linter.unusedSimpArgs false
set_option linter.unusedVariables false

/-- A row that may be written stays one where another row is written over, be it the same. -/
theorem owns_over {w w' : World} {lo lo' sz n n' : Nat} {e : TypeId} {v v' : Value} {xs xs' ys : List Value} (h : w.ownsRow lo e sz v n xs) (h0 : w.ownsRow lo' e sz v' n' xs') (h1 : w'.ownsRow lo' e sz v' n' ys) (hg : w.grownBy w' v'.ownBlock) (hs : 0 < sz) : ∃ zs, w'.ownsRow lo e sz v n zs := by
  by_cases hne : v.ownBlock = none ∨ v.ownBlock ≠ v'.ownBlock
  · exact ⟨xs, h.kept hg hne⟩
  · have he : v.ownBlock = v'.ownBlock := by
      by_cases k : v.ownBlock = v'.ownBlock
      · exact k
      · exact absurd (.inr k) hne
    have hn : v.ownBlock ≠ none := fun k => hne (.inl k)
    rcases h.2 with ⟨rfl, _⟩ | ⟨g, cap, cur, rfl, hlo, hgb, hc, hm, hz, ht⟩
    · exact absurd rfl hn
    rcases h0.2 with ⟨rfl, _⟩ | ⟨g0, cap0, cur0, rfl, _, hgb0, hc0, hm0, hz0, _⟩
    · exact absurd he (by simp [Value.ownBlock])
    simp [Value.ownBlock] at he
    subst he
    rcases h1.2 with ⟨hx, _⟩ | ⟨g1, cap1, cur1, hx, _, hgb1, hc1, hm1, hz1, _⟩
    · simp at hx
    · simp only [Value.slice.injEq, Option.some.injEq, Addr.mk.injEq, and_true, true_and] at hx
      obtain ⟨rfl, rfl⟩ := hx
      rw [hgb] at hgb0
      have hcur : cur = cur0 := by simpa using hgb0
      subst hcur
      have hcap : cap = cap0 := by
        have : cap * sz = cap0 * sz := by omega
        exact Nat.eq_of_mul_eq_mul_right hs this
      subst hcap
      refine ⟨cur1.toList.take (n * sz), ?_, .inr ⟨g, cap, cur1, rfl, hlo, hgb1, hc, hm, hz1, rfl⟩⟩
      have hle : n * sz ≤ cap * sz := Nat.mul_le_mul_right _ hc
      rw [List.length_take, Array.length_toList, hz1]
      exact Nat.min_eq_left hle

set_option maxHeartbeats 2000000 in
set_option maxRecDepth 100000 in
theorem markNeedS_c (S : Nat → Prop) (v : Value) (n k : Nat) (xs : List Value) (w : World) (hv : w.ownsRow 0 106 2 v n xs) (hg : ∀ g, v.ownBlock = some g → S g) (h1 : 1 ≤ k) (h2 : k + n * 2 ≤ 4294967296) :
    Calls Tryd.prog 43 #[v, .int .i64 (k : Int)] w fun e w' => e = .returned (.int .i64 ((k + n * 2 : Nat) : Int)) ∧ Chg S w w' := by
  rcases id hv.2 with ⟨rfl, rfl⟩ | ⟨g, cap, cur, rfl, _, hgb, hcap, hmax, _⟩
  · clear hv hg
    go_enter Tryd.func43, Tryd.ntmps43
    go_wp2_with fail
    go_loopw [1, 5] (fun vk vi wr => vk = .int .i64 (k : Int) ∧ vi = .int .i64 0 ∧ wr = w) (fun _ _ _ => 0)
    case atStart => exact ⟨rfl, rfl, rfl⟩
    case round =>
      obtain ⟨rfl, rfl, rfl⟩ := hrel
      go_wp2_with fail
      go_ret
      exact ⟨by simp, Chg.refl _ _⟩
  · have hSg := hg g rfl
    unfold maxLen at hmax
    clear hgb hg
    go_enter Tryd.func43, Tryd.ntmps43
    go_wp2_with fail
    go_loopw [1, 5] (fun vk vi wr => ∃ (i m : Nat) (ys : List Value), i ≤ n ∧ vi = .int .i64 (i : Int) ∧ vk = .int .i64 (m : Int) ∧ Hid (m = k + i * 2) ∧ wr.ownsRow 0 106 2 (.slice (some ⟨g, 0, none⟩) n cap) n ys ∧ Chg S w wr) (fun _ vi _ => n - (intOf vi).toNat)
    case atStart => exact ⟨0, k, xs, Nat.zero_le _, rfl, rfl, by show _ = _; omega, hv, Chg.refl _ _⟩
    case round =>
      obtain ⟨i, m, ys, hi, rfl, rfl, hm, hown, hchg⟩ := hrel
      by_cases hlt : i < n
      · have hlen := hown.1
        have hm2 : m + 2 ≤ 4294967296 := by have := hm.out; omega
        have hm1 : 1 ≤ m := by have := hm.out; omega
        have hki : (i : Int) < (n : Int) := by omega
        have HO := hidden hown
        have HM1 := hidden (fun w1 => markText_c m w1 (by omega) (by omega))
        have HM2 : Hid (∀ w1, Calls Tryd.prog 41 #[.int .i64 ((m : Int) + 1)] w1 fun e w' => e = .returned (.string (markStr (m + 1))) ∧ Below w1.heap.size w1 w') := fun w1 => by
          have := markText_c (m + 1) w1 (by omega) (by omega)
          rw [show ((m + 1 : Nat) : Int) = (m : Int) + 1 by omega] at this
          exact this
        clear hown hv
        go_wp2_with fail
        go_at_call 41
        refine (HM1.out _).mono ?_
        rintro e w1 ⟨rfl, b1⟩
        have r1 := HO.out.kept (grown_of_below b1 none) (by simp [Value.ownBlock])
        have d0 : ∃ x, w1.cell? ⟨g, i * 2, none⟩ = some x := ⟨ys.getD (i * 2) undef, by rw [r1.cellAt _ (by omega)]; simp [List.getD_eq_getElem?_getD, show i * 2 < ys.length by omega]⟩
        obtain ⟨x0, d0⟩ := d0
        have f1 := r1.frozenAt
        have r2 := (r1.stored (i * 2) (.string (markStr m))).1
        have HR2 := hidden r2
        clear r1 r2
        go_wp2_with fail
        go_at_call 41
        refine (HM2.out _).mono ?_
        rintro e w2 ⟨rfl, b2⟩
        have r3 := HR2.out.kept (grown_of_below b2 none) (by simp [Value.ownBlock])
        have hl3 := r3.1
        have d1 : ∃ x, w2.cell? ⟨g, i * 2 + 1, none⟩ = some x := ⟨(ys.set (i * 2) (.string (markStr m))).getD (i * 2 + 1) undef, by rw [r3.cellAt _ (by omega)]; simp [List.getD_eq_getElem?_getD, show i * 2 + 1 < ys.length by omega]⟩
        obtain ⟨x1, d1⟩ := d1
        have f2 := r3.frozenAt
        have r4 := (r3.stored (i * 2 + 1) (.string (markStr (m + 1)))).1
        have HR4 := hidden r4
        have CH : Chg S wr (w2.setCell ⟨g, i * 2 + 1, none⟩ (.string (markStr (m + 1)))) := (Chg.of b1).trans ((Chg.set hSg).trans ((Chg.of b2).trans (Chg.set hSg)))
        have HCH := hidden CH
        clear r3 r4 CH
        go_wp2_with fail
        go_roundw
        case rel => exact ⟨i + 1, m + 2, _, by omega, by go_num, by simp; omega, (by show _ = _; have := hm.out; omega), HR4.out, hchg.trans HCH.out⟩
        case measure => simp [intOf]; omega
      · have he : i = n := by omega
        subst he
        have HMM := hidden hm.out
        clear hown hv
        go_wp2_with fail
        go_ret
        exact ⟨by rw [← HMM.out]; rfl, hchg⟩

/-- The rows of a row of commands: each may be written. -/
def CmdRows (w : World) (S : Nat → Prop) (ys : List Value) (ns : List Nat) : Prop := ∀ i (h : i < ns.length), ∃ u xs, ys[i * 2 + 1]? = some u ∧ w.ownsRow 0 9 1 u ns[i] xs ∧ ∀ g, u.ownBlock = some g → S g
theorem CmdRows.set0 {w : World} {S : Nat → Prop} {ys : List Value} {ns : List Nat} (h : CmdRows w S ys ns) (i : Nat) (v : Value) : CmdRows w S (ys.set (i * 2) v) ns := fun j hj => by
  obtain ⟨u, xs, h1, h2, h3⟩ := h j hj
  exact ⟨u, xs, by rw [List.getElem?_set_ne (by omega)]; exact h1, h2, h3⟩
theorem CmdRows.below {w w' : World} {S : Nat → Prop} {ys : List Value} {ns : List Nat} (h : CmdRows w S ys ns) (hb : Below w.heap.size w w') : CmdRows w' S ys ns := fun j hj => by
  obtain ⟨u, xs, h1, h2, h3⟩ := h j hj
  exact ⟨u, xs, h1, owns_kept (S := fun b => b < w.heap.size) (.of hb (fun b h => h)) (fun g h => (owns_in h2 g h).2) h2, h3⟩
theorem owns_apart {w : World} {lo lo' sz sz' n n' : Nat} {e e' : TypeId} {v v' : Value} {xs xs' : List Value} (h : w.ownsRow lo e sz v n xs) (h' : w.ownsRow lo' e' sz' v' n' xs') (hne : e ≠ e') : v.ownBlock = none ∨ v.ownBlock ≠ v'.ownBlock := by
  rcases h.2 with ⟨rfl, _⟩ | ⟨g, c, cur, rfl, _, hb, _⟩
  · exact .inl rfl
  · right
    intro k
    rcases h'.2 with ⟨rfl, _⟩ | ⟨g', c', cur', rfl, _, hb', _⟩
    · simp [Value.ownBlock] at k
    · simp [Value.ownBlock] at k
      subst k
      rw [hb] at hb'
      simp at hb'
      exact hne hb'.2
theorem cmdRows_of {S : Nat → Prop} {w : World} {ys : List Value} {xs : List CmdD} (h : Laid shCmdO S w ys xs xs.length) : CmdRows w S ys (xs.map fun c => c.acts.length) := fun i hi => by
  have hi' : i < xs.length := by simpa using hi
  obtain ⟨cs, h1, ⟨u, rfl, _, h2, _⟩, h3⟩ := h i hi' hi'
  exact ⟨u, _, h3 1 (by simp), by simpa using h2.1, h2.2⟩
theorem cmds_sum (xs : List CmdD) : (xs.map fun c => c.acts.length).length + (xs.map fun c => c.acts.length).sum ≤ wtRow wtCmd xs := by
  induction xs with
  | nil => simp [wtRow]
  | cons x xs ih =>
    have e : wtRow wtCmd (x :: xs) = (1 + wtCmd x) + wtRow wtCmd xs := by simp [wtRow]
    rw [e]
    simp only [List.map_cons, List.length_cons, List.sum_cons]
    have : x.acts.length ≤ wtCmd x := by unfold wtCmd bulkS; omega
    omega

end Go.Proofs.YtkijckpkojcdcaaDoor

/-! Marks put into rows of needs, and found again, as the law does it: contracts for the walks; conditions: the rows lie in memory, may be written, and there are at most 2 to the 32 marks. -/
namespace Go.Proofs.YtkijckpkojcdcaaDoor
open Go.RowKit
set_option linter.unusedSimpArgs false
set_option linter.unusedVariables false

set_option maxHeartbeats 2000000 in
set_option maxRecDepth 100000 in
theorem markNeedV_c (v : Value) (base n k : Nat) (xs : List Value) (w : World) (hv : w.ownsRow base 106 2 v n xs) (h1 : 1 ≤ k) (h2 : k + n * 2 ≤ 4294967296) :
    Calls Tryd.prog 43 #[v, .int .i64 (k : Int)] w fun e w' => e = .returned (.int .i64 ((k + n * 2 : Nat) : Int)) ∧ w'.ownsRow base 106 2 v n (strsV (marksS k (n * 2))) ∧ w.grownBy w' v.ownBlock := by
  rcases id hv.2 with ⟨rfl, rfl⟩ | ⟨g, cap, cur, rfl, _, hgb, hcap, hmax, _⟩
  · have hx : xs = [] := List.eq_nil_of_length_eq_zero (by simpa using hv.1)
    subst hx
    have HV := hidden hv
    clear hv
    go_enter Tryd.func43, Tryd.ntmps43
    go_wp2_with fail
    go_loopw [1, 5] (fun vk vi wr => vk = .int .i64 (k : Int) ∧ vi = .int .i64 0 ∧ wr = w) (fun _ _ _ => 0)
    case atStart => exact ⟨rfl, rfl, rfl⟩
    case round =>
      obtain ⟨rfl, rfl, rfl⟩ := hrel
      go_wp2_with fail
      go_ret
      exact ⟨by simp, HV.out, World.grownBy.refl _ _⟩
  · unfold maxLen at hmax
    have hl := hv.1
    clear hgb
    go_enter Tryd.func43, Tryd.ntmps43
    go_wp2_with fail
    go_loopw [1, 5] (fun vk vi wr => ∃ (i m : Nat) (ys : List Value), i ≤ n ∧ vi = .int .i64 (i : Int) ∧ vk = .int .i64 (m : Int) ∧ Hid (m = k + i * 2) ∧ wr.ownsRow base 106 2 (.slice (some ⟨g, 0, none⟩) n cap) n ys ∧ Hid (ys.length = n * 2 ∧ ∀ j, j < i * 2 → ys[j]? = (strsV (marksS k (n * 2)))[j]?) ∧ Hid (w.grownBy wr (some g))) (fun _ vi _ => n - (intOf vi).toNat)
    case atStart => exact ⟨0, k, xs, Nat.zero_le _, rfl, rfl, by show _ = _; omega, hv, ⟨hl, fun j hj => by omega⟩, World.grownBy.refl _ _⟩
    case round =>
      obtain ⟨i, m, ys, hi, rfl, rfl, hm, hown, hy, hgr⟩ := hrel
      by_cases hlt : i < n
      · have hlen := hown.1
        have hm2 : m + 2 ≤ 4294967296 := by have := hm.out; omega
        have hm1 : 1 ≤ m := by have := hm.out; omega
        have hki : (i : Int) < (n : Int) := by omega
        have HO := hidden hown
        have HM1 := hidden (fun w1 => markText_c m w1 (by omega) (by omega))
        have HM2 : Hid (∀ w1, Calls Tryd.prog 41 #[.int .i64 ((m : Int) + 1)] w1 fun e w' => e = .returned (.string (markStr (m + 1))) ∧ Below w1.heap.size w1 w') := fun w1 => by
          have := markText_c (m + 1) w1 (by omega) (by omega)
          rw [show ((m + 1 : Nat) : Int) = (m : Int) + 1 by omega] at this
          exact this
        have HY1 : Hid ((ys.set (i * 2) (.string (markStr m))).length = n * 2 ∧ ∀ j, j < i * 2 + 1 → (ys.set (i * 2) (.string (markStr m)))[j]? = (strsV (marksS k (n * 2)))[j]?) := set_step (by omega) hy.out (by rw [marksS_at _ _ _ (by omega), hm.out])
        have HY2 : Hid (((ys.set (i * 2) (.string (markStr m))).set (i * 2 + 1) (.string (markStr (m + 1)))).length = n * 2 ∧ ∀ j, j < i * 2 + 1 + 1 → ((ys.set (i * 2) (.string (markStr m))).set (i * 2 + 1) (.string (markStr (m + 1))))[j]? = (strsV (marksS k (n * 2)))[j]?) := set_step (by omega) HY1.out (by rw [marksS_at _ _ _ (by omega), hm.out]; congr 3)
        clear hown hv hy HY1
        go_wp2_with fail
        go_at_call 41
        refine (HM1.out _).mono ?_
        rintro e w1 ⟨rfl, b1⟩
        have r1 := HO.out.kept (grown_of_below b1 none) (by simp [Value.ownBlock])
        have d0 : ∃ x, w1.cell? ⟨g, i * 2, none⟩ = some x := ⟨ys.getD (i * 2) undef, by rw [r1.cellAt _ (by omega)]; simp [List.getD_eq_getElem?_getD, show i * 2 < ys.length by omega]⟩
        obtain ⟨x0, d0⟩ := d0
        have f1 := r1.frozenAt
        have r2 := r1.stored (i * 2) (.string (markStr m))
        have HR2 := hidden r2
        clear r1 r2
        go_wp2_with fail
        go_at_call 41
        refine (HM2.out _).mono ?_
        rintro e w2 ⟨rfl, b2⟩
        have r3 := HR2.out.1.kept (grown_of_below b2 none) (by simp [Value.ownBlock])
        have hl3 := r3.1
        have d1 : ∃ x, w2.cell? ⟨g, i * 2 + 1, none⟩ = some x := ⟨(ys.set (i * 2) (.string (markStr m))).getD (i * 2 + 1) undef, by rw [r3.cellAt _ (by omega)]; simp [List.getD_eq_getElem?_getD, show i * 2 + 1 < ys.length by omega]⟩
        obtain ⟨x1, d1⟩ := d1
        have f2 := r3.frozenAt
        have r4 := r3.stored (i * 2 + 1) (.string (markStr (m + 1)))
        have HR4 := hidden r4
        have HG := hidden (grown_trans (grown_trans (grown_trans (grown_trans hgr.out (grown_of_below b1 _)) HR2.out.2) (grown_of_below b2 _)) r4.2)
        clear r3 r4
        go_wp2_with fail
        go_roundw
        case rel => exact ⟨i + 1, m + 2, _, by omega, by go_num, by simp; omega, (by show _ = _; have := hm.out; omega), HR4.out.1, ⟨HY2.out.1, fun j hj => HY2.out.2 j (by omega)⟩, HG⟩
        case measure => simp [intOf]; omega
      · have he : i = n := by omega
        subst he
        have HMM := hidden hm.out
        have e : ys = strsV (marksS k (i * 2)) := list_done hy.out.1 (by simp) hy.out.2
        have HE := hidden e
        have HO := hidden hown
        clear hown hv e
        go_wp2_with fail
        go_ret
        refine ⟨by rw [← HMM.out]; rfl, ?_, hgr.out⟩
        rw [← HE.out]
        exact HO.out

set_option maxHeartbeats 2000000 in
set_option maxRecDepth 100000 in
theorem heldNeedS_c (v : Value) (base n k : Nat) (w : World) (hv : w.ownsRow base 106 2 v n (strsV (marksS k (n * 2)))) (h1 : 1 ≤ k) (h2 : k + n * 2 ≤ 4294967296) :
    Calls Tryd.prog 45 #[v, .int .i64 (k : Int)] w fun e w' => e = .returned (.int .i64 ((k + n * 2 : Nat) : Int)) ∧ Below w.heap.size w w' := by
  rcases id hv.2 with ⟨rfl, rfl⟩ | ⟨g, cap, cur, rfl, _, hgb, hcap, hmax, _⟩
  · clear hv
    go_enter Tryd.func45, Tryd.ntmps45
    go_wp2_with fail
    go_loopw [1, 5] (fun vk vi wr => vk = .int .i64 (k : Int) ∧ vi = .int .i64 0 ∧ wr = w) (fun _ _ _ => 0)
    case atStart => exact ⟨rfl, rfl, rfl⟩
    case round =>
      obtain ⟨rfl, rfl, rfl⟩ := hrel
      go_wp2_with fail
      go_ret
      exact ⟨by simp, Below.refl _ _⟩
  · unfold maxLen at hmax
    have hglt : g < w.heap.size := (Array.getElem?_eq_some_iff.1 hgb).1
    have hc : ∀ j, j < n * 2 → w.cell? ⟨g, j, none⟩ = some (.string (markStr (k + j))) := fun j hj => by rw [hv.cellAt j hj, marksS_at _ _ _ hj]
    clear hgb hv
    go_enter Tryd.func45, Tryd.ntmps45
    go_wp2_with fail
    go_loopw [1, 5] (fun vk vi wr => ∃ (i m : Nat), i ≤ n ∧ vi = .int .i64 (i : Int) ∧ vk = .int .i64 (m : Int) ∧ Hid (m = k + i * 2) ∧ Below w.heap.size w wr) (fun _ vi _ => n - (intOf vi).toNat)
    case atStart => exact ⟨0, k, Nat.zero_le _, rfl, rfl, by show _ = _; omega, Below.refl _ _⟩
    case round =>
      obtain ⟨i, m, hi, rfl, rfl, hm, hbr⟩ := hrel
      by_cases hlt : i < n
      · have hm2 : m + 2 ≤ 4294967296 := by have := hm.out; omega
        have hm1 : 1 ≤ m := by have := hm.out; omega
        have hki : (i : Int) < (n : Int) := by omega
        have HM1 := hidden (fun w1 => markText_c m w1 (by omega) (by omega))
        have HM2 : Hid (∀ w1, Calls Tryd.prog 41 #[.int .i64 ((m : Int) + 1)] w1 fun e w' => e = .returned (.string (markStr (m + 1))) ∧ Below w1.heap.size w1 w') := fun w1 => by
          have := markText_c (m + 1) w1 (by omega) (by omega)
          rw [show ((m + 1 : Nat) : Int) = (m : Int) + 1 by omega] at this
          exact this
        have KEEP : Hid (∀ w1, Below wr.heap.size wr w1 → w1.cell? ⟨g, i * 2, none⟩ = some (.string (markStr m)) ∧ w1.cell? ⟨g, i * 2 + 1, none⟩ = some (.string (markStr (m + 1)))) := fun w1 h => by
          have hb := hbr.trans (h.mono hbr.size)
          have e1 := hc (i * 2) (by omega)
          have e2 := hc (i * 2 + 1) (by omega)
          rw [← hm.out] at e1
          rw [show k + (i * 2 + 1) = m + 1 by have := hm.out; omega] at e2
          exact ⟨(hb.cell (p := ⟨g, _, none⟩) hglt).trans e1, (hb.cell (p := ⟨g, _, none⟩) hglt).trans e2⟩
        have h0 : Below wr.heap.size wr wr.drew := (Below.refl _ _).drew
        obtain ⟨M1, hM1⟩ : ∃ M, M = markStr m := ⟨_, rfl⟩
        obtain ⟨M2, hM2⟩ : ∃ M, M = markStr (m + 1) := ⟨_, rfl⟩
        simp only [← hM1] at HM1 KEEP
        simp only [← hM2] at HM2 KEEP
        clear hc hM1 hM2
        go_wp2_with fail
        refine wp_region_held_drew (S := (fun w' => w'.cell? ⟨g, i * 2, none⟩ = some (.string M1) ∧ w'.cell? ⟨g, i * 2 + 1, none⟩ = some (.string M2))) (by kernel_rfl) ?SR10 (fun hHeld => ?_)
        case SR10 => (first | (with_reducible exact KEEP.out _ h3) | (with_reducible exact KEEP.out _ h2) | (with_reducible exact KEEP.out _ h1) | (with_reducible exact KEEP.out _ h0))
        refine wpAnyH_take (i := 0) (oi := _) (v := ?vR10) rfl (by kernel_rfl) (by kernel_rfl) (by kernel_rfl) (fun _ _ _ h => h) (Or.inl ⟨by rfl, ?yR10⟩) hHeld ?_
        case yR10 => (intro w hSw; (try dsimp only at hSw); go_simp <;> with_reducible rfl)
        try simp only [Act.put, List.getElem_toArray, List.getElem_cons_zero, List.getElem_cons_succ, List.setIfInBounds_toArray, List.set_cons_zero, List.set_cons_succ]
        refine wpAnyH_take (i := 1) (oi := _) (v := ?vR11) rfl (by kernel_rfl) (by kernel_rfl) (by kernel_rfl) (fun _ _ _ h => h) (Or.inl ⟨by rfl, ?yR11⟩) hHeld ?_
        case yR11 => (intro w hSw; (try dsimp only at hSw); go_simp <;> with_reducible rfl)
        try simp only [Act.put, List.getElem_toArray, List.getElem_cons_zero, List.getElem_cons_succ, List.setIfInBounds_toArray, List.set_cons_zero, List.set_cons_succ]
        refine wpAnyH_take (i := 2) (oi := _) (v := ?vR12) rfl (by kernel_rfl) (by kernel_rfl) (by kernel_rfl) (fun _ _ _ h => h) (Or.inl ⟨by rfl, ?yR12⟩) hHeld ?_
        case yR12 => (intro w hSw; (try dsimp only at hSw); go_simp <;> with_reducible rfl)
        try simp only [Act.put, List.getElem_toArray, List.getElem_cons_zero, List.getElem_cons_succ, List.setIfInBounds_toArray, List.set_cons_zero, List.set_cons_succ]
        refine wpAnyH_take (i := 3) (oi := _) (v := ?vR13) rfl (by kernel_rfl) (by kernel_rfl) (by kernel_rfl) (fun _ _ _ h => h) (Or.inl ⟨by rfl, ?yR13⟩) hHeld ?_
        case yR13 => (intro w hSw; (try dsimp only at hSw); go_simp <;> with_reducible rfl)
        try simp only [Act.put, List.getElem_toArray, List.getElem_cons_zero, List.getElem_cons_succ, List.setIfInBounds_toArray, List.set_cons_zero, List.set_cons_succ]
        refine wpAnyH_take (i := 4) (oi := _) (v := ?vR14) rfl (by kernel_rfl) (by kernel_rfl) (by kernel_rfl) (fun _ _ _ h => h) (Or.inl ⟨by rfl, ?yR14⟩) hHeld ?_
        case yR14 => (intro w hSw; (try dsimp only at hSw); go_simp <;> with_reducible rfl)
        try simp only [Act.put, List.getElem_toArray, List.getElem_cons_zero, List.getElem_cons_succ, List.setIfInBounds_toArray, List.set_cons_zero, List.set_cons_succ]
        refine wpAnyH_take (i := 5) (oi := _) (v := ?vR15) rfl (by kernel_rfl) (by kernel_rfl) (by kernel_rfl) (fun _ _ _ h => h) (Or.inl ⟨by rfl, ?yR15⟩) hHeld ?_
        case yR15 => (intro w hSw; (try dsimp only at hSw); go_simp <;> with_reducible rfl)
        try simp only [Act.put, List.getElem_toArray, List.getElem_cons_zero, List.getElem_cons_succ, List.setIfInBounds_toArray, List.set_cons_zero, List.set_cons_succ]
        refine wpAnyH_ready (rs := [6]) (by kernel_rfl) (by simp) ?_
        refine AllReadyH.cons rfl (fun K hK => ?_) AllReadyH.nil
        go_simp
        go_wp2_with (go_at_call 41; refine (HM1.out _).mono ?_; rintro e w1 ⟨rfl, b1⟩; have h1 : Below wr.heap.size wr w1 := h0.trans (b1.mono h0.size))
        clear hHeld
        refine hK.out _ _ ?SR17 (fun hHeld => ?_)
        case SR17 => ((try dsimp only); first | (with_reducible exact KEEP.out _ h3) | (with_reducible exact KEEP.out _ h2) | (with_reducible exact KEEP.out _ h1) | (with_reducible exact KEEP.out _ h0))
        clear hK K
        refine wpAnyH_take (i := 7) (oi := _) (v := ?vR17) rfl (by kernel_rfl) (by kernel_rfl) (by kernel_rfl) (fun _ _ _ h => h) (Or.inl ⟨by rfl, ?yR17⟩) hHeld ?_
        case yR17 => (intro w hSw; (try dsimp only at hSw); go_simp <;> with_reducible rfl)
        try simp only [Act.put, List.getElem_toArray, List.getElem_cons_zero, List.getElem_cons_succ, List.setIfInBounds_toArray, List.set_cons_zero, List.set_cons_succ]
        refine wpAnyH_done (by kernel_rfl) ?_ _
        have h2 : Below wr.heap.size wr w1.drew := h1.drew
        go_wp2_with fail
        refine wp_region_held_drew (S := (fun w' => w'.cell? ⟨g, i * 2, none⟩ = some (.string M1) ∧ w'.cell? ⟨g, i * 2 + 1, none⟩ = some (.string M2))) (by kernel_rfl) ?SR20 (fun hHeld => ?_)
        case SR20 => (first | (with_reducible exact KEEP.out _ h3) | (with_reducible exact KEEP.out _ h2) | (with_reducible exact KEEP.out _ h1) | (with_reducible exact KEEP.out _ h0))
        refine wpAnyH_take (i := 0) (oi := _) (v := ?vR20) rfl (by kernel_rfl) (by kernel_rfl) (by kernel_rfl) (fun _ _ _ h => h) (Or.inl ⟨by rfl, ?yR20⟩) hHeld ?_
        case yR20 => (intro w hSw; (try dsimp only at hSw); go_simp <;> with_reducible rfl)
        try simp only [Act.put, List.getElem_toArray, List.getElem_cons_zero, List.getElem_cons_succ, List.setIfInBounds_toArray, List.set_cons_zero, List.set_cons_succ]
        refine wpAnyH_take (i := 1) (oi := _) (v := ?vR21) rfl (by kernel_rfl) (by kernel_rfl) (by kernel_rfl) (fun _ _ _ h => h) (Or.inl ⟨by rfl, ?yR21⟩) hHeld ?_
        case yR21 => (intro w hSw; (try dsimp only at hSw); go_simp <;> with_reducible rfl)
        try simp only [Act.put, List.getElem_toArray, List.getElem_cons_zero, List.getElem_cons_succ, List.setIfInBounds_toArray, List.set_cons_zero, List.set_cons_succ]
        refine wpAnyH_take (i := 2) (oi := _) (v := ?vR22) rfl (by kernel_rfl) (by kernel_rfl) (by kernel_rfl) (fun _ _ _ h => h) (Or.inl ⟨by rfl, ?yR22⟩) hHeld ?_
        case yR22 => (intro w hSw; (try dsimp only at hSw); go_simp <;> with_reducible rfl)
        try simp only [Act.put, List.getElem_toArray, List.getElem_cons_zero, List.getElem_cons_succ, List.setIfInBounds_toArray, List.set_cons_zero, List.set_cons_succ]
        refine wpAnyH_take (i := 3) (oi := _) (v := ?vR23) rfl (by kernel_rfl) (by kernel_rfl) (by kernel_rfl) (fun _ _ _ h => h) (Or.inl ⟨by rfl, ?yR23⟩) hHeld ?_
        case yR23 => (intro w hSw; (try dsimp only at hSw); go_simp <;> with_reducible rfl)
        try simp only [Act.put, List.getElem_toArray, List.getElem_cons_zero, List.getElem_cons_succ, List.setIfInBounds_toArray, List.set_cons_zero, List.set_cons_succ]
        refine wpAnyH_take (i := 4) (oi := _) (v := ?vR24) rfl (by kernel_rfl) (by kernel_rfl) (by kernel_rfl) (fun _ _ _ h => h) (Or.inl ⟨by rfl, ?yR24⟩) hHeld ?_
        case yR24 => (intro w hSw; (try dsimp only at hSw); go_simp <;> with_reducible rfl)
        try simp only [Act.put, List.getElem_toArray, List.getElem_cons_zero, List.getElem_cons_succ, List.setIfInBounds_toArray, List.set_cons_zero, List.set_cons_succ]
        refine wpAnyH_take (i := 5) (oi := _) (v := ?vR25) rfl (by kernel_rfl) (by kernel_rfl) (by kernel_rfl) (fun _ _ _ h => h) (Or.inl ⟨by rfl, ?yR25⟩) hHeld ?_
        case yR25 => (intro w hSw; (try dsimp only at hSw); go_simp <;> with_reducible rfl)
        try simp only [Act.put, List.getElem_toArray, List.getElem_cons_zero, List.getElem_cons_succ, List.setIfInBounds_toArray, List.set_cons_zero, List.set_cons_succ]
        refine wpAnyH_ready (rs := [6]) (by kernel_rfl) (by simp) ?_
        refine AllReadyH.cons rfl (fun K hK => ?_) AllReadyH.nil
        go_simp
        go_wp2_with (go_at_call 41; refine (HM2.out _).mono ?_; rintro e w2 ⟨rfl, b2⟩; have h3 : Below wr.heap.size wr w2 := h2.trans (b2.mono h2.size))
        clear hHeld
        refine hK.out _ _ ?SR27 (fun hHeld => ?_)
        case SR27 => ((try dsimp only); first | (with_reducible exact KEEP.out _ h3) | (with_reducible exact KEEP.out _ h2) | (with_reducible exact KEEP.out _ h1) | (with_reducible exact KEEP.out _ h0))
        clear hK K
        refine wpAnyH_take (i := 7) (oi := _) (v := ?vR27) rfl (by kernel_rfl) (by kernel_rfl) (by kernel_rfl) (fun _ _ _ h => h) (Or.inl ⟨by rfl, ?yR27⟩) hHeld ?_
        case yR27 => (intro w hSw; (try dsimp only at hSw); go_simp <;> with_reducible rfl)
        try simp only [Act.put, List.getElem_toArray, List.getElem_cons_zero, List.getElem_cons_succ, List.setIfInBounds_toArray, List.set_cons_zero, List.set_cons_succ]
        refine wpAnyH_done (by kernel_rfl) ?_ _
        go_wp2_with fail
        go_roundw
        case rel => exact ⟨i + 1, m + 2, by omega, by go_num, by simp; omega, (by show _ = _; have := hm.out; omega), hbr.trans (h3.mono hbr.size)⟩
        case measure => simp [intOf]; omega
      · have he : i = n := by omega
        subst he
        have HMM := hidden hm.out
        clear hc
        go_wp2_with fail
        go_ret
        exact ⟨by rw [← HMM.out]; rfl, hbr⟩
end Go.Proofs.YtkijckpkojcdcaaDoor

/-! Marks put into versions and entries, and found again, as the law does it: contracts for the walks; conditions: their rows lie in memory, may be written, and there are at most 2 to the 32 marks. -/
namespace Go.Proofs.YtkijckpkojcdcaaDoor
open Go.RowKit
set_option linter.unusedSimpArgs false
set_option linter.unusedVariables false

theorem chg_grown {w w' : World} {v : Value} (h : Chg (fun b => v.ownBlock = some b) w w') : w.grownBy w' v.ownBlock := ⟨h.os, h.tape, h.output, h.size, fun i hi hne => h.block i hi (fun k => hne k.symm)⟩
set_option maxHeartbeats 2000000 in
set_option maxRecDepth 100000 in
theorem markVerE_c (a b c : Int) (u : Value) (base n k : Nat) (xs : List Value) (w : World) (hv : w.ownsRow base 9 1 u n xs) (h1 : 1 ≤ k) (h2 : k + n ≤ 4294967296) (hbw : base ≤ w.heap.size) :
    Calls Tryd.prog 20 #[.agg #[.int .i64 a, .int .i64 b, .int .i64 c, u], .int .i64 (k : Int)] w fun e w' => e = .returned (.int .i64 ((k + n : Nat) : Int)) ∧ w'.ownsRow base 9 1 u n (strsV (marksS k n)) ∧ w.grownBy w' u.ownBlock := by
  have hbx : ∀ o, Below w.heap.size w (w.alloc o) := fun o => (Below.refl _ _).alloc (Nat.le_refl _) _
  have HM : Hid (∀ o, Calls Tryd.prog 42 #[u, .int .i64 (k : Int)] (w.alloc o) fun e w' => e = .returned (.int .i64 ((k + n : Nat) : Int)) ∧ w'.ownsRow base 9 1 u n (strsV (marksS k n)) ∧ (w.alloc o).grownBy w' u.ownBlock) := fun o => by
    have := markStrs_c u base n xs k (w.alloc o) (owns_of_below hv (hbx o)) h1 (by omega) (by omega) (Nat.le_trans hbw (hbx o).size)
    rwa [show (k : Int) + (n : Int) = ((k + n : Nat) : Int) by omega] at this
  obtain ⟨q, cap, hq⟩ := owns_sliceP hv
  subst hq
  clear hv
  go_enter Tryd.func20, Tryd.ntmps20
  go_wp2_with (go_at_call 42; refine (HM.out _).mono ?_; rintro e w1 ⟨rfl, o1, g1⟩)
  go_ret
  exact ⟨rfl, o1, grown_trans (grown_of_below (hbx _) _) g1⟩

set_option maxHeartbeats 2000000 in
set_option maxRecDepth 100000 in
theorem heldVerE_c (a b c : Int) (u : Value) (base n k : Nat) (w : World) (hv : w.ownsRow base 9 1 u n (strsV (marksS k n))) (h1 : 1 ≤ k) (h2 : k + n ≤ 4294967296) :
    Calls Tryd.prog 44 #[.agg #[.int .i64 a, .int .i64 b, .int .i64 c, u], .int .i64 (k : Int)] w fun e w' => e = .returned (.int .i64 ((k + n : Nat) : Int)) ∧ Below w.heap.size w w' := by
  have hbx : ∀ o, Below w.heap.size w (w.alloc o) := fun o => (Below.refl _ _).alloc (Nat.le_refl _) _
  have HM : Hid (∀ o, Calls Tryd.prog 65 #[u, .int .i64 (k : Int)] (w.alloc o) fun e w' => e = .returned (.int .i64 ((k + n : Nat) : Int)) ∧ Below (w.alloc o).heap.size (w.alloc o) w') := fun o => by
    have := heldStrs_c u n k (w.alloc o) (reads_of_owns (owns_of_below hv (hbx o))) h1 (by omega) (by omega)
    rwa [show (k : Int) + (n : Int) = ((k + n : Nat) : Int) by omega] at this
  obtain ⟨q, cap, hq⟩ := owns_sliceP hv
  subst hq
  clear hv
  obtain ⟨r, hr⟩ : ∃ r, r = k + n := ⟨_, rfl⟩
  rw [← hr] at HM ⊢
  have hr0 : ¬ (r : Int) < 0 := by omega
  clear hr
  go_enter Tryd.func44, Tryd.ntmps44
  go_wp2_with (go_at_call 65; refine (HM.out _).mono ?_; rintro e w1 ⟨rfl, b1⟩)
  go_ret
  exact ⟨rfl, (hbx _).trans (b1.mono (hbx _).size)⟩

set_option maxHeartbeats 2000000 in
set_option maxRecDepth 100000 in
theorem markEntry_c (S : Nat → Prop) (nm : ByteArray) (a b c : Int) (u0 u1 : Value) (p q k : Nat) (z0 z1 : List Value) (w : World) (h0 : w.ownsRow 0 9 1 u0 p z0) (h1 : w.ownsRow 0 106 2 u1 q z1) (hS0 : ∀ g, u0.ownBlock = some g → S g) (hS1 : ∀ g, u1.ownBlock = some g → S g) (hk : 1 ≤ k) (hb : k + p + q * 2 ≤ 4294967296) :
    Calls Tryd.prog 21 #[.agg #[.string nm, .int .i64 a, .int .i64 b, .int .i64 c, u0, u1], .int .i64 (k : Int)] w fun e w' => e = .returned (.int .i64 ((k + p + q * 2 : Nat) : Int)) ∧ w'.ownsRow 0 9 1 u0 p (strsV (marksS k p)) ∧ w'.ownsRow 0 106 2 u1 q (strsV (marksS (k + p) (q * 2))) ∧ Chg S w w' := by
  have hbx : ∀ o, Below w.heap.size w (w.alloc o) := fun o => (Below.refl _ _).alloc (Nat.le_refl _) _
  have i0 := owns_in h0
  obtain ⟨q0, cap0, e0⟩ := owns_sliceP h0
  subst e0
  obtain ⟨q1, cap1, e1⟩ := owns_sliceP h1
  subst e1
  have hA : (w.alloc (.cells #[.string nm, .int .i64 a, .int .i64 b, .int .i64 c, .slice q0 p cap0, .slice q1 q cap1] 42 (0, 0))).heap[w.heap.size]? = some (.cells #[.string nm, .int .i64 a, .int .i64 b, .int .i64 c, .slice q0 p cap0, .slice q1 q cap1] 42 (0, 0)) := vheap_new _ _
  have o0 := owns_of_below h0 (hbx (.cells #[.string nm, .int .i64 a, .int .i64 b, .int .i64 c, .slice q0 p cap0, .slice q1 q cap1] 42 (0, 0)))
  have o1 := h1.kept (grown_of_below (hbx (.cells #[.string nm, .int .i64 a, .int .i64 b, .int .i64 c, .slice q0 p cap0, .slice q1 q cap1] 42 (0, 0))) none) (by cases hq : (Value.slice q1 q cap1).ownBlock <;> simp)
  have HM := hidden (markVerE_c a b c _ 0 p k z0 _ o0 hk (by omega) (Nat.zero_le _))
  have HO := hidden (And.intro o0 o1)
  have HN := hidden (fun W (h : W.ownsRow 0 106 2 (.slice q1 q cap1) q z1) => markNeedV_c (.slice q1 q cap1) 0 q (k + p) z1 W h (by omega) hb)
  clear o0 o1
  go_enter Tryd.func21, Tryd.ntmps21
  go_wp2_with fail
  go_at_call 20
  refine HM.out.mono ?_
  rintro e w1 ⟨rfl, r0, g1⟩
  have hA1 := (g1.block w.heap.size (by simp) (fun e => by have := (i0 _ e.symm).2; omega)).trans hA
  have n1 := HO.out.2.kept g1 (owns_apart HO.out.2 HO.out.1 (by decide))
  have x0 := vblk_cell hA1 0
  have x1 := vblk_cell hA1 1
  have x2 := vblk_cell hA1 2
  have x3 := vblk_cell hA1 3
  have x4 := vblk_cell hA1 4
  have x5 := vblk_cell hA1 5
  simp only [List.getElem?_toArray, List.getElem?_cons_succ, List.getElem?_cons_zero] at x0 x1 x2 x3 x4 x5
  have HR := hidden (And.intro r0 n1)
  clear r0 n1 hA
  go_wp2_with fail
  go_at_call 43
  refine (HN.out _ HR.out.2).mono ?_
  rintro e w2 ⟨rfl, r2, g2⟩
  have r1 := HR.out.1.kept g2 (owns_apart HR.out.1 HR.out.2 (by decide))
  have HF := hidden (And.intro r1 (And.intro r2 ((Chg.of (hbx (.cells #[.string nm, .int .i64 a, .int .i64 b, .int .i64 c, .slice q0 p cap0, .slice q1 q cap1] 42 (0, 0)))).trans ((Chg.grown g1 hS0).trans (Chg.grown g2 hS1)))))
  clear r1 r2 x0 x1 x2 x3 x4 x5
  go_wp2_with fail
  go_ret
  exact ⟨rfl, HF.out.1, HF.out.2.1, HF.out.2.2⟩

set_option maxHeartbeats 2000000 in
set_option maxRecDepth 100000 in
theorem heldEntry_c (nm : ByteArray) (a b c : Int) (u0 u1 : Value) (p q k : Nat) (w : World) (h0 : w.ownsRow 0 9 1 u0 p (strsV (marksS k p))) (h1 : w.ownsRow 0 106 2 u1 q (strsV (marksS (k + p) (q * 2)))) (hk : 1 ≤ k) (hb : k + p + q * 2 ≤ 4294967296) :
    Calls Tryd.prog 22 #[.agg #[.string nm, .int .i64 a, .int .i64 b, .int .i64 c, u0, u1], .int .i64 (k : Int)] w fun e w' => e = .returned (.int .i64 ((k + p + q * 2 : Nat) : Int)) ∧ Below w.heap.size w w' := by
  have hbx : ∀ o, Below w.heap.size w (w.alloc o) := fun o => (Below.refl _ _).alloc (Nat.le_refl _) _
  obtain ⟨q0, cap0, e0⟩ := owns_sliceP h0
  subst e0
  obtain ⟨q1, cap1, e1⟩ := owns_sliceP h1
  subst e1
  have hA : (w.alloc (.cells #[.string nm, .int .i64 a, .int .i64 b, .int .i64 c, .slice q0 p cap0, .slice q1 q cap1] 42 (0, 0))).heap[w.heap.size]? = some (.cells #[.string nm, .int .i64 a, .int .i64 b, .int .i64 c, .slice q0 p cap0, .slice q1 q cap1] 42 (0, 0)) := vheap_new _ _
  have HV := hidden (fun W (h : Below w.heap.size w W) => heldVerE_c a b c (.slice q0 p cap0) 0 p k W (owns_of_below h0 h) hk (by omega))
  have HN := hidden (fun W (h : Below w.heap.size w W) => heldNeedS_c (.slice q1 q cap1) 0 q (k + p) W (h1.kept (grown_of_below h none) (by cases hq : (Value.slice q1 q cap1).ownBlock <;> simp)) (by omega) hb)
  obtain ⟨r, hr⟩ : ∃ r, r = k + p := ⟨_, rfl⟩
  obtain ⟨t, ht⟩ : ∃ t, t = k + p + q * 2 := ⟨_, rfl⟩
  simp only [← hr] at HV
  rw [← hr] at HN
  rw [← hr] at ht
  simp only [← ht] at HN
  rw [← hr, ← ht]
  have hr0 : ¬ (r : Int) < 0 := by omega
  have ht0 : ¬ (t : Int) < 0 := by omega
  clear hr ht h0 h1
  go_enter Tryd.func22, Tryd.ntmps22
  go_wp2_with fail
  go_at_call 44
  refine (HV.out _ (hbx _)).mono ?_
  rintro e w1 ⟨rfl, b1⟩
  have hA1 := (b1.block w.heap.size (by simp)).trans hA
  have k1 := (hbx (.cells #[.string nm, .int .i64 a, .int .i64 b, .int .i64 c, .slice q0 p cap0, .slice q1 q cap1] 42 (0, 0))).trans (b1.mono (hbx _).size)
  have x0 := vblk_cell hA1 0
  have x1 := vblk_cell hA1 1
  have x2 := vblk_cell hA1 2
  have x3 := vblk_cell hA1 3
  have x4 := vblk_cell hA1 4
  have x5 := vblk_cell hA1 5
  simp only [List.getElem?_toArray, List.getElem?_cons_succ, List.getElem?_cons_zero] at x0 x1 x2 x3 x4 x5
  clear hA
  go_wp2_with fail
  go_at_call 45
  refine (HN.out _ k1).mono ?_
  rintro e w2 ⟨rfl, b2⟩
  go_wp2_with fail
  go_ret
  exact ⟨rfl, k1.trans (b2.mono k1.size)⟩

end Go.Proofs.YtkijckpkojcdcaaDoor

/-! Marks put into rows of entries, as the law puts them: a contract for the walks; conditions: the rows lie in memory, may be written, and there are at most 2 to the 32 marks. -/
namespace Go.Proofs.YtkijckpkojcdcaaDoor
open Go.RowKit
set_option linter.unusedSimpArgs false
set_option linter.unusedVariables false

/-- The rows of a row of entries: each may be written. -/
def EntRows (w : World) (S : Nat → Prop) (ys : List Value) (xs : List EntryD) : Prop := ∀ i (h : i < xs.length), ∃ u0 u1 z0 z1, ys[i * 6 + 4]? = some u0 ∧ ys[i * 6 + 5]? = some u1 ∧ w.ownsRow 0 9 1 u0 xs[i].vP.length z0 ∧ (∀ g, u0.ownBlock = some g → S g) ∧ w.ownsRow 0 106 2 u1 xs[i].needs.length z1 ∧ ∀ g, u1.ownBlock = some g → S g
theorem EntRows.set {w : World} {S : Nat → Prop} {ys : List Value} {xs : List EntryD} (h : EntRows w S ys xs) (i r : Nat) (hr : r < 4) (v : Value) : EntRows w S (ys.set (i * 6 + r) v) xs := fun j hj => by
  obtain ⟨u0, u1, z0, z1, h1, h2, h3⟩ := h j hj
  exact ⟨u0, u1, z0, z1, by rw [List.getElem?_set_ne (by omega)]; exact h1, by rw [List.getElem?_set_ne (by omega)]; exact h2, h3⟩
theorem EntRows.below {w w' : World} {S : Nat → Prop} {ys : List Value} {xs : List EntryD} (h : EntRows w S ys xs) (hb : Below w.heap.size w w') : EntRows w' S ys xs := fun j hj => by
  obtain ⟨u0, u1, z0, z1, h1, h2, h3, h4, h5, h6⟩ := h j hj
  exact ⟨u0, u1, z0, z1, h1, h2, owns_kept (S := fun b => b < w.heap.size) (.of hb (fun b h => h)) (fun g h => (owns_in h3 g h).2) h3, h4, owns_kept (S := fun b => b < w.heap.size) (.of hb (fun b h => h)) (fun g h => (owns_in h5 g h).2) h5, h6⟩
theorem own_put {w : World} {lo lo' sz sz' n n' g j cap : Nat} {e e' : TypeId} {u x : Value} {zs ys : List Value} (h : w.ownsRow lo e sz u n zs) (hg : w.ownsRow lo' e' sz' (.slice (some ⟨g, 0, none⟩) n' cap) n' ys) (hne : e ≠ e') : (w.setCell ⟨g, j, none⟩ x).ownsRow lo e sz u n zs := by
  refine owns_kept (S := fun b => b ≠ g) (Kp.set (fun k => k rfl)) (fun g' hg' => ?_) h
  rintro rfl
  rcases owns_apart h hg hne with k | k
  · rw [k] at hg'; cases hg'
  · exact k (by rw [hg']; rfl)
theorem EntRows.store {w : World} {S : Nat → Prop} {ys : List Value} {xs : List EntryD} {g j n cap : Nat} {zs : List Value} {x : Value} (h : EntRows w S ys xs) (hg : w.ownsRow 0 42 6 (.slice (some ⟨g, 0, none⟩) n cap) n zs) : EntRows (w.setCell ⟨g, j, none⟩ x) S ys xs := fun i hi => by
  obtain ⟨u0, u1, z0, z1, h1, h2, h3, h4, h5, h6⟩ := h i hi
  exact ⟨u0, u1, z0, z1, h1, h2, own_put h3 hg (by decide), h4, own_put h5 hg (by decide), h6⟩
theorem EntRows.overS {w w' : World} {S : Nat → Prop} {ys : List Value} {xs : List EntryD} {u : Value} {n : Nat} {z z' : List Value} (h : EntRows w S ys xs) (h0 : w.ownsRow 0 9 1 u n z) (h1 : w'.ownsRow 0 9 1 u n z') (hg : w.grownBy w' u.ownBlock) : EntRows w' S ys xs := fun i hi => by
  obtain ⟨u0, u1, z0, z1, a1, a2, a3, a4, a5, a6⟩ := h i hi
  obtain ⟨z2, a7⟩ := owns_over a3 h0 h1 hg (by omega)
  exact ⟨u0, u1, z2, z1, a1, a2, a7, a4, a5.kept hg (owns_apart a5 h0 (by decide)), a6⟩
theorem EntRows.overN {w w' : World} {S : Nat → Prop} {ys : List Value} {xs : List EntryD} {u : Value} {n : Nat} {z z' : List Value} (h : EntRows w S ys xs) (h0 : w.ownsRow 0 106 2 u n z) (h1 : w'.ownsRow 0 106 2 u n z') (hg : w.grownBy w' u.ownBlock) : EntRows w' S ys xs := fun i hi => by
  obtain ⟨u0, u1, z0, z1, a1, a2, a3, a4, a5, a6⟩ := h i hi
  obtain ⟨z2, a7⟩ := owns_over a5 h0 h1 hg (by omega)
  exact ⟨u0, u1, z0, z2, a1, a2, a3.kept hg (owns_apart a3 h0 (by decide)), a4, a7, a6⟩
theorem entRows_of {S : Nat → Prop} {w : World} {ys : List Value} {xs : List EntryD} (h : Laid shEntryO S w ys xs xs.length) : EntRows w S ys xs := fun i hi => by
  obtain ⟨cs, h1, ⟨u0, u1, rfl, _, h2, _, h3⟩, h4⟩ := h i hi hi
  obtain ⟨_, yn, h5, h6, _⟩ := h3
  exact ⟨u0, u1, _, _, h4 4 (by simp), h4 5 (by simp), h2.1, h2.2, h5, h6⟩
def cntE (d : EntryD) : Nat := 4 + d.vP.length + d.needs.length * 2
def cntEs (xs : List EntryD) : Nat := (xs.map cntE).sum
theorem cntEs_take (xs : List EntryD) (i : Nat) (h : i < xs.length) : cntEs (xs.take (i + 1)) = cntEs (xs.take i) + cntE xs[i] := by
  unfold cntEs
  rw [List.take_succ_eq_append_getElem h, List.map_append, List.sum_append]; simp
theorem cntEs_le (xs : List EntryD) (i : Nat) : cntEs (xs.take i) ≤ cntEs xs := by
  unfold cntEs
  conv => rhs; rw [← List.take_append_drop i xs, List.map_append, List.sum_append]
  omega
theorem cntE_wt (d : EntryD) : cntE d ≤ 4 * (1 + wtEntry d) := by
  have h1 := len_wtRow wtNeed d.needs
  unfold cntE wtEntry bulkS
  omega
theorem cntEs_wt : ∀ xs : List EntryD, cntEs xs ≤ 4 * wtRow wtEntry xs
  | [] => by simp [cntEs]
  | d :: xs => by
    have h1 := cntEs_wt xs
    have h2 := cntE_wt d
    have e1 : cntEs (d :: xs) = cntE d + cntEs xs := by simp [cntEs]
    have e2 : wtRow wtEntry (d :: xs) = (1 + wtEntry d) + wtRow wtEntry xs := by simp [wtRow]
    omega

set_option maxHeartbeats 8000000 in
set_option maxRecDepth 100000 in
theorem markEntryS_c (S : Nat → Prop) (v : Value) (xs : List EntryD) (k : Nat) (w : World) (hv : RowOwn shEntryO 42 S w v xs) (h1 : 1 ≤ k) (h2 : k + cntEs xs ≤ 4294967296) :
    Calls Tryd.prog 19 #[v, .int .i64 (k : Int)] w fun e w' => e = .returned (.int .i64 ((k + cntEs xs : Nat) : Int)) ∧ Chg S w w' := by
  obtain ⟨_, zs, hv, hg, hld⟩ := hv
  have hr := entRows_of hld
  clear hld
  have hv : w.ownsRow 0 42 6 v xs.length zs := hv
  rcases id hv.2 with ⟨rfl, hn0⟩ | ⟨g, cap, cur, rfl, _, hgb, hcap, hmax, _⟩
  · have hns : xs = [] := List.eq_nil_of_length_eq_zero hn0
    subst hns
    clear hv hg hr
    go_enter Tryd.func19, Tryd.ntmps19
    go_wp2_with fail
    go_loopw [1, 5] (fun vk vi wr => vk = .int .i64 (k : Int) ∧ vi = .int .i64 0 ∧ wr = w) (fun _ _ _ => 0)
    case atStart => exact ⟨rfl, rfl, rfl⟩
    case round =>
      obtain ⟨rfl, rfl, rfl⟩ := hrel
      go_wp2_with fail
      go_ret
      exact ⟨by simp [cntEs], Chg.refl _ _⟩
  · have hSg := hg g rfl
    unfold maxLen at hmax
    clear hgb hg
    go_enter Tryd.func19, Tryd.ntmps19
    go_wp2_with fail
    go_loopw [1, 5] (fun vk vi wr => ∃ (i m : Nat) (ys : List Value), i ≤ xs.length ∧ vi = .int .i64 (i : Int) ∧ vk = .int .i64 (m : Int) ∧ Hid (m = k + cntEs (xs.take i)) ∧ wr.ownsRow 0 42 6 (.slice (some ⟨g, 0, none⟩) xs.length cap) xs.length ys ∧ Hid (EntRows wr S ys xs) ∧ Chg S w wr) (fun _ vi _ => xs.length - (intOf vi).toNat)
    case atStart => exact ⟨0, k, zs, Nat.zero_le _, rfl, rfl, by show _ = _; simp [cntEs], hv, hr, Chg.refl _ _⟩
    case round =>
      obtain ⟨i, m, ys, hi, rfl, rfl, hm, hown, hrr, hchg⟩ := hrel
      by_cases hlt : i < xs.length
      · have hlen := hown.1
        have hts := cntEs_take xs i hlt
        have htl := cntEs_le xs (i + 1)
        have HTS : Hid (cntEs (xs.take (i + 1)) = cntEs (xs.take i) + (4 + xs[i].vP.length + xs[i].needs.length * 2) ∧ cntEs (xs.take (i + 1)) ≤ cntEs xs) := ⟨hts, htl⟩
        obtain ⟨P, hP⟩ : ∃ P, P = xs[i].vP.length := ⟨_, rfl⟩
        obtain ⟨Q, hQ⟩ : ∃ Q, Q = xs[i].needs.length := ⟨_, rfl⟩
        rw [← hP, ← hQ] at HTS
        have HP := hidden hP
        have HQ := hidden hQ
        have hm2 : m + 4 + P + Q * 2 ≤ 4294967296 := by have := hm.out; have := HTS.out; omega
        have hm1 : 1 ≤ m := by have := hm.out; omega
        have hki : (i : Int) < (xs.length : Int) := by omega
        have HO := hidden hown
        have HM1 := hidden (fun w1 => markText_c m w1 (by omega) (by omega))
        clear hown hv hr hts htl hP hQ
        go_wp2_with fail
        go_at_call 41
        refine (HM1.out _).mono ?_
        rintro e w1 ⟨rfl, b1⟩
        have r1 := HO.out.kept (grown_of_below b1 none) (by simp [Value.ownBlock])
        have f1 := r1.frozenAt
        have hc : ∀ j, j < 6 → ∃ x, w1.cell? ⟨g, i * 6 + j, none⟩ = some x := fun j hj => ⟨ys.getD (i * 6 + j) undef, by rw [r1.cellAt _ (by omega)]; simp [List.getD_eq_getElem?_getD, show i * 6 + j < ys.length by omega]⟩
        obtain ⟨c0, d0⟩ := hc 0 (by omega)
        obtain ⟨c1, d1⟩ := hc 1 (by omega)
        obtain ⟨c2, d2⟩ := hc 2 (by omega)
        obtain ⟨c3, d3⟩ := hc 3 (by omega)
        rw [Nat.add_zero] at d0
        have q1 := hrr.out.below b1
        have s0 := r1.stored (i * 6 + 0) (.string (markStr m))
        have q2 := (q1.store (j := i * 6 + 0) (x := .string (markStr m)) r1).set i 0 (by omega) (.string (markStr m))
        have s1 := s0.1.stored (i * 6 + 1) (.int .i64 ((m : Int) + 1))
        have q3 := (q2.store (j := i * 6 + 1) (x := .int .i64 ((m : Int) + 1)) s0.1).set i 1 (by omega) (.int .i64 ((m : Int) + 1))
        have s2 := s1.1.stored (i * 6 + 2) (.int .i64 ((m : Int) + 1 + 1))
        have q4 := (q3.store (j := i * 6 + 2) (x := .int .i64 ((m : Int) + 1 + 1)) s1.1).set i 2 (by omega) (.int .i64 ((m : Int) + 1 + 1))
        have s3 := s2.1.stored (i * 6 + 3) (.int .i64 ((m : Int) + 1 + 1 + 1))
        have q5 := (q4.store (j := i * 6 + 3) (x := .int .i64 ((m : Int) + 1 + 1 + 1)) s2.1).set i 3 (by omega) (.int .i64 ((m : Int) + 1 + 1 + 1))
        obtain ⟨u0, u1, z0, z1, hu1, hu2, hu3, hu4, hu5, hu6⟩ := q5 i hlt
        rw [← HP.out] at hu3
        have d4 : w1.cell? ⟨g, i * 6 + 4, none⟩ = some u0 := by
          rw [r1.cellAt _ (by omega)]
          rw [List.getElem?_set_ne (by omega), List.getElem?_set_ne (by omega), List.getElem?_set_ne (by omega), List.getElem?_set_ne (by omega)] at hu1
          exact hu1
        obtain ⟨qu, cu, eu⟩ := owns_sliceP hu3
        have HMS := markStrs_c u0 0 P z0 (m + 4) _ hu3 (by omega) (by omega) (by omega) (Nat.zero_le _)
        rw [show ((m + 4 : Nat) : Int) = (m : Int) + 1 + 1 + 1 + 1 by omega] at HMS
        subst eu
        have CH1 : Chg S wr ((((w1.setCell ⟨g, i * 6 + 0, none⟩ (.string (markStr m))).setCell ⟨g, i * 6 + 1, none⟩ (.int .i64 ((m : Int) + 1))).setCell ⟨g, i * 6 + 2, none⟩ (.int .i64 ((m : Int) + 1 + 1))).setCell ⟨g, i * 6 + 3, none⟩ (.int .i64 ((m : Int) + 1 + 1 + 1))) := (Chg.of b1).trans ((Chg.set hSg).trans ((Chg.set hSg).trans ((Chg.set hSg).trans (Chg.set hSg))))
        simp only [Nat.add_zero] at HMS s3 q5 CH1 hu3
        have HMS2 := hidden HMS
        have HR2 := hidden s3.1
        have HQ2 := hidden q5
        have HU2 := hidden hu3
        have HCH1 := hidden CH1
        clear r1 s0 s1 s2 s3 q1 q2 q3 q4 q5 HMS hu1 hu2 hu3 hu5 hu6 CH1 hc
        go_wp2_with fail
        go_at_call 42
        refine HMS2.out.mono ?_
        rintro e w2 ⟨rfl, y2, g2⟩
        have r3 := HR2.out.kept g2 (owns_apart HR2.out HU2.out (by decide))
        have q6 := HQ2.out.overS HU2.out y2 g2
        obtain ⟨t0, t1, x0, x1, hv1, hv2, hv3, hv4, hv5, hv6⟩ := q6 i hlt
        rw [← HQ.out] at hv5
        have hl3 := r3.1
        have d5 : w2.cell? ⟨g, i * 6 + 5, none⟩ = some t1 := by
          rw [r3.cellAt _ (by omega)]
          exact hv2
        obtain ⟨qt, ct, et⟩ := owns_sliceP hv5
        have HMN := markNeedV_c t1 0 Q (m + 4 + P) x1 _ hv5 (by omega) (by omega)
        rw [show ((m + 4 + P : Nat) : Int) = (m : Int) + 1 + 1 + 1 + 1 + (P : Int) by omega] at HMN
        subst et
        have HMN2 := hidden HMN
        have HR3 := hidden r3
        have HQ3 := hidden q6
        have HU3 := hidden hv5
        have HCH2 := hidden (HCH1.out.trans (Chg.grown g2 hu4))
        clear r3 q6 HMN hv1 hv2 hv3 hv4 hv5 y2
        go_wp2_with fail
        go_at_call 43
        refine HMN2.out.mono ?_
        rintro e w3 ⟨rfl, y3, g3⟩
        have r4 := HR3.out.kept g3 (owns_apart HR3.out HU3.out (by decide))
        have q7 := HQ3.out.overN HU3.out y3 g3
        have HR4 := hidden r4
        have HQ4 := hidden q7
        have HCH3 := hidden (HCH2.out.trans (Chg.grown g3 hv6))
        clear r4 q7 y3
        go_wp2_with fail
        go_roundw
        case rel => exact ⟨i + 1, m + 4 + P + Q * 2, _, by omega, by go_num, by first | rfl | (simp; done) | (simp; omega), (by show _ = _; have := hm.out; have := HTS.out; omega), HR4.out, HQ4, hchg.trans HCH3.out⟩
        case measure => simp [intOf]; omega
      · have he : i = xs.length := by omega
        subst he
        have hmm : m = k + cntEs xs := by have := hm.out; rw [List.take_length] at this; exact this
        have HMM := hidden hmm
        clear hown hv hr hrr hmm
        go_wp2_with fail
        go_ret
        exact ⟨by rw [← HMM.out]; rfl, hchg⟩
end Go.Proofs.YtkijckpkojcdcaaDoor

/-! How much needs hold, as the law counts it: contracts for the walks; conditions: at most 2 to the 20 is left to count. -/
namespace Go.Proofs.YtkijckpkojcdcaaDoor
open Go.RowKit
set_option linter.unusedSimpArgs false
set_option linter.unusedVariables false

set_option maxHeartbeats 2000000 in
set_option maxRecDepth 100000 in
theorem szNeed_c (S : Nat → Prop) (d : NeedD) (cs : List Value) (left : Int) (h0 : 0 ≤ left) (h1 : left ≤ 1048576) (w : World) (hd : shNeed.lies S w cs d) (hB : ∀ b, S b → b < w.heap.size) :
    Calls Tryd.prog 75 #[.agg cs.toArray, .int .i64 left] w fun e w' => e = .returned (.int .i64 (leftW (wtNeed d) left)) ∧ Below w.heap.size w w' := by
  obtain ⟨rfl, s_n, s_r⟩ := hd
  unfold maxLen at s_n
  unfold maxLen at s_r
  have hbx : ∀ o, Below w.heap.size w (w.alloc o) := fun o => (Below.refl _ _).alloc (Nat.le_refl _) _
  obtain ⟨R, hR⟩ : ∃ R, R = leftW (wtNeed d) left := ⟨_, rfl⟩
  rw [← hR]
  have lt := lw (wtNeed d) left
  rw [← hR] at lt
  unfold wtNeed at lt
  clear hR
  by_cases n0 : (left - (d.n.size : Int)) < 0
  · have HR : Hid (R = -1) := by show _ = _; omega
    clear lt 
    go_enter Tryd.func75, Tryd.ntmps75
    go_wp2_with fail
    go_ret
    exact ⟨by rw [HR.out]; rfl, (hbx _)⟩
  by_cases n1 : ((left - (d.n.size : Int)) - (d.r.size : Int)) < 0
  · have HR : Hid (R = -1) := by show _ = _; omega
    clear lt 
    go_enter Tryd.func75, Tryd.ntmps75
    go_wp2_with fail
    go_ret
    exact ⟨by rw [HR.out]; rfl, (hbx _)⟩
  have HR : Hid (R = ((left - (d.n.size : Int)) - (d.r.size : Int))) := by show _ = _; omega
  clear lt 
  go_enter Tryd.func75, Tryd.ntmps75
  go_wp2_with fail
  go_ret
  exact ⟨by rw [HR.out]; rfl, (hbx _)⟩

set_option maxHeartbeats 2000000 in
set_option maxRecDepth 100000 in
theorem szNeedS_c (S : Nat → Prop) (v : Value) (xs : List NeedD) (left : Int) (h0 : 0 ≤ left) (h1 : left ≤ 1048576) (w : World) (hv : RowIn shNeed S w v xs) (hB : ∀ b, S b → b < w.heap.size) :
    Calls Tryd.prog 55 #[v, .int .i64 left] w fun e w' => e = .returned (.int .i64 (leftW (wtRow wtNeed xs) left)) ∧ Below w.heap.size w w' := by
  obtain ⟨a, cap, rfl, hl, hc, ha⟩ := hv
  unfold maxLen at hl
  by_cases hneg : left - (xs.length : Int) < 0
  · have e : leftW (wtRow wtNeed xs) left = -1 := leftW_bad (by have := len_wtRow wtNeed xs; omega)
    rw [e]
    clear ha
    go_enter Tryd.func55, Tryd.ntmps55
    go_wp2_with fail
    go_ret
    exact ⟨rfl, Below.refl _ _⟩
  · go_enter Tryd.func55, Tryd.ntmps55
    go_wp2_with fail
    go_loopw [1, 5] (fun vl vi wr => ∃ (k : Nat) (q : Int), k ≤ xs.length ∧ vi = .int .i64 (k : Int) ∧ vl = .int .i64 q ∧ 0 ≤ q ∧ q ≤ 1048576 ∧ Hid (q = left - (xs.length : Int) - (wtRow wtNeed (xs.take k) : Int) + (k : Int)) ∧ Below w.heap.size w wr) (fun _ vi _ => xs.length - (intOf vi).toNat)
    case atStart => exact ⟨0, _, Nat.zero_le _, rfl, rfl, by omega, by omega, by show _ = _; simp [wtRow], Below.refl _ _⟩
    case round =>
      obtain ⟨k, q, hk, rfl, rfl, hq0, hq1, hq, hbr⟩ := hrel
      by_cases hlt' : k < xs.length
      · rcases ha with rfl | ⟨b, off, rfl, hlt, ha⟩
        · simp at hlt'
        obtain ⟨cs, hL, hcell⟩ := ha k hlt'
        have hL2 := shNeed.keep (.of hbr hB) hL
        have hcell2 := hcell.keep (.of hbr hB) hlt
        have hBr : ∀ b, S b → b < wr.heap.size := fun b h => Nat.lt_of_lt_of_le (hB b h) hbr.size
        have hwt := wtRow_take wtNeed xs k hlt'
        have hsp := wtRow_split wtNeed xs (k + 1)
        have hln := len_wtRow wtNeed (xs.drop (k + 1))
        have hdl : (xs.drop (k + 1)).length = xs.length - (k + 1) := by simp
        obtain ⟨d, hd⟩ : ∃ d, d = xs[k] := ⟨_, rfl⟩
        rw [← hd] at hL2 hwt
        have HW : Hid (wtRow wtNeed (xs.take (k + 1)) = wtRow wtNeed (xs.take k) + (1 + wtNeed d)) := hwt
        have HSP : Hid (wtRow wtNeed xs = wtRow wtNeed (xs.take (k + 1)) + wtRow wtNeed (xs.drop (k + 1)) ∧ xs.length - (k + 1) ≤ wtRow wtNeed (xs.drop (k + 1))) := ⟨hsp, by omega⟩
        have hki : (k : Int) < (xs.length : Int) := by omega
        obtain ⟨p, hp⟩ : ∃ p, p = leftW (wtNeed d) q := ⟨_, rfl⟩
        have HP : Hid (p = leftW (wtNeed d) q) := hp
        have HC := szNeed_c S d cs q hq0 hq1 wr hL2 hBr
        rw [← hp] at HC
        clear hL hcell ha hwt hd hp hsp hln hdl
        obtain ⟨rfl, s_n, s_r⟩ := hL2
        clear s_n s_r
        have e0 : wr.cell? ⟨b, off + k * 2, none⟩ = some (.string d.n) := hcell2 0 (by simp)
        have e1 : wr.cell? ⟨b, off + k * 2 + 1, none⟩ = some (.string d.r) := hcell2 1 (by simp)
        have HC2 := hidden HC
        clear hcell2 HC
        by_cases hpn : p < 0
        · go_wp2_with (go_at_call 75; refine HC2.out.mono ?_; rintro e w1 ⟨rfl, hb1⟩)
          go_ret
          have e : leftW (wtRow wtNeed xs) left = -1 := by
            have h2 := HP.out; have h3 := hq.out; have h4 := HW.out; have h5 := HSP.out
            refine leftW_bad ?_
            by_cases h6 : ((wtNeed d : Nat) : Int) ≤ q
            · rw [leftW_good h6] at h2; omega
            · omega
          exact ⟨by rw [e]; rfl, hbr.trans (hb1.mono hbr.size)⟩
        · go_wp2_with (go_at_call 75; refine HC2.out.mono ?_; rintro e w1 ⟨rfl, hb1⟩)
          go_roundw
          case rel =>
            have h2 := HP.out; have h3 := hq.out; have h4 := HW.out
            have h6 : ((wtNeed d : Nat) : Int) ≤ q := by
              by_cases h6 : ((wtNeed d : Nat) : Int) ≤ q
              · exact h6
              · rw [leftW_bad (by omega)] at h2; omega
            rw [leftW_good h6] at h2
            exact ⟨k + 1, p, by omega, by go_num, rfl, by omega, by omega, (by show _ = _; omega), hbr.trans (hb1.mono hbr.size)⟩
          case measure => simp [intOf]; omega
      · have he : k = xs.length := by omega
        subst he
        clear ha
        go_wp2_with fail
        go_ret
        have e : leftW (wtRow wtNeed xs) left = q := by
          have h3 := hq.out
          rw [List.take_length] at h3
          rw [leftW_good (by omega)]; omega
        exact ⟨by rw [e]; rfl, hbr⟩

end Go.Proofs.YtkijckpkojcdcaaDoor
