/-
  Marks put into rows of picks, as the law puts them: a contract for the walks; conditions: the rows lie in memory, may be written, and there are at most 2 to the 32 marks.
-/
import Derived.Test.YtbolphjigjpmiaaEmC
import Derived.Test.YtbolphjigjpmiaaPiA
namespace Go.Proofs.Ytbolphjigjpmiaa
open Go.RowKit
set_option linter.unusedSimpArgs false
set_option linter.unusedVariables false

/-- The rows of a row of picks: each may be written. -/
def PickRows (w : World) (S : Nat → Prop) (ys : List Value) (xs : List PickD) : Prop := ∀ i (h : i < xs.length), ∃ u0 z0, ys[i * 5 + 4]? = some u0 ∧ w.ownsRow 0 9 1 u0 xs[i].vP.length z0 ∧ (∀ g, u0.ownBlock = some g → S g)
theorem PickRows.set {w : World} {S : Nat → Prop} {ys : List Value} {xs : List PickD} (h : PickRows w S ys xs) (i r : Nat) (hr : r < 4) (v : Value) : PickRows w S (ys.set (i * 5 + r) v) xs := fun j hj => by
  obtain ⟨u0, z0, h1, h3⟩ := h j hj
  exact ⟨u0, z0, by rw [List.getElem?_set_ne (by omega)]; exact h1, h3⟩
theorem PickRows.below {w w' : World} {S : Nat → Prop} {ys : List Value} {xs : List PickD} (h : PickRows w S ys xs) (hb : Below w.heap.size w w') : PickRows w' S ys xs := fun j hj => by
  obtain ⟨u0, z0, h1, h3, h4⟩ := h j hj
  exact ⟨u0, z0, h1, owns_kept (S := fun b => b < w.heap.size) (.of hb (fun b h => h)) (fun g h => (owns_in h3 g h).2) h3, h4⟩
theorem PickRows.store {w : World} {S : Nat → Prop} {ys : List Value} {xs : List PickD} {g j n cap : Nat} {zs : List Value} {x : Value} (h : PickRows w S ys xs) (hg : w.ownsRow 0 113 5 (.slice (some ⟨g, 0, none⟩) n cap) n zs) : PickRows (w.setCell ⟨g, j, none⟩ x) S ys xs := fun i hi => by
  obtain ⟨u0, z0, h1, h3, h4⟩ := h i hi
  exact ⟨u0, z0, h1, own_put h3 hg (by decide), h4⟩
theorem PickRows.overS {w w' : World} {S : Nat → Prop} {ys : List Value} {xs : List PickD} {u : Value} {n : Nat} {z z' : List Value} (h : PickRows w S ys xs) (h0 : w.ownsRow 0 9 1 u n z) (h1 : w'.ownsRow 0 9 1 u n z') (hg : w.grownBy w' u.ownBlock) : PickRows w' S ys xs := fun i hi => by
  obtain ⟨u0, z0, a1, a3, a4⟩ := h i hi
  obtain ⟨z2, a7⟩ := owns_over a3 h0 h1 hg (by omega)
  exact ⟨u0, z2, a1, a7, a4⟩
theorem pickRows_of {S : Nat → Prop} {w : World} {ys : List Value} {xs : List PickD} (h : Laid shPickO S w ys xs xs.length) : PickRows w S ys xs := fun i hi => by
  obtain ⟨cs, h1, ⟨u0, rfl, _, h2, _⟩, h4⟩ := h i hi hi
  exact ⟨u0, _, h4 4 (by simp), h2.1, h2.2⟩
def cntP (d : PickD) : Nat := 4 + d.vP.length
def cntPs (xs : List PickD) : Nat := (xs.map cntP).sum
theorem cntPs_take (xs : List PickD) (i : Nat) (h : i < xs.length) : cntPs (xs.take (i + 1)) = cntPs (xs.take i) + cntP xs[i] := by
  unfold cntPs
  rw [List.take_succ_eq_append_getElem h, List.map_append, List.sum_append]; simp
theorem cntPs_le (xs : List PickD) (i : Nat) : cntPs (xs.take i) ≤ cntPs xs := by
  unfold cntPs
  conv => rhs; rw [← List.take_append_drop i xs, List.map_append, List.sum_append]
  omega
theorem cntP_wt (d : PickD) : cntP d ≤ 4 * (1 + wtPick d) := by
  unfold cntP wtPick bulkS
  omega
theorem cntPs_wt : ∀ xs : List PickD, cntPs xs ≤ 4 * wtRow wtPick xs
  | [] => by simp [cntPs]
  | d :: xs => by
    have h1 := cntPs_wt xs
    have h2 := cntP_wt d
    have e1 : cntPs (d :: xs) = cntP d + cntPs xs := by simp [cntPs]
    have e2 : wtRow wtPick (d :: xs) = (1 + wtPick d) + wtRow wtPick xs := by simp [wtRow]
    omega

set_option maxHeartbeats 8000000 in
set_option maxRecDepth 100000 in
theorem markPickS_c (S : Nat → Prop) (v : Value) (xs : List PickD) (k : Nat) (w : World) (hv : RowOwn shPickO 113 S w v xs) (h1 : 1 ≤ k) (h2 : k + cntPs xs ≤ 4294967296) :
    Calls Try.prog 33 #[v, .int .i64 (k : Int)] w fun e w' => e = .returned (.int .i64 ((k + cntPs xs : Nat) : Int)) ∧ Chg S w w' := by
  obtain ⟨_, zs, hv, hg, hld⟩ := hv
  have hr := pickRows_of hld
  clear hld
  have hv : w.ownsRow 0 113 5 v xs.length zs := hv
  rcases id hv.2 with ⟨rfl, hn0⟩ | ⟨g, cap, cur, rfl, _, hgb, hcap, hmax, _⟩
  · have hns : xs = [] := List.eq_nil_of_length_eq_zero hn0
    subst hns
    clear hv hg hr
    go_enter Try.func33, Try.ntmps33
    go_wp2_with fail
    go_loopw [1, 5] (fun vk vi wr => vk = .int .i64 (k : Int) ∧ vi = .int .i64 0 ∧ wr = w) (fun _ _ _ => 0)
    case atStart => exact ⟨rfl, rfl, rfl⟩
    case round =>
      obtain ⟨rfl, rfl, rfl⟩ := hrel
      go_wp2_with fail
      go_ret
      exact ⟨by simp [cntPs], Chg.refl _ _⟩
  · have hSg := hg g rfl
    unfold maxLen at hmax
    clear hgb hg
    go_enter Try.func33, Try.ntmps33
    go_wp2_with fail
    go_loopw [1, 5] (fun vk vi wr => ∃ (i m : Nat) (ys : List Value), i ≤ xs.length ∧ vi = .int .i64 (i : Int) ∧ vk = .int .i64 (m : Int) ∧ Hid (m = k + cntPs (xs.take i)) ∧ wr.ownsRow 0 113 5 (.slice (some ⟨g, 0, none⟩) xs.length cap) xs.length ys ∧ Hid (PickRows wr S ys xs) ∧ Chg S w wr) (fun _ vi _ => xs.length - (intOf vi).toNat)
    case atStart => exact ⟨0, k, zs, Nat.zero_le _, rfl, rfl, by show _ = _; simp [cntPs], hv, hr, Chg.refl _ _⟩
    case round =>
      obtain ⟨i, m, ys, hi, rfl, rfl, hm, hown, hrr, hchg⟩ := hrel
      by_cases hlt : i < xs.length
      · have hlen := hown.1
        have hts := cntPs_take xs i hlt
        have htl := cntPs_le xs (i + 1)
        have HTS : Hid (cntPs (xs.take (i + 1)) = cntPs (xs.take i) + (4 + xs[i].vP.length) ∧ cntPs (xs.take (i + 1)) ≤ cntPs xs) := ⟨hts, htl⟩
        obtain ⟨P, hP⟩ : ∃ P, P = xs[i].vP.length := ⟨_, rfl⟩
        rw [← hP] at HTS
        have HP := hidden hP
        have hm2 : m + 4 + P ≤ 4294967296 := by have := hm.out; have := HTS.out; omega
        have hm1 : 1 ≤ m := by have := hm.out; omega
        have hki : (i : Int) < (xs.length : Int) := by omega
        have HO := hidden hown
        have HM1 := hidden (fun w1 => markText_c m w1 (by omega) (by omega))
        clear hown hv hr hts htl hP
        go_wp2_with fail
        go_at_call 70
        refine (HM1.out _).mono ?_
        rintro e w1 ⟨rfl, b1⟩
        have r1 := HO.out.kept (grown_of_below b1 none) (by simp [Value.ownBlock])
        have f1 := r1.frozenAt
        have hc : ∀ j, j < 5 → ∃ x, w1.cell? ⟨g, i * 5 + j, none⟩ = some x := fun j hj => ⟨ys.getD (i * 5 + j) undef, by rw [r1.cellAt _ (by omega)]; simp [List.getD_eq_getElem?_getD, show i * 5 + j < ys.length by omega]⟩
        obtain ⟨c0, d0⟩ := hc 0 (by omega)
        obtain ⟨c1, d1⟩ := hc 1 (by omega)
        obtain ⟨c2, d2⟩ := hc 2 (by omega)
        obtain ⟨c3, d3⟩ := hc 3 (by omega)
        rw [Nat.add_zero] at d0
        have q1 := hrr.out.below b1
        have s0 := r1.stored (i * 5 + 0) (.string (markStr m))
        have q2 := (q1.store (j := i * 5 + 0) (x := .string (markStr m)) r1).set i 0 (by omega) (.string (markStr m))
        have s1 := s0.1.stored (i * 5 + 1) (.int .i64 ((m : Int) + 1))
        have q3 := (q2.store (j := i * 5 + 1) (x := .int .i64 ((m : Int) + 1)) s0.1).set i 1 (by omega) (.int .i64 ((m : Int) + 1))
        have s2 := s1.1.stored (i * 5 + 2) (.int .i64 ((m : Int) + 1 + 1))
        have q4 := (q3.store (j := i * 5 + 2) (x := .int .i64 ((m : Int) + 1 + 1)) s1.1).set i 2 (by omega) (.int .i64 ((m : Int) + 1 + 1))
        have s3 := s2.1.stored (i * 5 + 3) (.int .i64 ((m : Int) + 1 + 1 + 1))
        have q5 := (q4.store (j := i * 5 + 3) (x := .int .i64 ((m : Int) + 1 + 1 + 1)) s2.1).set i 3 (by omega) (.int .i64 ((m : Int) + 1 + 1 + 1))
        obtain ⟨u0, z0, hu1, hu3, hu4⟩ := q5 i hlt
        rw [← HP.out] at hu3
        have d4 : w1.cell? ⟨g, i * 5 + 4, none⟩ = some u0 := by
          rw [r1.cellAt _ (by omega)]
          rw [List.getElem?_set_ne (by omega), List.getElem?_set_ne (by omega), List.getElem?_set_ne (by omega), List.getElem?_set_ne (by omega)] at hu1
          exact hu1
        obtain ⟨qu, cu, eu⟩ := owns_sliceP hu3
        have HMS := markStrs_c u0 0 P z0 (m + 4) _ hu3 (by omega) (by omega) (by omega) (Nat.zero_le _)
        rw [show ((m + 4 : Nat) : Int) = (m : Int) + 1 + 1 + 1 + 1 by omega] at HMS
        subst eu
        have CH1 : Chg S wr ((((w1.setCell ⟨g, i * 5 + 0, none⟩ (.string (markStr m))).setCell ⟨g, i * 5 + 1, none⟩ (.int .i64 ((m : Int) + 1))).setCell ⟨g, i * 5 + 2, none⟩ (.int .i64 ((m : Int) + 1 + 1))).setCell ⟨g, i * 5 + 3, none⟩ (.int .i64 ((m : Int) + 1 + 1 + 1))) := (Chg.of b1).trans ((Chg.set hSg).trans ((Chg.set hSg).trans ((Chg.set hSg).trans (Chg.set hSg))))
        simp only [Nat.add_zero] at HMS s3 q5 CH1 hu3
        have HMS2 := hidden HMS
        have HR2 := hidden s3.1
        have HQ2 := hidden q5
        have HU2 := hidden hu3
        have HCH1 := hidden CH1
        clear r1 s0 s1 s2 s3 q1 q2 q3 q4 q5 HMS hu1 hu3 CH1 hc
        go_wp2_with fail
        go_at_call 55
        refine HMS2.out.mono ?_
        rintro e w2 ⟨rfl, y2, g2⟩
        have r3 := HR2.out.kept g2 (owns_apart HR2.out HU2.out (by decide))
        have q6 := HQ2.out.overS HU2.out y2 g2
        have HR4 := hidden r3
        have HQ4 := hidden q6
        have HCH3 := hidden (HCH1.out.trans (Chg.grown g2 hu4))
        clear r3 q6 y2
        go_wp2_with fail
        go_roundw
        case rel => exact ⟨i + 1, m + 4 + P, _, by omega, by go_num, by first | rfl | (simp; done) | (simp; omega), (by show _ = _; have := hm.out; have := HTS.out; omega), HR4.out, HQ4, hchg.trans HCH3.out⟩
        case measure => simp [intOf]; omega
      · have he : i = xs.length := by omega
        subst he
        have hmm : m = k + cntPs xs := by have := hm.out; rw [List.take_length] at this; exact this
        have HMM := hidden hmm
        clear hown hv hr hrr hmm
        go_wp2_with fail
        go_ret
        exact ⟨by rw [← HMM.out]; rfl, hchg⟩
end Go.Proofs.Ytbolphjigjpmiaa
