/-
  Marks put into rows of entries, as the law puts them: a contract for the walks; conditions: the rows lie in memory, may be written, and there are at most 2 to the 32 marks.
-/
import Derived.Test.YtbolphjigjpmiaaEmB
namespace Go.Proofs.Ytbolphjigjpmiaa
open Go.RowKit
set_option linter.unusedSimpArgs false
set_option linter.unusedVariables false

/-- The rows of a row of entries: each may be written. -/
def EntRows (w : World) (S : Nat → Prop) (ys : List Value) (xs : List EntryD) : Prop := ∀ i (h : i < xs.length), ∃ u0 u1 z0 z1, ys[i * 6 + 4]? = some u0 ∧ ys[i * 6 + 5]? = some u1 ∧ w.ownsRow 0 9 1 u0 xs[i].vP.length z0 ∧ (∀ g, u0.ownBlock = some g → S g) ∧ w.ownsRow 0 83 2 u1 xs[i].needs.length z1 ∧ ∀ g, u1.ownBlock = some g → S g
theorem EntRows.set {w : World} {S : Nat → Prop} {ys : List Value} {xs : List EntryD} (h : EntRows w S ys xs) (i r : Nat) (hr : r < 4) (v : Value) : EntRows w S (ys.set (i * 6 + r) v) xs := fun j hj => by
  obtain ⟨u0, u1, z0, z1, h1, h2, h3⟩ := h j hj
  exact ⟨u0, u1, z0, z1, by rw [List.getElem?_set_ne (by omega)]; exact h1, by rw [List.getElem?_set_ne (by omega)]; exact h2, h3⟩
theorem EntRows.below {w w' : World} {S : Nat → Prop} {ys : List Value} {xs : List EntryD} (h : EntRows w S ys xs) (hb : Below w.heap.size w w') : EntRows w' S ys xs := fun j hj => by
  obtain ⟨u0, u1, z0, z1, h1, h2, h3, h4, h5, h6⟩ := h j hj
  exact ⟨u0, u1, z0, z1, h1, h2, owns_kept (S := fun b => b < w.heap.size) (.of hb (fun b h => h)) (fun g h => (owns_in h3 g h).2) h3, h4, owns_kept (S := fun b => b < w.heap.size) (.of hb (fun b h => h)) (fun g h => (owns_in h5 g h).2) h5, h6⟩
theorem own_put {w : World} {lo lo' sz sz' n n' g j cap : Nat} {e e' : TypeId} {u x : Value} {zs ys : List Value} (h : w.ownsRow lo e sz u n zs) (hg : w.ownsRow lo' e' sz' (.slice (some ⟨g, 0, none⟩) n' cap) n' ys) (hne : e ≠ e') : (w.setCell ⟨g, j, none⟩ x).ownsRow lo e sz u n zs := by
  refine owns_kept (S := fun b => b ≠ g) (Kp.set (fun k => k rfl)) (fun g' hg' => ?_) h
  rintro rfl
  rcases owns_apart h hg hne with k | k
  · rw [k] at hg'; cases hg'
  · exact k (by rw [hg']; rfl)
theorem EntRows.store {w : World} {S : Nat → Prop} {ys : List Value} {xs : List EntryD} {g j n cap : Nat} {zs : List Value} {x : Value} (h : EntRows w S ys xs) (hg : w.ownsRow 0 101 6 (.slice (some ⟨g, 0, none⟩) n cap) n zs) : EntRows (w.setCell ⟨g, j, none⟩ x) S ys xs := fun i hi => by
  obtain ⟨u0, u1, z0, z1, h1, h2, h3, h4, h5, h6⟩ := h i hi
  exact ⟨u0, u1, z0, z1, h1, h2, own_put h3 hg (by decide), h4, own_put h5 hg (by decide), h6⟩
theorem EntRows.overS {w w' : World} {S : Nat → Prop} {ys : List Value} {xs : List EntryD} {u : Value} {n : Nat} {z z' : List Value} (h : EntRows w S ys xs) (h0 : w.ownsRow 0 9 1 u n z) (h1 : w'.ownsRow 0 9 1 u n z') (hg : w.grownBy w' u.ownBlock) : EntRows w' S ys xs := fun i hi => by
  obtain ⟨u0, u1, z0, z1, a1, a2, a3, a4, a5, a6⟩ := h i hi
  obtain ⟨z2, a7⟩ := owns_over a3 h0 h1 hg (by omega)
  exact ⟨u0, u1, z2, z1, a1, a2, a7, a4, a5.kept hg (owns_apart a5 h0 (by decide)), a6⟩
theorem EntRows.overN {w w' : World} {S : Nat → Prop} {ys : List Value} {xs : List EntryD} {u : Value} {n : Nat} {z z' : List Value} (h : EntRows w S ys xs) (h0 : w.ownsRow 0 83 2 u n z) (h1 : w'.ownsRow 0 83 2 u n z') (hg : w.grownBy w' u.ownBlock) : EntRows w' S ys xs := fun i hi => by
  obtain ⟨u0, u1, z0, z1, a1, a2, a3, a4, a5, a6⟩ := h i hi
  obtain ⟨z2, a7⟩ := owns_over a5 h0 h1 hg (by omega)
  exact ⟨u0, u1, z0, z2, a1, a2, a3.kept hg (owns_apart a3 h0 (by decide)), a4, a7, a6⟩
theorem entRows_of {S : Nat → Prop} {w : World} {ys : List Value} {xs : List EntryD} (h : Laid shEntryO S w ys xs xs.length) : EntRows w S ys xs := fun i hi => by
  obtain ⟨cs, h1, ⟨u0, u1, rfl, _, h2, _, h3⟩, h4⟩ := h i hi hi
  obtain ⟨_, yn, h5, h6, _⟩ := h3
  exact ⟨u0, u1, _, _, h4 4 (by simp), h4 5 (by simp), h2.1, h2.2, h5, h6⟩
def cntE (d : EntryD) : Nat := 4 + d.vP.length + d.needs.length * 2
def cntEs (xs : List EntryD) : Nat := (xs.map cntE).sum
theorem cntEs_take (xs : List EntryD) (i : Nat) (h : i < xs.length) : cntEs (xs.take (i + 1)) = cntEs (xs.take i) + cntE xs[i] := by
  unfold cntEs
  rw [List.take_succ_eq_append_getElem h, List.map_append, List.sum_append]; simp
theorem cntEs_le (xs : List EntryD) (i : Nat) : cntEs (xs.take i) ≤ cntEs xs := by
  unfold cntEs
  conv => rhs; rw [← List.take_append_drop i xs, List.map_append, List.sum_append]
  omega
theorem cntE_wt (d : EntryD) : cntE d ≤ 4 * (1 + wtEntry d) := by
  have h1 := len_wtRow wtNeed d.needs
  unfold cntE wtEntry bulkS
  omega
theorem cntEs_wt : ∀ xs : List EntryD, cntEs xs ≤ 4 * wtRow wtEntry xs
  | [] => by simp [cntEs]
  | d :: xs => by
    have h1 := cntEs_wt xs
    have h2 := cntE_wt d
    have e1 : cntEs (d :: xs) = cntE d + cntEs xs := by simp [cntEs]
    have e2 : wtRow wtEntry (d :: xs) = (1 + wtEntry d) + wtRow wtEntry xs := by simp [wtRow]
    omega

set_option maxHeartbeats 8000000 in
set_option maxRecDepth 100000 in
theorem markEntryS_c (S : Nat → Prop) (v : Value) (xs : List EntryD) (k : Nat) (w : World) (hv : RowOwn shEntryO 101 S w v xs) (h1 : 1 ≤ k) (h2 : k + cntEs xs ≤ 4294967296) :
    Calls Try.prog 25 #[v, .int .i64 (k : Int)] w fun e w' => e = .returned (.int .i64 ((k + cntEs xs : Nat) : Int)) ∧ Chg S w w' := by
  obtain ⟨_, zs, hv, hg, hld⟩ := hv
  have hr := entRows_of hld
  clear hld
  have hv : w.ownsRow 0 101 6 v xs.length zs := hv
  rcases id hv.2 with ⟨rfl, hn0⟩ | ⟨g, cap, cur, rfl, _, hgb, hcap, hmax, _⟩
  · have hns : xs = [] := List.eq_nil_of_length_eq_zero hn0
    subst hns
    clear hv hg hr
    go_enter Try.func25, Try.ntmps25
    go_wp2_with fail
    go_loopw [1, 5] (fun vk vi wr => vk = .int .i64 (k : Int) ∧ vi = .int .i64 0 ∧ wr = w) (fun _ _ _ => 0)
    case atStart => exact ⟨rfl, rfl, rfl⟩
    case round =>
      obtain ⟨rfl, rfl, rfl⟩ := hrel
      go_wp2_with fail
      go_ret
      exact ⟨by simp [cntEs], Chg.refl _ _⟩
  · have hSg := hg g rfl
    unfold maxLen at hmax
    clear hgb hg
    go_enter Try.func25, Try.ntmps25
    go_wp2_with fail
    go_loopw [1, 5] (fun vk vi wr => ∃ (i m : Nat) (ys : List Value), i ≤ xs.length ∧ vi = .int .i64 (i : Int) ∧ vk = .int .i64 (m : Int) ∧ Hid (m = k + cntEs (xs.take i)) ∧ wr.ownsRow 0 101 6 (.slice (some ⟨g, 0, none⟩) xs.length cap) xs.length ys ∧ Hid (EntRows wr S ys xs) ∧ Chg S w wr) (fun _ vi _ => xs.length - (intOf vi).toNat)
    case atStart => exact ⟨0, k, zs, Nat.zero_le _, rfl, rfl, by show _ = _; simp [cntEs], hv, hr, Chg.refl _ _⟩
    case round =>
      obtain ⟨i, m, ys, hi, rfl, rfl, hm, hown, hrr, hchg⟩ := hrel
      by_cases hlt : i < xs.length
      · have hlen := hown.1
        have hts := cntEs_take xs i hlt
        have htl := cntEs_le xs (i + 1)
        have HTS : Hid (cntEs (xs.take (i + 1)) = cntEs (xs.take i) + (4 + xs[i].vP.length + xs[i].needs.length * 2) ∧ cntEs (xs.take (i + 1)) ≤ cntEs xs) := ⟨hts, htl⟩
        obtain ⟨P, hP⟩ : ∃ P, P = xs[i].vP.length := ⟨_, rfl⟩
        obtain ⟨Q, hQ⟩ : ∃ Q, Q = xs[i].needs.length := ⟨_, rfl⟩
        rw [← hP, ← hQ] at HTS
        have HP := hidden hP
        have HQ := hidden hQ
        have hm2 : m + 4 + P + Q * 2 ≤ 4294967296 := by have := hm.out; have := HTS.out; omega
        have hm1 : 1 ≤ m := by have := hm.out; omega
        have hki : (i : Int) < (xs.length : Int) := by omega
        have HO := hidden hown
        have HM1 := hidden (fun w1 => markText_c m w1 (by omega) (by omega))
        clear hown hv hr hts htl hP hQ
        go_wp2_with fail
        go_at_call 70
        refine (HM1.out _).mono ?_
        rintro e w1 ⟨rfl, b1⟩
        have r1 := HO.out.kept (grown_of_below b1 none) (by simp [Value.ownBlock])
        have f1 := r1.frozenAt
        have hc : ∀ j, j < 6 → ∃ x, w1.cell? ⟨g, i * 6 + j, none⟩ = some x := fun j hj => ⟨ys.getD (i * 6 + j) undef, by rw [r1.cellAt _ (by omega)]; simp [List.getD_eq_getElem?_getD, show i * 6 + j < ys.length by omega]⟩
        obtain ⟨c0, d0⟩ := hc 0 (by omega)
        obtain ⟨c1, d1⟩ := hc 1 (by omega)
        obtain ⟨c2, d2⟩ := hc 2 (by omega)
        obtain ⟨c3, d3⟩ := hc 3 (by omega)
        rw [Nat.add_zero] at d0
        have q1 := hrr.out.below b1
        have s0 := r1.stored (i * 6 + 0) (.string (markStr m))
        have q2 := (q1.store (j := i * 6 + 0) (x := .string (markStr m)) r1).set i 0 (by omega) (.string (markStr m))
        have s1 := s0.1.stored (i * 6 + 1) (.int .i64 ((m : Int) + 1))
        have q3 := (q2.store (j := i * 6 + 1) (x := .int .i64 ((m : Int) + 1)) s0.1).set i 1 (by omega) (.int .i64 ((m : Int) + 1))
        have s2 := s1.1.stored (i * 6 + 2) (.int .i64 ((m : Int) + 1 + 1))
        have q4 := (q3.store (j := i * 6 + 2) (x := .int .i64 ((m : Int) + 1 + 1)) s1.1).set i 2 (by omega) (.int .i64 ((m : Int) + 1 + 1))
        have s3 := s2.1.stored (i * 6 + 3) (.int .i64 ((m : Int) + 1 + 1 + 1))
        have q5 := (q4.store (j := i * 6 + 3) (x := .int .i64 ((m : Int) + 1 + 1 + 1)) s2.1).set i 3 (by omega) (.int .i64 ((m : Int) + 1 + 1 + 1))
        obtain ⟨u0, u1, z0, z1, hu1, hu2, hu3, hu4, hu5, hu6⟩ := q5 i hlt
        rw [← HP.out] at hu3
        have d4 : w1.cell? ⟨g, i * 6 + 4, none⟩ = some u0 := by
          rw [r1.cellAt _ (by omega)]
          rw [List.getElem?_set_ne (by omega), List.getElem?_set_ne (by omega), List.getElem?_set_ne (by omega), List.getElem?_set_ne (by omega)] at hu1
          exact hu1
        obtain ⟨qu, cu, eu⟩ := owns_sliceP hu3
        have HMS := markStrs_c u0 0 P z0 (m + 4) _ hu3 (by omega) (by omega) (by omega) (Nat.zero_le _)
        rw [show ((m + 4 : Nat) : Int) = (m : Int) + 1 + 1 + 1 + 1 by omega] at HMS
        subst eu
        have CH1 : Chg S wr ((((w1.setCell ⟨g, i * 6 + 0, none⟩ (.string (markStr m))).setCell ⟨g, i * 6 + 1, none⟩ (.int .i64 ((m : Int) + 1))).setCell ⟨g, i * 6 + 2, none⟩ (.int .i64 ((m : Int) + 1 + 1))).setCell ⟨g, i * 6 + 3, none⟩ (.int .i64 ((m : Int) + 1 + 1 + 1))) := (Chg.of b1).trans ((Chg.set hSg).trans ((Chg.set hSg).trans ((Chg.set hSg).trans (Chg.set hSg))))
        simp only [Nat.add_zero] at HMS s3 q5 CH1 hu3
        have HMS2 := hidden HMS
        have HR2 := hidden s3.1
        have HQ2 := hidden q5
        have HU2 := hidden hu3
        have HCH1 := hidden CH1
        clear r1 s0 s1 s2 s3 q1 q2 q3 q4 q5 HMS hu1 hu2 hu3 hu5 hu6 CH1 hc
        go_wp2_with fail
        go_at_call 55
        refine HMS2.out.mono ?_
        rintro e w2 ⟨rfl, y2, g2⟩
        have r3 := HR2.out.kept g2 (owns_apart HR2.out HU2.out (by decide))
        have q6 := HQ2.out.overS HU2.out y2 g2
        obtain ⟨t0, t1, x0, x1, hv1, hv2, hv3, hv4, hv5, hv6⟩ := q6 i hlt
        rw [← HQ.out] at hv5
        have hl3 := r3.1
        have d5 : w2.cell? ⟨g, i * 6 + 5, none⟩ = some t1 := by
          rw [r3.cellAt _ (by omega)]
          exact hv2
        obtain ⟨qt, ct, et⟩ := owns_sliceP hv5
        have HMN := markNeedV_c t1 0 Q (m + 4 + P) x1 _ hv5 (by omega) (by omega)
        rw [show ((m + 4 + P : Nat) : Int) = (m : Int) + 1 + 1 + 1 + 1 + (P : Int) by omega] at HMN
        subst et
        have HMN2 := hidden HMN
        have HR3 := hidden r3
        have HQ3 := hidden q6
        have HU3 := hidden hv5
        have HCH2 := hidden (HCH1.out.trans (Chg.grown g2 hu4))
        clear r3 q6 HMN hv1 hv2 hv3 hv4 hv5 y2
        go_wp2_with fail
        go_at_call 56
        refine HMN2.out.mono ?_
        rintro e w3 ⟨rfl, y3, g3⟩
        have r4 := HR3.out.kept g3 (owns_apart HR3.out HU3.out (by decide))
        have q7 := HQ3.out.overN HU3.out y3 g3
        have HR4 := hidden r4
        have HQ4 := hidden q7
        have HCH3 := hidden (HCH2.out.trans (Chg.grown g3 hv6))
        clear r4 q7 y3
        go_wp2_with fail
        go_roundw
        case rel => exact ⟨i + 1, m + 4 + P + Q * 2, _, by omega, by go_num, by first | rfl | (simp; done) | (simp; omega), (by show _ = _; have := hm.out; have := HTS.out; omega), HR4.out, HQ4, hchg.trans HCH3.out⟩
        case measure => simp [intOf]; omega
      · have he : i = xs.length := by omega
        subst he
        have hmm : m = k + cntEs xs := by have := hm.out; rw [List.take_length] at this; exact this
        have HMM := hidden hmm
        clear hown hv hr hrr hmm
        go_wp2_with fail
        go_ret
        exact ⟨by rw [← HMM.out]; rfl, hchg⟩
end Go.Proofs.Ytbolphjigjpmiaa
