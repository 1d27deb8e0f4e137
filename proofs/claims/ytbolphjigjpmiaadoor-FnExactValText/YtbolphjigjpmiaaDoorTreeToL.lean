/-
  A list of values copied into memory of its own; with it every value: a contract for what lies in memory and holds at most 2 to the 20.
-/
import Derived.Test.YtbolphjigjpmiaaDoorTreeTo
namespace Go.Proofs.YtbolphjigjpmiaaDoor
open Go.RowKit
set_option linter.unusedSimpArgs false
set_option linter.unusedVariables false

/-- What lies in memory, with its two lists written out. -/
theorem Lies.parts {S : Nat → Prop} {w : World} {v : Value} {T : Tree} (h : Lies S w v T) :
    ∃ k n s a m cap a' m' cap', v = .agg #[.int .i64 k, .int .i64 n, .string s, .slice a m cap, .slice a' m' cap'] := by
  cases T with
  | mk k n s l ks =>
    obtain ⟨c, u, rfl, hs, hk, ⟨a, cap, C, rfl, _⟩, ⟨a', cap', rfl, _⟩⟩ := h.out
    exact ⟨_, _, _, _, _, _, _, _, _, rfl⟩

set_option maxHeartbeats 2000000 in
set_option maxRecDepth 100000 in
theorem toValS_step (l : List Tree) (ih : ∀ U ∈ l, ToC U) : ToLC l := by
  intro S v w hv hB hw
  obtain ⟨a, cap, rfl, hl, hc, ha⟩ := hv.at
  have hn := length_le_wtL l
  have hlm : l.length ≤ maxLen := hl
  unfold maxLen at hl
  obtain ⟨i0, hi, hz0, hz1, hz2⟩ := info_parts infoVal
  go_enter Tryd.func13, Tryd.ntmps13
  go_wp2_with (first
    | (at_make; refine wpList_make_full _ rfl _ _ 28 rfl w.heap.size 30 i0 _ 5 Tryd.underlying28 hi hz0 hz1 _ _ _ _ l.length rfl rfl rfl rfl (by rw [hz2]; omega) (by unfold maxLen; omega) (Nat.le_refl _) ?_))
  intro w1 hown hgrow
  have hb1 := below_of_grown hgrow
  have hs1 : w.heap.size + 1 ≤ w1.heap.size := by
    rcases hown.2 with ⟨h, _⟩ | ⟨g, cap, cur, h, _, hg, _⟩
    · simp at h
    · simp at h
      have := (Array.getElem?_eq_some_iff.1 hg).1
      omega
  obtain ⟨ys1, hown1⟩ : ∃ ys, w1.ownsRow w.heap.size 30 5 (.slice (some ⟨w.heap.size, 0, none⟩) l.length l.length) l.length ys := ⟨_, hown⟩
  clear hgrow hown
  go_wp2_with fail
  go_loopw [4] (fun vi wr => ∃ (k : Nat) (ys : List Value), k ≤ l.length ∧ vi = .int .i64 (k : Int) ∧ wr.ownsRow w.heap.size 30 5 (.slice (some ⟨w.heap.size, 0, none⟩) l.length l.length) l.length ys ∧ Hid (∀ i (h : i < l.length), i < k → Lies (Own (w.heap.size + 1) wr.heap.size) wr (cellsAt ys i) l[i]) ∧ Below w.heap.size w wr ∧ w.heap.size + 1 ≤ wr.heap.size) (fun vi _ => l.length - (intOf vi).toNat)
  case atStart => exact ⟨0, ys1, Nat.zero_le _, rfl, hown1, (fun i h h0 => by omega), hb1, hs1⟩
  case round =>
    obtain ⟨k, ys, hk, rfl, hownr, hy, hbr, hsr⟩ := hrel
    by_cases hlt' : k < l.length
    · rcases ha with rfl | ⟨b, off, rfl, hlt, ha⟩
      · simp at hlt'
      obtain ⟨c0, c1, c2, c3, c4, e0, e1, e2, e3, e4, hT⟩ := ha k hlt'
      have hlt2 : b < w.heap.size := hB b hlt
      rw [← hbr.cell (by simpa using hlt2)] at e0 e1 e2 e3 e4
      have ihk := ih _ (List.getElem_mem hlt')
      have hwt : (l[k]).wt ≤ 1048576 := by have := wt_le_wtL (List.getElem_mem hlt'); omega
      obtain ⟨U, hU⟩ : ∃ U, U = l[k] := ⟨_, rfl⟩
      rw [← hU] at hT ihk hwt
      have HU : Hid (U = l[k]) := hU
      have hki : (k : Int) < (l.length : Int) := by omega
      have hT' := hT.keep (.of hbr hB)
      have hBr : ∀ b, S b → b < wr.heap.size := fun b h => Nat.lt_of_lt_of_le (hB b h) hbr.size
      have hown2 : ∀ w2, Below wr.heap.size wr w2 → w2.ownsRow w.heap.size 30 5 (.slice (some ⟨w.heap.size, 0, none⟩) l.length l.length) l.length ys := fun w2 h2 => hownr.kept (grown_of_below h2 none) (by simp [Value.ownBlock])
      have hlen := hownr.1
      have hcl : ∀ w2, Below wr.heap.size wr w2 → ∀ j, j < 5 → ∃ x, w2.cell? ⟨w.heap.size, k * 5 + j, none⟩ = some x := fun w2 h2 j hj => ⟨ys.getD (k * 5 + j) undef, by rw [(hown2 w2 h2).cellAt _ (by omega)]; simp [List.getD_eq_getElem?_getD, show k * 5 + j < ys.length by omega]⟩
      have hfr : ∀ w2, Below wr.heap.size wr w2 → ∀ j, w2.frozen? ⟨w.heap.size, j, none⟩ = false := fun w2 h2 j => (hown2 w2 h2).frozenAt j
      have HC : Hid (∀ w2, Below wr.heap.size wr w2 → ∀ j, j < 5 → ∃ x, w2.cell? ⟨w.heap.size, k * 5 + j, none⟩ = some x) := hcl
      have HF : Hid (∀ w2, Below wr.heap.size wr w2 → ∀ j, w2.frozen? ⟨w.heap.size, j, none⟩ = false) := hfr
      have HO : Hid (∀ w2, Below wr.heap.size wr w2 → w2.ownsRow w.heap.size 30 5 (.slice (some ⟨w.heap.size, 0, none⟩) l.length l.length) l.length ys) := hown2
      clear ha ih hU hT hv hcl hfr hown2 hi hz0 hz1 hz2 hown1 hb1
      go_wp2_with (go_at_call 6; refine (ihk S _ _ hT' hBr hwt).mono ?_; rintro e w2 ⟨x, rfl, hX, hb2⟩; obtain ⟨k9, n9, s9, a9, m9, q9, a8, m8, q8, rfl⟩ := hX.parts; obtain ⟨y0, d0⟩ := HC.out w2 hb2 0 (by omega); obtain ⟨y1, d1⟩ := HC.out w2 hb2 1 (by omega); obtain ⟨y2, d2⟩ := HC.out w2 hb2 2 (by omega); obtain ⟨y3, d3⟩ := HC.out w2 hb2 3 (by omega); obtain ⟨y4, d4⟩ := HC.out w2 hb2 4 (by omega); rw [Nat.add_zero] at d0; have f9 := HF.out w2 hb2)
      go_roundw
      case rel =>
        have hz : ∀ c0 c1 c2 c3 c4 : Value, (((((w2.setCell ⟨w.heap.size, k * 5, none⟩ c0).setCell ⟨w.heap.size, k * 5 + 1, none⟩ c1).setCell ⟨w.heap.size, k * 5 + 2, none⟩ c2).setCell ⟨w.heap.size, k * 5 + 3, none⟩ c3).setCell ⟨w.heap.size, k * 5 + 4, none⟩ c4).heap.size = w2.heap.size := fun _ _ _ _ _ => by simp [World.setCell]
        have hk5 : ∀ c0 c1 c2 c3 c4 : Value, KeptIn (Own (w.heap.size + 1) w2.heap.size) w2 (((((w2.setCell ⟨w.heap.size, k * 5, none⟩ c0).setCell ⟨w.heap.size, k * 5 + 1, none⟩ c1).setCell ⟨w.heap.size, k * 5 + 2, none⟩ c2).setCell ⟨w.heap.size, k * 5 + 3, none⟩ c3).setCell ⟨w.heap.size, k * 5 + 4, none⟩ c4) := fun _ _ _ _ _ => by
          refine KeptIn.trans (KeptIn.trans (KeptIn.trans (KeptIn.trans (Own.set ?_) (Own.set ?_)) (Own.set ?_)) (Own.set ?_)) (Own.set ?_) <;> omega
        refine ⟨k + 1, set5 ys k (.int .i64 k9) (.int .i64 n9) (.string s9) (.slice a9 m9 q9) (.slice a8 m8 q8), by omega, by go_num, (((((HO.out w2 hb2).stored (k * 5) _).1.stored (k * 5 + 1) _).1.stored (k * 5 + 2) _).1.stored (k * 5 + 3) _).1.stored (k * 5 + 4) _ |>.1, fun i h h1 => ?_, ?_, ?_⟩
        · rw [hz]
          refine Lies.keep (hk5 _ _ _ _ _) ?_
          by_cases hik : i = k
          · subst hik
            rw [cellsAt_same _ _ _ _ _ _ _ (by omega), ← HU.out]
            exact hX.mono (Own.mono (by omega) (Nat.le_refl _))
          · rw [cellsAt_other _ _ _ _ _ _ _ _ (by omega)]
            exact ((hy.out i h (by omega)).keep (Own.below hb2)).mono (Own.mono (Nat.le_refl _) hb2.size)
        · have b2 := hbr.trans (hb2.mono (by omega))
          refine Below.setCell (Below.setCell (Below.setCell (Below.setCell (Below.setCell b2 ?_ _) ?_ _) ?_ _) ?_ _) ?_ _ <;> simp
        · rw [hz]; have := hb2.size; omega
      case measure => simp [intOf]; omega
    · have he : k = l.length := by omega
      subst he
      clear ha
      go_wp2_with fail
      go_ret
      refine ⟨_, rfl, ?_, hbr⟩
      exact liesL_of_owns hownr rfl hlm (Nat.le_refl _) fun i h => (hy.out i h h).mono (Own.mono (by omega) (Nat.le_refl _))

theorem toVal_all : ∀ T, ToC T := by
  refine Tree.ind ?_
  intro k n s l ks ih
  exact toVal_step k n s l ks (toValS_step l ih)
#print axioms toVal_all
end Go.Proofs.YtbolphjigjpmiaaDoor
