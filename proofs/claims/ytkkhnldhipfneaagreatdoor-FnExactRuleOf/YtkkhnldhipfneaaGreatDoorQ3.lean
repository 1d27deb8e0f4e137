/-
  Contracts for the walks, several texts in one: each part says what it proves, and under which conditions.
-/
import Derived.Deep.Light
import Derived.Test.YtkkhnldhipfneaaGreatDoorQ2
import Derived.Test.YtkkhnldhipfneaaGreatDoorQ1

/-! A list of values copied into memory of its own; with it every value: a contract for what lies in memory and holds at most 2 to the 20. -/
namespace Go.Proofs.YtkkhnldhipfneaaGreatDoor
open Go.RowKit
set_option linter.unusedSimpArgs false
set_option linter.unusedVariables false

/-- What lies in memory, with its two lists written out. -/
theorem Lies.parts {S : Nat → Prop} {w : World} {v : Value} {T : Tree} (h : Lies S w v T) :
    ∃ k n s a m cap a' m' cap', v = .agg #[.int .i64 k, .int .i64 n, .string s, .slice a m cap, .slice a' m' cap'] := by
  cases T with
  | mk k n s l ks =>
    obtain ⟨c, u, rfl, hs, hk, ⟨a, cap, C, rfl, _⟩, ⟨a', cap', rfl, _⟩⟩ := h.out
    exact ⟨_, _, _, _, _, _, _, _, _, rfl⟩

set_option maxHeartbeats 2000000 in
set_option maxRecDepth 100000 in
theorem toValS_step (l : List Tree) (ih : ∀ U ∈ l, ToC U) : ToLC l := by
  intro S v w hv hB hw
  obtain ⟨a, cap, rfl, hl, hc, ha⟩ := hv.at
  have hn := length_le_wtL l
  have hlm : l.length ≤ maxLen := hl
  unfold maxLen at hl
  obtain ⟨i0, hi, hz0, hz1, hz2⟩ := info_parts infoVal
  go_enter Tryz.func92, Tryz.ntmps92
  go_wp2_with (first
    | (at_make; refine wpList_make_full _ rfl _ _ 54 rfl w.heap.size 56 i0 _ 5 Tryz.underlying54 hi hz0 hz1 _ _ _ _ l.length rfl rfl rfl rfl (by rw [hz2]; omega) (by unfold maxLen; omega) (Nat.le_refl _) ?_))
  intro w1 hown hgrow
  have hb1 := below_of_grown hgrow
  have hs1 : w.heap.size + 1 ≤ w1.heap.size := by
    rcases hown.2 with ⟨h, _⟩ | ⟨g, cap, cur, h, _, hg, _⟩
    · simp at h
    · simp at h
      have := (Array.getElem?_eq_some_iff.1 hg).1
      omega
  obtain ⟨ys1, hown1⟩ : ∃ ys, w1.ownsRow w.heap.size 56 5 (.slice (some ⟨w.heap.size, 0, none⟩) l.length l.length) l.length ys := ⟨_, hown⟩
  clear hgrow hown
  go_wp2_with fail
  go_loopw [4] (fun vi wr => ∃ (k : Nat) (ys : List Value), k ≤ l.length ∧ vi = .int .i64 (k : Int) ∧ wr.ownsRow w.heap.size 56 5 (.slice (some ⟨w.heap.size, 0, none⟩) l.length l.length) l.length ys ∧ Hid (∀ i (h : i < l.length), i < k → Lies (Own (w.heap.size + 1) wr.heap.size) wr (cellsAt ys i) l[i]) ∧ Below w.heap.size w wr ∧ w.heap.size + 1 ≤ wr.heap.size) (fun vi _ => l.length - (intOf vi).toNat)
  case atStart => exact ⟨0, ys1, Nat.zero_le _, rfl, hown1, (fun i h h0 => by omega), hb1, hs1⟩
  case round =>
    obtain ⟨k, ys, hk, rfl, hownr, hy, hbr, hsr⟩ := hrel
    by_cases hlt' : k < l.length
    · rcases ha with rfl | ⟨b, off, rfl, hlt, ha⟩
      · simp at hlt'
      obtain ⟨c0, c1, c2, c3, c4, e0, e1, e2, e3, e4, hT⟩ := ha k hlt'
      have hlt2 : b < w.heap.size := hB b hlt
      rw [← hbr.cell (by simpa using hlt2)] at e0 e1 e2 e3 e4
      have ihk := ih _ (List.getElem_mem hlt')
      have hwt : (l[k]).wt ≤ 1048576 := by have := wt_le_wtL (List.getElem_mem hlt'); omega
      obtain ⟨U, hU⟩ : ∃ U, U = l[k] := ⟨_, rfl⟩
      rw [← hU] at hT ihk hwt
      have HU : Hid (U = l[k]) := hU
      have hki : (k : Int) < (l.length : Int) := by omega
      have hT' := hT.keep (.of hbr hB)
      have hBr : ∀ b, S b → b < wr.heap.size := fun b h => Nat.lt_of_lt_of_le (hB b h) hbr.size
      have hown2 : ∀ w2, Below wr.heap.size wr w2 → w2.ownsRow w.heap.size 56 5 (.slice (some ⟨w.heap.size, 0, none⟩) l.length l.length) l.length ys := fun w2 h2 => hownr.kept (grown_of_below h2 none) (by simp [Value.ownBlock])
      have hlen := hownr.1
      have hcl : ∀ w2, Below wr.heap.size wr w2 → ∀ j, j < 5 → ∃ x, w2.cell? ⟨w.heap.size, k * 5 + j, none⟩ = some x := fun w2 h2 j hj => ⟨ys.getD (k * 5 + j) undef, by rw [(hown2 w2 h2).cellAt _ (by omega)]; simp [List.getD_eq_getElem?_getD, show k * 5 + j < ys.length by omega]⟩
      have hfr : ∀ w2, Below wr.heap.size wr w2 → ∀ j, w2.frozen? ⟨w.heap.size, j, none⟩ = false := fun w2 h2 j => (hown2 w2 h2).frozenAt j
      have HC : Hid (∀ w2, Below wr.heap.size wr w2 → ∀ j, j < 5 → ∃ x, w2.cell? ⟨w.heap.size, k * 5 + j, none⟩ = some x) := hcl
      have HF : Hid (∀ w2, Below wr.heap.size wr w2 → ∀ j, w2.frozen? ⟨w.heap.size, j, none⟩ = false) := hfr
      have HO : Hid (∀ w2, Below wr.heap.size wr w2 → w2.ownsRow w.heap.size 56 5 (.slice (some ⟨w.heap.size, 0, none⟩) l.length l.length) l.length ys) := hown2
      clear ha ih hU hT hv hcl hfr hown2 hi hz0 hz1 hz2 hown1 hb1
      go_wp2_with (go_at_call 22; refine (ihk S _ _ hT' hBr hwt).mono ?_; rintro e w2 ⟨x, rfl, hX, hb2⟩; obtain ⟨k9, n9, s9, a9, m9, q9, a8, m8, q8, rfl⟩ := hX.parts; obtain ⟨y0, d0⟩ := HC.out w2 hb2 0 (by omega); obtain ⟨y1, d1⟩ := HC.out w2 hb2 1 (by omega); obtain ⟨y2, d2⟩ := HC.out w2 hb2 2 (by omega); obtain ⟨y3, d3⟩ := HC.out w2 hb2 3 (by omega); obtain ⟨y4, d4⟩ := HC.out w2 hb2 4 (by omega); rw [Nat.add_zero] at d0; have f9 := HF.out w2 hb2)
      go_roundw
      case rel =>
        have hz : ∀ c0 c1 c2 c3 c4 : Value, (((((w2.setCell ⟨w.heap.size, k * 5, none⟩ c0).setCell ⟨w.heap.size, k * 5 + 1, none⟩ c1).setCell ⟨w.heap.size, k * 5 + 2, none⟩ c2).setCell ⟨w.heap.size, k * 5 + 3, none⟩ c3).setCell ⟨w.heap.size, k * 5 + 4, none⟩ c4).heap.size = w2.heap.size := fun _ _ _ _ _ => by simp [World.setCell]
        have hk5 : ∀ c0 c1 c2 c3 c4 : Value, KeptIn (Own (w.heap.size + 1) w2.heap.size) w2 (((((w2.setCell ⟨w.heap.size, k * 5, none⟩ c0).setCell ⟨w.heap.size, k * 5 + 1, none⟩ c1).setCell ⟨w.heap.size, k * 5 + 2, none⟩ c2).setCell ⟨w.heap.size, k * 5 + 3, none⟩ c3).setCell ⟨w.heap.size, k * 5 + 4, none⟩ c4) := fun _ _ _ _ _ => by
          refine KeptIn.trans (KeptIn.trans (KeptIn.trans (KeptIn.trans (Own.set ?_) (Own.set ?_)) (Own.set ?_)) (Own.set ?_)) (Own.set ?_) <;> omega
        refine ⟨k + 1, set5 ys k (.int .i64 k9) (.int .i64 n9) (.string s9) (.slice a9 m9 q9) (.slice a8 m8 q8), by omega, by go_num, (((((HO.out w2 hb2).stored (k * 5) _).1.stored (k * 5 + 1) _).1.stored (k * 5 + 2) _).1.stored (k * 5 + 3) _).1.stored (k * 5 + 4) _ |>.1, fun i h h1 => ?_, ?_, ?_⟩
        · rw [hz]
          refine Lies.keep (hk5 _ _ _ _ _) ?_
          by_cases hik : i = k
          · subst hik
            rw [cellsAt_same _ _ _ _ _ _ _ (by omega), ← HU.out]
            exact hX.mono (Own.mono (by omega) (Nat.le_refl _))
          · rw [cellsAt_other _ _ _ _ _ _ _ _ (by omega)]
            exact ((hy.out i h (by omega)).keep (Own.below hb2)).mono (Own.mono (Nat.le_refl _) hb2.size)
        · have b2 := hbr.trans (hb2.mono (by omega))
          refine Below.setCell (Below.setCell (Below.setCell (Below.setCell (Below.setCell b2 ?_ _) ?_ _) ?_ _) ?_ _) ?_ _ <;> simp
        · rw [hz]; have := hb2.size; omega
      case measure => simp [intOf]; omega
    · have he : k = l.length := by omega
      subst he
      clear ha
      go_wp2_with fail
      go_ret
      refine ⟨_, rfl, ?_, hbr⟩
      exact liesL_of_owns hownr rfl hlm (Nat.le_refl _) fun i h => (hy.out i h h).mono (Own.mono (by omega) (Nat.le_refl _))

theorem toVal_all : ∀ T, ToC T := by
  refine Tree.ind ?_
  intro k n s l ks ih
  exact toVal_step k n s l ks (toValS_step l ih)
#print axioms toVal_all
end Go.Proofs.YtkkhnldhipfneaaGreatDoor

/-! Two values that are the same tree are told so by the law's own comparison: a contract for every two that lie in memory. -/
namespace Go.Proofs.YtkkhnldhipfneaaGreatDoor
open Go.RowKit
set_option linter.unusedSimpArgs false
set_option linter.unusedVariables false

def EqC (T : Tree) : Prop := ∀ (S S' : Nat → Prop) (v u : Value) (w : World), Lies S w v T → Lies S' w u T → (∀ b, S b → b < w.heap.size) → (∀ b, S' b → b < w.heap.size) → T.wt ≤ 1048576 →
  Calls Tryz.prog 25 #[v, u] w fun e w' => e = .returned (.bool true) ∧ Below w.heap.size w w'
def EqLC (l : List Tree) : Prop := ∀ (S S' : Nat → Prop) (v u : Value) (w : World), LiesL S w v l → LiesL S' w u l → (∀ b, S b → b < w.heap.size) → (∀ b, S' b → b < w.heap.size) → wtL l ≤ 1048576 →
  Calls Tryz.prog 95 #[v, u] w fun e w' => e = .returned (.bool true) ∧ Below w.heap.size w w'

theorem two5 {w w1 : World} {c0 c1 c2 c3 c4 d0 d1 d2 d3 d4 : Value} {t : TypeId} (hb : Below ((w.alloc (.cells #[c0, c1, c2, c3, c4] t)).alloc (.cells #[d0, d1, d2, d3, d4] t)).heap.size ((w.alloc (.cells #[c0, c1, c2, c3, c4] t)).alloc (.cells #[d0, d1, d2, d3, d4] t)) w1) :
    w1.cell? ⟨w.heap.size, 4, none⟩ = some c4 ∧ w1.cell? ⟨w.heap.size + 1, 4, none⟩ = some d4 := by
  have s1 : (w.alloc (.cells #[c0, c1, c2, c3, c4] t)).heap.size = w.heap.size + 1 := by simp
  have h1 : w1.heap[w.heap.size]? = some (.cells #[c0, c1, c2, c3, c4] t) := by rw [hb.block _ (by simp; omega), heap_old _ _ (by simp), heap_new]
  have h2 : w1.heap[w.heap.size + 1]? = some (.cells #[d0, d1, d2, d3, d4] t) := by rw [hb.block _ (by simp), ← s1, heap_new]
  exact ⟨blk_cell h1 4, blk_cell h2 4⟩

set_option maxHeartbeats 2000000 in
set_option maxRecDepth 100000 in
theorem eqVal_step (k n : Int) (s : ByteArray) (l : List Tree) (ks : List ByteArray) (ih : EqLC l) : EqC (.mk k n s l ks) := by
  intro S S' v u w hv hv' hB hB' hw
  rw [wt_mk] at hw
  obtain ⟨c, u, rfl, hs, hk, hl, hu⟩ := hv.out
  obtain ⟨c', u', rfl, _, _, hl', hu'⟩ := hv'.out
  clear hv hv'
  have hwl : wtL l ≤ 1048576 := by omega
  have hkn : ks.length ≤ 1099511627776 := by unfold bulkS at hw; omega
  have hb2 : ∀ A R, Below w.heap.size w ((w.alloc A).alloc R) := fun A R => ((Below.refl _ _).alloc (Nat.le_refl _) _).alloc (by simp) _
  have hlA : ∀ A R, LiesL S ((w.alloc A).alloc R) c l := fun A R => hl.keep (.of (hb2 A R) hB)
  have hlA' : ∀ A R, LiesL S' ((w.alloc A).alloc R) c' l := fun A R => hl'.keep (.of (hb2 A R) hB')
  have huA : ∀ w1, Below w.heap.size w w1 → Reads w1 u (strsV ks) := fun w1 h1 => (hu.keep (.of h1 hB)).reads (fun b h => Nat.lt_of_lt_of_le (hB b h) h1.size)
  have huA' : ∀ w1, Below w.heap.size w w1 → Reads w1 u' (strsV ks) := fun w1 h1 => (hu'.keep (.of h1 hB')).reads (fun b h => Nat.lt_of_lt_of_le (hB' b h) h1.size)
  have hBA : ∀ A R b, S b → b < ((w.alloc A).alloc R).heap.size := fun A R b h => Nat.lt_of_lt_of_le (hB b h) (hb2 A R).size
  have hBA' : ∀ A R b, S' b → b < ((w.alloc A).alloc R).heap.size := fun A R b h => Nat.lt_of_lt_of_le (hB' b h) (hb2 A R).size
  go_enter Tryz.func25, Tryz.ntmps25
  go_wp2_with (first
    | (go_at_call 95; refine (ih S S' c c' _ (hlA _ _) (hlA' _ _) (hBA _ _) (hBA' _ _) hwl).mono ?_; rintro e w1 ⟨rfl, hb1⟩; obtain ⟨x4, y4⟩ := two5 hb1)
    | (go_at_call 38; refine (eqStrs_c u u' ks ks _ (huA _ ((hb2 _ _).trans (hb1.mono (by simp; omega)))) (huA' _ ((hb2 _ _).trans (hb1.mono (by simp; omega)))) hkn).mono ?_; rintro e w3 ⟨rfl, hb3⟩; rw [decide_eq_true (rfl : ks = ks)]))
  go_ret
  exact ⟨rfl, ((hb2 _ _).trans (hb1.mono (by simp; omega))).trans (hb3.mono (by have := hb1.size; simp at this; omega))⟩

set_option maxHeartbeats 2000000 in
set_option maxRecDepth 100000 in
theorem eqValS_step (l : List Tree) (ih : ∀ U ∈ l, EqC U) : EqLC l := by
  intro S S' v u w hv hv' hB hB' hw
  obtain ⟨a, cap, rfl, hl, hc, ha⟩ := hv.at
  obtain ⟨a', cap', rfl, _, hc', ha'⟩ := hv'.at
  unfold maxLen at hl
  go_enter Tryz.func95, Tryz.ntmps95
  go_wp2_with fail
  go_loopw [5] (fun vi wr => ∃ k : Nat, k ≤ l.length ∧ vi = .int .i64 (k : Int) ∧ Below w.heap.size w wr) (fun vi _ => l.length - (intOf vi).toNat)
  case atStart => exact ⟨0, Nat.zero_le _, rfl, Below.refl _ _⟩
  case round =>
    obtain ⟨k, hk, rfl, hbr⟩ := hrel
    by_cases hlt' : k < l.length
    · rcases ha with rfl | ⟨b, off, rfl, hlt, ha⟩
      · simp at hlt'
      rcases ha' with rfl | ⟨b', off', rfl, hlt3, ha'⟩
      · simp at hlt'
      obtain ⟨c0, c1, c2, c3, c4, e0, e1, e2, e3, e4, hT⟩ := ha k hlt'
      obtain ⟨d0, d1, d2, d3, d4, g0, g1, g2, g3, g4, hT2⟩ := ha' k hlt'
      have hlt2 : b < w.heap.size := hB b hlt
      have hlt4 : b' < w.heap.size := hB' b' hlt3
      rw [← hbr.cell (by simpa using hlt2)] at e0 e1 e2 e3 e4
      rw [← hbr.cell (by simpa using hlt4)] at g0 g1 g2 g3 g4
      have ihk := ih _ (List.getElem_mem hlt')
      have hwt : (l[k]).wt ≤ 1048576 := by have := wt_le_wtL (List.getElem_mem hlt'); omega
      obtain ⟨U, hU⟩ : ∃ U, U = l[k] := ⟨_, rfl⟩
      rw [← hU] at hT hT2 ihk hwt
      have hki : (k : Int) < (l.length : Int) := by omega
      have hBr : ∀ b, S b → b < wr.heap.size := fun b h => Nat.lt_of_lt_of_le (hB b h) hbr.size
      have hBr' : ∀ b, S' b → b < wr.heap.size := fun b h => Nat.lt_of_lt_of_le (hB' b h) hbr.size
      have hT3 : Lies S wr.drew _ U := (hT.keep (.of hbr.drew hB))
      have hT4 : Lies S' wr.drew _ U := (hT2.keep (.of hbr.drew hB'))
      clear ha ha' ih hU hT hT2 hv hv'
      go_wp2_with fail
      go_region_with (go_at_call 25; refine (ihk S S' _ _ wr.drew hT3 hT4 hBr hBr' hwt).mono ?_; rintro e w2 ⟨rfl, hb2⟩)
      all_goals go_wp2_with fail
      all_goals go_roundw
      all_goals first
        | exact ⟨k + 1, by omega, by go_num, hbr.drew.trans (hb2.mono hbr.size)⟩
        | (simp [intOf]; omega)
    · have he : k = l.length := by omega
      subst he
      clear ha ha'
      go_wp2_with fail
      go_ret
      exact ⟨rfl, hbr⟩

theorem eqVal_all : ∀ T, EqC T := by
  refine Tree.ind ?_
  intro k n s l ks ih
  exact eqVal_step k n s l ks (eqValS_step l ih)
#print axioms eqVal_all
end Go.Proofs.YtkkhnldhipfneaaGreatDoor

/-! Which texts a value may hold: the specification's test and the program's, over every text; no condition. -/
namespace Go.Proofs.YtkkhnldhipfneaaGreatDoor
open Go.RowKit
set_option linter.unusedSimpArgs false
set_option linter.unusedVariables false

def okText (_ : Nat) (c : Int) : Bool := plainB c || c == 9 || c == 10
def textB (s : ByteArray) : Bool := allUpto okText s s.size && decide ((s.size : Int) ≤ 60)

set_option maxHeartbeats 1000000 in
theorem isValByte_c (c : Int) (w : World) :
    Calls Tryz.prog 288 #[.int .u8 c] w fun e w' => e = .returned (.bool (okText 0 c)) ∧ w = w' := by
  by_cases h1 : plainB c = true
  · go_enter Tryz.func288, Tryz.ntmps288
    go_wp2_with (go_at_call 280; refine (isPlain_c _ _).mono ?_; rintro e w' ⟨rfl, rfl⟩; rw [h1])
    go_ret
    exact ⟨by rw [okText, h1]; rfl, rfl⟩
  · have h2 : plainB c = false := by simpa using h1
    by_cases h9 : c = 9
    · subst h9
      go_enter Tryz.func288, Tryz.ntmps288
      go_wp2_with (go_at_call 280; refine (isPlain_c _ _).mono ?_; rintro e w' ⟨rfl, rfl⟩; rw [h2])
      go_ret
      exact ⟨rfl, rfl⟩
    · have h9' : (c == 9) = false := by simpa using h9
      go_enter Tryz.func288, Tryz.ntmps288
      go_wp2_with (go_at_call 280; refine (isPlain_c _ _).mono ?_; rintro e w' ⟨rfl, rfl⟩; rw [h2])
      go_ret
      exact ⟨by rw [okText, h2, h9']; rfl, rfl⟩

set_option maxHeartbeats 1000000 in
theorem specText_c (s : ByteArray) (hs : s.size ≤ maxLen) (w : World) :
    Calls Tryz.prog 252 #[.string s] w fun e w' => e = .returned (.bool (textB s)) ∧ w = w' := by
  unfold maxLen at hs
  go_enter Tryz.func252, Tryz.ntmps252
  go_wp2
  go_loop [3] (fun vi => ∃ k : Nat, k ≤ s.size ∧ vi = .int .i64 (k : Int) ∧ Hid (allUpto okText s k = true)) (fun vi => s.size - (intOf vi).toNat)
  case atStart => exact ⟨0, Nat.zero_le _, rfl, rfl⟩
  case round =>
    obtain ⟨k, hk, rfl, hh⟩ := hrel
    by_cases hlt : k < s.size
    · have hw := wrap_byte s[k]
      have hp : ∀ x : Int, inB x 32 126 = plainB x := fun _ => rfl
      by_cases h0 : okText k ((s[k]).toNat : Int) = true
      · have hg : Hid (allUpto okText s (k + 1) = true) := step_true hlt hh h0
        have HB : Hid (okText k ((s[k]).toNat : Int) = true) := h0
        clear h0
        go_wp2_with (go_at_call 190; refine (in_c _ _ _ _).mono ?_; rintro e w' ⟨rfl, rfl⟩; rw [hp])
        · go_round
          case rel => exact ⟨k + 1, by omega, by go_num, hg⟩
          case measure => simp [intOf]; omega
        · go_round
          case rel => exact ⟨k + 1, by omega, by go_num, hg⟩
          case measure => simp [intOf]; omega
        · exfalso
          have := HB.out
          simp_all [okText]
        · go_round
          case rel => exact ⟨k + 1, by omega, by go_num, hg⟩
          case measure => simp [intOf]; omega
      · have HB0 : okText k ((s[k]).toNat : Int) = false := by simpa using h0
        have HB : Hid (okText k ((s[k]).toNat : Int) = false) := HB0
        clear HB0
        clear h0
        go_wp2_with (go_at_call 190; refine (in_c _ _ _ _).mono ?_; rintro e w' ⟨rfl, rfl⟩; rw [hp])
        · exfalso
          have := HB.out
          simp_all [okText]
        · exfalso
          have := HB.out
          simp_all [okText]
        · go_ret
          exact ⟨by rw [textB, end_false hlt HB.out]; rfl, rfl⟩
        · exfalso
          have := HB.out
          simp_all [okText]
    · have he : k = s.size := by omega
      subst he
      go_wp2_with fail
      go_ret
      exact ⟨by rw [textB, hh.out]; rfl, rfl⟩

set_option maxHeartbeats 1000000 in
theorem implText_c (s : ByteArray) (hs : s.size ≤ maxLen) (w : World) :
    Calls Tryz.prog 274 #[.string s] w fun e w' => e = .returned (.bool (textB s)) ∧ w = w' := by
  unfold maxLen at hs
  by_cases hm : 60 < (s.size : Int)
  · have e : textB s = false := by
      have : decide ((s.size : Int) ≤ 60) = false := by simp; omega
      rw [textB, this, Bool.and_false]
    rw [e]
    go_enter Tryz.func274, Tryz.ntmps274
    go_wp2_with fail
    go_ret
    exact ⟨rfl, rfl⟩
  go_enter Tryz.func274, Tryz.ntmps274
  go_wp2_with fail
  go_loop [9] (fun vi => ∃ k : Nat, k ≤ s.size ∧ vi = .int .i64 (k : Int) ∧ Hid (allUpto okText s k = true)) (fun vi => s.size - (intOf vi).toNat)
  case atStart => exact ⟨0, Nat.zero_le _, rfl, rfl⟩
  case round =>
    obtain ⟨k, hk, rfl, hh⟩ := hrel
    go_wp2_with (go_at_call 288; refine (isValByte_c _ _).mono ?_; rintro e w' ⟨rfl, rfl⟩)
    · have hlt : k < s.size := by assumption
      have h1 : (!okText 0 ((s[k]).toNat : Int)) = true := by assumption
      have h2 : okText 0 ((s[k]).toNat : Int) = false := by simpa using h1
      go_ret
      exact ⟨by rw [textB, end_false hlt h2]; rfl, rfl⟩
    · have hlt : k < s.size := by assumption
      have h1 : (!okText 0 ((s[k]).toNat : Int)) = false := by assumption
      have h2 : okText 0 ((s[k]).toNat : Int) = true := by simpa using h1
      go_round
      case rel => exact ⟨k + 1, by omega, by go_num, step_true hlt hh h2⟩
      case measure => simp [intOf]; omega
    · have he : k = s.size := by omega
      subst he
      have e : decide ((s.size : Int) ≤ 60) = true := by simp; omega
      go_ret
      exact ⟨by rw [textB, hh.out, e]; rfl, rfl⟩
#print axioms implText_c
end Go.Proofs.YtkkhnldhipfneaaGreatDoor

/-! When a value is right, as the specification's own walk over it has it: for every value that lies in memory. -/
namespace Go.Proofs.YtkkhnldhipfneaaGreatDoor
open Go.RowKit
set_option linter.unusedSimpArgs false
set_option linter.unusedVariables false

/-- The first i keys are texts, and rise. -/
def keysUpto (ks : List ByteArray) : Nat → Bool
  | 0 => true
  | i + 1 => keysUpto ks i && (textB (ks.getD i ⟨#[]⟩) && (i == 0 || Op.bytesLess (ks.getD (i - 1) ⟨#[]⟩).toList (ks.getD i ⟨#[]⟩).toList))

def hereB (k n : Int) (s : ByteArray) (nl : Nat) (ks : List ByteArray) : Bool :=
  (k == 3 || s.toList.isEmpty) && (k == 5 || ks.length == 0) && (k == 5 || k == 4 || nl == 0) &&
  (if k == 0 || k == 3 || k == 4 then n == 0 && textB s else if k == 1 then inB n 0 1 else if k == 2 then inB n (-999999) 999999 else if k == 5 then keysUpto ks ks.length && (n == 0 && ks.length == nl) else false)

set_option maxHeartbeats 4000000 in
set_option maxRecDepth 100000 in
theorem here_flat (k n : Int) (s : ByteArray) (a a' : Option Addr) (m cap cap' : Nat) (ks : List ByteArray) (w : World) (hs : s.size ≤ maxLen) (hk : k ≠ 5) :
    Calls Tryz.prog 205 #[.agg #[.int .i64 k, .int .i64 n, .string s, .slice a m cap, .slice a' ks.length cap']] w fun e w' => e = .returned (.bool (hereB k n s m ks)) ∧ Below w.heap.size w w' := by
  have hbx : ∀ o, Below w.heap.size w (w.alloc o) := fun o => (Below.refl _ _).alloc (Nat.le_refl _) _
  obtain ⟨m', hm'⟩ : ∃ m', m' = ks.length := ⟨_, rfl⟩
  rw [← hm']
  have HM : Hid (m' = ks.length) := hm'
  clear hm'
  by_cases h0 : k = 0
  · subst h0
    go_enter Tryz.func205, Tryz.ntmps205
    go_wp2_with (go_at_call 252; refine (specText_c _ hs _).mono ?_; rintro e w' ⟨rfl, rfl⟩)
    all_goals go_ret
    all_goals (refine ⟨?_, hbx _⟩; have := HM.out; go_light; simp_all [hereB] <;> (intro h; omega))
  by_cases h3 : k = 3
  · subst h3
    go_enter Tryz.func205, Tryz.ntmps205
    go_wp2_with (go_at_call 252; refine (specText_c _ hs _).mono ?_; rintro e w' ⟨rfl, rfl⟩)
    all_goals go_ret
    all_goals (refine ⟨?_, hbx _⟩; have := HM.out; go_light; simp_all [hereB] <;> (intro h; omega))
  by_cases h4 : k = 4
  · subst h4
    go_enter Tryz.func205, Tryz.ntmps205
    go_wp2_with (go_at_call 252; refine (specText_c _ hs _).mono ?_; rintro e w' ⟨rfl, rfl⟩)
    all_goals go_ret
    all_goals (refine ⟨?_, hbx _⟩; have := HM.out; go_light; simp_all [hereB] <;> (intro h; omega))
  by_cases h1 : k = 1
  · subst h1
    go_enter Tryz.func205, Tryz.ntmps205
    go_wp2_with (go_at_call 190; refine (in_c _ _ _ _).mono ?_; rintro e w' ⟨rfl, rfl⟩)
    all_goals go_ret
    all_goals (refine ⟨?_, hbx _⟩; have := HM.out; go_light; simp_all [hereB] <;> (intro h; omega))
  by_cases h2 : k = 2
  · subst h2
    go_enter Tryz.func205, Tryz.ntmps205
    go_wp2_with (go_at_call 190; refine (in_c _ _ _ _).mono ?_; rintro e w' ⟨rfl, rfl⟩)
    all_goals go_ret
    all_goals (refine ⟨?_, hbx _⟩; have := HM.out; go_light; simp_all [hereB] <;> (intro h; omega))
  · have e0 : (k == 0) = false := by simpa using h0
    have e1 : (k == 1) = false := by simpa using h1
    have e2 : (k == 2) = false := by simpa using h2
    have e3 : (k == 3) = false := by simpa using h3
    have e4 : (k == 4) = false := by simpa using h4
    have e5 : (k == 5) = false := by simpa using hk
    have HZ : Hid (hereB k n s m ks = false) := by
      show _ = _
      simp only [hereB, e0, e1, e2, e3, e4, e5]
      simp
    clear e0 e1 e2 e3 e4 e5
    have hk' : ¬ k = 5 := hk
    go_enter Tryz.func205, Tryz.ntmps205
    go_wp2_with fail
    all_goals go_ret
    all_goals (refine ⟨?_, hbx _⟩; have := HZ.out; go_light; simp_all)
end Go.Proofs.YtkkhnldhipfneaaGreatDoor

/-! When a map is right but for its parts, as the specification has it: for every list of keys that lies in memory. -/
namespace Go.Proofs.YtkkhnldhipfneaaGreatDoor
open Go.RowKit
set_option linter.unusedSimpArgs false
set_option linter.unusedVariables false

theorem quiet_mine {P : Program} {f : FuncId} {args : Array Value} {w : World} {n : Nat} {v : Value}
    (h : Calls P f args (w.drewN n) fun e w' => e = .returned v ∧ w.drewN n = w') : Calls P f args (w.drewN n) fun e w'' => e = .returned v ∧ ∃ m, w'' = w.drewN m :=
  h.mono fun _ _ ⟨he, hm⟩ => ⟨he, n, hm.symm⟩

theorem keysUpto_bad (ks : List ByteArray) (i : Nat) (h : keysUpto ks (i + 1) = false) : ∀ j, i + 1 ≤ j → keysUpto ks j = false
  | 0, hj => by omega
  | j + 1, hj => by
    by_cases e : i = j
    · subst e; exact h
    · rw [keysUpto, keysUpto_bad ks i h j (by omega)]; rfl

theorem keys_false {ks : List ByteArray} {i : Nat} (hi : i < ks.length) (h : keysUpto ks (i + 1) = false) : keysUpto ks ks.length = false := keysUpto_bad ks i h _ (by omega)

set_option maxHeartbeats 4000000 in
set_option maxRecDepth 100000 in
theorem here_map (n : Int) (s : ByteArray) (a : Option Addr) (m cap : Nat) (u : Value) (ks : List ByteArray) (w : World) (hs : s.size ≤ maxLen) (hk : saneS ks) (hu : Reads w u (strsV ks)) :
    Calls Tryz.prog 205 #[.agg #[.int .i64 5, .int .i64 n, .string s, .slice a m cap, u]] w fun e w' => e = .returned (.bool (hereB 5 n s m ks)) ∧ Below w.heap.size w w' := by
  have hbx : ∀ o, Below w.heap.size w (w.alloc o) := fun o => (Below.refl _ _).alloc (Nat.le_refl _) _
  obtain ⟨a', cap', rfl, hcp, hc⟩ := reads_strs hu
  obtain ⟨hk1, hk2⟩ := hk
  unfold maxLen at hk1
  by_cases hse : s.toList = []
  case neg =>
    have HZ : Hid (hereB 5 n s m ks = false) := by
      show _ = _
      have : s.toList.isEmpty = false := by simpa using hse
      simp only [hereB, this]
      simp
    go_enter Tryz.func205, Tryz.ntmps205
    go_wp2_with fail
    all_goals go_ret
    all_goals (refine ⟨?_, hbx _⟩; have := HZ.out; go_light; simp_all)
  have hse' : s.toList.isEmpty = true := by simpa using hse
  go_enter Tryz.func205, Tryz.ntmps205
  go_wp2_with fail
  obtain ⟨W, hW⟩ : ∃ W, W = w.alloc (.cells #[.int .i64 5, .int .i64 n, .string s, .slice a m cap, .slice a' ks.length cap'] 56) := ⟨_, rfl⟩
  have hbW : Below w.heap.size w W := by rw [hW]; exact hbx _
  have hN : w.heap.size < W.heap.size := by rw [hW]; simp
  obtain ⟨x0, x1, x2, x3, x4⟩ := box5 (w := w) (t := 56) (c0 := .int .i64 5) (c1 := .int .i64 n) (c2 := .string s) (c3 := .slice a m cap) (c4 := .slice a' ks.length cap') (w1 := W) (by rw [hW]; exact Below.refl _ _)
  rw [← hW]
  clear hW hbx
  go_loopw [3] (fun vi wr => ∃ (k : Nat), k ≤ ks.length ∧ vi = .int .i64 (k : Int) ∧ Below W.heap.size W wr ∧ Hid (keysUpto ks k = true)) (fun vi _ => ks.length - (intOf vi).toNat)
  case atStart => exact ⟨0, Nat.zero_le _, rfl, Below.refl _ _, rfl⟩
  case round =>
    obtain ⟨k, hkl, rfl, hbr, hh⟩ := hrel
    rw [← hbr.cell (by simpa using hN)] at x0 x1 x2 x3 x4
    have hbw : Below w.heap.size w wr := hbW.trans (hbr.mono hbW.size)
    by_cases hlt : k < ks.length
    · rcases hc with rfl | ⟨b, off, rfl, hlb, hc⟩
      · simp at hlt
      have c1 := hc k hlt
      rw [← hbw.cell (by simpa using hlb)] at c1
      have hsz := hk2 ks[k] (List.getElem_mem hlt)
      have hki : (k : Int) < (ks.length : Int) := by omega
      have hstep : keysUpto ks (k + 1) = (textB ks[k] && (k == 0 || Op.bytesLess (ks.getD (k - 1) ⟨#[]⟩).toList (ks[k]).toList)) := by
        rw [keysUpto, hh.out]; simp [List.getD_eq_getElem?_getD, hlt]
      obtain ⟨t, ht⟩ : ∃ t, t = ks[k] := ⟨_, rfl⟩
      rw [← ht] at c1 hsz hstep
      have HT : Hid (∀ w, Calls Tryz.prog 252 #[.string t] w fun e w' => e = .returned (.bool (textB t)) ∧ w = w') := fun w => specText_c t hsz w
      by_cases htx : textB t = true
      · rw [htx] at HT
        rcases Nat.eq_zero_or_pos k with rfl | hk0
        · have HS : Hid (keysUpto ks (0 + 1) = true) := by show _ = _; rw [hstep, htx]; rfl
          clear hc hk2 ht hstep
          simp only [Nat.add_zero] at c1
          go_wp2_with fail
          go_quiet (first | (go_at_call 252; exact quiet_mine (HT.out _)))
          go_wp2_with fail
          go_roundw
          case rel => exact ⟨1, by omega, by go_num, below_drewN' hbr _, HS⟩
          case measure => simp [intOf]; omega
        · have c0 := hc (k - 1) (by omega)
          rw [← hbw.cell (by simpa using hlb)] at c0
          obtain ⟨j, rfl⟩ : ∃ j, k = j + 1 := ⟨k - 1, by omega⟩
          simp only [Nat.add_sub_cancel] at c0 hstep
          have ej : ks.getD j ⟨#[]⟩ = ks[j] := by simp [List.getD_eq_getElem?_getD, show j < ks.length by omega]
          rw [ej] at hstep
          obtain ⟨t0, ht0⟩ : ∃ t0, t0 = ks[j] := ⟨_, rfl⟩
          rw [← ht0] at c0 hstep
          have hpj : (0 : Int) < (j : Int) + 1 := by omega
          have hj1 : (j : Int) + 1 - 1 = (j : Int) := by omega
          by_cases hless : Op.bytesLess t0.toList t.toList = true
          · have HS : Hid (keysUpto ks (j + 1 + 1) = true) := by show _ = _; rw [hstep, htx, hless]; simp
            clear hc hk2 ht hstep ht0 ej
            go_wp2_with fail
            go_quiet (first | (go_at_call 252; exact quiet_mine (HT.out _)))
            go_wp2_with fail
            go_roundw
            case rel => exact ⟨j + 1 + 1, by omega, by go_num, below_drewN' hbr _, HS⟩
            case measure => simp [intOf]; omega
          · have hless' : Op.bytesLess t0.toList t.toList = false := by simpa using hless
            have HS : Hid (keysUpto ks ks.length = false) := keys_false hlt (by rw [hstep, htx, hless']; simp)
            clear hc hk2 ht hstep ht0 ej
            go_wp2_with fail
            go_quiet (first | (go_at_call 252; exact quiet_mine (HT.out _)))
            go_wp2_with fail
            go_ret
            refine ⟨?_, below_drewN' hbw _⟩
            rw [hereB, HS.out]
            simp
      · have htx' : textB t = false := by simpa using htx
        rw [htx'] at HT
        have HS : Hid (keysUpto ks ks.length = false) := keys_false hlt (by rw [hstep, htx']; rfl)
        clear hc hk2 ht hstep
        go_wp2_with fail
        go_quiet (first | (go_at_call 252; exact quiet_mine (HT.out _)))
        go_wp2_with fail
        go_ret
        refine ⟨?_, below_drewN' hbw _⟩
        rw [hereB, HS.out]
        simp
    · have he : k = ks.length := by omega
      subst he
      clear hc
      go_wp2_with fail
      all_goals go_ret
      all_goals (refine ⟨?_, hbw⟩; have := hh.out; have e5 : ((ks.length : Int) == (m : Int)) = (ks.length == m) := by rw [Bool.eq_iff_iff]; simp; omega
                 go_light; simp_all [hereB])
#print axioms here_map
end Go.Proofs.YtkkhnldhipfneaaGreatDoor

/-! How many values there are in a value, as the specification counts: for every value that lies in memory. -/
namespace Go.Proofs.YtkkhnldhipfneaaGreatDoor
open Go.RowKit
set_option linter.unusedSimpArgs false
set_option linter.unusedVariables false

mutual
def Tree.nodes : Tree → Nat
  | .mk _ _ _ l _ => 1 + nodesL l
def nodesL : List Tree → Nat
  | [] => 0
  | t :: r => t.nodes + nodesL r
end
mutual
def Tree.good : Tree → Nat → Bool
  | .mk k n s l ks, d => decide (d ≤ 6) && hereB k n s l.length ks && goodL l (d + 1)
def goodL : List Tree → Nat → Bool
  | [], _ => true
  | t :: r, d => t.good d && goodL r d
end
theorem nodes_mk (k n : Int) (s : ByteArray) (l : List Tree) (ks : List ByteArray) : (Tree.mk k n s l ks).nodes = 1 + nodesL l := by rw [Tree.nodes]
theorem good_mk (k n : Int) (s : ByteArray) (l : List Tree) (ks : List ByteArray) (d : Nat) : (Tree.mk k n s l ks).good d = (decide (d ≤ 6) && hereB k n s l.length ks && goodL l (d + 1)) := by rw [Tree.good]
theorem nodesL_append (a b : List Tree) : nodesL (a ++ b) = nodesL a + nodesL b := by
  induction a with
  | nil => simp [nodesL]
  | cons t r ih => simp only [List.cons_append, nodesL, ih]; omega
theorem goodL_append (a b : List Tree) (d : Nat) : goodL (a ++ b) d = (goodL a d && goodL b d) := by
  induction a with
  | nil => simp [goodL]
  | cons t r ih => simp only [List.cons_append, goodL, ih, Bool.and_assoc]
theorem nodesL_take_succ (l : List Tree) (k : Nat) (h : k < l.length) : nodesL (l.take (k + 1)) = nodesL (l.take k) + (l[k]).nodes := by
  rw [List.take_succ_eq_append_getElem h, nodesL_append]; simp [nodesL]
theorem goodL_take_succ (l : List Tree) (k d : Nat) (h : k < l.length) : goodL (l.take (k + 1)) d = (goodL (l.take k) d && (l[k]).good d) := by
  rw [List.take_succ_eq_append_getElem h, goodL_append]; simp [goodL]
theorem nodesL_take_le (l : List Tree) (k : Nat) : nodesL (l.take k) ≤ nodesL l := by
  conv => rhs; rw [← List.take_append_drop k l, nodesL_append]
  omega
theorem goodL_take (l : List Tree) (k d : Nat) (h : goodL l d = true) : goodL (l.take k) d = true := by
  rw [← List.take_append_drop k l, goodL_append] at h
  simp at h
  exact h.1
theorem nodes_pos (T : Tree) : 1 ≤ T.nodes := by cases T; rw [nodes_mk]; omega

theorem here_c (k n : Int) (s : ByteArray) (l : List Tree) (ks : List ByteArray) (S : Nat → Prop) (c u : Value) (w : World) (hs : s.size ≤ maxLen) (hk : saneS ks) (hl : ∃ a cap, c = .slice a l.length cap) (hu : Reads w u (strsV ks)) :
    Calls Tryz.prog 205 #[.agg #[.int .i64 k, .int .i64 n, .string s, c, u]] w fun e w' => e = .returned (.bool (hereB k n s l.length ks)) ∧ Below w.heap.size w w' := by
  obtain ⟨a, cap, rfl⟩ := hl
  by_cases h5 : k = 5
  · subst h5; exact here_map n s a l.length cap u ks w hs hk hu
  · obtain ⟨a', cap', rfl, _⟩ := reads_strs hu
    exact here_flat k n s a a' l.length cap cap' ks w hs h5

/-- What the count r tells of T at depth d. -/
def Tells (T : Tree) (d : Nat) (r : Int) : Prop := 1 ≤ r ∧ r ≤ 1000 - 100 * (d : Int) ∧ ((T.good d = true ∧ T.nodes ≤ 80 ∧ r = (T.nodes : Int)) ∨ (¬ (T.good d = true ∧ T.nodes ≤ 80) ∧ 80 < r))

def CountC (T : Tree) : Prop := ∀ (S : Nat → Prop) (v : Value) (w : World) (d : Nat), Lies S w v T → (∀ b, S b → b < w.heap.size) → 1 ≤ d → d ≤ 7 →
  Calls Tryz.prog 156 #[v, .int .i64 (d : Int)] w fun e w' => ∃ r : Int, e = .returned (.int .i64 r) ∧ Tells T d r ∧ Below w.heap.size w w'

set_option maxHeartbeats 4000000 in
set_option maxRecDepth 100000 in
theorem count_step (k n : Int) (s : ByteArray) (l : List Tree) (ks : List ByteArray) (ih : ∀ U ∈ l, CountC U) : CountC (.mk k n s l ks) := by
  intro S v w d hv hB hd1 hd7
  obtain ⟨c, u, rfl, hs, hk, hl, hu⟩ := hv.out
  clear hv
  have hbx : ∀ o, Below w.heap.size w (w.alloc o) := fun o => (Below.refl _ _).alloc (Nat.le_refl _) _
  by_cases hd : (6 : Int) < (d : Int)
  · have HT : Hid (Tells (.mk k n s l ks) d 100) := by
      refine ⟨by omega, by omega, .inr ⟨fun h => ?_, by omega⟩⟩
      rw [good_mk, show decide (d ≤ 6) = false by simp; omega] at h
      simp at h
    go_enter Tryz.func156, Tryz.ntmps156
    go_wp2_with fail
    go_ret
    exact ⟨100, rfl, HT.out, hbx _⟩
  have hlx : ∃ a cap, c = .slice a l.length cap := by obtain ⟨a, cap, C, h, _⟩ := hl; exact ⟨a, cap, h⟩
  have huA : ∀ w1, Below w.heap.size w w1 → Reads w1 u (strsV ks) := fun w1 h1 => (hu.keep (.of h1 hB)).reads (fun b h => Nat.lt_of_lt_of_le (hB b h) h1.size)
  have HH : Hid (∀ w1, Below w.heap.size w w1 → Calls Tryz.prog 205 #[.agg #[.int .i64 k, .int .i64 n, .string s, c, u]] w1 fun e w' => e = .returned (.bool (hereB k n s l.length ks)) ∧ Below w1.heap.size w1 w') := fun w1 h1 => here_c k n s l ks S c u w1 hs hk hlx (huA w1 h1)
  clear huA
  by_cases hh : hereB k n s l.length ks = true
  case neg =>
    have hh' : hereB k n s l.length ks = false := by simpa using hh
    rw [hh'] at HH
    have HT : Hid (Tells (.mk k n s l ks) d 100) := by
      refine ⟨by omega, by omega, .inr ⟨fun h => ?_, by omega⟩⟩
      rw [good_mk, hh'] at h
      simp at h
    go_enter Tryz.func156, Tryz.ntmps156
    go_wp2_with (go_at_call 205; refine (HH.out _ (hbx _)).mono ?_; rintro e w1 ⟨rfl, hb1⟩)
    go_ret
    exact ⟨100, rfl, HT.out, (hbx _).trans (hb1.mono (by simp))⟩
  rw [hh] at HH
  have hgood : (Tree.mk k n s l ks).good d = goodL l (d + 1) := by rw [good_mk, hh, show decide (d ≤ 6) = true by simp; omega]; simp
  have HG : Hid ((Tree.mk k n s l ks).good d = goodL l (d + 1)) := hgood
  clear hgood hh
  go_enter Tryz.func156, Tryz.ntmps156
  go_wp2_with (go_at_call 205; refine (HH.out _ (hbx _)).mono ?_; rintro e w1 ⟨rfl, hb1⟩; obtain ⟨x0, x1, x2, x3, x4⟩ := box5 hb1)
  have hbw : Below w.heap.size w w1 := (hbx _).trans (hb1.mono (by simp))
  have hN : w.heap.size < w1.heap.size := by have := hb1.size; simp at this; omega
  clear HH hb1 x0 x1 x2 x4
  obtain ⟨a, cap, rfl, hlm, hcp, ha⟩ := hl.at
  unfold maxLen at hlm
  go_loopw [5, 6] (fun vk vi wr => ∃ (i : Nat) (q : Int), i ≤ l.length ∧ vi = .int .i64 (i : Int) ∧ vk = .int .i64 q ∧ Below w1.heap.size w1 wr ∧ 1 ≤ q ∧ q ≤ 1000 - 100 * (d : Int) ∧ Hid ((goodL (l.take i) (d + 1) = true ∧ q = 1 + (nodesL (l.take i) : Int)) ∨ (80 < q ∧ ¬ (goodL l (d + 1) = true ∧ 1 + nodesL l ≤ 80)))) (fun _ vi _ => l.length - (intOf vi).toNat)
  case atStart => exact ⟨0, 1, Nat.zero_le _, rfl, rfl, Below.refl _ _, by omega, by omega, .inl ⟨by simp [goodL], by simp [nodesL]⟩⟩
  case round =>
    obtain ⟨i, q, hi, rfl, rfl, hbr, hq1, hq2, hq⟩ := hrel
    rw [← hbr.cell (by simpa using hN)] at x3
    have hbw' : Below w.heap.size w wr := hbw.trans (hbr.mono hbw.size)
    by_cases hlt : i < l.length
    · by_cases h80 : q ≤ 80
      · rcases ha with rfl | ⟨b, off, rfl, hlb, ha⟩
        · simp at hlt
        obtain ⟨c0, c1, c2, c3, c4, e0, e1, e2, e3, e4, hT⟩ := ha i hlt
        rw [← hbw'.cell (by simpa using hB b hlb)] at e0 e1 e2 e3 e4
        have ihk := ih _ (List.getElem_mem hlt)
        have hn1 := nodesL_take_succ l i hlt
        have hg1 := goodL_take_succ l i (d + 1) hlt
        obtain ⟨U, hU⟩ : ∃ U, U = l[i] := ⟨_, rfl⟩
        rw [← hU] at hT ihk hn1 hg1
        have HN : Hid (nodesL (l.take (i + 1)) = nodesL (l.take i) + U.nodes ∧ goodL (l.take (i + 1)) (d + 1) = (goodL (l.take i) (d + 1) && U.good (d + 1))) := ⟨hn1, hg1⟩
        have hki : (i : Int) < (l.length : Int) := by omega
        have hT' := hT.keep (.of hbw' hB)
        have hBr : ∀ b, S b → b < wr.heap.size := fun b h => Nat.lt_of_lt_of_le (hB b h) hbw'.size
        have hcall := ihk S _ wr (d + 1) hT' hBr (by omega) (by omega)
        rw [show (((d + 1 : Nat)) : Int) = (d : Int) + 1 by omega] at hcall
        have HCall : Hid (Calls Tryz.prog 156 #[.agg #[c0, c1, c2, c3, c4], .int .i64 ((d : Int) + 1)] wr fun e w' => ∃ r : Int, e = .returned (.int .i64 r) ∧ Tells U (d + 1) r ∧ Below wr.heap.size wr w') := hcall
        clear ha ih hU hT hn1 hg1 hcall ihk hu hl
        go_wp2_with (go_at_call 156; refine HCall.out.mono ?_; rintro e w2 ⟨r, rfl, hr, hb2⟩; have hr1 := hr.1; have hr2 := hr.2.1; have HR : Hid (Tells U (d + 1) r) := hr; clear hr)
        go_roundw
        case rel =>
          obtain ⟨hn1, hg1⟩ := HN.out
          obtain ⟨_, _, hr⟩ := HR.out
          have hle := nodesL_take_le l (i + 1)
          refine ⟨i + 1, q + r, by omega, by go_num, rfl, hbr.trans (hb2.mono hbr.size), by omega, by omega, ?_⟩
          rcases hq.out with ⟨hg, hqq⟩ | ⟨h8, _⟩
          · rcases hr with ⟨ga, gb, gc⟩ | ⟨gn, g8⟩
            · exact .inl ⟨by rw [hg1, hg, ga]; rfl, by rw [hn1]; omega⟩
            · refine .inr ⟨by omega, fun ⟨x1, x2⟩ => gn ⟨?_, by omega⟩⟩
              have := goodL_take l (i + 1) (d + 1) x1
              rw [hg1] at this
              simp at this
              exact this.2
          · omega
        case measure => simp [intOf]; omega
      · have h80' : 80 < q := by omega
        clear ha
        go_wp2_with fail
        go_ret
        refine ⟨q, rfl, ⟨hq1, hq2, ?_⟩, hbw'⟩
        rcases hq.out with ⟨hg, hqq⟩ | ⟨h8, hn⟩
        · refine .inr ⟨fun ⟨x1, x2⟩ => ?_, by omega⟩
          have := nodesL_take_le l i
          rw [nodes_mk] at x2
          omega
        · refine .inr ⟨fun ⟨x1, x2⟩ => hn ⟨by rw [← HG.out]; exact x1, by rw [nodes_mk] at x2; exact x2⟩, h8⟩
    · have he : i = l.length := by omega
      subst he
      clear ha
      go_wp2_with fail
      go_ret
      refine ⟨q, rfl, ⟨hq1, hq2, ?_⟩, hbw'⟩
      have hqo := hq.out
      rw [List.take_length] at hqo
      rcases hqo with ⟨hg, hqq⟩ | ⟨h8, hn⟩
      · by_cases h8 : q ≤ 80
        · exact .inl ⟨by rw [HG.out]; exact hg, by rw [nodes_mk]; omega, by rw [nodes_mk]; omega⟩
        · exact .inr ⟨fun ⟨x1, x2⟩ => by rw [nodes_mk] at x2; omega, by omega⟩
      · exact .inr ⟨fun ⟨x1, x2⟩ => hn ⟨by rw [← HG.out]; exact x1, by rw [nodes_mk] at x2; exact x2⟩, h8⟩

theorem count_all : ∀ T, CountC T := Tree.ind fun k n s l ks ih => count_step k n s l ks ih

/-- When a value is right. -/
def Tree.ok (T : Tree) : Bool := T.good 1 && decide (T.nodes ≤ 80)

set_option maxHeartbeats 1000000 in
theorem specValOk_c (T : Tree) (S : Nat → Prop) (v : Value) (w : World) (hv : Lies S w v T) (hB : ∀ b, S b → b < w.heap.size) :
    Calls Tryz.prog 89 #[v] w fun e w' => e = .returned (.bool T.ok) ∧ Below w.heap.size w w' := by
  have hbx : ∀ o, Below w.heap.size w (w.alloc o) := fun o => (Below.refl _ _).alloc (Nat.le_refl _) _
  have HC : Hid (∀ w1, Below w.heap.size w w1 → Calls Tryz.prog 156 #[v, .int .i64 1] w1 fun e w' => ∃ r : Int, e = .returned (.int .i64 r) ∧ Tells T 1 r ∧ Below w1.heap.size w1 w') := fun w1 h1 => count_all T S v w1 1 (hv.keep (.of h1 hB)) (fun b h => Nat.lt_of_lt_of_le (hB b h) h1.size) (by omega) (by omega)
  obtain ⟨k, n, s, a, m, cap, a', m', cap', rfl⟩ := hv.parts
  clear hv
  go_enter Tryz.func89, Tryz.ntmps89
  go_wp2_with (go_at_call 156; refine (HC.out _ (hbx _)).mono ?_; rintro e w1 ⟨r, rfl, hr, hb1⟩; have HR : Hid (Tells T 1 r) := hr; clear hr)
  go_ret
  refine ⟨?_, (hbx _).trans (hb1.mono (by simp))⟩
  have e : decide (r ≤ 80) = T.ok := by
    obtain ⟨_, _, h⟩ := HR.out
    unfold Tree.ok
    rcases h with ⟨ga, gb, gc⟩ | ⟨gn, g8⟩
    · rw [ga]; simp; omega
    · rw [show decide (r ≤ 80) = false by simp; omega]
      by_cases h1 : T.good 1 = true
      · rw [h1]; simp; have : ¬ T.nodes ≤ 80 := fun h => gn ⟨h1, h⟩; omega
      · simp at h1; rw [h1]; rfl
  rw [← e]
  rfl
#print axioms specValOk_c
end Go.Proofs.YtkkhnldhipfneaaGreatDoor

/-! Trees of values that may be written, no two rows of which are the same, and such as bear marks: what they are, and that they are kept; no condition. -/
namespace Go.Proofs.YtkkhnldhipfneaaGreatDoor
open Go.RowKit
set_option linter.unusedSimpArgs false
set_option linter.unusedVariables false

def Tree.kids : Tree → List Tree
  | .mk _ _ _ l _ => l
def Tree.keys : Tree → List ByteArray
  | .mk _ _ _ _ ks => ks
mutual
/-- How many marks a tree takes below its own, and a list of trees. -/
def Tree.cnt : Tree → Nat
  | .mk _ _ _ l ks => 3 + cntL l + ks.length
def cntL : List Tree → Nat
  | [] => 0
  | t :: r => t.cnt + cntL r
end
theorem cnt_eq (T : Tree) : T.cnt = 3 + cntL T.kids + T.keys.length := by
  cases T; rw [Tree.cnt]; rfl
theorem cntL_append (a b : List Tree) : cntL (a ++ b) = cntL a + cntL b := by
  induction a with
  | nil => simp [cntL]
  | cons t r ih => simp only [List.cons_append, cntL, ih]; omega
theorem cntL_take (l : List Tree) (k : Nat) (h : k < l.length) : cntL (l.take (k + 1)) = cntL (l.take k) + l[k].cnt := by
  rw [List.take_succ_eq_append_getElem h, cntL_append]; simp [cntL]
theorem cntL_take_le (l : List Tree) (k : Nat) : cntL (l.take k) ≤ cntL l := by
  conv => rhs; rw [← List.take_append_drop k l, cntL_append]
  omega

/-- Rows of values that may be written: their blocks lie in S, no two of them are the same. -/
inductive OwnL (w : World) : (Nat → Prop) → Value → List Tree → Prop
  | mk (S : Nat → Prop) (v : Value) (l : List Tree) (ys : List Value) (C U : Nat → Value) (B K : Nat → Nat → Prop)
      (hrow : w.ownsRow 0 56 5 v l.length ys)
      (hg : ∀ g, v.ownBlock = some g → S g ∧ ∀ i, ¬ B i g ∧ ¬ K i g)
      (hc : ∀ i, i < l.length → (∃ c0 c1 c2, ys[i * 5]? = some c0 ∧ ys[i * 5 + 1]? = some c1 ∧ ys[i * 5 + 2]? = some c2) ∧ ys[i * 5 + 3]? = some (C i) ∧ ys[i * 5 + 4]? = some (U i))
      (hB : ∀ i b, B i b → S b) (hK : ∀ i b, K i b → S b)
      (hBB : ∀ i j b, i ≠ j → B i b → ¬ B j b) (hBK : ∀ i j b, B i b → ¬ K j b) (hKK : ∀ i j b, i ≠ j → K i b → ¬ K j b)
      (hC : ∀ i (h : i < l.length), OwnL w (B i) (C i) l[i].kids)
      (hU : ∀ i (h : i < l.length), ∃ xs, w.ownsRow 0 9 1 (U i) l[i].keys.length xs ∧ ∀ g, (U i).ownBlock = some g → K i g) : OwnL w S v l

/-- Rows of values that bear the marks from k on. -/
inductive MarkL (w : World) (S : Nat → Prop) : Nat → Value → List Tree → Prop
  | mk (k : Nat) (v : Value) (l : List Tree) (ys : List Value) (C U : Nat → Value)
      (hrow : w.ownsRow 0 56 5 v l.length ys) (hg : ∀ g, v.ownBlock = some g → S g)
      (hc : ∀ i, i < l.length → ys[i * 5]? = some (.int .i64 ((k + cntL (l.take i) : Nat) : Int)) ∧ ys[i * 5 + 1]? = some (.int .i64 ((k + cntL (l.take i) + 1 : Nat) : Int)) ∧ ys[i * 5 + 2]? = some (.string (markStr (k + cntL (l.take i) + 2))) ∧ ys[i * 5 + 3]? = some (C i) ∧ ys[i * 5 + 4]? = some (U i))
      (hC : ∀ i (h : i < l.length), MarkL w S (k + cntL (l.take i) + 3) (C i) l[i].kids)
      (hU : ∀ i (h : i < l.length), RdB S w (U i) (strsV (marksS (k + cntL (l.take i) + 3 + cntL l[i].kids) l[i].keys.length))) : MarkL w S k v l

theorem OwnL.keep {S : Nat → Prop} {w w' : World} {v : Value} {l : List Tree} (h : OwnL w S v l) : Kp S w w' → OwnL w' S v l := by
  induction h with
  | mk S v l ys C U B K hrow hg hc hB hK hBB hBK hKK hC hU ih =>
    intro hk
    refine .mk S v l ys C U B K (owns_kept hk (fun g h => (hg g h).1) hrow) hg hc hB hK hBB hBK hKK (fun i h => ih i h (fun b hb => hk b (hB i b hb))) (fun i h => ?_)
    obtain ⟨xs, h1, h2⟩ := hU i h
    exact ⟨xs, owns_kept hk (fun g h => hK i g (h2 g h)) h1, h2⟩
theorem MarkL.keep {S : Nat → Prop} {w w' : World} {k : Nat} {v : Value} {l : List Tree} (h : MarkL w S k v l) : Kp S w w' → MarkL w' S k v l := by
  induction h with
  | mk k v l ys C U hrow hg hc hC hU ih =>
    intro hk
    exact .mk k v l ys C U (owns_kept hk hg hrow) hg hc (fun i h => ih i h hk) (fun i h => (hU i h).keep hk)
theorem MarkL.mono {S : Nat → Prop} {w : World} {k : Nat} {v : Value} {l : List Tree} (h : MarkL w S k v l) : ∀ {S' : Nat → Prop}, (∀ b, S b → S' b) → MarkL w S' k v l := by
  induction h with
  | mk k v l ys C U hrow hg hc hC hU ih =>
    intro S' hs
    exact .mk k v l ys C U hrow (fun g h => hs g (hg g h)) hc (fun i h => ih i h hs) (fun i h => (hU i h).mono hs)
theorem OwnL.slice {S : Nat → Prop} {w : World} {v : Value} {l : List Tree} (h : OwnL w S v l) : ∃ q cap, v = .slice q l.length cap := by
  cases h with
  | mk S v l ys C U B K hrow =>
    rcases hrow.2 with ⟨h1, h2⟩ | ⟨g, cap, cur, h1, _⟩
    · exact ⟨none, 0, by rw [h1, h2]⟩
    · exact ⟨_, _, h1⟩
theorem MarkL.slice {S : Nat → Prop} {w : World} {k : Nat} {v : Value} {l : List Tree} (h : MarkL w S k v l) : ∃ q cap, v = .slice q l.length cap := by
  cases h with
  | mk k v l ys C U hrow =>
    rcases hrow.2 with ⟨h1, h2⟩ | ⟨g, cap, cur, h1, _⟩
    · exact ⟨none, 0, by rw [h1, h2]⟩
    · exact ⟨_, _, h1⟩

/-- From w to w' only blocks of S, and new ones, have changed. -/
structure Chg (S : Nat → Prop) (w w' : World) : Prop where
  os : w'.os = w.os
  tape : w'.tape = w.tape
  output : w'.output = w.output
  size : w.heap.size ≤ w'.heap.size
  block : ∀ b, b < w.heap.size → ¬ S b → w'.heap[b]? = w.heap[b]?
theorem Chg.refl (S : Nat → Prop) (w : World) : Chg S w w := ⟨rfl, rfl, rfl, Nat.le_refl _, fun _ _ _ => rfl⟩
theorem Chg.trans {S : Nat → Prop} {a b c : World} (h : Chg S a b) (k : Chg S b c) : Chg S a c :=
  ⟨k.os.trans h.os, k.tape.trans h.tape, k.output.trans h.output, Nat.le_trans h.size k.size, fun i hi hs => (k.block i (Nat.lt_of_lt_of_le hi h.size) hs).trans (h.block i hi hs)⟩
theorem Chg.mono {S S' : Nat → Prop} {a b : World} (h : Chg S a b) (hs : ∀ b, S b → S' b) : Chg S' a b := ⟨h.os, h.tape, h.output, h.size, fun i hi hn => h.block i hi (fun k => hn (hs i k))⟩
theorem Chg.of {S : Nat → Prop} {a b : World} (h : Below a.heap.size a b) : Chg S a b := ⟨h.os, h.tape, h.output, h.size, fun i hi _ => h.block i hi⟩
theorem Chg.kp {S R : Nat → Prop} {a b : World} (h : Chg S a b) (hr : ∀ i, R i → i < a.heap.size ∧ ¬ S i) : Kp R a b := fun i hi => h.block i (hr i hi).1 (hr i hi).2
end Go.Proofs.YtkkhnldhipfneaaGreatDoor

/-! What a rule is that is read out of a value: pure; no condition. -/
namespace Go.Proofs.YtkkhnldhipfneaaGreatDoor
open Go.RowKit
set_option linter.unusedSimpArgs false
set_option linter.unusedVariables false

def Tree.kd : Tree → Int
  | .mk k _ _ _ _ => k
def Tree.nm : Tree → Int
  | .mk _ n _ _ _ => n
def Tree.st : Tree → ByteArray
  | .mk _ _ s _ _ => s
def kEnv : ByteArray := ⟨#[101, 110, 118]⟩
def kIn : ByteArray := ⟨#[105, 110]⟩
def kKeep : ByteArray := ⟨#[107, 101, 101, 112]⟩
def kOn : ByteArray := ⟨#[111, 110]⟩
def textsOf (T : Tree) : Option (List ByteArray) := if T.kd = 4 then (if T.kids.all (fun U => U.kd == 3) then some (T.kids.map Tree.st) else none) else none
def putK (r : RuleD) (k : ByteArray) (T : Tree) : Option RuleD :=
  if k = kEnv then (textsOf T).map fun l => { r with envs := l }
  else if k = kIn then (textsOf T).map fun l => { r with ins := l }
  else if k = kKeep then (if T.kd = 1 then some { r with keep := T.nm == 1 } else none)
  else if k = kOn then (textsOf T).map fun l => { r with on := l }
  else none
def putAll : List ByteArray → List Tree → RuleD → Option RuleD
  | k :: ks, T :: l, r => (putK r k T).bind fun r' => putAll ks l r'
  | _, _, r => some r
def ruleOfT (t : ByteArray) (T : Tree) : Option RuleD := if T.ok && T.kd == 5 then (putAll T.keys T.kids ⟨t, [], [], [], true⟩).bind fun r => if ruleB r then some r else none else none
theorem putAll_step {ks : List ByteArray} {l : List Tree} {i : Nat} (h : i < l.length) (hl : ks.length = l.length) (r : RuleD) : putAll (ks.drop i) (l.drop i) r = (putK r (ks[i]'(by omega)) l[i]).bind fun r' => putAll (ks.drop (i + 1)) (l.drop (i + 1)) r' := by
  rw [List.drop_eq_getElem_cons h, List.drop_eq_getElem_cons (show i < ks.length by omega), putAll]
theorem putAll_end {ks : List ByteArray} {l : List Tree} (r : RuleD) : putAll (ks.drop l.length) (l.drop l.length) r = some r := by
  rw [List.drop_length]
  cases ks.drop l.length <;> rfl
/-- A list of a few short texts. -/
def tinyL (l : List ByteArray) : Prop := l.length ≤ 80 ∧ ∀ s ∈ l, s.size ≤ 60
def tinyR (r : RuleD) : Prop := tinyL r.on ∧ tinyL r.ins ∧ tinyL r.envs
theorem tinyL_bulk {l : List ByteArray} (h : tinyL l) : bulkS l ≤ 4880 := by
  have : ∀ (l : List ByteArray), (∀ s ∈ l, s.size ≤ 60) → (l.map ByteArray.size).sum ≤ 60 * l.length := fun l => by
    induction l with
    | nil => intro _; simp
    | cons a r ih =>
      intro h
      have h1 := h a (by simp)
      have h2 := ih (fun s hs => h s (by simp [hs]))
      simp only [List.map_cons, List.sum_cons, List.length_cons]
      omega
  have h2 := this l h.2
  have h3 := h.1
  unfold bulkS
  omega
theorem tinyL_sane {l : List ByteArray} (h : tinyL l) : saneP l := ⟨by have := h.1; unfold maxLen; omega, fun s hs => by have := h.2 s hs; unfold maxLen; omega⟩
theorem tinyR_small {r : RuleD} (h : tinyR r) : smallR r := ⟨fun s hs => by have := h.1.2 s hs; omega, fun s hs => by have := h.2.1.2 s hs; omega, fun s hs => by have := h.2.2.2 s hs; omega⟩
theorem tinyR_wt {r : RuleD} (h : tinyR r) (ht : nameB r.task = true) : wtRule r ≤ 1048576 := by
  have h1 := tinyL_bulk h.1
  have h2 := tinyL_bulk h.2.1
  have h3 := tinyL_bulk h.2.2
  have h4 : r.task.size ≤ 10 := by
    have : inB r.task.size 1 10 = true := by
      unfold nameB at ht
      simp only [Bool.and_eq_true] at ht
      exact ht.2
    simp only [inB, Bool.and_eq_true, decide_eq_true_eq] at this
    omega
  unfold wtRule
  omega
theorem good_here {T : Tree} {d : Nat} (h : T.good d = true) : hereB T.kd T.nm T.st T.kids.length T.keys = true ∧ goodL T.kids (d + 1) = true := by
  obtain ⟨k, n, s, l, ks⟩ := T
  rw [good_mk] at h
  simp only [Bool.and_eq_true] at h
  exact ⟨h.1.2, h.2⟩
theorem goodL_at : ∀ (l : List Tree) (d : Nat), goodL l d = true → ∀ U ∈ l, U.good d = true
  | [], _, _, U, hU => by cases hU
  | a :: r, d, h, U, hU => by
    rw [goodL] at h
    simp only [Bool.and_eq_true] at h
    rcases List.mem_cons.1 hU with rfl | hU
    · exact h.1
    · exact goodL_at r d h.2 U hU
theorem len_nodesL (l : List Tree) : l.length ≤ nodesL l := by
  induction l with
  | nil => exact Nat.zero_le _
  | cons a r ih =>
    have h1 := nodes_pos a
    rw [nodesL, List.length_cons]
    omega
theorem nodesL_at : ∀ (l : List Tree), ∀ U ∈ l, U.nodes ≤ nodesL l
  | [], U, hU => by cases hU
  | a :: r, U, hU => by
    rw [nodesL]
    rcases List.mem_cons.1 hU with rfl | hU
    · omega
    · have := nodesL_at r U hU; omega
theorem nodes_kids (T : Tree) : T.nodes = 1 + nodesL T.kids := by obtain ⟨k, n, s, l, ks⟩ := T; exact nodes_mk k n s l ks
theorem text_small {T : Tree} {d : Nat} (h : T.good d = true) (h3 : T.kd = 3) : T.st.size ≤ 60 := by
  have h1 := (good_here h).1
  unfold hereB at h1
  rw [h3] at h1
  simp only [Bool.and_eq_true] at h1
  have h2 := h1.2
  rw [if_pos (by rfl)] at h2
  simp only [Bool.and_eq_true] at h2
  have h4 := h2.2
  unfold textB at h4
  simp only [Bool.and_eq_true, decide_eq_true_eq] at h4
  omega
theorem textsOf_tiny {T : Tree} {d : Nat} {l : List ByteArray} (h : T.good d = true) (hn : T.nodes ≤ 80) (hl : textsOf T = some l) : tinyL l := by
  unfold textsOf at hl
  split at hl
  · split at hl
    · rename_i h4 ha
      simp only [Option.some.injEq] at hl
      subst hl
      refine ⟨?_, fun s hs => ?_⟩
      · rw [List.length_map]
        have := len_nodesL T.kids
        have := nodes_kids T
        omega
      · obtain ⟨U, hU, rfl⟩ := List.mem_map.1 hs
        have h3 : U.kd = 3 := by simpa using List.all_eq_true.1 ha U hU
        exact text_small (goodL_at _ _ (good_here h).2 U hU) h3
    · cases hl
  · cases hl
theorem putK_tiny {r r' : RuleD} {k : ByteArray} {T : Tree} {d : Nat} (h : T.good d = true) (hn : T.nodes ≤ 80) (hr : tinyR r) (hp : putK r k T = some r') : tinyR r' := by
  unfold putK at hp
  split at hp
  · cases ht : textsOf T with
    | none => rw [ht] at hp; cases hp
    | some l => rw [ht] at hp; simp only [Option.map_some, Option.some.injEq] at hp; subst hp; exact ⟨hr.1, hr.2.1, textsOf_tiny h hn ht⟩
  · split at hp
    · cases ht : textsOf T with
      | none => rw [ht] at hp; cases hp
      | some l => rw [ht] at hp; simp only [Option.map_some, Option.some.injEq] at hp; subst hp; exact ⟨hr.1, textsOf_tiny h hn ht, hr.2.2⟩
    · split at hp
      · split at hp
        · simp only [Option.some.injEq] at hp; subst hp; exact hr
        · cases hp
      · split at hp
        · cases ht : textsOf T with
          | none => rw [ht] at hp; cases hp
          | some l => rw [ht] at hp; simp only [Option.map_some, Option.some.injEq] at hp; subst hp; exact ⟨textsOf_tiny h hn ht, hr.2.1, hr.2.2⟩
        · cases hp
theorem putK_task {r r' : RuleD} {k : ByteArray} {T : Tree} (hp : putK r k T = some r') : r'.task = r.task := by
  unfold putK at hp
  repeat' split at hp
  all_goals first
    | (cases ht : textsOf T with
       | none => rw [ht] at hp; cases hp
       | some l => rw [ht] at hp; simp only [Option.map_some, Option.some.injEq] at hp; subst hp; rfl)
    | (simp only [Option.some.injEq] at hp; subst hp; rfl)
    | cases hp
theorem ok_five {T : Tree} (h : T.ok = true) (h5 : T.kd = 5) : T.keys.length = T.kids.length ∧ (∀ U ∈ T.kids, U.good 2 = true ∧ U.nodes ≤ 80) ∧ T.kids.length ≤ 80 := by
  unfold Tree.ok at h
  simp only [Bool.and_eq_true, decide_eq_true_eq] at h
  obtain ⟨h1, h2⟩ := good_here h.1
  have hn := nodes_kids T
  have hl := len_nodesL T.kids
  refine ⟨?_, fun U hU => ⟨goodL_at _ _ h2 U hU, by have := nodesL_at _ U hU; omega⟩, by omega⟩
  unfold hereB at h1
  rw [h5] at h1
  simp at h1
  exact h1.2.2.2
end Go.Proofs.YtkkhnldhipfneaaGreatDoor

/-! What the program's own reading of a value asks ahead of its parts: its counter, the fields that a kind does not name, a copy of a text; for every value. -/
namespace Go.Proofs.YtkkhnldhipfneaaGreatDoor
open Go.RowKit
set_option linter.unusedSimpArgs false
set_option linter.unusedVariables false

/-- The counter in block g holds c. -/
def CtrAt (w : World) (g : Nat) (c : Int) : Prop := w.heap[g]? = some (.cells #[.int .i64 c] 281 (0, 0))
theorem CtrAt.cell {w : World} {g : Nat} {c : Int} (h : CtrAt w g c) : w.cell? ⟨g, 0, none⟩ = some (.int .i64 c) := blk_cell h 0
theorem CtrAt.frozen {w : World} {g : Nat} {c : Int} (h : CtrAt w g c) : w.frozen? ⟨g, 0, none⟩ = false := blk_frozen h 0
theorem CtrAt.lt {w : World} {g : Nat} {c : Int} (h : CtrAt w g c) : g < w.heap.size := (Array.getElem?_eq_some_iff.1 h).1
theorem CtrAt.set {w : World} {g : Nat} {c : Int} (h : CtrAt w g c) (c' : Int) : CtrAt (w.setCell ⟨g, 0, none⟩ (.int .i64 c')) g c' := blk_set h 0 _
theorem CtrAt.keep {w w' : World} {g : Nat} {c : Int} (h : CtrAt w g c) (hb : Below w.heap.size w w') : CtrAt w' g c := (hb.block g h.lt).trans h

theorem grown_set' (w : World) (g j : Nat) (u : Value) : w.grownBy (w.setCell ⟨g, j, none⟩ u) (some g) :=
  ⟨rfl, rfl, rfl, by simp [World.setCell], fun k _ hk => Below.heap_setCell w ⟨g, j, none⟩ u k (fun e => hk (by simp at e; rw [e]))⟩

set_option maxHeartbeats 1000000 in
theorem room_c (g : Nat) (c : Int) (d : Int) (w : World) (hc : CtrAt w g c) (h0 : 0 ≤ c) (h1 : c ≤ 1000000) :
    Calls Tryz.prog 272 #[.pointer (some ⟨g, 0, none⟩), .int .i64 d] w fun e w' => e = .returned (.bool (decide (d ≤ 6) && decide (c + 1 ≤ 80))) ∧ w' = w.setCell ⟨g, 0, none⟩ (.int .i64 (c + 1)) := by
  have c0 := hc.cell
  have f0 := hc.frozen
  clear hc
  by_cases hd : d ≤ 6
  · go_enter Tryz.func272, Tryz.ntmps272
    go_wp2_with fail
    go_ret
    exact ⟨by simp [hd], rfl⟩
  · go_enter Tryz.func272, Tryz.ntmps272
    go_wp2_with fail
    go_ret
    exact ⟨by rw [show decide (d ≤ 6) = false by simp; omega]; rfl, rfl⟩

theorem castz (n : Nat) : ((n : Int) == 0) = (n == 0) := by rw [Bool.eq_iff_iff]; simp

def emptyB (k n : Int) (s : ByteArray) (nl : Nat) (ks : List ByteArray) : Bool :=
  (n == 0 || k == 1 || k == 2) && (s.toList.isEmpty || k == 3) && (nl == 0 || k == 4 || k == 5) && (ks.length == 0 || k == 5)

set_option maxHeartbeats 1000000 in
theorem empty_c (k n : Int) (s : ByteArray) (a a' : Option Addr) (m cap cap' : Nat) (ks : List ByteArray) (w : World) :
    Calls Tryz.prog 273 #[.agg #[.int .i64 k, .int .i64 n, .string s, .slice a m cap, .slice a' ks.length cap']] w fun e w' => e = .returned (.bool (emptyB k n s m ks)) ∧ Below w.heap.size w w' := by
  have hbx : ∀ o, Below w.heap.size w (w.alloc o) := fun o => (Below.refl _ _).alloc (Nat.le_refl _) _
  obtain ⟨m', hm'⟩ : ∃ m', m' = ks.length := ⟨_, rfl⟩
  rw [← hm']
  have HM : Hid (m' = ks.length) := hm'
  clear hm'
  go_enter Tryz.func273, Tryz.ntmps273
  go_wp2_with fail
  all_goals go_ret
  all_goals (refine ⟨?_, hbx _⟩; have := HM.out; go_light; simp_all [emptyB, castz])

def kindB (k n : Int) (s : ByteArray) (nl : Nat) (ks : List ByteArray) : Bool :=
  if k = 0 then true else if k = 1 then inB n 0 1 else if k = 2 then inB n (-999999) 999999 else if k = 3 then textB s else if k = 4 then true else if k = 5 then (ks.length == nl && keysUpto ks ks.length) else false

theorem text_nil {s : ByteArray} (h : s.toList.isEmpty = true) : textB s = true := by
  have h0 : s.size = 0 := by
    have : s.toList = [] := by simpa using h
    have h2 : s.toList.length = s.size := by rw [ByteArray.toList_eq]; simp
    rw [this] at h2; simpa using h2.symm
  unfold textB
  rw [h0]
  rfl

theorem here_split (k n : Int) (s : ByteArray) (nl : Nat) (ks : List ByteArray) : hereB k n s nl ks = (emptyB k n s nl ks && kindB k n s nl ks) := by
  have ht := @text_nil s
  unfold hereB emptyB kindB
  by_cases h0 : k = 0
  · subst h0
    cases he : s.toList.isEmpty
    · simp
    · rw [ht he]; simp [Bool.and_comm, Bool.and_left_comm, Bool.and_assoc]
  by_cases h1 : k = 1
  · subst h1; simp [Bool.and_comm, Bool.and_left_comm, Bool.and_assoc]
  by_cases h2 : k = 2
  · subst h2; simp [Bool.and_comm, Bool.and_left_comm, Bool.and_assoc]
  by_cases h3 : k = 3
  · subst h3; simp [Bool.and_comm, Bool.and_left_comm, Bool.and_assoc]
  by_cases h4 : k = 4
  · subst h4
    cases he : s.toList.isEmpty
    · simp
    · rw [ht he]; simp [Bool.and_comm, Bool.and_left_comm, Bool.and_assoc]
  by_cases h5 : k = 5
  · subst h5; simp [Bool.and_comm, Bool.and_left_comm, Bool.and_assoc]
  · simp [h0, h1, h2, h3, h4, h5]

theorem clone2_c (s : ByteArray) (w : World) (h : s.size ≤ 1048576) : Calls Tryz.prog 73 #[.string s] w fun e w' => e = .returned (.string s) ∧ Below w.heap.size w w' := by
  go_enter Tryz.func73, Tryz.ntmps73
  go_wp2_with (go_at_call 141; refine (Tryz.stringslite_Clone s _ (by omega)).mono ?_; rintro e w1 ⟨rfl, b1⟩)
  go_ret
  exact ⟨rfl, b1⟩
end Go.Proofs.YtkkhnldhipfneaaGreatDoor

/-! A value as the program holds it within (an interface value a kind), how it lies in memory, and the order of its keys: for every such value. -/
namespace Go.Proofs.YtkkhnldhipfneaaGreatDoor
open Go.RowKit
set_option linter.unusedSimpArgs false
set_option linter.unusedVariables false

/-- The interface value v is the tree T; all its memory lies in blocks of S. -/
inductive XLies (S : Nat → Prop) (w : World) : Value → Tree → Prop
  | null (n : Int) (s : ByteArray) (l : List Tree) (ks : List ByteArray) : XLies S w (.iface 306 (.agg #[])) (.mk 0 n s l ks)
  | bool (n : Int) (s : ByteArray) (l : List Tree) (ks : List ByteArray) : XLies S w (.iface 200 (.bool (n == 1))) (.mk 1 n s l ks)
  | num (n : Int) (s : ByteArray) (l : List Tree) (ks : List ByteArray) : XLies S w (.iface 307 (.int .i64 n)) (.mk 2 n s l ks)
  | text (n : Int) (s : ByteArray) (l : List Tree) (ks : List ByteArray) : XLies S w (.iface 285 (.string s)) (.mk 3 n s l ks)
  | list (n : Int) (s : ByteArray) (l : List Tree) (ks : List ByteArray) (a : Option Addr) (cap : Nat) (X : Nat → Value) (hc : l.length ≤ cap)
      (ha : l = [] ∨ ∃ b off, a = some ⟨b, off, none⟩ ∧ S b ∧ ∀ i, i < l.length → w.cell? ⟨b, off + i, none⟩ = some (X i))
      (hX : ∀ i (h : i < l.length), XLies S w (X i) l[i]) : XLies S w (.iface 243 (.slice a l.length cap)) (.mk 4 n s l ks)
  | map (n : Int) (s : ByteArray) (l : List Tree) (ks : List ByteArray) (a : Option Addr) (cap : Nat) (X : Nat → Value) (hc : l.length ≤ cap)
      (ha : l = [] ∨ ∃ b off, a = some ⟨b, off, none⟩ ∧ S b ∧ ∀ i, i < l.length → w.cell? ⟨b, off + i * 2, none⟩ = some (.string (ks.getD i ⟨#[]⟩)) ∧ w.cell? ⟨b, off + i * 2 + 1, none⟩ = some (X i))
      (hX : ∀ i (h : i < l.length), XLies S w (X i) l[i]) : XLies S w (.iface 193 (.slice a l.length cap)) (.mk 5 n s l ks)

theorem XLies.keep {S : Nat → Prop} {w w' : World} (hb : KeptIn S w w') : ∀ {T : Tree} {v : Value}, XLies S w v T → XLies S w' v T := by
  intro T v h
  induction h with
  | null n s l ks => exact .null n s l ks
  | bool n s l ks => exact .bool n s l ks
  | num n s l ks => exact .num n s l ks
  | text n s l ks => exact .text n s l ks
  | list n s l ks a cap X hc ha hX ih =>
    refine .list n s l ks a cap X hc ?_ ih
    rcases ha with ha | ⟨b, off, ha, hs, hcell⟩
    · exact .inl ha
    · exact .inr ⟨b, off, ha, hs, fun i hi => (hb.cell hs _).trans (hcell i hi)⟩
  | map n s l ks a cap X hc ha hX ih =>
    refine .map n s l ks a cap X hc ?_ ih
    rcases ha with ha | ⟨b, off, ha, hs, hcell⟩
    · exact .inl ha
    · exact .inr ⟨b, off, ha, hs, fun i hi => ⟨(hb.cell hs _).trans (hcell i hi).1, (hb.cell hs _).trans (hcell i hi).2⟩⟩

theorem XLies.mono {S S' : Nat → Prop} {w : World} (hB : ∀ b, S b → S' b) : ∀ {T : Tree} {v : Value}, XLies S w v T → XLies S' w v T := by
  intro T v h
  induction h with
  | null n s l ks => exact .null n s l ks
  | bool n s l ks => exact .bool n s l ks
  | num n s l ks => exact .num n s l ks
  | text n s l ks => exact .text n s l ks
  | list n s l ks a cap X hc ha hX ih =>
    refine .list n s l ks a cap X hc ?_ ih
    rcases ha with ha | ⟨b, off, ha, hs, hcell⟩
    · exact .inl ha
    · exact .inr ⟨b, off, ha, hB b hs, hcell⟩
  | map n s l ks a cap X hc ha hX ih =>
    refine .map n s l ks a cap X hc ?_ ih
    rcases ha with ha | ⟨b, off, ha, hs, hcell⟩
    · exact .inl ha
    · exact .inr ⟨b, off, ha, hB b hs, hcell⟩

/-- Every interface value of a tree is an interface value. -/
theorem XLies.iface {S : Nat → Prop} {w : World} {v : Value} {T : Tree} (h : XLies S w v T) : ∃ t x, v = .iface t x := by
  cases h <;> exact ⟨_, _, rfl⟩

/-- The keys of the first i fields rise. -/
def riseUpto (ks : List ByteArray) : Nat → Bool
  | 0 => true
  | i + 1 => riseUpto ks i && (i == 0 || Op.bytesLess (ks.getD (i - 1) ⟨#[]⟩).toList (ks.getD i ⟨#[]⟩).toList)
def textsUpto (ks : List ByteArray) : Nat → Bool
  | 0 => true
  | i + 1 => textsUpto ks i && textB (ks.getD i ⟨#[]⟩)
theorem keys_split (ks : List ByteArray) : ∀ i, keysUpto ks i = (textsUpto ks i && riseUpto ks i)
  | 0 => rfl
  | i + 1 => by
    rw [keysUpto, textsUpto, riseUpto, keys_split ks i]
    cases textsUpto ks i <;> cases riseUpto ks i <;> cases textB (ks.getD i ⟨#[]⟩) <;> rfl
theorem rise_bad (ks : List ByteArray) (i : Nat) (h : riseUpto ks (i + 1) = false) : ∀ j, i + 1 ≤ j → riseUpto ks j = false
  | 0, hj => by omega
  | j + 1, hj => by
    by_cases e : i = j
    · subst e; exact h
    · rw [riseUpto, rise_bad ks i h j (by omega)]; rfl
theorem texts_bad (ks : List ByteArray) (i : Nat) (h : textsUpto ks (i + 1) = false) : ∀ j, i + 1 ≤ j → textsUpto ks j = false
  | 0, hj => by omega
  | j + 1, hj => by
    by_cases e : i = j
    · subst e; exact h
    · rw [textsUpto, texts_bad ks i h j (by omega)]; rfl

set_option maxHeartbeats 1000000 in
set_option maxRecDepth 100000 in
theorem rising_c (a : Option Addr) (n cap : Nat) (ks : List ByteArray) (w : World) (hn : n ≤ 1048576) (hcap : n ≤ cap)
    (ha : n = 0 ∨ ∃ b off, a = some ⟨b, off, none⟩ ∧ ∀ i, i < n → w.cell? ⟨b, off + i * 2, none⟩ = some (.string (ks.getD i ⟨#[]⟩))) :
    Calls Tryz.prog 289 #[.slice a n cap] w fun e w' => e = .returned (.bool (riseUpto ks n)) ∧ Below w.heap.size w w' := by
  rcases Nat.eq_zero_or_pos n with rfl | hn0
  · go_enter Tryz.func289, Tryz.ntmps289
    go_wp2_with fail
    go_loopw [3] (fun vi wr => vi = .int .i64 1 ∧ wr = w) (fun _ _ => 0)
    case atStart => exact ⟨rfl, rfl⟩
    case round =>
      obtain ⟨rfl, rfl⟩ := hrel
      go_wp2_with fail
      go_ret
      exact ⟨rfl, Below.refl _ _⟩
  rcases ha with h0 | ⟨b, off, rfl, hc⟩
  · omega
  go_enter Tryz.func289, Tryz.ntmps289
  go_wp2_with fail
  go_loopw [3] (fun vi wr => ∃ k q : Nat, k + 1 ≤ n ∧ vi = .int .i64 ((k : Int) + 1) ∧ wr = w.drewN q ∧ Hid (riseUpto ks (k + 1) = true)) (fun vi _ => n - (intOf vi).toNat)
  case atStart => exact ⟨0, 0, by omega, by simp, rfl, rfl⟩
  case round =>
    obtain ⟨k, q, hk, rfl, rfl, hh⟩ := hrel
    obtain ⟨W, hW⟩ : ∃ W, W = w.drewN q := ⟨_, rfl⟩
    have hbW : Below w.heap.size w W := by rw [hW]; exact below_drewN' (Below.refl _ _) _
    by_cases hlt : k + 1 < n
    · have c0 : W.cell? ⟨b, off + k * 2, none⟩ = some (.string (ks.getD k ⟨#[]⟩)) := by rw [hW]; exact hc k (by omega)
      have c1 : W.cell? ⟨b, off + (k + 1) * 2, none⟩ = some (.string (ks.getD (k + 1) ⟨#[]⟩)) := by rw [hW]; exact hc (k + 1) hlt
      have hstep : riseUpto ks (k + 1 + 1) = Op.bytesLess (ks.getD k ⟨#[]⟩).toList (ks.getD (k + 1) ⟨#[]⟩).toList := by
        rw [riseUpto, hh.out]; simp
      obtain ⟨t0, ht0⟩ : ∃ t0, t0 = ks.getD k ⟨#[]⟩ := ⟨_, rfl⟩
      obtain ⟨t1, ht1⟩ : ∃ t1, t1 = ks.getD (k + 1) ⟨#[]⟩ := ⟨_, rfl⟩
      rw [← ht0] at c0 hstep
      rw [← ht1] at c1 hstep
      have HS : Hid (riseUpto ks (k + 1 + 1) = Op.bytesLess t0.toList t1.toList) := hstep
      have hki : (k : Int) + 1 < (n : Int) := by omega
      have HW : Hid (W = w.drewN q) := hW
      rw [← hW]
      clear hc ht0 ht1 hstep hW
      go_wp2_with fail
      go_quiet (fail)
      go_wp2_with fail
      · go_ret
        have hf : Op.bytesLess t0.toList t1.toList = false := by simp_all
        refine ⟨?_, below_drewN' hbW _⟩
        rw [rise_bad ks (k + 1) (HS.out.trans hf) n (by omega)]
        rfl
      · go_roundw
        case rel =>
          have hf : Op.bytesLess t0.toList t1.toList = true := by simp_all
          exact ⟨k + 1, _, by omega, by go_num, by rw [HW.out, World.drewN_drewN], HS.out.trans hf⟩
        case measure => simp [intOf]; omega
    · have he : n = k + 1 := by omega
      subst he
      rw [← hW]
      clear hc hW
      go_wp2_with fail
      go_ret
      exact ⟨by rw [hh.out]; rfl, hbW⟩
end Go.Proofs.YtkkhnldhipfneaaGreatDoor

/-! Where the list lies that an append to a list of the call's own hands on: in the same block, or in a new one; conditions as the library's law asks them. -/
namespace Go.Proofs.YtkkhnldhipfneaaGreatDoor
open Go.RowKit
set_option linter.unusedSimpArgs false
set_option linter.unusedVariables false

theorem append_block {P : Program} (w : World) (base : Nat) (t ty e : TypeId) (i : TypeInfo) (z : Value) (size bytes : Nat) (ht : P.underlying t = some (.slice e)) (hi : P.info? e = some i) (hz : i.zero = some z)
    (hsize : i.size = size) (hby : i.bytes = bytes) (hzs : z.cells.size = size) (hsz : 0 < size)
    (v : Value) (n : Nat) (xs : List Value) (hown : w.ownsRow base e size v n xs)
    (a : Addr) (m c : Nat) (news : List Value) (hl : news.length = m * size) (hnews : ∀ j u, news[j]? = some u → w.cell? (a.add j) = some u) (h1 : ∀ u ∈ news, u.oneCell' = true)
    (h63 : n + m ≤ maxLen) (hbytes : (n + m) * bytes ≤ 140737488355328) (hm : 0 < m) (v' : Value) (w' : World)
    (hr : (Builtin.append_ #[t, t] ty #[v, .slice (some a) m c]).run P w = .ok v' w') : v'.ownBlock = v.ownBlock ∨ v'.ownBlock = some w.heap.size := by
  subst hsize
  subst hby
  have hsmall : n + m ≤ 9223372036854775807 := by simp only [maxLen] at h63; omega
  rcases hown.2 with ⟨rfl, rfl⟩ | ⟨g, cap, cur, rfl, hbg, hg, hnc, hcm, hcs, htake⟩
  · have h := run_append_nil (P := P) w t ty e i z ht hi hz a m c news hl hnews (by omega) (by omega) (by have hb := hbytes; simp only [Nat.zero_add] at hb; omega)
    rw [hr] at h
    obtain ⟨rfl, _⟩ := (Result.ok.injEq ..).mp h
    exact .inr rfl
  · by_cases hroom : n + m ≤ cap
    · have hfit : n * i.size + news.length ≤ cur.size := by rw [hl, hcs, ← Nat.add_mul]; exact Nat.mul_le_mul_right _ hroom
      have h := run_append_room (P := P) w t ty e i ht hi g n cap cur hg a m c news hl hnews h1 hroom hfit
      rw [hr] at h
      obtain ⟨rfl, _⟩ := (Result.ok.injEq ..).mp h
      exact .inl rfl
    · have h := run_append_grow (P := P) w t ty e i z ht hi hz ⟨g, 0, none⟩ n cap xs hown.1 (hown.cells (g := g) rfl) a m c news hl hnews (by omega) (by omega) (growslice_fits (by omega) hbytes)
      rw [hr] at h
      obtain ⟨rfl, _⟩ := (Result.ok.injEq ..).mp h
      exact .inr rfl

theorem wpList_append_block {P : Program} (w : World) {ops : Array Oper} {rest : List Oper} {o : Oper} {a : Act} {Q : Exit → Act → World → Prop} (hgd : o.guard = none) (s x : Operand) (t : TypeId)
    (ho : o.op = .call { callee := .builtin .append, args := #[s, x], argTypes := #[t, t] })
    (base : Nat) (e : TypeId) (i : TypeInfo) (z : Value) (size bytes : Nat) (ht : P.underlying t = some (.slice e)) (hi : P.info? e = some i) (hz : i.zero = some z)
    (hsize : i.size = size) (hby : i.bytes = bytes) (hzs : z.cells.size = size) (hsz : 0 < size)
    (v : Value) (n : Nat) (xs : List Value) (hs : a.eval s = v) (hown : w.ownsRow base e size v n xs)
    (ad : Addr) (m c : Nat) (news : List Value) (hx : a.eval x = .slice (some ad) m c) (hl : news.length = m * size) (hnews : ∀ j u, news[j]? = some u → w.cell? (ad.add j) = some u) (h1 : ∀ u ∈ news, u.oneCell' = true)
    (h63 : n + m ≤ maxLen) (hbytes : (n + m) * bytes ≤ 140737488355328) (hbase : base ≤ w.heap.size) (hm : 0 < m)
    (h : ∀ v' w', w'.ownsRow base e size v' (n + m) (xs ++ news) → w.grownBy w' v.ownBlock → (v'.ownBlock = v.ownBlock ∨ v'.ownBlock = some w.heap.size) → wpList P ops Q rest (a.put o.dst v') w') : wpList P ops Q (o :: rest) a w := by
  refine wpList_plain hgd fun K hK => ?_
  obtain ⟨v', w', hr, h2, h3, _⟩ := run_append_own (P := P) w base t o.type e i z size bytes ht hi hz hsize hby hzs hsz v n xs hown ad m c news hl hnews h1 h63 hbytes hbase
  have h4 := append_block w base t o.type e i z size bytes ht hi hz hsize hby hzs hsz v n xs hown ad m c news hl hnews h1 h63 hbytes hm v' w' hr
  unfold Oper.wp execOp
  simp only [ho, resolve, invoke, builtin, Sem.run_bind, Sem.run_pure, Result.andThen_ok, List.map_toArray, List.map_cons, List.map_nil, hs, hx, hr]
  exact hK _ _ (h v' w' h2 h3 h4)

theorem infoValue : (Tryz.prog.info? 196).map (fun i => (i.zero, i.size, i.bytes)) = some (some .nilIface, 1, 16) := by kernel_rfl
theorem infoKv : (Tryz.prog.info? 198).map (fun i => (i.zero, i.size, i.bytes)) = some (some (.agg #[.string ⟨#[]⟩, .nilIface]), 2, 32) := by kernel_rfl
#print axioms wpList_append_block
end Go.Proofs.YtkkhnldhipfneaaGreatDoor

/-! The program's reading of a list of values, given its reading of each: for every list that lies in memory and holds at most 2 to the 20. -/
namespace Go.Proofs.YtkkhnldhipfneaaGreatDoor
open Go.RowKit
set_option linter.unusedSimpArgs false
set_option linter.unusedVariables false

/-- The blocks from lo on, below hi, but one. -/
def Off (lo hi : Nat) (o : Option Nat) (b : Nat) : Prop := lo ≤ b ∧ b < hi ∧ some b ≠ o

/-- The interface value x is the list l. -/
def XList (S : Nat → Prop) (w : World) (x : Value) (l : List Tree) : Prop :=
  ∃ a cap, ∃ X : Nat → Value, x = .iface 243 (.slice a l.length cap) ∧ l.length ≤ cap ∧
    (l = [] ∨ ∃ b off, a = some ⟨b, off, none⟩ ∧ S b ∧ ∀ i, i < l.length → w.cell? ⟨b, off + i, none⟩ = some (X i)) ∧ ∀ i (h : i < l.length), XLies S w (X i) l[i]
/-- The interface value x is the map of these keys and values. -/
def XMap (S : Nat → Prop) (w : World) (x : Value) (l : List Tree) (ks : List ByteArray) : Prop :=
  ∃ a cap, ∃ X : Nat → Value, x = .iface 193 (.slice a l.length cap) ∧ l.length ≤ cap ∧
    (l = [] ∨ ∃ b off, a = some ⟨b, off, none⟩ ∧ S b ∧ ∀ i, i < l.length → w.cell? ⟨b, off + i * 2, none⟩ = some (.string (ks.getD i ⟨#[]⟩)) ∧ w.cell? ⟨b, off + i * 2 + 1, none⟩ = some (X i)) ∧ ∀ i (h : i < l.length), XLies S w (X i) l[i]

def ValueC (T : Tree) : Prop := ∀ (S : Nat → Prop) (v : Value) (w : World) (d g : Nat) (c : Int), Lies S w v T → (∀ b, S b → b < w.heap.size ∧ b ≠ g) → CtrAt w g c → 0 ≤ c → c ≤ 80 → 1 ≤ d → d ≤ 7 → T.wt ≤ 1048576 →
  Calls Tryz.prog 255 #[.pointer (some ⟨g, 0, none⟩), v, .int .i64 (d : Int)] w fun e w' => ∃ x c1, e = .returned (.tuple #[x, .bool (T.good d && decide (c + (T.nodes : Int) ≤ 80))]) ∧ CtrAt w' g c1 ∧ w.grownBy w' (some g) ∧
    (T.good d = true → c + (T.nodes : Int) ≤ 80 → c1 = c + (T.nodes : Int) ∧ XLies (Own w.heap.size w'.heap.size) w' x T)

def ListC (l : List Tree) : Prop := ∀ (S : Nat → Prop) (v : Value) (w : World) (d g : Nat) (c : Int), LiesL S w v l → (∀ b, S b → b < w.heap.size ∧ b ≠ g) → CtrAt w g c → 0 ≤ c → c ≤ 80 → 1 ≤ d → d ≤ 6 → wtL l ≤ 1048576 →
  Calls Tryz.prog 275 #[.pointer (some ⟨g, 0, none⟩), v, .int .i64 (d : Int)] w fun e w' => ∃ x c1, e = .returned (.tuple #[x, .bool (goodL l (d + 1) && decide (c + (nodesL l : Int) ≤ 80))]) ∧ CtrAt w' g c1 ∧ w.grownBy w' (some g) ∧
    (goodL l (d + 1) = true → c + (nodesL l : Int) ≤ 80 → c1 = c + (nodesL l : Int) ∧ XList (Own w.heap.size w'.heap.size) w' x l)

theorem gtrans {a b c : World} {r : Option Nat} (h : a.grownBy b r) (k : b.grownBy c r) : a.grownBy c r := grown_trans h k
theorem galloc (w : World) (o : Obj) (r : Option Nat) : w.grownBy (w.alloc o) r := World.grownBy_alloc w o r
theorem CtrAt.alloc {w : World} {g : Nat} {c : Int} (h : CtrAt w g c) (o : Obj) : CtrAt (w.alloc o) g c := h.keep ((Below.refl _ _).alloc (Nat.le_refl _) _)
theorem CtrAt.grown {w w' : World} {g : Nat} {c : Int} {r : Option Nat} (h : CtrAt w g c) (hg : w.grownBy w' r) (hr : some g ≠ r) : CtrAt w' g c := (hg.block g h.lt hr).trans h
theorem Lies.grown {S : Nat → Prop} {w w' : World} {g : Nat} {v : Value} {T : Tree} (h : Lies S w v T) (hg : w.grownBy w' (some g)) (hS : ∀ b, S b → b < w.heap.size ∧ b ≠ g) : Lies S w' v T :=
  h.keep fun b hb => hg.block b (hS b hb).1 (fun e => (hS b hb).2 (by simpa using e))
theorem grow_own {w w' : World} {g : Nat} {r : Option Nat} (h : w.grownBy w' r) (hr : ∀ k, r = some k → w.heap.size ≤ k) : w.grownBy w' (some g) :=
  ⟨h.os, h.tape, h.output, h.size, fun k hk _ => h.block k hk (fun e => by have := hr k e.symm; omega)⟩

theorem xlist_of {w : World} {N : Nat} {vo : Value} {l : List Tree} {xs : List Value} (hown : w.ownsRow N 196 1 vo l.length xs)
    (hX : ∀ j (h : j < l.length), XLies (Own N w.heap.size) w (xs.getD j undef) l[j]) : XList (Own N w.heap.size) w (.iface 243 vo) l := by
  have hlen := hown.1
  rcases hown.2 with ⟨rfl, h0⟩ | ⟨gb, cap, cur, rfl, hb, hg, hn, hcap, hsz, htake⟩
  · have : l = [] := List.eq_nil_of_length_eq_zero h0
    subst this
    exact ⟨none, 0, fun _ => undef, rfl, Nat.le_refl _, .inl rfl, fun i h => by simp at h⟩
  · refine ⟨_, cap, fun j => xs.getD j undef, rfl, hn, .inr ⟨gb, 0, rfl, ⟨hb, (Array.getElem?_eq_some_iff.1 hg).1⟩, fun i hi => ?_⟩, hX⟩
    rw [Nat.zero_add, hown.cellAt i (by omega)]
    simp [List.getD_eq_getElem?_getD, show i < xs.length by omega]

set_option maxHeartbeats 4000000 in
set_option maxRecDepth 100000 in
theorem list_step (l : List Tree) (ih : ∀ U ∈ l, ValueC U) : ListC l := by
  intro S v w d g c hv hB hct h0 h1 hd1 hd6 hw
  obtain ⟨a, cap, rfl, hlm, hcp, ha⟩ := hv.at
  have hn := length_le_wtL l
  unfold maxLen at hlm
  have hgN := hct.lt
  obtain ⟨i0, hi, hz0, hz1, hz2⟩ := info_parts infoValue
  go_enter Tryz.func275, Tryz.ntmps275
  go_wp2_with fail
  go_loopw [8, 15] (fun v8 vi wr => ∃ (vo : Value) (i : Nat) (xs : List Value) (c' : Int), vo = v8 ∧ i ≤ l.length ∧ vi = .int .i64 (i : Int) ∧ wr.ownsRow w.heap.size 196 1 vo i xs ∧ CtrAt wr g c' ∧ w.grownBy wr (some g) ∧ 0 ≤ c' ∧ c' ≤ 80 ∧ Hid (goodL (l.take i) (d + 1) = true ∧ c' = c + (nodesL (l.take i) : Int) ∧ ∀ j (h : j < l.length), j < i → XLies (Off w.heap.size wr.heap.size vo.ownBlock) wr (xs.getD j undef) l[j])) (fun _ vi _ => l.length - (intOf vi).toNat)
  case atStart => exact ⟨_, 0, [], c, rfl, Nat.zero_le _, rfl, World.ownsRow_nil _ _ _ _, hct, ⟨rfl, rfl, rfl, Nat.le_refl _, fun _ _ _ => rfl⟩, h0, h1, ⟨by simp [goodL], by simp [nodesL], fun j h hj => by omega⟩⟩
  case round =>
    obtain ⟨vo, i, xs, c', rfl, hil, rfl, hown, hcr, hgr, hc0, hc1, hh⟩ := hrel
    by_cases hlt : i < l.length
    · rcases ha with rfl | ⟨b, off, rfl, hlb, ha⟩
      · simp at hlt
      obtain ⟨y0, y1, y2, y3, y4, e0, e1, e2, e3, e4, hT⟩ := ha i hlt
      have hcell : ∀ o, wr.cell? ⟨b, o, none⟩ = w.cell? ⟨b, o, none⟩ := fun o => World.cell?_of_block (w := w) (hgr.block b (hB b hlb).1 (fun e => (hB b hlb).2 (by simpa using e)))
      rw [← hcell] at e0 e1 e2 e3 e4
      have ihk := ih _ (List.getElem_mem hlt)
      have hwt : (l[i]).wt ≤ 1048576 := by have := wt_le_wtL (List.getElem_mem hlt); omega
      have hn1 := nodesL_take_succ l i hlt
      have hg1 := goodL_take_succ l i (d + 1) hlt
      obtain ⟨U, hU⟩ : ∃ U, U = l[i] := ⟨_, rfl⟩
      rw [← hU] at hT ihk hn1 hg1 hwt
      have HN : Hid (nodesL (l.take (i + 1)) = nodesL (l.take i) + U.nodes ∧ goodL (l.take (i + 1)) (d + 1) = (goodL (l.take i) (d + 1) && U.good (d + 1)) ∧ U = l[i]) := ⟨hn1, hg1, hU⟩
      have hki : (i : Int) < (l.length : Int) := by omega
      obtain ⟨p1, p2, p3, p4, p5, p6, p7, p8, p9, hag⟩ := hT.parts
      have hag' := congrArg (fun v => v.cells.toList) hag
      simp [Value.cells] at hag'
      obtain ⟨rfl, rfl, rfl, rfl, rfl⟩ := hag'
      clear hag
      obtain ⟨o9, ho9⟩ : ∃ o9, o9 = Obj.cells #[.int .i64 p1, .int .i64 p2, .string p3, .slice p4 p5 p6, .slice p7 p8 p9] 56 := ⟨_, rfl⟩
      have hT' : Lies S (wr.alloc o9) _ U := (hT.grown hgr hB).keep fun b hb => heap_old wr _ (Nat.lt_of_lt_of_le (hB b hb).1 hgr.size)
      have hBr : ∀ b, S b → b < (wr.alloc o9).heap.size ∧ b ≠ g := fun b h => ⟨by have := (hB b h).1; have := hgr.size; simp; omega, (hB b h).2⟩
      have hcall := ihk S _ (wr.alloc o9) (d + 1) g c' hT' hBr (hcr.alloc _) hc0 hc1 (by omega) (by omega) hwt
      rw [show (((d + 1 : Nat)) : Int) = (d : Int) + 1 by omega] at hcall
      rw [ho9] at hcall
      obtain ⟨ok, hok⟩ : ∃ ok, ok = (U.good (d + 1) && decide (c' + (U.nodes : Int) ≤ 80)) := ⟨_, rfl⟩
      rw [← hok] at hcall
      have HOK : Hid (ok = (U.good (d + 1) && decide (c' + (U.nodes : Int) ≤ 80))) := hok
      clear ha ih hT hT' hn1 hg1 ihk hv hok ho9 hcell
      have hle1 := nodesL_take_le l (i + 1)
      have hgt := fun h => goodL_take l (i + 1) (d + 1) h
      have HL : Hid (nodesL (l.take (i + 1)) ≤ nodesL l ∧ (goodL l (d + 1) = true → goodL (l.take (i + 1)) (d + 1) = true)) := ⟨hle1, hgt⟩
      clear hle1 hgt
      cases ok with
      | false =>
        go_wp2_with (go_at_call 255; refine hcall.mono ?_; rintro e w2 ⟨x, c1, rfl, ct2, g2, _⟩)
        go_ret2
        have hf : (goodL l (d + 1) && decide (c + (nodesL l : Int) ≤ 80)) = false := by
          obtain ⟨hn1, hg1, _⟩ := HN.out
          obtain ⟨hl1, hl2⟩ := HL.out
          obtain ⟨q1, q2, _⟩ := hh.out
          have hk := HOK.out
          cases hgl : goodL l (d + 1) with
          | false => rfl
          | true =>
            have := hl2 hgl
            rw [hg1] at this
            simp at this
            rw [this.2] at hk
            simp at hk ⊢
            omega
        refine ⟨_, c1, by rw [hf]; rfl, ct2, gtrans hgr (gtrans (galloc _ _ _) g2), fun x1 x2 => ?_⟩
        rw [x1] at hf
        simp at hf
        omega
      | true =>
        have hk := HOK.out
        have hk' : U.good (d + 1) = true ∧ c' + (U.nodes : Int) ≤ 80 := by
          have := hk.symm
          simp at this
          exact this
        obtain ⟨hk1, hk2⟩ := hk'
        have HK : Hid (U.good (d + 1) = true ∧ c' + (U.nodes : Int) ≤ 80) := ⟨hk1, hk2⟩
        clear hk hk1 hk2 HOK
        have hownA := hown.alloc (Obj.cells #[.int .i64 p1, .int .i64 p2, .string p3, .slice p4 p5 p6, .slice p7 p8 p9] 56)
        have hvb := hown.lt
        have HV : Hid (∀ k, vo.ownBlock = some k → w.heap.size ≤ k ∧ k < wr.heap.size) := hvb
        clear hvb
        have hnp := nodes_pos U
        have hile : i ≤ 1048576 := by omega
        go_wp2_with (first
          | (go_at_call 255; refine hcall.mono ?_; rintro e w2 ⟨x, c1, rfl, ct2, g2, hx⟩; obtain ⟨hx1, hx2⟩ := hx HK.out.1 HK.out.2; obtain ⟨xt, xv, rfl⟩ := hx2.iface; have hown2 := hownA.kept g2 (by cases hb : vo.ownBlock with | none => exact .inl rfl | some k => right; have := HV.out k hb; simp; omega))
          | (at_builtin; refine wpList_append_block _ rfl _ _ 243 rfl w.heap.size 196 i0 .nilIface 1 16 Tryz.underlying243 hi hz0 hz1 hz2 rfl (by decide) _ i xs rfl (hown2.alloc _) ⟨w2.heap.size, 0, none⟩ 1 1 [.iface xt xv] rfl rfl (cell_one_new _ _ _) (fun u hu => by simp at hu; subst hu; rfl) (by unfold maxLen; omega) (by omega) (by have h1 := hgr.size; have h2 := g2.size; simp at h2 ⊢; omega) (by decide) ?_))
        intro v3 w3 o3 g3 hb3
        go_wp2_with fail
        go_roundw
        case rel =>
          obtain ⟨hn1, hg1, hUi⟩ := HN.out
          obtain ⟨q1, q2, q3⟩ := hh.out
          have hlen := hown.1
          have sA : (wr.alloc (Obj.cells #[.int .i64 p1, .int .i64 p2, .string p3, .slice p4 p5 p6, .slice p7 p8 p9] 56)).heap.size = wr.heap.size + 1 := by simp
          have z2 := g2.size
          rw [sA] at z2 hx2
          have sB : (w2.alloc (Obj.cells #[.iface xt xv] 196)).heap.size = w2.heap.size + 1 := by simp
          have z3 := g3.size
          rw [sB] at z3
          have hb4 : v3.ownBlock = vo.ownBlock ∨ v3.ownBlock = some (w2.heap.size + 1) := by first | exact hb3 | (rw [sB] at hb3; exact hb3)
          have hgz := hgr.size
          have gAB : (wr.alloc (Obj.cells #[.int .i64 p1, .int .i64 p2, .string p3, .slice p4 p5 p6, .slice p7 p8 p9] 56)).grownBy (w2.alloc (Obj.cells #[.iface xt xv] 196)) (some g) := gtrans g2 (galloc _ _ _)
          have g0 : wr.grownBy (w2.alloc (Obj.cells #[.iface xt xv] 196)) (some g) := gtrans (galloc _ _ _) gAB
          have hgv : some g ≠ vo.ownBlock := fun e => by have := HV.out g e.symm; omega
          refine ⟨v3, i + 1, xs ++ [.iface xt xv], c1, rfl, by omega, by go_num, o3, (ct2.alloc _).grown g3 hgv, ?_, by omega, by have := HK.out.2; omega, ⟨by rw [hg1, q1, HK.out.1]; rfl, by rw [hx1, hn1, q2]; omega, fun j h hj => ?_⟩⟩
          · refine ⟨g3.os.trans (g0.os.trans hgr.os), g3.tape.trans (g0.tape.trans hgr.tape), g3.output.trans (g0.output.trans hgr.output), by omega, fun k hk hne => ?_⟩
            rw [g3.block k (by rw [sB]; omega) (fun e => by have := HV.out k e.symm; omega), g0.block k (by omega) hne, hgr.block k hk hne]
          · have hoff : ∀ b, w.heap.size ≤ b → b < w2.heap.size → some b ≠ vo.ownBlock → Off w.heap.size w3.heap.size v3.ownBlock b := fun b h1 h2 h3 => ⟨h1, by omega, fun e => by
              rcases hb4 with hb | hb
              · exact h3 (e.trans hb)
              · rw [hb] at e; simp at e; omega⟩
            by_cases hji : j = i
            · subst hji
              have ex : (xs ++ [Value.iface xt xv]).getD j undef = .iface xt xv := by
                rw [List.getD_eq_getElem?_getD, List.getElem?_append_right (by omega)]; simp [show j - xs.length = 0 by omega]
              rw [ex, ← hUi]
              have hne : ∀ b, Own (wr.heap.size + 1) w2.heap.size b → some b ≠ vo.ownBlock := fun b hb e => by have := HV.out b e.symm; have := hb.1; omega
              refine (hx2.keep fun b hb => ?_).mono fun b hb => hoff b (by have := hb.1; omega) hb.2 (hne b hb)
              rw [g3.block b (by rw [sB]; have := hb.2; omega) (hne b hb), heap_old _ _ hb.2]
            · have ex : (xs ++ [Value.iface xt xv]).getD j undef = xs.getD j undef := by
                rw [List.getD_eq_getElem?_getD, List.getElem?_append_left (by omega), ← List.getD_eq_getElem?_getD]
              rw [ex]
              refine ((q3 j h (by omega)).keep fun b hb => ?_).mono fun b hb => hoff b hb.1 (by have := hb.2.1; omega) hb.2.2
              rw [g3.block b (by rw [sB]; have := hb.2.1; omega) hb.2.2, g0.block b hb.2.1 (fun e => by simp at e; have := hb.1; omega)]
        case measure => simp [intOf]; omega
    · have he : i = l.length := by omega
      subst he
      clear ha
      go_wp2_with fail
      go_ret2
      obtain ⟨q1, q2, q3⟩ := hh.out
      rw [List.take_length] at q1 q2
      have hf : (goodL l (d + 1) && decide (c + (nodesL l : Int) ≤ 80)) = true := by rw [q1]; simp; omega
      refine ⟨_, c', by rw [hf]; rfl, hcr, hgr, fun _ _ => ⟨q2, xlist_of hown fun j h => (q3 j h h).mono fun b hb => ⟨hb.1, hb.2.1⟩⟩⟩
end Go.Proofs.YtkkhnldhipfneaaGreatDoor

/-! The program's reading of a map, given its reading of each of its values: for every map that lies in memory and holds at most 2 to the 20. -/
namespace Go.Proofs.YtkkhnldhipfneaaGreatDoor
open Go.RowKit
set_option linter.unusedSimpArgs false
set_option linter.unusedVariables false

def fieldsB (l : List Tree) (ks : List ByteArray) (d : Nat) (c : Int) : Bool := (ks.length == l.length && keysUpto ks ks.length) && (goodL l (d + 1) && decide (c + (nodesL l : Int) ≤ 80))

def FieldsC (k n : Int) (s : ByteArray) (l : List Tree) (ks : List ByteArray) : Prop := ∀ (S : Nat → Prop) (v : Value) (w : World) (d g : Nat) (c : Int), Lies S w v (.mk k n s l ks) → (∀ b, S b → b < w.heap.size ∧ b ≠ g) → CtrAt w g c → 0 ≤ c → c ≤ 80 → 1 ≤ d → d ≤ 6 → wtL l ≤ 1048576 → bulkS ks ≤ 1048576 →
  Calls Tryz.prog 276 #[.pointer (some ⟨g, 0, none⟩), v, .int .i64 (d : Int)] w fun e w' => ∃ x c1, e = .returned (.tuple #[x, .bool (fieldsB l ks d c)]) ∧ CtrAt w' g c1 ∧ w.grownBy w' (some g) ∧
    (fieldsB l ks d c = true → c1 = c + (nodesL l : Int) ∧ XMap (Own w.heap.size w'.heap.size) w' x l ks)

theorem size_le_bulk {ks : List ByteArray} {s : ByteArray} (h : s ∈ ks) : s.size ≤ bulkS ks := by
  unfold bulkS
  induction ks with
  | nil => simp at h
  | cons t r ih =>
    simp only [List.mem_cons] at h
    simp only [List.map_cons, List.sum_cons, List.length_cons]
    rcases h with rfl | h
    · omega
    · have := ih h; omega

theorem xmap_of {w : World} {N : Nat} {vo : Value} {l : List Tree} {ks : List ByteArray} {xs : List Value} (hown : w.ownsRow N 198 2 vo l.length xs)
    (hX : ∀ j (h : j < l.length), xs.getD (j * 2) undef = .string (ks.getD j ⟨#[]⟩) ∧ XLies (Own N w.heap.size) w (xs.getD (j * 2 + 1) undef) l[j]) : XMap (Own N w.heap.size) w (.iface 193 vo) l ks := by
  have hlen := hown.1
  rcases hown.2 with ⟨rfl, h0⟩ | ⟨gb, cap, cur, rfl, hb, hg, hn, hcap, hsz, htake⟩
  · have : l = [] := List.eq_nil_of_length_eq_zero h0
    subst this
    exact ⟨none, 0, fun _ => undef, rfl, Nat.le_refl _, .inl rfl, fun i h => by simp at h⟩
  · refine ⟨_, cap, fun j => xs.getD (j * 2 + 1) undef, rfl, hn, .inr ⟨gb, 0, rfl, ⟨hb, (Array.getElem?_eq_some_iff.1 hg).1⟩, fun i hi => ⟨?_, ?_⟩⟩, fun i hi => (hX i hi).2⟩
    · rw [Nat.zero_add, hown.cellAt _ (by omega), ← (hX i hi).1]
      simp [List.getD_eq_getElem?_getD, show i * 2 < xs.length by omega]
    · rw [Nat.zero_add, hown.cellAt _ (by omega)]
      simp [List.getD_eq_getElem?_getD, show i * 2 + 1 < xs.length by omega]

theorem rise_cells {w : World} {N : Nat} {vo : Value} {n : Nat} {ks : List ByteArray} {xs : List Value} (hown : w.ownsRow N 198 2 vo n xs)
    (hX : ∀ j, j < n → xs.getD (j * 2) undef = .string (ks.getD j ⟨#[]⟩)) : ∃ a cap, vo = .slice a n cap ∧ n ≤ cap ∧ (n = 0 ∨ ∃ b off, a = some ⟨b, off, none⟩ ∧ ∀ i, i < n → w.cell? ⟨b, off + i * 2, none⟩ = some (.string (ks.getD i ⟨#[]⟩))) := by
  have hlen := hown.1
  rcases hown.2 with ⟨rfl, h0⟩ | ⟨gb, cap, cur, rfl, hb, hg, hn, hcap, hsz, htake⟩
  · subst h0
    exact ⟨none, 0, rfl, Nat.le_refl _, .inl rfl⟩
  · refine ⟨_, cap, rfl, hn, .inr ⟨gb, 0, rfl, fun i hi => ?_⟩⟩
    rw [Nat.zero_add, hown.cellAt _ (by omega), ← hX i hi]
    simp [List.getD_eq_getElem?_getD, show i * 2 < xs.length by omega]

theorem two_cells' (w : World) (a b : Value) (t : TypeId) : ∀ j u, ([a, b] : List Value)[j]? = some u → (w.alloc (.cells #[a, b] t)).cell? ((⟨w.heap.size, 0, none⟩ : Addr).add j) = some u := by
  intro j u hu
  have hadd : (⟨w.heap.size, 0, none⟩ : Addr).add j = ⟨w.heap.size, j, none⟩ := by unfold Addr.add; split <;> simp_all
  rw [hadd, blk_cell (heap_new w _) j]
  simpa using hu

set_option maxHeartbeats 4000000 in
set_option maxRecDepth 100000 in
theorem fields_step (k n : Int) (s : ByteArray) (l : List Tree) (ks : List ByteArray) (ih : ∀ U ∈ l, ValueC U) : FieldsC k n s l ks := by
  intro S v w d g c hv hB hct h0 h1 hd1 hd6 hw hkb
  obtain ⟨cv, u, rfl, hs, hk, hl, hu⟩ := hv.out
  clear hv
  obtain ⟨a, cap, rfl, hlm, hcp, ha⟩ := hl.at
  have hur := (hu.reads fun b h => (hB b h).1)
  obtain ⟨a', cap', rfl, hcp', hc'⟩ := reads_strs hur
  have hn := length_le_wtL l
  unfold maxLen at hlm
  have hgN := hct.lt
  have hkn : ks.length ≤ 1048576 := by unfold bulkS at hkb; omega
  by_cases hle : (ks.length : Int) = (l.length : Int)
  case neg =>
    have hf : fieldsB l ks d c = false := by
      have : (ks.length == l.length) = false := by simp; omega
      unfold fieldsB
      rw [this]; rfl
    have hle' : ¬ ks.length = l.length := by omega
    have HF : Hid (fieldsB l ks d c = false) := hf
    clear hf hc' ha
    go_enter Tryz.func276, Tryz.ntmps276
    go_wp2_with fail
    go_ret2
    exact ⟨_, c, by rw [HF.out]; rfl, hct.alloc _, galloc _ _ _, fun h => by rw [HF.out] at h; cases h⟩
  have hlen' : ks.length = l.length := by omega
  have HLn : Hid (ks.length = l.length) := hlen'
  rw [hlen']
  rw [hlen'] at hcp'
  have hk2 := hk.2
  have hsz20 : ∀ (q : Nat) (h : q < l.length), (ks.getD q ⟨#[]⟩).size ≤ 1048576 := fun q h => by
    have e : ks.getD q ⟨#[]⟩ = ks[q]'(by omega) := by simp [List.getD_eq_getElem?_getD, show q < ks.length by omega]
    rw [e]
    exact Nat.le_trans (size_le_bulk (List.getElem_mem _)) hkb
  have hkc : l = [] ∨ ∃ b off, a' = some ⟨b, off, none⟩ ∧ S b ∧ ∀ q, q < l.length → w.cell? ⟨b, off + q, none⟩ = some (.string (ks.getD q ⟨#[]⟩)) := by
    obtain ⟨a9, cap9, hv9, _, hx9⟩ := hu
    simp only [Value.slice.injEq] at hv9
    obtain ⟨rfl, _, _⟩ := hv9
    rcases hx9 with hx9 | ⟨b, off, ha9, hSb, hx9⟩
    · left
      have h1 : (strsV ks).length = 0 := by rw [hx9]; rfl
      rw [length_strsV] at h1
      exact List.eq_nil_of_length_eq_zero (by omega)
    · right
      refine ⟨b, off, ha9, hSb, fun q hq => ?_⟩
      rw [hx9 q (by simp; omega)]
      simp [strsV, List.getD_eq_getElem?_getD, show q < ks.length by omega]
  have hBx : ∀ b, S b → b < w.heap.size ∧ b ≠ g := hB
  clear hle hlen' hc' hur hu hk hk2
  obtain ⟨i0, hi, hz0, hz1, hz2⟩ := info_parts infoKv
  go_enter Tryz.func276, Tryz.ntmps276
  go_wp2_with fail
  obtain ⟨W, hW⟩ : ∃ W, W = w.alloc (.cells #[.int .i64 k, .int .i64 n, .string s, .slice a l.length cap, .slice a' l.length cap'] 56) := ⟨_, rfl⟩
  obtain ⟨_, _, _, x3, _⟩ := box5 (w := w) (t := 56) (c0 := .int .i64 k) (c1 := .int .i64 n) (c2 := .string s) (c3 := .slice a l.length cap) (c4 := .slice a' l.length cap') (w1 := W) (by rw [hW]; exact Below.refl _ _)
  have hsW : W.heap.size ≤ w.heap.size + 1 := by rw [hW]; simp
  have hsW2 : w.heap.size + 1 ≤ W.heap.size := by rw [hW]; simp
  have hgW : ∀ r, w.grownBy W r := fun r => by rw [hW]; exact galloc _ _ _
  have hctW : CtrAt W g c := by rw [hW]; exact hct.alloc _
  rw [← hW]
  clear hW hct
  go_loopw [8, 23] (fun v8 vi wr => ∃ (vo : Value) (i : Nat) (xs : List Value) (c' : Int), vo = v8 ∧ i ≤ l.length ∧ vi = .int .i64 (i : Int) ∧ wr.ownsRow W.heap.size 198 2 vo i xs ∧ CtrAt wr g c' ∧ W.grownBy wr (some g) ∧ 0 ≤ c' ∧ c' ≤ 80 ∧ Hid (goodL (l.take i) (d + 1) = true ∧ textsUpto ks i = true ∧ c' = c + (nodesL (l.take i) : Int) ∧ ∀ j (h : j < l.length), j < i → xs.getD (j * 2) undef = .string (ks.getD j ⟨#[]⟩) ∧ XLies (Off W.heap.size wr.heap.size vo.ownBlock) wr (xs.getD (j * 2 + 1) undef) l[j])) (fun _ vi _ => l.length - (intOf vi).toNat)
  case atStart => exact ⟨_, 0, [], c, rfl, Nat.zero_le _, rfl, World.ownsRow_nil _ _ _ _, hctW, ⟨rfl, rfl, rfl, Nat.le_refl _, fun _ _ _ => rfl⟩, h0, h1, ⟨by simp [goodL], rfl, by simp [nodesL], fun j h hj => by omega⟩⟩
  case round =>
    obtain ⟨vo, i, xs, c', rfl, hil, rfl, hown, hcr, hgr, hc0, hc1, hh⟩ := hrel
    have x3' : wr.cell? ⟨w.heap.size, 3, none⟩ = some (.slice a l.length cap) := (World.cell?_of_block (w := W) (hgr.block w.heap.size (by omega) (fun e => by simp at e; omega))).trans x3
    by_cases hlt : i < l.length
    · rcases ha with rfl | ⟨b, off, rfl, hlb, ha⟩
      · simp at hlt
      rcases hkc with rfl | ⟨kb, koff, rfl, hkS, hkc⟩
      · simp at hlt
      obtain ⟨y0, y1, y2, y3, y4, e0, e1, e2, e3, e4, hT⟩ := ha i hlt
      have hcellS : ∀ b, S b → wr.heap[b]? = w.heap[b]? := fun b hb => by
        rw [hgr.block b (by have := (hB b hb).1; omega) (fun e => (hB b hb).2 (by simpa using e)), (hgW none).block b (hB b hb).1 (by simp)]
      have hcell : ∀ b o, S b → wr.cell? ⟨b, o, none⟩ = w.cell? ⟨b, o, none⟩ := fun b o hb => World.cell?_of_block (w := w) (hcellS b hb)
      rw [← hcell _ _ hlb] at e0 e1 e2 e3 e4
      have ek := hkc i hlt
      rw [← hcell _ _ hkS] at ek
      have hkz := hsz20 i hlt
      have htx : textsUpto ks (i + 1) = (textsUpto ks i && textB (ks.getD i ⟨#[]⟩)) := by rw [textsUpto]
      obtain ⟨key, hkey⟩ : ∃ key, key = ks.getD i ⟨#[]⟩ := ⟨_, rfl⟩
      rw [← hkey] at ek hkz htx
      have ihk := ih _ (List.getElem_mem hlt)
      have hwt : (l[i]).wt ≤ 1048576 := by have := wt_le_wtL (List.getElem_mem hlt); omega
      have hn1 := nodesL_take_succ l i hlt
      have hg1 := goodL_take_succ l i (d + 1) hlt
      obtain ⟨U, hU⟩ : ∃ U, U = l[i] := ⟨_, rfl⟩
      rw [← hU] at hT ihk hn1 hg1 hwt
      have HN : Hid (nodesL (l.take (i + 1)) = nodesL (l.take i) + U.nodes ∧ goodL (l.take (i + 1)) (d + 1) = (goodL (l.take i) (d + 1) && U.good (d + 1)) ∧ U = l[i] ∧ key = ks.getD i ⟨#[]⟩ ∧ textsUpto ks (i + 1) = (textsUpto ks i && textB key)) := ⟨hn1, hg1, hU, hkey, htx⟩
      have hki : (i : Int) < (l.length : Int) := by omega
      obtain ⟨p1, p2, p3, p4, p5, p6, p7, p8, p9, hag⟩ := hT.parts
      have hag' := congrArg (fun v => v.cells.toList) hag
      simp [Value.cells] at hag'
      obtain ⟨rfl, rfl, rfl, rfl, rfl⟩ := hag'
      clear hag
      have hT' : Lies S wr _ U := hT.keep hcellS
      have hBr : ∀ b, S b → b < wr.heap.size ∧ b ≠ g := fun b h => ⟨by have := (hB b h).1; have := hgr.size; omega, (hB b h).2⟩
      have hcall := ihk S _ wr (d + 1) g c' hT' hBr hcr hc0 hc1 (by omega) (by omega) hwt
      rw [show (((d + 1 : Nat)) : Int) = (d : Int) + 1 by omega] at hcall
      obtain ⟨ok, hok⟩ : ∃ ok, ok = (U.good (d + 1) && decide (c' + (U.nodes : Int) ≤ 80)) := ⟨_, rfl⟩
      rw [← hok] at hcall
      have HOK : Hid (ok = (U.good (d + 1) && decide (c' + (U.nodes : Int) ≤ 80))) := hok
      have hle1 := nodesL_take_le l (i + 1)
      have hgt := fun h => goodL_take l (i + 1) (d + 1) h
      have HL : Hid (nodesL (l.take (i + 1)) ≤ nodesL l ∧ (goodL l (d + 1) = true → goodL (l.take (i + 1)) (d + 1) = true)) := ⟨hle1, hgt⟩
      have HTx : Hid (∀ w, Calls Tryz.prog 274 #[.string key] w fun e w' => e = .returned (.bool (textB key)) ∧ w = w') := fun w => implText_c key (by unfold maxLen; omega) w
      clear hle1 hgt ha ih hT hT' hn1 hg1 ihk hok hcell hcellS hkc hkey htx hsz20
      cases ok with
      | false =>
        go_wp2_with (go_at_call 255; refine hcall.mono ?_; rintro e w2 ⟨x, c1, rfl, ct2, g2, _⟩)
        go_ret2
        have hf : fieldsB l ks d c = false := by
          obtain ⟨hn1, hg1, _⟩ := HN.out
          obtain ⟨hl1, hl2⟩ := HL.out
          obtain ⟨q1, _, q2, _⟩ := hh.out
          have hk := HOK.out
          unfold fieldsB
          cases hgl : goodL l (d + 1) with
          | false => simp
          | true =>
            have := hl2 hgl
            rw [hg1] at this
            simp at this
            rw [this.2] at hk
            simp at hk ⊢
            intros
            omega
        exact ⟨_, c1, by rw [hf]; rfl, ct2, gtrans (hgW _) (gtrans hgr g2), fun h => by rw [hf] at h; cases h⟩
      | true =>
        have hk' : U.good (d + 1) = true ∧ c' + (U.nodes : Int) ≤ 80 := by
          have := HOK.out.symm
          simp at this
          exact this
        have HK : Hid (U.good (d + 1) = true ∧ c' + (U.nodes : Int) ≤ 80) := hk'
        clear hk' HOK
        cases htk : textB key with
        | false =>
          rw [htk] at HTx
          go_wp2_with (first
            | (go_at_call 255; refine hcall.mono ?_; rintro e w2 ⟨x, c1, rfl, ct2, g2, hx⟩)
            | (go_at_call 274; refine (HTx.out _).mono ?_; rintro e w' ⟨rfl, rfl⟩))
          go_ret2
          have hf : fieldsB l ks d c = false := by
            obtain ⟨hn1, hg1, _, _, htx⟩ := HN.out
            rw [htk, Bool.and_false] at htx
            have := texts_bad ks i htx ks.length (by rw [HLn.out]; omega)
            unfold fieldsB
            rw [keys_split, this]
            simp
          exact ⟨_, c1, by rw [hf]; rfl, ct2, gtrans (hgW _) (gtrans hgr g2), fun h => by rw [hf] at h; cases h⟩
        | true =>
          rw [htk] at HTx
          have hvb := hown.lt
          have HV : Hid (∀ k, vo.ownBlock = some k → W.heap.size ≤ k ∧ k < wr.heap.size) := hvb
          clear hvb
          have hile : i ≤ 1048576 := by omega
          go_wp2_with (first
            | (go_at_call 255; refine hcall.mono ?_; rintro e w2 ⟨x, c1, rfl, ct2, g2, hx⟩; obtain ⟨hx1, hx2⟩ := hx HK.out.1 HK.out.2; obtain ⟨xt, xv, rfl⟩ := hx2.iface; have hown2 := hown.kept g2 (by cases hb : vo.ownBlock with | none => exact .inl rfl | some k => right; have := HV.out k hb; simp; omega))
            | (go_at_call 274; refine (HTx.out _).mono ?_; rintro e w' ⟨rfl, rfl⟩)
            | (go_at_call 73; refine (clone2_c key _ hkz).mono ?_; rintro e w4 ⟨rfl, b4⟩; have hown4 := hown2.kept (grown_of_below b4 none) (by cases hv : vo.ownBlock <;> simp))
            | (at_builtin; refine wpList_append_block _ rfl _ _ 193 rfl W.heap.size 198 i0 _ 2 32 Tryz.underlying193 hi hz0 hz1 hz2 rfl (by decide) _ i xs rfl (hown4.alloc _) ⟨w4.heap.size, 0, none⟩ 1 1 [.string key, .iface xt xv] rfl rfl (two_cells' _ _ _ _) (fun u hu => by simp at hu; rcases hu with rfl | rfl <;> rfl) (by unfold maxLen; omega) (by omega) (by have h1 := hgr.size; have h2 := g2.size; have h3 := b4.size; simp; omega) (by decide) ?_))
          intro v3 w3 o3 g3 hb3
          go_wp2_with fail
          go_roundw
          case rel =>
            obtain ⟨hn1, hg1, hUi, hkey, htx⟩ := HN.out
            obtain ⟨q1, q4, q2, q3⟩ := hh.out
            have hlen := hown.1
            have z2 := g2.size
            have z4 := b4.size
            have sB : (w4.alloc (Obj.cells #[.string key, .iface xt xv] 198)).heap.size = w4.heap.size + 1 := by simp
            have z3 := g3.size
            rw [sB] at z3
            have hb5 : v3.ownBlock = vo.ownBlock ∨ v3.ownBlock = some (w4.heap.size + 1) := by first | exact hb3 | (rw [sB] at hb3; exact hb3)
            have hgz := hgr.size
            have g0 : wr.grownBy (w4.alloc (Obj.cells #[.string key, .iface xt xv] 198)) (some g) := gtrans g2 (gtrans (grown_of_below b4 _) (galloc _ _ _))
            have hgv : some g ≠ vo.ownBlock := fun e => by have := HV.out g e.symm; omega
            refine ⟨v3, i + 1, xs ++ [.string key, .iface xt xv], c1, rfl, by omega, by go_num, o3, ((ct2.keep b4).alloc _).grown g3 hgv, ?_, by omega, by have := HK.out.2; omega, ⟨by rw [hg1, q1, HK.out.1]; rfl, by rw [htx, q4, htk]; rfl, by rw [hx1, hn1, q2]; omega, fun j h hj => ?_⟩⟩
            · refine ⟨g3.os.trans (g0.os.trans hgr.os), g3.tape.trans (g0.tape.trans hgr.tape), g3.output.trans (g0.output.trans hgr.output), by omega, fun k hk hne => ?_⟩
              rw [g3.block k (by rw [sB]; omega) (fun e => by have := HV.out k e.symm; omega), g0.block k (by omega) hne, hgr.block k hk hne]
            · have hoff : ∀ b, W.heap.size ≤ b → b < w4.heap.size → some b ≠ vo.ownBlock → Off W.heap.size w3.heap.size v3.ownBlock b := fun b h1 h2 h3 => ⟨h1, by omega, fun e => by
                rcases hb5 with hb | hb
                · exact h3 (e.trans hb)
                · rw [hb] at e; simp at e; omega⟩
              by_cases hji : j = i
              · subst hji
                have ex0 : (xs ++ [Value.string key, Value.iface xt xv]).getD (j * 2) undef = .string key := by
                  rw [List.getD_eq_getElem?_getD, List.getElem?_append_right (by omega), show j * 2 - xs.length = 0 by omega]; rfl
                have ex : (xs ++ [Value.string key, Value.iface xt xv]).getD (j * 2 + 1) undef = .iface xt xv := by
                  rw [List.getD_eq_getElem?_getD, List.getElem?_append_right (by omega), show j * 2 + 1 - xs.length = 1 by omega]; rfl
                rw [ex0, ex, ← hUi, ← hkey]
                refine ⟨rfl, ?_⟩
                have hne : ∀ b, Own wr.heap.size w2.heap.size b → some b ≠ vo.ownBlock := fun b hb e => by have := HV.out b e.symm; have := hb.1; omega
                refine (hx2.keep fun b hb => ?_).mono fun b hb => hoff b (by have := hb.1; omega) (by have := hb.2; omega) (hne b hb)
                rw [g3.block b (by rw [sB]; have := hb.2; omega) (hne b hb), heap_old _ _ (by have := hb.2; omega), b4.block b hb.2]
              · have ex0 : (xs ++ [Value.string key, Value.iface xt xv]).getD (j * 2) undef = xs.getD (j * 2) undef := by
                  rw [List.getD_eq_getElem?_getD, List.getElem?_append_left (by omega), ← List.getD_eq_getElem?_getD]
                have ex : (xs ++ [Value.string key, Value.iface xt xv]).getD (j * 2 + 1) undef = xs.getD (j * 2 + 1) undef := by
                  rw [List.getD_eq_getElem?_getD, List.getElem?_append_left (by omega), ← List.getD_eq_getElem?_getD]
                rw [ex0, ex]
                refine ⟨(q3 j h (by omega)).1, ?_⟩
                refine ((q3 j h (by omega)).2.keep fun b hb => ?_).mono fun b hb => hoff b hb.1 (by have := hb.2.1; omega) hb.2.2
                rw [g3.block b (by rw [sB]; have := hb.2.1; omega) hb.2.2, g0.block b hb.2.1 (fun e => by simp at e; have := hb.1; omega)]
          case measure => simp [intOf]; omega
    · have he : i = l.length := by omega
      subst he
      obtain ⟨q1, q4, q2, q3⟩ := hh.out
      rw [List.take_length] at q1 q2
      obtain ⟨av, capv, rfl, hcv, hav⟩ := rise_cells hown fun j hj => (q3 j hj hj).1
      have hR : ∀ w5, Below wr.heap.size wr w5 → Calls Tryz.prog 289 #[.slice av l.length capv] wr fun e w' => e = .returned (.bool (riseUpto ks l.length)) ∧ Below wr.heap.size wr w' := fun _ _ => rising_c av l.length capv ks wr (by omega) hcv hav
      have HR : Hid (Calls Tryz.prog 289 #[.slice av l.length capv] wr fun e w' => e = .returned (.bool (riseUpto ks l.length)) ∧ Below wr.heap.size wr w') := hR wr (Below.refl _ _)
      have hf : fieldsB l ks d c = riseUpto ks l.length := by
        unfold fieldsB
        rw [q1, keys_split, HLn.out, q4]
        simp
        omega
      have HF : Hid (fieldsB l ks d c = riseUpto ks l.length) := hf
      have HQ : Hid (c' = c + (nodesL l : Int) ∧ XMap (Own W.heap.size wr.heap.size) wr (.iface 193 (.slice av l.length capv)) l ks) := ⟨q2, xmap_of hown fun j h => ⟨(q3 j h h).1, (q3 j h h).2.mono fun b hb => ⟨hb.1, hb.2.1⟩⟩⟩
      clear ha hkc hR hf q1 q2 q3 q4 hav hh
      go_wp2_with (go_at_call 289; refine HR.out.mono ?_; rintro e w5 ⟨rfl, b5⟩)
      go_ret2
      refine ⟨_, c', by rw [HF.out]; rfl, hcr.keep b5, gtrans (hgW _) (gtrans hgr (grown_of_below b5 _)), fun _ => ⟨HQ.out.1, ?_⟩⟩
      have hm := HQ.out.2
      obtain ⟨a9, cap9, X9, e9, h9, ha9, hX9⟩ := hm
      have hkp : KeptIn (Own W.heap.size wr.heap.size) wr w5 := Own.below b5
      have hmo : ∀ b, Own W.heap.size wr.heap.size b → Own w.heap.size w5.heap.size b := Own.mono (by omega) b5.size
      refine ⟨a9, cap9, X9, e9, h9, ?_, fun i h => ((hX9 i h).keep hkp).mono hmo⟩
      rcases ha9 with ha9 | ⟨b, off, ha9, hSb, hcc⟩
      · exact .inl ha9
      · exact .inr ⟨b, off, ha9, hmo b hSb, fun i h => ⟨(hkp.cell hSb _).trans (hcc i h).1, (hkp.cell hSb _).trans (hcc i h).2⟩⟩
end Go.Proofs.YtkkhnldhipfneaaGreatDoor
