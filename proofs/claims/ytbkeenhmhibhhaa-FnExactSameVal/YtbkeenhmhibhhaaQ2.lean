/-
  Contracts for the walks, several texts in one: each part says what it proves, and under which conditions.
-/
import Derived.Deep.RegionHeld
import Derived.BigQuiet
import Derived.Laws.AppendOwnNone
import Derived.WalkKit
import Derived.Test.YtbkeenhmhibhhaaQ1

/-! A value copied into memory of its own, as the law copies it, may be written, and no two of its rows are the same: a contract for what lies in memory and holds at most 2 to the 20. -/
namespace Go.Proofs.Ytbkeenhmhibhhaa
open Go.RowKit
set_option linter.unusedSimpArgs false
set_option linter.unusedVariables false

theorem ownL_mono {S S' : Nat → Prop} {w : World} {v : Value} {l : List Tree} (h : OwnL w S v l) (hs : ∀ b, S b → S' b) : OwnL w S' v l := by
  cases h with
  | mk S v l ys C U B K hrow hg hc hB hK hBB hBK hKK hC hU => exact .mk S' v l ys C U B K hrow (fun g h => ⟨hs _ (hg g h).1, (hg g h).2⟩) hc (fun i b h => hs b (hB i b h)) (fun i b h => hs b (hK i b h)) hBB hBK hKK hC hU
/-- The value x is T and may be written: its list lies in blocks from lo up to mid, its keys in one from mid up to hi. -/
def OwnT (lo mid hi : Nat) (w : World) (x : Value) (T : Tree) : Prop := ∃ c0 c1 c2 c u, x = .agg #[c0, c1, c2, c, u] ∧ OwnL w (Own lo mid) c T.kids ∧ ∃ xs, w.ownsRow 0 9 1 u T.keys.length xs ∧ ∀ g, u.ownBlock = some g → Own mid hi g
theorem OwnT.keep {lo mid hi : Nat} {w w' : World} {x : Value} {T : Tree} (h : OwnT lo mid hi w x T) (h1 : lo ≤ mid) (h2 : mid ≤ hi) (hk : KeptIn (Own lo hi) w w') : OwnT lo mid hi w' x T := by
  obtain ⟨c0, c1, c2, c, u, rfl, hl, xs, hu, hg⟩ := h
  exact ⟨c0, c1, c2, c, u, rfl, hl.keep (fun b hb => hk b ⟨hb.1, Nat.lt_of_lt_of_le hb.2 h2⟩), xs, owns_kept (S := Own mid hi) (fun b hb => hk b ⟨Nat.le_trans h1 hb.1, hb.2⟩) hg hu, hg⟩
def ToC2 (T : Tree) : Prop := ∀ (S : Nat → Prop) (v : Value) (w : World), Lies S w v T → (∀ b, S b → b < w.heap.size) → T.wt ≤ 1048576 →
  Calls Try.prog 6 #[v] w fun e w' => ∃ x mid, e = .returned x ∧ Lies (Own w.heap.size w'.heap.size) w' x T ∧ OwnT w.heap.size mid w'.heap.size w' x T ∧ w.heap.size ≤ mid ∧ mid ≤ w'.heap.size ∧ Below w.heap.size w w'
def ToLC2 (l : List Tree) : Prop := ∀ (S : Nat → Prop) (v : Value) (w : World), LiesL S w v l → (∀ b, S b → b < w.heap.size) → wtL l ≤ 1048576 →
  Calls Try.prog 12 #[v] w fun e w' => ∃ g, e = .returned (.slice (some ⟨g, 0, none⟩) l.length l.length) ∧ LiesL (Own w.heap.size w'.heap.size) w' (.slice (some ⟨g, 0, none⟩) l.length l.length) l ∧ OwnL w' (Own w.heap.size w'.heap.size) (.slice (some ⟨g, 0, none⟩) l.length l.length) l ∧ Below w.heap.size w w'

set_option maxHeartbeats 4000000 in
set_option maxRecDepth 100000 in
theorem toVal_step2 (k n : Int) (s : ByteArray) (l : List Tree) (ks : List ByteArray) (ih : ToLC2 l) : ToC2 (.mk k n s l ks) := by
  intro S v w hv hB hw
  rw [wt_mk] at hw
  obtain ⟨c, u, rfl, hs, hk, hl, hu⟩ := hv.out
  clear hv
  have hwl : wtL l ≤ 1048576 := by omega
  have hkn : ks.length ≤ 1099511627776 := by unfold bulkS at hw; omega
  have hb3 : ∀ A R O, Below w.heap.size w (((w.alloc A).alloc R).alloc O) := fun A R O => (((Below.refl _ _).alloc (Nat.le_refl _) _).alloc (by simp) _).alloc (by simp; omega) _
  have hlA : ∀ A R O, LiesL S (((w.alloc A).alloc R).alloc O) c l := fun A R O => hl.keep (.of (hb3 A R O) hB)
  have huA : ∀ w1, Below w.heap.size w w1 → Reads w1 u (strsV ks) := fun w1 h1 => (hu.keep (.of h1 hB)).reads (fun b h => Nat.lt_of_lt_of_le (hB b h) h1.size)
  have hBA : ∀ A R O b, S b → b < (((w.alloc A).alloc R).alloc O).heap.size := fun A R O b h => Nat.lt_of_lt_of_le (hB b h) (hb3 A R O).size
  go_enter Try.func6, Try.ntmps6
  go_wp2_with (first
    | (go_at_call 12; refine (ih S c _ (hlA _ _ _) (hBA _ _ _) hwl).mono ?_; rintro e w1 ⟨g, rfl, hL, hOL, hb1⟩; obtain ⟨hA, hR, hO⟩ := three hb1; have ca := blk_cell hA; have co := blk_cell hO; have fo := blk_frozen hO; have a4 := ca 4; have o3 := co 3; have f3 := fo 3; clear ca co fo; simp only [List.getElem?_toArray, List.getElem?_cons_succ, List.getElem?_cons_zero] at a4 o3)
    | (go_at_call 13; refine (toStrs_c u ks _ (huA _ (((hb3 _ _ _).trans (hb1.mono (by simp; omega))).setCell (by simp; omega) _)) hkn).mono ?_; rintro e w2 ⟨g2, rfl, hM, hb2⟩; obtain ⟨⟨p0, p1, p2, p3, p4⟩, ⟨q0, q1, q2, q3, q4⟩, fO, fR⟩ := toVal_facts hR hO hb2))
  have hz2 : ∀ a v, (w2.setCell a v).heap.size = w2.heap.size := fun a v => by simp [World.setCell]
  have s3 : ∀ A R O, (((w.alloc A).alloc R).alloc O).heap.size = w.heap.size + 1 + 1 + 1 := fun A R O => by simp
  rw [s3] at hb1 hL hOL
  have z1 : ∀ a v, (w1.setCell a v).heap.size = w1.heap.size := fun a v => by simp [World.setCell]
  have hN : w.heap.size + 1 + 1 + 1 ≤ w1.heap.size := by have := hb1.size; rw [s3] at this; exact this
  have hN2 : w1.heap.size ≤ w2.heap.size := by have := hb2.size; rw [z1] at this; exact this
  have k1 : KeptIn (Own (w.heap.size + 1 + 1 + 1) w1.heap.size) w1 w2 := (Own.set (by omega)).trans (.of hb2 fun b hb => by rw [z1]; exact hb.2)
  have hM' := readsB_of_owns hM
  rw [z1] at hM'
  have hu2 : ∀ g', (Value.slice (some ⟨g2, 0, none⟩) ks.length ks.length).ownBlock = some g' → Own w1.heap.size w2.heap.size g' := fun g' hg' => by
    have h9 := owns_in hM g' hg'
    exact ⟨by rw [z1] at h9; exact h9.1, h9.2⟩
  have hfin : ∀ W', KeptIn (Own (w.heap.size + 1 + 1 + 1) w2.heap.size) w2 W' → W'.heap.size = w2.heap.size → Lies (Own w.heap.size W'.heap.size) W' (.agg #[.int .i64 k, .int .i64 n, .string s, .slice (some ⟨g, 0, none⟩) l.length l.length, .slice (some ⟨g2, 0, none⟩) ks.length ks.length]) (.mk k n s l ks) ∧ OwnT w.heap.size w1.heap.size W'.heap.size W' (.agg #[.int .i64 k, .int .i64 n, .string s, .slice (some ⟨g, 0, none⟩) l.length l.length, .slice (some ⟨g2, 0, none⟩) ks.length ks.length]) (.mk k n s l ks) ∧ w1.heap.size ≤ W'.heap.size := fun W' kw sz => by
    refine ⟨?_, ?_, by omega⟩
    · refine Lies.mono (S := Own (w.heap.size + 1 + 1 + 1) w2.heap.size) (Own.mono (by omega) (by omega)) ?_
      exact Lies.keep (w := w2) kw (Lies.of hs hk ((hL.keep k1).mono (Own.mono (Nat.le_refl _) hN2)) (hM'.mono (Own.mono hN (Nat.le_refl _))))
    · refine ⟨_, _, _, _, _, rfl, ownL_mono (S := Own (w.heap.size + 1 + 1 + 1) w1.heap.size) ((hOL.keep k1).keep (fun b hb => kw b ⟨hb.1, Nat.lt_of_lt_of_le hb.2 hN2⟩)) (Own.mono (by omega) (Nat.le_refl _)), strsV ks, owns_kept (S := Own w1.heap.size w2.heap.size) (fun b hb => kw b ⟨Nat.le_trans hN hb.1, hb.2⟩) hu2 (owns_lo (Nat.zero_le _) hM), fun g' hg' => ⟨(hu2 g' hg').1, by have := (hu2 g' hg').2; omega⟩⟩
  have hfin2 := hfin
  clear hOL hL hM
  refine bodyPost_ret (v := .agg #[.int .i64 k, .int .i64 n, .string s, .slice (some ⟨g, 0, none⟩) l.length l.length, .slice (some ⟨g2, 0, none⟩) ks.length ks.length]) (by simp [results, Try.results6, go_sem, p0, p1, p2, p3, p4, q0, q1, q2, q3, q4]) rfl ⟨_, w1.heap.size, rfl, (hfin _ ?_ ?_).1, (hfin2 _ ?_ ?_).2.1, by omega, (hfin _ ?_ ?_).2.2, ?_⟩
  · refine KeptIn.trans (KeptIn.trans (KeptIn.trans (KeptIn.trans (KeptIn.trans (Own.set ?_) (Own.set ?_)) (Own.set ?_)) (Own.set ?_)) (Own.set ?_)) (Own.set ?_) <;> omega
  · simp [World.setCell]
  · refine KeptIn.trans (KeptIn.trans (KeptIn.trans (KeptIn.trans (KeptIn.trans (Own.set ?_) (Own.set ?_)) (Own.set ?_)) (Own.set ?_)) (Own.set ?_)) (Own.set ?_) <;> omega
  · simp [World.setCell]
  · refine KeptIn.trans (KeptIn.trans (KeptIn.trans (KeptIn.trans (KeptIn.trans (Own.set ?_) (Own.set ?_)) (Own.set ?_)) (Own.set ?_)) (Own.set ?_)) (Own.set ?_) <;> omega
  · simp [World.setCell]
  · have b1 := ((hb3 _ _ _).trans (hb1.mono (by omega)))
    have b2 := (b1.setCell (p := ⟨w.heap.size + 1 + 1, 3, none⟩) (by simp; omega) (.slice (some ⟨g, 0, none⟩) l.length l.length)).trans (hb2.mono (by rw [z1]; omega))
    refine Below.setCell (Below.setCell (Below.setCell (Below.setCell (Below.setCell (Below.setCell b2 ?_ _) ?_ _) ?_ _) ?_ _) ?_ _) ?_ _ <;> simp <;> omega

/-- Bounds of the blocks of k elements: one behind the other, from b on, below e. -/
def BndT (lo mid hi : Nat → Nat) (b e k : Nat) : Prop := (∀ i, i < k → b ≤ lo i ∧ lo i ≤ mid i ∧ mid i ≤ hi i ∧ hi i ≤ e) ∧ ∀ i j, i < j → j < k → hi i ≤ lo j
theorem BndT.step {lo mid hi : Nat → Nat} {b e e' m k : Nat} (h : BndT lo mid hi b e k) (hb : b ≤ e) (h1 : e ≤ m) (h2 : m ≤ e') : BndT (fun j => if j = k then e else lo j) (fun j => if j = k then m else mid j) (fun j => if j = k then e' else hi j) b e' (k + 1) := by
  refine ⟨fun i hi' => ?_, fun i j hij hj => ?_⟩
  · by_cases e1 : i = k
    · subst e1; simp only [if_pos]; omega
    · simp only [if_neg e1]
      obtain ⟨a1, a2, a3, a4⟩ := h.1 i (by omega)
      omega
  · have ei : i ≠ k := by omega
    simp only [if_neg ei]
    by_cases e1 : j = k
    · subst e1
      simp only [if_pos]
      exact (h.1 i (by omega)).2.2.2
    · simp only [if_neg e1]
      exact h.2 i j hij (by omega)
theorem ownL_rows {w : World} {g b : Nat} {ys : List Value} {l : List Tree} {lo mid hi : Nat → Nat} (hg : w.ownsRow b 30 5 (.slice (some ⟨g, 0, none⟩) l.length l.length) l.length ys) (hgb : g = b)
    (hb : BndT lo mid hi (b + 1) w.heap.size l.length) (ho : ∀ i (h : i < l.length), i < l.length → OwnT (lo i) (mid i) (hi i) w (cellsAt ys i) l[i]) :
    OwnL w (Own b w.heap.size) (.slice (some ⟨g, 0, none⟩) l.length l.length) l := by
  subst hgb
  have hlen := hg.1
  have hat : ∀ i, i < l.length → ∀ j, j < 5 → ys[i * 5 + j]? = some (ys.getD (i * 5 + j) undef) := fun i hi j hj => by
    rw [List.getElem?_eq_getElem (by omega)]
    simp [List.getD_eq_getElem?_getD, show i * 5 + j < ys.length by omega]
  have hsep : ∀ i j, i < l.length → j < l.length → i ≠ j → ∀ x, lo i ≤ x → x < hi i → lo j ≤ x → x < hi j → False := fun i j hi' hj' hij x h1 h2 h3 h4 => by
    rcases Nat.lt_or_gt_of_ne hij with h | h
    · have := hb.2 i j h hj'; omega
    · have := hb.2 j i h hi'; omega
  refine .mk _ _ l ys (fun i => ys.getD (i * 5 + 3) undef) (fun i => ys.getD (i * 5 + 4) undef) (fun i b => i < l.length ∧ Own (lo i) (mid i) b) (fun i b => i < l.length ∧ Own (mid i) (hi i) b) (owns_lo (Nat.zero_le _) hg) (fun g' hg' => ?_) (fun i hi' => ?_) (fun i b h => ?_) (fun i b h => ?_) (fun i j b hij h k => ?_) (fun i j b h k => ?_) (fun i j b hij h k => ?_) (fun i h => ?_) (fun i h => ?_)
  · obtain rfl : g = g' := Option.some.inj hg'
    refine ⟨⟨Nat.le_refl _, (hg.lt g rfl).2⟩, fun i => ⟨fun h => ?_, fun h => ?_⟩⟩
    · have h1 := hb.1 i h.1; have h2 := h.2.1; omega
    · have h1 := hb.1 i h.1; have h2 := h.2.1; omega
  · have h0 := hat i hi' 0 (by omega)
    rw [Nat.add_zero] at h0
    exact ⟨⟨_, _, _, h0, hat i hi' 1 (by omega), hat i hi' 2 (by omega)⟩, hat i hi' 3 (by omega), hat i hi' 4 (by omega)⟩
  · have h1 := hb.1 i h.1; exact ⟨by have := h.2.1; omega, by have := h.2.2; omega⟩
  · have h1 := hb.1 i h.1; exact ⟨by have := h.2.1; omega, by have := h.2.2; omega⟩
  · have h1 := hb.1 i h.1; have h2 := hb.1 j k.1
    exact hsep i j h.1 k.1 hij b h.2.1 (by have := h.2.2; omega) k.2.1 (by have := k.2.2; omega)
  · have h1 := hb.1 i h.1; have h2 := hb.1 j k.1
    by_cases hij : i = j
    · subst hij; have := h.2.2; have := k.2.1; omega
    · exact hsep i j h.1 k.1 hij b h.2.1 (by have := h.2.2; omega) (by have := k.2.1; omega) k.2.2
  · have h1 := hb.1 i h.1; have h2 := hb.1 j k.1
    exact hsep i j h.1 k.1 hij b (by have := h.2.1; omega) h.2.2 (by have := k.2.1; omega) k.2.2
  · obtain ⟨c0, c1, c2, c, u, he, hl, _⟩ := ho i h h
    simp only [cellsAt, Value.agg.injEq, Array.mk.injEq, List.cons.injEq, and_true] at he
    rw [he.2.2.2.1]
    exact ownL_mono hl (fun b hb => ⟨h, hb⟩)
  · obtain ⟨c0, c1, c2, c, u, he, _, xs, hu, hg9⟩ := ho i h h
    simp only [cellsAt, Value.agg.injEq, Array.mk.injEq, List.cons.injEq, and_true] at he
    rw [he.2.2.2.2]
    exact ⟨xs, hu, fun g' hg' => ⟨h, hg9 g' hg'⟩⟩

set_option maxHeartbeats 4000000 in
set_option maxRecDepth 100000 in
theorem toValS_step2 (l : List Tree) (ih : ∀ U ∈ l, ToC2 U) : ToLC2 l := by
  intro S v w hv hB hw
  obtain ⟨a, cap, rfl, hl, hc, ha⟩ := hv.at
  have hn := length_le_wtL l
  have hlm : l.length ≤ maxLen := hl
  unfold maxLen at hl
  obtain ⟨i0, hi, hz0, hz1, hz2⟩ := info_parts infoVal
  go_enter Try.func12, Try.ntmps12
  go_wp2_with (first
    | (at_make; refine wpList_make_full _ rfl _ _ 28 rfl w.heap.size 30 i0 _ 5 Try.underlying28 hi hz0 hz1 _ _ _ _ l.length rfl rfl rfl rfl (by rw [hz2]; omega) (by unfold maxLen; omega) (Nat.le_refl _) ?_))
  intro w1 hown hgrow
  have hb1 := below_of_grown hgrow
  have hs1 : w.heap.size + 1 ≤ w1.heap.size := by
    rcases hown.2 with ⟨h, _⟩ | ⟨g, cap, cur, h, _, hg, _⟩
    · simp at h
    · simp at h
      have := (Array.getElem?_eq_some_iff.1 hg).1
      omega
  obtain ⟨ys1, hown1⟩ : ∃ ys, w1.ownsRow w.heap.size 30 5 (.slice (some ⟨w.heap.size, 0, none⟩) l.length l.length) l.length ys := ⟨_, hown⟩
  clear hgrow hown
  go_wp2_with fail
  go_loopw [4] (fun vi wr => ∃ (k : Nat) (ys : List Value), k ≤ l.length ∧ vi = .int .i64 (k : Int) ∧ wr.ownsRow w.heap.size 30 5 (.slice (some ⟨w.heap.size, 0, none⟩) l.length l.length) l.length ys ∧ Hid (∀ i (h : i < l.length), i < k → Lies (Own (w.heap.size + 1) wr.heap.size) wr (cellsAt ys i) l[i]) ∧ (∃ lo mid hi : Nat → Nat, Hid (BndT lo mid hi (w.heap.size + 1) wr.heap.size k) ∧ Hid (∀ i (h : i < l.length), i < k → OwnT (lo i) (mid i) (hi i) wr (cellsAt ys i) l[i])) ∧ Below w.heap.size w wr ∧ w.heap.size + 1 ≤ wr.heap.size) (fun vi _ => l.length - (intOf vi).toNat)
  case atStart => exact ⟨0, ys1, Nat.zero_le _, rfl, hown1, (fun i h h0 => by omega), ⟨fun _ => 0, fun _ => 0, fun _ => 0, ⟨fun i h => by omega, fun i j h1 h2 => by omega⟩, fun i h h0 => by omega⟩, hb1, hs1⟩
  case round =>
    obtain ⟨k, ys, hk, rfl, hownr, hy, ⟨lo, mid, hi9, hbd, hot⟩, hbr, hsr⟩ := hrel
    by_cases hlt' : k < l.length
    · rcases ha with rfl | ⟨b, off, rfl, hlt, ha⟩
      · simp at hlt'
      obtain ⟨c0, c1, c2, c3, c4, e0, e1, e2, e3, e4, hT⟩ := ha k hlt'
      have hlt2 : b < w.heap.size := hB b hlt
      rw [← hbr.cell (by simpa using hlt2)] at e0 e1 e2 e3 e4
      have ihk := ih _ (List.getElem_mem hlt')
      have hwt : (l[k]).wt ≤ 1048576 := by have := wt_le_wtL (List.getElem_mem hlt'); omega
      obtain ⟨U, hU⟩ : ∃ U, U = l[k] := ⟨_, rfl⟩
      rw [← hU] at hT ihk hwt
      have HU : Hid (U = l[k]) := hU
      have hki : (k : Int) < (l.length : Int) := by omega
      have hT' := hT.keep (.of hbr hB)
      have hBr : ∀ b, S b → b < wr.heap.size := fun b h => Nat.lt_of_lt_of_le (hB b h) hbr.size
      have hown2 : ∀ w2, Below wr.heap.size wr w2 → w2.ownsRow w.heap.size 30 5 (.slice (some ⟨w.heap.size, 0, none⟩) l.length l.length) l.length ys := fun w2 h2 => hownr.kept (grown_of_below h2 none) (by simp [Value.ownBlock])
      have hlen := hownr.1
      have hcl : ∀ w2, Below wr.heap.size wr w2 → ∀ j, j < 5 → ∃ x, w2.cell? ⟨w.heap.size, k * 5 + j, none⟩ = some x := fun w2 h2 j hj => ⟨ys.getD (k * 5 + j) undef, by rw [(hown2 w2 h2).cellAt _ (by omega)]; simp [List.getD_eq_getElem?_getD, show k * 5 + j < ys.length by omega]⟩
      have hfr : ∀ w2, Below wr.heap.size wr w2 → ∀ j, w2.frozen? ⟨w.heap.size, j, none⟩ = false := fun w2 h2 j => (hown2 w2 h2).frozenAt j
      have HC : Hid (∀ w2, Below wr.heap.size wr w2 → ∀ j, j < 5 → ∃ x, w2.cell? ⟨w.heap.size, k * 5 + j, none⟩ = some x) := hcl
      have HF : Hid (∀ w2, Below wr.heap.size wr w2 → ∀ j, w2.frozen? ⟨w.heap.size, j, none⟩ = false) := hfr
      have HO : Hid (∀ w2, Below wr.heap.size wr w2 → w2.ownsRow w.heap.size 30 5 (.slice (some ⟨w.heap.size, 0, none⟩) l.length l.length) l.length ys) := hown2
      clear ha ih hU hT hv hcl hfr hown2 hi hz0 hz1 hz2 hown1 hb1
      go_wp2_with (go_at_call 6; refine (ihk S _ _ hT' hBr hwt).mono ?_; rintro e w2 ⟨x, mid9, rfl, hX, hT9, hm1, hm2, hb2⟩; obtain ⟨k9, n9, s9, a9, m9, q9, a8, m8, q8, rfl⟩ := hX.parts; have HTT := hidden hT9; clear hT9; obtain ⟨y0, d0⟩ := HC.out w2 hb2 0 (by omega); obtain ⟨y1, d1⟩ := HC.out w2 hb2 1 (by omega); obtain ⟨y2, d2⟩ := HC.out w2 hb2 2 (by omega); obtain ⟨y3, d3⟩ := HC.out w2 hb2 3 (by omega); obtain ⟨y4, d4⟩ := HC.out w2 hb2 4 (by omega); rw [Nat.add_zero] at d0; have f9 := HF.out w2 hb2)
      go_roundw
      case rel =>
        have hz : ∀ c0 c1 c2 c3 c4 : Value, (((((w2.setCell ⟨w.heap.size, k * 5, none⟩ c0).setCell ⟨w.heap.size, k * 5 + 1, none⟩ c1).setCell ⟨w.heap.size, k * 5 + 2, none⟩ c2).setCell ⟨w.heap.size, k * 5 + 3, none⟩ c3).setCell ⟨w.heap.size, k * 5 + 4, none⟩ c4).heap.size = w2.heap.size := fun _ _ _ _ _ => by simp [World.setCell]
        have hk5 : ∀ c0 c1 c2 c3 c4 : Value, KeptIn (Own (w.heap.size + 1) w2.heap.size) w2 (((((w2.setCell ⟨w.heap.size, k * 5, none⟩ c0).setCell ⟨w.heap.size, k * 5 + 1, none⟩ c1).setCell ⟨w.heap.size, k * 5 + 2, none⟩ c2).setCell ⟨w.heap.size, k * 5 + 3, none⟩ c3).setCell ⟨w.heap.size, k * 5 + 4, none⟩ c4) := fun _ _ _ _ _ => by
          refine KeptIn.trans (KeptIn.trans (KeptIn.trans (KeptIn.trans (Own.set ?_) (Own.set ?_)) (Own.set ?_)) (Own.set ?_)) (Own.set ?_) <;> omega
        refine ⟨k + 1, set5 ys k (.int .i64 k9) (.int .i64 n9) (.string s9) (.slice a9 m9 q9) (.slice a8 m8 q8), by omega, by go_num, (((((HO.out w2 hb2).stored (k * 5) _).1.stored (k * 5 + 1) _).1.stored (k * 5 + 2) _).1.stored (k * 5 + 3) _).1.stored (k * 5 + 4) _ |>.1, fun i h h1 => ?_, ⟨fun j => if j = k then wr.heap.size else lo j, fun j => if j = k then mid9 else mid j, fun j => if j = k then w2.heap.size else hi9 j, ?_, fun i h h1 => ?_⟩, ?_, ?_⟩
        · rw [hz]
          refine Lies.keep (hk5 _ _ _ _ _) ?_
          by_cases hik : i = k
          · subst hik
            rw [cellsAt_same _ _ _ _ _ _ _ (by omega), ← HU.out]
            exact hX.mono (Own.mono (by omega) (Nat.le_refl _))
          · rw [cellsAt_other _ _ _ _ _ _ _ _ (by omega)]
            exact ((hy.out i h (by omega)).keep (Own.below hb2)).mono (Own.mono (Nat.le_refl _) hb2.size)
        · rw [hz]
          exact hbd.out.step hsr hm1 hm2
        · dsimp only
          by_cases hik : i = k
          · subst hik
            rw [if_pos rfl, if_pos rfl, if_pos rfl, cellsAt_same _ _ _ _ _ _ _ (by omega), ← HU.out]
            exact HTT.out.keep hm1 hm2 (fun b hb => hk5 _ _ _ _ _ b ⟨by have := hb.1; omega, hb.2⟩)
          · rw [if_neg hik, if_neg hik, if_neg hik, cellsAt_other _ _ _ _ _ _ _ _ (by omega)]
            obtain ⟨q1, q2, q3, q4⟩ := hbd.out.1 i (by omega)
            have hot1 := (hot.out i h (by omega)).keep q2 q3 (w' := w2) (fun b hb => hb2.block b (by have := hb.2; omega))
            exact hot1.keep q2 q3 (fun b hb => hk5 _ _ _ _ _ b ⟨by have := hb.1; omega, by have := hb.2; have := hb2.size; omega⟩)
        · have b2 := hbr.trans (hb2.mono (by omega))
          refine Below.setCell (Below.setCell (Below.setCell (Below.setCell (Below.setCell b2 ?_ _) ?_ _) ?_ _) ?_ _) ?_ _ <;> simp
        · rw [hz]; have := hb2.size; omega
      case measure => simp [intOf]; omega
    · have he : k = l.length := by omega
      subst he
      clear ha
      have HOT := hidden hot.out
      go_wp2_with fail
      go_ret
      refine ⟨_, rfl, ?_, ownL_rows hownr rfl hbd.out HOT.out, hbr⟩
      exact liesL_of_owns hownr rfl hlm (Nat.le_refl _) fun i h => (hy.out i h h).mono (Own.mono (by omega) (Nat.le_refl _))

theorem toVal_own : ∀ T, ToC2 T := by
  refine Tree.ind ?_
  intro k n s l ks ih
  exact toVal_step2 k n s l ks (toValS_step2 l ih)
end Go.Proofs.Ytbkeenhmhibhhaa

/-! Trees of values by the places where they lie, and what it means that a search of pairs of places ends well; pure facts on memory, no condition but those told. -/
namespace Go.Proofs.Ytbkeenhmhibhhaa
open Go.RowKit
set_option linter.unusedSimpArgs false
set_option linter.unusedVariables false

/-- At this place lies this tree: its cells, its list in a plain block of its own, its keys. -/
inductive PtT (W : World) : Nat → Nat → Tree → Prop
  | mk (b o : Nat) (k n : Int) (s : ByteArray) (l : List Tree) (ks : List ByteArray) (c u : Value) (hp : PlB W b)
      (h0 : W.cell? ⟨b, o, none⟩ = some (.int .i64 k)) (h1 : W.cell? ⟨b, o + 1, none⟩ = some (.int .i64 n)) (h2 : W.cell? ⟨b, o + 2, none⟩ = some (.string s)) (h3 : W.cell? ⟨b, o + 3, none⟩ = some c) (h4 : W.cell? ⟨b, o + 4, none⟩ = some u)
      (hs : s.size ≤ maxLen) (hm : l.length ≤ maxLen) (hk : Reads W u (strsV ks) ∧ saneS ks)
      (g : Nat) (a : Option Addr) (cap : Nat) (hc : c = .slice a l.length cap) (hcap : l.length ≤ cap) (ha : l = [] ∨ a = some ⟨g, 0, none⟩) (hg : ∀ i (h : i < l.length), PtT W g (i * 5) l[i]) : PtT W b o (.mk k n s l ks)
theorem PtT.pl {W : World} {b o : Nat} {T : Tree} (h : PtT W b o T) : PlB W b := by
  cases h with
  | mk b o k n s l ks c u hp => exact hp
theorem PlB.below {W W' : World} {b : Nat} (h : PlB W b) (k : Below W.heap.size W W') : PlB W' b := by
  obtain ⟨cs, t, h⟩ := h
  exact ⟨cs, t, (k.block _ (Array.getElem?_eq_some_iff.1 h).1).trans h⟩
theorem PtT.on {W W' : World} (k : Below W.heap.size W W') {b o : Nat} {T : Tree} (h : PtT W b o T) : PtT W' b o T := by
  induction h with
  | mk b o k' n s l ks c u hp h0 h1 h2 h3 h4 hs hm hk g a cap hc hcap ha hg ih =>
    obtain ⟨cs, t, hb⟩ := id hp
    have hlt := (Array.getElem?_eq_some_iff.1 hb).1
    refine .mk b o k' n s l ks c u (hp.below k) ((k.cell (by simpa using hlt)).trans h0) ((k.cell (by simpa using hlt)).trans h1) ((k.cell (by simpa using hlt)).trans h2) ((k.cell (by simpa using hlt)).trans h3) ((k.cell (by simpa using hlt)).trans h4) hs hm ⟨hk.1.below k, hk.2⟩ g a cap hc hcap ha ih
theorem strs_det {W : World} {u : Value} {ks ks' : List ByteArray} (h : Reads W u (strsV ks)) (h' : Reads W u (strsV ks')) : ks = ks' := by
  obtain ⟨a, cap, e1, _, c1⟩ := h
  obtain ⟨a', cap', e2, _, c2⟩ := h'
  rw [e1] at e2
  rw [length_strsV, length_strsV] at e2
  obtain ⟨rfl, hl, rfl⟩ := Value.slice.inj e2
  apply List.ext_getElem hl
  intro i h1 h2
  rcases c1 with c1 | ⟨b, off, rfl, _, c1⟩
  · have : ks.length = 0 := by rw [← length_strsV, c1]; rfl
    omega
  · rcases c2 with c2 | ⟨b', off', e3, _, c2⟩
    · have : ks'.length = 0 := by rw [← length_strsV, c2]; rfl
      omega
    · obtain ⟨rfl, rfl⟩ : b = b' ∧ off = off' := by injection e3 with e3; injection e3 with e4 e5; exact ⟨e4, e5⟩
      have x1 := c1 i (by rw [length_strsV]; exact h1)
      have x2 := c2 i (by rw [length_strsV]; exact h2)
      rw [x1] at x2
      simp only [strsV, List.getElem_map, Option.some.injEq, Value.string.injEq] at x2
      exact x2
theorem PtT.det {W : World} {b o : Nat} {T : Tree} (h : PtT W b o T) : ∀ {T' : Tree}, PtT W b o T' → T = T' := by
  induction h with
  | mk b o k n s l ks c u hp h0 h1 h2 h3 h4 hs hm hk g a cap hc hcap ha hg ih =>
    intro T' h'
    cases h' with
    | mk _ _ k' n' s' l' ks' c' u' hp' h0' h1' h2' h3' h4' hs' hm' hk' g1 a' cap' hc' hcap' ha' hg' =>
      have e0 := h0.symm.trans h0'
      have e1 := h1.symm.trans h1'
      have e2 := h2.symm.trans h2'
      have e3 := h3.symm.trans h3'
      have e4 := h4.symm.trans h4'
      simp only [Option.some.injEq, Value.int.injEq, true_and, Value.string.injEq] at e0 e1 e2 e3 e4
      subst e0 e1 e2 e3 e4
      rw [hc] at hc'
      obtain ⟨hgg, hll, _⟩ := Value.slice.inj hc'
      have hkk := strs_det hk.1 hk'.1
      subst hkk
      have hl : l = l' := by
        apply List.ext_getElem hll
        intro i hi hi'
        obtain rfl : g = g1 := by
          rcases ha with ha | ha
          · rw [ha] at hi; simp at hi
          · rcases ha' with ha' | ha'
            · rw [ha'] at hi'; simp at hi'
            · rw [ha, ha'] at hgg
              injection hgg with hgg
              injection hgg
        exact ih i hi (hg' i hi')
      subst hl
      rfl
/-- Two trees are alike at their tops. -/
def topB : Tree → Tree → Bool
  | .mk k n s l ks, .mk k' n' s' l' ks' => decide (k = k') && (decide (n = n') && (decide (s = s') && (decide (l.length = l'.length) && decide (ks = ks'))))
mutual
/-- How many values a tree has. -/
def Tree.tn : Tree → Nat
  | .mk _ _ _ l _ => 1 + tnL l
def tnL : List Tree → Nat
  | [] => 0
  | t :: r => t.tn + tnL r
end
theorem tnL_append (a b : List Tree) : tnL (a ++ b) = tnL a + tnL b := by
  induction a with
  | nil => simp [tnL]
  | cons t r ih => simp only [List.cons_append, tnL, ih]; omega
theorem tn_pos (T : Tree) : 1 ≤ T.tn := by cases T; rw [Tree.tn]; omega
theorem tn_kids (T : Tree) : T.tn = 1 + tnL T.kids := by cases T; rw [Tree.tn]; rfl
theorem tnL_take (l : List Tree) (k : Nat) (h : k < l.length) : tnL (l.take (k + 1)) = tnL (l.take k) + l[k].tn := by
  rw [List.take_succ_eq_append_getElem h, tnL_append]; simp [tnL]
theorem tnL_take_le (l : List Tree) (k : Nat) : tnL (l.take k) ≤ tnL l := by
  conv => rhs; rw [← List.take_append_drop k l, tnL_append]
  omega
theorem tn_mem {l : List Tree} {U : Tree} (h : U ∈ l) : U.tn ≤ tnL l := by
  induction l with
  | nil => cases h
  | cons t r ih =>
    simp only [tnL]
    rcases List.mem_cons.1 h with rfl | h
    · omega
    · have := ih h; omega
/-- A pair of places, and the trees that lie there. -/
structure PE where
  b : Nat
  o : Nat
  c : Nat
  q : Nat
  s : Tree
  t : Tree
def PE.key (e : PE) : Addr × Addr := (⟨e.b, e.o, none⟩, ⟨e.c, e.q, none⟩)
def PE.ok (W : World) (e : PE) : Prop := PtT W e.b e.o e.s ∧ PtT W e.c e.q e.t
/-- The pairs of the children of e: those below k. -/
def kidsOf (W : World) (e : PE) (k : Nat) (L : List PE) : Prop := ∀ i (h : i < e.s.kids.length) (h' : i < e.t.kids.length), i < k → ∃ e' ∈ L, e'.s = e.s.kids[i] ∧ e'.t = e.t.kids[i]
theorem all_alike {W : World} {L : List PE} (h1 : ∀ e ∈ L, topB e.s e.t = true) (h2 : ∀ e ∈ L, kidsOf W e e.s.kids.length L) : ∀ (n : Nat) (e : PE), e ∈ L → e.s.tn ≤ n → e.s = e.t
  | 0, e, _, hn => by have := tn_pos e.s; omega
  | n + 1, e, he, hn => by
    have ht := h1 e he
    have hk := h2 e he
    rcases e with ⟨b, o, c, q, s, t⟩
    cases s with
    | mk k n0 s l ks =>
    cases t with
    | mk k' n0' s' l' ks' =>
    simp only [topB, Bool.and_eq_true, decide_eq_true_eq] at ht
    obtain ⟨rfl, rfl, rfl, hll, rfl⟩ := ht
    have hl : l = l' := by
      apply List.ext_getElem hll
      intro i hi hi'
      obtain ⟨e', he', e1, e2⟩ := hk i hi hi' hi
      have e1' : e'.s = l[i] := e1
      have e2' : e'.t = l'[i] := e2
      have h3 := all_alike h1 h2 n e' he' (by
        rw [e1']
        have h4 := tn_mem (List.getElem_mem hi)
        have h5 : (Tree.mk k n0 s l ks).tn = 1 + tnL l := by rw [Tree.tn]
        have h6 : (Tree.mk k n0 s l ks).tn ≤ n + 1 := hn
        omega)
      rw [← e1', ← e2', h3]
    subst hl
    rfl
theorem top_refl (T : Tree) : topB T T = true := by cases T; simp [topB]
theorem kid_alike {s t : Tree} (h : s = t) (i : Nat) (h1 : i < s.kids.length) (h2 : i < t.kids.length) : s.kids[i] = t.kids[i] := by subst h; rfl
end Go.Proofs.Ytbkeenhmhibhhaa

/-! Whether two values are alike at their tops, as the program asks it, and whether they are alike, as the specification asks it: contracts for the walks; conditions: they lie in memory, and hold at most 2 to the 20. -/
namespace Go.Proofs.Ytbkeenhmhibhhaa
open Go.RowKit
set_option linter.unusedSimpArgs false
set_option linter.unusedVariables false

set_option maxHeartbeats 2000000 in
set_option maxRecDepth 100000 in
theorem sameTextsH_c (v u : Value) (ss ts : List ByteArray) (w : World) (hv : Reads w v (strsV ss)) (hu : Reads w u (strsV ts)) (hn : ss.length ≤ 1099511627776) :
    Calls Try.prog 11 #[v, u] w fun e w' => e = .returned (.bool (decide (ss = ts))) ∧ Below w.heap.size w w' := by
  obtain ⟨a, cap, rfl, _, hc⟩ := reads_strs hv
  obtain ⟨a2, cap2, rfl, _, hc2⟩ := reads_strs hu
  clear hv hu
  by_cases hl : ss.length = ts.length
  · rcases hc with rfl | ⟨b, off, rfl, hlt, hc⟩
    · have : ts = [] := List.eq_nil_of_length_eq_zero (by simpa using hl.symm)
      subst this
      go_enter Try.func11, Try.ntmps11
      go_wp2
      go_loopw [5] (fun vi wr => vi = .int .i64 0 ∧ wr = w) (fun _ _ => 0)
      case atStart => exact ⟨rfl, rfl⟩
      case round =>
        obtain ⟨rfl, rfl⟩ := hrel
        go_wp2
        go_ret
        exact ⟨rfl, Below.refl _ _⟩
    rcases hc2 with rfl | ⟨b2, off2, rfl, hlt2, hc2⟩
    · have : ss = [] := List.eq_nil_of_length_eq_zero (by simpa using hl)
      subst this
      go_enter Try.func11, Try.ntmps11
      go_wp2
      go_loopw [5] (fun vi wr => vi = .int .i64 0 ∧ wr = w) (fun _ _ => 0)
      case atStart => exact ⟨rfl, rfl⟩
      case round =>
        obtain ⟨rfl, rfl⟩ := hrel
        go_wp2
        go_ret
        exact ⟨rfl, Below.refl _ _⟩
    · have HL : Hid (ss.length = ts.length) := hl
      have hc2' : ∀ k (h : k < ts.length), w.cell? ⟨b2, off2 + k, none⟩ = some (.string ts[k]) := hc2
      have HC2 : Hid (∀ k (h : k < ts.length), w.cell? ⟨b2, off2 + k, none⟩ = some (.string ts[k])) := hc2'
      rw [← hl]
      clear hl hc2 hc2'
      go_enter Try.func11, Try.ntmps11
      go_wp2
      go_loopw [5] (fun vi wr => ∃ k : Nat, k ≤ ss.length ∧ vi = .int .i64 (k : Int) ∧ Hid (∀ j (h1 : j < ss.length) (h2 : j < ts.length), j < k → ss[j] = ts[j]) ∧ Below w.heap.size w wr) (fun vi _ => ss.length - (intOf vi).toNat)
      case atStart => exact ⟨0, Nat.zero_le _, rfl, fun j h1 h2 hj => by omega, Below.refl _ _⟩
      case round =>
        obtain ⟨k, hk, rfl, hy, hbr⟩ := hrel
        by_cases hlt' : k < ss.length
        · have hlt2' : k < ts.length := by have := HL.out; omega
          have hcx : wr.cell? ⟨b, off + k, none⟩ = some (.string ss[k]) := (hbr.cell (p := ⟨b, off + k, none⟩) hlt).trans (hc k hlt')
          have hcy : wr.cell? ⟨b2, off2 + k, none⟩ = some (.string ts[k]) := (hbr.cell (p := ⟨b2, off2 + k, none⟩) hlt2).trans (HC2.out k hlt2')
          obtain ⟨x, hx⟩ : ∃ x, x = ss[k] := ⟨_, rfl⟩
          obtain ⟨y, hy'⟩ : ∃ y, y = ts[k] := ⟨_, rfl⟩
          rw [← hx] at hcx
          rw [← hy'] at hcy
          have HX : Hid (x = ss[k]) := hx
          have HY : Hid (y = ts[k]) := hy'
          have hki : (k : Int) < (ss.length : Int) := by omega
          clear hc hx hy'
          go_wp2
          go_quiet (fail)
          go_wp2
          · have hne : (!x.toList == y.toList) = true := by assumption
            have hne' : ¬ ss = ts := fun e => by
              have e1 := HX.out; have e2 := HY.out; subst e; rw [← e2] at e1; subst e1; simp at hne
            go_ret
            exact ⟨by simp [hne'], below_drewN' hbr _⟩
          · have he : (!x.toList == y.toList) = false := by assumption
            have he' : x = y := bytes_eq_of_toList (by simpa using he)
            go_roundw
            case rel => exact ⟨k + 1, by omega, by go_num, fun j h1 h2 hj => (by
              by_cases e : j = k
              · subst e; rw [← HX.out, ← HY.out]; exact he'
              · exact hy.out j h1 h2 (by omega)), below_drewN' hbr _⟩
            case measure => simp [intOf]; omega
        · clear hc
          have he : k = ss.length := by omega
          subst he
          have e : ss = ts := strs_done HL.out (fun j h1 h2 => hy.out j h1 h2 h1)
          go_wp2
          go_ret
          exact ⟨by simp [e], hbr⟩
  · have hne : ¬ ss = ts := fun e => hl (by rw [e])
    have hl' : ((ss.length : Int) != (ts.length : Int)) = true := by simp; omega
    rw [decide_eq_false hne]
    clear hc hc2
    go_enter Try.func11, Try.ntmps11
    go_wp2
    go_ret
    exact ⟨rfl, Below.refl _ _⟩

set_option maxHeartbeats 2000000 in
set_option maxRecDepth 100000 in
theorem equalStrsH_c (v u : Value) (ss ts : List ByteArray) (w : World) (hv : Reads w v (strsV ss)) (hu : Reads w u (strsV ts)) (hn : ss.length ≤ 1099511627776) :
    Calls Try.prog 17 #[v, u] w fun e w' => e = .returned (.bool (decide (ss = ts))) ∧ Below w.heap.size w w' := by
  obtain ⟨a, cap, rfl, _, hc⟩ := reads_strs hv
  obtain ⟨a2, cap2, rfl, _, hc2⟩ := reads_strs hu
  clear hv hu
  by_cases hl : ss.length = ts.length
  · rcases hc with rfl | ⟨b, off, rfl, hlt, hc⟩
    · have : ts = [] := List.eq_nil_of_length_eq_zero (by simpa using hl.symm)
      subst this
      go_enter Try.func17, Try.ntmps17
      go_wp2
      go_loopw [5, 13] (fun _ vi wr => vi = .int .i64 0 ∧ wr = w) (fun _ _ _ => 0)
      case atStart => exact ⟨rfl, rfl⟩
      case round =>
        obtain ⟨rfl, rfl⟩ := hrel
        go_wp2
        go_ret
        exact ⟨rfl, Below.refl _ _⟩
    rcases hc2 with rfl | ⟨b2, off2, rfl, hlt2, hc2⟩
    · have : ss = [] := List.eq_nil_of_length_eq_zero (by simpa using hl)
      subst this
      go_enter Try.func17, Try.ntmps17
      go_wp2
      go_loopw [5, 13] (fun _ vi wr => vi = .int .i64 0 ∧ wr = w) (fun _ _ _ => 0)
      case atStart => exact ⟨rfl, rfl⟩
      case round =>
        obtain ⟨rfl, rfl⟩ := hrel
        go_wp2
        go_ret
        exact ⟨rfl, Below.refl _ _⟩
    · have HL : Hid (ss.length = ts.length) := hl
      have hc2' : ∀ k (h : k < ts.length), w.cell? ⟨b2, off2 + k, none⟩ = some (.string ts[k]) := hc2
      have HC2 : Hid (∀ k (h : k < ts.length), w.cell? ⟨b2, off2 + k, none⟩ = some (.string ts[k])) := hc2'
      rw [← hl]
      clear hl hc2 hc2'
      go_enter Try.func17, Try.ntmps17
      go_wp2
      go_loopw [5, 13] (fun _ vi wr => ∃ k : Nat, k ≤ ss.length ∧ vi = .int .i64 (k : Int) ∧ Hid (∀ j (h1 : j < ss.length) (h2 : j < ts.length), j < k → ss[j] = ts[j]) ∧ Below w.heap.size w wr) (fun _ vi _ => ss.length - (intOf vi).toNat)
      case atStart => exact ⟨0, Nat.zero_le _, rfl, fun j h1 h2 hj => by omega, Below.refl _ _⟩
      case round =>
        obtain ⟨k, hk, rfl, hy, hbr⟩ := hrel
        by_cases hlt' : k < ss.length
        · have hlt2' : k < ts.length := by have := HL.out; omega
          have hcx : wr.cell? ⟨b, off + k, none⟩ = some (.string ss[k]) := (hbr.cell (p := ⟨b, off + k, none⟩) hlt).trans (hc k hlt')
          have hcy : wr.cell? ⟨b2, off2 + k, none⟩ = some (.string ts[k]) := (hbr.cell (p := ⟨b2, off2 + k, none⟩) hlt2).trans (HC2.out k hlt2')
          obtain ⟨x, hx⟩ : ∃ x, x = ss[k] := ⟨_, rfl⟩
          obtain ⟨y, hy'⟩ : ∃ y, y = ts[k] := ⟨_, rfl⟩
          rw [← hx] at hcx
          rw [← hy'] at hcy
          have HX : Hid (x = ss[k]) := hx
          have HY : Hid (y = ts[k]) := hy'
          have hki : (k : Int) < (ss.length : Int) := by omega
          clear hc hx hy'
          go_wp2
          go_quiet (fail)
          go_wp2
          · have hne : (!x.toList == y.toList) = true := by assumption
            have hne' : ¬ ss = ts := fun e => by
              have e1 := HX.out; have e2 := HY.out; subst e; rw [← e2] at e1; subst e1; simp at hne
            go_ret
            exact ⟨by simp [hne'], below_drewN' hbr _⟩
          · have he : (!x.toList == y.toList) = false := by assumption
            have he' : x = y := bytes_eq_of_toList (by simpa using he)
            go_roundw
            case rel => exact ⟨k + 1, by omega, by go_num, fun j h1 h2 hj => (by
              by_cases e : j = k
              · subst e; rw [← HX.out, ← HY.out]; exact he'
              · exact hy.out j h1 h2 (by omega)), below_drewN' hbr _⟩
            case measure => simp [intOf]; omega
        · clear hc
          have he : k = ss.length := by omega
          subst he
          have e : ss = ts := strs_done HL.out (fun j h1 h2 => hy.out j h1 h2 h1)
          go_wp2
          go_ret
          exact ⟨by simp [e], hbr⟩
  · have hne : ¬ ss = ts := fun e => hl (by rw [e])
    have hl' : ((ss.length : Int) != (ts.length : Int)) = true := by simp; omega
    rw [decide_eq_false hne]
    clear hc hc2
    go_enter Try.func17, Try.ntmps17
    go_wp2
    go_ret
    exact ⟨rfl, Below.refl _ _⟩

theorem text_alikeH (a b : ByteArray) : (a.toList == b.toList) = decide (a = b) := by
  by_cases h : a = b
  · subst h; simp
  · rw [decide_eq_false h]
    cases hh : (a.toList == b.toList) with
    | false => rfl
    | true => exact absurd (bytes_eq_of_toList (by simpa using hh)) h
theorem box2H {w w1 : World} {o o' : Obj} (hb : Below ((w.alloc o).alloc o').heap.size ((w.alloc o).alloc o') w1) : w1.heap[w.heap.size]? = some o ∧ w1.heap[w.heap.size + 1]? = some o' := by
  have z : (w.alloc o).heap.size = w.heap.size + 1 := by simp
  refine ⟨?_, ?_⟩
  · rw [hb.block _ (by simp; omega), vheap_old _ _ (by rw [z]; omega), vheap_new]
  · rw [hb.block _ (by simp), ← z, vheap_new]
theorem cells5H {w : World} {g : Nat} {a b c d e : Value} {t : TypeId} (h : w.heap[g]? = some (.cells #[a, b, c, d, e] t (0, 0))) : w.cell? ⟨g, 0, none⟩ = some a ∧ w.cell? ⟨g, 1, none⟩ = some b ∧ w.cell? ⟨g, 2, none⟩ = some c ∧ w.cell? ⟨g, 3, none⟩ = some d ∧ w.cell? ⟨g, 4, none⟩ = some e := by
  have h0 := vblk_cell h 0
  have h1 := vblk_cell h 1
  have h2 := vblk_cell h 2
  have h3 := vblk_cell h 3
  have h4 := vblk_cell h 4
  simp only [List.getElem?_toArray, List.getElem?_cons_succ, List.getElem?_cons_zero] at h0 h1 h2 h3 h4
  exact ⟨h0, h1, h2, h3, h4⟩

set_option maxHeartbeats 8000000 in
set_option maxRecDepth 100000 in
theorem sameAtTop_c (xk xn : Int) (xs : ByteArray) (xa : Option Addr) (xm xc : Nat) (xu : Value) (xks : List ByteArray) (yk yn : Int) (ys : ByteArray) (ya : Option Addr) (ym yc : Nat) (yu : Value) (yks : List ByteArray) (w : World) (hx : Reads w xu (strsV xks)) (hy : Reads w yu (strsV yks)) (hn : xks.length ≤ 1048576) :
    Calls Try.prog 14 #[.agg #[.int .i64 xk, .int .i64 xn, .string xs, .slice xa xm xc, xu], .agg #[.int .i64 yk, .int .i64 yn, .string ys, .slice ya ym yc, yu]] w fun e w' => e = .returned (.bool (decide (xk = yk) && (decide (xn = yn) && (decide (xs = ys) && (decide (xm = ym) && decide (xks = yks)))))) ∧ Below w.heap.size w w' := by
  have hb2 : ∀ A R, Below w.heap.size w ((w.alloc A).alloc R) := fun A R => ((Below.refl _ _).alloc (Nat.le_refl _) _).alloc (by simp) _
  have HE : Hid (∀ w1, Below w.heap.size w w1 → Calls Try.prog 17 #[xu, yu] w1 fun e w' => e = .returned (.bool (decide (xks = yks))) ∧ Below w1.heap.size w1 w') := fun w1 h => equalStrsH_c xu yu xks yks w1 (hx.below h) (hy.below h) (by omega)
  obtain ⟨xq, xd, rfl, _, _⟩ := reads_strs hx
  obtain ⟨yq, yd, rfl, _, _⟩ := reads_strs hy
  obtain ⟨xl, hxl⟩ : ∃ n, n = xks.length := ⟨_, rfl⟩
  obtain ⟨yl, hyl⟩ : ∃ n, n = yks.length := ⟨_, rfl⟩
  rw [← hxl, ← hyl] at HE
  rw [← hxl, ← hyl]
  obtain ⟨r, hr⟩ : ∃ r, r = decide (xks = yks) := ⟨_, rfl⟩
  rw [← hr] at HE ⊢
  clear hx hy hn hxl hyl hr
  by_cases e0 : xk = yk
  case neg =>
    rw [decide_eq_false e0]
    have q0 : ((xk : Int) == yk) = false := by rw [beq_eq_false_iff_ne]; exact e0
    clear HE e0
    go_enter Try.func14, Try.ntmps14
    go_wp2_with fail
    go_ret
    exact ⟨by simp, hb2 _ _⟩
  subst e0
  rw [decide_eq_true rfl]
  by_cases e1 : xn = yn
  case neg =>
    rw [decide_eq_false e1]
    have q1 : ((xn : Int) == yn) = false := by rw [beq_eq_false_iff_ne]; exact e1
    clear HE e1
    go_enter Try.func14, Try.ntmps14
    go_wp2_with fail
    go_ret
    exact ⟨by simp, hb2 _ _⟩
  subst e1
  rw [decide_eq_true rfl]
  by_cases e2 : xs = ys
  case neg =>
    rw [decide_eq_false e2]
    have q2 : (xs.toList == ys.toList) = false := by rw [text_alikeH]; exact decide_eq_false e2
    clear HE e2
    go_enter Try.func14, Try.ntmps14
    go_wp2_with fail
    go_ret
    exact ⟨by simp, hb2 _ _⟩
  subst e2
  rw [decide_eq_true rfl]
  have q2 : (xs.toList == xs.toList) = true := beq_self_eq_true _
  by_cases e3 : xm = ym
  case neg =>
    rw [decide_eq_false e3]
    have q3 : ((xm : Int) == (ym : Int)) = false := by rw [beq_eq_false_iff_ne]; omega
    have qm : ¬ (xm : Int) = (ym : Int) := by omega
    clear HE e3
    go_enter Try.func14, Try.ntmps14
    go_wp2_with fail
    go_ret
    exact ⟨by simp, hb2 _ _⟩
  subst e3
  rw [decide_eq_true rfl]
  go_enter Try.func14, Try.ntmps14
  go_wp2_with fail
  go_at_call 17
  refine (HE.out _ (hb2 _ _)).mono ?_
  rintro e w1 ⟨rfl, b1⟩
  go_wp2_with fail
  go_ret
  exact ⟨by simp, (hb2 _ _).trans (b1.mono (hb2 _ _).size)⟩

end Go.Proofs.Ytbkeenhmhibhhaa

/-! Rows of pairs of places, a map keyed by them, and where copies of values lie: laws for the walks; conditions as each says. -/
namespace Go.Proofs.Ytbkeenhmhibhhaa
open Go.RowKit
set_option linter.unusedSimpArgs false
set_option linter.unusedVariables false

theorem append_blkH {P : Program} (w : World) (base : Nat) (t ty e : TypeId) (i : TypeInfo) (z : Value) (size bytes : Nat) (ht : P.underlying t = some (.slice e)) (hi : P.info? e = some i) (hz : i.zero = some z)
    (hsize : i.size = size) (hby : i.bytes = bytes) (hzs : z.cells.size = size) (hsz : 0 < size)
    (g n cap : Nat) (xs : List Value) (hown : w.ownsRow base e size (.slice (some ⟨g, 0, none⟩) n cap) n xs)
    (a : Addr) (m c : Nat) (news : List Value) (hl : news.length = m * size) (hnews : ∀ j u, news[j]? = some u → w.cell? (a.add j) = some u) (h1 : ∀ u ∈ news, u.oneCell' = true)
    (h63 : n + m ≤ maxLen) (hbytes : (n + m) * bytes ≤ 140737488355328) (v' : Value) (w' : World)
    (hr : (Builtin.append_ #[t, t] ty #[.slice (some ⟨g, 0, none⟩) n cap, .slice (some a) m c]).run P w = .ok v' w') : v'.ownBlock = some g ∨ v'.ownBlock = some w.heap.size := by
  subst hsize
  subst hby
  have hsmall : n + m ≤ 9223372036854775807 := by simp only [maxLen] at h63; omega
  rcases id hown.2 with ⟨h, _⟩ | ⟨g', cap', cur, hv, hbg, hg, hnc, hcm, hcs, htake⟩
  · cases h
  · injection hv with e1 e2 e3
    obtain rfl : g = g' := by injection Option.some.inj e1
    subst e3
    by_cases hroom : n + m ≤ cap
    · have hfit : n * i.size + news.length ≤ cur.size := by rw [hl, hcs, ← Nat.add_mul]; exact Nat.mul_le_mul_right _ hroom
      have h := run_append_room (P := P) w t ty e i ht hi g n cap cur hg a m c news hl hnews h1 hroom hfit
      rw [hr] at h
      obtain ⟨rfl, _⟩ := (Result.ok.injEq ..).mp h
      exact .inl rfl
    · have h := run_append_grow (P := P) w t ty e i z ht hi hz ⟨g, 0, none⟩ n cap xs hown.1 (hown.cells (g := g) rfl) a m c news hl hnews (by omega) (by omega) (growslice_fits (by omega) hbytes)
      rw [hr] at h
      obtain ⟨rfl, _⟩ := (Result.ok.injEq ..).mp h
      exact .inr rfl
theorem apAH {P : Program} {w : World} {ops : Array Oper} {rest : List Oper} {o : Oper} {a : Act} {Q : Exit → Act → World → Prop} (hgd : o.guard = none) (s x : Operand) (t : TypeId)
    (ho : o.op = .call { callee := .builtin .append, args := #[s, x], argTypes := #[t, t] })
    (base : Nat) (e : TypeId) (i : TypeInfo) (z : Value) (size bytes : Nat) (ht : P.underlying t = some (.slice e)) (hi : P.info? e = some i) (hz : i.zero = some z)
    (hsize : i.size = size) (hby : i.bytes = bytes) (hzs : z.cells.size = size) (hsz : 0 < size)
    (g n cap : Nat) (xs : List Value) (hs : a.eval s = .slice (some ⟨g, 0, none⟩) n cap) (hown : w.ownsRow base e size (.slice (some ⟨g, 0, none⟩) n cap) n xs)
    (ad : Addr) (m c : Nat) (news : List Value) (hx : a.eval x = .slice (some ad) m c) (hl : news.length = m * size) (hnews : ∀ j u, news[j]? = some u → w.cell? (ad.add j) = some u) (h1 : ∀ u ∈ news, u.oneCell' = true)
    (h63 : n + m ≤ maxLen) (hbytes : (n + m) * bytes ≤ 140737488355328) (hbase : base ≤ w.heap.size)
    (h : ∀ v' w', w'.ownsRow base e size v' (n + m) (xs ++ news) → w.grownBy w' (some g) → (v'.ownBlock = some g ∨ v'.ownBlock = some w.heap.size) → wpList P ops Q rest (a.put o.dst v') w') : wpList P ops Q (o :: rest) a w :=
  wpList_plain hgd fun K hK => by
    obtain ⟨v', w', hr, h2, h3, _⟩ := run_append_own (P := P) w base t o.type e i z size bytes ht hi hz hsize hby hzs hsz _ n xs hown ad m c news hl hnews h1 h63 hbytes hbase
    have h4 := append_blkH w base t o.type e i z size bytes ht hi hz hsize hby hzs hsz g n cap xs hown ad m c news hl hnews h1 h63 hbytes v' w' hr
    unfold Oper.wp execOp
    simp only [ho, resolve, invoke, builtin, Sem.run_bind, Sem.run_pure, Result.andThen_ok, List.map_toArray, List.map_cons, List.map_nil, hs, hx, hr]
    exact hK _ _ (h v' w' h2 h3 h4)
theorem owns_cutH {w : World} {B sz g n cap k : Nat} {e : TypeId} {xs : List Value} (h : w.ownsRow B e sz (.slice (some ⟨g, 0, none⟩) n cap) n xs) (hk : k ≤ n) : w.ownsRow B e sz (.slice (some ⟨g, 0, none⟩) k cap) k (xs.take (k * sz)) ∧ k ≤ cap := by
  have hle : k * sz ≤ n * sz := Nat.mul_le_mul_right _ hk
  rcases h.2 with ⟨h, _⟩ | ⟨g', cap', cur, hv, hbg, hg, hnc, hcm, hcs, htake⟩
  · cases h
  · injection hv with e1 e2 e3
    subst e3
    refine ⟨⟨by rw [List.length_take, h.1]; omega, .inr ⟨g', cap, cur, by rw [e1], hbg, hg, by omega, hcm, hcs, ?_⟩⟩, by omega⟩
    rw [← htake, List.take_take, Nat.min_eq_left hle]

section
variable (w : World) {ops : Array Oper} {rest : List Oper} {o : Oper} {a : Act} {Q : Exit → Act → World → Prop}
theorem wpList_lookup_vp (hg : o.guard = none) (mo x : Operand) (hop : o.op = Op.lookup 42 mo x false) (b : Nat) (ks : List (Addr × Addr)) (hm : a.eval mo = .map (some b)) (hown : VpMap w b ks) (p q : Addr) (hx : a.eval x = pv p q) (hp : PlB w p.block) (hq : PlB w q.block)
    (hK : ∀ r : Int, ((r = 0 ∧ (p, q) ∉ ks) ∨ (r = 1 ∧ (p, q) ∈ ks)) → wpList Try.prog ops Q rest (a.put o.dst (.int .i64 r)) w) : wpList Try.prog ops Q (o :: rest) a w := by
  refine wpList_plain hg fun K' hK' => ?_
  obtain ⟨r, hrun, hr⟩ := hown.look p q hp hq
  unfold Oper.wp
  simp [execOp, hop, hm, hx, hrun, Result.andThen]
  exact hK' _ _ (hK r hr)
theorem wpList_mapUpdate_vp (hg : o.guard = none) (mo x v : Operand) (hop : o.op = Op.mapUpdate 42 mo x v) (b : Nat) (ks : List (Addr × Addr)) (hm : a.eval mo = .map (some b)) (hown : VpMap w b ks) (p q : Addr) (hx : a.eval x = pv p q) (hp : PlB w p.block) (hq : PlB w q.block) (hn : (p, q) ∉ ks)
    (hv : a.eval v = .int .i64 1) (hK : ∀ w', VpMap w' b (ks ++ [(p, q)]) → w.grownBy w' (some b) → w'.heap.size = w.heap.size → wpList Try.prog ops Q rest (a.put o.dst undef) w') : wpList Try.prog ops Q (o :: rest) a w := by
  refine wpList_plain hg fun K' hK' => ?_
  obtain ⟨ob, hrun, hr⟩ := hown.put p q hp hq hn
  unfold Oper.wp
  simp [execOp, hop, hm, hx, hv, hrun, Result.andThen]
  exact hK' _ _ (hK _ hr ⟨rfl, rfl, rfl, by simp, fun x hx hne => by
    have hne' : b ≠ x := fun e => hne (by rw [e])
    simp [Array.getElem?_setIfInBounds, hne']⟩ (by simp))
end
theorem VpMap.kept {W W' : World} {b : Nat} {ks : List (Addr × Addr)} (h : VpMap W b ks) (hb : W'.heap[b]? = W.heap[b]?) (hp : ∀ x, PlB W x → PlB W' x) : VpMap W' b ks := by
  obtain ⟨es, c, h1, h2, h3⟩ := h
  exact ⟨es, c, hb.trans h1, h2, fun k hk => ⟨hp _ (h3 k hk).1, hp _ (h3 k hk).2⟩⟩
/-- The cells of a row of pairs. -/
def flatP : List PE → List Value
  | [] => []
  | e :: r => .pointer (some ⟨e.b, e.o, none⟩) :: .pointer (some ⟨e.c, e.q, none⟩) :: flatP r
theorem flatP_len : ∀ L : List PE, (flatP L).length = L.length * 2
  | [] => rfl
  | e :: r => by simp only [flatP, List.length_cons, flatP_len r]; omega
theorem flatP_append : ∀ L M : List PE, flatP (L ++ M) = flatP L ++ flatP M
  | [], M => rfl
  | e :: r, M => by simp only [List.cons_append, flatP, flatP_append r M]
theorem flatP_take (L M : List PE) : (flatP (L ++ M)).take (L.length * 2) = flatP L := by
  rw [flatP_append, List.take_left' (flatP_len L)]
theorem flatP_last (L : List PE) (e : PE) : (flatP (L ++ [e]))[L.length * 2]? = some (.pointer (some ⟨e.b, e.o, none⟩)) ∧ (flatP (L ++ [e]))[L.length * 2 + 1]? = some (.pointer (some ⟨e.c, e.q, none⟩)) := by
  rw [flatP_append]
  refine ⟨?_, ?_⟩
  · rw [List.getElem?_append_right (by rw [flatP_len]; omega), flatP_len, Nat.sub_self]; rfl
  · rw [List.getElem?_append_right (by rw [flatP_len]; omega), flatP_len, show L.length * 2 + 1 - L.length * 2 = 1 by omega]; rfl
theorem flatP_one (L : List PE) : ∀ u ∈ flatP L, u.oneCell' = true := by
  induction L with
  | nil => intro u hu; cases hu
  | cons e r ih =>
    intro u hu
    simp only [flatP, List.mem_cons] at hu
    rcases hu with rfl | rfl | hu
    · rfl
    · rfl
    · exact ih u hu
/-- How many values are still to be looked at. -/
def tnW (L : List PE) : Nat := (L.map fun e => e.s.tn).sum
theorem tnW_append (L M : List PE) : tnW (L ++ M) = tnW L + tnW M := by unfold tnW; rw [List.map_append, List.sum_append]
theorem tnW_one (e : PE) : tnW [e] = e.s.tn := by simp [tnW]
theorem len_tnW (L : List PE) : L.length ≤ tnW L := by
  induction L with
  | nil => simp [tnW]
  | cons e r ih =>
    have := tn_pos e.s
    have e1 : tnW (e :: r) = e.s.tn + tnW r := by simp [tnW]
    simp only [List.length_cons]
    omega
theorem flatP_det {W : World} : ∀ {L M : List PE}, flatP L = flatP M → (∀ e ∈ L, e.ok W) → (∀ e ∈ M, e.ok W) → tnW L = tnW M
  | [], [], _, _, _ => rfl
  | [], e :: r, h, _, _ => by simp [flatP] at h
  | e :: r, [], h, _, _ => by simp [flatP] at h
  | e :: r, e' :: r', h, h1, h2 => by
    simp only [flatP, List.cons.injEq, Value.pointer.injEq, Option.some.injEq, Addr.mk.injEq, and_true] at h
    obtain ⟨⟨a1, a2⟩, ⟨a3, a4⟩, hr⟩ := h
    have ih := flatP_det hr (fun x hx => h1 x (by simp [hx])) (fun x hx => h2 x (by simp [hx]))
    have k1 := (h1 e (by simp)).1
    have k2 := (h2 e' (by simp)).1
    rw [a1, a2] at k1
    have hs := k1.det k2
    have e1 : tnW (e :: r) = e.s.tn + tnW r := by simp [tnW]
    have e2 : tnW (e' :: r') = e'.s.tn + tnW r' := by simp [tnW]
    rw [e1, e2, hs, ih]
theorem owns_slH {w : World} {lo sz n : Nat} {e : TypeId} {v : Value} {xs : List Value} (h : w.ownsRow lo e sz v n xs) : ∃ q cap, v = .slice q n cap := by
  rcases h.2 with ⟨rfl, rfl⟩ | ⟨g, cap, cur, rfl, _⟩
  · exact ⟨none, 0, rfl⟩
  · exact ⟨_, _, rfl⟩
theorem owns_det {w : World} {lo sz n m : Nat} {e : TypeId} {v : Value} {xs ys : List Value} (h : w.ownsRow lo e sz v n xs) (h' : w.ownsRow lo e sz v m ys) : n = m ∧ xs = ys := by
  obtain ⟨q, cap, e1⟩ := owns_slH h
  obtain ⟨q', cap', e2⟩ := owns_slH h'
  obtain ⟨_, hnm, _⟩ := Value.slice.inj (e1.symm.trans e2)
  subst hnm
  refine ⟨rfl, ?_⟩
  have l1 := h.1
  have l2 := h'.1
  rcases id h.2 with ⟨_, h0⟩ | ⟨g, cap0, cur, e3, _⟩
  · subst h0
    have x1 : xs = [] := List.eq_nil_of_length_eq_zero (by simpa using l1)
    have x2 : ys = [] := List.eq_nil_of_length_eq_zero (by simpa using l2)
    rw [x1, x2]
  · subst e3
    apply List.ext_getElem?
    intro i
    by_cases hi : i < n * sz
    · rw [← h.cellAt i hi, ← h'.cellAt i hi]
    · rw [List.getElem?_eq_none (by omega), List.getElem?_eq_none (by omega)]
/-- What is left, told of the row itself: a measure. -/
noncomputable def tnM (w0 : World) (B : Nat) (v : Value) (W : World) : Nat := open Classical in if h : ∃ L : List PE, W.ownsRow B 40 2 v L.length (flatP L) ∧ ∀ e ∈ L, e.ok w0 then tnW (Classical.choose h) else 0
theorem tnM_eq {w0 W : World} {B : Nat} {v : Value} {L : List PE} (h : W.ownsRow B 40 2 v L.length (flatP L)) (ho : ∀ e ∈ L, e.ok w0) : tnM w0 B v W = tnW L := by
  have hx : ∃ L : List PE, W.ownsRow B 40 2 v L.length (flatP L) ∧ ∀ e ∈ L, e.ok w0 := ⟨L, h, ho⟩
  unfold tnM
  rw [dif_pos hx]
  obtain ⟨h1, h2⟩ := Classical.choose_spec hx
  exact flatP_det (owns_det h1 h).2 h2 ho

theorem ptL {w : World} {B : Nat → Prop} {v : Value} {l : List Tree} (h : OwnL w B v l) : ∀ {S : Nat → Prop}, LiesL S w v l → (∀ b, S b → b < w.heap.size) → ∃ (g : Nat) (a : Option Addr) (cap : Nat), v = .slice a l.length cap ∧ l.length ≤ cap ∧ (l = [] ∨ a = some ⟨g, 0, none⟩) ∧ l.length ≤ maxLen ∧ ∀ i (h : i < l.length), PtT w g (i * 5) l[i] := by
  induction h with
  | mk B v l ys C U BB KK hrow hg hc hB hK hBB hBK hKK hC hU ih =>
    intro S hL hS
    obtain ⟨a, cap, Cc, rfl, hl, hcap, ha, hCc⟩ := hL
    rcases id hrow.2 with ⟨e1, h0⟩ | ⟨g, cap', cur, e1, _, hgb, _⟩
    · have hn := List.eq_nil_of_length_eq_zero h0
      subst hn
      exact ⟨0, a, cap, rfl, hcap, .inl rfl, hl, fun i h => by simp at h⟩
    · obtain ⟨ea, _, ecap⟩ := Value.slice.inj e1
      subst ea ecap
      refine ⟨g, _, cap, rfl, hcap, .inr rfl, hl, fun i hi => ?_⟩
      have hcells : ∀ j, j < 5 → w.cell? ⟨g, i * 5 + j, none⟩ = some (Cc i j) := fun j hj => by
        rcases ha with ha | ⟨b, off, e2, _, ha⟩
        · rw [ha] at hi; simp at hi
        · obtain ⟨rfl, rfl⟩ : g = b ∧ 0 = off := by injection e2 with e2; injection e2 with e3 e4; exact ⟨e3, e4⟩
          have := ha i hi j hj
          rwa [Nat.zero_add] at this
      obtain ⟨_, hy3, hy4⟩ := hc i hi
      have e3 : Cc i 3 = C i := by
        have h1 := hcells 3 (by omega)
        rw [hrow.cellAt _ (by have := (List.getElem?_eq_some_iff.1 hy3).1; have := hrow.1; omega), hy3] at h1
        exact (Option.some.inj h1).symm
      have e4 : Cc i 4 = U i := by
        have h1 := hcells 4 (by omega)
        rw [hrow.cellAt _ (by have := (List.getElem?_eq_some_iff.1 hy4).1; have := hrow.1; omega), hy4] at h1
        exact (Option.some.inj h1).symm
      have hx := hCc i hi
      have hO := ih i hi (S := S)
      have c0 := hcells 0 (by omega)
      have c1 := hcells 1 (by omega)
      have c2 := hcells 2 (by omega)
      have c3 := hcells 3 (by omega)
      have c4 := hcells 4 (by omega)
      rw [Nat.add_zero] at c0
      rw [e3] at c3 hx
      generalize l[i] = X at hx hO
      obtain ⟨k, n, s, l2, ks2⟩ := X
      obtain ⟨c, u, he, hs, hk, hl2, hu2⟩ := hx.out
      simp only [Value.agg.injEq, Array.mk.injEq, List.cons.injEq, and_true] at he
      obtain ⟨f0, f1, f2, f3, f4⟩ := he
      rw [f0] at c0
      rw [f1] at c1
      rw [f2] at c2
      rw [f4] at c4
      subst f3
      obtain ⟨g2, a2, cap2, h1, h2, h3, h4, h5⟩ := hO hl2 hS
      exact .mk g (i * 5) k n s l2 ks2 _ u ⟨_, _, hgb⟩ c0 c1 c2 c3 c4 hs h4 ⟨hu2.reads hS, hk⟩ g2 a2 cap2 h1 h2 h3 h5
/-- A value in a box of its own, as a place. -/
theorem pt_box {w w' : World} {S : Nat → Prop} {lo mid hi bx : Nat} {T : Tree} {k n : Int} {s : ByteArray} {c u : Value} (hv : Lies S w (.agg #[.int .i64 k, .int .i64 n, .string s, c, u]) T) (hS : ∀ b, S b → b < w.heap.size) (ho : OwnT lo mid hi w (.agg #[.int .i64 k, .int .i64 n, .string s, c, u]) T)
    (hb : w'.heap[bx]? = some (.cells #[.int .i64 k, .int .i64 n, .string s, c, u] 30 (0, 0))) (hk : Below w.heap.size w w') : PtT w' bx 0 T := by
  obtain ⟨k', n', s', l, ks⟩ := T
  obtain ⟨c', u', he, hs, hks, hl, hu⟩ := hv.out
  simp only [Value.agg.injEq, Array.mk.injEq, List.cons.injEq, and_true, Value.int.injEq, true_and, Value.string.injEq] at he
  obtain ⟨rfl, rfl, rfl, rfl, rfl⟩ := he
  obtain ⟨_, _, _, c2, u2, he, hl2, _⟩ := ho
  simp only [Value.agg.injEq, Array.mk.injEq, List.cons.injEq, and_true] at he
  obtain ⟨_, _, _, rfl, _⟩ := he
  obtain ⟨g, a, cap, h1, h2, h3, h4, h5⟩ := ptL hl2 hl hS
  obtain ⟨x0, x1, x2, x3, x4⟩ := cells5H hb
  exact .mk bx 0 _ _ _ l ks _ _ ⟨_, _, hb⟩ x0 x1 x2 x3 x4 hs h4 ⟨(hu.reads hS).below hk, hks⟩ g a cap h1 h2 h3 (fun i h => (h5 i h).on hk)
end Go.Proofs.Ytbkeenhmhibhhaa

/-! Whether two values are alike, as the program asks it, from place to place: a contract for the walks; conditions: the values are copies that may be written, and hold at most 2 to the 20. -/
namespace Go.Proofs.Ytbkeenhmhibhhaa
open Go.RowKit
set_option linter.unusedSimpArgs false
set_option linter.unusedVariables false

theorem infoVp : (Try.prog.info? 40).map (fun i => (i.zero, i.size, i.bytes)) = some (some (.agg #[.pointer none, .pointer none]), 2, 16) := by kernel_rfl
/-- The state of the search: what is done, what is left, which pairs were met. -/
structure SrS (w0 : World) (X Y : Tree) (N : Nat) (done work : List PE) (ks : List (Addr × Addr)) : Prop where
  ok : ∀ e ∈ done ++ work, e.ok w0
  al : X = Y → ∀ e ∈ done ++ work, e.s = e.t
  top : ∀ e ∈ done, topB e.s e.t = true
  kid : ∀ e ∈ done, kidsOf w0 e e.s.kids.length (done ++ work)
  key : ∀ k ∈ ks, ∃ e ∈ done ++ work, e.key = k
  root : ∃ e ∈ done ++ work, e.s = X ∧ e.t = Y
  few : tnW work ≤ N
  wt : ∀ e ∈ done ++ work, e.s.wt ≤ 1048576
/-- While the children of E are gone through: those below i are met. -/
structure SrK (w0 : World) (X Y : Tree) (N : Nat) (E : PE) (i : Nat) (done work : List PE) (ks : List (Addr × Addr)) : Prop where
  ok : ∀ e ∈ (done ++ [E]) ++ work, e.ok w0
  al : X = Y → ∀ e ∈ (done ++ [E]) ++ work, e.s = e.t
  top : ∀ e ∈ done ++ [E], topB e.s e.t = true
  kid : ∀ e ∈ done, kidsOf w0 e e.s.kids.length ((done ++ [E]) ++ work)
  kidE : kidsOf w0 E i ((done ++ [E]) ++ work)
  key : ∀ k ∈ ks, ∃ e ∈ (done ++ [E]) ++ work, e.key = k
  root : ∃ e ∈ (done ++ [E]) ++ work, e.s = X ∧ e.t = Y
  few : tnW work + 1 + tnL (E.s.kids.drop i) ≤ N
  wt : ∀ e ∈ (done ++ [E]) ++ work, e.s.wt ≤ 1048576
theorem kids_sub {w0 : World} {e : PE} {k : Nat} {L M : List PE} (h : kidsOf w0 e k L) (hs : ∀ x ∈ L, x ∈ M) : kidsOf w0 e k M := fun i h1 h2 h3 => by
  obtain ⟨e', a, b⟩ := h i h1 h2 h3
  exact ⟨e', hs _ a, b⟩
theorem mem_pop {done rest : List PE} {E x : PE} : x ∈ done ++ (rest ++ [E]) ↔ x ∈ (done ++ [E]) ++ rest := by
  simp only [List.mem_append, List.mem_singleton]
  constructor
  · rintro (h | h | h)
    · exact .inl (.inl h)
    · exact .inr h
    · exact .inl (.inr h)
  · rintro ((h | h) | h)
    · exact .inl h
    · exact .inr (.inr h)
    · exact .inr (.inl h)
theorem snoc_cases : ∀ l : List PE, l = [] ∨ ∃ r e, l = r ++ [e]
  | [] => .inl rfl
  | a :: l => by
    rcases snoc_cases l with rfl | ⟨r, e, rfl⟩
    · exact .inr ⟨[], a, rfl⟩
    · exact .inr ⟨a :: r, e, rfl⟩
theorem tn_wt : ∀ T : Tree, T.tn ≤ 1 + T.wt := by
  refine Tree.ind ?_
  intro k n s l ks ih
  have hl : ∀ r : List Tree, (∀ U ∈ r, U.tn ≤ 1 + U.wt) → tnL r ≤ wtL r := fun r => by
    induction r with
    | nil => intro _; simp [tnL, wtL]
    | cons t r ih2 =>
      intro h
      have h1 := h t (List.mem_cons_self ..)
      have h2 := ih2 (fun U hU => h U (List.mem_cons_of_mem _ hU))
      simp only [tnL, wtL]
      omega
  have h3 := hl l ih
  rw [Tree.tn, wt_mk]
  omega
theorem kid_wt (T : Tree) (i : Nat) (h : i < T.kids.length) : T.kids[i].wt ≤ T.wt := by
  obtain ⟨k, n, s, l, ks⟩ := T
  have h1 := wt_le_wtL (List.getElem_mem h)
  rw [wt_mk]
  have h2 : wtL (Tree.mk k n s l ks).kids = wtL l := rfl
  omega
theorem keys_wt (k n : Int) (s : ByteArray) (l : List Tree) (ks : List ByteArray) : ks.length ≤ (Tree.mk k n s l ks).wt := by
  rw [wt_mk]
  unfold bulkS
  omega
theorem SrS.pop {w0 : World} {X Y : Tree} {N : Nat} {done rest : List PE} {E : PE} {ks : List (Addr × Addr)} (h : SrS w0 X Y N done (rest ++ [E]) ks) (ht : topB E.s E.t = true) : SrK w0 X Y N E 0 done rest ks where
  ok e he := h.ok e (mem_pop.2 he)
  al hx e he := h.al hx e (mem_pop.2 he)
  top e he := by
    rcases List.mem_append.1 he with he | he
    · exact h.top e he
    · simp at he; subst he; exact ht
  kid e he := kids_sub (h.kid e he) (fun x hx => mem_pop.1 hx)
  kidE i h1 h2 h3 := by omega
  key k hk := by obtain ⟨e, a, b⟩ := h.key k hk; exact ⟨e, mem_pop.1 a, b⟩
  root := by obtain ⟨e, a, b⟩ := h.root; exact ⟨e, mem_pop.1 a, b⟩
  few := by
    have h1 := h.few
    rw [tnW_append, tnW_one, tn_kids E.s] at h1
    rw [List.drop_zero]
    omega
  wt e he := h.wt e (mem_pop.2 he)
theorem SrK.done {w0 : World} {X Y : Tree} {N i : Nat} {done work : List PE} {E : PE} {ks : List (Addr × Addr)} (h : SrK w0 X Y N E i done work ks) (hi : E.s.kids.length ≤ i) : SrS w0 X Y N (done ++ [E]) work ks where
  ok := h.ok
  al := h.al
  top := h.top
  kid e he := by
    rcases List.mem_append.1 he with he | he
    · exact h.kid e he
    · simp at he; subst he
      exact fun j h1 h2 h3 => h.kidE j h1 h2 (by omega)
  key := h.key
  root := h.root
  few := by have := h.few; omega
  wt := h.wt
theorem drop_tn {l : List Tree} {i : Nat} (h : i < l.length) : tnL (l.drop i) = l[i].tn + tnL (l.drop (i + 1)) := by
  rw [List.drop_eq_getElem_cons h]; simp [tnL]
/-- A child that was met. -/
theorem SrK.old {w0 : World} {X Y : Tree} {N i : Nat} {done work : List PE} {E F : PE} {ks : List (Addr × Addr)} (h : SrK w0 X Y N E i done work ks) (h1 : i < E.s.kids.length) (h2 : i < E.t.kids.length) (hk : F.key ∈ ks) (ho : F.ok w0) (hs : F.s = E.s.kids[i]) (ht : F.t = E.t.kids[i]) : SrK w0 X Y N E (i + 1) done work ks where
  ok := h.ok
  al := h.al
  top := h.top
  kid := h.kid
  kidE j j1 j2 j3 := by
    by_cases e : j = i
    · subst e
      obtain ⟨G, hG, hGk⟩ := h.key _ hk
      have hGo := h.ok G hG
      simp only [PE.key, Prod.mk.injEq, Addr.mk.injEq, and_true] at hGk
      obtain ⟨⟨g1, g2⟩, ⟨g3, g4⟩⟩ := hGk
      obtain ⟨p1, p2⟩ := hGo
      obtain ⟨q1, q2⟩ := ho
      rw [g1, g2] at p1
      rw [g3, g4] at p2
      exact ⟨G, hG, by rw [p1.det q1, hs], by rw [p2.det q2, ht]⟩
    · exact h.kidE j j1 j2 (by omega)
  key := h.key
  root := h.root
  few := by have := h.few; rw [drop_tn h1] at this; omega
  wt := h.wt
/-- A child that is new. -/
theorem SrK.new {w0 : World} {X Y : Tree} {N i : Nat} {done work : List PE} {E F : PE} {ks : List (Addr × Addr)} (h : SrK w0 X Y N E i done work ks) (h1 : i < E.s.kids.length) (h2 : i < E.t.kids.length) (ho : F.ok w0) (hs : F.s = E.s.kids[i]) (ht : F.t = E.t.kids[i]) : SrK w0 X Y N E (i + 1) done (work ++ [F]) (ks ++ [F.key]) := by
  have hm : ∀ x, x ∈ (done ++ [E]) ++ work → x ∈ (done ++ [E]) ++ (work ++ [F]) := fun x hx => by rw [← List.append_assoc]; exact List.mem_append_left _ hx
  have hF : F ∈ (done ++ [E]) ++ (work ++ [F]) := by simp
  have hc : ∀ x, x ∈ (done ++ [E]) ++ (work ++ [F]) → x ∈ (done ++ [E]) ++ work ∨ x = F := fun x hx => by
    rw [← List.append_assoc] at hx
    rcases List.mem_append.1 hx with hx | hx
    · exact .inl hx
    · simp at hx; exact .inr hx
  refine ⟨fun e he => ?_, fun hx e he => ?_, h.top, fun e he => kids_sub (h.kid e he) hm, fun j j1 j2 j3 => ?_, fun k hk => ?_, ?_, ?_, fun e he => ?_⟩
  · rcases hc e he with he | rfl
    · exact h.ok e he
    · exact ho
  · rcases hc e he with he | rfl
    · exact h.al hx e he
    · rw [hs, ht]; exact kid_alike (h.al hx E (by simp)) i h1 h2
  · by_cases e : j = i
    · subst e; exact ⟨F, hF, hs, ht⟩
    · obtain ⟨G, a, b⟩ := h.kidE j j1 j2 (by omega)
      exact ⟨G, hm _ a, b⟩
  · rcases List.mem_append.1 hk with hk | hk
    · obtain ⟨e, a, b⟩ := h.key k hk; exact ⟨e, hm _ a, b⟩
    · simp at hk; subst hk; exact ⟨F, hF, rfl⟩
  · obtain ⟨e, a, b⟩ := h.root; exact ⟨e, hm _ a, b⟩
  · have h3 := h.few
    rw [drop_tn h1] at h3
    rw [tnW_append, tnW_one, hs]
    omega
  · rcases hc e he with he | rfl
    · exact h.wt e he
    · rw [hs]
      have h4 := kid_wt E.s i h1
      have h5 := h.wt E (by simp)
      omega
theorem PE.pl {w0 W : World} {e : PE} (h : e.ok w0) (k : Below w0.heap.size w0 W) : PlB W e.key.1.block ∧ PlB W e.key.2.block := ⟨h.1.pl.below k, h.2.pl.below k⟩
theorem VpMap.kept2 {W W' w0 : World} {b : Nat} {ks : List (Addr × Addr)} {L : List PE} (h : VpMap W b ks) (hb : W'.heap[b]? = W.heap[b]?) (hk : ∀ k ∈ ks, ∃ e ∈ L, e.key = k) (ho : ∀ e ∈ L, e.ok w0) (k : Below w0.heap.size w0 W') : VpMap W' b ks := by
  obtain ⟨es, c, h1, h2, h3⟩ := h
  refine ⟨es, c, hb.trans h1, h2, fun x hx => ?_⟩
  obtain ⟨e, he, rfl⟩ := hk x hx
  exact PE.pl (ho e he) k
theorem owns_of_belowH {w w' : World} {lo sz n : Nat} {e : TypeId} {v : Value} {xs : List Value} (h : w.ownsRow lo e sz v n xs) (hb : Below w.heap.size w w') : w'.ownsRow lo e sz v n xs := h.kept (grown_of_below hb none) (by cases hq : v.ownBlock <;> simp)
theorem VpMap.lt {W : World} {b : Nat} {ks : List (Addr × Addr)} (h : VpMap W b ks) : b < W.heap.size := by
  obtain ⟨es, c, h1, _⟩ := h
  exact (Array.getElem?_eq_some_iff.1 h1).1
theorem row_at {w : World} {B sz n g : Nat} {e : TypeId} {v : Value} {xs : List Value} (h : w.ownsRow B e sz v n xs) (hg : v.ownBlock = some g) : ∃ cap, v = .slice (some ⟨g, 0, none⟩) n cap := by
  rcases h.2 with ⟨rfl, _⟩ | ⟨g', cap, cur, rfl, _⟩
  · simp [Value.ownBlock] at hg
  · simp [Value.ownBlock] at hg
    subst hg
    exact ⟨cap, rfl⟩
theorem two_one (p q : Addr) : ∀ u ∈ [Value.pointer (some p), Value.pointer (some q)], u.oneCell' = true := fun u hu => by
  simp only [List.mem_cons, List.not_mem_nil, or_false] at hu
  rcases hu with rfl | rfl <;> rfl
theorem sq_mono {w0 : World} {X Y : Tree} {N M : Nat} {done work : List PE} {ks : List (Addr × Addr)} (h : SrS w0 X Y N done work ks) (hN : tnW work ≤ M) : SrS w0 X Y M done work ks := ⟨h.ok, h.al, h.top, h.kid, h.key, h.root, hN, h.wt⟩
theorem top_len {s t : Tree} (h : topB s t = true) : s.kids.length = t.kids.length := by
  cases s; cases t
  simp only [topB, Bool.and_eq_true, decide_eq_true_eq] at h
  exact h.2.2.2.1
theorem SrS.alike {w0 : World} {X Y : Tree} {N : Nat} {done : List PE} {ks : List (Addr × Addr)} (h : SrS w0 X Y N done [] ks) : X = Y := by
  obtain ⟨e, he, rfl, rfl⟩ := h.root
  have h1 : ∀ e ∈ done, kidsOf w0 e e.s.kids.length done := fun e he => by have := h.kid e he; rwa [List.append_nil] at this
  rw [List.append_nil] at he
  exact all_alike h.top h1 _ e he (Nat.le_refl _)
/-- What lies at a place, told for the walk. -/
theorem PtT.out {W : World} {b o : Nat} {T : Tree} (h : PtT W b o T) : ∃ k n s a cap uq ul ud g, W.cell? ⟨b, o, none⟩ = some (.int .i64 k) ∧ W.cell? ⟨b, o + 1, none⟩ = some (.int .i64 n) ∧ W.cell? ⟨b, o + 2, none⟩ = some (.string s) ∧ W.cell? ⟨b, o + 3, none⟩ = some (.slice a T.kids.length cap) ∧ W.cell? ⟨b, o + 4, none⟩ = some (.slice uq ul ud) ∧
    T = .mk k n s T.kids T.keys ∧ Reads W (.slice uq ul ud) (strsV T.keys) ∧ T.kids.length ≤ maxLen ∧ (T.kids = [] ∨ a = some ⟨g, 0, none⟩) ∧ ∀ i (h : i < T.kids.length), PtT W g (i * 5) T.kids[i] := by
  cases h with
  | mk b o k n s l ks c u hp h0 h1 h2 h3 h4 hs hm hk g a cap hc hcap ha hg =>
    obtain ⟨uq, ud, eu, _⟩ := reads_strs hk.1
    subst eu hc
    exact ⟨k, n, s, a, cap, uq, _, ud, g, h0, h1, h2, h3, h4, rfl, hk.1, hm, ha, hg⟩

end Go.Proofs.Ytbkeenhmhibhhaa

/-! Whether two values are alike, as the program asks it, from place to place: a contract for the walks; conditions: the values are copies that may be written, and hold at most 2 to the 20. -/
namespace Go.Proofs.Ytbkeenhmhibhhaa
open Go.RowKit
set_option linter.unusedSimpArgs false
set_option linter.unusedVariables false

set_option maxHeartbeats 16000000 in
set_option maxRecDepth 100000 in
theorem implSameVal_c (X Y : Tree) (S S' : Nat → Prop) (lo mid hi lo' mid' hi' : Nat) (x1 x2 : Int) (x3 : ByteArray) (x4 : Option Addr) (x5 x6 : Nat) (x7 : Option Addr) (x8 x9 : Nat) (y1 y2 : Int) (y3 : ByteArray) (y4 : Option Addr) (y5 y6 : Nat) (y7 : Option Addr) (y8 y9 : Nat) (w : World) (hx : Lies S w (.agg #[.int .i64 x1, .int .i64 x2, .string x3, .slice x4 x5 x6, .slice x7 x8 x9]) X) (hy : Lies S' w (.agg #[.int .i64 y1, .int .i64 y2, .string y3, .slice y4 y5 y6, .slice y7 y8 y9]) Y) (hS : ∀ b, S b → b < w.heap.size) (hS' : ∀ b, S' b → b < w.heap.size) (ox : OwnT lo mid hi w (.agg #[.int .i64 x1, .int .i64 x2, .string x3, .slice x4 x5 x6, .slice x7 x8 x9]) X) (oy : OwnT lo' mid' hi' w (.agg #[.int .i64 y1, .int .i64 y2, .string y3, .slice y4 y5 y6, .slice y7 y8 y9]) Y) (hw : X.wt ≤ 1048576) :
    Calls Try.prog 7 #[.agg #[.int .i64 x1, .int .i64 x2, .string x3, .slice x4 x5 x6, .slice x7 x8 x9], .agg #[.int .i64 y1, .int .i64 y2, .string y3, .slice y4 y5 y6, .slice y7 y8 y9]] w fun e w' => ∃ r : Bool, e = .returned (.bool r) ∧ (r = true ↔ X = Y) ∧ Below w.heap.size w w' := by
  obtain ⟨i0, hi0, hz0, hz1, hz2⟩ := info_parts infoVp
  have hmm := @run_makeMap Try.prog
  have hN : X.tn ≤ 1048577 := by have := tn_wt X; omega
  obtain ⟨w0, hw0⟩ : ∃ w0, w0 = (w.alloc (.cells #[.int .i64 x1, .int .i64 x2, .string x3, .slice x4 x5 x6, .slice x7 x8 x9] 30 (0, 0))).alloc (.cells #[.int .i64 y1, .int .i64 y2, .string y3, .slice y4 y5 y6, .slice y7 y8 y9] 30 (0, 0)) := ⟨_, rfl⟩
  have z0 : w0.heap.size = w.heap.size + 2 := by rw [hw0]; simp
  have k0 : Below w.heap.size w w0 := by rw [hw0]; exact ((Below.refl _ _).alloc (Nat.le_refl _) _).alloc (by simp) _
  have hA : w0.heap[w.heap.size]? = some (.cells #[.int .i64 x1, .int .i64 x2, .string x3, .slice x4 x5 x6, .slice x7 x8 x9] 30 (0, 0)) := by rw [hw0, vheap_old _ _ (by simp), vheap_new]
  have hB : w0.heap[w.heap.size + 1]? = some (.cells #[.int .i64 y1, .int .i64 y2, .string y3, .slice y4 y5 y6, .slice y7 y8 y9] 30 (0, 0)) := by
    have h9 := vheap_new (w.alloc (.cells #[.int .i64 x1, .int .i64 x2, .string x3, .slice x4 x5 x6, .slice x7 x8 x9] 30 (0, 0))) (.cells #[.int .i64 y1, .int .i64 y2, .string y3, .slice y4 y5 y6, .slice y7 y8 y9] 30 (0, 0))
    rw [show (w.alloc (.cells #[.int .i64 x1, .int .i64 x2, .string x3, .slice x4 x5 x6, .slice x7 x8 x9] 30 (0, 0))).heap.size = w.heap.size + 1 by simp] at h9
    rw [hw0]; exact h9
  have PX := pt_box hx hS ox hA k0
  have PY := pt_box hy hS' oy hB k0
  obtain ⟨w2, hw2⟩ : ∃ w2, w2 = (w0.alloc (.cells #[.pointer (some ⟨w.heap.size, 0, none⟩), .pointer (some ⟨w.heap.size + 1, 0, none⟩)] 40 (0, 0))).alloc (.map #[] 0) := ⟨_, rfl⟩
  have z1 : (w0.alloc (.cells #[.pointer (some ⟨w.heap.size, 0, none⟩), .pointer (some ⟨w.heap.size + 1, 0, none⟩)] 40 (0, 0))).heap.size = w.heap.size + 3 := by simp [z0]
  have k2 : Below w0.heap.size w0 w2 := by rw [hw2]; exact ((Below.refl _ _).alloc (Nat.le_refl _) _).alloc (by rw [z1, z0]; omega) _
  have o2 : w2.ownsRow (w.heap.size + 2) 40 2 (.slice (some ⟨w.heap.size + 2, 0, none⟩) 1 1) 1 (flatP [⟨w.heap.size, 0, w.heap.size + 1, 0, X, Y⟩]) := by
    have h9 := World.ownsRow_lit (base := w.heap.size + 2) (e := 40) (size := 2) w0 #[.pointer (some ⟨w.heap.size, 0, none⟩), .pointer (some ⟨w.heap.size + 1, 0, none⟩)] 1 (by rw [z0]; omega) (by unfold maxLen; omega) rfl
    rw [z0] at h9
    rw [hw2]
    exact h9.alloc _
  have m2 : VpMap w2 (w.heap.size + 3) [] := ⟨#[], 0, by rw [hw2, ← z1]; exact vheap_new _ _, rfl, fun k hk => by cases hk⟩
  have st2 : SrS w0 X Y 1048577 [] [⟨w.heap.size, 0, w.heap.size + 1, 0, X, Y⟩] [] := by
    have hm1 : ∀ e : PE, e ∈ ([] : List PE) ++ [⟨w.heap.size, 0, w.heap.size + 1, 0, X, Y⟩] → e = ⟨w.heap.size, 0, w.heap.size + 1, 0, X, Y⟩ := fun e he => by simpa using he
    exact ⟨fun e he => by (rw [hm1 e he]; exact ⟨PX, PY⟩), fun h e he => by (rw [hm1 e he]; exact h), fun e he => (by cases he), fun e he => (by cases he), fun k hk => (by cases hk), ⟨_, List.mem_singleton.2 rfl, rfl, rfl⟩, by (rw [tnW_one]; exact hN), fun e he => by (rw [hm1 e he]; exact hw)⟩
  have HW : Hid (((((w.alloc (.cells #[.int .i64 x1, .int .i64 x2, .string x3, .slice x4 x5 x6, .slice x7 x8 x9] 30 (0, 0))).alloc (.cells #[.int .i64 y1, .int .i64 y2, .string y3, .slice y4 y5 y6, .slice y7 y8 y9] 30 (0, 0))).alloc (.cells #[.pointer (some ⟨w.heap.size, 0, none⟩), .pointer (some ⟨w.heap.size + 1, 0, none⟩)] 40 (0, 0))).alloc (.map #[] 0)) = w2) := by show _ = _; rw [hw2, hw0]
  clear hw0 hw2 hA hB PX PY hx hy ox oy hS hS' hw hN z1
  go_enter Try.func7, Try.ntmps7
  go_wp2_with fail
  rw [HW.out]
  clear HW
  have hz2' : w.heap.size + 4 ≤ w2.heap.size := by obtain ⟨_, _, h9, _⟩ := m2; have := (Array.getElem?_eq_some_iff.1 h9).1; omega
  have HM2 := hidden m2
  have HS2 := hidden st2
  clear m2 st2
  go_loopw [5] (fun v5 wr => ∃ (done work : List PE) (ks : List (Addr × Addr)) (g cap : Nat), v5 = .slice (some ⟨g, 0, none⟩) work.length cap ∧ wr.ownsRow (w.heap.size + 2) 40 2 (.slice (some ⟨g, 0, none⟩) work.length cap) work.length (flatP work) ∧ g ≠ w.heap.size + 3 ∧ Hid (VpMap wr (w.heap.size + 3) ks) ∧ Hid (SrS w0 X Y 1048577 done work ks) ∧ Below w0.heap.size w0 wr) (fun v5 wr => tnM w0 (w.heap.size + 2) v5 wr)
  case atStart => exact ⟨[], [⟨w.heap.size, 0, w.heap.size + 1, 0, X, Y⟩], [], w.heap.size + 2, 1, rfl, o2, by omega, HM2, HS2, k2⟩
  case round =>
    clear o2 HM2 HS2 k2 hz2'
    obtain ⟨wz, hwz⟩ : ∃ wz, wz = wr := ⟨_, rfl⟩
    subst hwz
    obtain ⟨done, work, ks, g, cap, rfl, hown, hg3, HMr, HSr, hbr⟩ := hrel
    rcases snoc_cases work with rfl | ⟨rest, E, rfl⟩
    · have HXY := hidden HSr.out.alike
      have HB9 := hidden (k0.trans (hbr.mono k0.size))
      clear hown HSr HMr
      go_wp2_with fail
      go_ret
      exact ⟨true, rfl, by simpa using HXY.out, HB9.out⟩
    · have HTM : Hid (tnM w0 (w.heap.size + 2) (.slice (some ⟨g, 0, none⟩) (rest ++ [E]).length cap) wz = tnW (rest ++ [E])) := tnM_eq hown (fun e he => HSr.out.ok e (List.mem_append_right _ he))
      obtain ⟨pb, po, qb, qo, s, t⟩ := E
      obtain ⟨p1, p2⟩ := HSr.out.ok ⟨pb, po, qb, qo, s, t⟩ (by simp)
      have P1 := p1
      have P2 := p2
      have PL1 := p1.pl
      have PL2 := p2.pl
      obtain ⟨sk, sn, ss, sl, sks⟩ := s
      obtain ⟨tk, tn, ts, tl, tks⟩ := t
      obtain ⟨_, _, _, sa, sc, sq, sm, sd, sg, f0, f1, f2, f3, f4, es, frd, flen, fnil, fkid⟩ := P1.out
      obtain ⟨_, _, _, ta, tc, tq, tm, td, tg, g0, g1, g2, g3, g4, et, grd, glen, gnil, gkid⟩ := P2.out
      injection es with e0 e1 e2 j1 j2
      injection et with e3 e4 e5 j3 j4
      clear j1 j2 j3 j4
      subst e0 e1 e2 e3 e4 e5
      simp only [Tree.kids, Tree.keys] at f3 g3 frd grd flen glen fnil gnil fkid gkid
      have hl9 := (flatP_last rest ⟨pb, po, qb, qo, .mk sk sn ss sl sks, .mk tk tn ts tl tks⟩)
      have hln : (rest ++ [(⟨pb, po, qb, qo, .mk sk sn ss sl sks, .mk tk tn ts tl tks⟩ : PE)]).length = rest.length + 1 := by simp
      have hcut := owns_cutH (k := rest.length) hown (by rw [hln]; omega)
      rw [flatP_take] at hcut
      have d0 : wz.cell? ⟨g, rest.length * 2, none⟩ = some (.pointer (some ⟨pb, po, none⟩)) := by rw [hown.cellAt _ (by rw [hln]; omega)]; exact hl9.1
      have d1 : wz.cell? ⟨g, rest.length * 2 + 1, none⟩ = some (.pointer (some ⟨qb, qo, none⟩)) := by rw [hown.cellAt _ (by rw [hln]; omega)]; exact hl9.2
      rw [hln] at HTM hown ⊢
      have hrl : rest.length + 1 ≤ 1048577 := by have h1 := len_tnW (rest ++ [(⟨pb, po, qb, qo, .mk sk sn ss sl sks, .mk tk tn ts tl tks⟩ : PE)]); have h2 := HSr.out.few; rw [hln] at h1; omega
      have hkl : sks.length ≤ 1048576 := by have h1 := HSr.out.wt ⟨pb, po, qb, qo, .mk sk sn ss sl sks, .mk tk tn ts tl tks⟩ (by simp); have h2 := keys_wt sk sn ss sl sks; have h3 : (Tree.mk sk sn ss sl sks).wt ≤ 1048576 := h1; omega
      have hbs := hbr.size
      have hg1 := hown.lt g rfl
      obtain ⟨n, hn⟩ : ∃ n, n = rest.length := ⟨_, rfl⟩
      rw [← hn] at d0 d1 hrl
      simp only [← hn]
      have hcap : n + 1 ≤ cap := by rw [hn]; exact (owns_cutH hown (Nat.le_refl _)).2
      have HCUT : Hid (wz.ownsRow (w.heap.size + 2) 40 2 (.slice (some ⟨g, 0, none⟩) n cap) n (flatP rest)) := by show World.ownsRow _ _ _ _ _ _ _; rw [hn]; exact hcut.1
      have hnp : (0 : Int) < ((n + 1 : Nat) : Int) := by omega
      have HN := hidden hn
      rw [← hn] at HTM
      have hpb : pb < w0.heap.size := by obtain ⟨_, _, h9⟩ := PL1; exact (Array.getElem?_eq_some_iff.1 h9).1
      have hqb : qb < w0.heap.size := by obtain ⟨_, _, h9⟩ := PL2; exact (Array.getElem?_eq_some_iff.1 h9).1
      obtain ⟨w1, hw1⟩ : ∃ w1, w1 = wz.alloc (.cells #[.pointer (some ⟨pb, po, none⟩), .pointer (some ⟨qb, qo, none⟩)] 40 (0, 0)) := ⟨_, rfl⟩
      have zz1 : w1.heap.size = wz.heap.size + 1 := by rw [hw1]; simp
      have kw1 : Below wz.heap.size wz w1 := by rw [hw1]; exact (Below.refl _ _).alloc (Nat.le_refl _) _
      have HAB : Hid (w1.heap[wz.heap.size]? = some (.cells #[.pointer (some ⟨pb, po, none⟩), .pointer (some ⟨qb, qo, none⟩)] 40 (0, 0))) := by show _ = _; rw [hw1]; exact vheap_new _ _
      have HW1 : Hid (wz.alloc (.cells #[.pointer (some ⟨pb, po, none⟩), .pointer (some ⟨qb, qo, none⟩)] 40 (0, 0)) = w1) := hw1.symm
      have HB1 : Hid (Below w0.heap.size w0 w1) := hbr.trans (kw1.mono hbr.size)
      have HKW := hidden kw1
      obtain ⟨r, hr⟩ : ∃ r, r = topB (.mk sk sn ss sl sks) (.mk tk tn ts tl tks) := ⟨_, rfl⟩
      have HTOP : Hid (∀ W, Below w0.heap.size w0 W → Calls Try.prog 14 #[.agg #[.int .i64 sk, .int .i64 sn, .string ss, .slice sa sl.length sc, .slice sq sm sd], .agg #[.int .i64 tk, .int .i64 tn, .string ts, .slice ta tl.length tc, .slice tq tm td]] W fun e w' => e = .returned (.bool r) ∧ Below W.heap.size W w') := fun W h => by
        rw [hr]
        exact sameAtTop_c sk sn ss sa sl.length sc (.slice sq sm sd) sks tk tn ts ta tl.length tc (.slice tq tm td) tks W (frd.below h) (grd.below h) hkl
      have HR := hidden hr
      have KEEP : Hid (∀ W, Below w1.heap.size w1 W → W.cell? ⟨wz.heap.size, 0, none⟩ = some (.pointer (some ⟨pb, po, none⟩)) ∧ W.cell? ⟨wz.heap.size, 1, none⟩ = some (.pointer (some ⟨qb, qo, none⟩)) ∧ W.cell? ⟨pb, po, none⟩ = some (.int .i64 sk) ∧ W.cell? ⟨pb, po + 1, none⟩ = some (.int .i64 sn) ∧ W.cell? ⟨pb, po + 2, none⟩ = some (.string ss) ∧ W.cell? ⟨pb, po + 3, none⟩ = some (.slice sa sl.length sc) ∧ W.cell? ⟨pb, po + 4, none⟩ = some (.slice sq sm sd) ∧ W.cell? ⟨qb, qo, none⟩ = some (.int .i64 tk) ∧ W.cell? ⟨qb, qo + 1, none⟩ = some (.int .i64 tn) ∧ W.cell? ⟨qb, qo + 2, none⟩ = some (.string ts) ∧ W.cell? ⟨qb, qo + 3, none⟩ = some (.slice ta tl.length tc) ∧ W.cell? ⟨qb, qo + 4, none⟩ = some (.slice tq tm td)) := fun W h => by
        have hb : Below w0.heap.size w0 W := HB1.out.trans (h.mono HB1.out.size)
        have hX : W.heap[wz.heap.size]? = some (.cells #[.pointer (some ⟨pb, po, none⟩), .pointer (some ⟨qb, qo, none⟩)] 40 (0, 0)) := (h.block _ (by omega)).trans HAB.out
        exact ⟨vblk_cell hX 0, vblk_cell hX 1, (hb.cell (p := ⟨pb, po, none⟩) hpb).trans f0, (hb.cell (p := ⟨pb, po + 1, none⟩) hpb).trans f1, (hb.cell (p := ⟨pb, po + 2, none⟩) hpb).trans f2, (hb.cell (p := ⟨pb, po + 3, none⟩) hpb).trans f3, (hb.cell (p := ⟨pb, po + 4, none⟩) hpb).trans f4, (hb.cell (p := ⟨qb, qo, none⟩) hqb).trans g0, (hb.cell (p := ⟨qb, qo + 1, none⟩) hqb).trans g1, (hb.cell (p := ⟨qb, qo + 2, none⟩) hqb).trans g2, (hb.cell (p := ⟨qb, qo + 3, none⟩) hqb).trans g3, (hb.cell (p := ⟨qb, qo + 4, none⟩) hqb).trans g4⟩
      have HFK := hidden fkid
      have HGK := hidden gkid
      have HFN := hidden fnil
      have HGN := hidden gnil
      have HHB := hidden hbr
      have HF3 := hidden f3
      have HG3 := hidden g3
      clear hown hcut hl9 hln hn hw1 kw1 hr frd grd f0 f1 f2 f3 f4 g0 g1 g2 g3 g4 fkid gkid fnil gnil p1 p2 PL1 PL2 hkl hbr
      go_wp2_with fail
      rw [HW1.out]
      clear HW1
      have hd0 : Below w1.heap.size w1 w1.drew := (Below.refl _ _).drew
      refine wp_region_held_drew (S := (fun W => W.cell? ⟨wz.heap.size, 0, none⟩ = some (.pointer (some ⟨pb, po, none⟩)) ∧ W.cell? ⟨wz.heap.size, 1, none⟩ = some (.pointer (some ⟨qb, qo, none⟩)) ∧ W.cell? ⟨pb, po, none⟩ = some (.int .i64 sk) ∧ W.cell? ⟨pb, po + 1, none⟩ = some (.int .i64 sn) ∧ W.cell? ⟨pb, po + 2, none⟩ = some (.string ss) ∧ W.cell? ⟨pb, po + 3, none⟩ = some (.slice sa sl.length sc) ∧ W.cell? ⟨pb, po + 4, none⟩ = some (.slice sq sm sd) ∧ W.cell? ⟨qb, qo, none⟩ = some (.int .i64 tk) ∧ W.cell? ⟨qb, qo + 1, none⟩ = some (.int .i64 tn) ∧ W.cell? ⟨qb, qo + 2, none⟩ = some (.string ts) ∧ W.cell? ⟨qb, qo + 3, none⟩ = some (.slice ta tl.length tc) ∧ W.cell? ⟨qb, qo + 4, none⟩ = some (.slice tq tm td))) (by kernel_rfl) ?SR10 (fun hHeld => ?_)
      case SR10 => (first | (with_reducible exact KEEP.out _ hd1) | (with_reducible exact KEEP.out _ hd0))
      refine wpAnyH_take (i := 0) (oi := _) (v := ?vR10) rfl (by kernel_rfl) (by kernel_rfl) (by kernel_rfl) (fun _ _ _ h => h) (Or.inl ⟨by rfl, ?yR10⟩) hHeld ?_
      case yR10 => (intro w hSw; (try dsimp only at hSw); go_simp <;> with_reducible rfl)
      try simp only [Act.put, List.getElem_toArray, List.getElem_cons_zero, List.getElem_cons_succ, List.setIfInBounds_toArray, List.set_cons_zero, List.set_cons_succ]
      refine wpAnyH_take (i := 1) (oi := _) (v := ?vR11) rfl (by kernel_rfl) (by kernel_rfl) (by kernel_rfl) (fun _ _ _ h => h) (Or.inl ⟨by rfl, ?yR11⟩) hHeld ?_
      case yR11 => (intro w hSw; (try dsimp only at hSw); go_simp <;> with_reducible rfl)
      try simp only [Act.put, List.getElem_toArray, List.getElem_cons_zero, List.getElem_cons_succ, List.setIfInBounds_toArray, List.set_cons_zero, List.set_cons_succ]
      refine wpAnyH_take (i := 2) (oi := _) (v := ?vR12) rfl (by kernel_rfl) (by kernel_rfl) (by kernel_rfl) (fun _ _ _ h => h) (Or.inl ⟨by rfl, ?yR12⟩) hHeld ?_
      case yR12 => (intro w hSw; (try dsimp only at hSw); go_simp <;> with_reducible rfl)
      try simp only [Act.put, List.getElem_toArray, List.getElem_cons_zero, List.getElem_cons_succ, List.setIfInBounds_toArray, List.set_cons_zero, List.set_cons_succ]
      refine wpAnyH_take (i := 3) (oi := _) (v := ?vR13) rfl (by kernel_rfl) (by kernel_rfl) (by kernel_rfl) (fun _ _ _ h => h) (Or.inl ⟨by rfl, ?yR13⟩) hHeld ?_
      case yR13 => (intro w hSw; (try dsimp only at hSw); go_simp <;> with_reducible rfl)
      try simp only [Act.put, List.getElem_toArray, List.getElem_cons_zero, List.getElem_cons_succ, List.setIfInBounds_toArray, List.set_cons_zero, List.set_cons_succ]
      refine wpAnyH_take (i := 4) (oi := _) (v := ?vR14) rfl (by kernel_rfl) (by kernel_rfl) (by kernel_rfl) (fun _ _ _ h => h) (Or.inl ⟨by rfl, ?yR14⟩) hHeld ?_
      case yR14 => (intro w hSw; (try dsimp only at hSw); go_simp <;> with_reducible rfl)
      try simp only [Act.put, List.getElem_toArray, List.getElem_cons_zero, List.getElem_cons_succ, List.setIfInBounds_toArray, List.set_cons_zero, List.set_cons_succ]
      refine wpAnyH_take (i := 5) (oi := _) (v := ?vR15) rfl (by kernel_rfl) (by kernel_rfl) (by kernel_rfl) (fun _ _ _ h => h) (Or.inl ⟨by rfl, ?yR15⟩) hHeld ?_
      case yR15 => (intro w hSw; (try dsimp only at hSw); go_simp <;> with_reducible rfl)
      try simp only [Act.put, List.getElem_toArray, List.getElem_cons_zero, List.getElem_cons_succ, List.setIfInBounds_toArray, List.set_cons_zero, List.set_cons_succ]
      refine wpAnyH_take (i := 6) (oi := _) (v := ?vR16) rfl (by kernel_rfl) (by kernel_rfl) (by kernel_rfl) (fun _ _ _ h => h) (Or.inl ⟨by rfl, ?yR16⟩) hHeld ?_
      case yR16 => (intro w hSw; (try dsimp only at hSw); go_simp <;> with_reducible rfl)
      try simp only [Act.put, List.getElem_toArray, List.getElem_cons_zero, List.getElem_cons_succ, List.setIfInBounds_toArray, List.set_cons_zero, List.set_cons_succ]
      refine wpAnyH_take (i := 7) (oi := _) (v := ?vR17) rfl (by kernel_rfl) (by kernel_rfl) (by kernel_rfl) (fun _ _ _ h => h) (Or.inl ⟨by rfl, ?yR17⟩) hHeld ?_
      case yR17 => (intro w hSw; (try dsimp only at hSw); go_simp <;> with_reducible rfl)
      try simp only [Act.put, List.getElem_toArray, List.getElem_cons_zero, List.getElem_cons_succ, List.setIfInBounds_toArray, List.set_cons_zero, List.set_cons_succ]
      refine wpAnyH_ready (rs := [8]) (by kernel_rfl) (by simp) ?_
      refine AllReadyH.cons rfl (fun K hK => ?_) AllReadyH.nil
      go_simp
      go_wp2_with (go_at_call 14; refine (HTOP.out _ (HB1.out.trans (hd0.mono HB1.out.size))).mono ?_; rintro e w6 ⟨rfl, b6⟩; have hd1 : Below w1.heap.size w1 w6 := hd0.trans (b6.mono hd0.size))
      clear hHeld
      refine hK.out _ _ ?SR19 (fun hHeld => ?_)
      case SR19 => ((try dsimp only); first | (with_reducible exact KEEP.out _ hd1) | (with_reducible exact KEEP.out _ hd0))
      clear hK K
      refine wpAnyH_take (i := 9) (oi := _) (v := ?vR19) rfl (by kernel_rfl) (by kernel_rfl) (by kernel_rfl) (fun _ _ _ h => h) (Or.inl ⟨by rfl, ?yR19⟩) hHeld ?_
      case yR19 => (intro w hSw; (try dsimp only at hSw); go_simp <;> with_reducible rfl)
      try simp only [Act.put, List.getElem_toArray, List.getElem_cons_zero, List.getElem_cons_succ, List.setIfInBounds_toArray, List.set_cons_zero, List.set_cons_succ]
      refine wpAnyH_done (by kernel_rfl) ?_ _
      clear hHeld HTOP
      have ha6 := KEEP.out _ hd1
      clear KEEP
      cases r with
      | false =>
        have HNE : Hid (¬ X = Y) := fun h => by
          have h9 := HSr.out.al h ⟨pb, po, qb, qo, .mk sk sn ss sl sks, .mk tk tn ts tl tks⟩ (by simp)
          have h8 : Tree.mk sk sn ss sl sks = Tree.mk tk tn ts tl tks := h9
          have h7 := HR.out
          rw [h8, top_refl] at h7
          cases h7
        have HBE : Hid (Below w.heap.size w w6) := k0.trans ((HB1.out.trans (hd1.mono HB1.out.size)).mono k0.size)
        clear ha6 HSr HMr HTM HCUT HFK HGK HFN HGN HHB HB1 HKW HAB HN d0 d1 hd0 hd1 b6 HR
        go_wp2_with fail
        go_ret
        exact ⟨false, rfl, by simpa using HNE.out, HBE.out⟩
      | true =>
        have HLL : Hid (sl.length = tl.length) := top_len HR.out.symm
        obtain ⟨NN, hNN⟩ : ∃ N, N = tnW (rest ++ [(⟨pb, po, qb, qo, .mk sk sn ss sl sks, .mk tk tn ts tl tks⟩ : PE)]) := ⟨_, rfl⟩
        have HNL : Hid (NN ≤ 1048577) := by show _ ≤ _; rw [hNN]; exact HSr.out.few
        have HK0 : Hid (SrK w0 X Y NN ⟨pb, po, qb, qo, .mk sk sn ss sl sks, .mk tk tn ts tl tks⟩ 0 done rest ks) := (sq_mono HSr.out (Nat.le_of_eq hNN.symm)).pop HR.out.symm
        rw [← hNN] at HTM
        have hk6 : Below wz.heap.size wz w6 := HKW.out.trans (hd1.mono (by omega))
        have HB6 : Hid (Below w0.heap.size w0 w6) := HB1.out.trans (hd1.mono HB1.out.size)
        have HA6 : Hid (w6.heap[wz.heap.size]? = some (.cells #[.pointer (some ⟨pb, po, none⟩), .pointer (some ⟨qb, qo, none⟩)] 40 (0, 0))) := (hd1.block _ (by omega)).trans HAB.out
        have HM6 : Hid (VpMap w6 (w.heap.size + 3) ks) := HMr.out.kept2 (hk6.block _ HMr.out.lt) HSr.out.key HSr.out.ok HB6.out
        have HO6 : Hid (w6.ownsRow (w.heap.size + 2) 40 2 (.slice (some ⟨g, 0, none⟩) rest.length cap) rest.length (flatP rest)) := by
          have h9 := owns_of_belowH HCUT.out hk6
          rw [HN.out] at h9
          exact h9
        have HZ6 : Hid (wz.heap.size < w6.heap.size) := by show _ < _; have := hd1.size; omega
        have HG6 : Hid (g ≠ w.heap.size + 3 ∧ g ≠ wz.heap.size) := ⟨hg3, by omega⟩
        have HHW : Hid (w0.heap.size = w.heap.size + 2 ∧ w.heap.size + 3 < wz.heap.size) := ⟨z0, HMr.out.lt⟩
        obtain ⟨q0, q1, q2, q3, q4, q5, q6, q7, q8, q9, qa, qb9⟩ := ha6
        clear q2 q3 q4 q6 q7 q8 q9 qb9 HSr HMr HCUT HB1 HKW HAB d0 d1 hd0 hd1 b6 HR hNN hg3 hg1 hrl hcap hbs zz1
        have hsl : ¬ 9223372036854775807 < sl.length := by unfold maxLen at flen; omega
        go_wp2_with fail
        simp only [Bool.not_true]
        go_loopw [5, 43] (fun v5 vi wq => ∃ (i : Nat) (work : List PE) (ks : List (Addr × Addr)) (g cap : Nat), i ≤ sl.length ∧ vi = .int .i64 (i : Int) ∧ v5 = .slice (some ⟨g, 0, none⟩) work.length cap ∧ Hid (wq.ownsRow (w.heap.size + 2) 40 2 (.slice (some ⟨g, 0, none⟩) work.length cap) work.length (flatP work)) ∧ Hid (g ≠ w.heap.size + 3 ∧ g ≠ wz.heap.size) ∧ Hid (VpMap wq (w.heap.size + 3) ks) ∧ Hid (SrK w0 X Y NN ⟨pb, po, qb, qo, .mk sk sn ss sl sks, .mk tk tn ts tl tks⟩ i done work ks) ∧ Hid (wq.heap[wz.heap.size]? = some (.cells #[.pointer (some ⟨pb, po, none⟩), .pointer (some ⟨qb, qo, none⟩)] 40 (0, 0))) ∧ wz.heap.size < wq.heap.size ∧ Hid (Below w0.heap.size w0 wq)) (fun _ vi _ => sl.length - (intOf vi).toNat)
        case atStart => exact ⟨0, rest, ks, g, cap, Nat.zero_le _, rfl, by rw [HN.out], HO6, HG6, HM6, HK0, HA6, HZ6.out, HB6⟩
        case round =>
          clear HO6 HG6 HM6 HK0 HA6 HZ6 HB6 q0 q1 q5 qa hk6 HN
          obtain ⟨i, work, ks', g', cap', hi, rfl, rfl, HO, HG, HM, HK, HA, hzq, HB⟩ := hrel
          by_cases hlt : i < sl.length
          · have hlt' : i < tl.length := by have := HLL.out; omega
            obtain rfl : sa = some ⟨sg, 0, none⟩ := by
              rcases HFN.out with h9 | h9
              · rw [h9] at hlt; simp at hlt
              · exact h9
            obtain rfl : ta = some ⟨tg, 0, none⟩ := by
              rcases HGN.out with h9 | h9
              · rw [h9] at hlt'; simp at hlt'
              · exact h9
            have HPA : Hid (PtT w0 sg (i * 5) sl[i]) := HFK.out i hlt
            have HPB : Hid (PtT w0 tg (i * 5) tl[i]) := HGK.out i hlt'
            have KEEP : Hid (∀ W, Below wr.heap.size wr W → W.cell? ⟨wz.heap.size, 0, none⟩ = some (.pointer (some ⟨pb, po, none⟩)) ∧ W.cell? ⟨wz.heap.size, 1, none⟩ = some (.pointer (some ⟨qb, qo, none⟩)) ∧ W.cell? ⟨pb, po + 3, none⟩ = some (.slice (some ⟨sg, 0, none⟩) sl.length sc) ∧ W.cell? ⟨qb, qo + 3, none⟩ = some (.slice (some ⟨tg, 0, none⟩) tl.length tc)) := fun W h => by
              have hb : Below w0.heap.size w0 W := HB.out.trans (h.mono HB.out.size)
              have hX : W.heap[wz.heap.size]? = some (.cells #[.pointer (some ⟨pb, po, none⟩), .pointer (some ⟨qb, qo, none⟩)] 40 (0, 0)) := (h.block _ hzq).trans HA.out
              exact ⟨vblk_cell hX 0, vblk_cell hX 1, (hb.cell (p := ⟨pb, po + 3, none⟩) hpb).trans HF3.out, (hb.cell (p := ⟨qb, qo + 3, none⟩) hqb).trans HG3.out⟩
            have hd0 : Below wr.heap.size wr wr.drew := (Below.refl _ _).drew
            clear HFK HGK HFN HGN HHB
            go_wp2_with fail
            refine wp_region_held_drew (S := (fun W => W.cell? ⟨wz.heap.size, 0, none⟩ = some (.pointer (some ⟨pb, po, none⟩)) ∧ W.cell? ⟨wz.heap.size, 1, none⟩ = some (.pointer (some ⟨qb, qo, none⟩)) ∧ W.cell? ⟨pb, po + 3, none⟩ = some (.slice (some ⟨sg, 0, none⟩) sl.length sc) ∧ W.cell? ⟨qb, qo + 3, none⟩ = some (.slice (some ⟨tg, 0, none⟩) tl.length tc))) (by kernel_rfl) ?SR20 (fun hHeld => ?_)
            case SR20 => ((with_reducible exact KEEP.out _ hd0))
            refine wpAnyH_take (i := 0) (oi := _) (v := ?vR20) rfl (by kernel_rfl) (by kernel_rfl) (by kernel_rfl) (fun _ _ _ h => h) (Or.inl ⟨by rfl, ?yR20⟩) hHeld ?_
            case yR20 => (intro w hSw; (try dsimp only at hSw); go_simp <;> with_reducible rfl)
            try simp only [Act.put, List.getElem_toArray, List.getElem_cons_zero, List.getElem_cons_succ, List.setIfInBounds_toArray, List.set_cons_zero, List.set_cons_succ]
            refine wpAnyH_take (i := 1) (oi := _) (v := ?vR21) rfl (by kernel_rfl) (by kernel_rfl) (by kernel_rfl) (fun _ _ _ h => h) (Or.inl ⟨by rfl, ?yR21⟩) hHeld ?_
            case yR21 => (intro w hSw; (try dsimp only at hSw); go_simp <;> with_reducible rfl)
            try simp only [Act.put, List.getElem_toArray, List.getElem_cons_zero, List.getElem_cons_succ, List.setIfInBounds_toArray, List.set_cons_zero, List.set_cons_succ]
            refine wpAnyH_take (i := 2) (oi := _) (v := ?vR22) rfl (by kernel_rfl) (by kernel_rfl) (by kernel_rfl) (fun _ _ _ h => h) (Or.inl ⟨by rfl, ?yR22⟩) hHeld ?_
            case yR22 => (intro w hSw; (try dsimp only at hSw); go_simp <;> with_reducible rfl)
            try simp only [Act.put, List.getElem_toArray, List.getElem_cons_zero, List.getElem_cons_succ, List.setIfInBounds_toArray, List.set_cons_zero, List.set_cons_succ]
            refine wpAnyH_take (i := 3) (oi := _) (v := ?vR23) rfl (by kernel_rfl) (by kernel_rfl) (by kernel_rfl) (fun _ _ _ h => h) (Or.inl ⟨by rfl, ?yR23⟩) hHeld ?_
            case yR23 => (intro w hSw; (try dsimp only at hSw); go_simp <;> with_reducible rfl)
            try simp only [Act.put, List.getElem_toArray, List.getElem_cons_zero, List.getElem_cons_succ, List.setIfInBounds_toArray, List.set_cons_zero, List.set_cons_succ]
            refine wpAnyH_take (i := 4) (oi := _) (v := ?vR24) rfl (by kernel_rfl) (by kernel_rfl) (by kernel_rfl) (fun _ _ _ h => h) (Or.inl ⟨by rfl, ?yR24⟩) hHeld ?_
            case yR24 => (intro w hSw; (try dsimp only at hSw); go_simp <;> with_reducible rfl)
            try simp only [Act.put, List.getElem_toArray, List.getElem_cons_zero, List.getElem_cons_succ, List.setIfInBounds_toArray, List.set_cons_zero, List.set_cons_succ]
            refine wpAnyH_take (i := 5) (oi := _) (v := ?vR25) rfl (by kernel_rfl) (by kernel_rfl) (by kernel_rfl) (fun _ _ _ h => h) (Or.inl ⟨by rfl, ?yR25⟩) hHeld ?_
            case yR25 => (intro w hSw; (try dsimp only at hSw); go_simp <;> with_reducible rfl)
            try simp only [Act.put, List.getElem_toArray, List.getElem_cons_zero, List.getElem_cons_succ, List.setIfInBounds_toArray, List.set_cons_zero, List.set_cons_succ]
            refine wpAnyH_take (i := 6) (oi := _) (v := ?vR26) rfl (by kernel_rfl) (by kernel_rfl) (by kernel_rfl) (fun _ _ _ h => h) (Or.inl ⟨by rfl, ?yR26⟩) hHeld ?_
            case yR26 => (intro w hSw; (try dsimp only at hSw); go_simp <;> with_reducible rfl)
            try simp only [Act.put, List.getElem_toArray, List.getElem_cons_zero, List.getElem_cons_succ, List.setIfInBounds_toArray, List.set_cons_zero, List.set_cons_succ]
            refine wpAnyH_take (i := 7) (oi := _) (v := ?vR27) rfl (by kernel_rfl) (by kernel_rfl) (by kernel_rfl) (fun _ _ _ h => h) (Or.inl ⟨by rfl, ?yR27⟩) hHeld ?_
            case yR27 => (intro w hSw; (try dsimp only at hSw); go_simp <;> with_reducible rfl)
            try simp only [Act.put, List.getElem_toArray, List.getElem_cons_zero, List.getElem_cons_succ, List.setIfInBounds_toArray, List.set_cons_zero, List.set_cons_succ]
            refine wpAnyH_take (i := 8) (oi := _) (v := ?vR28) rfl (by kernel_rfl) (by kernel_rfl) (by kernel_rfl) (fun _ _ _ h => h) (Or.inl ⟨by rfl, ?yR28⟩) hHeld ?_
            case yR28 => (intro w hSw; (try dsimp only at hSw); go_simp <;> with_reducible rfl)
            try simp only [Act.put, List.getElem_toArray, List.getElem_cons_zero, List.getElem_cons_succ, List.setIfInBounds_toArray, List.set_cons_zero, List.set_cons_succ]
            refine wpAnyH_take (i := 9) (oi := _) (v := ?vR29) rfl (by kernel_rfl) (by kernel_rfl) (by kernel_rfl) (fun _ _ _ h => h) (Or.inl ⟨by rfl, ?yR29⟩) hHeld ?_
            case yR29 => (intro w hSw; (try dsimp only at hSw); go_simp <;> with_reducible rfl)
            try simp only [Act.put, List.getElem_toArray, List.getElem_cons_zero, List.getElem_cons_succ, List.setIfInBounds_toArray, List.set_cons_zero, List.set_cons_succ]
            refine wpAnyH_take (i := 10) (oi := _) (v := ?vR210) rfl (by kernel_rfl) (by kernel_rfl) (by kernel_rfl) (fun _ _ _ h => h) (Or.inl ⟨by rfl, ?yR210⟩) hHeld ?_
            case yR210 => (intro w hSw; (try dsimp only at hSw); go_simp <;> with_reducible rfl)
            try simp only [Act.put, List.getElem_toArray, List.getElem_cons_zero, List.getElem_cons_succ, List.setIfInBounds_toArray, List.set_cons_zero, List.set_cons_succ]
            refine wpAnyH_take (i := 11) (oi := _) (v := ?vR211) rfl (by kernel_rfl) (by kernel_rfl) (by kernel_rfl) (fun _ _ _ h => h) (Or.inl ⟨by rfl, ?yR211⟩) hHeld ?_
            case yR211 => (intro w hSw; (try dsimp only at hSw); go_simp <;> with_reducible rfl)
            try simp only [Act.put, List.getElem_toArray, List.getElem_cons_zero, List.getElem_cons_succ, List.setIfInBounds_toArray, List.set_cons_zero, List.set_cons_succ]
            refine wpAnyH_take (i := 12) (oi := _) (v := ?vR212) rfl (by kernel_rfl) (by kernel_rfl) (by kernel_rfl) (fun _ _ _ h => h) (Or.inl ⟨by rfl, ?yR212⟩) hHeld ?_
            case yR212 => (intro w hSw; (try dsimp only at hSw); go_simp <;> with_reducible rfl)
            try simp only [Act.put, List.getElem_toArray, List.getElem_cons_zero, List.getElem_cons_succ, List.setIfInBounds_toArray, List.set_cons_zero, List.set_cons_succ]
            refine wpAnyH_take (i := 13) (oi := _) (v := ?vR213) rfl (by kernel_rfl) (by kernel_rfl) (by kernel_rfl) (fun _ _ _ h => h) (Or.inl ⟨by rfl, ?yR213⟩) hHeld ?_
            case yR213 => (intro w hSw; (try dsimp only at hSw); go_simp <;> with_reducible rfl)
            try simp only [Act.put, List.getElem_toArray, List.getElem_cons_zero, List.getElem_cons_succ, List.setIfInBounds_toArray, List.set_cons_zero, List.set_cons_succ]
            refine wpAnyH_take (i := 14) (oi := _) (v := ?vR214) rfl (by kernel_rfl) (by kernel_rfl) (by kernel_rfl) (fun _ _ _ h => h) (Or.inl ⟨by rfl, ?yR214⟩) hHeld ?_
            case yR214 => (intro w hSw; (try dsimp only at hSw); go_simp <;> with_reducible rfl)
            try simp only [Act.put, List.getElem_toArray, List.getElem_cons_zero, List.getElem_cons_succ, List.setIfInBounds_toArray, List.set_cons_zero, List.set_cons_succ]
            refine wpAnyH_ready (rs := [15]) (by kernel_rfl) (by simp) ?_
            refine AllReadyH.cons rfl (fun K hK => ?_) AllReadyH.nil
            go_simp
            clear hHeld
            refine hK.out _ _ ?SR216 (fun hHeld => ?_)
            case SR216 => ((try dsimp only); exact KEEP.out _ (hd0.alloc hd0.size _))
            clear hK K
            refine wpAnyH_ready (rs := [16]) (by kernel_rfl) (by simp) ?_
            refine AllReadyH.cons rfl (fun K hK => ?_) AllReadyH.nil
            go_simp
            clear hHeld
            refine hK.out _ _ ?SR217 (fun hHeld => ?_)
            case SR217 => ((try dsimp only); exact KEEP.out _ (hd0.alloc hd0.size _))
            clear hK K
            refine wpAnyH_done (by kernel_rfl) ?_ _
            clear hHeld KEEP
            obtain ⟨w3, hw3⟩ : ∃ w3, w3 = (wr.alloc (.cells #[.pointer (some ⟨sg, i * 5, none⟩), .pointer (some ⟨tg, i * 5, none⟩)] 40 (0, 0))).drew := ⟨_, rfl⟩
            rw [← hw3]
            have zz3 : w3.heap.size = wr.heap.size + 1 := by rw [hw3]; simp [World.drew]
            have k3 : Below wr.heap.size wr w3 := by rw [hw3]; exact ((Below.refl _ _).alloc (Nat.le_refl _) _).drew
            have hX3 : w3.heap[wr.heap.size]? = some (.cells #[.pointer (some ⟨sg, i * 5, none⟩), .pointer (some ⟨tg, i * 5, none⟩)] 40 (0, 0)) := by rw [hw3]; exact vheap_new _ _
            have c0 : w3.cell? ⟨wr.heap.size, 0, none⟩ = some (.pointer (some ⟨sg, i * 5, none⟩)) := vblk_cell hX3 0
            have c1 : w3.cell? ⟨wr.heap.size, 1, none⟩ = some (.pointer (some ⟨tg, i * 5, none⟩)) := vblk_cell hX3 1
            have HB3 : Hid (Below w0.heap.size w0 w3) := HB.out.trans (k3.mono HB.out.size)
            have HO3 : Hid (w3.ownsRow (w.heap.size + 2) 40 2 (.slice (some ⟨g', 0, none⟩) work.length cap') work.length (flatP work)) := owns_of_belowH HO.out k3
            have HM3 : Hid (VpMap w3 (w.heap.size + 3) ks') := HM.out.kept2 (k3.block _ HM.out.lt) HK.out.key HK.out.ok HB3.out
            have HA3 : Hid (w3.heap[wz.heap.size]? = some (.cells #[.pointer (some ⟨pb, po, none⟩), .pointer (some ⟨qb, qo, none⟩)] 40 (0, 0))) := (k3.block _ hzq).trans HA.out
            have HP1 : Hid (PlB w3 sg) := HPA.out.pl.below HB3.out
            have HP2 : Hid (PlB w3 tg) := HPB.out.pl.below HB3.out
            have HX3 := hidden hX3
            clear hw3 hX3 k3 hd0
            obtain ⟨F, hF⟩ : ∃ F : PE, F = ⟨sg, i * 5, tg, i * 5, sl[i], tl[i]⟩ := ⟨_, rfl⟩
            have HFO : Hid (F.ok w0) := by show F.ok w0; rw [hF]; exact ⟨HPA.out, HPB.out⟩
            have HFK : Hid (F.key = ((⟨sg, i * 5, none⟩ : Addr), (⟨tg, i * 5, none⟩ : Addr))) := by show _ = _; rw [hF]; rfl
            have HFS : Hid (F.s = sl[i] ∧ F.t = tl[i]) := by show _ ∧ _; rw [hF]; exact ⟨rfl, rfl⟩
            have HFF : Hid (flatP [F] = [.pointer (some ⟨sg, i * 5, none⟩), .pointer (some ⟨tg, i * 5, none⟩)]) := by show _ = _; rw [hF]; rfl
            clear hF HPA HPB HO HM HA HB
            by_cases hin : F.key ∈ ks'
            · have HQ : Hid (∀ r : Int, ((r = 0 ∧ ((⟨sg, i * 5, none⟩ : Addr), (⟨tg, i * 5, none⟩ : Addr)) ∉ ks') ∨ (r = 1 ∧ ((⟨sg, i * 5, none⟩ : Addr), (⟨tg, i * 5, none⟩ : Addr)) ∈ ks')) → r = 1) := fun r h => by
                rw [HFK.out] at hin
                rcases h with h | h
                · exact absurd hin h.2
                · exact h.1
              have HKN : Hid (SrK w0 X Y NN ⟨pb, po, qb, qo, .mk sk sn ss sl sks, .mk tk tn ts tl tks⟩ (i + 1) done work ks') := HK.out.old hlt hlt' hin HFO.out HFS.out.1 HFS.out.2
              clear hin HK HFO HFK HFS HFF HX3
              go_wp2_with (at_lookup; refine wpList_lookup_vp _ rfl _ _ rfl (w.heap.size + 3) ks' rfl HM3.out ⟨sg, i * 5, none⟩ ⟨tg, i * 5, none⟩ rfl HP1.out HP2.out ?_; intro r0 hr0; obtain rfl : r0 = 1 := HQ.out r0 hr0; clear hr0)
              go_roundw
              case rel => exact ⟨i + 1, work, ks', g', cap', by omega, by go_num, rfl, HO3, HG, HM3, HKN, HA3, by omega, HB3⟩
              case measure => simp [intOf]; omega
            · have HNI : Hid (((⟨sg, i * 5, none⟩ : Addr), (⟨tg, i * 5, none⟩ : Addr)) ∉ ks') := by show _ ∉ _; rw [← HFK.out]; exact hin
              have HQ : Hid (∀ r : Int, ((r = 0 ∧ ((⟨sg, i * 5, none⟩ : Addr), (⟨tg, i * 5, none⟩ : Addr)) ∉ ks') ∨ (r = 1 ∧ ((⟨sg, i * 5, none⟩ : Addr), (⟨tg, i * 5, none⟩ : Addr)) ∈ ks')) → r = 0) := fun r h => by
                rcases h with h | h
                · exact h.1
                · exact absurd h.2 HNI.out
              have HKN : Hid (SrK w0 X Y NN ⟨pb, po, qb, qo, .mk sk sn ss sl sks, .mk tk tn ts tl tks⟩ (i + 1) done (work ++ [F]) (ks' ++ [F.key])) := HK.out.new hlt hlt' HFO.out HFS.out.1 HFS.out.2
              have HLN : Hid (work.length ≤ 1048577) := by show _ ≤ _; have h1 := len_tnW work; have h2 := HK.out.few; have h3 := HNL.out; omega
              have hq3 : w.heap.size + 3 < wz.heap.size := HHW.out.2
              have HGL : Hid (w.heap.size + 2 ≤ g' ∧ g' < w3.heap.size) := HO3.out.lt g' rfl
              have HZ3 : Hid (w3.heap.size = wr.heap.size + 1) := zz3
              clear hin HK HFO HFS zz3
              go_wp2_with (first
                | (at_lookup; refine wpList_lookup_vp _ rfl _ _ rfl (w.heap.size + 3) ks' rfl HM3.out ⟨sg, i * 5, none⟩ ⟨tg, i * 5, none⟩ rfl HP1.out HP2.out ?_; intro r0 hr0; obtain rfl : r0 = 0 := HQ.out r0 hr0; clear hr0)
                | (at_mapUpdate; refine wpList_mapUpdate_vp _ rfl _ _ _ rfl (w.heap.size + 3) ks' rfl HM3.out ⟨sg, i * 5, none⟩ ⟨tg, i * 5, none⟩ rfl HP1.out HP2.out HNI.out rfl ?_; intro w4 hm4 gr4 sz4; have hX4 : w4.heap[wr.heap.size]? = some (.cells #[.pointer (some ⟨sg, i * 5, none⟩), .pointer (some ⟨tg, i * 5, none⟩)] 40 (0, 0)) := (gr4.block _ (by have := HZ3.out; omega) (by intro e; injection e with e; omega)).trans HX3.out; have e0 : w4.cell? ⟨wr.heap.size, 0, none⟩ = some (.pointer (some ⟨sg, i * 5, none⟩)) := vblk_cell hX4 0; have e1 : w4.cell? ⟨wr.heap.size, 1, none⟩ = some (.pointer (some ⟨tg, i * 5, none⟩)) := vblk_cell hX4 1; have HO4 : Hid (w4.ownsRow (w.heap.size + 2) 40 2 (.slice (some ⟨g', 0, none⟩) work.length cap') work.length (flatP work)) := HO3.out.kept gr4 (.inr (by show some g' ≠ some (w.heap.size + 3); intro e; injection e with e; exact HG.out.1 e)); have HM4 := hidden hm4; have HG4 := hidden gr4; have HRL : Hid ((w4.alloc (.cells #[.pointer (some ⟨sg, i * 5, none⟩), .pointer (some ⟨tg, i * 5, none⟩)] 40 (0, 0))).ownsRow 0 40 2 (.slice (some ⟨w4.heap.size, 0, none⟩) 1 1) 1 [.pointer (some ⟨sg, i * 5, none⟩), .pointer (some ⟨tg, i * 5, none⟩)]) := World.ownsRow_lit w4 #[.pointer (some ⟨sg, i * 5, none⟩), .pointer (some ⟨tg, i * 5, none⟩)] 1 (Nat.zero_le _) (by unfold maxLen; omega) rfl; have hB4 : w.heap.size + 2 ≤ (w4.alloc (.cells #[.pointer (some ⟨sg, i * 5, none⟩), .pointer (some ⟨tg, i * 5, none⟩)] 40 (0, 0))).heap.size := (by have := HZ3.out; simp; omega); have HZ4 := hidden sz4; clear hm4 hX4 gr4 sz4)
                | (at_builtin; go_loud (refine apAH rfl _ _ 41 rfl (w.heap.size + 2) 40 i0 (.agg #[.pointer none, .pointer none]) 2 16 Try.underlying41 hi0 hz0 hz1 hz2 rfl (by decide) g' work.length cap' (flatP work) rfl (HO4.out.alloc _) ⟨w4.heap.size, 0, none⟩ 1 1 [.pointer (some ⟨sg, i * 5, none⟩), .pointer (some ⟨tg, i * 5, none⟩)] rfl rfl (HRL.out.cells rfl) (two_one _ _) (by have := HLN.out; unfold maxLen; omega) (by have := HLN.out; omega) hB4 ?_); intro v6 w6 o6 gr6 b6; have HO6 := hidden o6; have HG6 := hidden gr6; have HB6 := hidden b6; clear o6 gr6 b6))
              obtain ⟨g6, hg6, hne6⟩ : ∃ g6, v6.ownBlock = some g6 ∧ (g6 = g' ∨ g6 = w4.heap.size + 1) := by
                rcases HB6.out with h | h
                · exact ⟨_, h, .inl rfl⟩
                · exact ⟨_, h, .inr (by simp)⟩
              obtain ⟨cap6, rfl⟩ := row_at HO6.out hg6
              have hgl := HGL.out
              have sz4 := HZ4.out
              have zz3 := HZ3.out
              have hgn := HG.out
              have lt5 : (w4.alloc (.cells #[.pointer (some ⟨sg, i * 5, none⟩), .pointer (some ⟨tg, i * 5, none⟩)] 40 (0, 0))).heap.size = w4.heap.size + 1 := by simp
              have hmb : w.heap.size + 3 < w4.heap.size := by omega
              have HB7 : Hid (Below w0.heap.size w0 w6) := by
                have hq0 := HHW.out.1
                have hz0 := HB3.out.size
                have h4 := HB3.out.grown HG4.out hz0 (fun k hk => by injection hk with hk; omega)
                have h5 := h4.alloc h4.size (.cells #[.pointer (some ⟨sg, i * 5, none⟩), .pointer (some ⟨tg, i * 5, none⟩)] 40 (0, 0))
                exact h5.grown HG6.out h5.size (fun k hk => by injection hk with hk; omega)
              have HM7 : Hid (VpMap w6 (w.heap.size + 3) (ks' ++ [F.key])) := by
                have h9 := HM4.out
                rw [← HFK.out] at h9
                exact h9.kept2 ((HG6.out.block _ (by omega) (by intro e; injection e with e; omega)).trans (vheap_old _ _ hmb)) HKN.out.key HKN.out.ok HB7.out
              have HA7 : Hid (w6.heap[wz.heap.size]? = some (.cells #[.pointer (some ⟨pb, po, none⟩), .pointer (some ⟨qb, qo, none⟩)] 40 (0, 0))) := (HG6.out.block _ (by omega) (by intro e; injection e with e; omega)).trans ((vheap_old _ _ (by omega)).trans ((HG4.out.block _ (by omega) (by intro e; injection e with e; omega)).trans HA3.out))
              have HO7 : Hid (w6.ownsRow (w.heap.size + 2) 40 2 (.slice (some ⟨g6, 0, none⟩) (work ++ [F]).length cap6) (work ++ [F]).length (flatP (work ++ [F]))) := by
                show World.ownsRow _ _ _ _ _ _ _
                rw [List.length_append, flatP_append, HFF.out]
                exact HO6.out
              have HG7 : Hid (g6 ≠ w.heap.size + 3 ∧ g6 ≠ wz.heap.size) := ⟨by omega, by omega⟩
              have hs6 : wz.heap.size < w6.heap.size := by have := HG6.out.size; omega
              clear HO6 HB6 HG6 HG4 HM4 HO4 HRL HX3 HNI HQ
              go_wp2_with fail
              go_roundw
              case rel => exact ⟨i + 1, work ++ [F], ks' ++ [F.key], g6, cap6, by omega, by go_num, by simp, HO7, HG7, HM7, HKN, HA7, hs6, HB7⟩
              case measure => simp [intOf]; omega
          · obtain rfl : i = sl.length := by omega
            have HSD : Hid (SrS w0 X Y 1048577 (done ++ [⟨pb, po, qb, qo, .mk sk sn ss sl sks, .mk tk tn ts tl tks⟩]) work ks') := sq_mono (HK.out.done (Nat.le_refl _)) (by have h1 := HK.out.few; have h2 := HNL.out; omega)
            have HTN : Hid (tnM w0 (w.heap.size + 2) (.slice (some ⟨g', 0, none⟩) work.length cap') wr = tnW work) := tnM_eq HO.out (fun e he => HK.out.ok e (List.mem_append_right _ he))
            have HLT : Hid (tnW work < NN) := by show _ < _; have h1 := HK.out.few; omega
            clear HK HFK HGK HFN HGN
            go_wp2_with fail
            go_roundw
            case rel => exact ⟨done ++ [⟨pb, po, qb, qo, .mk sk sn ss sl sks, .mk tk tn ts tl tks⟩], work, ks', g', cap', rfl, HO.out, HG.out.1, HM, HSD, HB.out⟩
            case measure =>
              show tnM w0 (w.heap.size + 2) (.slice (some ⟨g', 0, none⟩) work.length cap') wr < tnM w0 (w.heap.size + 2) (.slice (some ⟨g, 0, none⟩) (n + 1) cap) wz
              rw [HTN.out, HTM.out]
              exact HLT.out
end Go.Proofs.Ytbkeenhmhibhhaa
