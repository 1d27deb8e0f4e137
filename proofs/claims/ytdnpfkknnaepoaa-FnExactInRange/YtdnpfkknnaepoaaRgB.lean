/-
  What the law's helpers over one Cmp answer (how much there is, a copy, whether two are alike): contracts for the walks; conditions: the lists of texts lie in memory as told.
-/
import Derived.Test.YtdnpfkknnaepoaaVerF
namespace Go.Proofs.Ytdnpfkknnaepoaa
open Go.RowKit
set_option linter.unusedSimpArgs false
set_option linter.unusedVariables false

theorem owns_base {w : World} {base base' : Nat} {e : TypeId} {v : Value} {n : Nat} {xs : List Value} (h : w.ownsRow base e 1 v n xs) (hb : base' ≤ base) : w.ownsRow base' e 1 v n xs := by
  obtain ⟨h1, h2⟩ := h
  refine ⟨h1, ?_⟩
  rcases h2 with h2 | ⟨g, cap, cur, a, b, c⟩
  · exact .inl h2
  · exact .inr ⟨g, cap, cur, a, Nat.le_trans hb b, c⟩

theorem szCmp_c (o a b c : Int) (u : Value) (ps : List ByteArray) (left : Int) (hl0 : 0 ≤ left) (hl1 : left ≤ 1048576) (w : World) (hu : Reads w u (strsV ps)) (hs : saneP ps) :
    Calls Try.prog 22 #[.agg #[.int .i64 o, .int .i64 a, .int .i64 b, .int .i64 c, u], .int .i64 left] w fun e w' => e = .returned (.int .i64 (leftS ps left)) ∧ Below w.heap.size w w' := by
  have hbx : ∀ o, Below w.heap.size w (w.alloc o) := fun o => (Below.refl _ _).alloc (Nat.le_refl _) _
  obtain ⟨p, hp⟩ : ∃ p, p = leftS ps left := ⟨_, rfl⟩
  have HS : Hid (∀ x, Calls Try.prog 23 #[.agg #[.int .i64 a, .int .i64 b, .int .i64 c, u], .int .i64 left] (w.alloc x) fun e w' => e = .returned (.int .i64 p) ∧ Below (w.alloc x).heap.size (w.alloc x) w') := fun x => by rw [hp]; exact szVer_c a b c u ps left hl0 hl1 _ (hu.below (hbx x)) hs
  have hneg : p < 0 → p = -1 := by
    rw [hp]; unfold leftS; split <;> intro h
    · omega
    · rfl
  have HN : Hid (p < 0 → p = -1) := hneg
  rw [← hp]
  obtain ⟨q, cap, rfl, _, _⟩ := reads_strs hu
  clear hneg hp hu hs
  by_cases h : p < 0
  · have e := HN.out h
    subst e
    go_enter Try.func22, Try.ntmps22
    go_wp2_with (go_at_call 23; refine (HS.out _).mono ?_; rintro e w1 ⟨rfl, b1⟩)
    go_ret
    exact ⟨rfl, (hbx _).trans (b1.mono (by simp))⟩
  · go_enter Try.func22, Try.ntmps22
    go_wp2_with (go_at_call 23; refine (HS.out _).mono ?_; rintro e w1 ⟨rfl, b1⟩)
    go_ret
    exact ⟨rfl, (hbx _).trans (b1.mono (by simp))⟩

set_option maxHeartbeats 1000000 in
set_option maxRecDepth 100000 in
theorem toVer_o (a b c : Int) (u : Value) (ps : List ByteArray) (w : World) (hu : Reads w u (strsV ps)) (hn : ps.length ≤ 1048576) :
    Calls Try.prog 26 #[.agg #[.int .i64 a, .int .i64 b, .int .i64 c, u]] w fun e w' => ∃ g, e = .returned (.agg #[.int .i64 a, .int .i64 b, .int .i64 c, .slice (some ⟨g, 0, none⟩) ps.length ps.length]) ∧ w'.ownsRow w.heap.size 9 1 (.slice (some ⟨g, 0, none⟩) ps.length ps.length) ps.length (strsV ps) ∧ Below w.heap.size w w' := by
  have huA : ∀ w1, Below w.heap.size w w1 → Reads w1 u (strsV ps) := fun w1 h1 => hu.below h1
  obtain ⟨q, cap, rfl, _, _⟩ := reads_strs hu
  clear hu
  go_enter Try.func26, Try.ntmps26
  have hb3 : ∀ A R O, Below w.heap.size w (((w.alloc A).alloc R).alloc O) := fun A R O => (((Below.refl _ _).alloc (Nat.le_refl _) _).alloc (by simp) _).alloc (by simp; omega) _
  go_wp2_with (
    go_at_call 52
    refine (toStrs_c _ ps _ (huA _ (hb3 _ _ _)) (by omega)).mono ?_
    rintro e w1 ⟨g, rfl, hM, hb1⟩
    obtain ⟨hA, hR, hO⟩ := vthree hb1
    have o0 := vblk_cell hO 0
    have o1 := vblk_cell hO 1
    have o2 := vblk_cell hO 2
    have o3 := vblk_cell hO 3
    have r0 := vblk_cell hR 0
    have r1 := vblk_cell hR 1
    have r2 := vblk_cell hR 2
    have r3 := vblk_cell hR 3
    have fo := vblk_frozen hO
    have fr := vblk_frozen hR
    simp only [List.getElem?_toArray, List.getElem?_cons_succ, List.getElem?_cons_zero] at o0 o1 o2 o3 r0 r1 r2 r3)
  have s3 : ∀ A R O, (((w.alloc A).alloc R).alloc O).heap.size = w.heap.size + 1 + 1 + 1 := fun A R O => by simp
  rw [s3] at hb1 hM
  have hN : w.heap.size + 1 + 1 + 1 ≤ w1.heap.size := by have := hb1.size; rw [s3] at this; exact this
  refine bodyPost_ret (v := .agg #[.int .i64 a, .int .i64 b, .int .i64 c, .slice (some ⟨g, 0, none⟩) ps.length ps.length]) (by simp [results, Try.results26, go_sem, o0, o1, o2, o3, r0, r1, r2, r3]) rfl ⟨_, rfl, ?_, ?_⟩
  · refine owns_base (base := w.heap.size + 1 + 1 + 1) ?_ (by omega)
    refine owns_set (owns_set (owns_set (owns_set (owns_set hM ?_ _) ?_ _) ?_ _) ?_ _) ?_ _ <;> simp
  · have b1 := ((hb3 _ _ _).trans (hb1.mono (by omega)))
    refine Below.setCell (Below.setCell (Below.setCell (Below.setCell (Below.setCell b1 ?_ _) ?_ _) ?_ _) ?_ _) ?_ _ <;> simp <;> omega

set_option maxHeartbeats 1000000 in
set_option maxRecDepth 100000 in
theorem toCmp_o (o a b c : Int) (u : Value) (ps : List ByteArray) (w : World) (hu : Reads w u (strsV ps)) (hn : ps.length ≤ 1048576) :
    Calls Try.prog 25 #[.agg #[.int .i64 o, .int .i64 a, .int .i64 b, .int .i64 c, u]] w fun e w' => ∃ g, e = .returned (.agg #[.int .i64 o, .int .i64 a, .int .i64 b, .int .i64 c, .slice (some ⟨g, 0, none⟩) ps.length ps.length]) ∧ w'.ownsRow w.heap.size 9 1 (.slice (some ⟨g, 0, none⟩) ps.length ps.length) ps.length (strsV ps) ∧ Below w.heap.size w w' := by
  have huA : ∀ w1, Below w.heap.size w w1 → Reads w1 u (strsV ps) := fun w1 h1 => hu.below h1
  obtain ⟨q, cap, rfl, _, _⟩ := reads_strs hu
  clear hu
  go_enter Try.func25, Try.ntmps25
  have hb3 : ∀ A R O, Below w.heap.size w (((w.alloc A).alloc R).alloc O) := fun A R O => (((Below.refl _ _).alloc (Nat.le_refl _) _).alloc (by simp) _).alloc (by simp; omega) _
  go_wp2_with (
    go_at_call 26
    refine (toVer_o _ _ _ _ ps _ (huA _ (hb3 _ _ _)) (by omega)).mono ?_
    rintro e w1 ⟨g, rfl, hM, hb1⟩
    obtain ⟨hA, hR, hO⟩ := vthree hb1
    have o0 := vblk_cell hO 0
    have o1 := vblk_cell hO 1
    have o2 := vblk_cell hO 2
    have o3 := vblk_cell hO 3
    have o4 := vblk_cell hO 4
    have r0 := vblk_cell hR 0
    have r1 := vblk_cell hR 1
    have r2 := vblk_cell hR 2
    have r3 := vblk_cell hR 3
    have r4 := vblk_cell hR 4
    have fo := vblk_frozen hO
    have fr := vblk_frozen hR
    simp only [List.getElem?_toArray, List.getElem?_cons_succ, List.getElem?_cons_zero] at o0 o1 o2 o3 o4 r0 r1 r2 r3 r4)
  have s3 : ∀ A R O, (((w.alloc A).alloc R).alloc O).heap.size = w.heap.size + 1 + 1 + 1 := fun A R O => by simp
  rw [s3] at hb1 hM
  have hN : w.heap.size + 1 + 1 + 1 ≤ w1.heap.size := by have := hb1.size; rw [s3] at this; exact this
  refine bodyPost_ret (v := .agg #[.int .i64 o, .int .i64 a, .int .i64 b, .int .i64 c, .slice (some ⟨g, 0, none⟩) ps.length ps.length]) (by simp [results, Try.results25, go_sem, o0, o1, o2, o3, o4, r0, r1, r2, r3, r4]) rfl ⟨_, rfl, ?_, ?_⟩
  · refine owns_base (base := w.heap.size + 1 + 1 + 1) ?_ (by omega)
    repeat (refine owns_set ?_ (by simp) _)
    exact hM
  · have b1 := ((hb3 _ _ _).trans (hb1.mono (by omega)))
    repeat (refine Below.setCell ?_ (by simp <;> omega) _)
    exact b1

theorem eqCmp_c (o a b c : Int) (u u' : Value) (ps : List ByteArray) (w : World) (hu : Reads w u (strsV ps)) (hu' : Reads w u' (strsV ps)) (hn : ps.length ≤ 1048576) :
    Calls Try.prog 28 #[.agg #[.int .i64 o, .int .i64 a, .int .i64 b, .int .i64 c, u], .agg #[.int .i64 o, .int .i64 a, .int .i64 b, .int .i64 c, u']] w fun e w' => e = .returned (.bool true) ∧ Below w.heap.size w w' := by
  have hbx : ∀ o o', Below w.heap.size w ((w.alloc o).alloc o') := fun o o' => ((Below.refl _ _).alloc (Nat.le_refl _) _).alloc (by simp) _
  have HS : Hid (∀ x x', Calls Try.prog 29 #[.agg #[.int .i64 a, .int .i64 b, .int .i64 c, u], .agg #[.int .i64 a, .int .i64 b, .int .i64 c, u']] ((w.alloc x).alloc x') fun e w' => e = .returned (.bool true) ∧ Below ((w.alloc x).alloc x').heap.size ((w.alloc x).alloc x') w') := fun x x' => eqVer_c a b c u u' ps _ (hu.below (hbx x x')) (hu'.below (hbx x x')) hn
  obtain ⟨q, cap, rfl, _, _⟩ := reads_strs hu
  obtain ⟨q', cap', rfl, _, _⟩ := reads_strs hu'
  clear hu hu'
  go_enter Try.func28, Try.ntmps28
  go_wp2_with (go_at_call 29; refine (HS.out _ _).mono ?_; rintro e w1 ⟨rfl, b1⟩)
  go_ret
  exact ⟨rfl, (hbx _ _).trans (b1.mono (by simp; omega))⟩

/-- The block N holds these five cells. -/
def Five (w : World) (N : Nat) (t : TypeId) (c0 c1 c2 c3 c4 : Value) : Prop := w.heap[N]? = some (.cells #[c0, c1, c2, c3, c4] t (0, 0))
theorem Five.lt {w : World} {N : Nat} {t : TypeId} {c0 c1 c2 c3 c4 : Value} (h : Five w N t c0 c1 c2 c3 c4) : N < w.heap.size := (Array.getElem?_eq_some_iff.1 h).1
theorem Five.keep {w w' : World} {N : Nat} {t : TypeId} {c0 c1 c2 c3 c4 : Value} (h : Five w N t c0 c1 c2 c3 c4) (b : Below w.heap.size w w') : Five w' N t c0 c1 c2 c3 c4 := (b.block N h.lt).trans h
theorem Five.cells {w : World} {N : Nat} {t : TypeId} {c0 c1 c2 c3 c4 : Value} (h : Five w N t c0 c1 c2 c3 c4) : w.cell? ⟨N, 0, none⟩ = some c0 ∧ w.cell? ⟨N, 1, none⟩ = some c1 ∧ w.cell? ⟨N, 2, none⟩ = some c2 ∧ w.cell? ⟨N, 3, none⟩ = some c3 ∧ w.cell? ⟨N, 4, none⟩ = some c4 :=
  ⟨vblk_cell h 0, vblk_cell h 1, vblk_cell h 2, vblk_cell h 3, vblk_cell h 4⟩
theorem Five.drew {w : World} {N : Nat} {t : TypeId} {c0 c1 c2 c3 c4 : Value} (h : Five w N t c0 c1 c2 c3 c4) : Five w.drew N t c0 c1 c2 c3 c4 := h
theorem five_new (w : World) (t : TypeId) (c0 c1 c2 c3 c4 : Value) : Five (w.alloc (.cells #[c0, c1, c2, c3, c4] t)) w.heap.size t c0 c1 c2 c3 c4 := vheap_new _ _
theorem five_four (w : World) (t t' : TypeId) (c0 c1 c2 c3 c4 d0 d1 d2 d3 : Value) : Five ((w.alloc (.cells #[c0, c1, c2, c3, c4] t)).alloc (.cells #[d0, d1, d2, d3] t')) w.heap.size t c0 c1 c2 c3 c4 ∧ Four ((w.alloc (.cells #[c0, c1, c2, c3, c4] t)).alloc (.cells #[d0, d1, d2, d3] t')) (w.heap.size + 1) t' d0 d1 d2 d3 := by
  refine ⟨(five_new _ _ _ _ _ _ _).keep ((Below.refl _ _).alloc (Nat.le_refl _) _), ?_⟩
  have h := four_new (w.alloc (.cells #[c0, c1, c2, c3, c4] t)) t' d0 d1 d2 d3
  have s1 : ∀ o, (w.alloc o).heap.size = w.heap.size + 1 := fun o => by simp
  rw [s1] at h
  exact h
end Go.Proofs.Ytdnpfkknnaepoaa
