/-
  A list of files and a file, as the law draws them: a contract for the walks; condition: the code is of at most 2 to the 20 bytes.
-/
import Derived.Test.YtlnofdlhjeomfaaFjB
import Derived.Test.YtlnofdlhjeomfaaRow
namespace Go.Proofs.Ytlnofdlhjeomfaa
open Go.RowKit Go.Maps
set_option linter.unusedSimpArgs false
set_option linter.unusedVariables false

theorem wpAny_at {P : Program} {md : Region.Mode} {ops : Array Oper} {Q : Exit → Act → World → Prop} {S : World → Prop} {f f' : Nat} {l l' : Array Bool} {a : Act} {w : World} (h : wpAnyH P md ops Q S f' l' a w) (hf : f' = f) (hl : l' = l) : wpAnyH P md ops Q S f l a w := by
  subst hf hl; exact h
theorem putPath_in {p1 p2 s : ByteArray} (h1 : p1 ∈ pathsL) (h2 : p2 ∈ pathsL) (h : s ∈ newPL p1 p2) : s ∈ pathsL ∨ s ∈ newL := by
  simp only [newPL, List.mem_cons, List.not_mem_nil, or_false] at h
  rcases h with rfl | rfl | rfl | rfl | rfl
  · exact .inl h1
  · exact .inl h2
  all_goals exact .inr (by simp [newL])
theorem putSmall {p1 p2 s z t : ByteArray} (h1 : p1 ∈ pathsL) (h2 : p2 ∈ pathsL) (h : s ∈ newPL p1 p2) (hz : z.size = 61) (ht : t ∈ newTL z) : smallF ⟨s, t⟩ := by
  have ha : ∀ p ∈ pathsL, p.size ≤ 70 := by decide
  have hb : ∀ p ∈ newL, p.size ≤ 70 := by decide
  refine ⟨?_, ?_⟩
  · rcases putPath_in h1 h2 h with h | h
    · exact ha _ h
    · exact hb _ h
  · simp only [newTL, List.mem_cons, List.not_mem_nil, or_false] at ht
    rcases ht with rfl | rfl | rfl
    · show (1 : Nat) ≤ 70; omega
    · show (0 : Nat) ≤ 70; omega
    · show t.size ≤ 70; omega
theorem as_phi {P : Program} {md : Region.Mode} {ops : Array Oper} {Q : Exit → Act → World → Prop} {S : World → Prop} {f : Nat} {l : Array Bool} {a : Act} {w : World} (h : ∀ Φ, Φ = wpAnyH P md ops Q S → wpAnyH P md ops Q S f l a w) : wpAnyH P md ops Q S f l a w := h _ rfl

set_option maxHeartbeats 40000000 in
set_option maxRecDepth 100000 in
theorem drawPut_c (v : Value) (zs : List Int) (w : World) (hr : Reads w v (bytesV zs)) (hn : zs.length ≤ 1048576) (hz : ∀ z ∈ zs, 0 ≤ z ∧ z ≤ 255) :
    Calls Try.prog 8 #[v] w fun e w' => ∃ (x : Value) (L : List FileD) (f : FileD), e = .returned (.tuple #[x, .agg #[.string f.p, .string f.t]]) ∧ w'.ownsRow w.heap.size 26 2 x L.length (cellsF L) ∧ anyF L ∧ (f.p ∈ pathsL ∨ f.p ∈ newL) ∧ smallF f ∧ Below w.heap.size w w' := by
  have k0 : Below w.heap.size w (w.alloc (.cells #[.string ⟨#[]⟩, .string ⟨#[]⟩] 26)) := (Below.refl _ _).alloc (Nat.le_refl _) _
  have HN := new_c v zs _ (hr.below k0) hn hz
  obtain ⟨BASE, hBASE⟩ : ∃ B, B = (w.alloc (.cells #[.string ⟨#[]⟩, .string ⟨#[]⟩] 26)).heap.size := ⟨_, rfl⟩
  have hBS : BASE = w.heap.size + 1 := by rw [hBASE]; simp
  rw [← hBASE] at HN
  go_enter Try.func8, Try.ntmps8
  go_wp2_with (go_at_call 35; refine HN.mono ?_; rintro e w1 ⟨g, rfl, hc1, hb1⟩)
  have hgl := cur_lt hc1
  have hbg : BASE ≤ g := hc1.1
  have hw1 : w1.heap[w.heap.size]? = some (.cells #[.string ⟨#[]⟩, .string ⟨#[]⟩] 26 (0, 0)) := by rw [hb1.block _ (by omega), vheap_new]
  have hw1l : w.heap.size + 1 ≤ w1.heap.size := by have := hb1.size; rw [← hBASE] at this; omega
  have HOUT : Hid (∀ W, w1.grownBy W (some g) → W.heap[w.heap.size]? = some (.cells #[.string ⟨#[]⟩, .string ⟨#[]⟩] 26 (0, 0))) := fun W hG => by
    rw [hG.block _ (by omega) (by intro e; simp at e; omega)]; exact hw1
  go_at_call 36
  refine (any5_c _ g zs _ hc1 (by have := hb1.size; rw [← hBASE] at this; omega)).mono ?_
  rintro e W2 ⟨xa, L, rfl, rA, hL, c, G⟩
  have hz2w := G.size
  go_wp2_with fail
  have rA := show W2.drew.ownsRow _ _ _ _ _ _ from rA
  refine wp_region_held_drew (S := fun _ => True) (by kernel_rfl) True.intro (fun hHeld => ?_)
  have c : Cur W2.drew _ g zs := c
  have G : w1.grownBy W2.drew (some g) := grown_trans G (grown_of_below (Below.refl _ _).drew _)
  obtain ⟨W2', hW2'⟩ : ∃ W, W = W2.drew := ⟨_, rfl⟩
  rw [← hW2'] at c G rA ⊢
  clear hW2' hz2w
  refine wpAnyH_take (i := 0) (oi := _) (v := ?vT1) rfl (by kernel_rfl) (by kernel_rfl) (by kernel_rfl) (fun _ _ _ h => h) (Or.inl ⟨by rfl, ?yT1⟩) hHeld ?_
  case yT1 => (intro w hSw; (try dsimp only at hSw); go_simp <;> with_reducible rfl)
  try simp only [Act.put, List.getElem_toArray, List.getElem_cons_zero, List.getElem_cons_succ, List.setIfInBounds_toArray, List.set_cons_zero, List.set_cons_succ]
  refine wpAnyH_take (i := 1) (oi := _) (v := ?vT2) rfl (by kernel_rfl) (by kernel_rfl) (by kernel_rfl) (fun _ _ _ h => h) (Or.inl ⟨by rfl, ?yT2⟩) hHeld ?_
  case yT2 => (intro w hSw; (try dsimp only at hSw); go_simp <;> with_reducible rfl)
  try simp only [Act.put, List.getElem_toArray, List.getElem_cons_zero, List.getElem_cons_succ, List.setIfInBounds_toArray, List.set_cons_zero, List.set_cons_succ]
  refine wpAnyH_take (i := 2) (oi := _) (v := ?vT3) rfl (by kernel_rfl) (by kernel_rfl) (by kernel_rfl) (fun _ _ _ h => h) (Or.inl ⟨by rfl, ?yT3⟩) hHeld ?_
  case yT3 => (intro w hSw; (try dsimp only at hSw); go_simp <;> with_reducible rfl)
  try simp only [Act.put, List.getElem_toArray, List.getElem_cons_zero, List.getElem_cons_succ, List.setIfInBounds_toArray, List.set_cons_zero, List.set_cons_succ]
  refine wpAnyH_take (i := 4) (oi := _) (v := ?vT4) rfl (by kernel_rfl) (by kernel_rfl) (by kernel_rfl) (fun _ _ _ h => h) (Or.inl ⟨by rfl, ?yT4⟩) hHeld ?_
  case yT4 => (intro w hSw; (try dsimp only at hSw); go_simp <;> with_reducible rfl)
  try simp only [Act.put, List.getElem_toArray, List.getElem_cons_zero, List.getElem_cons_succ, List.setIfInBounds_toArray, List.set_cons_zero, List.set_cons_succ]
  refine wpAnyH_take (i := 8) (oi := _) (v := ?vT5) rfl (by kernel_rfl) (by kernel_rfl) (by kernel_rfl) (fun _ _ _ h => h) (Or.inl ⟨by rfl, ?yT5⟩) hHeld ?_
  case yT5 => (intro w hSw; (try dsimp only at hSw); go_simp <;> with_reducible rfl)
  try simp only [Act.put, List.getElem_toArray, List.getElem_cons_zero, List.getElem_cons_succ, List.setIfInBounds_toArray, List.set_cons_zero, List.set_cons_succ]
  refine as_phi (fun Φ hΦ => ?_)
  have hW0 := c
  obtain ⟨WX, hWX⟩ : ∃ W : World, W = W2' := ⟨_, rfl⟩
  have N43 : Hid (∀ (W : World) (c : Cur W BASE g zs) (rA : W.ownsRow w1.heap.size 26 2 xa L.length (cellsF L)) (G : w1.grownBy W (some g)) (p1 : ByteArray) (hp1 : p1 ∈ pathsL) (p2 : ByteArray) (hp2 : p2 ∈ pathsL) (br16 : Nat) (s1 : ByteArray) (hs1 : s1 ∈ newPL p1 p2) (b19 : Nat) (sZ : ByteArray) (hsZ : sZ.size = 61) (br21 : Nat) (r21 : W.ownsRow w1.heap.size 9 1 (.slice (some ⟨br21, 0, none⟩) (newTL sZ).length (newTL sZ).length) (newTL sZ).length (strsV (newTL sZ))), Φ 4 #[true, true, true, true, true, true, true, true, true, true, true, true, false, false, false, false] { tmps := #[v, undef, .slice none 0 0, .pointer (some ⟨w.heap.size, 0, none⟩), (.pointer (some ⟨g, 0, none⟩)), xa, v, (.pointer (some ⟨g, 0, none⟩)), (.pointer (some ⟨g, 0, none⟩)), xa, xa, (.pointer (some ⟨g, 0, none⟩)), (.pointer (some ⟨g, 0, none⟩)), .string p1, (.pointer (some ⟨g, 0, none⟩)), .string p2, .slice (some ⟨br16, 0, none⟩) 5 5, .string s1, (.pointer (some ⟨g, 0, none⟩)), .slice (some ⟨b19, 0, none⟩) 61 61, .string sZ, .slice (some ⟨br21, 0, none⟩) 3 3, undef, undef], defers := [] } W) := by
    intro W c rA G p1 hp1 p2 hp2 br16 s1 hs1 b19 sZ hsZ br21 r21
    rw [hΦ]
    have hHeld : True := True.intro
    refine wpAnyH_ready (rs := [12]) (by kernel_rfl) (by simp) ?_
    refine AllReadyH.cons rfl (fun K hK => ?_) AllReadyH.nil
    go_simp
    go_wp2_with (go_at_call 37; refine (str_c _ g zs _ _ (newTL sZ) _ c (by simp [newTL]) (by simp [newTL]) (fun e => by have := (r21.lt g (by rw [← e]; rfl)).1; omega) (row_str r21)).mono ?_; rintro e W3 ⟨s2, hs2, rfl, c', gg⟩)
    have c := c'
    clear r21
    have G := grown_trans G gg
    have rA := rA.kept gg (.inr (fun e => by have := (rA.lt g e).1; omega))
    clear c' gg
    clear hHeld
    refine hK.out _ _ True.intro (fun hHeld => ?_)
    clear hK K
    try simp only [Act.put, List.getElem_toArray, List.getElem_cons_zero, List.getElem_cons_succ, List.setIfInBounds_toArray, List.set_cons_zero, List.set_cons_succ]
    refine wpAnyH_take (i := 14) (oi := _) (v := ?vT6) rfl (by kernel_rfl) (by kernel_rfl) (by kernel_rfl) (fun _ _ _ h => h) (Or.inl ⟨by rfl, ?yT6⟩) hHeld ?_
    case yT6 => (intro w hSw; (try dsimp only at hSw); go_simp <;> with_reducible rfl)
    try simp only [Act.put, List.getElem_toArray, List.getElem_cons_zero, List.getElem_cons_succ, List.setIfInBounds_toArray, List.set_cons_zero, List.set_cons_succ]
    refine wpAnyH_take (i := 13) (oi := _) (v := ?vT7) rfl (by kernel_rfl) (by kernel_rfl) (by kernel_rfl) (fun _ _ _ h => h) (Or.inl ⟨by rfl, ?yT7⟩) hHeld ?_
    case yT7 => (intro w hSw; (try dsimp only at hSw); go_simp <;> with_reducible rfl)
    try simp only [Act.put, List.getElem_toArray, List.getElem_cons_zero, List.getElem_cons_succ, List.setIfInBounds_toArray, List.set_cons_zero, List.set_cons_succ]
    have hO := HOUT.out W3 G
    have o0 := vblk_cell hO 0
    have o1 := vblk_cell hO 1
    have fo := vblk_frozen hO
    simp only [List.getElem?_toArray, List.getElem?_cons_succ, List.getElem?_cons_zero] at o0 o1
    refine wpAnyH_ready (rs := [15]) (by kernel_rfl) (by simp) ?_
    refine AllReadyH.cons rfl (fun K hK => ?_) AllReadyH.nil
    go_simp
    clear hHeld
    refine hK.out _ _ True.intro (fun hHeld => ?_)
    clear hK K
    refine wpAnyH_done (by kernel_rfl) ?_ _
    clear hHeld
    go_wp2_with fail
    refine bodyPost_ret (v := .tuple #[xa, .agg #[.string s1, .string s2]]) (by simp [results, Try.results8, go_sem, o0, o1]) rfl ⟨xa, L, ⟨s1, s2⟩, rfl, ?_, hL, putPath_in hp1 hp2 hs1, putSmall hp1 hp2 hs1 hsZ hs2, ?_⟩
    · exact owns_lower3R (owns_kept (S := fun b => w1.heap.size ≤ b) ((Kp.set (by omega)).trans (Kp.set (by omega))) (fun g h => (owns_in rA g h).1) rA) (by omega)
    · have k1 : Below w.heap.size w w1 := k0.trans (hb1.mono (by omega))
      have kG : Below w.heap.size w1 W3 := ⟨G.os, G.tape, G.output, G.size, fun k hk => G.block k (by omega) (by intro e; simp at e; omega)⟩
      exact Below.setCell (Below.setCell (k1.trans kG) (by simp) _) (by simp) _
  have N33 : Hid (∀ (W : World) (c : Cur W BASE g zs) (rA : W.ownsRow w1.heap.size 26 2 xa L.length (cellsF L)) (G : w1.grownBy W (some g)) (p1 : ByteArray) (hp1 : p1 ∈ pathsL) (p2 : ByteArray) (hp2 : p2 ∈ pathsL) (br16 : Nat) (r16 : W.ownsRow w1.heap.size 9 1 (.slice (some ⟨br16, 0, none⟩) (newPL p1 p2).length (newPL p1 p2).length) (newPL p1 p2).length (strsV (newPL p1 p2))) (b19 : Nat) (sZ : ByteArray) (hsZ : sZ.size = 61) (br21 : Nat) (r21 : W.ownsRow w1.heap.size 9 1 (.slice (some ⟨br21, 0, none⟩) (newTL sZ).length (newTL sZ).length) (newTL sZ).length (strsV (newTL sZ))), Φ 5 #[true, true, true, true, true, true, true, false, true, true, true, true, false, false, false, false] { tmps := #[v, undef, .slice none 0 0, .pointer (some ⟨w.heap.size, 0, none⟩), (.pointer (some ⟨g, 0, none⟩)), xa, v, (.pointer (some ⟨g, 0, none⟩)), (.pointer (some ⟨g, 0, none⟩)), xa, xa, (.pointer (some ⟨g, 0, none⟩)), (.pointer (some ⟨g, 0, none⟩)), .string p1, (.pointer (some ⟨g, 0, none⟩)), .string p2, .slice (some ⟨br16, 0, none⟩) 5 5, undef, (.pointer (some ⟨g, 0, none⟩)), .slice (some ⟨b19, 0, none⟩) 61 61, .string sZ, .slice (some ⟨br21, 0, none⟩) 3 3, undef, undef], defers := [] } W) := by
    intro W c rA G p1 hp1 p2 hp2 br16 r16 b19 sZ hsZ br21 r21
    rw [hΦ]
    have hHeld : True := True.intro
    refine wpAnyH_ready (rs := [7]) (by kernel_rfl) (by simp) ?_
    refine AllReadyH.cons rfl (fun K hK => ?_) AllReadyH.nil
    go_simp
    go_wp2_with (go_at_call 37; refine (str_c _ g zs _ _ (newPL p1 p2) _ c (by simp [newPL]) (by simp [newPL]) (fun e => by have := (r16.lt g (by rw [← e]; rfl)).1; omega) (row_str r16)).mono ?_; rintro e W4 ⟨s1, hs1, rfl, c', gg⟩)
    have c := c'
    clear r16
    have G := grown_trans G gg
    have rA := rA.kept gg (.inr (fun e => by have := (rA.lt g e).1; omega))
    have r21 := r21.kept gg (.inr (fun e => by have := (r21.lt g e).1; omega))
    clear c' gg
    clear hHeld
    refine hK.out _ _ True.intro (fun hHeld => ?_)
    clear hK K
    try simp only [Act.put, List.getElem_toArray, List.getElem_cons_zero, List.getElem_cons_succ, List.setIfInBounds_toArray, List.set_cons_zero, List.set_cons_succ]
    have h := N43.out W4 c rA G p1 hp1 p2 hp2 br16 s1 hs1 b19 sZ hsZ br21 r21
    rw [hΦ] at h
    exact wpAny_at h (by kernel_rfl) (by kernel_rfl)
  have N42 : Hid (∀ (W : World) (c : Cur W BASE g zs) (rA : W.ownsRow w1.heap.size 26 2 xa L.length (cellsF L)) (G : w1.grownBy W (some g)) (p1 : ByteArray) (hp1 : p1 ∈ pathsL) (p2 : ByteArray) (hp2 : p2 ∈ pathsL) (br16 : Nat) (s1 : ByteArray) (hs1 : s1 ∈ newPL p1 p2) (b19 : Nat) (sZ : ByteArray) (hsZ : sZ.size = 61), Φ 5 #[true, true, true, true, true, true, true, true, true, true, true, false, false, false, false, false] { tmps := #[v, undef, .slice none 0 0, .pointer (some ⟨w.heap.size, 0, none⟩), (.pointer (some ⟨g, 0, none⟩)), xa, v, (.pointer (some ⟨g, 0, none⟩)), (.pointer (some ⟨g, 0, none⟩)), xa, xa, (.pointer (some ⟨g, 0, none⟩)), (.pointer (some ⟨g, 0, none⟩)), .string p1, (.pointer (some ⟨g, 0, none⟩)), .string p2, .slice (some ⟨br16, 0, none⟩) 5 5, .string s1, (.pointer (some ⟨g, 0, none⟩)), .slice (some ⟨b19, 0, none⟩) 61 61, .string sZ, undef, undef, undef], defers := [] } W) := by
    intro W c rA G p1 hp1 p2 hp2 br16 s1 hs1 b19 sZ hsZ
    rw [hΦ]
    have hHeld : True := True.intro
    refine wpAnyH_ready (rs := [11]) (by kernel_rfl) (by simp) ?_
    refine AllReadyH.cons rfl (fun K hK => ?_) AllReadyH.nil
    go_simp
    have r21 := owns_lower3R (lit_row W (newTL sZ) (by simp [newPL, newTL, maxLen])) (show w1.heap.size ≤ W.heap.size from G.size)
    have c := cur_alloc c (.cells ((newTL sZ).map Value.string).toArray 9)
    have G := grown_trans G (World.grownBy_alloc _ (.cells ((newTL sZ).map Value.string).toArray 9) _)
    have rA := rA.alloc (.cells ((newTL sZ).map Value.string).toArray 9)
    obtain ⟨W5, hW5⟩ : ∃ X, X = W.alloc (.cells ((newTL sZ).map Value.string).toArray 9) := ⟨_, rfl⟩
    rw [← hW5] at c G rA r21
    obtain ⟨br21, hbr21⟩ : ∃ b, b = W.heap.size := ⟨_, rfl⟩
    rw [← hbr21] at r21
    try rw [← hbr21]
    clear hHeld
    refine (hK.out _ (W.alloc (.cells ((newTL sZ).map Value.string).toArray 9)) True.intro (fun hHeld => ?_))
    clear hK K
    rw [← hW5]
    clear hW5 hbr21
    try simp only [Act.put, List.getElem_toArray, List.getElem_cons_zero, List.getElem_cons_succ, List.setIfInBounds_toArray, List.set_cons_zero, List.set_cons_succ]
    have h := N43.out W5 c rA G p1 hp1 p2 hp2 br16 s1 hs1 b19 sZ hsZ br21 r21
    rw [hΦ] at h
    exact wpAny_at h (by kernel_rfl) (by kernel_rfl)
  have N23 : Hid (∀ (W : World) (c : Cur W BASE g zs) (rA : W.ownsRow w1.heap.size 26 2 xa L.length (cellsF L)) (G : w1.grownBy W (some g)) (p1 : ByteArray) (hp1 : p1 ∈ pathsL) (p2 : ByteArray) (hp2 : p2 ∈ pathsL) (b19 : Nat) (sZ : ByteArray) (hsZ : sZ.size = 61) (br21 : Nat) (r21 : W.ownsRow w1.heap.size 9 1 (.slice (some ⟨br21, 0, none⟩) (newTL sZ).length (newTL sZ).length) (newTL sZ).length (strsV (newTL sZ))), Φ 6 #[true, true, true, true, true, true, false, false, true, true, true, true, false, false, false, false] { tmps := #[v, undef, .slice none 0 0, .pointer (some ⟨w.heap.size, 0, none⟩), (.pointer (some ⟨g, 0, none⟩)), xa, v, (.pointer (some ⟨g, 0, none⟩)), (.pointer (some ⟨g, 0, none⟩)), xa, xa, (.pointer (some ⟨g, 0, none⟩)), (.pointer (some ⟨g, 0, none⟩)), .string p1, (.pointer (some ⟨g, 0, none⟩)), .string p2, undef, undef, (.pointer (some ⟨g, 0, none⟩)), .slice (some ⟨b19, 0, none⟩) 61 61, .string sZ, .slice (some ⟨br21, 0, none⟩) 3 3, undef, undef], defers := [] } W) := by
    intro W c rA G p1 hp1 p2 hp2 b19 sZ hsZ br21 r21
    rw [hΦ]
    have hHeld : True := True.intro
    refine wpAnyH_ready (rs := [6]) (by kernel_rfl) (by simp) ?_
    refine AllReadyH.cons rfl (fun K hK => ?_) AllReadyH.nil
    go_simp
    have r16 := owns_lower3R (lit_row W (newPL p1 p2) (by simp [newPL, newTL, maxLen])) (show w1.heap.size ≤ W.heap.size from G.size)
    have c := cur_alloc c (.cells ((newPL p1 p2).map Value.string).toArray 9)
    have G := grown_trans G (World.grownBy_alloc _ (.cells ((newPL p1 p2).map Value.string).toArray 9) _)
    have rA := rA.alloc (.cells ((newPL p1 p2).map Value.string).toArray 9)
    have r21 := r21.alloc (.cells ((newPL p1 p2).map Value.string).toArray 9)
    obtain ⟨W6, hW6⟩ : ∃ X, X = W.alloc (.cells ((newPL p1 p2).map Value.string).toArray 9) := ⟨_, rfl⟩
    rw [← hW6] at c G rA r21 r16
    obtain ⟨br16, hbr16⟩ : ∃ b, b = W.heap.size := ⟨_, rfl⟩
    rw [← hbr16] at r16
    try rw [← hbr16]
    clear hHeld
    refine (hK.out _ (W.alloc (.cells ((newPL p1 p2).map Value.string).toArray 9)) True.intro (fun hHeld => ?_))
    clear hK K
    rw [← hW6]
    clear hW6 hbr16
    try simp only [Act.put, List.getElem_toArray, List.getElem_cons_zero, List.getElem_cons_succ, List.setIfInBounds_toArray, List.set_cons_zero, List.set_cons_succ]
    have h := N33.out W6 c rA G p1 hp1 p2 hp2 br16 r16 b19 sZ hsZ br21 r21
    rw [hΦ] at h
    exact wpAny_at h (by kernel_rfl) (by kernel_rfl)
  have N32 : Hid (∀ (W : World) (c : Cur W BASE g zs) (rA : W.ownsRow w1.heap.size 26 2 xa L.length (cellsF L)) (G : w1.grownBy W (some g)) (p1 : ByteArray) (hp1 : p1 ∈ pathsL) (p2 : ByteArray) (hp2 : p2 ∈ pathsL) (br16 : Nat) (r16 : W.ownsRow w1.heap.size 9 1 (.slice (some ⟨br16, 0, none⟩) (newPL p1 p2).length (newPL p1 p2).length) (newPL p1 p2).length (strsV (newPL p1 p2))) (b19 : Nat) (sZ : ByteArray) (hsZ : sZ.size = 61), Φ 6 #[true, true, true, true, true, true, true, false, true, true, true, false, false, false, false, false] { tmps := #[v, undef, .slice none 0 0, .pointer (some ⟨w.heap.size, 0, none⟩), (.pointer (some ⟨g, 0, none⟩)), xa, v, (.pointer (some ⟨g, 0, none⟩)), (.pointer (some ⟨g, 0, none⟩)), xa, xa, (.pointer (some ⟨g, 0, none⟩)), (.pointer (some ⟨g, 0, none⟩)), .string p1, (.pointer (some ⟨g, 0, none⟩)), .string p2, .slice (some ⟨br16, 0, none⟩) 5 5, undef, (.pointer (some ⟨g, 0, none⟩)), .slice (some ⟨b19, 0, none⟩) 61 61, .string sZ, undef, undef, undef], defers := [] } W) := by
    intro W c rA G p1 hp1 p2 hp2 br16 r16 b19 sZ hsZ
    rw [hΦ]
    have hHeld : True := True.intro
    refine wpAnyH_ready (rs := [7, 11]) (by kernel_rfl) (by simp) ?_
    refine AllReadyH.cons rfl (fun K hK => ?_) (AllReadyH.cons rfl (fun K hK => ?_) AllReadyH.nil)
    · go_simp
      go_wp2_with (go_at_call 37; refine (str_c _ g zs _ _ (newPL p1 p2) _ c (by simp [newPL]) (by simp [newPL]) (fun e => by have := (r16.lt g (by rw [← e]; rfl)).1; omega) (row_str r16)).mono ?_; rintro e W7 ⟨s1, hs1, rfl, c', gg⟩)
      have c := c'
      clear r16
      have G := grown_trans G gg
      have rA := rA.kept gg (.inr (fun e => by have := (rA.lt g e).1; omega))
      clear c' gg
      clear hHeld
      refine hK.out _ _ True.intro (fun hHeld => ?_)
      clear hK K
      try simp only [Act.put, List.getElem_toArray, List.getElem_cons_zero, List.getElem_cons_succ, List.setIfInBounds_toArray, List.set_cons_zero, List.set_cons_succ]
      have h := N42.out W7 c rA G p1 hp1 p2 hp2 br16 s1 hs1 b19 sZ hsZ
      rw [hΦ] at h
      exact wpAny_at h (by kernel_rfl) (by kernel_rfl)
    · go_simp
      have r21 := owns_lower3R (lit_row W (newTL sZ) (by simp [newPL, newTL, maxLen])) (show w1.heap.size ≤ W.heap.size from G.size)
      have c := cur_alloc c (.cells ((newTL sZ).map Value.string).toArray 9)
      have G := grown_trans G (World.grownBy_alloc _ (.cells ((newTL sZ).map Value.string).toArray 9) _)
      have rA := rA.alloc (.cells ((newTL sZ).map Value.string).toArray 9)
      have r16 := r16.alloc (.cells ((newTL sZ).map Value.string).toArray 9)
      obtain ⟨W8, hW8⟩ : ∃ X, X = W.alloc (.cells ((newTL sZ).map Value.string).toArray 9) := ⟨_, rfl⟩
      rw [← hW8] at c G rA r16 r21
      obtain ⟨br21, hbr21⟩ : ∃ b, b = W.heap.size := ⟨_, rfl⟩
      rw [← hbr21] at r21
      try rw [← hbr21]
      clear hHeld
      refine (hK.out _ (W.alloc (.cells ((newTL sZ).map Value.string).toArray 9)) True.intro (fun hHeld => ?_))
      clear hK K
      rw [← hW8]
      clear hW8 hbr21
      try simp only [Act.put, List.getElem_toArray, List.getElem_cons_zero, List.getElem_cons_succ, List.setIfInBounds_toArray, List.set_cons_zero, List.set_cons_succ]
      have h := N33.out W8 c rA G p1 hp1 p2 hp2 br16 r16 b19 sZ hsZ br21 r21
      rw [hΦ] at h
      exact wpAny_at h (by kernel_rfl) (by kernel_rfl)
  have N41 : Hid (∀ (W : World) (c : Cur W BASE g zs) (rA : W.ownsRow w1.heap.size 26 2 xa L.length (cellsF L)) (G : w1.grownBy W (some g)) (p1 : ByteArray) (hp1 : p1 ∈ pathsL) (p2 : ByteArray) (hp2 : p2 ∈ pathsL) (br16 : Nat) (s1 : ByteArray) (hs1 : s1 ∈ newPL p1 p2) (b19 : Nat) (rb : W.ownsRow w1.heap.size 5 1 (.slice (some ⟨b19, 0, none⟩) 61 61) 61 (madeCells #[Value.int .u8 0] 61).toList), Φ 6 #[true, true, true, true, true, true, true, true, true, true, false, false, false, false, false, false] { tmps := #[v, undef, .slice none 0 0, .pointer (some ⟨w.heap.size, 0, none⟩), (.pointer (some ⟨g, 0, none⟩)), xa, v, (.pointer (some ⟨g, 0, none⟩)), (.pointer (some ⟨g, 0, none⟩)), xa, xa, (.pointer (some ⟨g, 0, none⟩)), (.pointer (some ⟨g, 0, none⟩)), .string p1, (.pointer (some ⟨g, 0, none⟩)), .string p2, .slice (some ⟨br16, 0, none⟩) 5 5, .string s1, (.pointer (some ⟨g, 0, none⟩)), .slice (some ⟨b19, 0, none⟩) 61 61, undef, undef, undef, undef], defers := [] } W) := by
    intro W c rA G p1 hp1 p2 hp2 br16 s1 hs1 b19 rb
    rw [hΦ]
    have hHeld : True := True.intro
    refine wpAnyH_ready (rs := [10]) (by kernel_rfl) (by simp) ?_
    refine AllReadyH.cons rfl (fun K hK => ?_) AllReadyH.nil
    obtain ⟨sZ, hsZ, hcv⟩ := conv_zerosR rb
    go_simp
    clear hcv rb
    clear hHeld
    refine hK.out _ _ True.intro (fun hHeld => ?_)
    clear hK K
    try simp only [Act.put, List.getElem_toArray, List.getElem_cons_zero, List.getElem_cons_succ, List.setIfInBounds_toArray, List.set_cons_zero, List.set_cons_succ]
    have h := N42.out W c rA G p1 hp1 p2 hp2 br16 s1 hs1 b19 sZ hsZ
    rw [hΦ] at h
    exact wpAny_at h (by kernel_rfl) (by kernel_rfl)
  have N13 : Hid (∀ (W : World) (c : Cur W BASE g zs) (rA : W.ownsRow w1.heap.size 26 2 xa L.length (cellsF L)) (G : w1.grownBy W (some g)) (p1 : ByteArray) (hp1 : p1 ∈ pathsL) (b19 : Nat) (sZ : ByteArray) (hsZ : sZ.size = 61) (br21 : Nat) (r21 : W.ownsRow w1.heap.size 9 1 (.slice (some ⟨br21, 0, none⟩) (newTL sZ).length (newTL sZ).length) (newTL sZ).length (strsV (newTL sZ))), Φ 7 #[true, true, true, true, true, false, false, false, true, true, true, true, false, false, false, false] { tmps := #[v, undef, .slice none 0 0, .pointer (some ⟨w.heap.size, 0, none⟩), (.pointer (some ⟨g, 0, none⟩)), xa, v, (.pointer (some ⟨g, 0, none⟩)), (.pointer (some ⟨g, 0, none⟩)), xa, xa, (.pointer (some ⟨g, 0, none⟩)), (.pointer (some ⟨g, 0, none⟩)), .string p1, (.pointer (some ⟨g, 0, none⟩)), undef, undef, undef, (.pointer (some ⟨g, 0, none⟩)), .slice (some ⟨b19, 0, none⟩) 61 61, .string sZ, .slice (some ⟨br21, 0, none⟩) 3 3, undef, undef], defers := [] } W) := by
    intro W c rA G p1 hp1 b19 sZ hsZ br21 r21
    rw [hΦ]
    have hHeld : True := True.intro
    refine wpAnyH_ready (rs := [5]) (by kernel_rfl) (by simp) ?_
    refine AllReadyH.cons rfl (fun K hK => ?_) AllReadyH.nil
    go_simp
    go_wp2_with (go_at_call 38; refine (path5_c _ g zs _ c).mono ?_; rintro e W10 ⟨p2, hp2, rfl, c', gg⟩)
    have c := c'
    have G := grown_trans G gg
    have rA := rA.kept gg (.inr (fun e => by have := (rA.lt g e).1; omega))
    have r21 := r21.kept gg (.inr (fun e => by have := (r21.lt g e).1; omega))
    clear c' gg
    clear hHeld
    refine hK.out _ _ True.intro (fun hHeld => ?_)
    clear hK K
    try simp only [Act.put, List.getElem_toArray, List.getElem_cons_zero, List.getElem_cons_succ, List.setIfInBounds_toArray, List.set_cons_zero, List.set_cons_succ]
    have h := N23.out W10 c rA G p1 hp1 p2 hp2 b19 sZ hsZ br21 r21
    rw [hΦ] at h
    exact wpAny_at h (by kernel_rfl) (by kernel_rfl)
  have N22 : Hid (∀ (W : World) (c : Cur W BASE g zs) (rA : W.ownsRow w1.heap.size 26 2 xa L.length (cellsF L)) (G : w1.grownBy W (some g)) (p1 : ByteArray) (hp1 : p1 ∈ pathsL) (p2 : ByteArray) (hp2 : p2 ∈ pathsL) (b19 : Nat) (sZ : ByteArray) (hsZ : sZ.size = 61), Φ 7 #[true, true, true, true, true, true, false, false, true, true, true, false, false, false, false, false] { tmps := #[v, undef, .slice none 0 0, .pointer (some ⟨w.heap.size, 0, none⟩), (.pointer (some ⟨g, 0, none⟩)), xa, v, (.pointer (some ⟨g, 0, none⟩)), (.pointer (some ⟨g, 0, none⟩)), xa, xa, (.pointer (some ⟨g, 0, none⟩)), (.pointer (some ⟨g, 0, none⟩)), .string p1, (.pointer (some ⟨g, 0, none⟩)), .string p2, undef, undef, (.pointer (some ⟨g, 0, none⟩)), .slice (some ⟨b19, 0, none⟩) 61 61, .string sZ, undef, undef, undef], defers := [] } W) := by
    intro W c rA G p1 hp1 p2 hp2 b19 sZ hsZ
    rw [hΦ]
    have hHeld : True := True.intro
    refine wpAnyH_ready (rs := [6, 11]) (by kernel_rfl) (by simp) ?_
    refine AllReadyH.cons rfl (fun K hK => ?_) (AllReadyH.cons rfl (fun K hK => ?_) AllReadyH.nil)
    · go_simp
      have r16 := owns_lower3R (lit_row W (newPL p1 p2) (by simp [newPL, newTL, maxLen])) (show w1.heap.size ≤ W.heap.size from G.size)
      have c := cur_alloc c (.cells ((newPL p1 p2).map Value.string).toArray 9)
      have G := grown_trans G (World.grownBy_alloc _ (.cells ((newPL p1 p2).map Value.string).toArray 9) _)
      have rA := rA.alloc (.cells ((newPL p1 p2).map Value.string).toArray 9)
      obtain ⟨W11, hW11⟩ : ∃ X, X = W.alloc (.cells ((newPL p1 p2).map Value.string).toArray 9) := ⟨_, rfl⟩
      rw [← hW11] at c G rA r16
      obtain ⟨br16, hbr16⟩ : ∃ b, b = W.heap.size := ⟨_, rfl⟩
      rw [← hbr16] at r16
      try rw [← hbr16]
      clear hHeld
      refine (hK.out _ (W.alloc (.cells ((newPL p1 p2).map Value.string).toArray 9)) True.intro (fun hHeld => ?_))
      clear hK K
      rw [← hW11]
      clear hW11 hbr16
      try simp only [Act.put, List.getElem_toArray, List.getElem_cons_zero, List.getElem_cons_succ, List.setIfInBounds_toArray, List.set_cons_zero, List.set_cons_succ]
      have h := N32.out W11 c rA G p1 hp1 p2 hp2 br16 r16 b19 sZ hsZ
      rw [hΦ] at h
      exact wpAny_at h (by kernel_rfl) (by kernel_rfl)
    · go_simp
      have r21 := owns_lower3R (lit_row W (newTL sZ) (by simp [newPL, newTL, maxLen])) (show w1.heap.size ≤ W.heap.size from G.size)
      have c := cur_alloc c (.cells ((newTL sZ).map Value.string).toArray 9)
      have G := grown_trans G (World.grownBy_alloc _ (.cells ((newTL sZ).map Value.string).toArray 9) _)
      have rA := rA.alloc (.cells ((newTL sZ).map Value.string).toArray 9)
      obtain ⟨W12, hW12⟩ : ∃ X, X = W.alloc (.cells ((newTL sZ).map Value.string).toArray 9) := ⟨_, rfl⟩
      rw [← hW12] at c G rA r21
      obtain ⟨br21, hbr21⟩ : ∃ b, b = W.heap.size := ⟨_, rfl⟩
      rw [← hbr21] at r21
      try rw [← hbr21]
      clear hHeld
      refine (hK.out _ (W.alloc (.cells ((newTL sZ).map Value.string).toArray 9)) True.intro (fun hHeld => ?_))
      clear hK K
      rw [← hW12]
      clear hW12 hbr21
      try simp only [Act.put, List.getElem_toArray, List.getElem_cons_zero, List.getElem_cons_succ, List.setIfInBounds_toArray, List.set_cons_zero, List.set_cons_succ]
      have h := N23.out W12 c rA G p1 hp1 p2 hp2 b19 sZ hsZ br21 r21
      rw [hΦ] at h
      exact wpAny_at h (by kernel_rfl) (by kernel_rfl)
  have N31 : Hid (∀ (W : World) (c : Cur W BASE g zs) (rA : W.ownsRow w1.heap.size 26 2 xa L.length (cellsF L)) (G : w1.grownBy W (some g)) (p1 : ByteArray) (hp1 : p1 ∈ pathsL) (p2 : ByteArray) (hp2 : p2 ∈ pathsL) (br16 : Nat) (r16 : W.ownsRow w1.heap.size 9 1 (.slice (some ⟨br16, 0, none⟩) (newPL p1 p2).length (newPL p1 p2).length) (newPL p1 p2).length (strsV (newPL p1 p2))) (b19 : Nat) (rb : W.ownsRow w1.heap.size 5 1 (.slice (some ⟨b19, 0, none⟩) 61 61) 61 (madeCells #[Value.int .u8 0] 61).toList), Φ 7 #[true, true, true, true, true, true, true, false, true, true, false, false, false, false, false, false] { tmps := #[v, undef, .slice none 0 0, .pointer (some ⟨w.heap.size, 0, none⟩), (.pointer (some ⟨g, 0, none⟩)), xa, v, (.pointer (some ⟨g, 0, none⟩)), (.pointer (some ⟨g, 0, none⟩)), xa, xa, (.pointer (some ⟨g, 0, none⟩)), (.pointer (some ⟨g, 0, none⟩)), .string p1, (.pointer (some ⟨g, 0, none⟩)), .string p2, .slice (some ⟨br16, 0, none⟩) 5 5, undef, (.pointer (some ⟨g, 0, none⟩)), .slice (some ⟨b19, 0, none⟩) 61 61, undef, undef, undef, undef], defers := [] } W) := by
    intro W c rA G p1 hp1 p2 hp2 br16 r16 b19 rb
    rw [hΦ]
    have hHeld : True := True.intro
    refine wpAnyH_ready (rs := [7, 10]) (by kernel_rfl) (by simp) ?_
    refine AllReadyH.cons rfl (fun K hK => ?_) (AllReadyH.cons rfl (fun K hK => ?_) AllReadyH.nil)
    · go_simp
      go_wp2_with (go_at_call 37; refine (str_c _ g zs _ _ (newPL p1 p2) _ c (by simp [newPL]) (by simp [newPL]) (fun e => by have := (r16.lt g (by rw [← e]; rfl)).1; omega) (row_str r16)).mono ?_; rintro e W13 ⟨s1, hs1, rfl, c', gg⟩)
      have c := c'
      clear r16
      have G := grown_trans G gg
      have rA := rA.kept gg (.inr (fun e => by have := (rA.lt g e).1; omega))
      have rb := rb.kept gg (.inr (fun e => by have := (rb.lt g e).1; omega))
      clear c' gg
      clear hHeld
      refine hK.out _ _ True.intro (fun hHeld => ?_)
      clear hK K
      try simp only [Act.put, List.getElem_toArray, List.getElem_cons_zero, List.getElem_cons_succ, List.setIfInBounds_toArray, List.set_cons_zero, List.set_cons_succ]
      have h := N41.out W13 c rA G p1 hp1 p2 hp2 br16 s1 hs1 b19 rb
      rw [hΦ] at h
      exact wpAny_at h (by kernel_rfl) (by kernel_rfl)
    · obtain ⟨sZ, hsZ, hcv⟩ := conv_zerosR rb
      go_simp
      clear hcv rb
      clear hHeld
      refine hK.out _ _ True.intro (fun hHeld => ?_)
      clear hK K
      try simp only [Act.put, List.getElem_toArray, List.getElem_cons_zero, List.getElem_cons_succ, List.setIfInBounds_toArray, List.set_cons_zero, List.set_cons_succ]
      have h := N32.out W c rA G p1 hp1 p2 hp2 br16 r16 b19 sZ hsZ
      rw [hΦ] at h
      exact wpAny_at h (by kernel_rfl) (by kernel_rfl)
  have N40 : Hid (∀ (W : World) (c : Cur W BASE g zs) (rA : W.ownsRow w1.heap.size 26 2 xa L.length (cellsF L)) (G : w1.grownBy W (some g)) (p1 : ByteArray) (hp1 : p1 ∈ pathsL) (p2 : ByteArray) (hp2 : p2 ∈ pathsL) (br16 : Nat) (s1 : ByteArray) (hs1 : s1 ∈ newPL p1 p2), Φ 7 #[true, true, true, true, true, true, true, true, true, false, false, false, false, false, false, false] { tmps := #[v, undef, .slice none 0 0, .pointer (some ⟨w.heap.size, 0, none⟩), (.pointer (some ⟨g, 0, none⟩)), xa, v, (.pointer (some ⟨g, 0, none⟩)), (.pointer (some ⟨g, 0, none⟩)), xa, xa, (.pointer (some ⟨g, 0, none⟩)), (.pointer (some ⟨g, 0, none⟩)), .string p1, (.pointer (some ⟨g, 0, none⟩)), .string p2, .slice (some ⟨br16, 0, none⟩) 5 5, .string s1, (.pointer (some ⟨g, 0, none⟩)), undef, undef, undef, undef, undef], defers := [] } W) := by
    intro W c rA G p1 hp1 p2 hp2 br16 s1 hs1
    rw [hΦ]
    have hHeld : True := True.intro
    refine wpAnyH_ready (rs := [9]) (by kernel_rfl) (by simp) ?_
    refine AllReadyH.cons rfl (fun K hK => ?_) AllReadyH.nil
    rw [if_pos (by rfl)]
    refine wp_makeN W _ _ 61 (by omega) rfl rfl rfl ?_
    intro W15 rb gb
    obtain ⟨b19, hb19⟩ : ∃ b, b = W.heap.size := ⟨_, rfl⟩
    have rb := owns_lower3R rb (show w1.heap.size ≤ W.heap.size from G.size)
    rw [← hb19] at rb ⊢
    have bb := below_of_grown gb
    have c := cur_grown c gb (by simp) (by simp)
    have G := grown_trans G (grown_of_below bb (some g))
    have rA := rA.kept gb (by cases hv : Value.ownBlock _ <;> simp)
    clear bb gb hb19
    clear hHeld
    refine hK.out _ _ True.intro (fun hHeld => ?_)
    clear hK K
    try simp only [Act.put, List.getElem_toArray, List.getElem_cons_zero, List.getElem_cons_succ, List.setIfInBounds_toArray, List.set_cons_zero, List.set_cons_succ]
    have h := N41.out W15 c rA G p1 hp1 p2 hp2 br16 s1 hs1 b19 rb
    rw [hΦ] at h
    exact wpAny_at h (by kernel_rfl) (by kernel_rfl)
  have N03 : Hid (∀ (W : World) (c : Cur W BASE g zs) (rA : W.ownsRow w1.heap.size 26 2 xa L.length (cellsF L)) (G : w1.grownBy W (some g)) (b19 : Nat) (sZ : ByteArray) (hsZ : sZ.size = 61) (br21 : Nat) (r21 : W.ownsRow w1.heap.size 9 1 (.slice (some ⟨br21, 0, none⟩) (newTL sZ).length (newTL sZ).length) (newTL sZ).length (strsV (newTL sZ))), Φ 8 #[true, true, true, false, true, false, false, false, true, true, true, true, false, false, false, false] { tmps := #[v, undef, .slice none 0 0, .pointer (some ⟨w.heap.size, 0, none⟩), (.pointer (some ⟨g, 0, none⟩)), xa, v, (.pointer (some ⟨g, 0, none⟩)), (.pointer (some ⟨g, 0, none⟩)), xa, xa, (.pointer (some ⟨g, 0, none⟩)), (.pointer (some ⟨g, 0, none⟩)), undef, (.pointer (some ⟨g, 0, none⟩)), undef, undef, undef, (.pointer (some ⟨g, 0, none⟩)), .slice (some ⟨b19, 0, none⟩) 61 61, .string sZ, .slice (some ⟨br21, 0, none⟩) 3 3, undef, undef], defers := [] } W) := by
    intro W c rA G b19 sZ hsZ br21 r21
    rw [hΦ]
    have hHeld : True := True.intro
    refine wpAnyH_ready (rs := [3]) (by kernel_rfl) (by simp) ?_
    refine AllReadyH.cons rfl (fun K hK => ?_) AllReadyH.nil
    go_simp
    go_wp2_with (go_at_call 38; refine (path5_c _ g zs _ c).mono ?_; rintro e W16 ⟨p1, hp1, rfl, c', gg⟩)
    have c := c'
    have G := grown_trans G gg
    have rA := rA.kept gg (.inr (fun e => by have := (rA.lt g e).1; omega))
    have r21 := r21.kept gg (.inr (fun e => by have := (r21.lt g e).1; omega))
    clear c' gg
    clear hHeld
    refine hK.out _ _ True.intro (fun hHeld => ?_)
    clear hK K
    try simp only [Act.put, List.getElem_toArray, List.getElem_cons_zero, List.getElem_cons_succ, List.setIfInBounds_toArray, List.set_cons_zero, List.set_cons_succ]
    have h := N13.out W16 c rA G p1 hp1 b19 sZ hsZ br21 r21
    rw [hΦ] at h
    exact wpAny_at h (by kernel_rfl) (by kernel_rfl)
  have N12 : Hid (∀ (W : World) (c : Cur W BASE g zs) (rA : W.ownsRow w1.heap.size 26 2 xa L.length (cellsF L)) (G : w1.grownBy W (some g)) (p1 : ByteArray) (hp1 : p1 ∈ pathsL) (b19 : Nat) (sZ : ByteArray) (hsZ : sZ.size = 61), Φ 8 #[true, true, true, true, true, false, false, false, true, true, true, false, false, false, false, false] { tmps := #[v, undef, .slice none 0 0, .pointer (some ⟨w.heap.size, 0, none⟩), (.pointer (some ⟨g, 0, none⟩)), xa, v, (.pointer (some ⟨g, 0, none⟩)), (.pointer (some ⟨g, 0, none⟩)), xa, xa, (.pointer (some ⟨g, 0, none⟩)), (.pointer (some ⟨g, 0, none⟩)), .string p1, (.pointer (some ⟨g, 0, none⟩)), undef, undef, undef, (.pointer (some ⟨g, 0, none⟩)), .slice (some ⟨b19, 0, none⟩) 61 61, .string sZ, undef, undef, undef], defers := [] } W) := by
    intro W c rA G p1 hp1 b19 sZ hsZ
    rw [hΦ]
    have hHeld : True := True.intro
    refine wpAnyH_ready (rs := [5, 11]) (by kernel_rfl) (by simp) ?_
    refine AllReadyH.cons rfl (fun K hK => ?_) (AllReadyH.cons rfl (fun K hK => ?_) AllReadyH.nil)
    · go_simp
      go_wp2_with (go_at_call 38; refine (path5_c _ g zs _ c).mono ?_; rintro e W17 ⟨p2, hp2, rfl, c', gg⟩)
      have c := c'
      have G := grown_trans G gg
      have rA := rA.kept gg (.inr (fun e => by have := (rA.lt g e).1; omega))
      clear c' gg
      clear hHeld
      refine hK.out _ _ True.intro (fun hHeld => ?_)
      clear hK K
      try simp only [Act.put, List.getElem_toArray, List.getElem_cons_zero, List.getElem_cons_succ, List.setIfInBounds_toArray, List.set_cons_zero, List.set_cons_succ]
      have h := N22.out W17 c rA G p1 hp1 p2 hp2 b19 sZ hsZ
      rw [hΦ] at h
      exact wpAny_at h (by kernel_rfl) (by kernel_rfl)
    · go_simp
      have r21 := owns_lower3R (lit_row W (newTL sZ) (by simp [newPL, newTL, maxLen])) (show w1.heap.size ≤ W.heap.size from G.size)
      have c := cur_alloc c (.cells ((newTL sZ).map Value.string).toArray 9)
      have G := grown_trans G (World.grownBy_alloc _ (.cells ((newTL sZ).map Value.string).toArray 9) _)
      have rA := rA.alloc (.cells ((newTL sZ).map Value.string).toArray 9)
      obtain ⟨W18, hW18⟩ : ∃ X, X = W.alloc (.cells ((newTL sZ).map Value.string).toArray 9) := ⟨_, rfl⟩
      rw [← hW18] at c G rA r21
      obtain ⟨br21, hbr21⟩ : ∃ b, b = W.heap.size := ⟨_, rfl⟩
      rw [← hbr21] at r21
      try rw [← hbr21]
      clear hHeld
      refine (hK.out _ (W.alloc (.cells ((newTL sZ).map Value.string).toArray 9)) True.intro (fun hHeld => ?_))
      clear hK K
      rw [← hW18]
      clear hW18 hbr21
      try simp only [Act.put, List.getElem_toArray, List.getElem_cons_zero, List.getElem_cons_succ, List.setIfInBounds_toArray, List.set_cons_zero, List.set_cons_succ]
      have h := N13.out W18 c rA G p1 hp1 b19 sZ hsZ br21 r21
      rw [hΦ] at h
      exact wpAny_at h (by kernel_rfl) (by kernel_rfl)
  have N21 : Hid (∀ (W : World) (c : Cur W BASE g zs) (rA : W.ownsRow w1.heap.size 26 2 xa L.length (cellsF L)) (G : w1.grownBy W (some g)) (p1 : ByteArray) (hp1 : p1 ∈ pathsL) (p2 : ByteArray) (hp2 : p2 ∈ pathsL) (b19 : Nat) (rb : W.ownsRow w1.heap.size 5 1 (.slice (some ⟨b19, 0, none⟩) 61 61) 61 (madeCells #[Value.int .u8 0] 61).toList), Φ 8 #[true, true, true, true, true, true, false, false, true, true, false, false, false, false, false, false] { tmps := #[v, undef, .slice none 0 0, .pointer (some ⟨w.heap.size, 0, none⟩), (.pointer (some ⟨g, 0, none⟩)), xa, v, (.pointer (some ⟨g, 0, none⟩)), (.pointer (some ⟨g, 0, none⟩)), xa, xa, (.pointer (some ⟨g, 0, none⟩)), (.pointer (some ⟨g, 0, none⟩)), .string p1, (.pointer (some ⟨g, 0, none⟩)), .string p2, undef, undef, (.pointer (some ⟨g, 0, none⟩)), .slice (some ⟨b19, 0, none⟩) 61 61, undef, undef, undef, undef], defers := [] } W) := by
    intro W c rA G p1 hp1 p2 hp2 b19 rb
    rw [hΦ]
    have hHeld : True := True.intro
    refine wpAnyH_ready (rs := [6, 10]) (by kernel_rfl) (by simp) ?_
    refine AllReadyH.cons rfl (fun K hK => ?_) (AllReadyH.cons rfl (fun K hK => ?_) AllReadyH.nil)
    · go_simp
      have r16 := owns_lower3R (lit_row W (newPL p1 p2) (by simp [newPL, newTL, maxLen])) (show w1.heap.size ≤ W.heap.size from G.size)
      have c := cur_alloc c (.cells ((newPL p1 p2).map Value.string).toArray 9)
      have G := grown_trans G (World.grownBy_alloc _ (.cells ((newPL p1 p2).map Value.string).toArray 9) _)
      have rA := rA.alloc (.cells ((newPL p1 p2).map Value.string).toArray 9)
      have rb := rb.alloc (.cells ((newPL p1 p2).map Value.string).toArray 9)
      obtain ⟨W19, hW19⟩ : ∃ X, X = W.alloc (.cells ((newPL p1 p2).map Value.string).toArray 9) := ⟨_, rfl⟩
      rw [← hW19] at c G rA rb r16
      obtain ⟨br16, hbr16⟩ : ∃ b, b = W.heap.size := ⟨_, rfl⟩
      rw [← hbr16] at r16
      try rw [← hbr16]
      clear hHeld
      refine (hK.out _ (W.alloc (.cells ((newPL p1 p2).map Value.string).toArray 9)) True.intro (fun hHeld => ?_))
      clear hK K
      rw [← hW19]
      clear hW19 hbr16
      try simp only [Act.put, List.getElem_toArray, List.getElem_cons_zero, List.getElem_cons_succ, List.setIfInBounds_toArray, List.set_cons_zero, List.set_cons_succ]
      have h := N31.out W19 c rA G p1 hp1 p2 hp2 br16 r16 b19 rb
      rw [hΦ] at h
      exact wpAny_at h (by kernel_rfl) (by kernel_rfl)
    · obtain ⟨sZ, hsZ, hcv⟩ := conv_zerosR rb
      go_simp
      clear hcv rb
      clear hHeld
      refine hK.out _ _ True.intro (fun hHeld => ?_)
      clear hK K
      try simp only [Act.put, List.getElem_toArray, List.getElem_cons_zero, List.getElem_cons_succ, List.setIfInBounds_toArray, List.set_cons_zero, List.set_cons_succ]
      have h := N22.out W c rA G p1 hp1 p2 hp2 b19 sZ hsZ
      rw [hΦ] at h
      exact wpAny_at h (by kernel_rfl) (by kernel_rfl)
  have N30 : Hid (∀ (W : World) (c : Cur W BASE g zs) (rA : W.ownsRow w1.heap.size 26 2 xa L.length (cellsF L)) (G : w1.grownBy W (some g)) (p1 : ByteArray) (hp1 : p1 ∈ pathsL) (p2 : ByteArray) (hp2 : p2 ∈ pathsL) (br16 : Nat) (r16 : W.ownsRow w1.heap.size 9 1 (.slice (some ⟨br16, 0, none⟩) (newPL p1 p2).length (newPL p1 p2).length) (newPL p1 p2).length (strsV (newPL p1 p2))), Φ 8 #[true, true, true, true, true, true, true, false, true, false, false, false, false, false, false, false] { tmps := #[v, undef, .slice none 0 0, .pointer (some ⟨w.heap.size, 0, none⟩), (.pointer (some ⟨g, 0, none⟩)), xa, v, (.pointer (some ⟨g, 0, none⟩)), (.pointer (some ⟨g, 0, none⟩)), xa, xa, (.pointer (some ⟨g, 0, none⟩)), (.pointer (some ⟨g, 0, none⟩)), .string p1, (.pointer (some ⟨g, 0, none⟩)), .string p2, .slice (some ⟨br16, 0, none⟩) 5 5, undef, (.pointer (some ⟨g, 0, none⟩)), undef, undef, undef, undef, undef], defers := [] } W) := by
    intro W c rA G p1 hp1 p2 hp2 br16 r16
    rw [hΦ]
    have hHeld : True := True.intro
    refine wpAnyH_ready (rs := [7, 9]) (by kernel_rfl) (by simp) ?_
    refine AllReadyH.cons rfl (fun K hK => ?_) (AllReadyH.cons rfl (fun K hK => ?_) AllReadyH.nil)
    · go_simp
      go_wp2_with (go_at_call 37; refine (str_c _ g zs _ _ (newPL p1 p2) _ c (by simp [newPL]) (by simp [newPL]) (fun e => by have := (r16.lt g (by rw [← e]; rfl)).1; omega) (row_str r16)).mono ?_; rintro e W21 ⟨s1, hs1, rfl, c', gg⟩)
      have c := c'
      clear r16
      have G := grown_trans G gg
      have rA := rA.kept gg (.inr (fun e => by have := (rA.lt g e).1; omega))
      clear c' gg
      clear hHeld
      refine hK.out _ _ True.intro (fun hHeld => ?_)
      clear hK K
      try simp only [Act.put, List.getElem_toArray, List.getElem_cons_zero, List.getElem_cons_succ, List.setIfInBounds_toArray, List.set_cons_zero, List.set_cons_succ]
      have h := N40.out W21 c rA G p1 hp1 p2 hp2 br16 s1 hs1
      rw [hΦ] at h
      exact wpAny_at h (by kernel_rfl) (by kernel_rfl)
    · rw [if_pos (by rfl)]
      refine wp_makeN W _ _ 61 (by omega) rfl rfl rfl ?_
      intro W22 rb gb
      obtain ⟨b19, hb19⟩ : ∃ b, b = W.heap.size := ⟨_, rfl⟩
      have rb := owns_lower3R rb (show w1.heap.size ≤ W.heap.size from G.size)
      rw [← hb19] at rb ⊢
      have bb := below_of_grown gb
      have c := cur_grown c gb (by simp) (by simp)
      have G := grown_trans G (grown_of_below bb (some g))
      have rA := rA.kept gb (by cases hv : Value.ownBlock _ <;> simp)
      have r16 := r16.kept gb (by cases hv : Value.ownBlock _ <;> simp)
      clear bb gb hb19
      clear hHeld
      refine hK.out _ _ True.intro (fun hHeld => ?_)
      clear hK K
      try simp only [Act.put, List.getElem_toArray, List.getElem_cons_zero, List.getElem_cons_succ, List.setIfInBounds_toArray, List.set_cons_zero, List.set_cons_succ]
      have h := N31.out W22 c rA G p1 hp1 p2 hp2 br16 r16 b19 rb
      rw [hΦ] at h
      exact wpAny_at h (by kernel_rfl) (by kernel_rfl)
  have N02 : Hid (∀ (W : World) (c : Cur W BASE g zs) (rA : W.ownsRow w1.heap.size 26 2 xa L.length (cellsF L)) (G : w1.grownBy W (some g)) (b19 : Nat) (sZ : ByteArray) (hsZ : sZ.size = 61), Φ 9 #[true, true, true, false, true, false, false, false, true, true, true, false, false, false, false, false] { tmps := #[v, undef, .slice none 0 0, .pointer (some ⟨w.heap.size, 0, none⟩), (.pointer (some ⟨g, 0, none⟩)), xa, v, (.pointer (some ⟨g, 0, none⟩)), (.pointer (some ⟨g, 0, none⟩)), xa, xa, (.pointer (some ⟨g, 0, none⟩)), (.pointer (some ⟨g, 0, none⟩)), undef, (.pointer (some ⟨g, 0, none⟩)), undef, undef, undef, (.pointer (some ⟨g, 0, none⟩)), .slice (some ⟨b19, 0, none⟩) 61 61, .string sZ, undef, undef, undef], defers := [] } W) := by
    intro W c rA G b19 sZ hsZ
    rw [hΦ]
    have hHeld : True := True.intro
    refine wpAnyH_ready (rs := [3, 11]) (by kernel_rfl) (by simp) ?_
    refine AllReadyH.cons rfl (fun K hK => ?_) (AllReadyH.cons rfl (fun K hK => ?_) AllReadyH.nil)
    · go_simp
      go_wp2_with (go_at_call 38; refine (path5_c _ g zs _ c).mono ?_; rintro e W23 ⟨p1, hp1, rfl, c', gg⟩)
      have c := c'
      have G := grown_trans G gg
      have rA := rA.kept gg (.inr (fun e => by have := (rA.lt g e).1; omega))
      clear c' gg
      clear hHeld
      refine hK.out _ _ True.intro (fun hHeld => ?_)
      clear hK K
      try simp only [Act.put, List.getElem_toArray, List.getElem_cons_zero, List.getElem_cons_succ, List.setIfInBounds_toArray, List.set_cons_zero, List.set_cons_succ]
      have h := N12.out W23 c rA G p1 hp1 b19 sZ hsZ
      rw [hΦ] at h
      exact wpAny_at h (by kernel_rfl) (by kernel_rfl)
    · go_simp
      have r21 := owns_lower3R (lit_row W (newTL sZ) (by simp [newPL, newTL, maxLen])) (show w1.heap.size ≤ W.heap.size from G.size)
      have c := cur_alloc c (.cells ((newTL sZ).map Value.string).toArray 9)
      have G := grown_trans G (World.grownBy_alloc _ (.cells ((newTL sZ).map Value.string).toArray 9) _)
      have rA := rA.alloc (.cells ((newTL sZ).map Value.string).toArray 9)
      obtain ⟨W24, hW24⟩ : ∃ X, X = W.alloc (.cells ((newTL sZ).map Value.string).toArray 9) := ⟨_, rfl⟩
      rw [← hW24] at c G rA r21
      obtain ⟨br21, hbr21⟩ : ∃ b, b = W.heap.size := ⟨_, rfl⟩
      rw [← hbr21] at r21
      try rw [← hbr21]
      clear hHeld
      refine (hK.out _ (W.alloc (.cells ((newTL sZ).map Value.string).toArray 9)) True.intro (fun hHeld => ?_))
      clear hK K
      rw [← hW24]
      clear hW24 hbr21
      try simp only [Act.put, List.getElem_toArray, List.getElem_cons_zero, List.getElem_cons_succ, List.setIfInBounds_toArray, List.set_cons_zero, List.set_cons_succ]
      have h := N03.out W24 c rA G b19 sZ hsZ br21 r21
      rw [hΦ] at h
      exact wpAny_at h (by kernel_rfl) (by kernel_rfl)
  have N11 : Hid (∀ (W : World) (c : Cur W BASE g zs) (rA : W.ownsRow w1.heap.size 26 2 xa L.length (cellsF L)) (G : w1.grownBy W (some g)) (p1 : ByteArray) (hp1 : p1 ∈ pathsL) (b19 : Nat) (rb : W.ownsRow w1.heap.size 5 1 (.slice (some ⟨b19, 0, none⟩) 61 61) 61 (madeCells #[Value.int .u8 0] 61).toList), Φ 9 #[true, true, true, true, true, false, false, false, true, true, false, false, false, false, false, false] { tmps := #[v, undef, .slice none 0 0, .pointer (some ⟨w.heap.size, 0, none⟩), (.pointer (some ⟨g, 0, none⟩)), xa, v, (.pointer (some ⟨g, 0, none⟩)), (.pointer (some ⟨g, 0, none⟩)), xa, xa, (.pointer (some ⟨g, 0, none⟩)), (.pointer (some ⟨g, 0, none⟩)), .string p1, (.pointer (some ⟨g, 0, none⟩)), undef, undef, undef, (.pointer (some ⟨g, 0, none⟩)), .slice (some ⟨b19, 0, none⟩) 61 61, undef, undef, undef, undef], defers := [] } W) := by
    intro W c rA G p1 hp1 b19 rb
    rw [hΦ]
    have hHeld : True := True.intro
    refine wpAnyH_ready (rs := [5, 10]) (by kernel_rfl) (by simp) ?_
    refine AllReadyH.cons rfl (fun K hK => ?_) (AllReadyH.cons rfl (fun K hK => ?_) AllReadyH.nil)
    · go_simp
      go_wp2_with (go_at_call 38; refine (path5_c _ g zs _ c).mono ?_; rintro e W25 ⟨p2, hp2, rfl, c', gg⟩)
      have c := c'
      have G := grown_trans G gg
      have rA := rA.kept gg (.inr (fun e => by have := (rA.lt g e).1; omega))
      have rb := rb.kept gg (.inr (fun e => by have := (rb.lt g e).1; omega))
      clear c' gg
      clear hHeld
      refine hK.out _ _ True.intro (fun hHeld => ?_)
      clear hK K
      try simp only [Act.put, List.getElem_toArray, List.getElem_cons_zero, List.getElem_cons_succ, List.setIfInBounds_toArray, List.set_cons_zero, List.set_cons_succ]
      have h := N21.out W25 c rA G p1 hp1 p2 hp2 b19 rb
      rw [hΦ] at h
      exact wpAny_at h (by kernel_rfl) (by kernel_rfl)
    · obtain ⟨sZ, hsZ, hcv⟩ := conv_zerosR rb
      go_simp
      clear hcv rb
      clear hHeld
      refine hK.out _ _ True.intro (fun hHeld => ?_)
      clear hK K
      try simp only [Act.put, List.getElem_toArray, List.getElem_cons_zero, List.getElem_cons_succ, List.setIfInBounds_toArray, List.set_cons_zero, List.set_cons_succ]
      have h := N12.out W c rA G p1 hp1 b19 sZ hsZ
      rw [hΦ] at h
      exact wpAny_at h (by kernel_rfl) (by kernel_rfl)
  have N20 : Hid (∀ (W : World) (c : Cur W BASE g zs) (rA : W.ownsRow w1.heap.size 26 2 xa L.length (cellsF L)) (G : w1.grownBy W (some g)) (p1 : ByteArray) (hp1 : p1 ∈ pathsL) (p2 : ByteArray) (hp2 : p2 ∈ pathsL), Φ 9 #[true, true, true, true, true, true, false, false, true, false, false, false, false, false, false, false] { tmps := #[v, undef, .slice none 0 0, .pointer (some ⟨w.heap.size, 0, none⟩), (.pointer (some ⟨g, 0, none⟩)), xa, v, (.pointer (some ⟨g, 0, none⟩)), (.pointer (some ⟨g, 0, none⟩)), xa, xa, (.pointer (some ⟨g, 0, none⟩)), (.pointer (some ⟨g, 0, none⟩)), .string p1, (.pointer (some ⟨g, 0, none⟩)), .string p2, undef, undef, (.pointer (some ⟨g, 0, none⟩)), undef, undef, undef, undef, undef], defers := [] } W) := by
    intro W c rA G p1 hp1 p2 hp2
    rw [hΦ]
    have hHeld : True := True.intro
    refine wpAnyH_ready (rs := [6, 9]) (by kernel_rfl) (by simp) ?_
    refine AllReadyH.cons rfl (fun K hK => ?_) (AllReadyH.cons rfl (fun K hK => ?_) AllReadyH.nil)
    · go_simp
      have r16 := owns_lower3R (lit_row W (newPL p1 p2) (by simp [newPL, newTL, maxLen])) (show w1.heap.size ≤ W.heap.size from G.size)
      have c := cur_alloc c (.cells ((newPL p1 p2).map Value.string).toArray 9)
      have G := grown_trans G (World.grownBy_alloc _ (.cells ((newPL p1 p2).map Value.string).toArray 9) _)
      have rA := rA.alloc (.cells ((newPL p1 p2).map Value.string).toArray 9)
      obtain ⟨W27, hW27⟩ : ∃ X, X = W.alloc (.cells ((newPL p1 p2).map Value.string).toArray 9) := ⟨_, rfl⟩
      rw [← hW27] at c G rA r16
      obtain ⟨br16, hbr16⟩ : ∃ b, b = W.heap.size := ⟨_, rfl⟩
      rw [← hbr16] at r16
      try rw [← hbr16]
      clear hHeld
      refine (hK.out _ (W.alloc (.cells ((newPL p1 p2).map Value.string).toArray 9)) True.intro (fun hHeld => ?_))
      clear hK K
      rw [← hW27]
      clear hW27 hbr16
      try simp only [Act.put, List.getElem_toArray, List.getElem_cons_zero, List.getElem_cons_succ, List.setIfInBounds_toArray, List.set_cons_zero, List.set_cons_succ]
      have h := N30.out W27 c rA G p1 hp1 p2 hp2 br16 r16
      rw [hΦ] at h
      exact wpAny_at h (by kernel_rfl) (by kernel_rfl)
    · rw [if_pos (by rfl)]
      refine wp_makeN W _ _ 61 (by omega) rfl rfl rfl ?_
      intro W28 rb gb
      obtain ⟨b19, hb19⟩ : ∃ b, b = W.heap.size := ⟨_, rfl⟩
      have rb := owns_lower3R rb (show w1.heap.size ≤ W.heap.size from G.size)
      rw [← hb19] at rb ⊢
      have bb := below_of_grown gb
      have c := cur_grown c gb (by simp) (by simp)
      have G := grown_trans G (grown_of_below bb (some g))
      have rA := rA.kept gb (by cases hv : Value.ownBlock _ <;> simp)
      clear bb gb hb19
      clear hHeld
      refine hK.out _ _ True.intro (fun hHeld => ?_)
      clear hK K
      try simp only [Act.put, List.getElem_toArray, List.getElem_cons_zero, List.getElem_cons_succ, List.setIfInBounds_toArray, List.set_cons_zero, List.set_cons_succ]
      have h := N21.out W28 c rA G p1 hp1 p2 hp2 b19 rb
      rw [hΦ] at h
      exact wpAny_at h (by kernel_rfl) (by kernel_rfl)
  have N01 : Hid (∀ (W : World) (c : Cur W BASE g zs) (rA : W.ownsRow w1.heap.size 26 2 xa L.length (cellsF L)) (G : w1.grownBy W (some g)) (b19 : Nat) (rb : W.ownsRow w1.heap.size 5 1 (.slice (some ⟨b19, 0, none⟩) 61 61) 61 (madeCells #[Value.int .u8 0] 61).toList), Φ 10 #[true, true, true, false, true, false, false, false, true, true, false, false, false, false, false, false] { tmps := #[v, undef, .slice none 0 0, .pointer (some ⟨w.heap.size, 0, none⟩), (.pointer (some ⟨g, 0, none⟩)), xa, v, (.pointer (some ⟨g, 0, none⟩)), (.pointer (some ⟨g, 0, none⟩)), xa, xa, (.pointer (some ⟨g, 0, none⟩)), (.pointer (some ⟨g, 0, none⟩)), undef, (.pointer (some ⟨g, 0, none⟩)), undef, undef, undef, (.pointer (some ⟨g, 0, none⟩)), .slice (some ⟨b19, 0, none⟩) 61 61, undef, undef, undef, undef], defers := [] } W) := by
    intro W c rA G b19 rb
    rw [hΦ]
    have hHeld : True := True.intro
    refine wpAnyH_ready (rs := [3, 10]) (by kernel_rfl) (by simp) ?_
    refine AllReadyH.cons rfl (fun K hK => ?_) (AllReadyH.cons rfl (fun K hK => ?_) AllReadyH.nil)
    · go_simp
      go_wp2_with (go_at_call 38; refine (path5_c _ g zs _ c).mono ?_; rintro e W29 ⟨p1, hp1, rfl, c', gg⟩)
      have c := c'
      have G := grown_trans G gg
      have rA := rA.kept gg (.inr (fun e => by have := (rA.lt g e).1; omega))
      have rb := rb.kept gg (.inr (fun e => by have := (rb.lt g e).1; omega))
      clear c' gg
      clear hHeld
      refine hK.out _ _ True.intro (fun hHeld => ?_)
      clear hK K
      try simp only [Act.put, List.getElem_toArray, List.getElem_cons_zero, List.getElem_cons_succ, List.setIfInBounds_toArray, List.set_cons_zero, List.set_cons_succ]
      have h := N11.out W29 c rA G p1 hp1 b19 rb
      rw [hΦ] at h
      exact wpAny_at h (by kernel_rfl) (by kernel_rfl)
    · obtain ⟨sZ, hsZ, hcv⟩ := conv_zerosR rb
      go_simp
      clear hcv rb
      clear hHeld
      refine hK.out _ _ True.intro (fun hHeld => ?_)
      clear hK K
      try simp only [Act.put, List.getElem_toArray, List.getElem_cons_zero, List.getElem_cons_succ, List.setIfInBounds_toArray, List.set_cons_zero, List.set_cons_succ]
      have h := N02.out W c rA G b19 sZ hsZ
      rw [hΦ] at h
      exact wpAny_at h (by kernel_rfl) (by kernel_rfl)
  have N10 : Hid (∀ (W : World) (c : Cur W BASE g zs) (rA : W.ownsRow w1.heap.size 26 2 xa L.length (cellsF L)) (G : w1.grownBy W (some g)) (p1 : ByteArray) (hp1 : p1 ∈ pathsL), Φ 10 #[true, true, true, true, true, false, false, false, true, false, false, false, false, false, false, false] { tmps := #[v, undef, .slice none 0 0, .pointer (some ⟨w.heap.size, 0, none⟩), (.pointer (some ⟨g, 0, none⟩)), xa, v, (.pointer (some ⟨g, 0, none⟩)), (.pointer (some ⟨g, 0, none⟩)), xa, xa, (.pointer (some ⟨g, 0, none⟩)), (.pointer (some ⟨g, 0, none⟩)), .string p1, (.pointer (some ⟨g, 0, none⟩)), undef, undef, undef, (.pointer (some ⟨g, 0, none⟩)), undef, undef, undef, undef, undef], defers := [] } W) := by
    intro W c rA G p1 hp1
    rw [hΦ]
    have hHeld : True := True.intro
    refine wpAnyH_ready (rs := [5, 9]) (by kernel_rfl) (by simp) ?_
    refine AllReadyH.cons rfl (fun K hK => ?_) (AllReadyH.cons rfl (fun K hK => ?_) AllReadyH.nil)
    · go_simp
      go_wp2_with (go_at_call 38; refine (path5_c _ g zs _ c).mono ?_; rintro e W31 ⟨p2, hp2, rfl, c', gg⟩)
      have c := c'
      have G := grown_trans G gg
      have rA := rA.kept gg (.inr (fun e => by have := (rA.lt g e).1; omega))
      clear c' gg
      clear hHeld
      refine hK.out _ _ True.intro (fun hHeld => ?_)
      clear hK K
      try simp only [Act.put, List.getElem_toArray, List.getElem_cons_zero, List.getElem_cons_succ, List.setIfInBounds_toArray, List.set_cons_zero, List.set_cons_succ]
      have h := N20.out W31 c rA G p1 hp1 p2 hp2
      rw [hΦ] at h
      exact wpAny_at h (by kernel_rfl) (by kernel_rfl)
    · rw [if_pos (by rfl)]
      refine wp_makeN W _ _ 61 (by omega) rfl rfl rfl ?_
      intro W32 rb gb
      obtain ⟨b19, hb19⟩ : ∃ b, b = W.heap.size := ⟨_, rfl⟩
      have rb := owns_lower3R rb (show w1.heap.size ≤ W.heap.size from G.size)
      rw [← hb19] at rb ⊢
      have bb := below_of_grown gb
      have c := cur_grown c gb (by simp) (by simp)
      have G := grown_trans G (grown_of_below bb (some g))
      have rA := rA.kept gb (by cases hv : Value.ownBlock _ <;> simp)
      clear bb gb hb19
      clear hHeld
      refine hK.out _ _ True.intro (fun hHeld => ?_)
      clear hK K
      try simp only [Act.put, List.getElem_toArray, List.getElem_cons_zero, List.getElem_cons_succ, List.setIfInBounds_toArray, List.set_cons_zero, List.set_cons_succ]
      have h := N11.out W32 c rA G p1 hp1 b19 rb
      rw [hΦ] at h
      exact wpAny_at h (by kernel_rfl) (by kernel_rfl)
  have N00 : Hid (∀ (W : World) (c : Cur W BASE g zs) (rA : W.ownsRow w1.heap.size 26 2 xa L.length (cellsF L)) (G : w1.grownBy W (some g)), Φ 11 #[true, true, true, false, true, false, false, false, true, false, false, false, false, false, false, false] { tmps := #[v, undef, .slice none 0 0, .pointer (some ⟨w.heap.size, 0, none⟩), (.pointer (some ⟨g, 0, none⟩)), xa, v, (.pointer (some ⟨g, 0, none⟩)), (.pointer (some ⟨g, 0, none⟩)), xa, xa, (.pointer (some ⟨g, 0, none⟩)), (.pointer (some ⟨g, 0, none⟩)), undef, (.pointer (some ⟨g, 0, none⟩)), undef, undef, undef, (.pointer (some ⟨g, 0, none⟩)), undef, undef, undef, undef, undef], defers := [] } W) := by
    intro W c rA G
    rw [hΦ]
    have hHeld : True := True.intro
    refine wpAnyH_ready (rs := [3, 9]) (by kernel_rfl) (by simp) ?_
    refine AllReadyH.cons rfl (fun K hK => ?_) (AllReadyH.cons rfl (fun K hK => ?_) AllReadyH.nil)
    · go_simp
      go_wp2_with (go_at_call 38; refine (path5_c _ g zs _ c).mono ?_; rintro e W33 ⟨p1, hp1, rfl, c', gg⟩)
      have c := c'
      have G := grown_trans G gg
      have rA := rA.kept gg (.inr (fun e => by have := (rA.lt g e).1; omega))
      clear c' gg
      clear hHeld
      refine hK.out _ _ True.intro (fun hHeld => ?_)
      clear hK K
      try simp only [Act.put, List.getElem_toArray, List.getElem_cons_zero, List.getElem_cons_succ, List.setIfInBounds_toArray, List.set_cons_zero, List.set_cons_succ]
      have h := N10.out W33 c rA G p1 hp1
      rw [hΦ] at h
      exact wpAny_at h (by kernel_rfl) (by kernel_rfl)
    · rw [if_pos (by rfl)]
      refine wp_makeN W _ _ 61 (by omega) rfl rfl rfl ?_
      intro W34 rb gb
      obtain ⟨b19, hb19⟩ : ∃ b, b = W.heap.size := ⟨_, rfl⟩
      have rb := owns_lower3R rb (show w1.heap.size ≤ W.heap.size from G.size)
      rw [← hb19] at rb ⊢
      have bb := below_of_grown gb
      have c := cur_grown c gb (by simp) (by simp)
      have G := grown_trans G (grown_of_below bb (some g))
      have rA := rA.kept gb (by cases hv : Value.ownBlock _ <;> simp)
      clear bb gb hb19
      clear hHeld
      refine hK.out _ _ True.intro (fun hHeld => ?_)
      clear hK K
      try simp only [Act.put, List.getElem_toArray, List.getElem_cons_zero, List.getElem_cons_succ, List.setIfInBounds_toArray, List.set_cons_zero, List.set_cons_succ]
      have h := N01.out W34 c rA G b19 rb
      rw [hΦ] at h
      exact wpAny_at h (by kernel_rfl) (by kernel_rfl)
  have h := N00.out W2' c rA G
  rw [hΦ] at h
  exact wpAny_at h (by kernel_rfl) (by kernel_rfl)
end Go.Proofs.Ytlnofdlhjeomfaa
