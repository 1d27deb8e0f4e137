/-
  Contracts for the walks, several texts in one: each part says what it proves, and under which conditions.
-/
import Derived.RangeFuncBox
import Derived.Test.YtbhedlobiagngaaQ5
import Derived.Test.YtbhedlobiagngaaQ4
import Derived.Test.YtbhedlobiagngaaQ2
import Derived.Test.YtbhedlobiagngaaQ3

/-! Packs in order, as the program answers it: a contract for the walks; conditions: the packs lie in memory, and hold at most 2 to the 20. -/
namespace Go.Proofs.Ytbhedlobiagngaa
open Go.RowKit Go.Maps
set_option linter.unusedSimpArgs false
set_option linter.unusedVariables false

set_option maxHeartbeats 8000000 in
set_option maxRecDepth 100000 in
theorem namesOf_c (lo mb own : Nat) (vn vu vb : Value) (us bs : List Value) (M N : List ByteArray) (U B : List (List Nat)) (vi : Value) (out : List Nat) (w : World) (C : GrC lo w mb vn vu vb us bs M N U B noX noX) (lo2 : Nat) (hi : w.ownsRow lo2 3 1 vi out.length (intsV out)) (ho : ∀ i ∈ out, i < N.length) (hl : out.length ≤ 4194304) (hN : N.length ≤ 4194304) (hs : ∀ x ∈ N, x.size ≤ 1048576) :
    Calls Try.prog 32 #[.agg #[.map (some mb), vn, .int .i64 (own : Int), vu, vb], vi] w fun e w' => ∃ u, e = .returned u ∧ w'.ownsRow w.heap.size 9 1 u out.length (strsV (out.map (nmOf N))) ∧ Below w.heap.size w w' := by
  obtain ⟨i0, hi0, hz0, hz1, hz2⟩ := info_parts infoS
  obtain ⟨qn, xn, en⟩ := owns_slG C.names
  obtain ⟨qu, nu, xu, eu⟩ : ∃ q n c, vu = .slice q n c := by obtain ⟨q, c, e⟩ := owns_slG C.ru; exact ⟨q, _, c, e⟩
  obtain ⟨qb, nb, xb, eb⟩ : ∃ q n c, vb = .slice q n c := by obtain ⟨q, c, e⟩ := owns_slG C.rb; exact ⟨q, _, c, e⟩
  subst en eu eb
  obtain ⟨qv, cv, ev⟩ := owns_slG hi
  subst ev
  have HN : Hid (∀ w1, Below w.heap.size w w1 → ∀ i (h : i < N.length), ∃ gn, qn = some ⟨gn, 0, none⟩ ∧ w1.cell? ⟨gn, i, none⟩ = some (.string N[i])) := fun w1 h1 i h => by
    have E := (C.new (r := none) (grown_of_below h1 none) (fun q e => by cases e)).names
    obtain ⟨g0, c0, e0⟩ := owns_pos E (by omega)
    injection e0 with e1 _ e3
    subst e1 e3
    exact ⟨g0, rfl, by rw [E.cellAt i (by omega)]; exact strsV_at N i h⟩
  have HV : Hid (∀ w1, Below w.heap.size w w1 → ∀ j (h : j < out.length), ∃ g0, qv = some ⟨g0, 0, none⟩ ∧ w1.cell? ⟨g0, j, none⟩ = some (.int .i64 (out[j] : Int))) := fun w1 h1 j h => by
    have E := owns_of_belowN hi h1
    obtain ⟨g0, c0, e0⟩ := owns_pos E (by omega)
    injection e0 with e1 _ e3
    subst e1 e3
    exact ⟨g0, rfl, by rw [E.cellAt j (by omega)]; exact intsV_at h⟩
  clear C hi
  have k1 : Below w.heap.size w (w.alloc (.cells #[.map (some mb), .slice qn N.length xn, .int .i64 (own : Int), .slice qu nu xu, .slice qb nb xb] 53)) := (Below.refl _ _).alloc (Nat.le_refl _) _
  have hx0 : (w.alloc (.cells #[.map (some mb), .slice qn N.length xn, .int .i64 (own : Int), .slice qu nu xu, .slice qb nb xb] 53)).heap[w.heap.size]? = some (.cells #[.map (some mb), .slice qn N.length xn, .int .i64 (own : Int), .slice qu nu xu, .slice qb nb xb] 53 (0, 0)) := vheap_new _ _
  go_enter Try.func32, Try.ntmps32
  go_wp2_with fail
  go_loopw [5, 10] (fun vo vi wr => ∃ (k : Nat) (ys : List ByteArray), k ≤ out.length ∧ vi = .int .i64 (k : Int) ∧ Hid (ys = (out.take k).map (nmOf N)) ∧ ys.length ≤ k ∧ wr.ownsRow (w.heap.size + 1) 9 1 vo ys.length (strsV ys) ∧ Hid (wr.heap[w.heap.size]? = some (.cells #[.map (some mb), .slice qn N.length xn, .int .i64 (own : Int), .slice qu nu xu, .slice qb nb xb] 53 (0, 0))) ∧ Below w.heap.size w wr) (fun _ vi _ => out.length - (intOf vi).toNat)
  case atStart => exact ⟨0, [], Nat.zero_le _, rfl, rfl, Nat.le_refl _, World.ownsRow_nil _ _ _ _, hx0, k1⟩
  case round =>
    clear k1 hx0
    obtain ⟨k, ys, hk, rfl, hys, hyk, hown, HX, hbr⟩ := hrel
    obtain ⟨qo, co, hvo⟩ := owns_slG hown
    subst hvo
    by_cases hlt' : k < out.length
    · obtain ⟨g0, e0, cj⟩ := HV.out wr hbr k hlt'
      have hoN := ho out[k] (List.getElem_mem hlt')
      obtain ⟨gn, en, cn⟩ := HN.out wr hbr out[k] hoN
      subst e0 en
      have HT : Hid ((out.take (k + 1)).map (nmOf N) = ys ++ [N[out[k]]]) := by
        show _ = _
        rw [List.take_succ_eq_append_getElem hlt', List.map_append, hys.out]
        simp [nmOf_lt hoN]
      have hsz := hs N[out[k]] (List.getElem_mem hoN)
      obtain ⟨s, hs9⟩ : ∃ s, s = N[out[k]] := ⟨_, rfl⟩
      obtain ⟨t, ht⟩ : ∃ t, t = out[k] := ⟨_, rfl⟩
      rw [← hs9] at cn HT hsz
      rw [← ht] at cj cn hoN
      have x1 : wr.cell? ⟨w.heap.size, 1, none⟩ = some (.slice (some ⟨gn, 0, none⟩) N.length xn) := vblk_cell HX.out 1
      have hki : (k : Int) < (out.length : Int) := by omega
      have hti : (t : Int) < (N.length : Int) := by omega
      have HCL := hidden (cloneB_c s wr hsz)
      have hxl := (Array.getElem?_eq_some_iff.1 HX.out).1
      clear hs9 ht hys
      go_wp2_with (first
        | (go_at_call 60; refine HCL.out.mono ?_; rintro e w1 ⟨rfl, b1⟩; have hb1 := hbr.trans (b1.mono hbr.size); have o1 := owns_of_belowN hown b1; have HX1 := hidden ((b1.block _ hxl).trans HX.out); have hz9 := hb1.size; have hz8 := b1.size; clear HCL b1 hown HX hbr x1 cj cn)
        | (at_builtin; refine wpList_append_own _ rfl _ _ 26 rfl (w.heap.size + 1) 9 i0 (.string ⟨#[]⟩) 1 16 Try.underlying26 hi0 hz0 hz1 hz2 rfl (by decide) _ ys.length (strsV ys) rfl (o1.alloc _) ⟨w1.heap.size, 0, none⟩ 1 1 (strsV [s]) rfl rfl (cell_one_new _ _ _) (fun u hu => by simp [strsV] at hu; subst hu; rfl) (by unfold maxLen; omega) (by omega) (by simp; omega) ?_))
      intro v2 w2 o2 gr2 hnil
      have hst : strsV ys ++ strsV [s] = strsV (ys ++ [s]) := by simp [strsV]
      rw [hst] at o2
      have hb2 : Below w.heap.size w w2 := Below.grown (hb1.alloc hb1.size _) gr2 (by simp; omega) (fun j hj => by have := (o1.lt _ hj).1; omega)
      have HX2 := hidden ((gr2.block w.heap.size (by simp; omega) (fun e => by have := (o1.lt _ e.symm).1; omega)).trans ((vheap_old _ _ (by omega)).trans HX1.out))
      clear gr2 hnil o1 hst HX1
      go_wp2_with fail
      go_roundw
      case rel => exact ⟨k + 1, ys ++ [s], by omega, by go_num, HT.out.symm, by simp; omega, by simpa using o2, HX2, hb2⟩
      case measure => simp [intOf]; omega
    · have he : k = out.length := by omega
      subst he
      have HE : Hid (wr.ownsRow w.heap.size 9 1 (.slice qo ys.length co) out.length (strsV (out.map (nmOf N)))) := by
        have h1 := hys.out
        rw [List.take_length] at h1
        have h2 : ys.length = out.length := by rw [h1, List.length_map]
        rw [← h1, ← h2]
        exact owns_lo (by omega) hown
      clear hown hys HN HV
      go_wp2_with fail
      go_ret
      exact ⟨_, rfl, HE.out, hbr⟩

theorem gOf_len {xs : List PackD} (hw : wtRow wtPack xs ≤ 1048576) : (gOf (plOf xs)).N.length ≤ 4194304 ∧ (∀ i, (rowAt (gOf (plOf xs)).U i).length ≤ 1099511627776 ∧ (rowAt (gOf (plOf xs)).B i).length ≤ 1099511627776) ∧ ∀ x ∈ (gOf (plOf xs)).N, x.size ≤ 1048576 := by
  have h1 := gUses_size (gNames ((plOf xs).map (·.1))) (plOf xs)
  have h2 := gNames_len ((plOf xs).map (·.1))
  have h3 := sumU_wt xs
  have h4 := len_wtRow wtPack xs
  have h5 : ((plOf xs).map (·.1)).length = xs.length := by rw [plOf_names, List.length_map]
  have hwe : ∀ d ∈ xs, d.name.size ≤ 1048576 ∧ ∀ x ∈ d.uses, x.size ≤ 1048576 := fun d hd => by
    have h1 := Nat.le_trans (wt_wtRow wtPack hd) hw
    unfold wtPack bulkS at h1
    refine ⟨by omega, fun x hx => ?_⟩
    have h2 : x.size ≤ (d.uses.map ByteArray.size).sum := List.single_le_sum_natC hx
    omega
  refine ⟨by have := h1.1; unfold gOf; omega, fun i => ?_, fun x hx => ?_⟩
  · have h6 := h1.2 i
    rw [(gNames_rows _ i).1, (gNames_rows _ i).2] at h6
    simp only [List.length_nil] at h6
    unfold gOf
    omega
  · rcases (gOf_ok (plOf xs)).2.2.2.2 x hx with h | ⟨d, hd, h⟩
    · rw [plOf_names] at h
      obtain ⟨d, hd, rfl⟩ := List.mem_map.1 h
      exact (hwe d hd).1
    · unfold plOf at hd
      obtain ⟨d', hd', rfl⟩ := List.mem_map.1 hd
      exact (hwe d' hd').2 x h

set_option maxHeartbeats 8000000 in
set_option maxRecDepth 100000 in
theorem implOrder_c (S : Nat → Prop) (v : Value) (xs : List PackD) (w : World) (hv : RowIn shPack S w v xs) (hB : ∀ b, S b → b < w.heap.size) (hw : wtRow wtPack xs ≤ 1048576) :
    Calls Try.prog 10 #[v] w fun e w' => ∃ u, e = .returned (.tuple #[u, .bool (ordPk xs).2]) ∧ w'.ownsRow w.heap.size 9 1 u (ordPk xs).1.length (strsV (ordPk xs).1) ∧ Below w.heap.size w w' := by
  have HG := hidden (graphOf_c S v xs w hv hB hw)
  obtain ⟨gl1, gl2, gl3⟩ := gOf_len hw
  obtain ⟨g1, ⟨M, hM⟩, g3, g4, g5⟩ := gOf_ok (plOf xs)
  have hownN : ownOf (plOf xs) ≤ (gOf (plOf xs)).N.length := by rw [hM, List.length_append]; unfold ownOf; omega
  have HF : Hid (∀ (out : List Nat) (ws : List Int), OrdInv (ownOf (plOf xs)) (gOf (plOf xs)).U out ws → (∀ j, j < ownOf (plOf xs) → j ∉ out → cntI (ownOf (plOf xs)) (gOf (plOf xs)).U out j ≠ 0) → ordPk xs = if out.length < xs.length then ([], false) else (out.map (nmOf (gOf (plOf xs)).N), true)) := fun out ws h1 h2 => order_final h1 h2
  obtain ⟨q0, cap0, hq0⟩ := hv.slice
  subst hq0
  obtain ⟨G, hG⟩ : ∃ G, G = gOf (plOf xs) := ⟨_, rfl⟩
  obtain ⟨own, hown⟩ : ∃ o, o = ownOf (plOf xs) := ⟨_, rfl⟩
  rw [← hG] at HG gl1 gl2 gl3 g1 hownN HF g4
  rw [← hown] at HG hownN HF g4
  have hl2 := len_wtRow wtPack xs
  have hlx : xs.length ≤ 1048576 := by omega
  obtain ⟨ans, hans⟩ : ∃ a, a = ordPk xs := ⟨_, rfl⟩
  rw [← hans] at HF ⊢
  clear hG hown hans hM g3 g5 hv hl2 hw
  go_enter Try.func10, Try.ntmps10
  go_wp2_with (go_at_call 29; refine HG.out.mono ?_; rintro e w1 ⟨mb, vn, vu, vb, us, bs, rfl, C1, b1⟩; obtain ⟨qn, nn, xn, en⟩ : ∃ q n c, vn = .slice q n c := (by obtain ⟨q, c, e⟩ := owns_slG C1.names; exact ⟨q, _, c, e⟩); obtain ⟨qu, nu, xu, eu⟩ : ∃ q n c, vu = .slice q n c := (by obtain ⟨q, c, e⟩ := owns_slG C1.ru; exact ⟨q, _, c, e⟩); obtain ⟨qb, nb, xb, eb⟩ : ∃ q n c, vb = .slice q n c := (by obtain ⟨q, c, e⟩ := owns_slG C1.rb; exact ⟨q, _, c, e⟩); subst en eu eb; have HC : Hid (∀ w2, Below w1.heap.size w1 w2 → GrC w.heap.size w2 mb (.slice qn nn xn) (.slice qu nu xu) (.slice qb nb xb) us bs G.N G.N G.U G.B noX noX) := (fun w2 h2 => C1.new (r := none) (grown_of_below h2 none) (fun q e => by cases e)); have k1 : Below w1.heap.size w1 (w1.alloc (.cells #[.map (some mb), .slice qn nn xn, .int .i64 (own : Int), .slice qu nu xu, .slice qb nb xb] 53)) := (Below.refl _ _).alloc (Nat.le_refl _) _; have hx0 : (w1.alloc (.cells #[.map (some mb), .slice qn nn xn, .int .i64 (own : Int), .slice qu nu xu, .slice qb nb xb] 53)).heap[w1.heap.size]? = some (.cells #[.map (some mb), .slice qn nn xn, .int .i64 (own : Int), .slice qu nu xu, .slice qb nb xb] 53 (0, 0)) := vheap_new _ _; clear C1)
  have hk2 : Below w.heap.size w (w1.alloc (.cells #[.map (some mb), .slice qn nn xn, .int .i64 (own : Int), .slice qu nu xu, .slice qb nb xb] 53)) := b1.trans (k1.mono b1.size)
  have x0 := vblk_cell hx0 0
  have x1 := vblk_cell hx0 1
  have x2 := vblk_cell hx0 2
  have x3 := vblk_cell hx0 3
  have x4 := vblk_cell hx0 4
  simp only [List.getElem?_toArray, List.getElem?_cons_succ, List.getElem?_cons_zero] at x0 x1 x2 x3 x4
  have HO := hidden (order_c w.heap.size mb own _ _ _ us bs G _ (HC.out _ k1) g1 (by rw [g1.u]; exact hownN) (by rw [g1.u]; exact gl1) gl2 g4)
  obtain ⟨w2, hw2⟩ : ∃ w2, w2 = w1.alloc (.cells #[.map (some mb), .slice qn nn xn, .int .i64 (own : Int), .slice qu nu xu, .slice qb nb xb] 53) := ⟨_, rfl⟩
  have hp : w1.heap.size < w2.heap.size := by rw [hw2]; simp
  rw [← hw2] at k1 hx0 hk2 x0 x1 x2 x3 x4 HO ⊢
  clear hw2
  go_wp2_with fail
  go_at_call 34
  refine HO.out.mono ?_
  rintro e w3 ⟨u3, out, ws, rfl, o3, inv3, no3, b3⟩
  obtain ⟨q3, c3, e3⟩ := owns_slG o3
  subst e3
  have HA := hidden (HF.out out ws inv3 no3)
  have hfew := inv3.few
  have hlt3 := inv3.lt
  have k3 := hk2.trans (b3.mono hk2.size)
  have C3 := HC.out w3 (k1.trans (b3.mono (by omega)))
  have hx3 := (b3.block _ hp).trans hx0
  have y0 := vblk_cell hx3 0
  have y1 := vblk_cell hx3 1
  have y2 := vblk_cell hx3 2
  have y3 := vblk_cell hx3 3
  have y4 := vblk_cell hx3 4
  simp only [List.getElem?_toArray, List.getElem?_cons_succ, List.getElem?_cons_zero] at y0 y1 y2 y3 y4
  have HNm := hidden (namesOf_c w.heap.size mb own _ _ _ us bs _ _ _ _ _ out w3 C3 _ o3 (fun i hi => by have := hlt3 i hi; omega) (by omega) gl1 gl3)
  clear x0 x1 x2 x3 x4 HO HC inv3 no3 C3 o3 b3 hx0 HF
  by_cases hlt' : out.length < xs.length
  · have hli : (out.length : Int) < (xs.length : Int) := by omega
    rw [if_pos hlt'] at HA
    go_wp2_with fail
    go_ret2
    rw [HA.out]
    exact ⟨.slice none 0 0, rfl, World.ownsRow_nil _ _ _ _, k3⟩
  · have hli : ¬ (out.length : Int) < (xs.length : Int) := by omega
    rw [if_neg hlt'] at HA
    obtain ⟨nms, hnms⟩ : ∃ n, n = out.map (nmOf G.N) := ⟨_, rfl⟩
    have hnl : nms.length = out.length := by rw [hnms, List.length_map]
    rw [← hnms] at HNm HA
    have HNL := hidden hnl
    clear hnms hnl
    go_wp2_with (go_at_call 32; refine HNm.out.mono ?_; rintro e w4 ⟨u4, rfl, o4, b4⟩)
    go_ret2
    rw [HA.out]
    exact ⟨u4, rfl, by show w4.ownsRow _ _ _ _ nms.length _; rw [HNL.out]; exact owns_lo k3.size o4, k3.trans (b4.mono k3.size)⟩
theorem ordPk_len {xs : List PackD} (hw : wtRow wtPack xs ≤ 1048576) : (ordPk xs).1.length ≤ 4294967295 := by
  have h2 := len_wtRow wtPack xs
  unfold ordPk ordR
  split
  · rename_i h
    show (ordN _ _ _).length ≤ _
    rw [h, List.length_map]
    omega
  · show (0 : Nat) ≤ _; omega
theorem implOrder_s (S : Nat → Prop) (v : Value) (xs : List PackD) (w : World) (hv : RowIn shPack S w v xs) (hB : ∀ b, S b → b < w.heap.size) (hw : wtRow wtPack xs ≤ 1048576) :
    Calls Try.prog 10 #[v] w fun e w' => ∃ u, e = .returned (.tuple #[u, .bool (ordPk xs).2]) ∧ StrR w.heap.size w'.heap.size w' u (ordPk xs).1 ∧ (ordPk xs).1.length ≤ 4294967295 ∧ Below w.heap.size w w' :=
  (implOrder_c S v xs w hv hB hw).mono (by
    rintro e w' ⟨u, rfl, o, hb⟩
    exact ⟨u, rfl, strR_of o, ordPk_len hw, hb⟩)
end Go.Proofs.Ytbhedlobiagngaa

/-! All that is reached, as the program answers it: a contract for the walks; conditions: the graph lies in memory. -/
namespace Go.Proofs.Ytbhedlobiagngaa
open Go.RowKit Go.Shelf Go.Maps
set_option linter.unusedSimpArgs false
set_option linter.unusedVariables false

/-- What the loop over the reached keeps: the box of the names told so far, the box of the graph. -/
structure OutW (n₀ : Nat) (w : World) (vg : Array Value) (N : List ByteArray) (pre : List (Nat × Nat)) (W : World) : Prop where
  out : ∃ v, W.heap[n₀ + 1]? = some (.cells #[v] 26 (0, 0)) ∧ W.ownsRow (n₀ + 2) 9 1 v pre.length (strsV (pre.map fun x => nmOf N x.1))
  gr : W.heap[n₀]? = some (.cells vg 53 (0, 0))
  b : Below n₀ w W
  lo : n₀ + 2 ≤ W.heap.size
theorem OutW.kept {n₀ : Nat} {w W W' : World} {vg : Array Value} {N : List ByteArray} {pre : List (Nat × Nat)} {row : Option Nat} (h : OutW n₀ w vg N pre W) (hg : W.grownBy W' row) (hr : ∀ r, row = some r → n₀ ≤ r ∧ ∀ cs t fz, W.heap[r]? = some (.cells cs t fz) → t ≠ 26 ∧ t ≠ 9 ∧ t ≠ 53) : OutW n₀ w vg N pre W' := by
  obtain ⟨v, h1, h2⟩ := h.out
  have f : ∀ {k : Nat} {cs : Array Value} {t : TypeId}, (t = 26 ∨ t = 53) → W.heap[k]? = some (.cells cs t (0, 0)) → W'.heap[k]? = some (.cells cs t (0, 0)) := fun {k cs t} ht hk => (hg.block k (Array.getElem?_eq_some_iff.1 hk).1 (fun e => by
    obtain ⟨_, h9⟩ := hr k e.symm
    obtain ⟨h91, _, h92⟩ := h9 _ _ _ hk
    rcases ht with ht | ht
    · exact h91 ht
    · exact h92 ht)).trans hk
  refine ⟨⟨v, f (.inl rfl) h1, h2.kept hg ?_⟩, f (.inr rfl) h.gr, h.b.grown hg (by have := h.lo; omega) (fun k e => (hr k e).1), Nat.le_trans h.lo hg.size⟩
  cases hq : row with
  | none =>
    rcases h2.2 with ⟨rfl, _⟩ | ⟨g, cap, cur, rfl, _, hc, _⟩
    · exact .inl rfl
    · exact .inr (by simp [Value.ownBlock])
  | some r =>
    refine .inr fun e => ?_
    rcases h2.2 with ⟨rfl, _⟩ | ⟨g, cap, cur, rfl, _, hc, _⟩
    · cases e
    · have h9 : g = r := Option.some.inj e
      subst h9
      exact ((hr g hq).2 _ _ _ hc).2.1 rfl
theorem OutW.abT {n₀ : Nat} {w : World} {vg : Array Value} {N : List ByteArray} : AbT n₀ (fun pre W => OutW n₀ w vg N pre W) := fun s W W' row h hg hr => h.kept hg fun r e => by
  obtain ⟨h1, cs, t, fz, ht, hc⟩ := hr r e
  refine ⟨h1, fun cs' t' fz' hc' => ?_⟩
  rw [hc] at hc'
  cases hc'
  rcases ht with rfl | rfl <;> decide
theorem OutW.abR {n₀ B : Nat} {w : World} {vg : Array Value} {N : List ByteArray} (hB : n₀ ≤ B) : AbR B (fun pre W => OutW n₀ w vg N pre W) := fun s W W' row h hg hr => h.kept hg fun r e => by
  obtain ⟨h1, o, ho, hc⟩ := hr r e
  refine ⟨by omega, fun cs' t' fz' hc' => ?_⟩
  rw [ho] at hc'
  cases hc'
  simp [Obj.isCells] at hc

theorem rowLow {w : World} {base base' : Nat} {e : TypeId} {size : Nat} {v : Value} {n : Nat} {xs : List Value} (h : w.ownsRow base e size v n xs) (hb : base' ≤ base) : w.ownsRow base' e size v n xs := by
  refine ⟨h.1, ?_⟩
  rcases h.2 with h2 | ⟨g, cap, cur, e, h3, h4⟩
  · exact .inl h2
  · exact .inr ⟨g, cap, cur, e, by omega, h4⟩
theorem any_cut {F : Fence} {n : Nat} {P : Program} {md : Region.Mode} {ops : Array Oper} {Q : Exit → Act → World → Prop} {k : Nat} {l : Array Bool} {a : Act} {w : World} (k' : Nat) (l' : Array Bool) (a' : Act) (w' : World) (h' : wpAnyIn F n P md ops Q k' l' a' w') (h : wpAnyIn F n P md ops Q k' l' a' w' → wpAnyIn F n P md ops Q k l a w) : wpAnyIn F n P md ops Q k l a w := h h'
theorem wpIn_append {F : Fence} {n : Nat} {P : Program} {w : World} {o : Oper} {a : Act} {K : Act → World → Prop} {Q : Exit → Act → World → Prop} (s x : Operand) (t : TypeId) (hop : o.op = Op.call { callee := Callee.builtin Builtin.append, args := #[s, x], argTypes := #[t, t] })
    (base : Nat) (e : TypeId) (i : TypeInfo) (z : Value) (size bytes : Nat) (h1 : P.underlying t = some (.slice e)) (h2 : P.info? e = some i) (h3 : i.zero = some z) (h4 : i.size = size) (h5 : i.bytes = bytes) (h6 : z.cells.size = size) (h7 : 0 < size)
    (v : Value) (k : Nat) (xs : List Value) (hs : a.eval s = v) (hown : w.ownsRow base e size v k xs) (ad : Addr) (m c : Nat) (news : List Value) (hx : a.eval x = .slice (some ad) m c) (hn : news.length = m * size)
    (hc : ∀ j u, news[j]? = some u → w.cell? (ad.add j) = some u) (h1c : ∀ u ∈ news, u.oneCell' = true) (b1 : k + m ≤ maxLen) (b2 : (k + m) * bytes ≤ 140737488355328) (b3 : base ≤ w.heap.size)
    (hK : ∀ v' w', w'.ownsRow base e size v' (k + m) (xs ++ news) → w.grownBy w' v.ownBlock → K (a.put o.dst v') w') : o.wpIn F n P a w K Q := by
  obtain ⟨v', w', hrun, r1, r2, r3⟩ := run_append_own (P := P) w base t o.type e i z size bytes h1 h2 h3 h4 h5 h6 h7 v k xs hown ad m c news hn hc h1c b1 b2 b3
  unfold Oper.wpIn
  refine ⟨?_, ?_⟩
  · simp [Oper.about, hop, resolve, Target.leads, Sem.run_pure]
  · rw [Oper.semAt_plain F _ _ (by rw [hop]; intro c hc'; cases hc')]
    simp [execOp, hop, resolve, invoke, builtin, hs, hx, hrun, Result.andThen]
    exact hK v' w' r1 r2
attribute [local go_sem] Oper.semAt_some

set_option maxHeartbeats 16000000 in
set_option maxRecDepth 100000 in
theorem allReached_c (lo mb own ms : Nat) (qn qu qb : Option Addr) (xn nu xu nb xb : Nat) (N : List ByteArray) (L : List (List Nat)) (vX : Value) (s : ByteArray) (w : World) (hmap : MapI w mb N.length ms (mOf N)) (hnames : w.ownsRow lo 9 1 (.slice qn N.length xn) N.length (strsV N)) (hs : s.size ≤ maxLen) (hN : N.length ≤ 4194304) (hNs : ∀ x ∈ N, x.size ≤ 1048576) (hvX : ∃ q c, vX = .slice q N.length c)
    (hL : ∀ u, ∀ t ∈ rowAt L u, t < N.length) (hRl : ∀ u, (rowAt L u).length ≤ 1099511627776) (qs : Nat → Option Addr) (cs : Nat → Nat) (hR : ∀ gB cB, vX = .slice (some ⟨gB, 0, none⟩) N.length cB → ∀ W, Below w.heap.size w W → RowsAt W gB N.length L qs cs) (hSt : ∀ ts : List Nat, ts.Nodup → (∀ t ∈ ts, RchN L (posN N s) t) → ts.length ≤ 1048576) (hX : 0 < N.length → ∃ gB cB, vX = .slice (some ⟨gB, 0, none⟩) N.length cB) :
    Calls Try.prog 37 #[.agg #[.map (some mb), .slice qn N.length xn, .int .i64 (own : Int), .slice qu nu xu, .slice qb nb xb], vX, .string s] w fun e w' => ∃ (u : Value) (ys : List ByteArray), e = .returned u ∧ w'.ownsRow w.heap.size 9 1 u ys.length (strsV ys) ∧ risesS ys ∧ (∀ x, x ∈ ys ↔ ∃ t, t < N.length ∧ nmOf N t = x ∧ s ∈ N ∧ RchN L (posN N s) t) ∧ Below w.heap.size w w' := by
  have k1 : Below w.heap.size w (w.alloc (.cells #[.map (some mb), .slice qn N.length xn, .int .i64 (own : Int), .slice qu nu xu, .slice qb nb xb] 53)) := (Below.refl _ _).alloc (Nat.le_refl _) _
  by_cases hin : s ∈ N
  · have HR : Hid (Value.tuple #[(mOf N s).getD (.int .i64 0), .bool (mOf N s).isSome] = .tuple #[.int .i64 (posN N s : Int), .bool true]) := by show _ = _; rw [mOf_some hin]; rfl
    have hpn := posN_lt.2 hin
    obtain ⟨gB, cB, eX⟩ := hX (by omega)
    subst eX
    have HRows := hidden (hR gB cB rfl)
    obtain ⟨p, hp⟩ : ∃ p, p = posN N s := ⟨_, rfl⟩
    rw [← hp] at HR hpn
    have HP := hidden hp
    have hm1 := hmap.below k1
    have hx0 : (w.alloc (.cells #[.map (some mb), .slice qn N.length xn, .int .i64 (own : Int), .slice qu nu xu, .slice qb nb xb] 53)).heap[w.heap.size]? = some (.cells #[.map (some mb), .slice qn N.length xn, .int .i64 (own : Int), .slice qu nu xu, .slice qb nb xb] 53 (0, 0)) := vheap_new _ _
    have z0 : (w.alloc (.cells #[.map (some mb), .slice qn N.length xn, .int .i64 (own : Int), .slice qu nu xu, .slice qb nb xb] 53)).heap.size = w.heap.size + 1 := by simp
    obtain ⟨A1, hA1⟩ : ∃ A, A = w.alloc (.cells #[.map (some mb), .slice qn N.length xn, .int .i64 (own : Int), .slice qu nu xu, .slice qb nb xb] 53) := ⟨_, rfl⟩
    obtain ⟨A2, hA2⟩ : ∃ A, A = A1.alloc (.cells #[.slice none 0 0] 26) := ⟨_, rfl⟩
    rw [← hA1] at k1 hm1 hx0 z0
    have z2 : A2.heap.size = w.heap.size + 2 := by rw [hA2]; simp [z0]
    have k2 : Below w.heap.size w A2 := by rw [hA2]; exact k1.alloc (by omega) _
    have g2 : A2.heap[w.heap.size]? = some (.cells #[.map (some mb), .slice qn N.length xn, .int .i64 (own : Int), .slice qu nu xu, .slice qb nb xb] 53 (0, 0)) := by rw [hA2, vheap_old _ _ (by omega)]; exact hx0
    have o2 : A2.heap[w.heap.size + 1]? = some (.cells #[.slice none 0 0] 26 (0, 0)) := by rw [hA2, ← z0]; exact vheap_new _ _
    have HNo := hidden (noneSeen_c mb own qn qu qb xn nu xu nb xb N A2 hN)
    have x0 := vblk_cell hx0 0
    have y0 := vblk_cell g2 0
    have y1 := vblk_cell g2 1
    have y2 := vblk_cell g2 2
    have y3 := vblk_cell g2 3
    have y4 := vblk_cell g2 4
    simp only [List.getElem?_toArray, List.getElem?_cons_succ, List.getElem?_cons_zero] at x0 y0 y1 y2 y3 y4
    have HA1 := hidden hA1
    have HA2 : Hid ((w.alloc (.cells #[.map (some mb), .slice qn N.length xn, .int .i64 (own : Int), .slice qu nu xu, .slice qb nb xb] 53)).alloc (.cells #[.slice none 0 0] 26) = A2) := by show _ = _; rw [hA2, hA1]
    clear hA1 hA2 hp hmap hX hR
    rw [z2] at HNo
    refine (callsIn_wide (n := 3)).1 (callsIn_of_wp_marks Try.func37 rfl trivial (wpIn_wide.2 ?_))
    simp only [Try.ntmps37, List.size_toArray, List.length_cons, List.length_nil, Nat.reduceAdd, Nat.reduceSub, Array.replicate_succ, Array.replicate_zero, List.push_toArray, List.append_toArray, List.nil_append, List.cons_append]
    go_wp2_with (at_lookup; rw [← HA1.out]; refine wpList_lookup_I _ rfl _ _ rfl mb N.length ms _ rfl hm1 s rfl hs _ HR.out ?_; rw [HA1.out])
    rw [HA2.out]
    go_at_call 56
    refine HNo.out.mono ?_
    rintro e A3 ⟨rfl, o3, b3⟩
    have HMk := hidden (reachedMk_c (.slice (some ⟨gB, 0, none⟩) N.length cB) _ _ _ rfl p (w.heap.size + 3) N.length A3)
    clear HNo
    go_wp2_with fail
    go_at_call 59
    refine HMk.out.mono ?_
    rintro e A4 ⟨rfl, c1, c2, c3, z4, b4⟩
    go_wp2_with fail
    have i0 : OutW w.heap.size w #[.map (some mb), .slice qn N.length xn, .int .i64 (own : Int), .slice qu nu xu, .slice qb nb xb] N [] A4 := by
      have b5 : Below (w.heap.size + 2) A2 A4 := b3.trans (b4.mono (by have := b3.size; omega))
      refine ⟨⟨.slice none 0 0, (b5.block _ (by omega)).trans o2, World.ownsRow_nil _ _ _ _⟩, (b5.block _ (by omega)).trans g2, k2.trans (b5.mono (by omega)), by have := b5.size; omega⟩
    have zA3 : w.heap.size + 3 ≤ A3.heap.size := by have h9 : w.heap.size + 3 < A3.heap.size := (o3.lt (w.heap.size + 3) rfl).2; omega
    have it0 : ItW w.heap.size A4.heap.size A4 A4 (A3.heap.size + 1) A3.heap.size (A3.heap.size + 2) (w.heap.size + 3) p N.length (.slice (some ⟨gB, 0, none⟩) N.length cB) (List.replicate N.length false) := by
      refine ⟨c1, c2, c3, ?_, Below.refl _ _, Nat.le_refl _⟩
      exact (o3.kept (grown_of_below b4 none) (.inr (by simp [Value.ownBlock]))) |> fun h => rowLow h (by omega)
    have kA4 : Below w.heap.size w A4 := i0.b
    have hseq := reached_seq 5 w.heap.size (A3.heap.size + 1) A3.heap.size (A3.heap.size + 2) (w.heap.size + 3) p N.length gB cB L A4 it0 (by have := kA4.size; omega) hpn hN hL hRl qs cs (fun W hW => HRows.out W (kA4.trans hW))
    clear y0 y1 y2 y3 y4 x0 hx0 g2 o2 HMk c1 c2 c3 b3 b4 o3 hm1 k1 k2
    refine (wpIn_wide (n := 6)).1 (range_goes (gf := 80) rfl (enters_of Try.func80 (by kernel_rfl) rfl) hseq kA4.size (fun x => rfl) (fun pre W => OutW w.heap.size w #[.map (some mb), .slice qn N.length xn, .int .i64 (own : Int), .slice qu nu xu, .slice qb nb xb] N pre W) OutW.abT (OutW.abR kA4.size) i0 (fun x => { tmps := #[.agg #[.map (some mb), .slice qn N.length xn, .int .i64 (own : Int), .slice qu nu xu, .slice qb nb xb], .slice (some ⟨gB, 0, none⟩) N.length cB, .string s, .pointer (some ⟨w.heap.size, 0, none⟩), undef, undef, .slice none 0 0, .int .i64 (p : Int), .bool true, .pointer (some ⟨w.heap.size + 1, 0, none⟩), .int .i64 (x.1 : Int), .tuple #[.int .i64 (p : Int), .bool true], .pointer (some ⟨w.heap.size, 0, none⟩), .map (some mb), .string s, .tuple #[.int .i64 (p : Int), .bool true], .int .i64 (p : Int), .bool true, .bool true, .bool false, .slice (some ⟨gB, 0, none⟩) N.length cB, .int .i64 (p : Int), .agg #[.map (some mb), .slice qn N.length xn, .int .i64 (own : Int), .slice qu nu xu, .slice qb nb xb], .slice (some ⟨w.heap.size + 2 + 1, 0, none⟩) N.length N.length, .func (.func 80) #[] #[.pointer (some ⟨A3.heap.size + 1, 0, none⟩), .pointer (some ⟨A3.heap.size, 0, none⟩), .pointer (some ⟨A3.heap.size + 2, 0, none⟩)], .int .i64 (x.1 : Int), .int .i64 (x.2 : Int), undef, undef, undef, undef, undef, undef, undef, undef, undef, undef], defers := [] }) ?_ ?_ ?_)
    · intro l x W K hK
      gi_wp2
      exact hK
    · intro l pre x W hI hok
      have hok1 := hok.1
      have hok2 := hok.2
      obtain ⟨v, hv, hrow⟩ := hI.out
      obtain ⟨gn, eqn⟩ : ∃ gn, qn = some ⟨gn, 0, none⟩ := by
        rcases hnames.2 with ⟨e, h0⟩ | ⟨g, cap, cur, e, _⟩
        · omega
        · cases e; exact ⟨g, rfl⟩
      subst eqn
      have hsz := hI.lo
      have hnmW := hnames.kept (grown_of_below hI.b none) (.inr (by simp [Value.ownBlock]))
      obtain ⟨nm, hnm⟩ : ∃ nm, nm = nmOf N x.1 := ⟨_, rfl⟩
      have hnat : (strsV N)[x.1]? = some (.string nm) := by rw [hnm]; rw [nmOf_lt hok1]; simp [strsV, hok1]
      have HnmE := hidden hnm
      clear hnm
      have HE : Hid (∀ V, V = W.drew → ∀ v' w1, w1.ownsRow (w.heap.size + 2) 9 1 v' (pre.length + 1) (strsV (pre.map fun x => nmOf N x.1) ++ [.string nm]) → (V.alloc (.cells #[.string nm] 9)).grownBy w1 v.ownBlock → (w1.cell? ⟨w.heap.size + 1, 0, none⟩ = some v ∧ w1.frozen? ⟨w.heap.size + 1, 0, none⟩ = false) ∧ KeepsOthers W (w1.setCell ⟨w.heap.size + 1, 0, none⟩ v') ∧ KpT w.heap.size W (w1.setCell ⟨w.heap.size + 1, 0, none⟩ v') ∧ OutW w.heap.size w #[.map (some mb), .slice (some ⟨gn, 0, none⟩) N.length xn, .int .i64 (own : Int), .slice qu nu xu, .slice qb nb xb] N (pre ++ [x]) (w1.setCell ⟨w.heap.size + 1, 0, none⟩ v')) := by
        rintro V rfl v' w1 r1 r2
        have hvd : Boxed W.drew (w.heap.size + 1) 26 v := hv
        have hrd : W.drew.ownsRow (w.heap.size + 2) 9 1 v pre.length (strsV (pre.map fun x => nmOf N x.1)) := hrow
        have hv1 : Boxed w1 (w.heap.size + 1) 26 v := (hvd.alloc _).kept r2 (hvd.not_row (by decide) hrd)
        have hset := grownBy_setCell' w1 (w.heap.size + 1) v'
        have hrow' : (w1.setCell ⟨w.heap.size + 1, 0, none⟩ v').ownsRow (w.heap.size + 2) 9 1 v' (pre.length + 1) (strsV (pre.map fun x => nmOf N x.1) ++ [.string nm]) := r1.kept hset (.inr (hv1.not_row (by decide) r1).symm)
        have far : ∀ (r : Nat) (o : Obj), W.heap[r]? = some o → some r ≠ v.ownBlock → r ≠ w.heap.size + 1 → (w1.setCell ⟨w.heap.size + 1, 0, none⟩ v').heap[r]? = some o := fun r o hr h1 h2 => by
          have hlt := (Array.getElem?_eq_some_iff.1 hr).1
          have a1 : (W.drew.alloc (.cells #[.string nm] 9)).heap[r]? = some o := (vheap_old _ _ (show r < W.drew.heap.size from hlt)).trans hr
          have a2 := (r2.block r (Array.getElem?_eq_some_iff.1 a1).1 h1).trans a1
          exact (hset.block r (Array.getElem?_eq_some_iff.1 a2).1 (fun e => h2 (Option.some.inj e))).trans a2
        have notrow : ∀ (r : Nat) (o : Obj), W.heap[r]? = some o → (∀ cs fz, o ≠ .cells cs 9 fz) → some r ≠ v.ownBlock := fun r o hr ho e => by
          rcases hrow.2 with ⟨rfl, _⟩ | ⟨g, cap, cur, rfl, _, hc, _⟩
          · cases e
          · have h9 : r = g := Option.some.inj e
            subst h9
            rw [hc] at hr
            cases hr
            exact ho _ _ rfl
        have z8 : (W.drew.alloc (.cells #[.string nm] 9)).heap.size = W.heap.size + 1 := World.size_alloc _ _
        have szs : W.heap.size ≤ (w1.setCell ⟨w.heap.size + 1, 0, none⟩ v').heap.size := by
          have h9 := r2.size
          have h8 := hset.size
          omega
        have kb : Below w.heap.size W (w1.setCell ⟨w.heap.size + 1, 0, none⟩ v') := by
          refine (((Below.refl w.heap.size W).drew.alloc (by show w.heap.size ≤ W.heap.size; omega) _).grown r2 (by rw [z8]; omega) (fun k e => ?_)).setCell (p := ⟨w.heap.size + 1, 0, none⟩) (by show w.heap.size ≤ w.heap.size + 1; omega) v'
          rcases hrow.2 with ⟨rfl, _⟩ | ⟨g, cap, cur, rfl, hb, hc, _⟩
          · cases e
          · have h9 : g = k := Option.some.inj e
            omega
        refine ⟨⟨hv1.cell, hv1.frozen⟩, ⟨szs, fun k o hk ho => far k o hk (notrow k o hk (fun cs fz e => by rw [e] at ho; simp [Obj.isCells] at ho)) (fun e => by rw [e, hv] at hk; cases hk; simp [Obj.isCells] at ho)⟩, ⟨kb, fun r cs t fz ht1 ht2 hr => far r _ hr (notrow r _ hr (fun cs' fz' e => by cases e; exact ht2 rfl)) (fun e => by rw [e, hv] at hr; cases hr; exact ht1 rfl)⟩, ⟨⟨v', hv1.set v', ?_⟩, far _ _ hI.gr (notrow _ _ hI.gr (fun cs' fz' e => by cases e)) (by omega), hI.b.trans kb, by omega⟩⟩
        have e9 : strsV ((pre ++ [x]).map fun x => nmOf N x.1) = strsV (pre.map fun x => nmOf N x.1) ++ [.string nm] := by simp [strsV, HnmE.out]
        rw [e9, List.length_append]
        exact hrow'
      have vc : W.drew.cell? ⟨w.heap.size + 1, 0, none⟩ = some v := vblk_cell (w := W.drew) hv 0
      have gc : W.drew.cell? ⟨w.heap.size, 1, none⟩ = some (.slice (some ⟨gn, 0, none⟩) N.length xn) := vblk_cell (w := W.drew) hI.gr 1
      have nc : W.drew.cell? ⟨gn, x.1, none⟩ = some (.string nm) := by
        have h9 := hnmW.cellAt x.1 (by omega)
        exact h9.trans hnat
      have hrd : W.drew.ownsRow (w.heap.size + 2) 9 1 v pre.length (strsV (pre.map fun x => nmOf N x.1)) := hrow
      have hszd : w.heap.size + 2 ≤ W.drew.heap.size := hsz
      have hvb : Boxed W.drew (w.heap.size + 1) 26 v := hv
      refine wpIn_block ?_
      refine wpIn_region_any (by kernel_rfl) ?_
      try (change wpAnyIn _ _ _ _ _ _ _ _ _ (World.drew _))
      obtain ⟨V, hV⟩ : ∃ V, V = W.drew := ⟨_, rfl⟩
      rw [← hV] at vc gc nc hrd hszd hvb ⊢
      have HE2 := hidden (HE.out V hV)
      clear HE hV
      have vc6 : (V.alloc (.cells #[.string nm] 9)).cell? ⟨w.heap.size + 1, 0, none⟩ = some v := (hvb.alloc _).cell
      have hx1 : (x.1 : Int) < (N.length : Int) := by omega
      clear hnmW hrow hv hnames HRows hseq it0 i0
      refine any_cut 2 #[true, true, true, true, true, true, true, false, false] { tmps := #[.agg #[.map (some mb), .slice (some ⟨gn, 0, none⟩) N.length xn, .int .i64 (own : Int), .slice qu nu xu, .slice qb nb xb], .slice (some ⟨gB, 0, none⟩) N.length cB, .string s, .pointer (some ⟨w.heap.size, 0, none⟩), undef, undef, .slice none 0 0, .int .i64 (p : Int), .bool true, .pointer (some ⟨w.heap.size + 1, 0, none⟩), .int .i64 (x.1 : Int), .tuple #[.int .i64 (p : Int), .bool true], .pointer (some ⟨w.heap.size, 0, none⟩), .map (some mb), .string s, .tuple #[.int .i64 (p : Int), .bool true], .int .i64 (p : Int), .bool true, .bool true, .bool false, .slice (some ⟨gB, 0, none⟩) N.length cB, .int .i64 (p : Int), .agg #[.map (some mb), .slice (some ⟨gn, 0, none⟩) N.length xn, .int .i64 (own : Int), .slice qu nu xu, .slice qb nb xb], .slice (some ⟨w.heap.size + 2 + 1, 0, none⟩) N.length N.length, .func (.func 80) #[] #[.pointer (some ⟨A3.heap.size + 1, 0, none⟩), .pointer (some ⟨A3.heap.size, 0, none⟩), .pointer (some ⟨A3.heap.size + 2, 0, none⟩)], .int .i64 (x.1 : Int), .int .i64 (x.2 : Int), v, .pointer (some ⟨w.heap.size, 1, none⟩), .slice (some ⟨gn, 0, none⟩) N.length xn, .int .i64 (x.1 : Int), .pointer (some ⟨gn, x.1, none⟩), .string nm, .slice (some ⟨V.heap.size, 0, none⟩) 1 1, undef, undef, undef], defers := [] } (V.alloc (.cells #[.string nm] 9)) ?_ (fun n0123456 => ?_)
      · refine wpAnyIn_ready (rs := [7]) (by kernel_rfl) (by simp) ?_
        refine AllReadyIn.cons rfl (fun K hK => ?_) ?_
        · split
          case isFalse h => exact absurd rfl h
          obtain ⟨iS, hiS, hzS0, hzS1, hzS2⟩ := info_parts infoS
          refine wpIn_append _ _ 26 rfl (w.heap.size + 2) 9 iS _ 1 _ Try.underlying26 hiS hzS0 hzS1 hzS2 rfl (by omega) v pre.length _ rfl (hrd.alloc _) ⟨V.heap.size, 0, none⟩ 1 1 [.string nm] rfl rfl (fun j u hj => ?_) (fun u hu => by simp at hu; subst hu; rfl) (by unfold maxLen; omega) (by omega) (by simp; omega) (fun v' w1 r1 r2 => ?_)
          · cases j with
            | zero => cases hj; exact vblk_cell (vheap_new _ _) 0
            | succ j => simp at hj
          obtain ⟨⟨hc, hf⟩, hend⟩ := HE2.out v' w1 r1 r2
          obtain ⟨g', cap', e'⟩ := ownsRow_succ r1
          subst e'
          refine hK _ _ ?_
          refine wpAnyIn_ready (rs := [8]) (by kernel_rfl) (by simp) ?_
          refine AllReadyIn.cons rfl (fun K hK => ?_) AllReadyIn.nil
          go_simp
          refine hK _ _ (wpAnyIn_done (by kernel_rfl) ?_ _)
          exact hend
        exact AllReadyIn.nil
      refine any_cut 3 #[true, true, true, true, true, true, false, false, false] { tmps := #[.agg #[.map (some mb), .slice (some ⟨gn, 0, none⟩) N.length xn, .int .i64 (own : Int), .slice qu nu xu, .slice qb nb xb], .slice (some ⟨gB, 0, none⟩) N.length cB, .string s, .pointer (some ⟨w.heap.size, 0, none⟩), undef, undef, .slice none 0 0, .int .i64 (p : Int), .bool true, .pointer (some ⟨w.heap.size + 1, 0, none⟩), .int .i64 (x.1 : Int), .tuple #[.int .i64 (p : Int), .bool true], .pointer (some ⟨w.heap.size, 0, none⟩), .map (some mb), .string s, .tuple #[.int .i64 (p : Int), .bool true], .int .i64 (p : Int), .bool true, .bool true, .bool false, .slice (some ⟨gB, 0, none⟩) N.length cB, .int .i64 (p : Int), .agg #[.map (some mb), .slice (some ⟨gn, 0, none⟩) N.length xn, .int .i64 (own : Int), .slice qu nu xu, .slice qb nb xb], .slice (some ⟨w.heap.size + 2 + 1, 0, none⟩) N.length N.length, .func (.func 80) #[] #[.pointer (some ⟨A3.heap.size + 1, 0, none⟩), .pointer (some ⟨A3.heap.size, 0, none⟩), .pointer (some ⟨A3.heap.size + 2, 0, none⟩)], .int .i64 (x.1 : Int), .int .i64 (x.2 : Int), v, .pointer (some ⟨w.heap.size, 1, none⟩), .slice (some ⟨gn, 0, none⟩) N.length xn, .int .i64 (x.1 : Int), .pointer (some ⟨gn, x.1, none⟩), .string nm, undef, undef, undef, undef], defers := [] } V ?_ (fun n012345 => ?_)
      · refine wpAnyIn_ready (rs := [6]) (by kernel_rfl) (by simp) ?_
        refine AllReadyIn.cons rfl (fun K hK => ?_) ?_
        · go_simp
          exact hK _ _ n0123456
        exact AllReadyIn.nil
      refine any_cut 3 #[false, true, true, true, true, true, true, false, false] { tmps := #[.agg #[.map (some mb), .slice (some ⟨gn, 0, none⟩) N.length xn, .int .i64 (own : Int), .slice qu nu xu, .slice qb nb xb], .slice (some ⟨gB, 0, none⟩) N.length cB, .string s, .pointer (some ⟨w.heap.size, 0, none⟩), undef, undef, .slice none 0 0, .int .i64 (p : Int), .bool true, .pointer (some ⟨w.heap.size + 1, 0, none⟩), .int .i64 (x.1 : Int), .tuple #[.int .i64 (p : Int), .bool true], .pointer (some ⟨w.heap.size, 0, none⟩), .map (some mb), .string s, .tuple #[.int .i64 (p : Int), .bool true], .int .i64 (p : Int), .bool true, .bool true, .bool false, .slice (some ⟨gB, 0, none⟩) N.length cB, .int .i64 (p : Int), .agg #[.map (some mb), .slice (some ⟨gn, 0, none⟩) N.length xn, .int .i64 (own : Int), .slice qu nu xu, .slice qb nb xb], .slice (some ⟨w.heap.size + 2 + 1, 0, none⟩) N.length N.length, .func (.func 80) #[] #[.pointer (some ⟨A3.heap.size + 1, 0, none⟩), .pointer (some ⟨A3.heap.size, 0, none⟩), .pointer (some ⟨A3.heap.size + 2, 0, none⟩)], .int .i64 (x.1 : Int), .int .i64 (x.2 : Int), undef, .pointer (some ⟨w.heap.size, 1, none⟩), .slice (some ⟨gn, 0, none⟩) N.length xn, .int .i64 (x.1 : Int), .pointer (some ⟨gn, x.1, none⟩), .string nm, .slice (some ⟨V.heap.size, 0, none⟩) 1 1, undef, undef, undef], defers := [] } (V.alloc (.cells #[.string nm] 9)) ?_ (fun n123456 => ?_)
      · refine wpAnyIn_ready (rs := [0]) (by kernel_rfl) (by simp) ?_
        refine AllReadyIn.cons rfl (fun K hK => ?_) ?_
        · go_simp
          exact hK _ _ n0123456
        exact AllReadyIn.nil
      refine any_cut 4 #[true, true, true, true, true, false, false, false, false] { tmps := #[.agg #[.map (some mb), .slice (some ⟨gn, 0, none⟩) N.length xn, .int .i64 (own : Int), .slice qu nu xu, .slice qb nb xb], .slice (some ⟨gB, 0, none⟩) N.length cB, .string s, .pointer (some ⟨w.heap.size, 0, none⟩), undef, undef, .slice none 0 0, .int .i64 (p : Int), .bool true, .pointer (some ⟨w.heap.size + 1, 0, none⟩), .int .i64 (x.1 : Int), .tuple #[.int .i64 (p : Int), .bool true], .pointer (some ⟨w.heap.size, 0, none⟩), .map (some mb), .string s, .tuple #[.int .i64 (p : Int), .bool true], .int .i64 (p : Int), .bool true, .bool true, .bool false, .slice (some ⟨gB, 0, none⟩) N.length cB, .int .i64 (p : Int), .agg #[.map (some mb), .slice (some ⟨gn, 0, none⟩) N.length xn, .int .i64 (own : Int), .slice qu nu xu, .slice qb nb xb], .slice (some ⟨w.heap.size + 2 + 1, 0, none⟩) N.length N.length, .func (.func 80) #[] #[.pointer (some ⟨A3.heap.size + 1, 0, none⟩), .pointer (some ⟨A3.heap.size, 0, none⟩), .pointer (some ⟨A3.heap.size + 2, 0, none⟩)], .int .i64 (x.1 : Int), .int .i64 (x.2 : Int), v, .pointer (some ⟨w.heap.size, 1, none⟩), .slice (some ⟨gn, 0, none⟩) N.length xn, .int .i64 (x.1 : Int), .pointer (some ⟨gn, x.1, none⟩), undef, undef, undef, undef, undef], defers := [] } V ?_ (fun n01234 => ?_)
      · refine wpAnyIn_ready (rs := [5]) (by kernel_rfl) (by simp) ?_
        refine AllReadyIn.cons rfl (fun K hK => ?_) ?_
        · go_simp
          exact hK _ _ n012345
        exact AllReadyIn.nil
      refine any_cut 4 #[false, true, true, true, true, true, false, false, false] { tmps := #[.agg #[.map (some mb), .slice (some ⟨gn, 0, none⟩) N.length xn, .int .i64 (own : Int), .slice qu nu xu, .slice qb nb xb], .slice (some ⟨gB, 0, none⟩) N.length cB, .string s, .pointer (some ⟨w.heap.size, 0, none⟩), undef, undef, .slice none 0 0, .int .i64 (p : Int), .bool true, .pointer (some ⟨w.heap.size + 1, 0, none⟩), .int .i64 (x.1 : Int), .tuple #[.int .i64 (p : Int), .bool true], .pointer (some ⟨w.heap.size, 0, none⟩), .map (some mb), .string s, .tuple #[.int .i64 (p : Int), .bool true], .int .i64 (p : Int), .bool true, .bool true, .bool false, .slice (some ⟨gB, 0, none⟩) N.length cB, .int .i64 (p : Int), .agg #[.map (some mb), .slice (some ⟨gn, 0, none⟩) N.length xn, .int .i64 (own : Int), .slice qu nu xu, .slice qb nb xb], .slice (some ⟨w.heap.size + 2 + 1, 0, none⟩) N.length N.length, .func (.func 80) #[] #[.pointer (some ⟨A3.heap.size + 1, 0, none⟩), .pointer (some ⟨A3.heap.size, 0, none⟩), .pointer (some ⟨A3.heap.size + 2, 0, none⟩)], .int .i64 (x.1 : Int), .int .i64 (x.2 : Int), undef, .pointer (some ⟨w.heap.size, 1, none⟩), .slice (some ⟨gn, 0, none⟩) N.length xn, .int .i64 (x.1 : Int), .pointer (some ⟨gn, x.1, none⟩), .string nm, undef, undef, undef, undef], defers := [] } V ?_ (fun n12345 => ?_)
      · refine wpAnyIn_ready (rs := [0, 6]) (by kernel_rfl) (by simp) ?_
        refine AllReadyIn.cons rfl (fun K hK => ?_) ?_
        · go_simp
          exact hK _ _ n012345
        refine AllReadyIn.cons rfl (fun K hK => ?_) ?_
        · go_simp
          exact hK _ _ n123456
        exact AllReadyIn.nil
      refine any_cut 5 #[true, true, true, true, false, false, false, false, false] { tmps := #[.agg #[.map (some mb), .slice (some ⟨gn, 0, none⟩) N.length xn, .int .i64 (own : Int), .slice qu nu xu, .slice qb nb xb], .slice (some ⟨gB, 0, none⟩) N.length cB, .string s, .pointer (some ⟨w.heap.size, 0, none⟩), undef, undef, .slice none 0 0, .int .i64 (p : Int), .bool true, .pointer (some ⟨w.heap.size + 1, 0, none⟩), .int .i64 (x.1 : Int), .tuple #[.int .i64 (p : Int), .bool true], .pointer (some ⟨w.heap.size, 0, none⟩), .map (some mb), .string s, .tuple #[.int .i64 (p : Int), .bool true], .int .i64 (p : Int), .bool true, .bool true, .bool false, .slice (some ⟨gB, 0, none⟩) N.length cB, .int .i64 (p : Int), .agg #[.map (some mb), .slice (some ⟨gn, 0, none⟩) N.length xn, .int .i64 (own : Int), .slice qu nu xu, .slice qb nb xb], .slice (some ⟨w.heap.size + 2 + 1, 0, none⟩) N.length N.length, .func (.func 80) #[] #[.pointer (some ⟨A3.heap.size + 1, 0, none⟩), .pointer (some ⟨A3.heap.size, 0, none⟩), .pointer (some ⟨A3.heap.size + 2, 0, none⟩)], .int .i64 (x.1 : Int), .int .i64 (x.2 : Int), v, .pointer (some ⟨w.heap.size, 1, none⟩), .slice (some ⟨gn, 0, none⟩) N.length xn, .int .i64 (x.1 : Int), undef, undef, undef, undef, undef, undef], defers := [] } V ?_ (fun n0123 => ?_)
      · refine wpAnyIn_ready (rs := [4]) (by kernel_rfl) (by simp) ?_
        refine AllReadyIn.cons rfl (fun K hK => ?_) ?_
        · go_simp
          exact hK _ _ n01234
        exact AllReadyIn.nil
      refine any_cut 5 #[false, true, true, true, true, false, false, false, false] { tmps := #[.agg #[.map (some mb), .slice (some ⟨gn, 0, none⟩) N.length xn, .int .i64 (own : Int), .slice qu nu xu, .slice qb nb xb], .slice (some ⟨gB, 0, none⟩) N.length cB, .string s, .pointer (some ⟨w.heap.size, 0, none⟩), undef, undef, .slice none 0 0, .int .i64 (p : Int), .bool true, .pointer (some ⟨w.heap.size + 1, 0, none⟩), .int .i64 (x.1 : Int), .tuple #[.int .i64 (p : Int), .bool true], .pointer (some ⟨w.heap.size, 0, none⟩), .map (some mb), .string s, .tuple #[.int .i64 (p : Int), .bool true], .int .i64 (p : Int), .bool true, .bool true, .bool false, .slice (some ⟨gB, 0, none⟩) N.length cB, .int .i64 (p : Int), .agg #[.map (some mb), .slice (some ⟨gn, 0, none⟩) N.length xn, .int .i64 (own : Int), .slice qu nu xu, .slice qb nb xb], .slice (some ⟨w.heap.size + 2 + 1, 0, none⟩) N.length N.length, .func (.func 80) #[] #[.pointer (some ⟨A3.heap.size + 1, 0, none⟩), .pointer (some ⟨A3.heap.size, 0, none⟩), .pointer (some ⟨A3.heap.size + 2, 0, none⟩)], .int .i64 (x.1 : Int), .int .i64 (x.2 : Int), undef, .pointer (some ⟨w.heap.size, 1, none⟩), .slice (some ⟨gn, 0, none⟩) N.length xn, .int .i64 (x.1 : Int), .pointer (some ⟨gn, x.1, none⟩), undef, undef, undef, undef, undef], defers := [] } V ?_ (fun n1234 => ?_)
      · refine wpAnyIn_ready (rs := [0, 5]) (by kernel_rfl) (by simp) ?_
        refine AllReadyIn.cons rfl (fun K hK => ?_) ?_
        · go_simp
          exact hK _ _ n01234
        refine AllReadyIn.cons rfl (fun K hK => ?_) ?_
        · go_simp
          exact hK _ _ n12345
        exact AllReadyIn.nil
      refine any_cut 6 #[true, true, true, false, false, false, false, false, false] { tmps := #[.agg #[.map (some mb), .slice (some ⟨gn, 0, none⟩) N.length xn, .int .i64 (own : Int), .slice qu nu xu, .slice qb nb xb], .slice (some ⟨gB, 0, none⟩) N.length cB, .string s, .pointer (some ⟨w.heap.size, 0, none⟩), undef, undef, .slice none 0 0, .int .i64 (p : Int), .bool true, .pointer (some ⟨w.heap.size + 1, 0, none⟩), .int .i64 (x.1 : Int), .tuple #[.int .i64 (p : Int), .bool true], .pointer (some ⟨w.heap.size, 0, none⟩), .map (some mb), .string s, .tuple #[.int .i64 (p : Int), .bool true], .int .i64 (p : Int), .bool true, .bool true, .bool false, .slice (some ⟨gB, 0, none⟩) N.length cB, .int .i64 (p : Int), .agg #[.map (some mb), .slice (some ⟨gn, 0, none⟩) N.length xn, .int .i64 (own : Int), .slice qu nu xu, .slice qb nb xb], .slice (some ⟨w.heap.size + 2 + 1, 0, none⟩) N.length N.length, .func (.func 80) #[] #[.pointer (some ⟨A3.heap.size + 1, 0, none⟩), .pointer (some ⟨A3.heap.size, 0, none⟩), .pointer (some ⟨A3.heap.size + 2, 0, none⟩)], .int .i64 (x.1 : Int), .int .i64 (x.2 : Int), v, .pointer (some ⟨w.heap.size, 1, none⟩), .slice (some ⟨gn, 0, none⟩) N.length xn, undef, undef, undef, undef, undef, undef, undef], defers := [] } V ?_ (fun n012 => ?_)
      · refine wpAnyIn_ready (rs := [3]) (by kernel_rfl) (by simp) ?_
        refine AllReadyIn.cons rfl (fun K hK => ?_) ?_
        · go_simp
          exact hK _ _ n0123
        exact AllReadyIn.nil
      refine any_cut 6 #[true, true, false, true, false, false, false, false, false] { tmps := #[.agg #[.map (some mb), .slice (some ⟨gn, 0, none⟩) N.length xn, .int .i64 (own : Int), .slice qu nu xu, .slice qb nb xb], .slice (some ⟨gB, 0, none⟩) N.length cB, .string s, .pointer (some ⟨w.heap.size, 0, none⟩), undef, undef, .slice none 0 0, .int .i64 (p : Int), .bool true, .pointer (some ⟨w.heap.size + 1, 0, none⟩), .int .i64 (x.1 : Int), .tuple #[.int .i64 (p : Int), .bool true], .pointer (some ⟨w.heap.size, 0, none⟩), .map (some mb), .string s, .tuple #[.int .i64 (p : Int), .bool true], .int .i64 (p : Int), .bool true, .bool true, .bool false, .slice (some ⟨gB, 0, none⟩) N.length cB, .int .i64 (p : Int), .agg #[.map (some mb), .slice (some ⟨gn, 0, none⟩) N.length xn, .int .i64 (own : Int), .slice qu nu xu, .slice qb nb xb], .slice (some ⟨w.heap.size + 2 + 1, 0, none⟩) N.length N.length, .func (.func 80) #[] #[.pointer (some ⟨A3.heap.size + 1, 0, none⟩), .pointer (some ⟨A3.heap.size, 0, none⟩), .pointer (some ⟨A3.heap.size + 2, 0, none⟩)], .int .i64 (x.1 : Int), .int .i64 (x.2 : Int), v, .pointer (some ⟨w.heap.size, 1, none⟩), undef, .int .i64 (x.1 : Int), undef, undef, undef, undef, undef, undef], defers := [] } V ?_ (fun n013 => ?_)
      · refine wpAnyIn_ready (rs := [2]) (by kernel_rfl) (by simp) ?_
        refine AllReadyIn.cons rfl (fun K hK => ?_) ?_
        · go_simp
          exact hK _ _ n0123
        exact AllReadyIn.nil
      refine any_cut 6 #[false, true, true, true, false, false, false, false, false] { tmps := #[.agg #[.map (some mb), .slice (some ⟨gn, 0, none⟩) N.length xn, .int .i64 (own : Int), .slice qu nu xu, .slice qb nb xb], .slice (some ⟨gB, 0, none⟩) N.length cB, .string s, .pointer (some ⟨w.heap.size, 0, none⟩), undef, undef, .slice none 0 0, .int .i64 (p : Int), .bool true, .pointer (some ⟨w.heap.size + 1, 0, none⟩), .int .i64 (x.1 : Int), .tuple #[.int .i64 (p : Int), .bool true], .pointer (some ⟨w.heap.size, 0, none⟩), .map (some mb), .string s, .tuple #[.int .i64 (p : Int), .bool true], .int .i64 (p : Int), .bool true, .bool true, .bool false, .slice (some ⟨gB, 0, none⟩) N.length cB, .int .i64 (p : Int), .agg #[.map (some mb), .slice (some ⟨gn, 0, none⟩) N.length xn, .int .i64 (own : Int), .slice qu nu xu, .slice qb nb xb], .slice (some ⟨w.heap.size + 2 + 1, 0, none⟩) N.length N.length, .func (.func 80) #[] #[.pointer (some ⟨A3.heap.size + 1, 0, none⟩), .pointer (some ⟨A3.heap.size, 0, none⟩), .pointer (some ⟨A3.heap.size + 2, 0, none⟩)], .int .i64 (x.1 : Int), .int .i64 (x.2 : Int), undef, .pointer (some ⟨w.heap.size, 1, none⟩), .slice (some ⟨gn, 0, none⟩) N.length xn, .int .i64 (x.1 : Int), undef, undef, undef, undef, undef, undef], defers := [] } V ?_ (fun n123 => ?_)
      · refine wpAnyIn_ready (rs := [0, 4]) (by kernel_rfl) (by simp) ?_
        refine AllReadyIn.cons rfl (fun K hK => ?_) ?_
        · go_simp
          exact hK _ _ n0123
        refine AllReadyIn.cons rfl (fun K hK => ?_) ?_
        · go_simp
          exact hK _ _ n1234
        exact AllReadyIn.nil
      refine any_cut 7 #[true, true, false, false, false, false, false, false, false] { tmps := #[.agg #[.map (some mb), .slice (some ⟨gn, 0, none⟩) N.length xn, .int .i64 (own : Int), .slice qu nu xu, .slice qb nb xb], .slice (some ⟨gB, 0, none⟩) N.length cB, .string s, .pointer (some ⟨w.heap.size, 0, none⟩), undef, undef, .slice none 0 0, .int .i64 (p : Int), .bool true, .pointer (some ⟨w.heap.size + 1, 0, none⟩), .int .i64 (x.1 : Int), .tuple #[.int .i64 (p : Int), .bool true], .pointer (some ⟨w.heap.size, 0, none⟩), .map (some mb), .string s, .tuple #[.int .i64 (p : Int), .bool true], .int .i64 (p : Int), .bool true, .bool true, .bool false, .slice (some ⟨gB, 0, none⟩) N.length cB, .int .i64 (p : Int), .agg #[.map (some mb), .slice (some ⟨gn, 0, none⟩) N.length xn, .int .i64 (own : Int), .slice qu nu xu, .slice qb nb xb], .slice (some ⟨w.heap.size + 2 + 1, 0, none⟩) N.length N.length, .func (.func 80) #[] #[.pointer (some ⟨A3.heap.size + 1, 0, none⟩), .pointer (some ⟨A3.heap.size, 0, none⟩), .pointer (some ⟨A3.heap.size + 2, 0, none⟩)], .int .i64 (x.1 : Int), .int .i64 (x.2 : Int), v, .pointer (some ⟨w.heap.size, 1, none⟩), undef, undef, undef, undef, undef, undef, undef, undef], defers := [] } V ?_ (fun n01 => ?_)
      · refine wpAnyIn_ready (rs := [2, 3]) (by kernel_rfl) (by simp) ?_
        refine AllReadyIn.cons rfl (fun K hK => ?_) ?_
        · go_simp
          exact hK _ _ n012
        refine AllReadyIn.cons rfl (fun K hK => ?_) ?_
        · go_simp
          exact hK _ _ n013
        exact AllReadyIn.nil
      refine any_cut 7 #[false, true, true, false, false, false, false, false, false] { tmps := #[.agg #[.map (some mb), .slice (some ⟨gn, 0, none⟩) N.length xn, .int .i64 (own : Int), .slice qu nu xu, .slice qb nb xb], .slice (some ⟨gB, 0, none⟩) N.length cB, .string s, .pointer (some ⟨w.heap.size, 0, none⟩), undef, undef, .slice none 0 0, .int .i64 (p : Int), .bool true, .pointer (some ⟨w.heap.size + 1, 0, none⟩), .int .i64 (x.1 : Int), .tuple #[.int .i64 (p : Int), .bool true], .pointer (some ⟨w.heap.size, 0, none⟩), .map (some mb), .string s, .tuple #[.int .i64 (p : Int), .bool true], .int .i64 (p : Int), .bool true, .bool true, .bool false, .slice (some ⟨gB, 0, none⟩) N.length cB, .int .i64 (p : Int), .agg #[.map (some mb), .slice (some ⟨gn, 0, none⟩) N.length xn, .int .i64 (own : Int), .slice qu nu xu, .slice qb nb xb], .slice (some ⟨w.heap.size + 2 + 1, 0, none⟩) N.length N.length, .func (.func 80) #[] #[.pointer (some ⟨A3.heap.size + 1, 0, none⟩), .pointer (some ⟨A3.heap.size, 0, none⟩), .pointer (some ⟨A3.heap.size + 2, 0, none⟩)], .int .i64 (x.1 : Int), .int .i64 (x.2 : Int), undef, .pointer (some ⟨w.heap.size, 1, none⟩), .slice (some ⟨gn, 0, none⟩) N.length xn, undef, undef, undef, undef, undef, undef, undef], defers := [] } V ?_ (fun n12 => ?_)
      · refine wpAnyIn_ready (rs := [0, 3]) (by kernel_rfl) (by simp) ?_
        refine AllReadyIn.cons rfl (fun K hK => ?_) ?_
        · go_simp
          exact hK _ _ n012
        refine AllReadyIn.cons rfl (fun K hK => ?_) ?_
        · go_simp
          exact hK _ _ n123
        exact AllReadyIn.nil
      refine any_cut 7 #[true, false, false, true, false, false, false, false, false] { tmps := #[.agg #[.map (some mb), .slice (some ⟨gn, 0, none⟩) N.length xn, .int .i64 (own : Int), .slice qu nu xu, .slice qb nb xb], .slice (some ⟨gB, 0, none⟩) N.length cB, .string s, .pointer (some ⟨w.heap.size, 0, none⟩), undef, undef, .slice none 0 0, .int .i64 (p : Int), .bool true, .pointer (some ⟨w.heap.size + 1, 0, none⟩), .int .i64 (x.1 : Int), .tuple #[.int .i64 (p : Int), .bool true], .pointer (some ⟨w.heap.size, 0, none⟩), .map (some mb), .string s, .tuple #[.int .i64 (p : Int), .bool true], .int .i64 (p : Int), .bool true, .bool true, .bool false, .slice (some ⟨gB, 0, none⟩) N.length cB, .int .i64 (p : Int), .agg #[.map (some mb), .slice (some ⟨gn, 0, none⟩) N.length xn, .int .i64 (own : Int), .slice qu nu xu, .slice qb nb xb], .slice (some ⟨w.heap.size + 2 + 1, 0, none⟩) N.length N.length, .func (.func 80) #[] #[.pointer (some ⟨A3.heap.size + 1, 0, none⟩), .pointer (some ⟨A3.heap.size, 0, none⟩), .pointer (some ⟨A3.heap.size + 2, 0, none⟩)], .int .i64 (x.1 : Int), .int .i64 (x.2 : Int), v, undef, undef, .int .i64 (x.1 : Int), undef, undef, undef, undef, undef, undef], defers := [] } V ?_ (fun n03 => ?_)
      · refine wpAnyIn_ready (rs := [1]) (by kernel_rfl) (by simp) ?_
        refine AllReadyIn.cons rfl (fun K hK => ?_) ?_
        · go_simp
          exact hK _ _ n013
        exact AllReadyIn.nil
      refine any_cut 7 #[false, true, false, true, false, false, false, false, false] { tmps := #[.agg #[.map (some mb), .slice (some ⟨gn, 0, none⟩) N.length xn, .int .i64 (own : Int), .slice qu nu xu, .slice qb nb xb], .slice (some ⟨gB, 0, none⟩) N.length cB, .string s, .pointer (some ⟨w.heap.size, 0, none⟩), undef, undef, .slice none 0 0, .int .i64 (p : Int), .bool true, .pointer (some ⟨w.heap.size + 1, 0, none⟩), .int .i64 (x.1 : Int), .tuple #[.int .i64 (p : Int), .bool true], .pointer (some ⟨w.heap.size, 0, none⟩), .map (some mb), .string s, .tuple #[.int .i64 (p : Int), .bool true], .int .i64 (p : Int), .bool true, .bool true, .bool false, .slice (some ⟨gB, 0, none⟩) N.length cB, .int .i64 (p : Int), .agg #[.map (some mb), .slice (some ⟨gn, 0, none⟩) N.length xn, .int .i64 (own : Int), .slice qu nu xu, .slice qb nb xb], .slice (some ⟨w.heap.size + 2 + 1, 0, none⟩) N.length N.length, .func (.func 80) #[] #[.pointer (some ⟨A3.heap.size + 1, 0, none⟩), .pointer (some ⟨A3.heap.size, 0, none⟩), .pointer (some ⟨A3.heap.size + 2, 0, none⟩)], .int .i64 (x.1 : Int), .int .i64 (x.2 : Int), undef, .pointer (some ⟨w.heap.size, 1, none⟩), undef, .int .i64 (x.1 : Int), undef, undef, undef, undef, undef, undef], defers := [] } V ?_ (fun n13 => ?_)
      · refine wpAnyIn_ready (rs := [0, 2]) (by kernel_rfl) (by simp) ?_
        refine AllReadyIn.cons rfl (fun K hK => ?_) ?_
        · go_simp
          exact hK _ _ n013
        refine AllReadyIn.cons rfl (fun K hK => ?_) ?_
        · go_simp
          exact hK _ _ n123
        exact AllReadyIn.nil
      refine any_cut 8 #[true, false, false, false, false, false, false, false, false] { tmps := #[.agg #[.map (some mb), .slice (some ⟨gn, 0, none⟩) N.length xn, .int .i64 (own : Int), .slice qu nu xu, .slice qb nb xb], .slice (some ⟨gB, 0, none⟩) N.length cB, .string s, .pointer (some ⟨w.heap.size, 0, none⟩), undef, undef, .slice none 0 0, .int .i64 (p : Int), .bool true, .pointer (some ⟨w.heap.size + 1, 0, none⟩), .int .i64 (x.1 : Int), .tuple #[.int .i64 (p : Int), .bool true], .pointer (some ⟨w.heap.size, 0, none⟩), .map (some mb), .string s, .tuple #[.int .i64 (p : Int), .bool true], .int .i64 (p : Int), .bool true, .bool true, .bool false, .slice (some ⟨gB, 0, none⟩) N.length cB, .int .i64 (p : Int), .agg #[.map (some mb), .slice (some ⟨gn, 0, none⟩) N.length xn, .int .i64 (own : Int), .slice qu nu xu, .slice qb nb xb], .slice (some ⟨w.heap.size + 2 + 1, 0, none⟩) N.length N.length, .func (.func 80) #[] #[.pointer (some ⟨A3.heap.size + 1, 0, none⟩), .pointer (some ⟨A3.heap.size, 0, none⟩), .pointer (some ⟨A3.heap.size + 2, 0, none⟩)], .int .i64 (x.1 : Int), .int .i64 (x.2 : Int), v, undef, undef, undef, undef, undef, undef, undef, undef, undef], defers := [] } V ?_ (fun n0 => ?_)
      · refine wpAnyIn_ready (rs := [1, 3]) (by kernel_rfl) (by simp) ?_
        refine AllReadyIn.cons rfl (fun K hK => ?_) ?_
        · go_simp
          exact hK _ _ n01
        refine AllReadyIn.cons rfl (fun K hK => ?_) ?_
        · go_simp
          exact hK _ _ n03
        exact AllReadyIn.nil
      refine any_cut 8 #[false, true, false, false, false, false, false, false, false] { tmps := #[.agg #[.map (some mb), .slice (some ⟨gn, 0, none⟩) N.length xn, .int .i64 (own : Int), .slice qu nu xu, .slice qb nb xb], .slice (some ⟨gB, 0, none⟩) N.length cB, .string s, .pointer (some ⟨w.heap.size, 0, none⟩), undef, undef, .slice none 0 0, .int .i64 (p : Int), .bool true, .pointer (some ⟨w.heap.size + 1, 0, none⟩), .int .i64 (x.1 : Int), .tuple #[.int .i64 (p : Int), .bool true], .pointer (some ⟨w.heap.size, 0, none⟩), .map (some mb), .string s, .tuple #[.int .i64 (p : Int), .bool true], .int .i64 (p : Int), .bool true, .bool true, .bool false, .slice (some ⟨gB, 0, none⟩) N.length cB, .int .i64 (p : Int), .agg #[.map (some mb), .slice (some ⟨gn, 0, none⟩) N.length xn, .int .i64 (own : Int), .slice qu nu xu, .slice qb nb xb], .slice (some ⟨w.heap.size + 2 + 1, 0, none⟩) N.length N.length, .func (.func 80) #[] #[.pointer (some ⟨A3.heap.size + 1, 0, none⟩), .pointer (some ⟨A3.heap.size, 0, none⟩), .pointer (some ⟨A3.heap.size + 2, 0, none⟩)], .int .i64 (x.1 : Int), .int .i64 (x.2 : Int), undef, .pointer (some ⟨w.heap.size, 1, none⟩), undef, undef, undef, undef, undef, undef, undef, undef], defers := [] } V ?_ (fun n1 => ?_)
      · refine wpAnyIn_ready (rs := [0, 2, 3]) (by kernel_rfl) (by simp) ?_
        refine AllReadyIn.cons rfl (fun K hK => ?_) ?_
        · go_simp
          exact hK _ _ n01
        refine AllReadyIn.cons rfl (fun K hK => ?_) ?_
        · go_simp
          exact hK _ _ n12
        refine AllReadyIn.cons rfl (fun K hK => ?_) ?_
        · go_simp
          exact hK _ _ n13
        exact AllReadyIn.nil
      refine any_cut 8 #[false, false, false, true, false, false, false, false, false] { tmps := #[.agg #[.map (some mb), .slice (some ⟨gn, 0, none⟩) N.length xn, .int .i64 (own : Int), .slice qu nu xu, .slice qb nb xb], .slice (some ⟨gB, 0, none⟩) N.length cB, .string s, .pointer (some ⟨w.heap.size, 0, none⟩), undef, undef, .slice none 0 0, .int .i64 (p : Int), .bool true, .pointer (some ⟨w.heap.size + 1, 0, none⟩), .int .i64 (x.1 : Int), .tuple #[.int .i64 (p : Int), .bool true], .pointer (some ⟨w.heap.size, 0, none⟩), .map (some mb), .string s, .tuple #[.int .i64 (p : Int), .bool true], .int .i64 (p : Int), .bool true, .bool true, .bool false, .slice (some ⟨gB, 0, none⟩) N.length cB, .int .i64 (p : Int), .agg #[.map (some mb), .slice (some ⟨gn, 0, none⟩) N.length xn, .int .i64 (own : Int), .slice qu nu xu, .slice qb nb xb], .slice (some ⟨w.heap.size + 2 + 1, 0, none⟩) N.length N.length, .func (.func 80) #[] #[.pointer (some ⟨A3.heap.size + 1, 0, none⟩), .pointer (some ⟨A3.heap.size, 0, none⟩), .pointer (some ⟨A3.heap.size + 2, 0, none⟩)], .int .i64 (x.1 : Int), .int .i64 (x.2 : Int), undef, undef, undef, .int .i64 (x.1 : Int), undef, undef, undef, undef, undef, undef], defers := [] } V ?_ (fun n3 => ?_)
      · refine wpAnyIn_ready (rs := [0, 1]) (by kernel_rfl) (by simp) ?_
        refine AllReadyIn.cons rfl (fun K hK => ?_) ?_
        · go_simp
          exact hK _ _ n03
        refine AllReadyIn.cons rfl (fun K hK => ?_) ?_
        · go_simp
          exact hK _ _ n13
        exact AllReadyIn.nil
      refine wpAnyIn_ready (rs := [0, 1, 3]) (by kernel_rfl) (by simp) ?_
      refine AllReadyIn.cons rfl (fun K hK => ?_) ?_
      · go_simp
        exact hK _ _ n0
      refine AllReadyIn.cons rfl (fun K hK => ?_) ?_
      · go_simp
        exact hK _ _ n1
      refine AllReadyIn.cons rfl (fun K hK => ?_) ?_
      · go_simp
        exact hK _ _ n3
      exact AllReadyIn.nil
    · intro D xs W hD hS hI hd
      obtain ⟨v, hv, hrow⟩ := hI.out
      have vc : W.cell? ⟨w.heap.size + 1, 0, none⟩ = some v := vblk_cell hv 0
      have hall := hS.all
      have hlen : (xs.map fun x => nmOf N x.1).length ≤ 1048576 := by
        have h9 := hSt (xs.map (·.1)) hS.nd (fun t ht => by rw [← HP.out]; exact (hall t).1 ht)
        simpa using h9
      have hszs : ∀ z ∈ xs.map (fun x => nmOf N x.1), z.size ≤ 1048576 := fun z hz => by
        obtain ⟨x, hx, rfl⟩ := List.mem_map.1 hz
        have h9 := hS.lt x.1 (List.mem_map.2 ⟨x, hx, rfl⟩)
        rw [nmOf_lt h9]
        exact hNs _ (List.getElem_mem h9)
      have HSo := hidden (implSorted_c v (xs.map fun x => nmOf N x.1) W (reads_of_owns hrow) hlen hszs)
      have HM : Hid (∀ z, z ∈ sortedS (xs.map fun x => nmOf N x.1) ↔ ∃ t, t < N.length ∧ nmOf N t = z ∧ s ∈ N ∧ RchN L (posN N s) t) := fun z => by
        rw [sortedS_mem, List.mem_map, ← HP.out]
        constructor
        · rintro ⟨x, hx, rfl⟩
          have h9 : x.1 ∈ xs.map (·.1) := List.mem_map.2 ⟨x, hx, rfl⟩
          exact ⟨x.1, hS.lt _ h9, rfl, hin, (hall _).1 h9⟩
        · rintro ⟨t, _, rfl, _, hr⟩
          obtain ⟨x, hx, rfl⟩ := List.mem_map.1 ((hall t).2 hr)
          exact ⟨x, hx, rfl⟩
      have kW := hI.b
      rename_i Q9 K9 hK9
      show K9 _ _
      refine hK9 _ _ ?_
      clear hK9 hI hrow hv hall hS
      go_wp2_with fail
      go_at_call 36
      refine HSo.out.mono ?_
      rintro e W2 ⟨u, rfl, hu, hb2⟩
      clear HSo vc
      go_wp2_with fail
      have hd2 : W2.heap[D]? = some (.deferred (some [])) := (hb2.block D (Array.getElem?_eq_some_iff.1 hd).1).trans hd
      refine ⟨by simp, .inl ⟨_, _, rfl, run_takeDeferred hd2, ?_⟩⟩
      have kA := kA4.size
      have hgp := grownBy_putObj' W2 D (.deferred none)
      refine ⟨u, ?_, u, sortedS (xs.map fun x => nmOf N x.1), rfl, ?_, sortedS_rises _, HM.out, ?_⟩
      · simp [results, Try.f37, go_sem]
      · exact rowLow (ownsRow_putObj hu (.deferred none) hd2 rfl) kW.size
      · exact (kW.trans (hb2.mono kW.size)).grown hgp (by have := kW.size; have := hb2.size; omega) (fun k e => by have h9 : D = k := Option.some.inj e; omega)
  · have HR : Hid (Value.tuple #[(mOf N s).getD (.int .i64 0), .bool (mOf N s).isSome] = .tuple #[.int .i64 0, .bool false]) := by show _ = _; rw [mOf_none hin]; rfl
    have hm1 := hmap.below k1
    obtain ⟨q, c, e⟩ := hvX
    subst e
    clear hmap hX hR
    go_enter Try.func37, Try.ntmps37
    go_wp2_with (at_lookup; refine wpList_lookup_I _ rfl _ _ rfl mb N.length ms _ rfl hm1 s rfl hs _ HR.out ?_)
    go_ret
    exact ⟨.slice none 0 0, [], rfl, World.ownsRow_nil _ _ _ _, List.Pairwise.nil, fun x => ⟨fun h => (nomatch h), fun ⟨t, _, _, h, _⟩ => absurd h hin⟩, k1⟩
end Go.Proofs.Ytbhedlobiagngaa

/-! The graph of packs, as the specification makes it: a contract for the walks; conditions: the packs lie in memory, and hold at most 2 to the 20. -/
namespace Go.Proofs.Ytbhedlobiagngaa
open Go.RowKit Go.Maps
set_option linter.unusedSimpArgs false
set_option linter.unusedVariables false

/-- An append of a row that may be nil, told with where the new row lies. -/
theorem wp_append_src {P : Program} {w : World} {o : Oper} {a : Act} {K : Act → World → Prop} {Q : Exit → Act → World → Prop} (s x : Operand) (t : TypeId)
    (ho : o.op = .call { callee := .builtin .append, args := #[s, x], argTypes := #[t, t] })
    (base : Nat) (e : TypeId) (i : TypeInfo) (z : Value) (size bytes : Nat) (ht : P.underlying t = some (.slice e)) (hi : P.info? e = some i) (hz : i.zero = some z)
    (hsize : i.size = size) (hby : i.bytes = bytes) (hzs : z.cells.size = size) (hsz : 0 < size)
    (v : Value) (n : Nat) (xs : List Value) (hs : a.eval s = v) (hown : w.ownsRow base e size v n xs)
    (u : Value) (m lo : Nat) (news : List Value) (hx : a.eval x = u) (hsrc : w.ownsRow lo e size u m news) (h1 : ∀ u ∈ news, u.oneCell' = true)
    (h63 : n + m ≤ maxLen) (hbytes : (n + m) * bytes ≤ 140737488355328) (hbase : base ≤ w.heap.size)
    (h : ∀ v' w', w'.ownsRow base e size v' (n + m) (xs ++ news) → w.grownBy w' v.ownBlock → (∀ g, v'.ownBlock = some g → v.ownBlock = some g ∨ w.heap.size ≤ g) → K (a.put o.dst v') w') : o.wp P a w K Q := by
  rcases id hsrc.2 with ⟨rfl, rfl⟩ | ⟨gs, caps, cur, rfl, hgl, hgb, hcap, hmax, _⟩
  · have hn : news = [] := List.eq_nil_of_length_eq_zero (by rw [hsrc.1]; omega)
    subst hn
    have hrun := run_append_owned_none (P := P) (w := w) base t o.type e i size ht hi _ n xs hown
    unfold Oper.wp
    simp [execOp, ho, resolve, invoke, builtin, hs, hx, hrun, Result.andThen]
    refine h _ w ?_ (World.grownBy.refl _ _) (fun g hg => .inl hg)
    rw [Nat.add_zero, List.append_nil]
    exact hown
  · refine wp_append_loc s x t ho base e i z size bytes ht hi hz hsize hby hzs hsz v n xs hs hown ⟨gs, 0, none⟩ m caps news hx hsrc.1 (fun j u hu => ?_) h1 h63 hbytes hbase h
    rw [addr_addZ, hsrc.cellAt j (by rw [← hsrc.1]; exact (List.getElem?_eq_some_iff.1 hu).1)]
    exact hu
theorem infoSs : (Try.prog.info? 26).map (fun i => (i.zero, i.size, i.bytes)) = some (some (.slice none 0 0), 1, 24) := by kernel_rfl
/-- Names and lists of names that are being made. -/
structure GsC (lo : Nat) (w : World) (vn vx : Value) (vs : List Value) (ns : List ByteArray) (nx : List (List ByteArray)) : Prop where
  names : w.ownsRow lo 9 1 vn ns.length (strsV ns)
  next : w.ownsRow lo 26 1 vx nx.length vs
  each : ∀ (i : Nat) (u : Value), vs[i]? = some u → ∃ ss, nx[i]? = some ss ∧ w.ownsRow lo 9 1 u ss.length (strsV ss)
  apart : ∀ (i g : Nat) (u : Value), vs[i]? = some u → u.ownBlock = some g → vn.ownBlock ≠ some g
section
variable {lo : Nat} {w w' : World} {vn vx : Value} {vs : List Value} {ns : List ByteArray} {nx : List (List ByteArray)}
theorem GsC.kept {r : Option Nat} (h : GsC lo w vn vx vs ns nx) (hg : w.grownBy w' r) (h1 : ∀ {sz n : Nat} {e : TypeId} {v : Value} {xs : List Value}, w.ownsRow lo e sz v n xs → v.ownBlock = none ∨ v.ownBlock ≠ r) : GsC lo w' vn vx vs ns nx :=
  ⟨h.names.kept hg (h1 h.names), h.next.kept hg (h1 h.next), fun i u hu => by obtain ⟨ss, h2, h3⟩ := h.each i u hu; exact ⟨ss, h2, h3.kept hg (h1 h3)⟩, h.apart⟩
theorem GsC.new {r : Option Nat} (h : GsC lo w vn vx vs ns nx) (hg : w.grownBy w' r) (hq : ∀ q, r = some q → w.heap.size ≤ q ∨ q < lo) : GsC lo w' vn vx vs ns nx :=
  h.kept hg (fun {sz n e v xs} hv => by
    cases hb : v.ownBlock with
    | none => exact .inl rfl
    | some g => exact .inr fun e => by have h2 := hv.lt g hb; have := hq g e.symm; omega)
theorem GsC.addN {v' : Value} {s : ByteArray} (h : GsC lo w vn vx vs ns nx) (o : w'.ownsRow lo 9 1 v' (ns.length + 1) (strsV ns ++ strsV [s])) (gr : w.grownBy w' vn.ownBlock) (hl : ∀ g, v'.ownBlock = some g → vn.ownBlock = some g ∨ w.heap.size ≤ g) : GsC lo w' v' vx vs (ns ++ [s]) nx := by
  refine ⟨?_, h.next.kept gr (apart_r h.next h.names (by decide)), fun i u hu => ?_, fun i g u hu hb he => ?_⟩
  · have : strsV (ns ++ [s]) = strsV ns ++ strsV [s] := by simp [strsV]
    rw [this, List.length_append, List.length_singleton]
    exact o
  · obtain ⟨ss, h2, h3⟩ := h.each i u hu
    refine ⟨ss, h2, h3.kept gr ?_⟩
    cases hb : u.ownBlock with
    | none => exact .inl rfl
    | some g => exact .inr fun e => h.apart i g u hu hb e.symm
  · obtain ⟨ss, h2, h3⟩ := h.each i u hu
    rcases hl g he with h4 | h4
    · exact h.apart i g u hu hb h4
    · have := (h3.lt g hb).2; omega
theorem GsC.addX {v' u' : Value} {ss : List ByteArray} (h : GsC lo w vn vx vs ns nx) (hu : w.ownsRow lo 9 1 u' ss.length (strsV ss)) (hn : ∀ g, u'.ownBlock = some g → vn.ownBlock ≠ some g) (o : w'.ownsRow lo 26 1 v' (nx.length + 1) (vs ++ [u'])) (gr : w.grownBy w' vx.ownBlock) : GsC lo w' vn v' (vs ++ [u']) ns (nx ++ [ss]) := by
  have hvl : vs.length = nx.length := by have := h.next.1; omega
  refine ⟨h.names.kept gr (apart_r h.names h.next (by decide)), by rw [List.length_append, List.length_singleton]; exact o, fun i u hi => ?_, fun i g u hi hb => ?_⟩
  · rcases at_snoc hi with hi | ⟨hi', rfl⟩
    · obtain ⟨s2, h2, h3⟩ := h.each i u hi
      have hl : i < nx.length := (List.getElem?_eq_some_iff.1 h2).1
      exact ⟨s2, by rw [List.getElem?_append_left hl]; exact h2, h3.kept gr (apart_r h3 h.next (by decide))⟩
    · exact ⟨ss, by rw [hi', hvl]; simp, hu.kept gr (apart_r hu h.next (by decide))⟩
  · rcases at_snoc hi with hi | ⟨_, rfl⟩
    · exact h.apart i g u hi hb
    · exact hn g hb
/-- As the specification's functions read it. -/
theorem GsC.grIn (h : GsC lo w vn vx vs ns nx) (hl : nx.length = ns.length) (hf : ns.length ≤ 1048577) (hs : ∀ ss ∈ nx, ss.length ≤ 1048576) : GrIn (Ow lo w.heap.size) w vn vx ns nx := by
  refine ⟨rdB_owns h.names, ?_, hl, hf⟩
  obtain ⟨q, c, e⟩ := owns_slG h.next
  subst e
  rcases h.next.2 with ⟨e1, e2⟩ | ⟨g, cap, cur, e1, hb, hg, hnc, hcm, hcs, ht⟩
  · have hnil : nx = [] := List.eq_nil_of_length_eq_zero e2
    subst hnil
    injection e1 with e3 e4 e5
    subst e3 e5
    exact ⟨none, 0, rfl, by unfold maxLen; simp, by simp, .inl rfl⟩
  · injection e1 with e3 e4 e5
    subst e3 e5
    refine ⟨_, c, rfl, by omega, hnc, .inr ⟨g, 0, rfl, ⟨hb, (Array.getElem?_eq_some_iff.1 hg).1⟩, fun k hk => ?_⟩⟩
    have hkv : k < vs.length := by have := h.next.1; omega
    obtain ⟨ss, h2, h3⟩ := h.each k vs[k] (List.getElem?_eq_getElem hkv)
    have h4 : nx[k] = ss := by have := List.getElem?_eq_getElem hk; rw [this] at h2; exact Option.some.inj h2
    refine ⟨[vs[k]], ⟨vs[k], rfl, ⟨by rw [h4]; exact owns_lo (Nat.zero_le _) h3, fun g' hg' => owns_in h3 g' hg'⟩, by rw [h4]; exact hs ss (h4 ▸ List.getElem_mem hk)⟩, fun i hi => ?_⟩
    simp at hi
    subst hi
    show w.cell? ⟨g, 0 + k * 1 + 0, none⟩ = _
    rw [show 0 + k * 1 + 0 = k by omega, h.next.cellAt k (by omega)]
    exact List.getElem?_eq_getElem hkv
end

set_option maxHeartbeats 16000000 in
set_option maxRecDepth 100000 in
theorem l11Packs_c (S : Nat → Prop) (v : Value) (xs : List PackD) (w : World) (hv : RowIn shPackO S w v xs) (hB : ∀ b, S b → b < w.heap.size) (hw : wtRow wtPack xs ≤ 1048576) :
    Calls Try.prog 51 #[v] w fun e w' => ∃ vn vx, e = .returned (.agg #[vn, vx]) ∧ GrIn (Ow w.heap.size w'.heap.size) w' vn vx (xs.map (·.name)) (xs.map (·.uses)) ∧ Below w.heap.size w w' := by
  obtain ⟨iS, hiS, hzS0, hzS1, hzS2⟩ := info_parts infoS
  obtain ⟨iT, hiT, hzT0, hzT1, hzT2⟩ := info_parts infoSs
  have hl2 := len_wtRow wtPack xs
  have hlen : xs.length ≤ 1048576 := by omega
  have hwe : ∀ d ∈ xs, d.uses.length ≤ 1048576 := fun d hd => by
    have h1 := Nat.le_trans (wt_wtRow wtPack hd) hw
    unfold wtPack bulkS at h1
    omega
  obtain ⟨a, cap, rfl, hl, hc, ha⟩ := hv
  unfold maxLen at hl
  have HW0 : Hid (∀ W, W = (w.alloc (.cells #[.slice none 0 0, .slice none 0 0] 78)).alloc (.cells #[.slice none 0 0, .slice none 0 0] 78) → GsC (w.heap.size + 2) W (.slice none 0 0) (.slice none 0 0) [] [] [] ∧ W.heap[w.heap.size + 1]? = some (.cells #[.slice none 0 0, .slice none 0 0] 78 (0, 0)) ∧ W.heap[w.heap.size]? = some (.cells #[.slice none 0 0, .slice none 0 0] 78 (0, 0)) ∧ Below w.heap.size w W) := by
    intro W hW
    subst hW
    have z1 : (w.alloc (.cells #[.slice none 0 0, .slice none 0 0] 78)).heap.size = w.heap.size + 1 := by simp
    refine ⟨⟨World.ownsRow_nil _ _ _ _, World.ownsRow_nil _ _ _ _, fun i u h => (by simp at h), fun i g u h => (by simp at h)⟩, ?_, ?_, ?_⟩
    · have := vheap_new (w.alloc (.cells #[.slice none 0 0, .slice none 0 0] 78)) (.cells #[.slice none 0 0, .slice none 0 0] 78)
      rw [z1] at this
      exact this
    · rw [vheap_old _ _ (by simp), vheap_new]
    · exact (((Below.refl _ _).alloc (Nat.le_refl _) _).alloc (by simp) _)
  go_enter Try.func51, Try.ntmps51
  go_wp2_with fail
  go_loopw [4] (fun vi wr => ∃ (k : Nat) (vn vx : Value) (vs : List Value), k ≤ xs.length ∧ vi = .int .i64 (k : Int) ∧ Hid (GsC (w.heap.size + 2) wr vn vx vs ((xs.map (·.name)).take k) ((xs.map (·.uses)).take k)) ∧ Hid (wr.heap[w.heap.size + 1]? = some (.cells #[vn, vx] 78 (0, 0))) ∧ Hid (wr.heap[w.heap.size]? = some (.cells #[.slice none 0 0, .slice none 0 0] 78 (0, 0))) ∧ Below w.heap.size w wr) (fun vi _ => xs.length - (intOf vi).toNat)
  case atStart => exact ⟨0, _, _, [], Nat.zero_le _, rfl, (HW0.out _ rfl).1, (HW0.out _ rfl).2.1, (HW0.out _ rfl).2.2.1, (HW0.out _ rfl).2.2.2⟩
  case round =>
    clear HW0
    obtain ⟨k, vn, vx, vs, hk, rfl, HC, HX, HR, hbr⟩ := hrel
    obtain ⟨qn, xn, en⟩ := owns_slG HC.out.names
    obtain ⟨qx, xx, ex⟩ := owns_slG HC.out.next
    have lk1 : ((xs.map (·.name)).take k).length = k := by rw [List.length_take, List.length_map]; omega
    have lk2 : ((xs.map (·.uses)).take k).length = k := by rw [List.length_take, List.length_map]; omega
    rw [lk1] at en
    rw [lk2] at ex
    subst en ex
    by_cases hlt' : k < xs.length
    · rcases ha with rfl | ⟨b, off, rfl, hlt, ha⟩
      · simp at hlt'
      obtain ⟨cs, hL, hcell⟩ := ha k hlt'
      have HT1 : Hid ((xs.map (·.name)).take (k + 1) = (xs.map (·.name)).take k ++ [xs[k].name]) := by show _ = _; rw [List.take_succ_eq_append_getElem (by rw [List.length_map]; exact hlt'), List.getElem_map]
      have HT2 : Hid ((xs.map (·.uses)).take (k + 1) = (xs.map (·.uses)).take k ++ [xs[k].uses]) := by show _ = _; rw [List.take_succ_eq_append_getElem (by rw [List.length_map]; exact hlt'), List.getElem_map]
      have hul := hwe xs[k] (List.getElem_mem hlt')
      obtain ⟨d, hd⟩ : ∃ d, d = xs[k] := ⟨_, rfl⟩
      rw [← hd] at hL HT1 HT2 hul
      obtain ⟨u0, u1, u2, rfl, _, r0, p0, _⟩ := hL
      have HE0 : Hid (∀ W, Below w.heap.size w W → W.cell? ⟨b, off + k * 4, none⟩ = some (.string d.name)) := fun W h => (hcell.keep (.of h hB) hlt) 0 (by simp)
      have HE1 : Hid (∀ W, Below w.heap.size w W → W.cell? ⟨b, off + k * 4 + 1, none⟩ = some u0) := fun W h => (hcell.keep (.of h hB) hlt) 1 (by simp)
      have HU0 : Hid (∀ W, Below w.heap.size w W → W.ownsRow 0 9 1 u0 d.uses.length (strsV d.uses)) := fun W h => (r0.keep (.of h hB)).1
      obtain ⟨a0, c0, eu0⟩ := owns_slG r0.1
      subst eu0
      have hki : (k : Int) < (xs.length : Int) := by omega
      clear ha hd hcell r0 p0 lk1 lk2
      go_wp2_with fail
      have HK5 : Hid (∀ W : World, W.heap[w.heap.size + 1]? = some (.cells #[.slice qn k xn, .slice qx k xx] 78 (0, 0)) → Below w.heap.size w W → (fun W => W.cell? ⟨w.heap.size + 1, 0, none⟩ = some (.slice qn k xn) ∧ W.cell? ⟨b, off + k * 4, none⟩ = some (.string d.name)) W) := fun W hW hb => ⟨vblk_cell hW 0, HE0.out W hb⟩
      refine till_region (fun W => W.cell? ⟨w.heap.size + 1, 0, none⟩ = some (.slice qn k xn) ∧ W.cell? ⟨b, off + k * 4, none⟩ = some (.string d.name)) 10 (by kernel_rfl) (HK5.out _ HX.out hbr.drew) (fun hHeld => ?_)
      have D0 : GsC (w.heap.size + 2) wr.drew (.slice qn k xn) (.slice qx k xx) vs _ _ := HC.out.new (r := none) (grown_of_below (Below.refl _ _).drew none) (fun q e => by cases e)
      have X0 : wr.drew.heap[w.heap.size + 1]? = some (.cells #[.slice qn k xn, .slice qx k xx] 78 (0, 0)) := HX.out
      have R0 : wr.drew.heap[w.heap.size]? = some (.cells #[.slice none 0 0, .slice none 0 0] 78 (0, 0)) := HR.out
      have B0 : Below w.heap.size w wr.drew := hbr.drew
      clear HC HX HR hbr
      generalize wr.drew = W at hHeld D0 X0 R0 B0 ⊢
      refine till_at (k' := 11) (l' := #[false, false, false, false, false, false, false, false, false, false, false]) ?_ (by kernel_rfl) (by kernel_rfl)
      refine tv 0 hHeld (h := ?_)
      refine tu 1 hHeld (h := ?_)
      refine tv 2 hHeld (h := ?_)
      refine tv 3 hHeld (h := ?_)
      refine tv 4 hHeld (h := ?_)
      refine tv 5 hHeld (h := ?_)
      refine tu 6 hHeld (h := ?_)
      have hlW := D0.names.lt
      have hsW : w.heap.size + 2 ≤ W.heap.size := by have := (Array.getElem?_eq_some_iff.1 X0).1; omega
      refine till_ready (rs := [7]) (by kernel_rfl) (by simp) ?_
      refine AllTill.cons rfl rfl (fun K hK => ?_) AllTill.nil
      go_simp
      have B1 : Below w.heap.size w (W.alloc (.cells #[.string d.name] 9)) := B0.alloc (by omega) _
      have X1 : (W.alloc (.cells #[.string d.name] 9)).heap[w.heap.size + 1]? = some (.cells #[.slice qn k xn, .slice qx k xx] 78 (0, 0)) := (vheap_old W _ (by omega)).trans X0
      have R1 : (W.alloc (.cells #[.string d.name] 9)).heap[w.heap.size]? = some (.cells #[.slice none 0 0, .slice none 0 0] 78 (0, 0)) := (vheap_old W _ (by omega)).trans R0
      have D1 := D0.new (World.grownBy_alloc W (.cells #[.string d.name] 9) none) (fun q e => by cases e)
      have A1 : (W.alloc (.cells #[.string d.name] 9)).ownsRow (w.heap.size + 2) 9 1 (.slice (some ⟨W.heap.size, 0, none⟩) 1 1) 1 (strsV [d.name]) := World.ownsRow_lit W #[.string d.name] 1 hsW (by unfold maxLen; omega) rfl
      have hs1 : w.heap.size + 2 ≤ (W.alloc (.cells #[.string d.name] 9)).heap.size := by simp; omega
      refine hK.out _ _ (fun _ => HK5.out _ X1 B1) ?_
      clear hK K D0 X0 R0 B0 hHeld
      generalize W.heap.size = q1 at A1 ⊢
      generalize W.alloc (.cells #[.string d.name] 9) = W1 at B1 X1 R1 D1 A1 hs1 ⊢
      clear hlW hsW
      refine till_ready (rs := [8]) (by kernel_rfl) (by simp) ?_
      refine AllTill.cons rfl rfl (fun K hK => ?_) AllTill.nil
      rw [if_pos (by rfl)]
      refine wp_append_loc _ _ 26 rfl (w.heap.size + 2) 9 iS (.string ⟨#[]⟩) 1 16 Try.underlying26 hiS hzS0 hzS1 hzS2 rfl (by decide) _ _ _ rfl D1.names ⟨q1, 0, none⟩ 1 1 (strsV [d.name]) rfl rfl (A1.cells rfl) (fun u hu => by simp [strsV] at hu; subst hu; rfl) (by rw [List.length_take, List.length_map]; unfold maxLen; omega) (by rw [List.length_take, List.length_map]; omega) hs1 ?_
      intro v2 W2 o2 gr2 lc2
      have D2 := D1.addN o2 gr2 lc2
      have B2 : Below w.heap.size w W2 := Below.grown B1 gr2 (by omega) (fun j hj => by have := (D1.names.lt j hj).1; omega)
      have X2 := (gr2.block (w.heap.size + 1) (by omega) (fun e => by have := (D1.names.lt _ e.symm).1; omega)).trans X1
      have R2 := (gr2.block w.heap.size (by omega) (fun e => by have := (D1.names.lt _ e.symm).1; omega)).trans R1
      obtain ⟨y2, c2, e2⟩ := owns_slG D2.names
      rw [List.length_append, List.length_singleton, List.length_take, List.length_map, Nat.min_eq_left hk] at e2
      subst e2
      refine hK.out _ _ (fun _ => HK5.out _ X2 B2) ?_
      clear hK K D1 X1 R1 B1 A1 o2 gr2 lc2
      refine till_ready (rs := [9]) (by kernel_rfl) (by simp) ?_
      refine AllTill.cons rfl rfl (fun K hK => ?_) AllTill.nil
      go_simp
      refine hK.out _ _ (fun _ => HK5.out _ X2 B2) ?_
      clear hK K
      refine till_ready (rs := [10]) (by kernel_rfl) (by simp) ?_
      refine AllTill.cons rfl rfl (fun K hK => ?_) AllTill.nil
      have x10 := vblk_cell X2 0
      have f10 := vblk_frozen X2 0
      simp only [List.getElem?_toArray, List.getElem?_cons_succ, List.getElem?_cons_zero] at x10
      go_simp
      have X3 : (W2.setCell ⟨w.heap.size + 1, 0, none⟩ (.slice y2 (k + 1) c2)).heap[w.heap.size + 1]? = some (.cells #[(.slice y2 (k + 1) c2), .slice qx k xx] 78 (0, 0)) := heap_setCell_same W2 (w.heap.size + 1) 0 _ _ (.slice y2 (k + 1) c2) X2
      have D3 := D2.new (grown_set W2 (w.heap.size + 1) 0 (.slice y2 (k + 1) c2)) (fun q e => .inr (by have := Option.some.inj e; omega))
      have R3 := ((grown_set W2 (w.heap.size + 1) 0 (.slice y2 (k + 1) c2)).block w.heap.size (Array.getElem?_eq_some_iff.1 R2).1 (fun e => by have := Option.some.inj e; omega)).trans R2
      have B3 : Below w.heap.size w (W2.setCell ⟨w.heap.size + 1, 0, none⟩ (.slice y2 (k + 1) c2)) := Below.setCell B2 (by show _ ≤ w.heap.size + 1; omega) _
      refine hK.out _ _ (fun h => nomatch (show true = false from h)) ?_
      generalize W2.setCell ⟨w.heap.size + 1, 0, none⟩ (.slice y2 (k + 1) c2) = W3 at X3 D3 R3 B3 ⊢
      clear x10 f10 hK K D2 X2 R2 B2 HK5
      refine till_done (by kernel_rfl) ?_ _
      go_wp2_with fail
      have HK6 : Hid (∀ W : World, W.heap[w.heap.size + 1]? = some (.cells #[(.slice y2 (k + 1) c2), .slice qx k xx] 78 (0, 0)) → Below w.heap.size w W → (fun W => W.cell? ⟨w.heap.size + 1, 1, none⟩ = some (.slice qx k xx) ∧ W.cell? ⟨b, off + k * 4 + 1, none⟩ = some (.slice a0 d.uses.length c0)) W) := fun W hW hb => ⟨vblk_cell hW 1, HE1.out W hb⟩
      refine till_region (fun W => W.cell? ⟨w.heap.size + 1, 1, none⟩ = some (.slice qx k xx) ∧ W.cell? ⟨b, off + k * 4 + 1, none⟩ = some (.slice a0 d.uses.length c0)) 12 (by kernel_rfl) (HK6.out _ X3 B3.drew) (fun hHeld => ?_)
      have D0 : GsC (w.heap.size + 2) W3.drew (.slice y2 (k + 1) c2) (.slice qx k xx) vs _ _ := D3.new (r := none) (grown_of_below (Below.refl _ _).drew none) (fun q e => by cases e)
      have X0 : W3.drew.heap[w.heap.size + 1]? = some (.cells #[(.slice y2 (k + 1) c2), .slice qx k xx] 78 (0, 0)) := X3
      have R0 : W3.drew.heap[w.heap.size]? = some (.cells #[.slice none 0 0, .slice none 0 0] 78 (0, 0)) := R3
      have B0 : Below w.heap.size w W3.drew := B3.drew
      clear D3 X3 R3 B3
      generalize W3.drew = W at hHeld D0 X0 R0 B0 ⊢
      refine till_at (k' := 13) (l' := #[false, false, false, false, false, false, false, false, false, false, false, false, false]) ?_ (by kernel_rfl) (by kernel_rfl)
      refine tv 0 hHeld (h := ?_)
      refine tu 1 hHeld (h := ?_)
      refine tv 3 hHeld (h := ?_)
      refine tv 4 hHeld (h := ?_)
      refine tv 5 hHeld (h := ?_)
      refine tv 6 hHeld (h := ?_)
      refine tu 7 hHeld (h := ?_)
      have hsW : w.heap.size + 2 ≤ W.heap.size := by have := (Array.getElem?_eq_some_iff.1 X0).1; omega
      refine till_ready (rs := [2]) (by kernel_rfl) (by simp) ?_
      refine AllTill.cons rfl rfl (fun K hK => ?_) AllTill.nil
      go_simp
      have B1 : Below w.heap.size w (W.alloc (.cells #[] 9)) := B0.alloc (by omega) _
      have X1 : (W.alloc (.cells #[] 9)).heap[w.heap.size + 1]? = some (.cells #[(.slice y2 (k + 1) c2), .slice qx k xx] 78 (0, 0)) := (vheap_old W _ (by omega)).trans X0
      have R1 : (W.alloc (.cells #[] 9)).heap[w.heap.size]? = some (.cells #[.slice none 0 0, .slice none 0 0] 78 (0, 0)) := (vheap_old W _ (by omega)).trans R0
      have D1 := D0.new (World.grownBy_alloc W (.cells #[] 9) none) (fun q e => by cases e)
      have A1 : (W.alloc (.cells #[] 9)).ownsRow (w.heap.size + 2) 9 1 (.slice (some ⟨W.heap.size, 0, none⟩) 0 0) 0 [] := World.ownsRow_lit W #[] 0 hsW (by unfold maxLen; omega) rfl
      have hs1 : w.heap.size + 2 ≤ (W.alloc (.cells #[] 9)).heap.size := by simp; omega
      have nq1 : Value.ownBlock (.slice y2 (k + 1) c2) ≠ some W.heap.size := fun e => by have := (D0.names.lt _ e).2; omega
      have NE1' : ∀ (i : Nat) (u : Value), vs[i]? = some u → u.ownBlock ≠ some W.heap.size := fun i u hu e => by obtain ⟨ss, h2, h3⟩ := D0.each i u hu; have := (h3.lt _ e).2; omega
      refine hK.out _ _ (fun _ => HK6.out _ X1 B1) ?_
      clear hK K D0 X0 R0 B0 hHeld hsW
      generalize W.heap.size = q1 at A1 nq1 NE1' ⊢
      have NE1 := hidden NE1'
      clear NE1'
      generalize W.alloc (.cells #[] 9) = W1 at B1 X1 R1 D1 A1 hs1 ⊢
      refine till_ready (rs := [8]) (by kernel_rfl) (by simp) ?_
      refine AllTill.cons rfl rfl (fun K hK => ?_) AllTill.nil
      rw [if_pos (by rfl)]
      refine wp_append_src _ _ 26 rfl (w.heap.size + 2) 9 iS (.string ⟨#[]⟩) 1 16 Try.underlying26 hiS hzS0 hzS1 hzS2 rfl (by decide) _ 0 [] rfl A1 (.slice a0 d.uses.length c0) d.uses.length 0 (strsV d.uses) rfl (HU0.out _ B1) (strs_oneCell d.uses) (by unfold maxLen; omega) (by omega) hs1 ?_
      intro v3 W2 o3 gr3 lc3
      rw [Nat.zero_add, List.nil_append] at o3
      have D2 : GsC (w.heap.size + 2) W2 (.slice y2 (k + 1) c2) (.slice qx k xx) vs _ _ := ⟨D1.names.kept gr3 (.inr nq1), D1.next.kept gr3 (apart_r D1.next A1 (by decide)), fun i u hu => (by obtain ⟨ss, h2, h3⟩ := D1.each i u hu; exact ⟨ss, h2, h3.kept gr3 (.inr (fun e => NE1.out i u hu e))⟩), D1.apart⟩
      have B2 : Below w.heap.size w W2 := Below.grown B1 gr3 (by omega) (fun j hj => by have := (A1.lt j hj).1; omega)
      have X2 := (gr3.block (w.heap.size + 1) (by omega) (fun e => by have := (A1.lt _ e.symm).1; omega)).trans X1
      have R2 := (gr3.block w.heap.size (by omega) (fun e => by have := (A1.lt _ e.symm).1; omega)).trans R1
      have nv3 : ∀ g, v3.ownBlock = some g → Value.ownBlock (.slice y2 (k + 1) c2) ≠ some g := fun g hg he => by
        rcases lc3 g hg with h9 | h9
        · obtain rfl : q1 = g := Option.some.inj h9
          exact nq1 he
        · have := (D1.names.lt g he).2; omega
      obtain ⟨y3, c3, e3⟩ := owns_slG o3
      subst e3
      refine hK.out _ _ (fun _ => HK6.out _ X2 B2) ?_
      clear hK K D1 X1 R1 B1 A1 gr3 lc3 nq1 NE1 hs1
      have hsW2 : w.heap.size + 2 ≤ W2.heap.size := by have := (Array.getElem?_eq_some_iff.1 X2).1; omega
      refine till_ready (rs := [9]) (by kernel_rfl) (by simp) ?_
      refine AllTill.cons rfl rfl (fun K hK => ?_) AllTill.nil
      go_simp
      have B4 : Below w.heap.size w (W2.alloc (.cells #[.slice y3 d.uses.length c3] 26)) := B2.alloc (by omega) _
      have X4 : (W2.alloc (.cells #[.slice y3 d.uses.length c3] 26)).heap[w.heap.size + 1]? = some (.cells #[(.slice y2 (k + 1) c2), .slice qx k xx] 78 (0, 0)) := (vheap_old W2 _ (by omega)).trans X2
      have R4 : (W2.alloc (.cells #[.slice y3 d.uses.length c3] 26)).heap[w.heap.size]? = some (.cells #[.slice none 0 0, .slice none 0 0] 78 (0, 0)) := (vheap_old W2 _ (by omega)).trans R2
      have D4 := D2.new (World.grownBy_alloc W2 (.cells #[.slice y3 d.uses.length c3] 26) none) (fun q e => by cases e)
      have o4 := o3.alloc (.cells #[.slice y3 d.uses.length c3] 26)
      have A4 : (W2.alloc (.cells #[.slice y3 d.uses.length c3] 26)).ownsRow (w.heap.size + 2) 26 1 (.slice (some ⟨W2.heap.size, 0, none⟩) 1 1) 1 [.slice y3 d.uses.length c3] := World.ownsRow_lit W2 #[.slice y3 d.uses.length c3] 1 hsW2 (by unfold maxLen; omega) rfl
      have hs4 : w.heap.size + 2 ≤ (W2.alloc (.cells #[.slice y3 d.uses.length c3] 26)).heap.size := by simp; omega
      refine hK.out _ _ (fun _ => HK6.out _ X4 B4) ?_
      clear hK K D2 X2 R2 B2 o3
      generalize W2.heap.size = q4 at A4 ⊢
      generalize W2.alloc (.cells #[.slice y3 d.uses.length c3] 26) = W4 at B4 X4 R4 D4 A4 o4 hs4 ⊢
      refine till_ready (rs := [10]) (by kernel_rfl) (by simp) ?_
      refine AllTill.cons rfl rfl (fun K hK => ?_) AllTill.nil
      rw [if_pos (by rfl)]
      refine wp_append_loc _ _ 76 rfl (w.heap.size + 2) 26 iT (.slice none 0 0) 1 24 Try.underlying76 hiT hzT0 hzT1 hzT2 rfl (by decide) _ _ _ rfl D4.next ⟨q4, 0, none⟩ 1 1 [.slice y3 d.uses.length c3] rfl rfl (A4.cells rfl) (fun u hu => by simp at hu; subst hu; rfl) (by rw [List.length_take, List.length_map]; unfold maxLen; omega) (by rw [List.length_take, List.length_map]; omega) hs4 ?_
      intro v5 W5 o5 gr5 lc5
      have D5 := D4.addX o4 nv3 o5 gr5
      have B5 : Below w.heap.size w W5 := Below.grown B4 gr5 (by omega) (fun j hj => by have := (D4.next.lt j hj).1; omega)
      have X5 := (gr5.block (w.heap.size + 1) (by omega) (fun e => by have := (D4.next.lt _ e.symm).1; omega)).trans X4
      have R5 := (gr5.block w.heap.size (by omega) (fun e => by have := (D4.next.lt _ e.symm).1; omega)).trans R4
      obtain ⟨y5, c5, e5⟩ := owns_slG D5.next
      rw [List.length_append, List.length_singleton, List.length_take, List.length_map, Nat.min_eq_left hk] at e5
      subst e5
      refine hK.out _ _ (fun _ => HK6.out _ X5 B5) ?_
      clear hK K D4 X4 R4 B4 A4 o4 o5 gr5 lc5 nv3
      refine till_ready (rs := [11]) (by kernel_rfl) (by simp) ?_
      refine AllTill.cons rfl rfl (fun K hK => ?_) AllTill.nil
      go_simp
      refine hK.out _ _ (fun _ => HK6.out _ X5 B5) ?_
      clear hK K
      refine till_ready (rs := [12]) (by kernel_rfl) (by simp) ?_
      refine AllTill.cons rfl rfl (fun K hK => ?_) AllTill.nil
      have x10 := vblk_cell X5 1
      have f10 := vblk_frozen X5 1
      simp only [List.getElem?_toArray, List.getElem?_cons_succ, List.getElem?_cons_zero] at x10
      go_simp
      have X6 : (W5.setCell ⟨w.heap.size + 1, 1, none⟩ (.slice y5 (k + 1) c5)).heap[w.heap.size + 1]? = some (.cells #[(.slice y2 (k + 1) c2), (.slice y5 (k + 1) c5)] 78 (0, 0)) := heap_setCell_same W5 (w.heap.size + 1) 1 _ _ (.slice y5 (k + 1) c5) X5
      have D6 := D5.new (grown_set W5 (w.heap.size + 1) 1 (.slice y5 (k + 1) c5)) (fun q e => .inr (by have := Option.some.inj e; omega))
      have R6 := ((grown_set W5 (w.heap.size + 1) 1 (.slice y5 (k + 1) c5)).block w.heap.size (Array.getElem?_eq_some_iff.1 R5).1 (fun e => by have := Option.some.inj e; omega)).trans R5
      have B6 : Below w.heap.size w (W5.setCell ⟨w.heap.size + 1, 1, none⟩ (.slice y5 (k + 1) c5)) := Below.setCell B5 (by show _ ≤ w.heap.size + 1; omega) _
      refine hK.out _ _ (fun h => nomatch (show true = false from h)) ?_
      generalize W5.setCell ⟨w.heap.size + 1, 1, none⟩ (.slice y5 (k + 1) c5) = W6 at X6 D6 R6 B6 ⊢
      clear x10 f10 hK K D5 X5 R5 B5 HK6
      rw [← HT1.out, ← HT2.out] at D6
      have HD6 := hidden D6
      have HX6 := hidden X6
      have HR6 := hidden R6
      clear D6 X6 R6
      refine till_done (by kernel_rfl) ?_ _
      go_wp2_with fail
      go_roundw
      case rel => exact ⟨k + 1, _, _, _, by omega, by go_num, HD6, HX6, HR6, B6⟩
      case measure => simp [intOf]; omega
    · have he : k = xs.length := by omega
      subst he
      have hx := HX.out
      have hr := HR.out
      have c0 : wr.cell? ⟨w.heap.size + 1, 0, none⟩ = some (.slice qn xs.length xn) := vblk_cell hx 0
      have c1 : wr.cell? ⟨w.heap.size + 1, 1, none⟩ = some (.slice qx xs.length xx) := vblk_cell hx 1
      have r0 : wr.cell? ⟨w.heap.size, 0, none⟩ = some (.slice none 0 0) := vblk_cell hr 0
      have r1 : wr.cell? ⟨w.heap.size, 1, none⟩ = some (.slice none 0 0) := vblk_cell hr 1
      have fz := vblk_frozen hr
      have HD : Hid (GsC (w.heap.size + 2) ((wr.setCell ⟨w.heap.size, 0, none⟩ (.slice qn xs.length xn)).setCell ⟨w.heap.size, 1, none⟩ (.slice qx xs.length xx)) (.slice qn xs.length xn) (.slice qx xs.length xx) vs (xs.map (·.name)) (xs.map (·.uses))) := by
        have h1 := HC.out
        rw [show (xs.map (·.name)).take xs.length = xs.map (·.name) by rw [← List.length_map (f := fun d : PackD => d.name), List.take_length], show (xs.map (·.uses)).take xs.length = xs.map (·.uses) by rw [← List.length_map (f := fun d : PackD => d.uses), List.take_length]] at h1
        exact (h1.new (grown_set wr w.heap.size 0 _) (fun q e => .inr (by have := Option.some.inj e; omega))).new (grown_set _ w.heap.size 1 _) (fun q e => .inr (by have := Option.some.inj e; omega))
      have HB2 : Hid (Below w.heap.size w ((wr.setCell ⟨w.heap.size, 0, none⟩ (.slice qn xs.length xn)).setCell ⟨w.heap.size, 1, none⟩ (.slice qx xs.length xx))) := Below.setCell (Below.setCell hbr (Nat.le_refl _) _) (Nat.le_refl _) _
      have HX2 : Hid (((wr.setCell ⟨w.heap.size, 0, none⟩ (.slice qn xs.length xn)).setCell ⟨w.heap.size, 1, none⟩ (.slice qx xs.length xx)).heap[w.heap.size]? = some (.cells #[.slice qn xs.length xn, .slice qx xs.length xx] 78 (0, 0))) := heap_setCell_same _ w.heap.size 1 _ _ _ (heap_setCell_same wr w.heap.size 0 _ _ _ hr)
      clear HC HX HR hbr ha hx hr
      go_wp2_with fail
      have F1 := HD.out
      have F2 := HB2.out
      have F3 := HX2.out
      generalize ((wr.setCell ⟨w.heap.size, 0, none⟩ (.slice qn xs.length xn)).setCell ⟨w.heap.size, 1, none⟩ (.slice qx xs.length xx)) = W9 at F1 F2 F3 ⊢
      have o0 := vblk_cell F3 0
      have o1 := vblk_cell F3 1
      simp only [List.getElem?_toArray, List.getElem?_cons_succ, List.getElem?_cons_zero] at o0 o1
      clear HD HB2 HX2 c0 c1 r0 r1 fz
      have HI : Hid (GrIn (Ow w.heap.size W9.heap.size) W9 (.slice qn xs.length xn) (.slice qx xs.length xx) (xs.map (·.name)) (xs.map (·.uses))) := (F1.grIn (by simp) (by rw [List.length_map]; omega) (fun ss hs => by obtain ⟨d, hd, rfl⟩ := List.mem_map.1 hs; exact hwe d hd)).mono (Ow.mono (by omega) (Nat.le_refl _))
      refine bodyPost_ret (v := .agg #[.slice qn xs.length xn, .slice qx xs.length xx]) (by simp [results, Try.results51, go_sem, o0, o1]) rfl ⟨_, _, rfl, HI.out, F2⟩
end Go.Proofs.Ytbhedlobiagngaa

/-! What is reached, told plainly, and the search that the specification makes; then its walk: contracts for the walks; conditions: the graph lies in memory, what can be reached is among at most 2 to the 21 names. -/
namespace Go.Proofs.Ytbhedlobiagngaa
open Go.RowKit
set_option linter.unusedSimpArgs false
set_option linter.unusedVariables false

/-- What is reached from a name. -/
inductive Rch (nx : ByteArray → List ByteArray) (s : ByteArray) : ByteArray → Prop
  | one {x : ByteArray} : x ∈ nx s → Rch nx s x
  | step {y x : ByteArray} : Rch nx s y → x ∈ nx y → Rch nx s x
/-- While the search goes on: what is out, and what is left to look at. -/
structure RchInv (nx : ByteArray → List ByteArray) (s : ByteArray) (out left : List ByteArray) : Prop where
  nd : out.Nodup
  o : ∀ x ∈ out, Rch nx s x
  l : ∀ x ∈ left, Rch nx s x
  s : ∀ x ∈ nx s, x ∈ out ∨ x ∈ left
  c : ∀ y ∈ out, ∀ x ∈ nx y, x ∈ out ∨ x ∈ left
theorem RchInv.start (nx : ByteArray → List ByteArray) (s : ByteArray) : RchInv nx s [] (nx s) := ⟨List.nodup_nil, fun x h => (nomatch h), fun x h => .one h, fun x h => .inr h, fun y h => (nomatch h)⟩
theorem RchInv.old {nx : ByteArray → List ByteArray} {s x : ByteArray} {out left : List ByteArray} (h : RchInv nx s out (x :: left)) (hx : x ∈ out) : RchInv nx s out left := by
  have f : ∀ y, (y ∈ out ∨ y ∈ x :: left) → y ∈ out ∨ y ∈ left := fun y hy => by
    rcases hy with hy | hy
    · exact .inl hy
    · rcases List.mem_cons.1 hy with rfl | hy
      · exact .inl hx
      · exact .inr hy
  exact ⟨h.nd, h.o, fun y hy => h.l y (by simp [hy]), fun y hy => f y (h.s y hy), fun z hz y hy => f y (h.c z hz y hy)⟩
theorem RchInv.new {nx : ByteArray → List ByteArray} {s x : ByteArray} {out left : List ByteArray} (h : RchInv nx s out (x :: left)) (hx : x ∉ out) : RchInv nx s (out ++ [x]) (left ++ nx x) := by
  have hr := h.l x (by simp)
  have f : ∀ y, (y ∈ out ∨ y ∈ x :: left) → y ∈ out ++ [x] ∨ y ∈ left ++ nx x := fun y hy => by
    rcases hy with hy | hy
    · exact .inl (by simp [hy])
    · rcases List.mem_cons.1 hy with rfl | hy
      · exact .inl (by simp)
      · exact .inr (by simp [hy])
  refine ⟨?_, fun y hy => ?_, fun y hy => ?_, fun y hy => f y (h.s y hy), fun z hz y hy => ?_⟩
  · rw [List.nodup_append]
    exact ⟨h.nd, by simp, fun a ha b hb e => by simp at hb; subst hb; subst e; exact hx ha⟩
  · rcases List.mem_append.1 hy with hy | hy
    · exact h.o y hy
    · simp at hy; subst hy; exact hr
  · rcases List.mem_append.1 hy with hy | hy
    · exact h.l y (by simp [hy])
    · exact .step hr hy
  · rcases List.mem_append.1 hz with hz | hz
    · exact f y (h.c z hz y hy)
    · simp at hz; subst hz; exact .inr (by simp [hy])
theorem RchInv.all {nx : ByteArray → List ByteArray} {s : ByteArray} {out : List ByteArray} (h : RchInv nx s out []) (x : ByteArray) : x ∈ out ↔ Rch nx s x := by
  constructor
  · exact h.o x
  · intro hr
    induction hr with
    | one hx => exact (h.s _ hx).elim id fun e => nomatch e
    | step _ hx ih => exact (h.c _ ih _ hx).elim id fun e => nomatch e
theorem RchInv.few {nx : ByteArray → List ByteArray} {s : ByteArray} {out left : List ByteArray} (h : RchInv nx s out left) {T : List ByteArray} (hT : ∀ x, Rch nx s x → x ∈ T) : out.length ≤ T.length := by
  classical
  exact nodup_sub_len out T h.nd (fun x hx => hT x (h.o x hx))

theorem owns_someR {w : World} {lo n g1 g2 : Nat} {e : TypeId} {v : Value} {xs : List Value} (h : w.ownsRow lo e 1 v n xs) (hl : v.ownBlock = some g1 ∨ v.ownBlock = some g2) : ∃ g cap, v = .slice (some ⟨g, 0, none⟩) n cap ∧ (g = g1 ∨ g = g2) := by
  rcases h.2 with ⟨rfl, _⟩ | ⟨g, cap, _, rfl, _⟩
  · rcases hl with h | h <;> cases h
  · refine ⟨g, cap, rfl, ?_⟩
    rcases hl with h | h
    · exact .inl (Option.some.inj h)
    · exact .inr (Option.some.inj h)
theorem owns_cap {w : World} {lo n g cap : Nat} {e : TypeId} {xs : List Value} (h : w.ownsRow lo e 1 (.slice (some ⟨g, 0, none⟩) n cap) n xs) : n ≤ cap := by
  rcases h.2 with ⟨h1, _⟩ | ⟨g', cap', _, h1, _, _, h2, _⟩
  · cases h1
  · injection h1 with _ _ h3
    omega

set_option maxHeartbeats 16000000 in
set_option maxRecDepth 100000 in
theorem l11Reach_c (S : Nat → Prop) (vn vx : Value) (ns : List ByteArray) (nx : List (List ByteArray)) (s : ByteArray) (T : List ByteArray) (w : World) (hg : GrIn S w vn vx ns nx) (hB : ∀ b, S b → b < w.heap.size) (hT : ∀ x, Rch (nextS ns nx) s x → x ∈ T) (hTl : T.length ≤ 1048576) :
    Calls Try.prog 49 #[.agg #[vn, vx], .string s] w fun e w' => ∃ (u : Value) (ys : List ByteArray), e = .returned u ∧ w'.ownsRow w.heap.size 9 1 u ys.length (strsV ys) ∧ risesS ys ∧ (∀ x, x ∈ ys ↔ Rch (nextS ns nx) s x) ∧ ys.length ≤ 1048576 ∧ Below w.heap.size w w' := by
  obtain ⟨i0, hi0, hz0, hz1, hz2⟩ := info_parts infoS
  obtain ⟨ax, cx, hvx, _⟩ := id hg.next
  obtain ⟨an, cn, hvn, _⟩ := id hg.names
  rw [length_strsV] at hvn
  have HN : Hid (∀ w1 x, Below w.heap.size w w1 → Calls Try.prog 74 #[.agg #[vn, vx], .string x] w1 fun e w' => ∃ u, e = .returned u ∧ StrsOwn (fun b => S b ∨ Ow w1.heap.size w'.heap.size b) w' u (nextS ns nx x) ∧ (nextS ns nx x).length ≤ 1048576 ∧ Below w1.heap.size w1 w') := fun w1 x h => l11Next_c S vn vx ns nx x w1 (hg.keep (.of h hB)) (fun b hb => Nat.lt_of_lt_of_le (hB b hb) h.size)
  subst hvn hvx
  obtain ⟨F, hF⟩ : ∃ F, F = nextS ns nx := ⟨_, rfl⟩
  rw [← hF] at HN hT ⊢
  clear hF hg
  have k1 : Below w.heap.size w (w.alloc (.cells #[.slice an ns.length cn, .slice ax nx.length cx] 78)) := (Below.refl _ _).alloc (Nat.le_refl _) _
  have hx0 : (w.alloc (.cells #[.slice an ns.length cn, .slice ax nx.length cx] 78)).heap[w.heap.size]? = some (.cells #[.slice an ns.length cn, .slice ax nx.length cx] 78 (0, 0)) := vheap_new _ _
  have z0 : (w.alloc (.cells #[.slice an ns.length cn, .slice ax nx.length cx] 78)).heap.size = w.heap.size + 1 := by simp
  obtain ⟨A0, hA0⟩ : ∃ A, A = (w.alloc (.cells #[.slice an ns.length cn, .slice ax nx.length cx] 78)).alloc (.cells #[] 9) := ⟨_, rfl⟩
  obtain ⟨A1, hA1⟩ : ∃ A, A = A0.alloc (.cells #[] 9) := ⟨_, rfl⟩
  have zA0 : A0.heap.size = w.heap.size + 2 := by rw [hA0]; simp
  have kA0 : Below w.heap.size w A0 := by rw [hA0]; exact k1.alloc (by rw [z0]; omega) _
  have kA1 : Below w.heap.size w A1 := by rw [hA1]; exact kA0.alloc (by omega) _
  have xA1 : A1.heap[w.heap.size]? = some (.cells #[.slice an ns.length cn, .slice ax nx.length cx] 78 (0, 0)) := by rw [hA1, vheap_old _ _ (by omega), hA0, vheap_old _ _ (by rw [z0]; omega)]; exact hx0
  have oA : A1.ownsRow (w.heap.size + 1) 9 1 (.slice (some ⟨w.heap.size + 1, 0, none⟩) 0 0) 0 [] := by
    have := World.ownsRow_lit (base := w.heap.size + 1) (e := 9) (size := 1) (w.alloc (.cells #[.slice an ns.length cn, .slice ax nx.length cx] 78)) #[] 0 (by rw [z0]; omega) (by unfold maxLen; omega) rfl
    rw [z0, ← hA0] at this
    rw [hA1]
    exact this.alloc _
  have oB : A1.ownsRow (w.heap.size + 1) 9 1 (.slice (some ⟨w.heap.size + 1 + 1, 0, none⟩) 0 0) 0 [] := by
    have := World.ownsRow_lit (base := w.heap.size + 1) (e := 9) (size := 1) A0 #[] 0 (by omega) (by unfold maxLen; omega) rfl
    rw [zA0, ← hA1] at this
    exact this
  have zA1 : A1.heap.size = w.heap.size + 3 := by rw [hA1]; simp [zA0]
  have c0 : A1.cell? ⟨w.heap.size, 0, none⟩ = some (.slice an ns.length cn) := vblk_cell xA1 0
  have c1 : A1.cell? ⟨w.heap.size, 1, none⟩ = some (.slice ax nx.length cx) := vblk_cell xA1 1
  have HN0 := hidden (HN.out A1 s kA1)
  have HA : Hid (((w.alloc (.cells #[.slice an ns.length cn, .slice ax nx.length cx] 78)).alloc (.cells #[] 9)).alloc (.cells #[] 9) = A1) := by show _ = _; rw [hA1, hA0]
  clear k1 hx0 z0 hA0 hA1 kA0
  have HC0 := hidden c0
  have HC1 := hidden c1
  clear c0 c1
  go_enter Try.func49, Try.ntmps49
  go_wp2_with fail
  rw [HA.out]
  go_at_call 74
  refine HN0.out.mono ?_
  rintro e w1 ⟨u, rfl, hu, hul, b1⟩
  have k1 : Below w.heap.size w w1 := kA1.trans (b1.mono (by omega))
  have oA1 := owns_of_belowN oA b1
  have oB1 := owns_of_belowN oB b1
  have xx1 := (b1.block w.heap.size (by omega)).trans xA1
  obtain ⟨qu, cu, eu⟩ := owns_slG hu.1
  subst eu
  have hus := hu.1
  have hz9 : w.heap.size + 3 ≤ w1.heap.size := by have := b1.size; omega
  clear HN0 HA oA oB kA1 b1 xA1 HC0 HC1 hu
  go_wp2_with (at_builtin; refine apR rfl _ _ 26 rfl (w.heap.size + 1) 9 i0 (.string ⟨#[]⟩) 1 16 Try.underlying26 hi0 hz0 hz1 hz2 rfl (by decide) (w.heap.size + 1 + 1) 0 0 [] rfl oB1 _ _ 0 (strsV (F s)) rfl hus (strs_oneCell _) (by unfold maxLen; omega) (by omega) (by omega) ?_)
  intro v2 w2 o2 gr2 hl2
  obtain ⟨gl, cl, e2, hgl⟩ := owns_someR o2 hl2
  subst e2
  have k2 : Below w.heap.size w w2 := Below.grown k1 gr2 (by omega) (fun j hj => by have := Option.some.inj hj; omega)
  have oA2 := oA1.kept gr2 (.inr (fun e => by have h9 : w.heap.size + 1 = w.heap.size + 1 + 1 := Option.some.inj e; omega))
  have HX2 := hidden ((gr2.block w.heap.size (by omega) (fun e => by have := Option.some.inj e; omega)).trans xx1)
  have hgne : w.heap.size + 1 ≠ gl := by omega
  clear oA1 oB1 xx1 gr2 hl2 hus k1
  go_wp2_with fail
  go_loopw [5, 6] (fun vo vl wr => ∃ (out left : List ByteArray) (go gl co cl : Nat), vo = .slice (some ⟨go, 0, none⟩) out.length co ∧ vl = .slice (some ⟨gl, 0, none⟩) left.length cl ∧ wr.ownsRow (w.heap.size + 1) 9 1 (.slice (some ⟨go, 0, none⟩) out.length co) out.length (strsV out) ∧ wr.ownsRow (w.heap.size + 1) 9 1 (.slice (some ⟨gl, 0, none⟩) left.length cl) left.length (strsV left) ∧ go ≠ gl ∧ out.length ≤ 1048576 ∧ left.length ≤ (out.length + 1) * 1048576 ∧ Hid (RchInv F s out left) ∧ Hid (wr.heap[w.heap.size]? = some (.cells #[.slice an ns.length cn, .slice ax nx.length cx] 78 (0, 0))) ∧ Below w.heap.size w wr) (fun vo vl _ => (1048577 - slLen vo) * 1048577 + slLen vl)
  case atStart => exact ⟨[], F s, w.heap.size + 1, gl, 0, cl, rfl, rfl, oA2, o2, hgne, by simp, by simpa using hul, RchInv.start F s, HX2, k2⟩
  case round =>
    clear oA2 o2 HX2 k2 hgne
    obtain ⟨out, left, go, gl, co, cl, rfl, rfl, oo, ol, hne, hol, hll, HI, HX, hbr⟩ := hrel
    have hgo := oo.lt go rfl
    have hgl := ol.lt gl rfl
    rcases left with _ | ⟨x, rest⟩
    · have HS := hidden (specSorted_c (.slice (some ⟨go, 0, none⟩) out.length co) out wr (reads_of_owns oo) (by omega))
      have HM := hidden (HI.out.all)
      have hbs := hbr.size
      clear HI
      go_wp2_with (go_at_call 42; refine HS.out.mono ?_; rintro e w3 ⟨u3, zs, rfl, o3, hr3, hm3, hl3, b3⟩)
      go_ret
      exact ⟨u3, zs, rfl, owns_lo hbr.size o3, hr3, fun y => by rw [hm3 y, HM.out y], by omega, hbr.trans (b3.mono hbr.size)⟩
    · rw [List.length_cons] at hll ol ⊢
      have hlp : ((0 : Int)) < ((rest.length + 1 : Nat) : Int) := by omega
      have cx0 : wr.cell? ⟨gl, 0, none⟩ = some (.string x) := by rw [ol.cellAt 0 (by omega)]; rfl
      have hrest : ∀ j u, (strsV rest)[j]? = some u → wr.cell? ⟨gl, 1 + j, none⟩ = some u := fun j u hu => by
        have hj := (List.getElem?_eq_some_iff.1 hu).1
        rw [length_strsV] at hj
        rw [ol.cellAt (1 + j) (by omega), show strsV (x :: rest) = .string x :: strsV rest from rfl, Nat.add_comm, List.getElem?_cons_succ]
        exact hu
      have HRS := hidden hrest
      have hcap : rest.length + 1 ≤ cl := owns_cap ol
      have hzE0 := hbr.size
      have oE : (wr.alloc (.cells #[] 9)).ownsRow (w.heap.size + 1) 9 1 (.slice (some ⟨wr.heap.size, 0, none⟩) 0 0) 0 [] := World.ownsRow_lit wr #[] 0 (by omega) (by unfold maxLen; omega) rfl
      have hzE : w.heap.size + 1 ≤ (wr.alloc (.cells #[] 9)).heap.size := by simp; omega
      have MEET : Hid (∀ w6, (wr.alloc (.cells #[] 9)).grownBy w6 (some wr.heap.size) → ∀ {g6 c6 : Nat}, (g6 = wr.heap.size ∨ g6 = wr.heap.size + 1) → w6.ownsRow (w.heap.size + 1) 9 1 (.slice (some ⟨g6, 0, none⟩) rest.length c6) rest.length (strsV rest) → Hid (w6.ownsRow (w.heap.size + 1) 9 1 (.slice (some ⟨g6, 0, none⟩) rest.length c6) rest.length (strsV rest)) ∧ go ≠ g6 ∧ Hid (w6.ownsRow (w.heap.size + 1) 9 1 (.slice (some ⟨go, 0, none⟩) out.length co) out.length (strsV out)) ∧ Hid (w6.heap[w.heap.size]? = some (.cells #[.slice an ns.length cn, .slice ax nx.length cx] 78 (0, 0))) ∧ Hid (Below w.heap.size w w6)) := fun w6 gr g6 c6 hg o => by
        have hxl := (Array.getElem?_eq_some_iff.1 HX.out).1
        refine ⟨o, ?_, (oo.alloc _).kept gr (.inr (fun e => by have h9 : go = wr.heap.size := Option.some.inj e; omega)), (gr.block w.heap.size (by simp; omega) (fun e => by have := Option.some.inj e; omega)).trans ((vheap_old _ _ hxl).trans HX.out), Below.grown (hbr.alloc hbr.size _) gr (by simp; omega) (fun j hj => by have := Option.some.inj hj; omega)⟩
        rcases hg with h | h
        · omega
        · omega
      go_upto_region 5 with fail
      go_cut [6] (fun v6 wc => ∃ g6 c6 : Nat, v6 = .slice (some ⟨g6, 0, none⟩) rest.length c6 ∧ Hid (wc.ownsRow (w.heap.size + 1) 9 1 (.slice (some ⟨g6, 0, none⟩) rest.length c6) rest.length (strsV rest)) ∧ go ≠ g6 ∧ Hid (wc.ownsRow (w.heap.size + 1) 9 1 (.slice (some ⟨go, 0, none⟩) out.length co) out.length (strsV out)) ∧ Hid (wc.heap[w.heap.size]? = some (.cells #[.slice an ns.length cn, .slice ax nx.length cx] 78 (0, 0))) ∧ Hid (Below w.heap.size w wc))
      case first =>
        by_cases hc1 : cl = 1
        · subst hc1
          have hr0 : rest = [] := List.eq_nil_of_length_eq_zero (by omega)
          subst hr0
          have HSX : Hid (∀ j u, (strsV ([] : List ByteArray))[j]? = some u → (wr.alloc (.cells #[] 9)).cell? ((⟨gl, 0, none⟩ : Addr).add j) = some u) := fun j u hu => by simp [strsV] at hu
          go_wp2_with (at_builtin; refine apA rfl _ _ 26 rfl (w.heap.size + 1) 9 i0 (.string ⟨#[]⟩) 1 16 Try.underlying26 hi0 hz0 hz1 hz2 rfl (by decide) wr.heap.size 0 0 [] rfl oE ⟨gl, 0, none⟩ 0 _ (strsV []) rfl (by rw [length_strsV]; omega) (fun j u hu => HSX.out j u hu) (strs_oneCell []) (by unfold maxLen; omega) (by omega) hzE ?_)
          intro v6 w6 o6 gr6 hl6
          obtain ⟨g6, c6, e6, hg6⟩ := owns_someR (n := 0) (xs := strsV []) (by simpa using o6) hl6
          subst e6
          have k6 := MEET.out _ gr6 hg6 (by simpa using o6)
          clear gr6 hl6 o6
          go_wp2_with fail
          go_meet
          case rel => exact ⟨g6, c6, rfl, k6.1, k6.2.1, k6.2.2.1, k6.2.2.2.1, k6.2.2.2.2⟩
        · have HSX : Hid (∀ j u, (strsV rest)[j]? = some u → (wr.alloc (.cells #[] 9)).cell? ((⟨gl, 1, none⟩ : Addr).add j) = some u) := fun j u hu => by
            rw [show ((⟨gl, 1, none⟩ : Addr).add j) = ⟨gl, 1 + j, none⟩ by unfold Addr.add; split <;> simp_all, World.cell?_of_block (w := wr) (vheap_old wr _ (by show gl < _; omega))]
            exact HRS.out j u hu
          go_wp2_with (at_builtin; refine apA rfl _ _ 26 rfl (w.heap.size + 1) 9 i0 (.string ⟨#[]⟩) 1 16 Try.underlying26 hi0 hz0 hz1 hz2 rfl (by decide) wr.heap.size 0 0 [] rfl oE ⟨gl, 1, none⟩ rest.length _ (strsV rest) rfl (by rw [length_strsV]; omega) (fun j u hu => HSX.out j u hu) (strs_oneCell rest) (by unfold maxLen; omega) (by omega) hzE ?_)
          intro v6 w6 o6 gr6 hl6
          obtain ⟨g6, c6, e6, hg6⟩ := owns_someR (n := rest.length) (xs := strsV rest) (by simpa using o6) hl6
          subst e6
          have k6 := MEET.out _ gr6 hg6 (by simpa using o6)
          clear gr6 hl6 o6
          go_wp2_with fail
          go_meet
          case rel => exact ⟨g6, c6, rfl, k6.1, k6.2.1, k6.2.2.1, k6.2.2.2.1, k6.2.2.2.2⟩
      case rest =>
        obtain ⟨g6, c6, rfl, HL6, hne6, HO6, HX6, HB6⟩ := hcut
        have HHas := hidden (has_c (.slice (some ⟨go, 0, none⟩) out.length co) out x wc (reads_of_owns HO6.out) (by omega))
        have hgo6 := HO6.out.lt go rfl
        have hgl6 := HL6.out.lt g6 rfl
        have hx6l := (Array.getElem?_eq_some_iff.1 HX6.out).1
        clear MEET oE hzE oo ol HX hbr hrest HRS cx0 hgo hgl hne
        obtain ⟨hh, hhd⟩ : ∃ hh, hh = hasS out x := ⟨_, rfl⟩
        rw [← hhd] at HHas
        cases hh with
        | true =>
          have HI2 : Hid (RchInv F s out rest) := HI.out.old ((hasS_iff out x).1 hhd.symm)
          clear HI hhd
          go_wp2_with (go_at_call 41; refine HHas.out.mono ?_; rintro e w7 ⟨rfl, rfl⟩)
          go_roundw
          case rel => exact ⟨out, rest, go, g6, co, c6, rfl, rfl, HO6.out, HL6.out, hne6, hol, by omega, HI2, HX6, HB6.out⟩
          case measure => simp only [slLen]; omega
        | false =>
          have hxo : x ∉ out := fun h => by rw [(hasS_iff out x).2 h] at hhd; cases hhd
          have HI2 : Hid (RchInv F s (out ++ [x]) (rest ++ F x)) := HI.out.new hxo
          have hfew2 : out.length + 1 ≤ 1048576 := by have := HI2.out.few hT; rw [List.length_append, List.length_singleton] at this; omega
          have hb6s := HB6.out.size
          clear HI hhd hxo
          go_wp2_with (first
            | (go_at_call 41; refine HHas.out.mono ?_; rintro e w7 ⟨rfl, rfl⟩)
            | (at_builtin; refine apA rfl _ _ 26 rfl (w.heap.size + 1) 9 i0 (.string ⟨#[]⟩) 1 16 Try.underlying26 hi0 hz0 hz1 hz2 rfl (by decide) go out.length co (strsV out) rfl (HO6.out.alloc _) ⟨wc.heap.size, 0, none⟩ 1 1 (strsV [x]) rfl rfl (cell_one_new _ _ _) (fun u hu => by simp [strsV] at hu; subst hu; rfl) (by unfold maxLen; omega) (by omega) (by simp; omega) ?_))
          intro v7 w7 o7 gr7 hl7
          obtain ⟨g7, c7, e7, hg7⟩ := owns_someR o7 hl7
          subst e7
          have o7' : w7.ownsRow (w.heap.size + 1) 9 1 (.slice (some ⟨g7, 0, none⟩) (out.length + 1) c7) (out.length + 1) (strsV (out ++ [x])) := by
            have hst : strsV out ++ strsV [x] = strsV (out ++ [x]) := by simp [strsV]
            rw [← hst]; exact o7
          have l7 := (HL6.out.alloc (.cells #[.string x] 9)).kept gr7 (.inr (fun e => by have h9 : g6 = go := Option.some.inj e; omega))
          have b7 : Below w.heap.size w w7 := Below.grown (HB6.out.alloc hb6s _) gr7 (by simp; omega) (fun j hj => by have h9 : go = j := Option.some.inj hj; omega)
          have x7 := (gr7.block w.heap.size (by simp; omega) (fun e => by have h9 : w.heap.size = go := Option.some.inj e; omega)).trans ((vheap_old _ _ hx6l).trans HX6.out)
          have hg76 : g7 ≠ g6 := by omega
          have hsz7 : wc.heap.size + 1 ≤ w7.heap.size := by have := gr7.size; simpa using this
          clear o7 gr7 hl7 HL6 HO6 HX6 HB6 HHas hgo6
          have HN7 := hidden (HN.out w7 x b7)
          have y0 : w7.cell? ⟨w.heap.size, 0, none⟩ = some (.slice an ns.length cn) := vblk_cell x7 0
          have y1 : w7.cell? ⟨w.heap.size, 1, none⟩ = some (.slice ax nx.length cx) := vblk_cell x7 1
          go_wp2_with fail
          go_at_call 74
          refine HN7.out.mono ?_
          rintro e w8 ⟨u8, rfl, hu8, hul8, b8⟩
          have k8 : Below w.heap.size w w8 := b7.trans (b8.mono b7.size)
          have o8 := owns_of_belowN o7' b8
          have l8 := owns_of_belowN l7 b8
          have x8 := (b8.block w.heap.size (by omega)).trans x7
          obtain ⟨q8, c8, e8⟩ := owns_slG hu8.1
          subst e8
          have hus8 := hu8.1
          have hz8 := b8.size
          have hz8b := k8.size
          have hlt7 := o7'.lt g7 rfl
          have hlt8 := o8.lt g7 rfl
          clear HN7 b8 hu8 o7' l7 x7 b7 y0 y1
          go_wp2_with (at_builtin; refine apR rfl _ _ 26 rfl (w.heap.size + 1) 9 i0 (.string ⟨#[]⟩) 1 16 Try.underlying26 hi0 hz0 hz1 hz2 rfl (by decide) g6 rest.length c6 (strsV rest) rfl l8 _ _ 0 (strsV (F x)) rfl hus8 (strs_oneCell _) (by unfold maxLen; omega) (by omega) (by omega) ?_)
          intro v9 w9 o9 gr9 hl9
          obtain ⟨g9, c9, e9, hg9⟩ := owns_someR o9 hl9
          subst e9
          have l9 : w9.ownsRow (w.heap.size + 1) 9 1 (.slice (some ⟨g9, 0, none⟩) (rest.length + (F x).length) c9) (rest ++ F x).length (strsV (rest ++ F x)) := by
            have hst : strsV rest ++ strsV (F x) = strsV (rest ++ F x) := by simp [strsV]
            rw [List.length_append, ← hst]; exact o9
          have o99 := o8.kept gr9 (.inr (fun e => by have h9 : g7 = g6 := Option.some.inj e; omega))
          have o9' : w9.ownsRow (w.heap.size + 1) 9 1 (.slice (some ⟨g7, 0, none⟩) (out.length + 1) c7) (out ++ [x]).length (strsV (out ++ [x])) := by rw [List.length_append, List.length_singleton]; exact o99
          have b9 : Below w.heap.size w w9 := Below.grown k8 gr9 (by omega) (fun j hj => by have h9 : g6 = j := Option.some.inj hj; omega)
          have x9 := (gr9.block w.heap.size (by omega) (fun e => by have h9 : w.heap.size = g6 := Option.some.inj e; omega)).trans x8
          have hg79 : g7 ≠ g9 := by omega
          have HX9 := hidden x9
          clear o9 gr9 hl9 o8 l8 x8 o99 x9
          go_wp2_with fail
          go_roundw
          case rel => exact ⟨out ++ [x], rest ++ F x, g7, g9, c7, c9, by rw [List.length_append, List.length_singleton], by rw [List.length_append], by rw [List.length_append, List.length_singleton] at o9' ⊢; exact o9', by rw [List.length_append] at l9 ⊢; exact l9, hg79, by rw [List.length_append, List.length_singleton]; omega, by rw [List.length_append, List.length_append, List.length_singleton]; omega, HI2, HX9, b9⟩
          case measure => simp only [slLen]; omega
end Go.Proofs.Ytbhedlobiagngaa
