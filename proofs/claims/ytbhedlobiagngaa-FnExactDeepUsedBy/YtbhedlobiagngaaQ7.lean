/-
  Contracts for the walks, several texts in one: each part says what it proves, and under which conditions.
-/
import Derived.Maps.AppendAt
import Derived.Deep.RegionHeld
import Derived.Test.YtbhedlobiagngaaQ6
import Derived.Test.YtbhedlobiagngaaQ5
import Derived.Test.YtbhedlobiagngaaQ4
import Derived.Test.YtbhedlobiagngaaQ1

/-! What leans on a pack, deep, as the specification answers it: a contract for the walks; conditions: the packs lie in memory, and hold at most 2 to the 20. -/
namespace Go.Proofs.Ytbhedlobiagngaa
open Go.RowKit Go.Maps
set_option linter.unusedSimpArgs false
set_option linter.unusedVariables false

theorem idxS_neg2 (ns : List ByteArray) (x : ByteArray) : ¬ idxS ns x < 0 → x ∈ ns := fun h => Classical.byContradiction fun hn => h (by
  rw [idxS_none (fun j hj e => hn (by rw [← e]; exact List.getElem_mem hj))]
  omega)
/-- Who uses a name, ascending. -/
def usedL (xs : List PackD) (s : ByteArray) : List ByteArray := sortedS (usersL xs s)
theorem mem_usedL {xs : List PackD} {s x : ByteArray} : x ∈ usedL xs s ↔ ∃ d ∈ xs, s ∈ d.uses ∧ d.name = x := by unfold usedL; rw [sortedS_mem, mem_usersL]
theorem usedL_len {xs : List PackD} (s : ByteArray) : (usedL xs s).length ≤ xs.length := by
  have h1 := usersL_len xs s
  unfold usedL sortedS
  rw [List.length_map]
  have := compact_len (sortL ((usersL xs s).map bytesL))
  rw [sortL_len, List.length_map] at this
  omega
theorem nextS_map (N : List ByteArray) (f : ByteArray → List ByteArray) (y : ByteArray) (hy : y ∈ N) : nextS N (N.map f) y = f y := by
  have hl : N.findIdx (fun d => decide (d = y)) < N.length := List.findIdx_lt_length.2 ⟨y, hy, by simp⟩
  have hg : N[N.findIdx (fun d => decide (d = y))] = y := of_decide_eq_true (List.findIdx_getElem (xs := N) (p := fun d => decide (d = y)) (w := hl))
  unfold nextS idxS
  rw [if_pos hl, if_neg (by omega)]
  simp [hl, hg]
theorem nextS_out (N : List ByteArray) (nx : List (List ByteArray)) (y : ByteArray) (hy : y ∉ N) : nextS N nx y = [] := by
  unfold nextS
  rw [idxS_none (fun j hj e => hy (by rw [← e]; exact List.getElem_mem hj)), if_pos (by omega)]
theorem rch_map {N : List ByteArray} {f : ByteArray → List ByteArray} {s : ByteArray} (hs : s ∈ N) (hf : ∀ y x, x ∈ f y → x ∈ N) (x : ByteArray) : Rch (nextS N (N.map f)) s x ↔ Rch f s x := by
  constructor
  · intro h
    induction h with
    | one hx => rw [nextS_map N f s hs] at hx; exact .one hx
    | @step y x hy hx ih =>
      by_cases hm : y ∈ N
      · rw [nextS_map N f y hm] at hx; exact .step ih hx
      · rw [nextS_out N _ y hm] at hx; cases hx
  · intro h
    have key : Rch (nextS N (N.map f)) s x ∧ x ∈ N := by
      induction h with
      | one hx => exact ⟨.one (by rw [nextS_map N f s hs]; exact hx), hf _ _ hx⟩
      | step hy hx ih => exact ⟨.step ih.1 (by rw [nextS_map N f _ ih.2]; exact hx), hf _ _ hx⟩
    exact key.1
theorem usedL_names {xs : List PackD} (y x : ByteArray) (h : x ∈ usedL xs y) : x ∈ xs.map (·.name) := by
  obtain ⟨d, hd, _, rfl⟩ := mem_usedL.1 h
  exact List.mem_map.2 ⟨d, hd, rfl⟩
theorem rch_names {xs : List PackD} {s x : ByteArray} (h : Rch (usedL xs) s x) : x ∈ xs.map (·.name) := by
  cases h with
  | one h => exact usedL_names _ _ h
  | step _ h => exact usedL_names _ _ h
open Classical in
/-- All that lean on a name, deep. -/
noncomputable def deepBy (xs : List PackD) (s : ByteArray) : List ByteArray := sortedS ((xs.map (·.name)).filter fun x => decide (Rch (usedL xs) s x))
theorem mem_deepBy {xs : List PackD} {s x : ByteArray} : x ∈ deepBy xs s ↔ Rch (usedL xs) s x := by
  unfold deepBy
  rw [sortedS_mem, List.mem_filter]
  constructor
  · intro h; simpa using h.2
  · intro h; exact ⟨rch_names h, by simpa using h⟩
theorem deepBy_rises (xs : List PackD) (s : ByteArray) : risesS (deepBy xs s) := sortedS_rises _

set_option maxHeartbeats 16000000 in
set_option maxRecDepth 100000 in
theorem specDeepBy_c (S : Nat → Prop) (v : Value) (xs : List PackD) (s : ByteArray) (w : World) (hv : RowIn shPack S w v xs) (hB : ∀ b, S b → b < w.heap.size) (hw : wtRow wtPack xs ≤ 1048576) :
    Calls Try.prog 24 #[v, .string s] w fun e w' => ∃ u, e = .returned u ∧ w'.ownsRow w.heap.size 9 1 u (deepBy xs s).length (strsV (deepBy xs s)) ∧ Below w.heap.size w w' := by
  obtain ⟨iS, hiS, hzS0, hzS1, hzS2⟩ := info_parts infoS
  obtain ⟨iT, hiT, hzT0, hzT1, hzT2⟩ := info_parts infoSs
  have hl2 := len_wtRow wtPack xs
  have hlen : xs.length ≤ 1048576 := by omega
  have HUs : Hid (∀ W x, Below w.heap.size w W → Calls Try.prog 17 #[v, .string x] W fun e w' => ∃ u, e = .returned u ∧ w'.ownsRow W.heap.size 9 1 u (usedL xs x).length (strsV (usedL xs x)) ∧ Below W.heap.size W w') := fun W x h => (specUsedBy_c S v xs x W (hv.keep (.of h hB)) (fun b hb => Nat.lt_of_lt_of_le (hB b hb) h.size) hw).mono (by
    rintro e w' ⟨u, ys, rfl, o, hr, hm, _, hb⟩
    obtain rfl : ys = usedL xs x := risesS_eq hr (sortedS_rises _) (fun y => by rw [hm y]; unfold usedL; rw [sortedS_mem])
    exact ⟨u, rfl, o, hb⟩)
  have HRE : Hid (∀ (W : World) (vn vx : Value) (N : List ByteArray), GrIn (Ow (w.heap.size + 1) W.heap.size) W vn vx N (N.map (usedL xs)) → s ∈ N → (∀ y ∈ xs.map (·.name), y ∈ N) → Below w.heap.size w W → Calls Try.prog 49 #[.agg #[vn, vx], .string s] W fun e w' => ∃ u, e = .returned u ∧ w'.ownsRow w.heap.size 9 1 u (deepBy xs s).length (strsV (deepBy xs s)) ∧ Below w.heap.size w w') := fun W vn vx N hG hsN hsub hb => (l11Reach_c _ vn vx N _ s (xs.map (·.name)) W hG (fun b hb => hb.2) (fun x hx => rch_names ((rch_map hsN (fun y x h => hsub x (usedL_names y x h)) x).1 hx)) (by rw [List.length_map]; exact hlen)).mono (by
    rintro e w' ⟨u, ys, rfl, o, hr, hm, _, hb2⟩
    obtain rfl : ys = deepBy xs s := risesS_eq hr (deepBy_rises xs s) (fun y => by rw [hm y, mem_deepBy, rch_map hsN (fun y x h => hsub x (usedL_names y x h))])
    exact ⟨u, rfl, owns_lo hb.size o, hb.trans (hb2.mono hb.size)⟩)
  have HAt : Hid (∀ (W : World) (vn vx : Value) (N : List ByteArray) (nx : List (List ByteArray)), GrIn (Ow (w.heap.size + 1) W.heap.size) W vn vx N nx → Calls Try.prog 48 #[.agg #[vn, vx], .string s] W fun e w' => e = .returned (.int .i64 (idxS N s)) ∧ Below W.heap.size W w') := fun W vn vx N nx hG => by
    obtain ⟨q, c, e, _⟩ := id hG.next
    exact l11At_c _ vn vx N s W hG.names ⟨_, _, _, e⟩ (fun b hb => hb.2) hG.few
  obtain ⟨a, cap, rfl, hl, hc, ha⟩ := hv
  unfold maxLen at hl
  obtain ⟨FX, hFX⟩ : ∃ F : PackD → List ByteArray, F = fun d => usedL xs d.name := ⟨_, rfl⟩
  have HM1 : Hid (xs.map FX = (xs.map (·.name)).map (usedL xs)) := by show _ = _; rw [hFX, List.map_map]; rfl
  have HM2 : Hid (xs.map FX ++ [usedL xs s] = (xs.map (·.name) ++ [s]).map (usedL xs)) := by show _ = _; rw [hFX, List.map_append, List.map_map]; rfl
  have HFX : Hid (∀ d, FX d = usedL xs d.name) := fun d => by rw [hFX]
  clear hFX hw hl2
  have HW0 : Hid (∀ W, W = w.alloc (.cells #[.slice none 0 0, .slice none 0 0] 78) → GsC (w.heap.size + 1) W (.slice none 0 0) (.slice none 0 0) [] [] [] ∧ W.heap[w.heap.size]? = some (.cells #[.slice none 0 0, .slice none 0 0] 78 (0, 0)) ∧ Below w.heap.size w W) := by
    intro W hW
    subst hW
    exact ⟨⟨World.ownsRow_nil _ _ _ _, World.ownsRow_nil _ _ _ _, fun i u h => (by simp at h), fun i g u h => (by simp at h)⟩, vheap_new _ _, (Below.refl _ _).alloc (Nat.le_refl _) _⟩
  go_enter Try.func24, Try.ntmps24
  go_wp2_with fail
  go_loopw [6] (fun vi wr => ∃ (k : Nat) (vn vx : Value) (vs : List Value), k ≤ xs.length ∧ vi = .int .i64 (k : Int) ∧ Hid (GsC (w.heap.size + 1) wr vn vx vs ((xs.map (·.name)).take k) ((xs.map FX).take k)) ∧ Hid (wr.heap[w.heap.size]? = some (.cells #[vn, vx] 78 (0, 0))) ∧ Below w.heap.size w wr) (fun vi _ => xs.length - (intOf vi).toNat)
  case atStart => exact ⟨0, _, _, [], Nat.zero_le _, rfl, (HW0.out _ rfl).1, (HW0.out _ rfl).2.1, (HW0.out _ rfl).2.2⟩
  case round =>
    clear HW0
    obtain ⟨k, vn, vx, vs, hk, rfl, HC, HX, hbr⟩ := hrel
    obtain ⟨qn, xn, en⟩ := owns_slG HC.out.names
    obtain ⟨qx, xx, ex⟩ := owns_slG HC.out.next
    have lk1 : ((xs.map (·.name)).take k).length = k := by rw [List.length_take, List.length_map]; omega
    have lk2 : ((xs.map FX).take k).length = k := by rw [List.length_take, List.length_map]; omega
    rw [lk1] at en
    rw [lk2] at ex
    subst en ex
    by_cases hlt' : k < xs.length
    · rcases ha with rfl | ⟨b, off, rfl, hlt, ha⟩
      · simp at hlt'
      obtain ⟨cs, hL, hcell⟩ := ha k hlt'
      have HT1 : Hid ((xs.map (·.name)).take (k + 1) = (xs.map (·.name)).take k ++ [xs[k].name]) := by show _ = _; rw [List.take_succ_eq_append_getElem (by rw [List.length_map]; exact hlt'), List.getElem_map]
      have HT2 : Hid ((xs.map FX).take (k + 1) = (xs.map FX).take k ++ [usedL xs xs[k].name]) := by show _ = _; rw [List.take_succ_eq_append_getElem (by rw [List.length_map]; exact hlt'), List.getElem_map, HFX.out]
      obtain ⟨d, hd⟩ : ∃ d, d = xs[k] := ⟨_, rfl⟩
      rw [← hd] at hL HT1 HT2
      obtain ⟨u0, u1, u2, rfl, _⟩ := hL
      have HE0 : Hid (∀ W, Below w.heap.size w W → W.cell? ⟨b, off + k * 4, none⟩ = some (.string d.name)) := fun W h => (hcell.keep (.of h hB) hlt) 0 (by simp)
      have hki : (k : Int) < (xs.length : Int) := by omega
      clear ha hd hcell lk1 lk2
      go_wp2_with fail
      have HK5 : Hid (∀ W : World, W.heap[w.heap.size]? = some (.cells #[.slice qn k xn, .slice qx k xx] 78 (0, 0)) → Below w.heap.size w W → (fun W => W.cell? ⟨w.heap.size, 0, none⟩ = some (.slice qn k xn) ∧ W.cell? ⟨b, off + k * 4, none⟩ = some (.string d.name)) W) := fun W hW hb => ⟨vblk_cell hW 0, HE0.out W hb⟩
      refine till_region (fun W => W.cell? ⟨w.heap.size, 0, none⟩ = some (.slice qn k xn) ∧ W.cell? ⟨b, off + k * 4, none⟩ = some (.string d.name)) 10 (by kernel_rfl) (HK5.out _ HX.out hbr.drew) (fun hHeld => ?_)
      have D0 : GsC (w.heap.size + 1) wr.drew (.slice qn k xn) (.slice qx k xx) vs _ _ := HC.out.new (r := none) (grown_of_below (Below.refl _ _).drew none) (fun q e => by cases e)
      have X0 : wr.drew.heap[w.heap.size]? = some (.cells #[.slice qn k xn, .slice qx k xx] 78 (0, 0)) := HX.out
      have B0 : Below w.heap.size w wr.drew := hbr.drew
      clear HC HX hbr
      generalize wr.drew = W at hHeld D0 X0 B0 ⊢
      refine till_at (k' := 11) (l' := #[false, false, false, false, false, false, false, false, false, false, false]) ?_ (by kernel_rfl) (by kernel_rfl)
      refine tv 0 hHeld (h := ?_)
      refine tu 1 hHeld (h := ?_)
      refine tv 2 hHeld (h := ?_)
      refine tv 3 hHeld (h := ?_)
      refine tv 4 hHeld (h := ?_)
      refine tv 5 hHeld (h := ?_)
      refine tu 6 hHeld (h := ?_)
      have hsW : w.heap.size + 1 ≤ W.heap.size := by have := (Array.getElem?_eq_some_iff.1 X0).1; omega
      refine till_ready (rs := [7]) (by kernel_rfl) (by simp) ?_
      refine AllTill.cons rfl rfl (fun K hK => ?_) AllTill.nil
      go_simp
      have B1 : Below w.heap.size w (W.alloc (.cells #[.string d.name] 9)) := B0.alloc (by omega) _
      have X1 : (W.alloc (.cells #[.string d.name] 9)).heap[w.heap.size]? = some (.cells #[.slice qn k xn, .slice qx k xx] 78 (0, 0)) := (vheap_old W _ (by omega)).trans X0
      have D1 := D0.new (World.grownBy_alloc W (.cells #[.string d.name] 9) none) (fun q e => by cases e)
      have A1 : (W.alloc (.cells #[.string d.name] 9)).ownsRow (w.heap.size + 1) 9 1 (.slice (some ⟨W.heap.size, 0, none⟩) 1 1) 1 (strsV [d.name]) := World.ownsRow_lit W #[.string d.name] 1 hsW (by unfold maxLen; omega) rfl
      have hs1 : w.heap.size + 1 ≤ (W.alloc (.cells #[.string d.name] 9)).heap.size := by simp; omega
      refine hK.out _ _ (fun _ => HK5.out _ X1 B1) ?_
      clear hK K D0 X0 B0 hHeld
      generalize W.heap.size = q1 at A1 ⊢
      generalize W.alloc (.cells #[.string d.name] 9) = W1 at B1 X1 D1 A1 hs1 ⊢
      clear hsW
      refine till_ready (rs := [8]) (by kernel_rfl) (by simp) ?_
      refine AllTill.cons rfl rfl (fun K hK => ?_) AllTill.nil
      rw [if_pos (by rfl)]
      refine wp_append_loc _ _ 26 rfl (w.heap.size + 1) 9 iS (.string ⟨#[]⟩) 1 16 Try.underlying26 hiS hzS0 hzS1 hzS2 rfl (by decide) _ _ _ rfl D1.names ⟨q1, 0, none⟩ 1 1 (strsV [d.name]) rfl rfl (A1.cells rfl) (fun u hu => by simp [strsV] at hu; subst hu; rfl) (by rw [List.length_take, List.length_map]; unfold maxLen; omega) (by rw [List.length_take, List.length_map]; omega) hs1 ?_
      intro v2 W2 o2 gr2 lc2
      have D2 := D1.addN o2 gr2 lc2
      have B2 : Below w.heap.size w W2 := Below.grown B1 gr2 (by omega) (fun j hj => by have := (D1.names.lt j hj).1; omega)
      have X2 := (gr2.block w.heap.size (by omega) (fun e => by have := (D1.names.lt _ e.symm).1; omega)).trans X1
      obtain ⟨y2, c2, e2⟩ := owns_slG D2.names
      rw [List.length_append, List.length_singleton, List.length_take, List.length_map, Nat.min_eq_left hk] at e2
      subst e2
      refine hK.out _ _ (fun _ => HK5.out _ X2 B2) ?_
      clear hK K D1 X1 B1 A1 o2 gr2 lc2
      refine till_ready (rs := [9]) (by kernel_rfl) (by simp) ?_
      refine AllTill.cons rfl rfl (fun K hK => ?_) AllTill.nil
      go_simp
      refine hK.out _ _ (fun _ => HK5.out _ X2 B2) ?_
      clear hK K
      refine till_ready (rs := [10]) (by kernel_rfl) (by simp) ?_
      refine AllTill.cons rfl rfl (fun K hK => ?_) AllTill.nil
      have x10 := vblk_cell X2 0
      have f10 := vblk_frozen X2 0
      simp only [List.getElem?_toArray, List.getElem?_cons_succ, List.getElem?_cons_zero] at x10
      go_simp
      have X3 : (W2.setCell ⟨w.heap.size, 0, none⟩ (.slice y2 (k + 1) c2)).heap[w.heap.size]? = some (.cells #[(.slice y2 (k + 1) c2), .slice qx k xx] 78 (0, 0)) := heap_setCell_same W2 w.heap.size 0 _ _ (.slice y2 (k + 1) c2) X2
      have D3 := D2.new (grown_set W2 w.heap.size 0 (.slice y2 (k + 1) c2)) (fun q e => .inr (by have := Option.some.inj e; omega))
      have B3 : Below w.heap.size w (W2.setCell ⟨w.heap.size, 0, none⟩ (.slice y2 (k + 1) c2)) := Below.setCell B2 (Nat.le_refl _) _
      refine hK.out _ _ (fun h => nomatch (show true = false from h)) ?_
      generalize W2.setCell ⟨w.heap.size, 0, none⟩ (.slice y2 (k + 1) c2) = W3 at X3 D3 B3 ⊢
      clear x10 f10 hK K D2 X2 B2 HK5
      refine till_done (by kernel_rfl) ?_ _
      go_wp2_with fail
      have HK6 : Hid (∀ W : World, W.heap[w.heap.size]? = some (.cells #[(.slice y2 (k + 1) c2), .slice qx k xx] 78 (0, 0)) → Below w.heap.size w W → (fun W => W.cell? ⟨w.heap.size, 1, none⟩ = some (.slice qx k xx) ∧ W.cell? ⟨b, off + k * 4, none⟩ = some (.string d.name)) W) := fun W hW hb => ⟨vblk_cell hW 1, HE0.out W hb⟩
      refine till_region (fun W => W.cell? ⟨w.heap.size, 1, none⟩ = some (.slice qx k xx) ∧ W.cell? ⟨b, off + k * 4, none⟩ = some (.string d.name)) 12 (by kernel_rfl) (HK6.out _ X3 B3.drew) (fun hHeld => ?_)
      have D0 : GsC (w.heap.size + 1) W3.drew ((.slice y2 (k + 1) c2)) (.slice qx k xx) vs _ _ := D3.new (r := none) (grown_of_below (Below.refl _ _).drew none) (fun q e => by cases e)
      have X0 : W3.drew.heap[w.heap.size]? = some (.cells #[(.slice y2 (k + 1) c2), .slice qx k xx] 78 (0, 0)) := X3
      have B0 : Below w.heap.size w W3.drew := B3.drew
      clear D3 X3 B3
      generalize W3.drew = W at hHeld D0 X0 B0 ⊢
      refine till_at (k' := 13) (l' := #[false, false, false, false, false, false, false, false, false, false, false, false, false]) ?_ (by kernel_rfl) (by kernel_rfl)
      refine tv 0 hHeld (h := ?_)
      refine tu 1 hHeld (h := ?_)
      refine tv 2 hHeld (h := ?_)
      refine tv 3 hHeld (h := ?_)
      refine tv 4 hHeld (h := ?_)
      refine tv 5 hHeld (h := ?_)
      refine tv 6 hHeld (h := ?_)
      refine tu 7 hHeld (h := ?_)
      have hsW : w.heap.size + 1 ≤ W.heap.size := by have := (Array.getElem?_eq_some_iff.1 X0).1; omega
      refine till_ready (rs := [8]) (by kernel_rfl) (by simp) ?_
      refine AllTill.cons rfl rfl (fun K hK => ?_) AllTill.nil
      go_simp
      go_wp2_with (go_at_call 17; refine (HUs.out W d.name B0).mono ?_; rintro e W1 ⟨u1, rfl, o1, b1⟩)
      have B1 : Below w.heap.size w W1 := B0.trans (b1.mono (by omega))
      have X1 := (b1.block w.heap.size (by omega)).trans X0
      have D1 := D0.new (r := none) (grown_of_below b1 none) (fun q e => by cases e)
      have o1a := owns_lo hsW o1
      have nv1 : ∀ g, u1.ownBlock = some g → Value.ownBlock ((.slice y2 (k + 1) c2)) ≠ some g := fun g hg he => by have h8 := (o1.lt g hg).1; have h9 := (D0.names.lt g he).2; omega
      have hs1 : w.heap.size + 1 ≤ W1.heap.size := by have := b1.size; omega
      obtain ⟨y1, c1, e1⟩ := owns_slG o1
      subst e1
      refine hK.out _ _ (fun _ => HK6.out _ X1 B1) ?_
      clear hK K D0 X0 B0 hHeld o1 b1 hsW
      refine till_ready (rs := [9]) (by kernel_rfl) (by simp) ?_
      refine AllTill.cons rfl rfl (fun K hK => ?_) AllTill.nil
      go_simp
      have B4 : Below w.heap.size w (W1.alloc (.cells #[.slice y1 (usedL xs d.name).length c1] 26)) := B1.alloc (by omega) _
      have X4 : (W1.alloc (.cells #[.slice y1 (usedL xs d.name).length c1] 26)).heap[w.heap.size]? = some (.cells #[(.slice y2 (k + 1) c2), .slice qx k xx] 78 (0, 0)) := (vheap_old W1 _ (by omega)).trans X1
      have D4 := D1.new (World.grownBy_alloc W1 (.cells #[.slice y1 (usedL xs d.name).length c1] 26) none) (fun q e => by cases e)
      have o4 := o1a.alloc (.cells #[.slice y1 (usedL xs d.name).length c1] 26)
      have A4 : (W1.alloc (.cells #[.slice y1 (usedL xs d.name).length c1] 26)).ownsRow (w.heap.size + 1) 26 1 (.slice (some ⟨W1.heap.size, 0, none⟩) 1 1) 1 [.slice y1 (usedL xs d.name).length c1] := World.ownsRow_lit W1 #[.slice y1 (usedL xs d.name).length c1] 1 hs1 (by unfold maxLen; omega) rfl
      have hs4 : w.heap.size + 1 ≤ (W1.alloc (.cells #[.slice y1 (usedL xs d.name).length c1] 26)).heap.size := by simp; omega
      refine hK.out _ _ (fun _ => HK6.out _ X4 B4) ?_
      clear hK K D1 X1 B1 o1a hs1
      generalize W1.heap.size = q4 at A4 ⊢
      generalize W1.alloc (.cells #[.slice y1 (usedL xs d.name).length c1] 26) = W4 at B4 X4 D4 A4 o4 hs4 ⊢
      refine till_ready (rs := [10]) (by kernel_rfl) (by simp) ?_
      refine AllTill.cons rfl rfl (fun K hK => ?_) AllTill.nil
      rw [if_pos (by rfl)]
      refine wp_append_loc _ _ 76 rfl (w.heap.size + 1) 26 iT (.slice none 0 0) 1 24 Try.underlying76 hiT hzT0 hzT1 hzT2 rfl (by decide) _ _ _ rfl D4.next ⟨q4, 0, none⟩ 1 1 [.slice y1 (usedL xs d.name).length c1] rfl rfl (A4.cells rfl) (fun u hu => by simp at hu; subst hu; rfl) (by rw [List.length_take, List.length_map]; unfold maxLen; omega) (by rw [List.length_take, List.length_map]; omega) hs4 ?_
      intro v5 W5 o5 gr5 lc5
      have D5 := D4.addX o4 nv1 o5 gr5
      have B5 : Below w.heap.size w W5 := Below.grown B4 gr5 (by omega) (fun j hj => by have := (D4.next.lt j hj).1; omega)
      have X5 := (gr5.block w.heap.size (by omega) (fun e => by have := (D4.next.lt _ e.symm).1; omega)).trans X4
      obtain ⟨y5, c5, e5⟩ := owns_slG D5.next
      rw [List.length_append, List.length_singleton, List.length_take, List.length_map, Nat.min_eq_left hk] at e5
      subst e5
      refine hK.out _ _ (fun _ => HK6.out _ X5 B5) ?_
      clear hK K D4 X4 B4 A4 o4 o5 gr5 lc5 nv1
      refine till_ready (rs := [11]) (by kernel_rfl) (by simp) ?_
      refine AllTill.cons rfl rfl (fun K hK => ?_) AllTill.nil
      go_simp
      refine hK.out _ _ (fun _ => HK6.out _ X5 B5) ?_
      clear hK K
      refine till_ready (rs := [12]) (by kernel_rfl) (by simp) ?_
      refine AllTill.cons rfl rfl (fun K hK => ?_) AllTill.nil
      have x10 := vblk_cell X5 1
      have f10 := vblk_frozen X5 1
      simp only [List.getElem?_toArray, List.getElem?_cons_succ, List.getElem?_cons_zero] at x10
      go_simp
      have X3 : (W5.setCell ⟨w.heap.size, 1, none⟩ (.slice y5 (k + 1) c5)).heap[w.heap.size]? = some (.cells #[(.slice y2 (k + 1) c2), (.slice y5 (k + 1) c5)] 78 (0, 0)) := heap_setCell_same W5 w.heap.size 1 _ _ (.slice y5 (k + 1) c5) X5
      have D3 := D5.new (grown_set W5 w.heap.size 1 (.slice y5 (k + 1) c5)) (fun q e => .inr (by have := Option.some.inj e; omega))
      have B3 : Below w.heap.size w (W5.setCell ⟨w.heap.size, 1, none⟩ (.slice y5 (k + 1) c5)) := Below.setCell B5 (Nat.le_refl _) _
      refine hK.out _ _ (fun h => nomatch (show true = false from h)) ?_
      generalize W5.setCell ⟨w.heap.size, 1, none⟩ (.slice y5 (k + 1) c5) = W6 at X3 D3 B3 ⊢
      clear x10 f10 hK K D5 X5 B5 HK6
      refine till_done (by kernel_rfl) ?_ _
      go_wp2_with fail
      rw [← HT1.out, ← HT2.out] at D3
      have HD6 := hidden D3
      have HX6 := hidden X3
      clear D3 X3
      go_roundw
      case rel => exact ⟨k + 1, _, _, _, by omega, by go_num, HD6, HX6, B3⟩
      case measure => simp [intOf]; omega
    · have he : k = xs.length := by omega
      subst he
      have D0 : GsC (w.heap.size + 1) wr (.slice qn xs.length xn) (.slice qx xs.length xx) vs (xs.map (·.name)) (xs.map FX) := by
        have h1 := HC.out
        rw [show (xs.map (·.name)).take xs.length = xs.map (·.name) by rw [← List.length_map (f := fun d : PackD => d.name), List.take_length], show (xs.map FX).take xs.length = xs.map FX by rw [← List.length_map (f := FX), List.take_length]] at h1
        exact h1
      have hG0 : GrIn (Ow (w.heap.size + 1) wr.heap.size) wr (.slice qn xs.length xn) (.slice qx xs.length xx) (xs.map (·.name)) (xs.map FX) := D0.grIn (by simp) (by rw [List.length_map]; omega) (fun ss hs => by obtain ⟨d, _, rfl⟩ := List.mem_map.1 hs; have := usedL_len (xs := xs) d.name; rw [HFX.out]; omega)
      have HA0 := hidden (HAt.out wr _ _ _ _ hG0)
      have x0 : wr.cell? ⟨w.heap.size, 0, none⟩ = some (.slice qn xs.length xn) := vblk_cell HX.out 0
      have x1 : wr.cell? ⟨w.heap.size, 1, none⟩ = some (.slice qx xs.length xx) := vblk_cell HX.out 1
      have hxl := (Array.getElem?_eq_some_iff.1 HX.out).1
      have HID := hidden (idxS_neg2 (xs.map (·.name)) s)
      obtain ⟨iz, hiz⟩ : ∃ iz, iz = idxS (xs.map (·.name)) s := ⟨_, rfl⟩
      rw [← hiz] at HA0 HID
      have HD0 := hidden D0
      clear hiz hG0 HC D0 ha lk1 lk2 HAt
      by_cases hn : iz < 0
      · go_wp2_with fail
        go_at_call 48
        refine HA0.out.mono ?_
        rintro e W1 ⟨rfl, b1⟩
        have D1 := HD0.out.new (r := none) (grown_of_below b1 none) (fun q e => by cases e)
        have B1 : Below w.heap.size w W1 := hbr.trans (b1.mono hbr.size)
        have X1 := (b1.block w.heap.size hxl).trans HX.out
        have z0 : W1.cell? ⟨w.heap.size, 0, none⟩ = some (.slice qn xs.length xn) := vblk_cell X1 0
        have fz := vblk_frozen X1 0
        have hs1 : w.heap.size + 1 ≤ W1.heap.size := by have := b1.size; omega
        clear HA0 HD0 HX hbr x0 x1 b1 HID
        go_wp2_with (at_builtin; refine wpList_append_own_at _ rfl _ _ 26 rfl (w.heap.size + 1) 9 iS (.string ⟨#[]⟩) 1 16 Try.underlying26 hiS hzS0 hzS1 hzS2 rfl (by decide) _ (xs.map (·.name)).length (strsV (xs.map (·.name))) rfl (D1.names.alloc _) ⟨W1.heap.size, 0, none⟩ 1 1 (strsV [s]) rfl rfl (cell_one_new _ _ _) (fun u hu => by simp [strsV] at hu; subst hu; rfl) (by rw [List.length_map]; unfold maxLen; omega) (by rw [List.length_map]; omega) (by simp; omega) ?_)
        intro v2 W2 o2 gr2 _ hl2
        have lc2 : ∀ g, v2.ownBlock = some g → Value.ownBlock (.slice qn xs.length xn) = some g ∨ (W1.alloc (.cells #[.string s] 9)).heap.size ≤ g := fun g hg => by
          rcases hl2 with h9 | h9
          · exact .inl (h9.symm.trans hg)
          · rw [hg] at h9; have := Option.some.inj h9; exact .inr (by simp; omega)
        have D2 := (D1.new (World.grownBy_alloc W1 (.cells #[.string s] 9) none) (fun q e => by cases e)).addN (s := s) (by rw [List.length_map]; exact o2) gr2 lc2
        have B2 : Below w.heap.size w W2 := Below.grown (B1.alloc (by omega) _) gr2 (by simp; omega) (fun j hj => by have := (D1.names.lt j hj).1; omega)
        have X2 := (gr2.block w.heap.size (by simp; omega) (fun e => by have := (D1.names.lt _ e.symm).1; omega)).trans ((vheap_old _ _ (by omega)).trans X1)
        obtain ⟨y2, c2, e2⟩ := owns_slG o2
        subst e2
        have q0 : W2.cell? ⟨w.heap.size, 0, none⟩ = some (.slice qn xs.length xn) := vblk_cell X2 0
        have q1 := vblk_frozen X2 0
        have X3 : (W2.setCell ⟨w.heap.size, 0, none⟩ (.slice y2 (xs.length + 1) c2)).heap[w.heap.size]? = some (.cells #[.slice y2 (xs.length + 1) c2, .slice qx xs.length xx] 78 (0, 0)) := heap_setCell_same W2 w.heap.size 0 _ _ _ X2
        have D3 := D2.new (grown_set W2 w.heap.size 0 (.slice y2 (xs.length + 1) c2)) (fun q e => .inr (by have := Option.some.inj e; omega))
        have B3 : Below w.heap.size w (W2.setCell ⟨w.heap.size, 0, none⟩ (.slice y2 (xs.length + 1) c2)) := Below.setCell B2 (Nat.le_refl _) _
        clear D1 X1 o2 gr2 hl2 lc2 z0 fz hs1 D2 X2 B2 B1
        obtain ⟨W3, hW3⟩ : ∃ W3, W3 = W2.setCell ⟨w.heap.size, 0, none⟩ (.slice y2 (xs.length + 1) c2) := ⟨_, rfl⟩
        rw [← hW3] at X3 D3 B3
        have HW3 := hidden hW3
        clear hW3
        go_wp2_with fail
        rw [← HW3.out]
        clear HW3 q0 q1
        have HK6 : Hid (∀ W : World, W.heap[w.heap.size]? = some (.cells #[.slice y2 (xs.length + 1) c2, .slice qx xs.length xx] 78 (0, 0)) → Below w.heap.size w W → (fun W => W.cell? ⟨w.heap.size, 1, none⟩ = some (.slice qx xs.length xx)) W) := fun W hW hb => vblk_cell hW 1
        refine till_region (fun W => W.cell? ⟨w.heap.size, 1, none⟩ = some (.slice qx xs.length xx)) 8 (by kernel_rfl) (HK6.out _ X3 B3.drew) (fun hHeld => ?_)
        have D0 : GsC (w.heap.size + 1) W3.drew (.slice y2 (xs.length + 1) c2) (.slice qx xs.length xx) vs _ _ := D3.new (r := none) (grown_of_below (Below.refl _ _).drew none) (fun q e => by cases e)
        have X0 : W3.drew.heap[w.heap.size]? = some (.cells #[.slice y2 (xs.length + 1) c2, .slice qx xs.length xx] 78 (0, 0)) := X3
        have B0 : Below w.heap.size w W3.drew := B3.drew
        clear D3 X3 B3
        generalize W3.drew = W at hHeld D0 X0 B0 ⊢
        refine till_at (k' := 9) (l' := #[false, false, false, false, false, false, false, false, false]) ?_ (by kernel_rfl) (by kernel_rfl)
        refine tv 0 hHeld (h := ?_)
        refine tu 1 hHeld (h := ?_)
        refine tv 2 hHeld (h := ?_)
        refine tv 3 hHeld (h := ?_)
        have hsW : w.heap.size + 1 ≤ W.heap.size := by have := (Array.getElem?_eq_some_iff.1 X0).1; omega
        refine till_ready (rs := [4]) (by kernel_rfl) (by simp) ?_
        refine AllTill.cons rfl rfl (fun K hK => ?_) AllTill.nil
        go_simp
        go_wp2_with (go_at_call 17; refine (HUs.out W s B0).mono ?_; rintro e W1 ⟨u1, rfl, o1, b1⟩)
        have B1 : Below w.heap.size w W1 := B0.trans (b1.mono (by omega))
        have X1 := (b1.block w.heap.size (by omega)).trans X0
        have D1 := D0.new (r := none) (grown_of_below b1 none) (fun q e => by cases e)
        have o1a := owns_lo hsW o1
        have nv1 : ∀ g, u1.ownBlock = some g → Value.ownBlock (.slice y2 (xs.length + 1) c2) ≠ some g := fun g hg he => by have h8 := (o1.lt g hg).1; have h9 := (D0.names.lt g he).2; omega
        have hs1 : w.heap.size + 1 ≤ W1.heap.size := by have := b1.size; omega
        obtain ⟨y1, c1, e1⟩ := owns_slG o1
        subst e1
        refine hK.out _ _ (fun _ => HK6.out _ X1 B1) ?_
        clear hK K D0 X0 B0 hHeld o1 b1 hsW
        refine till_ready (rs := [5]) (by kernel_rfl) (by simp) ?_
        refine AllTill.cons rfl rfl (fun K hK => ?_) AllTill.nil
        go_simp
        have B4 : Below w.heap.size w (W1.alloc (.cells #[.slice y1 (usedL xs s).length c1] 26)) := B1.alloc (by omega) _
        have X4 : (W1.alloc (.cells #[.slice y1 (usedL xs s).length c1] 26)).heap[w.heap.size]? = some (.cells #[.slice y2 (xs.length + 1) c2, .slice qx xs.length xx] 78 (0, 0)) := (vheap_old W1 _ (by omega)).trans X1
        have D4 := D1.new (World.grownBy_alloc W1 (.cells #[.slice y1 (usedL xs s).length c1] 26) none) (fun q e => by cases e)
        have o4 := o1a.alloc (.cells #[.slice y1 (usedL xs s).length c1] 26)
        have A4 : (W1.alloc (.cells #[.slice y1 (usedL xs s).length c1] 26)).ownsRow (w.heap.size + 1) 26 1 (.slice (some ⟨W1.heap.size, 0, none⟩) 1 1) 1 [.slice y1 (usedL xs s).length c1] := World.ownsRow_lit W1 #[.slice y1 (usedL xs s).length c1] 1 hs1 (by unfold maxLen; omega) rfl
        have hs4 : w.heap.size + 1 ≤ (W1.alloc (.cells #[.slice y1 (usedL xs s).length c1] 26)).heap.size := by simp; omega
        refine hK.out _ _ (fun _ => HK6.out _ X4 B4) ?_
        clear hK K D1 X1 B1 o1a hs1
        generalize W1.heap.size = q4 at A4 ⊢
        generalize W1.alloc (.cells #[.slice y1 (usedL xs s).length c1] 26) = W4 at B4 X4 D4 A4 o4 hs4 ⊢
        refine till_ready (rs := [6]) (by kernel_rfl) (by simp) ?_
        refine AllTill.cons rfl rfl (fun K hK => ?_) AllTill.nil
        rw [if_pos (by rfl)]
        refine wp_append_loc _ _ 76 rfl (w.heap.size + 1) 26 iT (.slice none 0 0) 1 24 Try.underlying76 hiT hzT0 hzT1 hzT2 rfl (by decide) _ _ _ rfl D4.next ⟨q4, 0, none⟩ 1 1 [.slice y1 (usedL xs s).length c1] rfl rfl (A4.cells rfl) (fun u hu => by simp at hu; subst hu; rfl) (by rw [List.length_map]; unfold maxLen; omega) (by rw [List.length_map]; omega) hs4 ?_
        intro v5 W5 o5 gr5 lc5
        have D5 := D4.addX o4 nv1 o5 gr5
        have B5 : Below w.heap.size w W5 := Below.grown B4 gr5 (by omega) (fun j hj => by have := (D4.next.lt j hj).1; omega)
        have X5 := (gr5.block w.heap.size (by omega) (fun e => by have := (D4.next.lt _ e.symm).1; omega)).trans X4
        obtain ⟨y5, c5, e5⟩ := owns_slG D5.next
        rw [List.length_append, List.length_singleton, List.length_map] at e5
        subst e5
        refine hK.out _ _ (fun _ => HK6.out _ X5 B5) ?_
        clear hK K D4 X4 B4 A4 o4 o5 gr5 lc5 nv1
        refine till_ready (rs := [7]) (by kernel_rfl) (by simp) ?_
        refine AllTill.cons rfl rfl (fun K hK => ?_) AllTill.nil
        go_simp
        refine hK.out _ _ (fun _ => HK6.out _ X5 B5) ?_
        clear hK K
        refine till_ready (rs := [8]) (by kernel_rfl) (by simp) ?_
        refine AllTill.cons rfl rfl (fun K hK => ?_) AllTill.nil
        have x10 := vblk_cell X5 1
        have f10 := vblk_frozen X5 1
        simp only [List.getElem?_toArray, List.getElem?_cons_succ, List.getElem?_cons_zero] at x10
        go_simp
        have X3 : (W5.setCell ⟨w.heap.size, 1, none⟩ (.slice y5 (xs.length + 1) c5)).heap[w.heap.size]? = some (.cells #[.slice y2 (xs.length + 1) c2, (.slice y5 (xs.length + 1) c5)] 78 (0, 0)) := heap_setCell_same W5 w.heap.size 1 _ _ (.slice y5 (xs.length + 1) c5) X5
        have D3 := D5.new (grown_set W5 w.heap.size 1 (.slice y5 (xs.length + 1) c5)) (fun q e => .inr (by have := Option.some.inj e; omega))
        have B3 : Below w.heap.size w (W5.setCell ⟨w.heap.size, 1, none⟩ (.slice y5 (xs.length + 1) c5)) := Below.setCell B5 (Nat.le_refl _) _
        refine hK.out _ _ (fun h => nomatch (show true = false from h)) ?_
        generalize W5.setCell ⟨w.heap.size, 1, none⟩ (.slice y5 (xs.length + 1) c5) = W6 at X3 D3 B3 ⊢
        clear x10 f10 hK K D5 X5 B5 HK6
        refine till_done (by kernel_rfl) ?_ _
        have HI := D3.grIn (by simp) (by simp; omega) (fun ss hs => by rcases List.mem_append.1 hs with hs | hs; obtain ⟨d, _, rfl⟩ := List.mem_map.1 hs; have := usedL_len (xs := xs) d.name; rw [HFX.out]; omega; simp at hs; subst hs; have := usedL_len (xs := xs) s; omega)
        rw [HM2.out] at HI
        have HRc := hidden (HRE.out W6 _ _ _ HI (by simp) (fun y hy => by simp [hy]) B3)
        have z0 := vblk_cell X3 0
        have z1 := vblk_cell X3 1
        simp only [List.getElem?_toArray, List.getElem?_cons_succ, List.getElem?_cons_zero] at z0 z1
        clear D3 X3 HI
        go_wp2_with (go_at_call 49; refine HRc.out.mono ?_; rintro e W9 ⟨u9, rfl, o9, b9⟩)
        go_ret
        exact ⟨u9, rfl, o9, b9⟩
      · have hsm : s ∈ xs.map (·.name) := HID.out hn
        have HRE1 : Hid (∀ W1, Below wr.heap.size wr W1 → Calls Try.prog 49 #[.agg #[.slice qn xs.length xn, .slice qx xs.length xx], .string s] W1 fun e w' => ∃ u, e = .returned u ∧ w'.ownsRow w.heap.size 9 1 u (deepBy xs s).length (strsV (deepBy xs s)) ∧ Below w.heap.size w w') := fun W1 b1 => by
          have D1 := HD0.out.new (r := none) (grown_of_below b1 none) (fun q e => by cases e)
          have hI := D1.grIn (by simp) (by rw [List.length_map]; omega) (fun ss hs => by obtain ⟨d, _, rfl⟩ := List.mem_map.1 hs; have := usedL_len (xs := xs) d.name; rw [HFX.out]; omega)
          rw [HM1.out] at hI
          exact HRE.out W1 _ _ _ hI hsm (fun y hy => hy) (hbr.trans (b1.mono hbr.size))
        clear HD0 HRE HID
        go_wp2_with fail
        go_at_call 48
        refine HA0.out.mono ?_
        rintro e W1 ⟨rfl, b1⟩
        have X1 := (b1.block w.heap.size hxl).trans HX.out
        have z0 : W1.cell? ⟨w.heap.size, 0, none⟩ = some (.slice qn xs.length xn) := vblk_cell X1 0
        have z1 : W1.cell? ⟨w.heap.size, 1, none⟩ = some (.slice qx xs.length xx) := vblk_cell X1 1
        have HR1 := hidden (HRE1.out W1 b1)
        clear HRE1 HA0 x0 x1 HX hbr X1
        go_wp2_with (go_at_call 49; refine HR1.out.mono ?_; rintro e W9 ⟨u9, rfl, o9, b9⟩)
        go_ret
        exact ⟨u9, rfl, o9, b9⟩
theorem deepBy_len {xs : List PackD} {s : ByteArray} (hw : wtRow wtPack xs ≤ 1048576) : (deepBy xs s).length ≤ 4294967295 := by
  have h2 := len_wtRow wtPack xs
  unfold deepBy sortedS
  rw [List.length_map]
  refine Nat.le_trans (compact_len _) ?_
  rw [sortL_len, List.length_map]
  refine Nat.le_trans (List.length_filter_le _ _) ?_
  rw [List.length_map]
  omega
theorem specDeepBy_s (S : Nat → Prop) (v : Value) (xs : List PackD) (s : ByteArray) (w : World) (hv : RowIn shPack S w v xs) (hB : ∀ b, S b → b < w.heap.size) (hw : wtRow wtPack xs ≤ 1048576) (hs : s.size ≤ 1048576) :
    Calls Try.prog 24 #[v, .string s] w fun e w' => ∃ u, e = .returned u ∧ StrR w.heap.size w'.heap.size w' u (deepBy xs s) ∧ (deepBy xs s).length ≤ 4294967295 ∧ Below w.heap.size w w' :=
  (specDeepBy_c S v xs s w hv hB hw).mono (by
    rintro e w' ⟨u, rfl, o, hb⟩
    exact ⟨u, rfl, strR_of o, deepBy_len hw, hb⟩)
end Go.Proofs.Ytbhedlobiagngaa

/-! All that use a pack, as the program answers it: a contract for the walks; conditions: the packs lie in memory, and hold at most 2 to the 20. -/
namespace Go.Proofs.Ytbhedlobiagngaa
open Go.RowKit Go.Maps
set_option linter.unusedSimpArgs false
set_option linter.unusedVariables false

theorem gOf_in (xs : List PackD) {d : PackD} (hd : d ∈ xs) : d.name ∈ (gOf (plOf xs)).N ∧ ∀ x ∈ d.uses, x ∈ (gOf (plOf xs)).N := by
  obtain ⟨g1, ⟨M, hM⟩, g3, g4, g5⟩ := gOf_ok (plOf xs)
  have h1 : d.name ∈ (gOf (plOf xs)).N := by
    rw [hM]
    refine List.mem_append_left _ (((gNames_ok _).2.1 d.name).2 ?_)
    rw [plOf_names]
    exact List.mem_map.2 ⟨d, hd, rfl⟩
  refine ⟨h1, fun x hx => ?_⟩
  have hp := posN_lt.2 h1
  have h3 := g3 (posN (gOf (plOf xs)).N d.name) hp
  rw [nmOf_pos h1] at h3
  have h4 : x ∈ flatU (plOf xs) d.name := mem_flatU.2 ⟨(d.name, d.uses), List.mem_map.2 ⟨d, hd, rfl⟩, rfl, hx⟩
  rw [← h3] at h4
  obtain ⟨t, ht, rfl⟩ := List.mem_map.1 h4
  have h5 := g1.lt _ t ht
  rw [nmOf_lt h5]
  exact List.getElem_mem h5
theorem gOf_back (xs : List PackD) {u t : Nat} (hu : u < (gOf (plOf xs)).N.length) (ht : t < (gOf (plOf xs)).N.length) : t ∈ rowAt (gOf (plOf xs)).B u ↔ nmOf (gOf (plOf xs)).N t ∈ usedL xs (nmOf (gOf (plOf xs)).N u) := by
  rw [(gOf_ok (plOf xs)).1.iff, gOf_edge (plOf xs) ht hu, mem_usedL, nmOf_lt hu, nmOf_lt ht]
  constructor
  · rintro ⟨d, hd, h1, h2⟩
    unfold plOf at hd
    obtain ⟨d', hd', rfl⟩ := List.mem_map.1 hd
    exact ⟨d', hd', h2, h1⟩
  · rintro ⟨d, hd, h1, h2⟩
    exact ⟨(d.name, d.uses), List.mem_map.2 ⟨d, hd, rfl⟩, h2, h1⟩
theorem rchN_rch (xs : List PackD) (s : ByteArray) (x : ByteArray) : (∃ t, t < (gOf (plOf xs)).N.length ∧ nmOf (gOf (plOf xs)).N t = x ∧ s ∈ (gOf (plOf xs)).N ∧ RchN (gOf (plOf xs)).B (posN (gOf (plOf xs)).N s) t) ↔ Rch (usedL xs) s x := by
  have g1 := (gOf_ok (plOf xs)).1
  constructor
  · rintro ⟨t, ht, rfl, hs, hr⟩
    have hp := posN_lt.2 hs
    clear ht
    induction hr with
    | one h =>
      have h1 := (gOf_back xs hp (g1.blt h)).1 h
      rw [nmOf_pos hs] at h1
      exact .one h1
    | step hr h ih =>
      have hu : ∀ {u}, RchN (gOf (plOf xs)).B (posN (gOf (plOf xs)).N s) u → u < (gOf (plOf xs)).N.length := fun h => by cases h with
        | one h => exact g1.blt h
        | step _ h => exact g1.blt h
      exact .step ih ((gOf_back xs (hu hr) (g1.blt h)).1 h)
  · intro hr
    induction hr with
    | one h =>
      obtain ⟨d, hd, h1, rfl⟩ := mem_usedL.1 h
      obtain ⟨i1, i2⟩ := gOf_in xs hd
      have hs := i2 s h1
      refine ⟨posN (gOf (plOf xs)).N d.name, posN_lt.2 i1, nmOf_pos i1, hs, .one ((gOf_back xs (posN_lt.2 hs) (posN_lt.2 i1)).2 ?_)⟩
      rw [nmOf_pos i1, nmOf_pos hs]
      exact h
    | step hr h ih =>
      obtain ⟨u, hu, rfl, hs, hr'⟩ := ih
      obtain ⟨d, hd, h1, rfl⟩ := mem_usedL.1 h
      obtain ⟨i1, i2⟩ := gOf_in xs hd
      refine ⟨posN (gOf (plOf xs)).N d.name, posN_lt.2 i1, nmOf_pos i1, hs, .step hr' ((gOf_back xs hu (posN_lt.2 i1)).2 ?_)⟩
      rw [nmOf_pos i1]
      exact h
theorem rchN_few (xs : List PackD) (p : Nat) (ts : List Nat) (hn : ts.Nodup) (ht : ∀ t ∈ ts, RchN (gOf (plOf xs)).B p t) : ts.length ≤ xs.length := by
  obtain ⟨g1, ⟨M, hM⟩, g3, g4, g5⟩ := gOf_ok (plOf xs)
  have h1 : ∀ t ∈ ts, t ∈ List.range (ownOf (plOf xs)) := fun t h => by
    rw [List.mem_range]
    cases ht t h with
    | one h => exact g4 t _ (g1.iff.1 h)
    | step _ h => exact g4 t _ (g1.iff.1 h)
  have h2 := nodup_sub_len ts _ hn h1
  rw [List.length_range] at h2
  have h3 := gNames_len ((plOf xs).map (·.1))
  rw [plOf_names, List.length_map] at h3
  unfold ownOf at h2
  rw [plOf_names] at h2
  omega

set_option maxHeartbeats 8000000 in
set_option maxRecDepth 100000 in
theorem implDeepBy_c (S : Nat → Prop) (v : Value) (xs : List PackD) (s : ByteArray) (w : World) (hv : RowIn shPack S w v xs) (hB : ∀ b, S b → b < w.heap.size) (hw : wtRow wtPack xs ≤ 1048576) (hs : s.size ≤ 1048576) :
    Calls Try.prog 14 #[v, .string s] w fun e w' => ∃ u, e = .returned u ∧ w'.ownsRow w.heap.size 9 1 u (deepBy xs s).length (strsV (deepBy xs s)) ∧ Below w.heap.size w w' := by
  have HG := hidden (graphOf_c S v xs w hv hB hw)
  obtain ⟨gl1, gl2, gl3⟩ := gOf_len hw
  obtain ⟨g1, ⟨M, hM⟩, g3, g4, g5⟩ := gOf_ok (plOf xs)
  have hl2 := len_wtRow wtPack xs
  have hlx : xs.length ≤ 1048576 := by omega
  have HF : Hid (∀ ys : List ByteArray, risesS ys → (∀ x, x ∈ ys ↔ ∃ t, t < (gOf (plOf xs)).N.length ∧ nmOf (gOf (plOf xs)).N t = x ∧ s ∈ (gOf (plOf xs)).N ∧ RchN (gOf (plOf xs)).B (posN (gOf (plOf xs)).N s) t) → ys = deepBy xs s) := fun ys h1 h2 => risesS_eq h1 (deepBy_rises xs s) (fun x => by rw [h2, rchN_rch, mem_deepBy])
  have HSt : Hid (∀ ts : List Nat, ts.Nodup → (∀ t ∈ ts, RchN (gOf (plOf xs)).B (posN (gOf (plOf xs)).N s) t) → ts.length ≤ 1048576) := fun ts h1 h2 => Nat.le_trans (rchN_few xs _ ts h1 h2) hlx
  obtain ⟨q0, cap0, hq0⟩ := hv.slice
  subst hq0
  obtain ⟨G, hG⟩ : ∃ G, G = gOf (plOf xs) := ⟨_, rfl⟩
  obtain ⟨own, hown⟩ : ∃ o, o = ownOf (plOf xs) := ⟨_, rfl⟩
  rw [← hG] at HG gl1 gl2 gl3 g1 HF HSt
  rw [← hown] at HG
  obtain ⟨ans, hans⟩ : ∃ a, a = deepBy xs s := ⟨_, rfl⟩
  rw [← hans] at HF ⊢
  clear hG hown hans hM g3 g4 g5 hv hl2 hw
  go_enter Try.func14, Try.ntmps14
  go_wp2_with (go_at_call 29; refine HG.out.mono ?_; rintro e w1 ⟨mb, vn, vu, vb, us, bs, rfl, C1, b1⟩; obtain ⟨qn, xn, en⟩ := owns_slG C1.names; obtain ⟨qu, nu, xu, eu⟩ : ∃ q n c, vu = .slice q n c := (by obtain ⟨q, c, e⟩ := owns_slG C1.ru; exact ⟨q, _, c, e⟩); obtain ⟨qb, xb, eb⟩ : ∃ q c, vb = .slice q G.N.length c := (by obtain ⟨q, c, e⟩ := owns_slG C1.rb; rw [g1.b] at e; exact ⟨q, c, e⟩); subst en eu eb; have HC : Hid (∀ w2, Below w1.heap.size w1 w2 → GrC w.heap.size w2 mb (.slice qn G.N.length xn) (.slice qu nu xu) (.slice qb G.N.length xb) us bs G.N G.N G.U G.B noX noX) := (fun w2 h2 => C1.new (r := none) (grown_of_below h2 none) (fun q e => by cases e)); have k1 : Below w1.heap.size w1 (w1.alloc (.cells #[.map (some mb), .slice qn G.N.length xn, .int .i64 (own : Int), .slice qu nu xu, .slice qb G.N.length xb] 53)) := (Below.refl _ _).alloc (Nat.le_refl _) _; have hx0 : (w1.alloc (.cells #[.map (some mb), .slice qn G.N.length xn, .int .i64 (own : Int), .slice qu nu xu, .slice qb G.N.length xb] 53)).heap[w1.heap.size]? = some (.cells #[.map (some mb), .slice qn G.N.length xn, .int .i64 (own : Int), .slice qu nu xu, .slice qb G.N.length xb] 53 (0, 0)) := vheap_new _ _; clear C1)
  have hk2 : Below w.heap.size w (w1.alloc (.cells #[.map (some mb), .slice qn G.N.length xn, .int .i64 (own : Int), .slice qu nu xu, .slice qb G.N.length xb] 53)) := b1.trans (k1.mono b1.size)
  have x0 := vblk_cell hx0 0
  have x1 := vblk_cell hx0 1
  have x2 := vblk_cell hx0 2
  have x3 := vblk_cell hx0 3
  have x4 := vblk_cell hx0 4
  simp only [List.getElem?_toArray, List.getElem?_cons_succ, List.getElem?_cons_zero] at x0 x1 x2 x3 x4
  obtain ⟨w2, hw2⟩ : ∃ w2, w2 = w1.alloc (.cells #[.map (some mb), .slice qn G.N.length xn, .int .i64 (own : Int), .slice qu nu xu, .slice qb G.N.length xb] 53) := ⟨_, rfl⟩
  have hp : w1.heap.size < w2.heap.size := by rw [hw2]; simp
  rw [← hw2] at k1 hx0 hk2 x0 x1 x2 x3 x4 ⊢
  clear hw2
  have C2 := HC.out w2 k1
  obtain ⟨ms, hms⟩ := C2.map
  have HA := hidden (allReached_c w.heap.size mb own ms qn qu qb xn nu xu G.N.length xb G.N G.B (.slice qb G.N.length xb) s w2 hms C2.names (by unfold maxLen; omega) gl1 gl3 ⟨_, _, rfl⟩ (fun u t ht => g1.blt ht) (fun u => (gl2 u).2) (fun i => match bs[i]? with | some (.slice q _ _) => q | _ => none) (fun i => match bs[i]? with | some (.slice _ _ c) => c | _ => 0) (fun gB cB eX W hW u hu => by
    have C3 := C2.new (r := none) (grown_of_below hW none) (fun q e => by cases e)
    have hbl : bs.length = G.N.length := by have := C3.rb.1; rw [g1.b] at this; simpa using this
    have hub : u < bs.length := by omega
    have e1 : bs[u]? = some bs[u] := List.getElem?_eq_getElem hub
    have o1 := C3.eb u bs[u] (by simp [noX]) e1
    obtain ⟨q, c, e2⟩ := owns_slG o1
    refine ⟨?_, fun j hj => ?_⟩
    · have h9 := C3.rb
      rw [eX, g1.b] at h9
      rw [h9.cellAt u (by omega), e1]
      dsimp only
      rw [e1]
      simp only [e2]
    · obtain ⟨g0, c0, e0⟩ := owns_pos o1 (by omega)
      refine ⟨g0, by dsimp only; rw [e1]; simp only [e0], ?_⟩
      rw [e0] at o1
      rw [o1.cellAt j (by simpa using hj)]
      exact intsV_at hj) HSt.out (fun h0 => by
    have h9 := C2.rb
    rw [g1.b] at h9
    obtain ⟨g0, c0, e0⟩ := owns_pos h9 h0
    exact ⟨g0, c0, e0⟩))
  clear HSt C2 HC
  go_wp2_with (go_at_call 37; refine HA.out.mono ?_; rintro e w4 ⟨u4, ys, rfl, o4, r4, m4, b4⟩; have HY := hidden (HF.out ys r4 m4); clear r4 m4 HA HF)
  go_ret
  rw [← HY.out]
  exact ⟨u4, rfl, owns_lo hk2.size o4, hk2.trans (b4.mono hk2.size)⟩
theorem implDeepBy_s (S : Nat → Prop) (v : Value) (xs : List PackD) (s : ByteArray) (w : World) (hv : RowIn shPack S w v xs) (hB : ∀ b, S b → b < w.heap.size) (hw : wtRow wtPack xs ≤ 1048576) (hs : s.size ≤ 1048576) :
    Calls Try.prog 14 #[v, .string s] w fun e w' => ∃ u, e = .returned u ∧ StrR w.heap.size w'.heap.size w' u (deepBy xs s) ∧ (deepBy xs s).length ≤ 4294967295 ∧ Below w.heap.size w w' :=
  (implDeepBy_c S v xs s w hv hB hw hs).mono (by
    rintro e w' ⟨u, rfl, o, hb⟩
    exact ⟨u, rfl, strR_of o, deepBy_len hw, hb⟩)
end Go.Proofs.Ytbhedlobiagngaa

/-! Copies of packs, and of rows of them, in memory of their own, as the law makes them: contracts for the walks; condition: what is copied holds at most 2 to the 20. -/
namespace Go.Proofs.Ytbhedlobiagngaa
open Go.RowKit
set_option linter.unusedSimpArgs false
set_option linter.unusedVariables false

set_option maxHeartbeats 2000000 in
set_option maxRecDepth 100000 in
theorem toPack_c (S : Nat → Prop) (d : PackD) (cs : List Value) (w : World) (hd : shPack.lies S w cs d) (hB : ∀ b, S b → b < w.heap.size) (hw : wtPack d ≤ 1048576) :
    Calls Try.prog 43 #[.agg cs.toArray] w fun e w' => ∃ cs', e = .returned (.agg cs'.toArray) ∧ shPackO.lies (Ow w.heap.size w'.heap.size) w' cs' d ∧ Below w.heap.size w w' := by
  obtain ⟨u0, u1, u2, rfl, s_name, r0, p0, r1, r2⟩ := hd
  have hb3 : ∀ A R O, Below w.heap.size w (((w.alloc A).alloc R).alloc O) := fun A R O => (((Below.refl _ _).alloc (Nat.le_refl _) _).alloc (by simp) _).alloc (by simp; omega) _
  unfold wtPack at hw
  have HS0 : Hid (∀ w1, Below w.heap.size w w1 → Calls Try.prog 69 #[u0] w1 fun e w' => ∃ g, e = .returned (.slice (some ⟨g, 0, none⟩) d.uses.length d.uses.length) ∧ StrsOwn (Ow w1.heap.size w'.heap.size) w' (.slice (some ⟨g, 0, none⟩) d.uses.length d.uses.length) d.uses ∧ Below w1.heap.size w1 w') := fun w1 hb =>
    (toStrs_c u0 d.uses w1 ((r0.keep (.of hb hB)).reads (fun b h => Nat.lt_of_lt_of_le (hB b h) hb.size)) (by unfold bulkS at hw; omega)).mono fun e w' ⟨g, h1, h2, h3⟩ => ⟨g, h1, ⟨owns_lo (Nat.zero_le _) h2, owns_in h2⟩, h3⟩
  obtain ⟨a0, cap0, eu0, _⟩ := id r0
  rw [length_strsV] at eu0
  have HS1 : Hid (∀ w1, Below w.heap.size w w1 → Calls Try.prog 70 #[u1] w1 fun e w' => ∃ g, e = .returned (.slice (some ⟨g, 0, none⟩) d.needs.length d.needs.length) ∧ RowOwn shNeed 105 (Ow w1.heap.size w'.heap.size) w' (.slice (some ⟨g, 0, none⟩) d.needs.length d.needs.length) d.needs ∧ Below w1.heap.size w1 w') := fun w1 hb =>
    toNeedS_c S u1 d.needs w1 (r1.keep (.of hb hB)) (fun b h => Nat.lt_of_lt_of_le (hB b h) hb.size) (by omega)
  obtain ⟨a1, cap1, eu1, _⟩ := id r1
  have HS2 : Hid (∀ w1, Below w.heap.size w w1 → Calls Try.prog 71 #[u2] w1 fun e w' => ∃ g, e = .returned (.slice (some ⟨g, 0, none⟩) d.cmds.length d.cmds.length) ∧ RowOwn shCmdO 107 (Ow w1.heap.size w'.heap.size) w' (.slice (some ⟨g, 0, none⟩) d.cmds.length d.cmds.length) d.cmds ∧ Below w1.heap.size w1 w') := fun w1 hb =>
    toCmdS_c S u2 d.cmds w1 (r2.keep (.of hb hB)) (fun b h => Nat.lt_of_lt_of_le (hB b h) hb.size) (by omega)
  obtain ⟨a2, cap2, eu2, _⟩ := id r2
  subst eu0
  clear r0
  subst eu1
  clear r1
  subst eu2
  clear r2
  go_enter Try.func43, Try.ntmps43
  go_wp2_with fail
  go_at_call 69
  refine (HS0.out _ (hb3 _ _ _)).mono ?_
  rintro e w1 ⟨g1, rfl, R0, b1⟩
  obtain ⟨hA1, hR1, hO1⟩ := vthree b1
  have s3 : ∀ A R O, (((w.alloc A).alloc R).alloc O).heap.size = w.heap.size + 1 + 1 + 1 := fun A R O => by simp
  rw [s3] at b1 R0
  have m1 : w.heap.size + 3 ≤ w1.heap.size := by have := b1.size; rw [s3] at this; omega
  have kw1 : Below w.heap.size w w1 := (hb3 _ _ _).trans (b1.mono (by omega))
  replace R0 := R0.mono (S' := Ow (w.heap.size + 3) w1.heap.size) (Ow.mono (by omega) (Nat.le_refl _))
  have m1' : w.heap.size + 3 ≤ w1.heap.size := by omega
  have o0 := vblk_cell hO1 0
  have q0 := vblk_cell hR1 0
  have y0 := vblk_cell hA1 0
  have o1 := vblk_cell hO1 1
  have q1 := vblk_cell hR1 1
  have y1 := vblk_cell hA1 1
  have o2 := vblk_cell hO1 2
  have q2 := vblk_cell hR1 2
  have y2 := vblk_cell hA1 2
  have o3 := vblk_cell hO1 3
  have q3 := vblk_cell hR1 3
  have y3 := vblk_cell hA1 3
  have fo := vblk_frozen hO1
  have fr := vblk_frozen hR1
  simp only [List.getElem?_toArray, List.getElem?_cons_succ, List.getElem?_cons_zero, List.setIfInBounds_toArray, List.set_cons_succ, List.set_cons_zero] at o0 q0 y0 o1 q1 y1 o2 q2 y2 o3 q3 y3
  have k1 : Below w.heap.size w (w1.setCell ⟨w.heap.size + 1 + 1, 1, none⟩ (.slice (some ⟨g1, 0, none⟩) d.uses.length d.uses.length)) := Below.setCell kw1 (by simp; omega) _
  go_wp2_with fail
  go_at_call 70
  refine (HS1.out _ k1).mono ?_
  rintro e w2 ⟨g2, rfl, R1, b2⟩
  have hA2 := (b2.block w.heap.size (by simp [World.setCell]; omega)).trans ((Below.heap_setCell _ _ _ _ (by simp <;> omega)).trans hA1)
  have hR2 := (b2.block (w.heap.size + 1) (by simp [World.setCell]; omega)).trans ((Below.heap_setCell _ _ _ _ (by simp <;> omega)).trans hR1)
  have hO2 := (b2.block (w.heap.size + 1 + 1) (by simp [World.setCell]; omega)).trans (heap_setCell_same _ _ _ _ _ _ hO1)
  have m2 : w1.heap.size ≤ w2.heap.size := by have := b2.size; simpa [World.setCell] using this
  have kw2 : Below w.heap.size w w2 := k1.trans (b2.mono k1.size)
  replace R1 := R1.mono (S' := Ow (w.heap.size + 3) w2.heap.size) (Ow.mono (by simp [World.setCell]; omega) (Nat.le_refl _))
  replace R0 := (R0.keep ((Kp.set (Ow.not (by omega))).trans (Kp.of b2 (fun b h => by have := h.2; simp [World.setCell]; omega)))).mono (S' := Ow (w.heap.size + 3) w2.heap.size) (Ow.mono (Nat.le_refl _) (by omega))
  have m2' : w.heap.size + 3 ≤ w2.heap.size := by omega
  have o0 := vblk_cell hO2 0
  have q0 := vblk_cell hR2 0
  have y0 := vblk_cell hA2 0
  have o1 := vblk_cell hO2 1
  have q1 := vblk_cell hR2 1
  have y1 := vblk_cell hA2 1
  have o2 := vblk_cell hO2 2
  have q2 := vblk_cell hR2 2
  have y2 := vblk_cell hA2 2
  have o3 := vblk_cell hO2 3
  have q3 := vblk_cell hR2 3
  have y3 := vblk_cell hA2 3
  have fo := vblk_frozen hO2
  have fr := vblk_frozen hR2
  simp only [List.getElem?_toArray, List.getElem?_cons_succ, List.getElem?_cons_zero, List.setIfInBounds_toArray, List.set_cons_succ, List.set_cons_zero] at o0 q0 y0 o1 q1 y1 o2 q2 y2 o3 q3 y3
  have k2 : Below w.heap.size w (w2.setCell ⟨w.heap.size + 1 + 1, 2, none⟩ (.slice (some ⟨g2, 0, none⟩) d.needs.length d.needs.length)) := Below.setCell kw2 (by simp; omega) _
  go_wp2_with fail
  go_at_call 71
  refine (HS2.out _ k2).mono ?_
  rintro e w3 ⟨g3, rfl, R2, b3⟩
  have hA3 := (b3.block w.heap.size (by simp [World.setCell]; omega)).trans ((Below.heap_setCell _ _ _ _ (by simp <;> omega)).trans hA2)
  have hR3 := (b3.block (w.heap.size + 1) (by simp [World.setCell]; omega)).trans ((Below.heap_setCell _ _ _ _ (by simp <;> omega)).trans hR2)
  have hO3 := (b3.block (w.heap.size + 1 + 1) (by simp [World.setCell]; omega)).trans (heap_setCell_same _ _ _ _ _ _ hO2)
  have m3 : w2.heap.size ≤ w3.heap.size := by have := b3.size; simpa [World.setCell] using this
  have kw3 : Below w.heap.size w w3 := k2.trans (b3.mono k2.size)
  replace R2 := R2.mono (S' := Ow (w.heap.size + 3) w3.heap.size) (Ow.mono (by simp [World.setCell]; omega) (Nat.le_refl _))
  replace R0 := (R0.keep ((Kp.set (Ow.not (by omega))).trans (Kp.of b3 (fun b h => by have := h.2; simp [World.setCell]; omega)))).mono (S' := Ow (w.heap.size + 3) w3.heap.size) (Ow.mono (Nat.le_refl _) (by omega))
  replace R1 := (R1.keep ((Kp.set (Ow.not (by omega))).trans (Kp.of b3 (fun b h => by have := h.2; simp [World.setCell]; omega)))).mono (S' := Ow (w.heap.size + 3) w3.heap.size) (Ow.mono (Nat.le_refl _) (by omega))
  have m3' : w.heap.size + 3 ≤ w3.heap.size := by omega
  have o0 := vblk_cell hO3 0
  have q0 := vblk_cell hR3 0
  have y0 := vblk_cell hA3 0
  have o1 := vblk_cell hO3 1
  have q1 := vblk_cell hR3 1
  have y1 := vblk_cell hA3 1
  have o2 := vblk_cell hO3 2
  have q2 := vblk_cell hR3 2
  have y2 := vblk_cell hA3 2
  have o3 := vblk_cell hO3 3
  have q3 := vblk_cell hR3 3
  have y3 := vblk_cell hA3 3
  have fo := vblk_frozen hO3
  have fr := vblk_frozen hR3
  simp only [List.getElem?_toArray, List.getElem?_cons_succ, List.getElem?_cons_zero, List.setIfInBounds_toArray, List.set_cons_succ, List.set_cons_zero] at o0 q0 y0 o1 q1 y1 o2 q2 y2 o3 q3 y3
  go_wp2_with fail
  refine bodyPost_ret (v := .agg #[.string d.name, .slice (some ⟨g1, 0, none⟩) d.uses.length d.uses.length, .slice (some ⟨g2, 0, none⟩) d.needs.length d.needs.length, .slice (some ⟨g3, 0, none⟩) d.cmds.length d.cmds.length]) (by simp [results, Try.results43, go_sem, o0, q0, o1, q1, o2, q2, o3, q3]) rfl ⟨[.string d.name, .slice (some ⟨g1, 0, none⟩) d.uses.length d.uses.length, .slice (some ⟨g2, 0, none⟩) d.needs.length d.needs.length, .slice (some ⟨g3, 0, none⟩) d.cmds.length d.cmds.length], rfl, ?_, ?_⟩
  · have hS : ∀ {W : World}, w3.heap.size ≤ W.heap.size → ∀ b, Ow (w.heap.size + 3) w3.heap.size b → Ow w.heap.size W.heap.size b := fun h => Ow.mono (by omega) h
    refine ⟨_, _, _, rfl, s_name, (R0.keep ?_).mono (hS ?_), p0, (R1.keep ?_).mono (hS ?_), (R2.keep ?_).mono (hS ?_)⟩
    all_goals first
      | (simp [World.setCell]; done)
      | ((repeat (refine Kp.trans ?_ (Kp.set (Ow.not (by omega))))); exact fun b hb => rfl)
  · refine ?_
    (repeat (refine Below.setCell ?_ (by simp <;> omega) _))
    exact kw3

set_option maxHeartbeats 2000000 in
set_option maxRecDepth 100000 in
theorem infoPack : (Try.prog.info? 33).map (fun i => (i.zero, i.size, i.bytes)) = some (some (.agg #[.string ⟨#[]⟩, .slice none 0 0, .slice none 0 0, .slice none 0 0]), 4, 88) := by kernel_rfl
set_option maxHeartbeats 2000000 in
set_option maxRecDepth 100000 in
theorem toPackS_c (S : Nat → Prop) (v : Value) (xs : List PackD) (w : World) (hv : RowIn shPack S w v xs) (hB : ∀ b, S b → b < w.heap.size) (hw : wtRow wtPack xs ≤ 1048576) :
    Calls Try.prog 18 #[v] w fun e w' => ∃ g, e = .returned (.slice (some ⟨g, 0, none⟩) xs.length xs.length) ∧ RowOwn shPackO 33 (Ow w.heap.size w'.heap.size) w' (.slice (some ⟨g, 0, none⟩) xs.length xs.length) xs ∧ Below w.heap.size w w' := by
  obtain ⟨a, cap, rfl, hl, hc, ha⟩ := hv
  have hn := len_wtRow wtPack xs
  have hlm : xs.length ≤ maxLen := hl
  unfold maxLen at hl
  obtain ⟨i0, hi, hz0, hz1, hz2⟩ := info_parts infoPack
  go_enter Try.func18, Try.ntmps18
  go_wp2_with (first
    | (at_make; refine wpList_make_full _ rfl _ _ 24 rfl w.heap.size 33 i0 _ 4 Try.underlying24 hi hz0 hz1 _ _ _ _ xs.length rfl rfl rfl rfl (by rw [hz2]; omega) (by unfold maxLen; omega) (Nat.le_refl _) ?_))
  intro w1 hown hgrow
  have hb1 := below_of_grown hgrow
  have hs1 : w.heap.size + 1 ≤ w1.heap.size := by
    rcases hown.2 with ⟨h, _⟩ | ⟨g, cap, cur, h, _, hg, _⟩
    · simp at h
    · simp at h
      have := (Array.getElem?_eq_some_iff.1 hg).1
      omega
  obtain ⟨ys1, hown1⟩ : ∃ ys, w1.ownsRow w.heap.size 33 4 (.slice (some ⟨w.heap.size, 0, none⟩) xs.length xs.length) xs.length ys := ⟨_, hown⟩
  clear hgrow hown
  go_wp2_with fail
  go_loopw [4] (fun vi wr => ∃ (k : Nat) (ys : List Value), k ≤ xs.length ∧ vi = .int .i64 (k : Int) ∧ wr.ownsRow w.heap.size 33 4 (.slice (some ⟨w.heap.size, 0, none⟩) xs.length xs.length) xs.length ys ∧ Hid (Laid shPackO (Ow (w.heap.size + 1) wr.heap.size) wr ys xs k) ∧ Below w.heap.size w wr ∧ w.heap.size + 1 ≤ wr.heap.size) (fun vi _ => xs.length - (intOf vi).toNat)
  case atStart => exact ⟨0, ys1, Nat.zero_le _, rfl, hown1, (fun i h h0 => by omega), hb1, hs1⟩
  case round =>
    obtain ⟨k, ys, hk, rfl, hownr, hy, hbr, hsr⟩ := hrel
    by_cases hlt' : k < xs.length
    · rcases ha with rfl | ⟨b, off, rfl, hlt, ha⟩
      · simp at hlt'
      obtain ⟨cs, hL, hcell⟩ := ha k hlt'
      have hL2 := shPack.keep (.of hbr hB) hL
      have hcell2 := hcell.keep (.of hbr hB) hlt
      have hBr : ∀ b, S b → b < wr.heap.size := fun b h => Nat.lt_of_lt_of_le (hB b h) hbr.size
      have hwt : wtPack xs[k] ≤ 1048576 := by have := wt_wtRow wtPack (List.getElem_mem hlt'); omega
      have hown2 : ∀ w2, Below wr.heap.size wr w2 → w2.ownsRow w.heap.size 33 4 (.slice (some ⟨w.heap.size, 0, none⟩) xs.length xs.length) xs.length ys := fun w2 h2 => hownr.kept (grown_of_below h2 none) (by simp [Value.ownBlock])
      have hlen := hownr.1
      have HC : Hid (∀ w2, Below wr.heap.size wr w2 → ∀ j, j < 4 → ∃ x, w2.cell? ⟨w.heap.size, k * 4 + j, none⟩ = some x) := fun w2 h2 j hj => ⟨ys.getD (k * 4 + j) undef, by rw [(hown2 w2 h2).cellAt _ (by omega)]; simp [List.getD_eq_getElem?_getD, show k * 4 + j < ys.length by omega]⟩
      have HF : Hid (∀ w2, Below wr.heap.size wr w2 → ∀ j, w2.frozen? ⟨w.heap.size, j, none⟩ = false) := fun w2 h2 j => (hown2 w2 h2).frozenAt j
      have HO : Hid (∀ w2, Below wr.heap.size wr w2 → w2.ownsRow w.heap.size 33 4 (.slice (some ⟨w.heap.size, 0, none⟩) xs.length xs.length) xs.length ys) := hown2
      have HST : Hid (∀ w2 cs, Below wr.heap.size wr w2 → cs.length = 4 → shPackO.lies (Ow (w.heap.size + 1) w2.heap.size) w2 cs xs[k] → Laid shPackO (Ow (w.heap.size + 1) (setW w2 w.heap.size (k * 4) cs).heap.size) (setW w2 w.heap.size (k * 4) cs) (putL ys (k * 4) cs) xs (k + 1)) := fun w2 cs h2 hc hr => hy.out.step (sh := shPackO) hlt' hlen h2 (by omega) hc hr
      obtain ⟨d, hd⟩ : ∃ d, d = xs[k] := ⟨_, rfl⟩
      rw [← hd] at hL2 hwt HST
      have HC1 := toPack_c S d cs wr hL2 hBr hwt
      clear ha hL hcell hd hown2 hi hz0 hz1 hz2 hown1 hb1 hlen hwt
      obtain ⟨u0, u1, u2, rfl, s_name, r0, p0, r1, r2⟩ := hL2
      clear s_name p0
      obtain ⟨a0, cap0, eu0, _⟩ := id r0
      rw [length_strsV] at eu0
      subst eu0
      clear r0
      obtain ⟨a1, cap1, eu1, _⟩ := id r1
      subst eu1
      clear r1
      obtain ⟨a2, cap2, eu2, _⟩ := id r2
      subst eu2
      clear r2
      have e0 : wr.cell? ⟨b, off + k * 4, none⟩ = some (.string d.name) := hcell2 0 (by simp)
      have e1 : wr.cell? ⟨b, off + k * 4 + 1, none⟩ = some (.slice a0 d.uses.length cap0) := hcell2 1 (by simp)
      have e2 : wr.cell? ⟨b, off + k * 4 + 2, none⟩ = some (.slice a1 d.needs.length cap1) := hcell2 2 (by simp)
      have e3 : wr.cell? ⟨b, off + k * 4 + 3, none⟩ = some (.slice a2 d.cmds.length cap2) := hcell2 3 (by simp)
      have HC2 := hidden HC1
      have hki : (k : Int) < (xs.length : Int) := by omega
      clear hcell2 HC1
      go_wp2_with (go_at_call 43; refine HC2.out.mono ?_; rintro e w2 ⟨cs, rfl, hX, hb2⟩; have HX := hidden (HST.out w2 cs hb2 (by have h := hX; obtain ⟨u0, u1, u2, h9, s_name, r0, p0, r1, r2⟩ := h; rw [h9]; rfl) (shPackO.mono (Ow.mono hsr (Nat.le_refl _)) hX)); obtain ⟨u0, u1, u2, rfl, s_name, z0, p0, z1, z2⟩ := hX; obtain ⟨b0, bap0, ev0⟩ := z0.slice; subst ev0; obtain ⟨b1, bap1, ev1⟩ := z1.slice; subst ev1; obtain ⟨b2, bap2, ev2⟩ := z2.slice; subst ev2; obtain ⟨y0, d0⟩ := HC.out w2 hb2 0 (by omega); obtain ⟨y1, d1⟩ := HC.out w2 hb2 1 (by omega); obtain ⟨y2, d2⟩ := HC.out w2 hb2 2 (by omega); obtain ⟨y3, d3⟩ := HC.out w2 hb2 3 (by omega); rw [Nat.add_zero] at d0; have f9 := HF.out w2 hb2)
      go_roundw
      case rel =>
        refine ⟨k + 1, _, by omega, by go_num, setW_owns [.string d.name, .slice b0 d.uses.length bap0, .slice b1 d.needs.length bap1, .slice b2 d.cmds.length bap2] w2 ys (k * 4) (HO.out w2 hb2), HX.out, setW_below (Nat.le_refl _) [.string d.name, .slice b0 d.uses.length bap0, .slice b1 d.needs.length bap1, .slice b2 d.cmds.length bap2] w2 w (k * 4) (hbr.trans (hb2.mono hbr.size)), ?_⟩
        have h9 := setW_size [.string d.name, .slice b0 d.uses.length bap0, .slice b1 d.needs.length bap1, .slice b2 d.cmds.length bap2] w2 w.heap.size (k * 4)
        have := hb2.size
        exact Nat.le_trans (show w.heap.size + 1 ≤ w2.heap.size by omega) (Nat.le_of_eq h9.symm)
      case measure => simp [intOf]; omega
    · have he : k = xs.length := by omega
      subst he
      clear ha
      go_wp2_with fail
      go_ret
      exact ⟨_, rfl, rowOwn_of hownr hlm hy.out, hbr⟩

end Go.Proofs.Ytbhedlobiagngaa

/-! Marks put into a pack that may be written, as the law puts them: contracts for the walks; conditions: its rows lie in memory and may be written, and there are at most 2 to the 32 marks. -/
namespace Go.Proofs.Ytbhedlobiagngaa
open Go.RowKit
set_option linter.unusedSimpArgs false
set_option linter.unusedVariables false

/-- A row that may be written stays one where another row is written over, be it the same. -/
theorem owns_over {w w' : World} {lo lo' sz n n' : Nat} {e : TypeId} {v v' : Value} {xs xs' ys : List Value} (h : w.ownsRow lo e sz v n xs) (h0 : w.ownsRow lo' e sz v' n' xs') (h1 : w'.ownsRow lo' e sz v' n' ys) (hg : w.grownBy w' v'.ownBlock) (hs : 0 < sz) : ∃ zs, w'.ownsRow lo e sz v n zs := by
  by_cases hne : v.ownBlock = none ∨ v.ownBlock ≠ v'.ownBlock
  · exact ⟨xs, h.kept hg hne⟩
  · have he : v.ownBlock = v'.ownBlock := by
      by_cases k : v.ownBlock = v'.ownBlock
      · exact k
      · exact absurd (.inr k) hne
    have hn : v.ownBlock ≠ none := fun k => hne (.inl k)
    rcases h.2 with ⟨rfl, _⟩ | ⟨g, cap, cur, rfl, hlo, hgb, hc, hm, hz, ht⟩
    · exact absurd rfl hn
    rcases h0.2 with ⟨rfl, _⟩ | ⟨g0, cap0, cur0, rfl, _, hgb0, hc0, hm0, hz0, _⟩
    · exact absurd he (by simp [Value.ownBlock])
    simp [Value.ownBlock] at he
    subst he
    rcases h1.2 with ⟨hx, _⟩ | ⟨g1, cap1, cur1, hx, _, hgb1, hc1, hm1, hz1, _⟩
    · simp at hx
    · simp only [Value.slice.injEq, Option.some.injEq, Addr.mk.injEq, and_true, true_and] at hx
      obtain ⟨rfl, rfl⟩ := hx
      rw [hgb] at hgb0
      have hcur : cur = cur0 := by simpa using hgb0
      subst hcur
      have hcap : cap = cap0 := by
        have : cap * sz = cap0 * sz := by omega
        exact Nat.eq_of_mul_eq_mul_right hs this
      subst hcap
      refine ⟨cur1.toList.take (n * sz), ?_, .inr ⟨g, cap, cur1, rfl, hlo, hgb1, hc, hm, hz1, rfl⟩⟩
      have hle : n * sz ≤ cap * sz := Nat.mul_le_mul_right _ hc
      rw [List.length_take, Array.length_toList, hz1]
      exact Nat.min_eq_left hle

set_option maxHeartbeats 2000000 in
set_option maxRecDepth 100000 in
theorem markNeedS_c (S : Nat → Prop) (v : Value) (n k : Nat) (xs : List Value) (w : World) (hv : w.ownsRow 0 105 2 v n xs) (hg : ∀ g, v.ownBlock = some g → S g) (h1 : 1 ≤ k) (h2 : k + n * 2 ≤ 4294967296) :
    Calls Try.prog 46 #[v, .int .i64 (k : Int)] w fun e w' => e = .returned (.int .i64 ((k + n * 2 : Nat) : Int)) ∧ Chg S w w' := by
  rcases id hv.2 with ⟨rfl, rfl⟩ | ⟨g, cap, cur, rfl, _, hgb, hcap, hmax, _⟩
  · clear hv hg
    go_enter Try.func46, Try.ntmps46
    go_wp2_with fail
    go_loopw [1, 5] (fun vk vi wr => vk = .int .i64 (k : Int) ∧ vi = .int .i64 0 ∧ wr = w) (fun _ _ _ => 0)
    case atStart => exact ⟨rfl, rfl, rfl⟩
    case round =>
      obtain ⟨rfl, rfl, rfl⟩ := hrel
      go_wp2_with fail
      go_ret
      exact ⟨by simp, Chg.refl _ _⟩
  · have hSg := hg g rfl
    unfold maxLen at hmax
    clear hgb hg
    go_enter Try.func46, Try.ntmps46
    go_wp2_with fail
    go_loopw [1, 5] (fun vk vi wr => ∃ (i m : Nat) (ys : List Value), i ≤ n ∧ vi = .int .i64 (i : Int) ∧ vk = .int .i64 (m : Int) ∧ Hid (m = k + i * 2) ∧ wr.ownsRow 0 105 2 (.slice (some ⟨g, 0, none⟩) n cap) n ys ∧ Chg S w wr) (fun _ vi _ => n - (intOf vi).toNat)
    case atStart => exact ⟨0, k, xs, Nat.zero_le _, rfl, rfl, by show _ = _; omega, hv, Chg.refl _ _⟩
    case round =>
      obtain ⟨i, m, ys, hi, rfl, rfl, hm, hown, hchg⟩ := hrel
      by_cases hlt : i < n
      · have hlen := hown.1
        have hm2 : m + 2 ≤ 4294967296 := by have := hm.out; omega
        have hm1 : 1 ≤ m := by have := hm.out; omega
        have hki : (i : Int) < (n : Int) := by omega
        have HO := hidden hown
        have HM1 := hidden (fun w1 => markText_c m w1 (by omega) (by omega))
        have HM2 : Hid (∀ w1, Calls Try.prog 45 #[.int .i64 ((m : Int) + 1)] w1 fun e w' => e = .returned (.string (markStr (m + 1))) ∧ Below w1.heap.size w1 w') := fun w1 => by
          have := markText_c (m + 1) w1 (by omega) (by omega)
          rw [show ((m + 1 : Nat) : Int) = (m : Int) + 1 by omega] at this
          exact this
        clear hown hv
        go_wp2_with fail
        go_at_call 45
        refine (HM1.out _).mono ?_
        rintro e w1 ⟨rfl, b1⟩
        have r1 := HO.out.kept (grown_of_below b1 none) (by simp [Value.ownBlock])
        have d0 : ∃ x, w1.cell? ⟨g, i * 2, none⟩ = some x := ⟨ys.getD (i * 2) undef, by rw [r1.cellAt _ (by omega)]; simp [List.getD_eq_getElem?_getD, show i * 2 < ys.length by omega]⟩
        obtain ⟨x0, d0⟩ := d0
        have f1 := r1.frozenAt
        have r2 := (r1.stored (i * 2) (.string (markStr m))).1
        have HR2 := hidden r2
        clear r1 r2
        go_wp2_with fail
        go_at_call 45
        refine (HM2.out _).mono ?_
        rintro e w2 ⟨rfl, b2⟩
        have r3 := HR2.out.kept (grown_of_below b2 none) (by simp [Value.ownBlock])
        have hl3 := r3.1
        have d1 : ∃ x, w2.cell? ⟨g, i * 2 + 1, none⟩ = some x := ⟨(ys.set (i * 2) (.string (markStr m))).getD (i * 2 + 1) undef, by rw [r3.cellAt _ (by omega)]; simp [List.getD_eq_getElem?_getD, show i * 2 + 1 < ys.length by omega]⟩
        obtain ⟨x1, d1⟩ := d1
        have f2 := r3.frozenAt
        have r4 := (r3.stored (i * 2 + 1) (.string (markStr (m + 1)))).1
        have HR4 := hidden r4
        have CH : Chg S wr (w2.setCell ⟨g, i * 2 + 1, none⟩ (.string (markStr (m + 1)))) := (Chg.of b1).trans ((Chg.set hSg).trans ((Chg.of b2).trans (Chg.set hSg)))
        have HCH := hidden CH
        clear r3 r4 CH
        go_wp2_with fail
        go_roundw
        case rel => exact ⟨i + 1, m + 2, _, by omega, by go_num, by simp; omega, (by show _ = _; have := hm.out; omega), HR4.out, hchg.trans HCH.out⟩
        case measure => simp [intOf]; omega
      · have he : i = n := by omega
        subst he
        have HMM := hidden hm.out
        clear hown hv
        go_wp2_with fail
        go_ret
        exact ⟨by rw [← HMM.out]; rfl, hchg⟩

/-- The rows of a row of commands: each may be written. -/
def CmdRows (w : World) (S : Nat → Prop) (ys : List Value) (ns : List Nat) : Prop := ∀ i (h : i < ns.length), ∃ u xs, ys[i * 2 + 1]? = some u ∧ w.ownsRow 0 9 1 u ns[i] xs ∧ ∀ g, u.ownBlock = some g → S g
theorem CmdRows.set0 {w : World} {S : Nat → Prop} {ys : List Value} {ns : List Nat} (h : CmdRows w S ys ns) (i : Nat) (v : Value) : CmdRows w S (ys.set (i * 2) v) ns := fun j hj => by
  obtain ⟨u, xs, h1, h2, h3⟩ := h j hj
  exact ⟨u, xs, by rw [List.getElem?_set_ne (by omega)]; exact h1, h2, h3⟩
theorem CmdRows.below {w w' : World} {S : Nat → Prop} {ys : List Value} {ns : List Nat} (h : CmdRows w S ys ns) (hb : Below w.heap.size w w') : CmdRows w' S ys ns := fun j hj => by
  obtain ⟨u, xs, h1, h2, h3⟩ := h j hj
  exact ⟨u, xs, h1, owns_kept (S := fun b => b < w.heap.size) (.of hb (fun b h => h)) (fun g h => (owns_in h2 g h).2) h2, h3⟩
/-- A store into a row of commands touches no row of texts. -/
theorem CmdRows.store {w : World} {S : Nat → Prop} {ys : List Value} {ns : List Nat} {g j n cap : Nat} {zs : List Value} {x : Value} (h : CmdRows w S ys ns) (hg : w.ownsRow 0 107 2 (.slice (some ⟨g, 0, none⟩) n cap) n zs) : CmdRows (w.setCell ⟨g, j, none⟩ x) S ys ns := fun i hi => by
  obtain ⟨u, xs, h1, h2, h3⟩ := h i hi
  refine ⟨u, xs, h1, owns_kept (S := fun b => b ≠ g) (Kp.set (fun k => k rfl)) (fun g' hg' => ?_) h2, h3⟩
  rintro rfl
  rcases h2.2 with ⟨rfl, _⟩ | ⟨g2, c2, cur2, rfl, _, hb2, _⟩
  · simp [Value.ownBlock] at hg'
  · simp [Value.ownBlock] at hg'
    subst hg'
    rcases hg.2 with ⟨hx, _⟩ | ⟨g3, c3, cur3, hx, _, hb3, _⟩
    · simp at hx
    · simp only [Value.slice.injEq, Option.some.injEq, Addr.mk.injEq, and_true, true_and] at hx
      obtain ⟨rfl, rfl⟩ := hx
      rw [hb2] at hb3
      simp at hb3

set_option maxHeartbeats 2000000 in
set_option maxRecDepth 100000 in
theorem markCmdS_c (S : Nat → Prop) (v : Value) (ns : List Nat) (k : Nat) (xs : List Value) (w : World) (hv : w.ownsRow 0 107 2 v ns.length xs) (hg : ∀ g, v.ownBlock = some g → S g) (hr : CmdRows w S xs ns) (h1 : 1 ≤ k) (h2 : k + (ns.length + ns.sum) ≤ 4294967296) :
    Calls Try.prog 47 #[v, .int .i64 (k : Int)] w fun e w' => e = .returned (.int .i64 ((k + (ns.length + ns.sum) : Nat) : Int)) ∧ Chg S w w' := by
  rcases id hv.2 with ⟨rfl, hn0⟩ | ⟨g, cap, cur, rfl, _, hgb, hcap, hmax, _⟩
  · have hns : ns = [] := List.eq_nil_of_length_eq_zero hn0
    subst hns
    clear hv hg hr
    go_enter Try.func47, Try.ntmps47
    go_wp2_with fail
    go_loopw [1, 5] (fun vk vi wr => vk = .int .i64 (k : Int) ∧ vi = .int .i64 0 ∧ wr = w) (fun _ _ _ => 0)
    case atStart => exact ⟨rfl, rfl, rfl⟩
    case round =>
      obtain ⟨rfl, rfl, rfl⟩ := hrel
      go_wp2_with fail
      go_ret
      exact ⟨by simp, Chg.refl _ _⟩
  · have hSg := hg g rfl
    unfold maxLen at hmax
    clear hgb hg
    go_enter Try.func47, Try.ntmps47
    go_wp2_with fail
    go_loopw [1, 5] (fun vk vi wr => ∃ (i m : Nat) (ys : List Value), i ≤ ns.length ∧ vi = .int .i64 (i : Int) ∧ vk = .int .i64 (m : Int) ∧ Hid (m = k + (i + (ns.take i).sum)) ∧ wr.ownsRow 0 107 2 (.slice (some ⟨g, 0, none⟩) ns.length cap) ns.length ys ∧ Hid (CmdRows wr S ys ns) ∧ Chg S w wr) (fun _ vi _ => ns.length - (intOf vi).toNat)
    case atStart => exact ⟨0, k, xs, Nat.zero_le _, rfl, rfl, by show _ = _; simp, hv, hr, Chg.refl _ _⟩
    case round =>
      obtain ⟨i, m, ys, hi, rfl, rfl, hm, hown, hrr, hchg⟩ := hrel
      by_cases hlt : i < ns.length
      · have hlen := hown.1
        have hts : (ns.take (i + 1)).sum = (ns.take i).sum + ns[i] := by rw [List.take_succ_eq_append_getElem hlt, List.sum_append]; simp
        have htl : (ns.take (i + 1)).sum ≤ ns.sum := by
          conv => rhs; rw [← List.take_append_drop (i + 1) ns, List.sum_append]
          omega
        have HTS : Hid ((ns.take (i + 1)).sum = (ns.take i).sum + ns[i] ∧ (ns.take (i + 1)).sum ≤ ns.sum) := ⟨hts, htl⟩
        have hm2 : m + 1 + ns[i] ≤ 4294967296 := by have := hm.out; omega
        have hm1 : 1 ≤ m := by have := hm.out; omega
        have hki : (i : Int) < (ns.length : Int) := by omega
        have HO := hidden hown
        have HM1 := hidden (fun w1 => markText_c m w1 (by omega) (by omega))
        clear hown hv hr hts htl
        go_wp2_with fail
        go_at_call 45
        refine (HM1.out _).mono ?_
        rintro e w1 ⟨rfl, b1⟩
        have r1 := HO.out.kept (grown_of_below b1 none) (by simp [Value.ownBlock])
        have d0 : ∃ x, w1.cell? ⟨g, i * 2, none⟩ = some x := ⟨ys.getD (i * 2) undef, by rw [r1.cellAt _ (by omega)]; simp [List.getD_eq_getElem?_getD, show i * 2 < ys.length by omega]⟩
        obtain ⟨x0, d0⟩ := d0
        have f1 := r1.frozenAt
        have q2 := ((hrr.out.below b1).store (j := i * 2) (x := .string (markStr m)) r1).set0 i (.string (markStr m))
        have r2 := (r1.stored (i * 2) (.string (markStr m))).1
        obtain ⟨u, zs, hu1, hu2, hu3⟩ := q2 i hlt
        have d1 : w1.cell? ⟨g, i * 2 + 1, none⟩ = some u := by
          rw [r1.cellAt _ (by omega)]
          rw [List.getElem?_set_ne (by omega)] at hu1
          exact hu1
        obtain ⟨qu, cu, eu⟩ := owns_sl hu2
        have HMS := markStrs_c u 0 ns[i] zs (m + 1) _ hu2 (by omega) (by omega) (by omega) (Nat.zero_le _)
        rw [show ((m + 1 : Nat) : Int) = (m : Int) + 1 by omega] at HMS
        subst eu
        have HMS2 := hidden HMS
        have HR2 := hidden r2
        have HQ2 := hidden q2
        have HU2 := hidden hu2
        have hnb : ns[i] ≤ 4294967296 := by omega
        have CH1 : Chg S wr (w1.setCell ⟨g, i * 2, none⟩ (.string (markStr m))) := (Chg.of b1).trans (Chg.set hSg)
        have HCH1 := hidden CH1
        clear r1 r2 q2 HMS hu2 hu1 CH1
        go_wp2_with fail
        go_at_call 22
        refine HMS2.out.mono ?_
        rintro e w2 ⟨rfl, u2, g2⟩
        have r3 := HR2.out.kept g2 (by
          right
          intro e
          rcases HU2.out.2 with ⟨hx, _⟩ | ⟨g9, c9, cur9, hx, _, hb9, _⟩
          · rw [hx] at e; simp [Value.ownBlock] at e
          · rw [hx] at e
            simp [Value.ownBlock] at e
            subst e
            rcases HR2.out.2 with ⟨hy, _⟩ | ⟨g8, c8, cur8, hy, _, hb8, _⟩
            · simp at hy
            · simp only [Value.slice.injEq, Option.some.injEq, Addr.mk.injEq, and_true, true_and] at hy
              obtain ⟨rfl, rfl⟩ := hy
              rw [hb9] at hb8
              simp at hb8)
        have q3 : CmdRows w2 S (ys.set (i * 2) (.string (markStr m))) ns := fun j hj => by
          obtain ⟨u', xs', a1, a2, a3⟩ := HQ2.out j hj
          obtain ⟨zs', a4⟩ := owns_over a2 HU2.out u2 g2 (by omega)
          exact ⟨u', zs', a1, a4, a3⟩
        have HQ3 := hidden q3
        have HR3 := hidden r3
        have CH : Chg S wr w2 := HCH1.out.trans (Chg.grown g2 hu3)
        have HCH := hidden CH
        clear r3 q3 CH
        go_wp2_with fail
        go_roundw
        case rel => exact ⟨i + 1, m + 1 + ns[i], _, by omega, by go_num, by simp, (by show _ = _; have := hm.out; have := HTS.out; omega), HR3.out, HQ3.out, hchg.trans HCH.out⟩
        case measure => simp [intOf]; omega
      · have he : i = ns.length := by omega
        subst he
        have hmm : m = k + (ns.length + ns.sum) := by have := hm.out; rw [List.take_length] at this; exact this
        have HMM := hidden hmm
        clear hown hv hr hrr hmm
        go_wp2_with fail
        go_ret
        exact ⟨by rw [← HMM.out]; rfl, hchg⟩

theorem owns_apart {w : World} {lo lo' sz sz' n n' : Nat} {e e' : TypeId} {v v' : Value} {xs xs' : List Value} (h : w.ownsRow lo e sz v n xs) (h' : w.ownsRow lo' e' sz' v' n' xs') (hne : e ≠ e') : v.ownBlock = none ∨ v.ownBlock ≠ v'.ownBlock := by
  rcases h.2 with ⟨rfl, _⟩ | ⟨g, c, cur, rfl, _, hb, _⟩
  · exact .inl rfl
  · right
    intro k
    rcases h'.2 with ⟨rfl, _⟩ | ⟨g', c', cur', rfl, _, hb', _⟩
    · simp [Value.ownBlock] at k
    · simp [Value.ownBlock] at k
      subst k
      rw [hb] at hb'
      simp at hb'
      exact hne hb'.2
theorem cmdRows_of {S : Nat → Prop} {w : World} {ys : List Value} {xs : List CmdD} (h : Laid shCmdO S w ys xs xs.length) : CmdRows w S ys (xs.map fun c => c.acts.length) := fun i hi => by
  have hi' : i < xs.length := by simpa using hi
  obtain ⟨cs, h1, ⟨u, rfl, _, h2, _⟩, h3⟩ := h i hi' hi'
  exact ⟨u, _, h3 1 (by simp), by simpa using h2.1, h2.2⟩
theorem cmds_sum (xs : List CmdD) : (xs.map fun c => c.acts.length).length + (xs.map fun c => c.acts.length).sum ≤ wtRow wtCmd xs := by
  induction xs with
  | nil => simp [wtRow]
  | cons x xs ih =>
    have e : wtRow wtCmd (x :: xs) = (1 + wtCmd x) + wtRow wtCmd xs := by simp [wtRow]
    rw [e]
    simp only [List.map_cons, List.length_cons, List.sum_cons]
    have : x.acts.length ≤ wtCmd x := by unfold wtCmd bulkS; omega
    omega

end Go.Proofs.Ytbhedlobiagngaa

/-! Marks put into rows of needs, and found again, as the law does it: contracts for the walks; conditions: the rows lie in memory, may be written, and there are at most 2 to the 32 marks. -/
namespace Go.Proofs.Ytbhedlobiagngaa
open Go.RowKit
set_option linter.unusedSimpArgs false
set_option linter.unusedVariables false

set_option maxHeartbeats 2000000 in
set_option maxRecDepth 100000 in
theorem markNeedV_c (v : Value) (base n k : Nat) (xs : List Value) (w : World) (hv : w.ownsRow base 105 2 v n xs) (h1 : 1 ≤ k) (h2 : k + n * 2 ≤ 4294967296) :
    Calls Try.prog 46 #[v, .int .i64 (k : Int)] w fun e w' => e = .returned (.int .i64 ((k + n * 2 : Nat) : Int)) ∧ w'.ownsRow base 105 2 v n (strsV (marksS k (n * 2))) ∧ w.grownBy w' v.ownBlock := by
  rcases id hv.2 with ⟨rfl, rfl⟩ | ⟨g, cap, cur, rfl, _, hgb, hcap, hmax, _⟩
  · have hx : xs = [] := List.eq_nil_of_length_eq_zero (by simpa using hv.1)
    subst hx
    have HV := hidden hv
    clear hv
    go_enter Try.func46, Try.ntmps46
    go_wp2_with fail
    go_loopw [1, 5] (fun vk vi wr => vk = .int .i64 (k : Int) ∧ vi = .int .i64 0 ∧ wr = w) (fun _ _ _ => 0)
    case atStart => exact ⟨rfl, rfl, rfl⟩
    case round =>
      obtain ⟨rfl, rfl, rfl⟩ := hrel
      go_wp2_with fail
      go_ret
      exact ⟨by simp, HV.out, World.grownBy.refl _ _⟩
  · unfold maxLen at hmax
    have hl := hv.1
    clear hgb
    go_enter Try.func46, Try.ntmps46
    go_wp2_with fail
    go_loopw [1, 5] (fun vk vi wr => ∃ (i m : Nat) (ys : List Value), i ≤ n ∧ vi = .int .i64 (i : Int) ∧ vk = .int .i64 (m : Int) ∧ Hid (m = k + i * 2) ∧ wr.ownsRow base 105 2 (.slice (some ⟨g, 0, none⟩) n cap) n ys ∧ Hid (ys.length = n * 2 ∧ ∀ j, j < i * 2 → ys[j]? = (strsV (marksS k (n * 2)))[j]?) ∧ Hid (w.grownBy wr (some g))) (fun _ vi _ => n - (intOf vi).toNat)
    case atStart => exact ⟨0, k, xs, Nat.zero_le _, rfl, rfl, by show _ = _; omega, hv, ⟨hl, fun j hj => by omega⟩, World.grownBy.refl _ _⟩
    case round =>
      obtain ⟨i, m, ys, hi, rfl, rfl, hm, hown, hy, hgr⟩ := hrel
      by_cases hlt : i < n
      · have hlen := hown.1
        have hm2 : m + 2 ≤ 4294967296 := by have := hm.out; omega
        have hm1 : 1 ≤ m := by have := hm.out; omega
        have hki : (i : Int) < (n : Int) := by omega
        have HO := hidden hown
        have HM1 := hidden (fun w1 => markText_c m w1 (by omega) (by omega))
        have HM2 : Hid (∀ w1, Calls Try.prog 45 #[.int .i64 ((m : Int) + 1)] w1 fun e w' => e = .returned (.string (markStr (m + 1))) ∧ Below w1.heap.size w1 w') := fun w1 => by
          have := markText_c (m + 1) w1 (by omega) (by omega)
          rw [show ((m + 1 : Nat) : Int) = (m : Int) + 1 by omega] at this
          exact this
        have HY1 : Hid ((ys.set (i * 2) (.string (markStr m))).length = n * 2 ∧ ∀ j, j < i * 2 + 1 → (ys.set (i * 2) (.string (markStr m)))[j]? = (strsV (marksS k (n * 2)))[j]?) := set_step (by omega) hy.out (by rw [marksS_at _ _ _ (by omega), hm.out])
        have HY2 : Hid (((ys.set (i * 2) (.string (markStr m))).set (i * 2 + 1) (.string (markStr (m + 1)))).length = n * 2 ∧ ∀ j, j < i * 2 + 1 + 1 → ((ys.set (i * 2) (.string (markStr m))).set (i * 2 + 1) (.string (markStr (m + 1))))[j]? = (strsV (marksS k (n * 2)))[j]?) := set_step (by omega) HY1.out (by rw [marksS_at _ _ _ (by omega), hm.out]; congr 3)
        clear hown hv hy HY1
        go_wp2_with fail
        go_at_call 45
        refine (HM1.out _).mono ?_
        rintro e w1 ⟨rfl, b1⟩
        have r1 := HO.out.kept (grown_of_below b1 none) (by simp [Value.ownBlock])
        have d0 : ∃ x, w1.cell? ⟨g, i * 2, none⟩ = some x := ⟨ys.getD (i * 2) undef, by rw [r1.cellAt _ (by omega)]; simp [List.getD_eq_getElem?_getD, show i * 2 < ys.length by omega]⟩
        obtain ⟨x0, d0⟩ := d0
        have f1 := r1.frozenAt
        have r2 := r1.stored (i * 2) (.string (markStr m))
        have HR2 := hidden r2
        clear r1 r2
        go_wp2_with fail
        go_at_call 45
        refine (HM2.out _).mono ?_
        rintro e w2 ⟨rfl, b2⟩
        have r3 := HR2.out.1.kept (grown_of_below b2 none) (by simp [Value.ownBlock])
        have hl3 := r3.1
        have d1 : ∃ x, w2.cell? ⟨g, i * 2 + 1, none⟩ = some x := ⟨(ys.set (i * 2) (.string (markStr m))).getD (i * 2 + 1) undef, by rw [r3.cellAt _ (by omega)]; simp [List.getD_eq_getElem?_getD, show i * 2 + 1 < ys.length by omega]⟩
        obtain ⟨x1, d1⟩ := d1
        have f2 := r3.frozenAt
        have r4 := r3.stored (i * 2 + 1) (.string (markStr (m + 1)))
        have HR4 := hidden r4
        have HG := hidden (grown_trans (grown_trans (grown_trans (grown_trans hgr.out (grown_of_below b1 _)) HR2.out.2) (grown_of_below b2 _)) r4.2)
        clear r3 r4
        go_wp2_with fail
        go_roundw
        case rel => exact ⟨i + 1, m + 2, _, by omega, by go_num, by simp; omega, (by show _ = _; have := hm.out; omega), HR4.out.1, ⟨HY2.out.1, fun j hj => HY2.out.2 j (by omega)⟩, HG⟩
        case measure => simp [intOf]; omega
      · have he : i = n := by omega
        subst he
        have HMM := hidden hm.out
        have e : ys = strsV (marksS k (i * 2)) := list_done hy.out.1 (by simp) hy.out.2
        have HE := hidden e
        have HO := hidden hown
        clear hown hv e
        go_wp2_with fail
        go_ret
        refine ⟨by rw [← HMM.out]; rfl, ?_, hgr.out⟩
        rw [← HE.out]
        exact HO.out

end Go.Proofs.Ytbhedlobiagngaa

/-! Marks put into rows of packs, as the law puts them: a contract for the walks; conditions: the rows lie in memory, may be written, and there are at most 2 to the 32 marks. -/
namespace Go.Proofs.Ytbhedlobiagngaa
open Go.RowKit
set_option linter.unusedSimpArgs false
set_option linter.unusedVariables false

/-- What stays where marks are put into texts, and into rows of commands. -/
structure InvC (I : World → Prop) : Prop where
  below : ∀ w w', I w → Below w.heap.size w w' → I w'
  cmd : ∀ w g i n cap zs x, I w → w.ownsRow 0 107 2 (.slice (some ⟨g, 0, none⟩) n cap) n zs → I (w.setCell ⟨g, i * 2, none⟩ (.string x))
  strs : ∀ w w' u n z z', I w → w.ownsRow 0 9 1 u n z → w'.ownsRow 0 9 1 u n z' → w.grownBy w' u.ownBlock → I w'

set_option maxHeartbeats 2000000 in
set_option maxRecDepth 100000 in
theorem markCmdSI_c (I : World → Prop) (hC : InvC I) (S : Nat → Prop) (v : Value) (ns : List Nat) (k : Nat) (xs : List Value) (w : World) (hv : w.ownsRow 0 107 2 v ns.length xs) (hg : ∀ g, v.ownBlock = some g → S g) (hr : CmdRows w S xs ns) (hI : I w) (h1 : 1 ≤ k) (h2 : k + (ns.length + ns.sum) ≤ 4294967296) :
    Calls Try.prog 47 #[v, .int .i64 (k : Int)] w fun e w' => e = .returned (.int .i64 ((k + (ns.length + ns.sum) : Nat) : Int)) ∧ Chg S w w' ∧ I w' := by
  rcases id hv.2 with ⟨rfl, hn0⟩ | ⟨g, cap, cur, rfl, _, hgb, hcap, hmax, _⟩
  · have hns : ns = [] := List.eq_nil_of_length_eq_zero hn0
    subst hns
    have HII := hidden hI
    clear hv hg hr hI
    go_enter Try.func47, Try.ntmps47
    go_wp2_with fail
    go_loopw [1, 5] (fun vk vi wr => vk = .int .i64 (k : Int) ∧ vi = .int .i64 0 ∧ wr = w) (fun _ _ _ => 0)
    case atStart => exact ⟨rfl, rfl, rfl⟩
    case round =>
      obtain ⟨rfl, rfl, rfl⟩ := hrel
      go_wp2_with fail
      go_ret
      exact ⟨by simp, Chg.refl _ _, HII.out⟩
  · have hSg := hg g rfl
    unfold maxLen at hmax
    have HII := hidden hI
    clear hgb hg hI
    go_enter Try.func47, Try.ntmps47
    go_wp2_with fail
    go_loopw [1, 5] (fun vk vi wr => ∃ (i m : Nat) (ys : List Value), i ≤ ns.length ∧ vi = .int .i64 (i : Int) ∧ vk = .int .i64 (m : Int) ∧ Hid (m = k + (i + (ns.take i).sum)) ∧ wr.ownsRow 0 107 2 (.slice (some ⟨g, 0, none⟩) ns.length cap) ns.length ys ∧ Hid (CmdRows wr S ys ns) ∧ Hid (I wr) ∧ Chg S w wr) (fun _ vi _ => ns.length - (intOf vi).toNat)
    case atStart => exact ⟨0, k, xs, Nat.zero_le _, rfl, rfl, by show _ = _; simp, hv, hr, HII, Chg.refl _ _⟩
    case round =>
      obtain ⟨i, m, ys, hi, rfl, rfl, hm, hown, hrr, hII, hchg⟩ := hrel
      by_cases hlt : i < ns.length
      · have hlen := hown.1
        have hts : (ns.take (i + 1)).sum = (ns.take i).sum + ns[i] := by rw [List.take_succ_eq_append_getElem hlt, List.sum_append]; simp
        have htl : (ns.take (i + 1)).sum ≤ ns.sum := by
          conv => rhs; rw [← List.take_append_drop (i + 1) ns, List.sum_append]
          omega
        have HTS : Hid ((ns.take (i + 1)).sum = (ns.take i).sum + ns[i] ∧ (ns.take (i + 1)).sum ≤ ns.sum) := ⟨hts, htl⟩
        have hm2 : m + 1 + ns[i] ≤ 4294967296 := by have := hm.out; omega
        have hm1 : 1 ≤ m := by have := hm.out; omega
        have hki : (i : Int) < (ns.length : Int) := by omega
        have HO := hidden hown
        have HM1 := hidden (fun w1 => markText_c m w1 (by omega) (by omega))
        clear hown hv hr hts htl
        go_wp2_with fail
        go_at_call 45
        refine (HM1.out _).mono ?_
        rintro e w1 ⟨rfl, b1⟩
        have r1 := HO.out.kept (grown_of_below b1 none) (by simp [Value.ownBlock])
        have d0 : ∃ x, w1.cell? ⟨g, i * 2, none⟩ = some x := ⟨ys.getD (i * 2) undef, by rw [r1.cellAt _ (by omega)]; simp [List.getD_eq_getElem?_getD, show i * 2 < ys.length by omega]⟩
        obtain ⟨x0, d0⟩ := d0
        have f1 := r1.frozenAt
        have q2 := ((hrr.out.below b1).store (j := i * 2) (x := .string (markStr m)) r1).set0 i (.string (markStr m))
        have r2 := (r1.stored (i * 2) (.string (markStr m))).1
        have HJ2 := hidden (hC.cmd _ _ i _ _ _ (markStr m) (hC.below _ _ hII.out b1) r1)
        obtain ⟨u, zs, hu1, hu2, hu3⟩ := q2 i hlt
        have d1 : w1.cell? ⟨g, i * 2 + 1, none⟩ = some u := by
          rw [r1.cellAt _ (by omega)]
          rw [List.getElem?_set_ne (by omega)] at hu1
          exact hu1
        obtain ⟨qu, cu, eu⟩ := owns_sl hu2
        have HMS := markStrs_c u 0 ns[i] zs (m + 1) _ hu2 (by omega) (by omega) (by omega) (Nat.zero_le _)
        rw [show ((m + 1 : Nat) : Int) = (m : Int) + 1 by omega] at HMS
        subst eu
        have HMS2 := hidden HMS
        have HR2 := hidden r2
        have HQ2 := hidden q2
        have HU2 := hidden hu2
        have hnb : ns[i] ≤ 4294967296 := by omega
        have CH1 : Chg S wr (w1.setCell ⟨g, i * 2, none⟩ (.string (markStr m))) := (Chg.of b1).trans (Chg.set hSg)
        have HCH1 := hidden CH1
        clear r1 r2 q2 HMS hu2 hu1 CH1
        go_wp2_with fail
        go_at_call 22
        refine HMS2.out.mono ?_
        rintro e w2 ⟨rfl, u2, g2⟩
        have r3 := HR2.out.kept g2 (by
          right
          intro e
          rcases HU2.out.2 with ⟨hx, _⟩ | ⟨g9, c9, cur9, hx, _, hb9, _⟩
          · rw [hx] at e; simp [Value.ownBlock] at e
          · rw [hx] at e
            simp [Value.ownBlock] at e
            subst e
            rcases HR2.out.2 with ⟨hy, _⟩ | ⟨g8, c8, cur8, hy, _, hb8, _⟩
            · simp at hy
            · simp only [Value.slice.injEq, Option.some.injEq, Addr.mk.injEq, and_true, true_and] at hy
              obtain ⟨rfl, rfl⟩ := hy
              rw [hb9] at hb8
              simp at hb8)
        have q3 : CmdRows w2 S (ys.set (i * 2) (.string (markStr m))) ns := fun j hj => by
          obtain ⟨u', xs', a1, a2, a3⟩ := HQ2.out j hj
          obtain ⟨zs', a4⟩ := owns_over a2 HU2.out u2 g2 (by omega)
          exact ⟨u', zs', a1, a4, a3⟩
        have HQ3 := hidden q3
        have HJ3 := hidden (hC.strs _ _ _ _ _ _ HJ2.out HU2.out u2 g2)
        have HR3 := hidden r3
        have CH : Chg S wr w2 := HCH1.out.trans (Chg.grown g2 hu3)
        have HCH := hidden CH
        clear r3 q3 CH
        go_wp2_with fail
        go_roundw
        case rel => exact ⟨i + 1, m + 1 + ns[i], _, by omega, by go_num, by simp, (by show _ = _; have := hm.out; have := HTS.out; omega), HR3.out, HQ3.out, HJ3, hchg.trans HCH.out⟩
        case measure => simp [intOf]; omega
      · have he : i = ns.length := by omega
        subst he
        have hmm : m = k + (ns.length + ns.sum) := by have := hm.out; rw [List.take_length] at this; exact this
        have HMM := hidden hmm
        clear hown hv hr hrr hmm
        go_wp2_with fail
        go_ret
        exact ⟨by rw [← HMM.out]; rfl, hchg, hII.out⟩

theorem own_putP {w : World} {lo lo' sz sz' n n' g j cap : Nat} {e e' : TypeId} {u x : Value} {zs ys : List Value} (h : w.ownsRow lo e sz u n zs) (hg : w.ownsRow lo' e' sz' (.slice (some ⟨g, 0, none⟩) n' cap) n' ys) (hne : e ≠ e') : (w.setCell ⟨g, j, none⟩ x).ownsRow lo e sz u n zs := by
  refine owns_kept (S := fun b => b ≠ g) (Kp.set (fun k => k rfl)) (fun g' hg' => ?_) h
  rintro rfl
  rcases owns_apart h hg hne with k | k
  · rw [k] at hg'; cases hg'
  · exact k (by rw [hg']; rfl)
theorem owns_setAny {w : World} {lo sz n : Nat} {e : TypeId} {u : Value} {zs : List Value} (h : w.ownsRow lo e sz u n zs) (g j : Nat) (x : Value) : ∃ zs', (w.setCell ⟨g, j, none⟩ x).ownsRow lo e sz u n zs' ∧ (zs' = zs ∨ zs' = zs.set j x) := by
  by_cases hg : u.ownBlock = some g
  · rcases id h.2 with ⟨rfl, _⟩ | ⟨g2, c2, cur2, rfl, _⟩
    · simp [Value.ownBlock] at hg
    · simp [Value.ownBlock] at hg
      subst hg
      exact ⟨_, (h.stored j x).1, .inr rfl⟩
  · exact ⟨zs, owns_kept (S := fun b => b ≠ g) (Kp.set (fun k => k rfl)) (fun g' hg' => by rintro rfl; exact hg hg') h, .inl rfl⟩
theorem CmdRows.put {w : World} {S : Nat → Prop} {ys : List Value} {ns : List Nat} {lo' sz' n' g j cap : Nat} {e' : TypeId} {zs : List Value} {x : Value} (h : CmdRows w S ys ns) (hg : w.ownsRow lo' e' sz' (.slice (some ⟨g, 0, none⟩) n' cap) n' zs) (hne : 9 ≠ e') : CmdRows (w.setCell ⟨g, j, none⟩ x) S ys ns := fun i hi => by
  obtain ⟨u, xs, h1, h2, h3⟩ := h i hi
  exact ⟨u, xs, h1, own_putP h2 hg hne, h3⟩
theorem CmdRows.overS {w w' : World} {S : Nat → Prop} {ys : List Value} {ns : List Nat} {u : Value} {n : Nat} {z z' : List Value} (h : CmdRows w S ys ns) (h0 : w.ownsRow 0 9 1 u n z) (h1 : w'.ownsRow 0 9 1 u n z') (hg : w.grownBy w' u.ownBlock) : CmdRows w' S ys ns := fun i hi => by
  obtain ⟨u', xs', a1, a2, a3⟩ := h i hi
  obtain ⟨zs', a4⟩ := owns_over a2 h0 h1 hg (by omega)
  exact ⟨u', zs', a1, a4, a3⟩
theorem CmdRows.overN {w w' : World} {S : Nat → Prop} {ys : List Value} {ns : List Nat} {u : Value} {n : Nat} {z : List Value} (h : CmdRows w S ys ns) (h0 : w.ownsRow 0 105 2 u n z) (hg : w.grownBy w' u.ownBlock) : CmdRows w' S ys ns := fun i hi => by
  obtain ⟨u', xs', a1, a2, a3⟩ := h i hi
  exact ⟨u', xs', a1, a2.kept hg (owns_apart a2 h0 (by decide)), a3⟩
/-- The rows of a row of packs: each may be written. -/
def PackRows (w : World) (S : Nat → Prop) (ys : List Value) (xs : List PackD) : Prop := ∀ i (h : i < xs.length), ∃ u0 u1 u2 z0 z1 z2, ys[i * 4 + 1]? = some u0 ∧ ys[i * 4 + 2]? = some u1 ∧ ys[i * 4 + 3]? = some u2 ∧ w.ownsRow 0 9 1 u0 xs[i].uses.length z0 ∧ (∀ g, u0.ownBlock = some g → S g) ∧ w.ownsRow 0 105 2 u1 xs[i].needs.length z1 ∧ (∀ g, u1.ownBlock = some g → S g) ∧ w.ownsRow 0 107 2 u2 xs[i].cmds.length z2 ∧ (∀ g, u2.ownBlock = some g → S g) ∧ CmdRows w S z2 (xs[i].cmds.map fun c => c.acts.length)
theorem PackRows.set {w : World} {S : Nat → Prop} {ys : List Value} {xs : List PackD} (h : PackRows w S ys xs) (i : Nat) (v : Value) : PackRows w S (ys.set (i * 4) v) xs := fun j hj => by
  obtain ⟨u0, u1, u2, z0, z1, z2, h1, h2, h3, h4⟩ := h j hj
  exact ⟨u0, u1, u2, z0, z1, z2, by rw [List.getElem?_set_ne (by omega)]; exact h1, by rw [List.getElem?_set_ne (by omega)]; exact h2, by rw [List.getElem?_set_ne (by omega)]; exact h3, h4⟩
theorem owns_belowP {w w' : World} {lo sz n : Nat} {e : TypeId} {u : Value} {zs : List Value} (h : w.ownsRow lo e sz u n zs) (hb : Below w.heap.size w w') : w'.ownsRow lo e sz u n zs := owns_kept (S := fun b => b < w.heap.size) (.of hb (fun b h => h)) (fun g hg => (owns_in h g hg).2) h
theorem PackRows.below {w w' : World} {S : Nat → Prop} {ys : List Value} {xs : List PackD} (h : PackRows w S ys xs) (hb : Below w.heap.size w w') : PackRows w' S ys xs := fun j hj => by
  obtain ⟨u0, u1, u2, z0, z1, z2, h1, h2, h3, a0, i0, a1, i1, a2, i2, c⟩ := h j hj
  exact ⟨u0, u1, u2, z0, z1, z2, h1, h2, h3, owns_belowP a0 hb, i0, owns_belowP a1 hb, i1, owns_belowP a2 hb, i2, c.below hb⟩
theorem PackRows.store {w : World} {S : Nat → Prop} {ys : List Value} {xs : List PackD} {g j n cap : Nat} {zs : List Value} {x : Value} (h : PackRows w S ys xs) (hg : w.ownsRow 0 33 4 (.slice (some ⟨g, 0, none⟩) n cap) n zs) : PackRows (w.setCell ⟨g, j, none⟩ x) S ys xs := fun i hi => by
  obtain ⟨u0, u1, u2, z0, z1, z2, h1, h2, h3, a0, i0, a1, i1, a2, i2, c⟩ := h i hi
  exact ⟨u0, u1, u2, z0, z1, z2, h1, h2, h3, own_putP a0 hg (by decide), i0, own_putP a1 hg (by decide), i1, own_putP a2 hg (by decide), i2, c.put hg (by decide)⟩
theorem PackRows.cmd {w : World} {S : Nat → Prop} {ys : List Value} {xs : List PackD} {g i n cap : Nat} {zs : List Value} {x : ByteArray} (h : PackRows w S ys xs) (hg : w.ownsRow 0 107 2 (.slice (some ⟨g, 0, none⟩) n cap) n zs) : PackRows (w.setCell ⟨g, i * 2, none⟩ (.string x)) S ys xs := fun j hj => by
  obtain ⟨u0, u1, u2, z0, z1, z2, h1, h2, h3, a0, i0, a1, i1, a2, i2, c⟩ := h j hj
  obtain ⟨z3, a3, hz⟩ := owns_setAny a2 g (i * 2) (.string x)
  refine ⟨u0, u1, u2, z0, z1, z3, h1, h2, h3, own_putP a0 hg (by decide), i0, own_putP a1 hg (by decide), i1, a3, i2, ?_⟩
  rcases hz with rfl | rfl
  · exact c.store hg
  · exact (c.store hg).set0 i _
theorem PackRows.overS {w w' : World} {S : Nat → Prop} {ys : List Value} {xs : List PackD} {u : Value} {n : Nat} {z z' : List Value} (h : PackRows w S ys xs) (h0 : w.ownsRow 0 9 1 u n z) (h1 : w'.ownsRow 0 9 1 u n z') (hg : w.grownBy w' u.ownBlock) : PackRows w' S ys xs := fun i hi => by
  obtain ⟨u0, u1, u2, z0, z1, z2, e1, e2, e3, a0, i0, a1, i1, a2, i2, c⟩ := h i hi
  obtain ⟨z9, a9⟩ := owns_over a0 h0 h1 hg (by omega)
  exact ⟨u0, u1, u2, z9, z1, z2, e1, e2, e3, a9, i0, a1.kept hg (owns_apart a1 h0 (by decide)), i1, a2.kept hg (owns_apart a2 h0 (by decide)), i2, c.overS h0 h1 hg⟩
theorem PackRows.overN {w w' : World} {S : Nat → Prop} {ys : List Value} {xs : List PackD} {u : Value} {n : Nat} {z z' : List Value} (h : PackRows w S ys xs) (h0 : w.ownsRow 0 105 2 u n z) (h1 : w'.ownsRow 0 105 2 u n z') (hg : w.grownBy w' u.ownBlock) : PackRows w' S ys xs := fun i hi => by
  obtain ⟨u0, u1, u2, z0, z1, z2, e1, e2, e3, a0, i0, a1, i1, a2, i2, c⟩ := h i hi
  obtain ⟨z9, a9⟩ := owns_over a1 h0 h1 hg (by omega)
  exact ⟨u0, u1, u2, z0, z9, z2, e1, e2, e3, a0.kept hg (owns_apart a0 h0 (by decide)), i0, a9, i1, a2.kept hg (owns_apart a2 h0 (by decide)), i2, c.overN h0 hg⟩
theorem packRows_of {S : Nat → Prop} {w : World} {ys : List Value} {xs : List PackD} (h : Laid shPackO S w ys xs xs.length) : PackRows w S ys xs := fun i hi => by
  obtain ⟨cs, h1, ⟨u0, u1, u2, rfl, _, r0, _, r1, r2⟩, h4⟩ := h i hi hi
  obtain ⟨_, y1, o1, in1, _⟩ := r1
  obtain ⟨_, y2, o2, in2, la2⟩ := r2
  exact ⟨u0, u1, u2, _, _, _, h4 1 (by simp), h4 2 (by simp), h4 3 (by simp), r0.1, r0.2, o1, in1, o2, in2, cmdRows_of la2⟩
/-- A row of packs, and the rows in it. -/
def InPack (S : Nat → Prop) (v : Value) (ys : List Value) (xs : List PackD) (w : World) : Prop := w.ownsRow 0 33 4 v xs.length ys ∧ PackRows w S ys xs
theorem inPack_inv (S : Nat → Prop) (v : Value) (ys : List Value) (xs : List PackD) : InvC (InPack S v ys xs) where
  below w w' h hb := ⟨owns_belowP h.1 hb, h.2.below hb⟩
  cmd w g i n cap zs x h hg := ⟨own_putP h.1 hg (by decide), h.2.cmd hg⟩
  strs w w' u n z z' h h0 h1 hg := ⟨h.1.kept hg (owns_apart h.1 h0 (by decide)), h.2.overS h0 h1 hg⟩
def cntK (d : PackD) : Nat := 1 + d.uses.length + d.needs.length * 2 + ((d.cmds.map fun c => c.acts.length).length + (d.cmds.map fun c => c.acts.length).sum)
def cntKs (xs : List PackD) : Nat := (xs.map cntK).sum
theorem cntKs_take (xs : List PackD) (i : Nat) (h : i < xs.length) : cntKs (xs.take (i + 1)) = cntKs (xs.take i) + cntK xs[i] := by
  unfold cntKs
  rw [List.take_succ_eq_append_getElem h, List.map_append, List.sum_append]; simp
theorem cntKs_le (xs : List PackD) (i : Nat) : cntKs (xs.take i) ≤ cntKs xs := by
  unfold cntKs
  conv => rhs; rw [← List.take_append_drop i xs, List.map_append, List.sum_append]
  omega
theorem cntK_wt (d : PackD) : cntK d ≤ 4 * (1 + wtPack d) := by
  have h1 := len_wtRow wtNeed d.needs
  have h2 := cmds_sum d.cmds
  unfold cntK wtPack bulkS
  omega
theorem cntKs_wt : ∀ xs : List PackD, cntKs xs ≤ 4 * wtRow wtPack xs
  | [] => by simp [cntKs]
  | d :: xs => by
    have h1 := cntKs_wt xs
    have h2 := cntK_wt d
    have e1 : cntKs (d :: xs) = cntK d + cntKs xs := by simp [cntKs]
    have e2 : wtRow wtPack (d :: xs) = (1 + wtPack d) + wtRow wtPack xs := by simp [wtRow]
    omega

set_option maxHeartbeats 8000000 in
set_option maxRecDepth 100000 in
theorem markPackS_c (S : Nat → Prop) (v : Value) (xs : List PackD) (k : Nat) (w : World) (hv : RowOwn shPackO 33 S w v xs) (h1 : 1 ≤ k) (h2 : k + cntKs xs ≤ 4294967296) :
    Calls Try.prog 21 #[v, .int .i64 (k : Int)] w fun e w' => e = .returned (.int .i64 ((k + cntKs xs : Nat) : Int)) ∧ Chg S w w' := by
  obtain ⟨_, zs, hv, hg, hld⟩ := hv
  have hr := packRows_of hld
  clear hld
  have hv : w.ownsRow 0 33 4 v xs.length zs := hv
  rcases id hv.2 with ⟨rfl, hn0⟩ | ⟨g, cap, cur, rfl, _, hgb, hcap, hmax, _⟩
  · have hns : xs = [] := List.eq_nil_of_length_eq_zero hn0
    subst hns
    clear hv hg hr
    go_enter Try.func21, Try.ntmps21
    go_wp2_with fail
    go_loopw [1, 5] (fun vk vi wr => vk = .int .i64 (k : Int) ∧ vi = .int .i64 0 ∧ wr = w) (fun _ _ _ => 0)
    case atStart => exact ⟨rfl, rfl, rfl⟩
    case round =>
      obtain ⟨rfl, rfl, rfl⟩ := hrel
      go_wp2_with fail
      go_ret
      exact ⟨by simp [cntKs], Chg.refl _ _⟩
  · have hSg := hg g rfl
    unfold maxLen at hmax
    clear hgb hg
    go_enter Try.func21, Try.ntmps21
    go_wp2_with fail
    go_loopw [1, 5] (fun vk vi wr => ∃ (i m : Nat) (ys : List Value), i ≤ xs.length ∧ vi = .int .i64 (i : Int) ∧ vk = .int .i64 (m : Int) ∧ Hid (m = k + cntKs (xs.take i)) ∧ wr.ownsRow 0 33 4 (.slice (some ⟨g, 0, none⟩) xs.length cap) xs.length ys ∧ Hid (PackRows wr S ys xs) ∧ Chg S w wr) (fun _ vi _ => xs.length - (intOf vi).toNat)
    case atStart => exact ⟨0, k, zs, Nat.zero_le _, rfl, rfl, by show _ = _; simp [cntKs], hv, hr, Chg.refl _ _⟩
    case round =>
      obtain ⟨i, m, ys, hi, rfl, rfl, hm, hown, hrr, hchg⟩ := hrel
      by_cases hlt : i < xs.length
      · have hlen := hown.1
        obtain ⟨NS, hNS⟩ : ∃ l : List Nat, l = xs[i].cmds.map fun c => c.acts.length := ⟨_, rfl⟩
        have hNL : NS.length = xs[i].cmds.length := by rw [hNS]; simp
        have HNS := hidden (And.intro hNS hNL)
        obtain ⟨P, hP⟩ : ∃ P, P = xs[i].uses.length := ⟨_, rfl⟩
        obtain ⟨Q, hQ⟩ : ∃ Q, Q = xs[i].needs.length := ⟨_, rfl⟩
        obtain ⟨R, hR⟩ : ∃ R, R = NS.length + NS.sum := ⟨_, rfl⟩
        have HTS : Hid (cntKs (xs.take (i + 1)) = cntKs (xs.take i) + (1 + P + Q * 2 + R) ∧ cntKs (xs.take (i + 1)) ≤ cntKs xs) := ⟨by rw [cntKs_take xs i hlt, hP, hQ, hR, hNS]; rfl, cntKs_le xs (i + 1)⟩
        have HP := hidden hP
        have HQ := hidden hQ
        have HR := hidden hR
        have hm2 : m + 1 + P + Q * 2 + R ≤ 4294967296 := by have := hm.out; have := HTS.out; omega
        have hm1 : 1 ≤ m := by have := hm.out; omega
        have hki : (i : Int) < (xs.length : Int) := by omega
        have HO := hidden hown
        have HM1 := hidden (fun w1 => markText_c m w1 (by omega) (by omega))
        clear hown hv hr hP hQ hR hNS hNL
        go_wp2_with fail
        go_at_call 45
        refine (HM1.out _).mono ?_
        rintro e w1 ⟨rfl, b1⟩
        have r1 := HO.out.kept (grown_of_below b1 none) (by simp [Value.ownBlock])
        have f1 := r1.frozenAt
        have d0 : ∃ x, w1.cell? ⟨g, i * 4, none⟩ = some x := ⟨ys.getD (i * 4) undef, by rw [r1.cellAt _ (by omega)]; simp [List.getD_eq_getElem?_getD, show i * 4 < ys.length by omega]⟩
        obtain ⟨c0, d0⟩ := d0
        have q1 := hrr.out.below b1
        have s0 := r1.stored (i * 4) (.string (markStr m))
        have q2 := (q1.store (j := i * 4) (x := .string (markStr m)) r1).set i (.string (markStr m))
        obtain ⟨u0, u1, u2, z0, z1, z2, hu1, hu2, hu3, a0, i0, a1, i1, a2, i2, cc⟩ := q2 i hlt
        rw [← HP.out] at a0
        have d1 : w1.cell? ⟨g, i * 4 + 1, none⟩ = some u0 := by
          rw [r1.cellAt _ (by omega)]
          rw [List.getElem?_set_ne (by omega)] at hu1
          exact hu1
        obtain ⟨qu, cu, eu⟩ := owns_sl a0
        have HMS := markStrs_c u0 0 P z0 (m + 1) _ a0 (by omega) (by omega) (by omega) (Nat.zero_le _)
        rw [show ((m + 1 : Nat) : Int) = (m : Int) + 1 by omega] at HMS
        subst eu
        have CH1 : Chg S wr (w1.setCell ⟨g, i * 4, none⟩ (.string (markStr m))) := (Chg.of b1).trans (Chg.set hSg)
        have HMS2 := hidden HMS
        have HR2 := hidden s0.1
        have HQ2 := hidden q2
        have HU2 := hidden a0
        have HCH1 := hidden CH1
        clear r1 s0 q1 q2 HMS hu1 hu2 hu3 a0 a1 i1 a2 i2 cc CH1
        go_wp2_with fail
        go_at_call 22
        refine HMS2.out.mono ?_
        rintro e w2 ⟨rfl, y2, g2⟩
        have r3 := HR2.out.kept g2 (owns_apart HR2.out HU2.out (by decide))
        have q6 := HQ2.out.overS HU2.out y2 g2
        obtain ⟨t0, t1, t2, x0, x1, x2, hv1, hv2, hv3, e0, j0, e1, j1, e2, j2, cc⟩ := q6 i hlt
        rw [← HQ.out] at e1
        have hl3 := r3.1
        have d2 : w2.cell? ⟨g, i * 4 + 2, none⟩ = some t1 := by
          rw [r3.cellAt _ (by omega)]
          exact hv2
        obtain ⟨qt, ct, et⟩ := owns_sl e1
        have HMN := markNeedV_c t1 0 Q (m + 1 + P) x1 _ e1 (by omega) (by omega)
        rw [show ((m + 1 + P : Nat) : Int) = (m : Int) + 1 + (P : Int) by omega] at HMN
        subst et
        have HMN2 := hidden HMN
        have HR3 := hidden r3
        have HQ3 := hidden q6
        have HU3 := hidden e1
        have HCH2 := hidden (HCH1.out.trans (Chg.grown g2 i0))
        clear r3 q6 HMN hv1 hv2 hv3 e0 j0 e1 e2 j2 y2 cc
        go_wp2_with fail
        go_at_call 46
        refine HMN2.out.mono ?_
        rintro e w3 ⟨rfl, y3, g3⟩
        have r4 := HR3.out.kept g3 (owns_apart HR3.out HU3.out (by decide))
        have q7 := HQ3.out.overN HU3.out y3 g3
        obtain ⟨t0', t1', t2, x0', x1', x2, hv1, hv2, hv3, e0, j0, e1, j1', e2, j2, cc⟩ := q7 i hlt
        rw [← HNS.out.2] at e2
        rw [← HNS.out.1] at cc
        have hl4 := r4.1
        have d3 : w3.cell? ⟨g, i * 4 + 3, none⟩ = some t2 := by
          rw [r4.cellAt _ (by omega)]
          exact hv3
        obtain ⟨qt2, ct2, et2⟩ := owns_sl e2
        have hRo := HR.out
        have HMC := markCmdSI_c (InPack S (.slice (some ⟨g, 0, none⟩) xs.length cap) _ xs) (inPack_inv _ _ _ _) S t2 NS (m + 1 + P + Q * 2) x2 w3 e2 j2 cc ⟨r4, q7⟩ (by omega) (by omega)
        rw [show ((m + 1 + P + Q * 2 : Nat) : Int) = (m : Int) + 1 + (P : Int) + ((Q * 2 : Nat) : Int) by omega, ← hRo] at HMC
        rw [show ((m + 1 + P + Q * 2 + R : Nat) : Int) = (((m + 1 + P + Q * 2 + R : Nat)) : Int) from rfl] at HMC
        subst et2
        have HMC2 := hidden HMC
        have HCH3 := hidden (HCH2.out.trans (Chg.grown g3 j1))
        clear r4 q7 HMC hv1 hv2 hv3 e0 j0 e1 e2 cc y3 hRo
        go_wp2_with fail
        go_at_call 47
        refine HMC2.out.mono ?_
        rintro e w4 ⟨rfl, ch4, i4⟩
        have HI4 := hidden i4
        have HCH4 := hidden (HCH3.out.trans ch4)
        clear i4 ch4
        go_wp2_with fail
        go_roundw
        case rel => exact ⟨i + 1, m + 1 + P + Q * 2 + R, _, by omega, by go_num, by first | rfl | (simp; done) | (simp; omega), (by show _ = _; have := hm.out; have := HTS.out; omega), HI4.out.1, HI4.out.2, hchg.trans HCH4.out⟩
        case measure => simp [intOf]; omega
      · have he : i = xs.length := by omega
        subst he
        have hmm : m = k + cntKs xs := by have := hm.out; rw [List.take_length] at this; exact this
        have HMM := hidden hmm
        clear hown hv hr hrr hmm
        go_wp2_with fail
        go_ret
        exact ⟨by rw [← HMM.out]; rfl, hchg⟩
end Go.Proofs.Ytbhedlobiagngaa

/-! How much needs hold, as the law counts it: contracts for the walks; conditions: at most 2 to the 20 is left to count. -/
namespace Go.Proofs.Ytbhedlobiagngaa
open Go.RowKit
set_option linter.unusedSimpArgs false
set_option linter.unusedVariables false

set_option maxHeartbeats 2000000 in
set_option maxRecDepth 100000 in
theorem szNeed_c (S : Nat → Prop) (d : NeedD) (cs : List Value) (left : Int) (h0 : 0 ≤ left) (h1 : left ≤ 1048576) (w : World) (hd : shNeed.lies S w cs d) (hB : ∀ b, S b → b < w.heap.size) :
    Calls Try.prog 85 #[.agg cs.toArray, .int .i64 left] w fun e w' => e = .returned (.int .i64 (leftW (wtNeed d) left)) ∧ Below w.heap.size w w' := by
  obtain ⟨rfl, s_n, s_r⟩ := hd
  unfold maxLen at s_n
  unfold maxLen at s_r
  have hbx : ∀ o, Below w.heap.size w (w.alloc o) := fun o => (Below.refl _ _).alloc (Nat.le_refl _) _
  obtain ⟨R, hR⟩ : ∃ R, R = leftW (wtNeed d) left := ⟨_, rfl⟩
  rw [← hR]
  have lt := lw (wtNeed d) left
  rw [← hR] at lt
  unfold wtNeed at lt
  clear hR
  by_cases n0 : (left - (d.n.size : Int)) < 0
  · have HR : Hid (R = -1) := by show _ = _; omega
    clear lt 
    go_enter Try.func85, Try.ntmps85
    go_wp2_with fail
    go_ret
    exact ⟨by rw [HR.out]; rfl, (hbx _)⟩
  by_cases n1 : ((left - (d.n.size : Int)) - (d.r.size : Int)) < 0
  · have HR : Hid (R = -1) := by show _ = _; omega
    clear lt 
    go_enter Try.func85, Try.ntmps85
    go_wp2_with fail
    go_ret
    exact ⟨by rw [HR.out]; rfl, (hbx _)⟩
  have HR : Hid (R = ((left - (d.n.size : Int)) - (d.r.size : Int))) := by show _ = _; omega
  clear lt 
  go_enter Try.func85, Try.ntmps85
  go_wp2_with fail
  go_ret
  exact ⟨by rw [HR.out]; rfl, (hbx _)⟩

set_option maxHeartbeats 2000000 in
set_option maxRecDepth 100000 in
theorem szNeedS_c (S : Nat → Prop) (v : Value) (xs : List NeedD) (left : Int) (h0 : 0 ≤ left) (h1 : left ≤ 1048576) (w : World) (hv : RowIn shNeed S w v xs) (hB : ∀ b, S b → b < w.heap.size) :
    Calls Try.prog 67 #[v, .int .i64 left] w fun e w' => e = .returned (.int .i64 (leftW (wtRow wtNeed xs) left)) ∧ Below w.heap.size w w' := by
  obtain ⟨a, cap, rfl, hl, hc, ha⟩ := hv
  unfold maxLen at hl
  by_cases hneg : left - (xs.length : Int) < 0
  · have e : leftW (wtRow wtNeed xs) left = -1 := leftW_bad (by have := len_wtRow wtNeed xs; omega)
    rw [e]
    clear ha
    go_enter Try.func67, Try.ntmps67
    go_wp2_with fail
    go_ret
    exact ⟨rfl, Below.refl _ _⟩
  · go_enter Try.func67, Try.ntmps67
    go_wp2_with fail
    go_loopw [1, 5] (fun vl vi wr => ∃ (k : Nat) (q : Int), k ≤ xs.length ∧ vi = .int .i64 (k : Int) ∧ vl = .int .i64 q ∧ 0 ≤ q ∧ q ≤ 1048576 ∧ Hid (q = left - (xs.length : Int) - (wtRow wtNeed (xs.take k) : Int) + (k : Int)) ∧ Below w.heap.size w wr) (fun _ vi _ => xs.length - (intOf vi).toNat)
    case atStart => exact ⟨0, _, Nat.zero_le _, rfl, rfl, by omega, by omega, by show _ = _; simp [wtRow], Below.refl _ _⟩
    case round =>
      obtain ⟨k, q, hk, rfl, rfl, hq0, hq1, hq, hbr⟩ := hrel
      by_cases hlt' : k < xs.length
      · rcases ha with rfl | ⟨b, off, rfl, hlt, ha⟩
        · simp at hlt'
        obtain ⟨cs, hL, hcell⟩ := ha k hlt'
        have hL2 := shNeed.keep (.of hbr hB) hL
        have hcell2 := hcell.keep (.of hbr hB) hlt
        have hBr : ∀ b, S b → b < wr.heap.size := fun b h => Nat.lt_of_lt_of_le (hB b h) hbr.size
        have hwt := wtRow_take wtNeed xs k hlt'
        have hsp := wtRow_split wtNeed xs (k + 1)
        have hln := len_wtRow wtNeed (xs.drop (k + 1))
        have hdl : (xs.drop (k + 1)).length = xs.length - (k + 1) := by simp
        obtain ⟨d, hd⟩ : ∃ d, d = xs[k] := ⟨_, rfl⟩
        rw [← hd] at hL2 hwt
        have HW : Hid (wtRow wtNeed (xs.take (k + 1)) = wtRow wtNeed (xs.take k) + (1 + wtNeed d)) := hwt
        have HSP : Hid (wtRow wtNeed xs = wtRow wtNeed (xs.take (k + 1)) + wtRow wtNeed (xs.drop (k + 1)) ∧ xs.length - (k + 1) ≤ wtRow wtNeed (xs.drop (k + 1))) := ⟨hsp, by omega⟩
        have hki : (k : Int) < (xs.length : Int) := by omega
        obtain ⟨p, hp⟩ : ∃ p, p = leftW (wtNeed d) q := ⟨_, rfl⟩
        have HP : Hid (p = leftW (wtNeed d) q) := hp
        have HC := szNeed_c S d cs q hq0 hq1 wr hL2 hBr
        rw [← hp] at HC
        clear hL hcell ha hwt hd hp hsp hln hdl
        obtain ⟨rfl, s_n, s_r⟩ := hL2
        clear s_n s_r
        have e0 : wr.cell? ⟨b, off + k * 2, none⟩ = some (.string d.n) := hcell2 0 (by simp)
        have e1 : wr.cell? ⟨b, off + k * 2 + 1, none⟩ = some (.string d.r) := hcell2 1 (by simp)
        have HC2 := hidden HC
        clear hcell2 HC
        by_cases hpn : p < 0
        · go_wp2_with (go_at_call 85; refine HC2.out.mono ?_; rintro e w1 ⟨rfl, hb1⟩)
          go_ret
          have e : leftW (wtRow wtNeed xs) left = -1 := by
            have h2 := HP.out; have h3 := hq.out; have h4 := HW.out; have h5 := HSP.out
            refine leftW_bad ?_
            by_cases h6 : ((wtNeed d : Nat) : Int) ≤ q
            · rw [leftW_good h6] at h2; omega
            · omega
          exact ⟨by rw [e]; rfl, hbr.trans (hb1.mono hbr.size)⟩
        · go_wp2_with (go_at_call 85; refine HC2.out.mono ?_; rintro e w1 ⟨rfl, hb1⟩)
          go_roundw
          case rel =>
            have h2 := HP.out; have h3 := hq.out; have h4 := HW.out
            have h6 : ((wtNeed d : Nat) : Int) ≤ q := by
              by_cases h6 : ((wtNeed d : Nat) : Int) ≤ q
              · exact h6
              · rw [leftW_bad (by omega)] at h2; omega
            rw [leftW_good h6] at h2
            exact ⟨k + 1, p, by omega, by go_num, rfl, by omega, by omega, (by show _ = _; omega), hbr.trans (hb1.mono hbr.size)⟩
          case measure => simp [intOf]; omega
      · have he : k = xs.length := by omega
        subst he
        clear ha
        go_wp2_with fail
        go_ret
        have e : leftW (wtRow wtNeed xs) left = q := by
          have h3 := hq.out
          rw [List.take_length] at h3
          rw [leftW_good (by omega)]; omega
        exact ⟨by rw [e]; rfl, hbr⟩

end Go.Proofs.Ytbhedlobiagngaa

/-! How much cmds hold, as the law counts it: contracts for the walks; conditions: at most 2 to the 20 is left to count. -/
namespace Go.Proofs.Ytbhedlobiagngaa
open Go.RowKit
set_option linter.unusedSimpArgs false
set_option linter.unusedVariables false

set_option maxHeartbeats 2000000 in
set_option maxRecDepth 100000 in
theorem szCmd_c (S : Nat → Prop) (d : CmdD) (cs : List Value) (left : Int) (h0 : 0 ≤ left) (h1 : left ≤ 1048576) (w : World) (hd : shCmd.lies S w cs d) (hB : ∀ b, S b → b < w.heap.size) :
    Calls Try.prog 86 #[.agg cs.toArray, .int .i64 left] w fun e w' => e = .returned (.int .i64 (leftW (wtCmd d) left)) ∧ Below w.heap.size w w' := by
  obtain ⟨u0, rfl, s_t, r0, p0⟩ := hd
  unfold maxLen at s_t
  have hbx : ∀ o, Below w.heap.size w (w.alloc o) := fun o => (Below.refl _ _).alloc (Nat.le_refl _) _
  obtain ⟨R, hR⟩ : ∃ R, R = leftW (wtCmd d) left := ⟨_, rfl⟩
  rw [← hR]
  obtain ⟨q0, hq0⟩ : ∃ q, q = leftW (bulkS d.acts) (left - (d.t.size : Int)) := ⟨_, rfl⟩
  have HS0 : Hid (0 ≤ (left - (d.t.size : Int)) → (left - (d.t.size : Int)) ≤ 1048576 → ∀ w1, Below w.heap.size w w1 → Calls Try.prog 66 #[u0, .int .i64 (left - (d.t.size : Int))] w1 fun e w' => e = .returned (.int .i64 q0) ∧ w1 = w') := fun a b w1 hb => by
    rw [hq0]; exact sizeStrsM_c u0 d.acts w1 _ a b ((r0.keep (.of hb hB)).reads (fun b h => Nat.lt_of_lt_of_le (hB b h) hb.size)) p0.1 p0.2
  obtain ⟨a0, cap0, eu0, _⟩ := id r0
  rw [length_strsV] at eu0
  subst eu0
  clear r0
  have lt := lw (wtCmd d) left
  have l0 := lw (bulkS d.acts) (left - (d.t.size : Int))
  rw [← hq0] at l0
  rw [← hR] at lt
  unfold wtCmd at lt
  clear hq0 hR
  by_cases n0 : (left - (d.t.size : Int)) < 0
  · have HR : Hid (R = -1) := by show _ = _; omega
    clear lt l0
    clear HS0
    go_enter Try.func86, Try.ntmps86
    go_wp2_with fail
    go_ret
    exact ⟨by rw [HR.out]; rfl, (hbx _)⟩
  by_cases n1 : q0 < 0
  · have HR : Hid (R = -1) := by show _ = _; omega
    have g0a : 0 ≤ (left - (d.t.size : Int)) := by omega
    have g0b : (left - (d.t.size : Int)) ≤ 1048576 := by omega
    have HC0 := HS0.out g0a g0b
    have HD0 := hidden HC0
    clear HC0
    clear lt l0
    clear HS0
    go_enter Try.func86, Try.ntmps86
    go_wp2_with fail
    go_at_call 66
    refine (HD0.out _ (hbx _)).mono ?_
    rintro e w' ⟨rfl, rfl⟩
    go_wp2_with fail
    go_ret
    exact ⟨by rw [HR.out]; rfl, (hbx _)⟩
  have HR : Hid (R = q0) := by show _ = _; omega
  have g0a : 0 ≤ (left - (d.t.size : Int)) := by omega
  have g0b : (left - (d.t.size : Int)) ≤ 1048576 := by omega
  have HC0 := HS0.out g0a g0b
  have HD0 := hidden HC0
  clear HC0
  clear lt l0
  clear HS0
  go_enter Try.func86, Try.ntmps86
  go_wp2_with fail
  go_at_call 66
  refine (HD0.out _ (hbx _)).mono ?_
  rintro e w' ⟨rfl, rfl⟩
  go_wp2_with fail
  go_ret
  exact ⟨by rw [HR.out]; rfl, (hbx _)⟩

set_option maxHeartbeats 2000000 in
set_option maxRecDepth 100000 in
theorem szCmdS_c (S : Nat → Prop) (v : Value) (xs : List CmdD) (left : Int) (h0 : 0 ≤ left) (h1 : left ≤ 1048576) (w : World) (hv : RowIn shCmd S w v xs) (hB : ∀ b, S b → b < w.heap.size) :
    Calls Try.prog 68 #[v, .int .i64 left] w fun e w' => e = .returned (.int .i64 (leftW (wtRow wtCmd xs) left)) ∧ Below w.heap.size w w' := by
  obtain ⟨a, cap, rfl, hl, hc, ha⟩ := hv
  unfold maxLen at hl
  by_cases hneg : left - (xs.length : Int) < 0
  · have e : leftW (wtRow wtCmd xs) left = -1 := leftW_bad (by have := len_wtRow wtCmd xs; omega)
    rw [e]
    clear ha
    go_enter Try.func68, Try.ntmps68
    go_wp2_with fail
    go_ret
    exact ⟨rfl, Below.refl _ _⟩
  · go_enter Try.func68, Try.ntmps68
    go_wp2_with fail
    go_loopw [1, 5] (fun vl vi wr => ∃ (k : Nat) (q : Int), k ≤ xs.length ∧ vi = .int .i64 (k : Int) ∧ vl = .int .i64 q ∧ 0 ≤ q ∧ q ≤ 1048576 ∧ Hid (q = left - (xs.length : Int) - (wtRow wtCmd (xs.take k) : Int) + (k : Int)) ∧ Below w.heap.size w wr) (fun _ vi _ => xs.length - (intOf vi).toNat)
    case atStart => exact ⟨0, _, Nat.zero_le _, rfl, rfl, by omega, by omega, by show _ = _; simp [wtRow], Below.refl _ _⟩
    case round =>
      obtain ⟨k, q, hk, rfl, rfl, hq0, hq1, hq, hbr⟩ := hrel
      by_cases hlt' : k < xs.length
      · rcases ha with rfl | ⟨b, off, rfl, hlt, ha⟩
        · simp at hlt'
        obtain ⟨cs, hL, hcell⟩ := ha k hlt'
        have hL2 := shCmd.keep (.of hbr hB) hL
        have hcell2 := hcell.keep (.of hbr hB) hlt
        have hBr : ∀ b, S b → b < wr.heap.size := fun b h => Nat.lt_of_lt_of_le (hB b h) hbr.size
        have hwt := wtRow_take wtCmd xs k hlt'
        have hsp := wtRow_split wtCmd xs (k + 1)
        have hln := len_wtRow wtCmd (xs.drop (k + 1))
        have hdl : (xs.drop (k + 1)).length = xs.length - (k + 1) := by simp
        obtain ⟨d, hd⟩ : ∃ d, d = xs[k] := ⟨_, rfl⟩
        rw [← hd] at hL2 hwt
        have HW : Hid (wtRow wtCmd (xs.take (k + 1)) = wtRow wtCmd (xs.take k) + (1 + wtCmd d)) := hwt
        have HSP : Hid (wtRow wtCmd xs = wtRow wtCmd (xs.take (k + 1)) + wtRow wtCmd (xs.drop (k + 1)) ∧ xs.length - (k + 1) ≤ wtRow wtCmd (xs.drop (k + 1))) := ⟨hsp, by omega⟩
        have hki : (k : Int) < (xs.length : Int) := by omega
        obtain ⟨p, hp⟩ : ∃ p, p = leftW (wtCmd d) q := ⟨_, rfl⟩
        have HP : Hid (p = leftW (wtCmd d) q) := hp
        have HC := szCmd_c S d cs q hq0 hq1 wr hL2 hBr
        rw [← hp] at HC
        clear hL hcell ha hwt hd hp hsp hln hdl
        obtain ⟨u0, rfl, s_t, r0, p0⟩ := hL2
        clear s_t p0
        obtain ⟨a0, cap0, eu0, _⟩ := id r0
        rw [length_strsV] at eu0
        subst eu0
        clear r0
        have e0 : wr.cell? ⟨b, off + k * 2, none⟩ = some (.string d.t) := hcell2 0 (by simp)
        have e1 : wr.cell? ⟨b, off + k * 2 + 1, none⟩ = some (.slice a0 d.acts.length cap0) := hcell2 1 (by simp)
        have HC2 := hidden HC
        clear hcell2 HC
        by_cases hpn : p < 0
        · go_wp2_with (go_at_call 86; refine HC2.out.mono ?_; rintro e w1 ⟨rfl, hb1⟩)
          go_ret
          have e : leftW (wtRow wtCmd xs) left = -1 := by
            have h2 := HP.out; have h3 := hq.out; have h4 := HW.out; have h5 := HSP.out
            refine leftW_bad ?_
            by_cases h6 : ((wtCmd d : Nat) : Int) ≤ q
            · rw [leftW_good h6] at h2; omega
            · omega
          exact ⟨by rw [e]; rfl, hbr.trans (hb1.mono hbr.size)⟩
        · go_wp2_with (go_at_call 86; refine HC2.out.mono ?_; rintro e w1 ⟨rfl, hb1⟩)
          go_roundw
          case rel =>
            have h2 := HP.out; have h3 := hq.out; have h4 := HW.out
            have h6 : ((wtCmd d : Nat) : Int) ≤ q := by
              by_cases h6 : ((wtCmd d : Nat) : Int) ≤ q
              · exact h6
              · rw [leftW_bad (by omega)] at h2; omega
            rw [leftW_good h6] at h2
            exact ⟨k + 1, p, by omega, by go_num, rfl, by omega, by omega, (by show _ = _; omega), hbr.trans (hb1.mono hbr.size)⟩
          case measure => simp [intOf]; omega
      · have he : k = xs.length := by omega
        subst he
        clear ha
        go_wp2_with fail
        go_ret
        have e : leftW (wtRow wtCmd xs) left = q := by
          have h3 := hq.out
          rw [List.take_length] at h3
          rw [leftW_good (by omega)]; omega
        exact ⟨by rw [e]; rfl, hbr⟩

end Go.Proofs.Ytbhedlobiagngaa
