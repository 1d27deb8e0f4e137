/-
  Contracts for the walks, several texts in one: each part says what it proves, and under which conditions.
-/
import Derived.Sort.Walk0
import Derived.Test.YtijmocdkaabijaaGreatDoorQ5
import Derived.Test.YtijmocdkaabijaaGreatDoorQ2
import Derived.Test.YtijmocdkaabijaaGreatDoorQ1
import Derived.Test.YtijmocdkaabijaaGreatDoorQ4

/-! What ParseRange reads, the program's: a contract for the walks; conditions: the text has at most 2 to the 20 bytes, the table of signs holds what the text lays, the library's MaxLen is a number. -/
namespace Go.Proofs.YtijmocdkaabijaaGreatDoor
open Go.RowKit
set_option linter.unusedSimpArgs false
set_option linter.unusedVariables false

theorem rowsG_apart {w : World} {base base' e e' sz sz' : Nat} {v v' : Value} {n n' : Nat} {xs xs' : List Value} (h : w.ownsRow base e sz v n xs) (h' : w.ownsRow base' e' sz' v' n' xs') (hne : e ≠ e') : v'.ownBlock = none ∨ v'.ownBlock ≠ v.ownBlock := by
  rcases h.2 with ⟨rfl, _⟩ | ⟨g, cap, cur, rfl, _, hg, _⟩
  · rcases h'.2 with ⟨rfl, _⟩ | ⟨g', cap', cur', rfl, _, hg', _⟩
    · exact .inl rfl
    · exact .inr (by simp [Value.ownBlock])
  · rcases h'.2 with ⟨rfl, _⟩ | ⟨g', cap', cur', rfl, _, hg', _⟩
    · exact .inl rfl
    · refine .inr fun e1 => hne ?_
      simp only [Value.ownBlock, Option.some.injEq] at e1
      subst e1
      rw [hg] at hg'
      simp only [Option.some.injEq, Obj.cells.injEq] at hg'
      exact hg'.2.1

/-- A list of Cmps of the call's own, all of it in blocks from lo on, below hi. -/
def CmpsSeg (lo hi : Nat) (w : World) (v : Value) (ds : List CmpD) : Prop :=
  ∃ (ys : List Value) (us : Nat → Value), w.ownsRow lo 103 5 v ds.length ys ∧
    (∀ i (h : i < ds.length), FiveAt ys (i * 5) (.int .i64 ds[i].o) (.int .i64 ds[i].a) (.int .i64 ds[i].b) (.int .i64 ds[i].c) (us i) ∧ w.ownsRow lo 9 1 (us i) ds[i].ps.length (strsV ds[i].ps)) ∧
    (∀ i j, i < ds.length → j < ds.length → i ≠ j → (us i).ownBlock = (us j).ownBlock → (us i).ownBlock = none) ∧
    (∀ k, v.ownBlock = some k → k < hi) ∧ ∀ i, i < ds.length → ∀ k, (us i).ownBlock = some k → k < hi
theorem CmpsOwn.seg {lo : Nat} {w : World} {v : Value} {ds : List CmpD} (h : CmpsOwn lo w v ds) : CmpsSeg lo w.heap.size w v ds := by
  obtain ⟨ys, us, h1, h2, h3⟩ := h
  refine ⟨ys, us, h1, h2, h3, fun k hk => ?_, fun i hi k hk => ((h2 i hi).2.lt k hk).2⟩
  rcases h1.2 with ⟨rfl, _⟩ | ⟨g, cap, cur, rfl, _, hg, _⟩
  · simp [Value.ownBlock] at hk
  · simp only [Value.ownBlock, Option.some.injEq] at hk
    subst hk
    exact (Array.getElem?_eq_some_iff.1 hg).1
theorem CmpsSeg.below {lo hi : Nat} {w w' : World} {v : Value} {ds : List CmpD} (h : CmpsSeg lo hi w v ds) (b : Below w.heap.size w w') : CmpsSeg lo hi w' v ds := by
  obtain ⟨ys, us, h1, h2, h3⟩ := h
  exact ⟨ys, us, own_kept5 h1 b, fun i hi => ⟨(h2 i hi).1, owns_of_below (h2 i hi).2 b⟩, h3⟩
theorem CmpsSeg.grown {lo hi base n : Nat} {w w' : World} {v r : Value} {ds : List CmpD} {xs : List Value} (h : CmpsSeg lo hi w v ds) (hr : w.ownsRow base 47 1 r n xs) (g : w.grownBy w' r.ownBlock) : CmpsSeg lo hi w' v ds := by
  obtain ⟨ys, us, h1, h2, h3⟩ := h
  exact ⟨ys, us, h1.kept g (rowsG_apart hr h1 (by decide)), fun i hi => ⟨(h2 i hi).1, (h2 i hi).2.kept g (rowsG_apart hr (h2 i hi).2 (by decide))⟩, h3⟩

/-- A list of lists of Cmps of the call's own: its row, and each list in blocks of its own. -/
def RangeOwn (lo : Nat) (w : World) (v : Value) (dss : List (List CmpD)) : Prop :=
  ∃ (vs : List Value) (ls hs : Nat → Nat), w.ownsRow lo 47 1 v dss.length vs ∧
    (∀ i (h : i < dss.length), ∃ u, vs[i]? = some u ∧ lo ≤ ls i ∧ hs i ≤ w.heap.size ∧ CmpsSeg (ls i) (hs i) w u dss[i]) ∧ ∀ i j, i < j → j < dss.length → hs i ≤ ls j
theorem rangeOwn_nil (w : World) (lo : Nat) : RangeOwn lo w (.slice none 0 0) [] :=
  ⟨[], fun _ => 0, fun _ => 0, ⟨rfl, .inl ⟨rfl, rfl⟩⟩, fun i h => by simp at h, fun i j _ h => by simp at h⟩
theorem RangeOwn.below {lo : Nat} {w w' : World} {v : Value} {dss : List (List CmpD)} (h : RangeOwn lo w v dss) (b : Below w.heap.size w w') : RangeOwn lo w' v dss := by
  obtain ⟨vs, ls, hs, h1, h2, h3⟩ := h
  refine ⟨vs, ls, hs, owns_of_below h1 b, fun i hi => ?_, h3⟩
  obtain ⟨u, e, a1, a2, a3⟩ := h2 i hi
  exact ⟨u, e, a1, Nat.le_trans a2 b.size, a3.below b⟩
theorem RangeOwn.lower {lo lo' : Nat} {w : World} {v : Value} {dss : List (List CmpD)} (h : RangeOwn lo w v dss) (hl : lo' ≤ lo) : RangeOwn lo' w v dss := by
  obtain ⟨vs, ls, hs, h1, h2, h3⟩ := h
  refine ⟨vs, ls, hs, owns_base h1 hl, fun i hi => ?_, h3⟩
  obtain ⟨u, e, a1, a2, a3⟩ := h2 i hi
  exact ⟨u, e, Nat.le_trans hl a1, a2, a3⟩

/-- What an append of one more list leaves. -/
theorem RangeOwn.snoc {lo : Nat} {wk w4 : World} {v v4 : Value} {dss : List (List CmpD)} {ds : List CmpD} (h : RangeOwn lo wk v dss) (hlo : lo ≤ wk.heap.size) (b : Below wk.heap.size wk w4) (h4 : CmpsOwn wk.heap.size w4 v4 ds) :
    ∃ vs, w4.ownsRow lo 47 1 v dss.length vs ∧ ∀ o w6 v6, w6.ownsRow lo 47 1 v6 (dss.length + 1) (vs ++ [v4]) → (w4.alloc o).grownBy w6 v.ownBlock → RangeOwn lo w6 v6 (dss ++ [ds]) := by
  obtain ⟨vs, ls, hs, h1, h2, h3⟩ := h
  have h1' := owns_of_below h1 b
  refine ⟨vs, h1', fun o w6 v6 o6 gr => ?_⟩
  have tA : Below w4.heap.size w4 (w4.alloc o) := (Below.refl _ _).alloc (Nat.le_refl _) _
  have h1a := owns_of_below h1' tA
  have hsz : w4.heap.size ≤ w6.heap.size := Nat.le_trans tA.size gr.size
  have hvl : vs.length = dss.length := by have := h1.1; omega
  refine ⟨vs ++ [v4], fun i => if i < dss.length then ls i else wk.heap.size, fun i => if i < dss.length then hs i else w4.heap.size, by rw [List.length_append]; exact o6, fun i hi => ?_, fun i j hij hj => ?_⟩
  · by_cases hl : i < dss.length
    · obtain ⟨u, e, a1, a2, a3⟩ := h2 i hl
      refine ⟨u, by rw [List.getElem?_append_left (by omega)]; exact e, ?_, ?_, ?_⟩
      · simp only [hl, if_true]; exact a1
      · simp only [hl, if_true]; exact Nat.le_trans a2 (Nat.le_trans b.size hsz)
      · simp only [hl, if_true, List.getElem_append_left hl]
        exact ((a3.below b).below tA).grown h1a gr
    · have hi' : i = dss.length := by simp at hi; omega
      subst hi'
      refine ⟨v4, by rw [List.getElem?_append_right (by omega), hvl]; simp, ?_, ?_, ?_⟩
      · simp only [hl, if_false]; exact hlo
      · simp only [hl, if_false]; exact hsz
      · have eg : (dss ++ [ds])[dss.length] = ds := by simp
        simp only [hl, if_false, eg]
        exact (h4.seg.below tA).grown h1a gr
  · rw [List.length_append] at hj
    simp at hj
    by_cases hj1 : j < dss.length
    · have hi1 : i < dss.length := by omega
      simp only [hi1, hj1, if_true]
      exact h3 i j hij hj1
    · have hi1 : i < dss.length := by omega
      obtain ⟨u, e, a1, a2, a3⟩ := h2 i hi1
      simp only [hi1, hj1, if_true, if_false]
      exact a2

def orT : ByteArray := ⟨#[124, 124]⟩
def sidesI (s : ByteArray) : List ByteArray := Lib.splitB orT 0 (Lib.countB s orT) s
def foldR : List ByteArray → List (List CmpD) → Option (List (List CmpD))
  | [], acc => some acc
  | t :: ts, acc => match listC (splitS (trimS t) 32) with | some ds => foldR ts (acc ++ [ds]) | none => none
/-- What a text tells as a range. -/
def rangeI (s : ByteArray) : Option (List (List CmpD)) := if 4 < (sidesI s).length then none else foldR (sidesI s) []

theorem splitB_piece (sep : ByteArray) (save : Nat) (hsv : save = 0) : ∀ (k : Nat) (s : ByteArray), ∀ x ∈ Lib.splitB sep save k s, x.size ≤ s.size
  | 0, s => fun x hx => by simp [Lib.splitB] at hx; subst hx; exact Nat.le_refl _
  | k + 1, s => fun x hx => by
    rw [Lib.splitB] at hx
    split at hx
    · simp at hx; subst hx; exact Nat.le_refl _
    · rcases List.mem_cons.1 hx with rfl | hx
      · rw [ByteArray.size_extract]; omega
      · refine Nat.le_trans (splitB_piece sep save hsv k _ x hx) ?_
        rw [ByteArray.size_extract]; omega

theorem lit_row (w : World) (xs : List ByteArray) (t : TypeId) : ∀ k (h : k < xs.length), (w.alloc (.cells (xs.map Value.string).toArray t)).cell? ⟨w.heap.size, k, none⟩ = some (.string xs[k]) := fun k h => by
  have e : (w.alloc (.cells (xs.map Value.string).toArray t)).cell? ⟨w.heap.size, k, none⟩ = ((xs.map Value.string).toArray)[k]? := vblk_cell (vheap_new _ _) k
  rw [e]
  simp [h]
theorem cell_one_c (w : World) (v : Value) (t : TypeId) : ∀ j u, ([v] : List Value)[j]? = some u → (w.alloc (.cells #[v] t)).cell? ((⟨w.heap.size, 0, none⟩ : Addr).add j) = some u := fun j u hj => by
  have hj0 : j = 0 := by have := (List.getElem?_eq_some_iff.1 hj).1; simp at this; omega
  subst hj0
  simp at hj
  subst hj
  have e : ((⟨w.heap.size, 0, none⟩ : Addr).add 0) = ⟨w.heap.size, 0, none⟩ := by unfold Addr.add; split <;> simp_all
  rw [e]
  exact vblk_cell (vheap_new _ _) 0

set_option maxHeartbeats 4000000 in
set_option maxRecDepth 100000 in
theorem implRange_c (s : ByteArray) (hs : s.size ≤ 1048576) (m : Int) (w : World) (hm : w.cell? ⟨1, 0, none⟩ = some (.int .i64 m)) (hsg : ∀ k (h : k < signsT.length), w.cell? ⟨0, k, none⟩ = some (.string signsT[k])) :
    Calls Tryz.prog 7 #[.string s] w fun e w' => ∃ v, e = .returned (.tuple #[v, .bool (rangeI s).isSome]) ∧ RangeOwn w.heap.size w' v ((rangeI s).getD []) ∧ Below w.heap.size w w' := by
  have HS : Calls Tryz.prog 18 #[.string s, .string orT] w fun e w' => e = .returned (.slice (some ⟨w.heap.size, 0, none⟩) (sidesI s).length (sidesI s).length) ∧ w' = w.alloc (.cells ((sidesI s).map Value.string).toArray 9) := by
    have h := Tryz.strings_Split s orT m w (by omega) hm (by decide)
    have hl : (sidesI s).length = Lib.countB s orT + 1 := Lib.splitB_all orT (by decide) 0 _ s rfl
    rw [hl]
    exact h
  have hpc : ∀ x ∈ sidesI s, x.size ≤ s.size := splitB_piece orT 0 rfl _ s
  have hll : (sidesI s).length ≤ 1048577 := by
    have hl : (sidesI s).length = Lib.countB s orT + 1 := Lib.splitB_all orT (by decide) 0 _ s rfl
    have := Lib.countB_le orT (by decide) s.size s (Nat.le_refl _)
    omega
  have hgl : 0 < w.heap.size := World.block_lt_of_cell? w _ (hsg 0 (by decide))
  have HG : Hid (∀ w1, Below w.heap.size w w1 → ∀ k (h : k < signsT.length), w1.cell? ⟨0, k, none⟩ = some (.string signsT[k])) := fun w1 b k h => (b.cell (p := ⟨0, k, none⟩) hgl).trans (hsg k h)
  have HR : Hid (rangeI s = if 4 < (sidesI s).length then none else foldR (sidesI s) []) := rfl
  obtain ⟨ts, hts⟩ : ∃ ts, ts = sidesI s := ⟨_, rfl⟩
  obtain ⟨R, hR⟩ : ∃ R, R = rangeI s := ⟨_, rfl⟩
  rw [← hts] at HS hpc HR hll
  rw [← hR] at HR
  rw [← hR]
  clear hts hR hsg hgl hm
  have b3 : Below w.heap.size w (w.alloc (.cells (ts.map Value.string).toArray 9)) := (Below.refl _ _).alloc (Nat.le_refl _) _
  have hcell := lit_row w ts 9
  have hs3 : (w.alloc (.cells (ts.map Value.string).toArray 9)).heap.size = w.heap.size + 1 := by simp
  obtain ⟨i0, hi, hz0, hz1, hz2⟩ := info_parts infoCmps
  go_enter Tryz.func7, Tryz.ntmps7
  go_wp2_with fail
  go_at_call 18
  refine HS.mono ?_
  rintro e w' ⟨rfl, rfl⟩
  generalize (w.alloc (.cells (ts.map Value.string).toArray 9)) = w3 at b3 hcell hs3 ⊢
  have hbq : w.heap.size < w3.heap.size := by omega
  clear HS hs3
  by_cases h4 : 4 < ts.length
  · have e : R = none := by rw [HR.out, if_pos h4]
    have h4' : (4 : Int) < (ts.length : Int) := by omega
    subst e
    clear HR hcell
    go_wp2_with fail
    go_ret2
    exact ⟨_, rfl, rangeOwn_nil _ _, b3⟩
  have HF : Hid (R = foldR ts []) := by show _ = _; rw [HR.out, if_neg h4]
  have h4' : ¬ (4 : Int) < (ts.length : Int) := by omega
  have hl4 : ts.length ≤ 4 := by omega
  have HP : Hid (∀ x : ByteArray, x.size ≤ 1048576 → ∀ w1, Below w.heap.size w w1 → Calls Tryz.prog 19 #[.string x] w1 fun e w' => ∃ v, e = .returned (.tuple #[v, .bool (listC (splitS x 32)).isSome]) ∧ CmpsOwn w1.heap.size w' v ((listC (splitS x 32)).getD []) ∧ Below w1.heap.size w1 w') := fun x hx w1 b => parseCmps_c x hx w1 (HG.out w1 b)
  clear HR h4 HG
  go_wp2_with fail
  go_loopw [5, 17] (fun v5 vi wr => ∃ (k : Nat) (acc : List (List CmpD)), k ≤ ts.length ∧ vi = .int .i64 (k : Int) ∧ RangeOwn w3.heap.size wr v5 acc ∧ acc.length = k ∧ Hid (foldR (ts.drop k) acc = foldR ts []) ∧ Below w3.heap.size w3 wr) (fun _ vi _ => ts.length - (intOf vi).toNat)
  case atStart => exact ⟨0, [], Nat.zero_le _, rfl, rangeOwn_nil _ _, rfl, rfl, Below.refl _ _⟩
  case round =>
    obtain ⟨k, acc, hk, rfl, hacc, hal, hf, hbr⟩ := hrel
    have hmr := b3.trans (hbr.mono b3.size)
    obtain ⟨qv, nv, cv, hv5⟩ : ∃ q n c, u5 = .slice q n c := by
      obtain ⟨vs, ls, hs, h1, _⟩ := hacc
      rcases h1.2 with ⟨h, _⟩ | ⟨g, cap, cur, h, _⟩
      · exact ⟨_, _, _, h⟩
      · exact ⟨_, _, _, h⟩
    subst hv5
    by_cases hlt : k < ts.length
    · have hcx : wr.cell? ⟨w.heap.size, k, none⟩ = some (.string ts[k]) := (hbr.cell (p := ⟨w.heap.size, k, none⟩) hbq).trans (hcell k hlt)
      have hsk : ts[k].size ≤ 1048576 := by have := hpc ts[k] (List.getElem_mem _); omega
      have hdr : ts.drop k = ts[k] :: ts.drop (k + 1) := List.drop_eq_getElem_cons hlt
      rw [hdr, foldR] at hf
      obtain ⟨x, hx⟩ : ∃ x, x = ts[k] := ⟨_, rfl⟩
      rw [← hx] at hcx hsk hf
      have HT : Hid (∀ w1, Calls Tryz.prog 20 #[.string x, .string ⟨#[32]⟩] w1 fun e w' => e = .returned (.string (trimS x)) ∧ Below w1.heap.size w1 w') := fun w1 => trim_c x (by omega) w1
      have htz : (trimS x).size ≤ 1048576 := Nat.le_trans (trimS_size x) hsk
      obtain ⟨y, hy⟩ : ∃ y, y = trimS x := ⟨_, rfl⟩
      rw [← hy] at HT htz hf
      have HC := HP.out y htz
      obtain ⟨L, hL⟩ : ∃ L, L = listC (splitS y 32) := ⟨_, rfl⟩
      rw [← hL] at HC hf
      have HC' : Hid (∀ w1, Below w.heap.size w w1 → Calls Tryz.prog 19 #[.string y] w1 fun e w' => ∃ v, e = .returned (.tuple #[v, .bool L.isSome]) ∧ CmpsOwn w1.heap.size w' v (L.getD []) ∧ Below w1.heap.size w1 w') := HC
      have hki : (k : Int) < (ts.length : Int) := by omega
      clear HC hx hy hL hdr hcell HP
      cases L with
      | none =>
        have e : R = none := by rw [HF.out, ← hf.out]
        subst e
        clear hf HF
        go_wp2_with (first
          | (go_at_call 20; refine (HT.out _).mono ?_; rintro e w4 ⟨rfl, b4⟩; have hm4 := hmr.trans (b4.mono hmr.size))
          | (go_at_call 19; refine (HC'.out _ hm4).mono ?_; rintro e w5 ⟨v5, rfl, hv5, b5⟩; obtain ⟨q5, c5, us5, hq5, _, _⟩ := hv5.at; subst hq5))
        go_ret2
        exact ⟨_, rfl, rangeOwn_nil _ _, hm4.trans (b5.mono hm4.size)⟩
      | some ds =>
        have HN : Hid (foldR (ts.drop (k + 1)) (acc ++ [ds]) = foldR ts []) := hf
        have hlo : w3.heap.size ≤ wr.heap.size := hbr.size
        have hrow : ∀ j, Value.ownBlock (.slice qv nv cv) = some j → w3.heap.size ≤ j := fun j hj => by
          obtain ⟨vs, ls, hs, h1, _⟩ := hacc
          exact (h1.lt j hj).1
        have HSN : Hid (∀ w4 w5 v4, Below wr.heap.size wr w4 → CmpsOwn w4.heap.size w5 v4 ds → Below w4.heap.size w4 w5 → ∃ vs, w5.ownsRow w3.heap.size 47 1 (.slice qv nv cv) acc.length vs ∧ ∀ o w6 v6, w6.ownsRow w3.heap.size 47 1 v6 (acc.length + 1) (vs ++ [v4]) → (w5.alloc o).grownBy w6 (Value.ownBlock (.slice qv nv cv)) → RangeOwn w3.heap.size w6 v6 (acc ++ [ds])) := fun w4 w5 v4 b4 h4 b5 => (hacc.below b4).snoc (Nat.le_trans hlo b4.size) b5 h4
        have HRW : Hid (∀ j, Value.ownBlock (.slice qv nv cv) = some j → w3.heap.size ≤ j) := hrow
        clear hf hrow hacc
        go_wp2_with (first
          | (go_at_call 20; refine (HT.out _).mono ?_; rintro e w4 ⟨rfl, b4⟩; have hm4 := hmr.trans (b4.mono hmr.size))
          | (go_at_call 19; refine (HC'.out _ hm4).mono ?_; rintro e w5 ⟨v5, rfl, hv5, b5⟩; obtain ⟨q5, c5, us5, hq5, _, _⟩ := hv5.at; subst hq5; obtain ⟨vs, o5, hsn⟩ := HSN.out w4 w5 _ b4 hv5 b5; have HSN2 := hsn (.cells #[.slice q5 ((some ds).getD []).length c5] 47); have HSN3 : Hid (∀ w6 v6, w6.ownsRow w3.heap.size 47 1 v6 (acc.length + 1) (vs ++ [.slice q5 ((some ds).getD []).length c5]) → (w5.alloc (.cells #[.slice q5 ((some ds).getD []).length c5] 47)).grownBy w6 (Value.ownBlock (.slice qv nv cv)) → RangeOwn w3.heap.size w6 v6 (acc ++ [ds])) := HSN2; clear hsn HSN2 hv5)
          | (at_builtin; refine wpList_append_own _ rfl _ _ 29 rfl w3.heap.size 47 i0 (.slice none 0 0) 1 24 Tryz.underlying29 hi hz0 hz1 hz2 rfl (by decide) (.slice qv nv cv) acc.length vs rfl (o5.alloc _) ⟨w5.heap.size, 0, none⟩ 1 1 [.slice q5 ((some ds).getD []).length c5] rfl rfl (cell_one_c _ _ _) (fun u hu => by simp at hu; subst hu; rfl) (by unfold maxLen; omega) (by omega) (by have h1 := hlo; have h2 := b4.size; have h3 := b5.size; simp; omega) ?_))
        intro v6 w6 o6 gr6 _
        have kx := (hbr.trans (b4.mono hlo)).trans (b5.mono (Nat.le_trans hlo b4.size))
        have k6 := below_turned (kx.alloc kx.size _) gr6 (by have := kx.size; simp; omega) HRW.out
        have hown := HSN3.out w6 v6 (by rw [hal]; exact o6) gr6
        clear HSN3 HSN o5 o6 gr6
        go_wp2_with fail
        go_roundw
        case rel => exact ⟨k + 1, acc ++ [ds], by omega, by go_num, hown, by simp [hal], HN, k6⟩
        case measure => simp [intOf]; omega
    · have he : k = ts.length := by omega
      subst he
      have e : R = some acc := by rw [HF.out, ← hf.out, List.drop_length, foldR]
      subst e
      clear hf HF hcell HP
      go_wp2_with fail
      go_ret2
      exact ⟨_, rfl, hacc.lower b3.size, hmr⟩
end Go.Proofs.YtijmocdkaabijaaGreatDoor

/-! A range that is the call's own lies in memory as a range that comes in does: no condition but that it is small. -/
namespace Go.Proofs.YtijmocdkaabijaaGreatDoor
open Go.RowKit
set_option linter.unusedSimpArgs false
set_option linter.unusedVariables false

theorem sane_bulk {ps : List ByteArray} (h : bulkS ps ≤ 1048576) : saneP ps := by
  refine ⟨?_, fun s hs => ?_⟩
  · unfold bulkS at h; unfold maxLen; omega
  · have := size_of_bulk hs; unfold maxLen; omega

theorem CmpsSeg.cmpsIn {lo hi : Nat} {w : World} {v : Value} {ds : List CmpD} (h : CmpsSeg lo hi w v ds) (hl : ds.length ≤ 4) (hb : ∀ d ∈ ds, bulkS d.ps ≤ 1048576) : CmpsIn (Ow lo w.heap.size) w v ds := by
  obtain ⟨ys, us, h1, h2, _, _⟩ := h
  have hlen := h1.1
  rcases h1.2 with ⟨rfl, hn⟩ | ⟨g, cap, cur, rfl, hg, hh, hx⟩
  · have e : ds = [] := List.eq_nil_of_length_eq_zero hn
    subst e
    exact ⟨none, 0, rfl, by simp, by simp, .inl rfl⟩
  · have hlt := (Array.getElem?_eq_some_iff.1 hh).1
    refine ⟨_, cap, rfl, by unfold maxLen; omega, by omega, .inr ⟨g, 0, us, rfl, ⟨hg, hlt⟩, fun i hi => ?_⟩⟩
    rw [Nat.zero_add]
    obtain ⟨⟨f0, f1, f2, f3, f4⟩, ou⟩ := h2 i hi
    refine ⟨?_, ?_, ?_, ?_, ?_, rdB_owns ou, sane_bulk (hb _ (List.getElem_mem hi))⟩ <;> rw [h1.cellAt _ (by omega)] <;> assumption

theorem RangeOwn.rangeIn {lo : Nat} {w : World} {v : Value} {dss : List (List CmpD)} (h : RangeOwn lo w v dss) (hl : dss.length ≤ 4) (h4 : ∀ ds ∈ dss, ds.length ≤ 4) (hb : ∀ ds ∈ dss, ∀ d ∈ ds, bulkS d.ps ≤ 1048576) : RangeIn (Ow lo w.heap.size) w v dss := by
  obtain ⟨vs, ls, hs, h1, h2, _⟩ := h
  have hlen := h1.1
  rcases h1.2 with ⟨rfl, hn⟩ | ⟨g, cap, cur, rfl, hg, hh, hx⟩
  · have e : dss = [] := List.eq_nil_of_length_eq_zero hn
    subst e
    exact ⟨none, 0, rfl, by simp, by simp, .inl rfl⟩
  · have hlt := (Array.getElem?_eq_some_iff.1 hh).1
    refine ⟨_, cap, rfl, by unfold maxLen; omega, by omega, .inr ⟨g, 0, fun i => vs.getD i undef, rfl, ⟨hg, hlt⟩, fun i hi => ?_⟩⟩
    obtain ⟨u, hu, hlo, hhi, hseg⟩ := h2 i hi
    have e : vs.getD i undef = u := by simp [List.getD_eq_getElem?_getD, hu]
    show w.cell? ⟨g, 0 + i, none⟩ = some (vs.getD i undef) ∧ CmpsIn (Ow lo w.heap.size) w (vs.getD i undef) dss[i]
    rw [e, Nat.zero_add]
    exact ⟨(h1.cellAt i (by omega)).trans hu, (hseg.cmpsIn (h4 _ (List.getElem_mem hi)) (hb _ (List.getElem_mem hi))).mono (Ow.mono hlo (Nat.le_refl _))⟩

theorem RangeOwn.slice {lo : Nat} {w : World} {v : Value} {dss : List (List CmpD)} (h : RangeOwn lo w v dss) : ∃ q c, v = .slice q dss.length c := by
  obtain ⟨_, _, _, ho, _⟩ := h
  rcases ho.2 with ⟨rfl, h0⟩ | ⟨g, c, cur, rfl, _⟩
  · exact ⟨_, _, by rw [h0]⟩
  · exact ⟨_, _, rfl⟩
end Go.Proofs.YtijmocdkaabijaaGreatDoor

/-! Which of two texts, numbers and lists of texts of a Pre is less, as the program reckons it (by -1, 0 and 1) and as the specification does: both the same; and the contracts of the functions that compare two of them; condition: a string is no longer than an int can count. -/
namespace Go.Proofs.YtijmocdkaabijaaGreatDoor
open Go.RowKit
set_option linter.unusedSimpArgs false
set_option linter.unusedVariables false

theorem vltL_irrefl (x : List UInt8) : ¬ x < x := List.lt_irrefl x
theorem vltL_trans {x y z : List UInt8} (h : x < y) (k : y < z) : x < z := List.lt_trans h k
theorem vltL_total {x y : List UInt8} (h : ¬ x < y) (k : ¬ y < x) : x = y := List.le_antisymm (by simpa using k) (by simpa using h)
def listB (s : ByteArray) : List UInt8 := s.data.toList
theorem listB_inj {a b : ByteArray} (h : listB a = listB b) : a = b := ByteArray.ext (Array.toList_inj.1 h)
def ltS (a b : ByteArray) : Bool := Op.bytesLess a.toList b.toList
theorem ltS_iff (a b : ByteArray) : ltS a b = decide (listB a < listB b) := by
  rw [ltS, ByteArray.toList_eq, ByteArray.toList_eq, bytesLess_eq]; rfl
theorem gtS (a b : ByteArray) : (!(Op.bytesLess a.toList b.toList || a.toList == b.toList)) = ltS b a := by
  rw [ltS_iff, ByteArray.toList_eq, ByteArray.toList_eq, bytesLess_eq]
  show _ = decide (b.data.toList < a.data.toList)
  by_cases h : b.data.toList < a.data.toList
  · have h1 : ¬ a.data.toList < b.data.toList := fun k => vltL_irrefl _ (vltL_trans h k)
    have h2 : ¬ a.data = b.data := fun e => by rw [e] at h; exact vltL_irrefl _ h
    simp [h, h1, h2]
  · by_cases h1 : a.data.toList < b.data.toList
    · simp [h, h1]
    · have h2 : a.data.toList = b.data.toList := vltL_total h1 h
      simp [h2, vltL_irrefl]
theorem ltS_irrefl (a : ByteArray) : ltS a a = false := by rw [ltS_iff]; simp [vltL_irrefl]
theorem ltS_asymm {a b : ByteArray} (h : ltS a b = true) : ltS b a = false := by
  rw [ltS_iff] at *
  simp only [decide_eq_true_eq] at h
  simp only [decide_eq_false_iff_not]
  exact fun k => vltL_irrefl _ (vltL_trans h k)
theorem ltS_total {a b : ByteArray} (h : ltS a b = false) (k : ltS b a = false) : a = b := by
  rw [ltS_iff, decide_eq_false_iff_not] at *
  exact listB_inj (vltL_total h k)

def cmpI (a b : Int) : Int := if a < b then -1 else if b < a then 1 else 0
def cmpS (a b : ByteArray) : Int := if ltS a b then -1 else if ltS b a then 1 else 0
def orI : List Int → Int
  | [] => 0
  | z :: zs => if z = 0 then orI zs else z
def cmpPart (a b : ByteArray) : Int :=
  if digitsB a && digitsB b then orI [cmpI a.size b.size, cmpS a b] else if digitsB a then -1 else if digitsB b then 1 else cmpS a b
def cmpPre : List ByteArray → List ByteArray → Int
  | [], [] => 0
  | [], _ :: _ => -1
  | _ :: _, [] => 1
  | a :: xs, b :: ys => if cmpPart a b = 0 then cmpPre xs ys else cmpPart a b
def cmpVer (a b c : Int) (ps : List ByteArray) (a' b' c' : Int) (ps' : List ByteArray) : Int :=
  if orI [cmpI a a', cmpI b b', cmpI c c'] = 0 then (if ps.length = 0 ∨ ps'.length = 0 then cmpI ps'.length ps.length else cmpPre ps ps') else orI [cmpI a a', cmpI b b', cmpI c c']

def lessPart (a b : ByteArray) : Bool :=
  if digitsB a && digitsB b then (if a.size = b.size then ltS a b else decide (a.size < b.size)) else if digitsB a = digitsB b then ltS a b else digitsB a
def lessGo : List ByteArray → List ByteArray → Bool
  | a :: xs, b :: ys => if a = b then lessGo xs ys else lessPart a b
  | [], ys => decide (0 < ys.length)
  | _ :: _, [] => false
def lessPre (ps ps' : List ByteArray) : Bool := if ps.length = 0 ∨ ps'.length = 0 then decide (0 < ps.length) && decide (ps'.length = 0) else lessGo ps ps'
def lessB (a b c : Int) (ps : List ByteArray) (a' b' c' : Int) (ps' : List ByteArray) : Bool :=
  if a = a' then (if b = b' then (if c = c' then lessPre ps ps' else decide (c < c')) else decide (b < b')) else decide (a < a')

theorem cmpI_zero (a b : Int) : cmpI a b = 0 ↔ a = b := by unfold cmpI; split <;> (try split) <;> omega
theorem cmpI_neg (a b : Int) : cmpI a b < 0 ↔ a < b := by unfold cmpI; split <;> (try split) <;> omega
theorem cmpS_zero (a b : ByteArray) : cmpS a b = 0 ↔ a = b := by
  unfold cmpS
  constructor
  · intro h
    split at h
    · omega
    · split at h
      · omega
      · exact ltS_total (by simpa using ‹¬ ltS a b = true›) (by simpa using ‹¬ ltS b a = true›)
  · rintro rfl
    simp [ltS_irrefl]
theorem cmpS_neg (a b : ByteArray) : cmpS a b < 0 ↔ ltS a b = true := by
  unfold cmpS
  constructor
  · intro h
    split at h
    · assumption
    · split at h <;> omega
  · intro h; rw [if_pos h]; omega
theorem orI_two (x y : Int) : orI [x, y] = if x = 0 then (if y = 0 then 0 else y) else x := by simp [orI]
theorem cmpPart_zero (a b : ByteArray) : cmpPart a b = 0 ↔ a = b := by
  constructor
  · intro h
    unfold cmpPart at h
    rw [orI_two] at h
    split at h
    · split at h
      · split at h
        · exact (cmpS_zero a b).1 ‹_›
        · exact (cmpS_zero a b).1 h
      · exact absurd h ‹_›
    · split at h
      · omega
      · split at h
        · omega
        · exact (cmpS_zero a b).1 h
  · rintro rfl
    have h1 := (cmpS_zero a a).2 rfl
    have h2 := (cmpI_zero a.size a.size).2 rfl
    unfold cmpPart
    rw [orI_two, h1, h2]
    cases digitsB a <;> simp
theorem cmpPart_neg {a b : ByteArray} (hne : ¬ a = b) : decide (cmpPart a b < 0) = lessPart a b := by
  rw [Bool.eq_iff_iff, decide_eq_true_eq]
  unfold cmpPart lessPart
  rw [orI_two]
  have s0 := cmpS_zero a b
  have s1 := cmpS_neg a b
  have i0 := cmpI_zero a.size b.size
  have i1 := cmpI_neg a.size b.size
  cases ha : digitsB a <;> cases hb : digitsB b
  · simpa using s1
  · simp
  · simp
  · simp only [Bool.and_self, if_true]
    by_cases he : a.size = b.size
    · have : cmpI a.size b.size = 0 := i0.2 (by omega)
      rw [if_pos this, if_pos he, if_neg (fun h => hne (s0.1 h))]
      exact s1
    · have : ¬ cmpI a.size b.size = 0 := fun h => he (by have := i0.1 h; omega)
      rw [if_neg this, if_neg he, i1]
      simp
theorem cmpPre_neg : ∀ (ps ps' : List ByteArray), decide (cmpPre ps ps' < 0) = lessGo ps ps'
  | [], [] => by simp [cmpPre, lessGo]
  | [], _ :: _ => by simp [cmpPre, lessGo]
  | _ :: _, [] => by simp [cmpPre, lessGo]
  | a :: xs, b :: ys => by
    rw [cmpPre, lessGo]
    by_cases h : a = b
    · rw [if_pos ((cmpPart_zero a b).2 h), if_pos h]; exact cmpPre_neg xs ys
    · rw [if_neg (fun k => h ((cmpPart_zero a b).1 k)), if_neg h]; exact cmpPart_neg h
theorem cmpVer_neg (a b c : Int) (ps : List ByteArray) (a' b' c' : Int) (ps' : List ByteArray) : decide (cmpVer a b c ps a' b' c' ps' < 0) = lessB a b c ps a' b' c' ps' := by
  unfold cmpVer lessB
  have e : orI [cmpI a a', cmpI b b', cmpI c c'] = if cmpI a a' = 0 then (if cmpI b b' = 0 then (if cmpI c c' = 0 then 0 else cmpI c c') else cmpI b b') else cmpI a a' := by simp [orI]
  rw [e]
  by_cases ha : a = a'
  · rw [if_pos ha, if_pos ((cmpI_zero a a').2 ha)]
    by_cases hb : b = b'
    · rw [if_pos hb, if_pos ((cmpI_zero b b').2 hb)]
      by_cases hc : c = c'
      · rw [if_pos hc, if_pos ((cmpI_zero c c').2 hc), if_pos rfl]
        unfold lessPre
        by_cases hp : ps.length = 0 ∨ ps'.length = 0
        · rw [if_pos hp, if_pos hp, Bool.eq_iff_iff, decide_eq_true_eq, cmpI_neg, Bool.and_eq_true, decide_eq_true_eq, decide_eq_true_eq]
          omega
        · rw [if_neg hp, if_neg hp]; exact cmpPre_neg ps ps'
      · have h := fun k => hc ((cmpI_zero c c').1 k)
        rw [if_neg hc, if_neg h, if_neg h, Bool.eq_iff_iff, decide_eq_true_eq, decide_eq_true_eq]
        exact cmpI_neg c c'
    · have h := fun k => hb ((cmpI_zero b b').1 k)
      rw [if_neg hb, if_neg h, if_neg h, Bool.eq_iff_iff, decide_eq_true_eq, decide_eq_true_eq]
      exact cmpI_neg b b'
  · have h := fun k => ha ((cmpI_zero a a').1 k)
    rw [if_neg ha, if_neg h, if_neg h, Bool.eq_iff_iff, decide_eq_true_eq, decide_eq_true_eq]
    exact cmpI_neg a a'

theorem ret_int {k : IntKind} {a b : Int} (h : a = b) : Ending.returned (.int k a) = .returned (.int k b) := by rw [h]

theorem nanInt_c (a : Int) (w : World) : Calls Tryz.prog 100 #[.int .i64 a] w fun e w' => e = .returned (.bool false) ∧ w = w' := by
  go_enter Tryz.func100, Tryz.ntmps100
  go_wp2
  go_ret
  exact ⟨by simp, rfl⟩
theorem nanStr_c (a : ByteArray) (w : World) : Calls Tryz.prog 134 #[.string a] w fun e w' => e = .returned (.bool false) ∧ w = w' := by
  go_enter Tryz.func134, Tryz.ntmps134
  go_wp2
  go_ret
  exact ⟨by simp, rfl⟩
theorem compareInt_c (a b : Int) (w : World) : Calls Tryz.prog 63 #[.int .i64 a, .int .i64 b] w fun e w' => e = .returned (.int .i64 (cmpI a b)) ∧ w = w' := by
  go_enter Tryz.func63, Tryz.ntmps63
  go_wp2_with (go_at_call 100; refine (nanInt_c _ _).mono ?_; rintro e w' ⟨rfl, rfl⟩)
  all_goals go_ret
  all_goals exact ⟨ret_int (by unfold cmpI; split <;> (try split) <;> omega), rfl⟩
theorem cmpS_one {a b : ByteArray} (h : ltS a b = true) : cmpS a b = -1 := by rw [cmpS, if_pos h]
theorem cmpS_two {a b : ByteArray} (h : ltS a b = false) (k : ltS b a = true) : cmpS a b = 1 := by rw [cmpS, if_neg (by simp [h]), if_pos k]
theorem cmpS_three {a b : ByteArray} (h : ltS a b = false) (k : ltS b a = false) : cmpS a b = 0 := by rw [cmpS, if_neg (by simp [h]), if_neg (by simp [k])]
theorem compareStr_c (a b : ByteArray) (w : World) : Calls Tryz.prog 101 #[.string a, .string b] w fun e w' => e = .returned (.int .i64 (cmpS a b)) ∧ w = w' := by
  go_enter Tryz.func101, Tryz.ntmps101
  go_wp2_with (go_at_call 134; refine (nanStr_c _ _).mono ?_; rintro e w' ⟨rfl, rfl⟩)
  · have h1 : ltS a b = true := by assumption
    go_ret
    exact ⟨ret_int (cmpS_one h1).symm, rfl⟩
  · have h1 : ltS a b = false := by assumption
    have h2 : (!a.toList == b.toList) = true := by assumption
    have h3 : ltS b a = true := by rw [← gtS, show Op.bytesLess a.toList b.toList = false from h1]; exact h2
    go_ret
    exact ⟨ret_int (cmpS_two h1 h3).symm, rfl⟩
  · have h1 : ltS a b = false := by assumption
    have h2 : (!a.toList == b.toList) = false := by assumption
    have h3 : ltS b a = false := by rw [← gtS, show Op.bytesLess a.toList b.toList = false from h1]; exact h2
    go_ret
    exact ⟨ret_int (cmpS_three h1 h3).symm, rfl⟩
end Go.Proofs.YtijmocdkaabijaaGreatDoor

/-! What SameVer answers, the program's and the specification's: contracts for the walks; conditions: the lists of texts lie in memory as told, and are no longer than 2 to the 40. -/
namespace Go.Proofs.YtijmocdkaabijaaGreatDoor
open Go.RowKit
set_option linter.unusedSimpArgs false
set_option linter.unusedVariables false

set_option maxHeartbeats 1000000 in
set_option maxRecDepth 100000 in
theorem equalStrs_c (v u : Value) (ss ts : List ByteArray) (w : World) (hv : Reads w v (strsV ss)) (hu : Reads w u (strsV ts)) (hn : ss.length ≤ 1099511627776) :
    Calls Tryz.prog 133 #[v, u] w fun e w' => e = .returned (.bool (decide (ss = ts))) ∧ Below w.heap.size w w' := by
  obtain ⟨a, cap, rfl, _, hc⟩ := reads_strs hv
  obtain ⟨a2, cap2, rfl, _, hc2⟩ := reads_strs hu
  clear hv hu
  by_cases hl : ss.length = ts.length
  · rcases hc with rfl | ⟨b, off, rfl, hlt, hc⟩
    · have : ts = [] := List.eq_nil_of_length_eq_zero (by simpa using hl.symm)
      subst this
      go_enter Tryz.func133, Tryz.ntmps133
      go_wp2
      go_loopw [5, 13] (fun _ vi wr => vi = .int .i64 0 ∧ wr = w) (fun _ _ _ => 0)
      case atStart => exact ⟨rfl, rfl⟩
      case round =>
        obtain ⟨rfl, rfl⟩ := hrel
        go_wp2
        go_ret
        exact ⟨rfl, Below.refl _ _⟩
    rcases hc2 with rfl | ⟨b2, off2, rfl, hlt2, hc2⟩
    · have : ss = [] := List.eq_nil_of_length_eq_zero (by simpa using hl)
      subst this
      go_enter Tryz.func133, Tryz.ntmps133
      go_wp2
      go_loopw [5, 13] (fun _ vi wr => vi = .int .i64 0 ∧ wr = w) (fun _ _ _ => 0)
      case atStart => exact ⟨rfl, rfl⟩
      case round =>
        obtain ⟨rfl, rfl⟩ := hrel
        go_wp2
        go_ret
        exact ⟨rfl, Below.refl _ _⟩
    · have HL : Hid (ss.length = ts.length) := hl
      have hc2' : ∀ k (h : k < ts.length), w.cell? ⟨b2, off2 + k, none⟩ = some (.string ts[k]) := hc2
      have HC2 : Hid (∀ k (h : k < ts.length), w.cell? ⟨b2, off2 + k, none⟩ = some (.string ts[k])) := hc2'
      rw [← hl]
      clear hl hc2 hc2'
      go_enter Tryz.func133, Tryz.ntmps133
      go_wp2
      go_loopw [5, 13] (fun _ vi wr => ∃ k : Nat, k ≤ ss.length ∧ vi = .int .i64 (k : Int) ∧ Hid (∀ j (h1 : j < ss.length) (h2 : j < ts.length), j < k → ss[j] = ts[j]) ∧ Below w.heap.size w wr) (fun _ vi _ => ss.length - (intOf vi).toNat)
      case atStart => exact ⟨0, Nat.zero_le _, rfl, fun j h1 h2 hj => by omega, Below.refl _ _⟩
      case round =>
        obtain ⟨k, hk, rfl, hy, hbr⟩ := hrel
        by_cases hlt' : k < ss.length
        · have hlt2' : k < ts.length := by have := HL.out; omega
          have hcx : wr.cell? ⟨b, off + k, none⟩ = some (.string ss[k]) := (hbr.cell (p := ⟨b, off + k, none⟩) hlt).trans (hc k hlt')
          have hcy : wr.cell? ⟨b2, off2 + k, none⟩ = some (.string ts[k]) := (hbr.cell (p := ⟨b2, off2 + k, none⟩) hlt2).trans (HC2.out k hlt2')
          obtain ⟨x, hx⟩ : ∃ x, x = ss[k] := ⟨_, rfl⟩
          obtain ⟨y, hy'⟩ : ∃ y, y = ts[k] := ⟨_, rfl⟩
          rw [← hx] at hcx
          rw [← hy'] at hcy
          have HX : Hid (x = ss[k]) := hx
          have HY : Hid (y = ts[k]) := hy'
          have hki : (k : Int) < (ss.length : Int) := by omega
          clear hc hx hy'
          go_wp2
          go_quiet (fail)
          go_wp2
          · have hne : (!x.toList == y.toList) = true := by assumption
            have hne' : ¬ ss = ts := fun e => by
              have e1 := HX.out; have e2 := HY.out; subst e; rw [← e2] at e1; subst e1; simp at hne
            go_ret
            exact ⟨by simp [hne'], below_drewN' hbr _⟩
          · have he : (!x.toList == y.toList) = false := by assumption
            have he' : x = y := bytes_eq_of_toList (by simpa using he)
            go_roundw
            case rel => exact ⟨k + 1, by omega, by go_num, fun j h1 h2 hj => (by
              by_cases e : j = k
              · subst e; rw [← HX.out, ← HY.out]; exact he'
              · exact hy.out j h1 h2 (by omega)), below_drewN' hbr _⟩
            case measure => simp [intOf]; omega
        · clear hc
          have he : k = ss.length := by omega
          subst he
          have e : ss = ts := strs_done HL.out (fun j h1 h2 => hy.out j h1 h2 h1)
          go_wp2
          go_ret
          exact ⟨by simp [e], hbr⟩
  · have hne : ¬ ss = ts := fun e => hl (by rw [e])
    have hl' : ((ss.length : Int) != (ts.length : Int)) = true := by simp; omega
    rw [decide_eq_false hne]
    clear hc hc2
    go_enter Tryz.func133, Tryz.ntmps133
    go_wp2
    go_ret
    exact ⟨rfl, Below.refl _ _⟩

theorem boxes_pre {w w1 : World} {c0 c1 c2 c3 d0 d1 d2 d3 : Value} {t t' : TypeId} (hb : Below ((w.alloc (.cells #[c0, c1, c2, c3] t)).alloc (.cells #[d0, d1, d2, d3] t')).heap.size ((w.alloc (.cells #[c0, c1, c2, c3] t)).alloc (.cells #[d0, d1, d2, d3] t')) w1) :
    w1.cell? ⟨w.heap.size, 3, none⟩ = some c3 ∧ w1.cell? ⟨w.heap.size + 1, 3, none⟩ = some d3 := by
  have s1 : ∀ o, (w.alloc o).heap.size = w.heap.size + 1 := fun o => by simp
  refine ⟨?_, ?_⟩
  · rw [hb.cell (p := ⟨w.heap.size, 3, none⟩) (by simp; omega)]
    exact vblk_cell ((vheap_old _ _ (by simp)).trans (vheap_new _ _)) 3
  · rw [hb.cell (p := ⟨w.heap.size + 1, 3, none⟩) (by simp)]
    have h := vheap_new (w.alloc (.cells #[c0, c1, c2, c3] t)) (.cells #[d0, d1, d2, d3] t')
    rw [s1] at h
    exact vblk_cell h 3


def coreB (a b c a' b' c' : Int) : Bool := a == a' && b == b' && c == c'
def sameB (a b c : Int) (ps : List ByteArray) (a' b' c' : Int) (ps' : List ByteArray) : Bool := coreB a b c a' b' c' && decide (ps = ps')

theorem two_box {w : World} (o o' : Obj) : Below w.heap.size w ((w.alloc o).alloc o') := ((Below.refl _ _).alloc (Nat.le_refl _) _).alloc (by simp) _

set_option maxHeartbeats 1000000 in
set_option maxRecDepth 100000 in
theorem implSame_c (a b c : Int) (u : Value) (ps : List ByteArray) (a' b' c' : Int) (u' : Value) (ps' : List ByteArray) (w : World) (hu : Reads w u (strsV ps)) (hu' : Reads w u' (strsV ps')) (hn : ps.length ≤ 1048576) :
    Calls Tryz.prog 99 #[.agg #[.int .i64 a, .int .i64 b, .int .i64 c, u], .agg #[.int .i64 a', .int .i64 b', .int .i64 c', u']] w fun e w' => e = .returned (.bool (sameB a b c ps a' b' c' ps')) ∧ Below w.heap.size w w' := by
  have hru : ∀ w1, Below w.heap.size w w1 → Reads w1 u (strsV ps) ∧ Reads w1 u' (strsV ps') := fun w1 h => ⟨hu.below h, hu'.below h⟩
  have HS : Hid (∀ w1, Below w.heap.size w w1 → Calls Tryz.prog 133 #[u, u'] w1 fun e w' => e = .returned (.bool (decide (ps = ps'))) ∧ Below w1.heap.size w1 w') := fun w1 h => equalStrs_c u u' ps ps' w1 (hru w1 h).1 (hru w1 h).2 (by omega)
  obtain ⟨q, cap, rfl, _, _⟩ := reads_strs hu
  obtain ⟨q', cap', rfl, _, _⟩ := reads_strs hu'
  clear hu hu' hru
  have EF : Hid (coreB a b c a' b' c' = false → sameB a b c ps a' b' c' ps' = false) := fun h => by rw [sameB, h]; rfl
  cases ha : (a == a') with
  | false =>
    rw [EF.out (by rw [coreB, ha]; rfl)]
    go_enter Tryz.func99, Tryz.ntmps99
    go_wp2
    go_ret
    exact ⟨rfl, two_box _ _⟩
  | true =>
  cases hb : (b == b') with
  | false =>
    rw [EF.out (by rw [coreB, hb, Bool.and_false]; rfl)]
    go_enter Tryz.func99, Tryz.ntmps99
    go_wp2
    go_ret
    exact ⟨rfl, two_box _ _⟩
  | true =>
  cases hc : (c == c') with
  | false =>
    rw [EF.out (by rw [coreB, hc, Bool.and_false])]
    go_enter Tryz.func99, Tryz.ntmps99
    go_wp2
    go_ret
    exact ⟨rfl, two_box _ _⟩
  | true =>
    have e : sameB a b c ps a' b' c' ps' = decide (ps = ps') := by rw [sameB, coreB, ha, hb, hc]; rfl
    rw [e]
    clear e EF
    go_enter Tryz.func99, Tryz.ntmps99
    go_wp2_with (go_at_call 133; refine (HS.out _ (two_box _ _)).mono ?_; rintro e w2 ⟨rfl, b2⟩)
    go_ret
    exact ⟨rfl, (two_box _ _).trans (b2.mono (by simp; omega))⟩
end Go.Proofs.YtijmocdkaabijaaGreatDoor

/-! What LessVer answers, the program's and the specification's: contracts for the walks; conditions: the lists of texts lie in memory as told, and hold no more than 2 to the 20. -/
namespace Go.Proofs.YtijmocdkaabijaaGreatDoor
open Go.RowKit
set_option linter.unusedSimpArgs false
set_option linter.unusedVariables false

theorem orI_drop (zs : List Int) (k : Nat) (h : k < zs.length) : orI (zs.drop k) = if zs[k] = 0 then orI (zs.drop (k + 1)) else zs[k] := by
  rw [List.drop_eq_getElem_cons h, orI]

set_option maxHeartbeats 1000000 in
theorem or_c (zs : List Int) (B cap : Nat) (w : World) (hn : zs.length ≤ 1048576) (hcap : zs.length ≤ cap) (hc : ∀ k (h : k < zs.length), w.cell? ⟨B, k, none⟩ = some (.int .i64 zs[k])) :
    Calls Tryz.prog 62 #[.slice (some ⟨B, 0, none⟩) zs.length cap] w fun e w' => e = .returned (.int .i64 (orI zs)) ∧ w = w' := by
  go_enter Tryz.func62, Tryz.ntmps62
  go_wp2
  go_loop [5, 8] (fun _ vi => ∃ k : Nat, k ≤ zs.length ∧ vi = .int .i64 (k : Int) ∧ Hid (orI zs = orI (zs.drop k))) (fun _ vi => zs.length - (intOf vi).toNat)
  case atStart => exact ⟨0, Nat.zero_le _, rfl, rfl⟩
  case round =>
    obtain ⟨k, hk, rfl, hh⟩ := hrel
    by_cases hlt : k < zs.length
    · have hcx := hc k hlt
      have HD : Hid (orI (zs.drop k) = if zs[k] = 0 then orI (zs.drop (k + 1)) else zs[k]) := orI_drop zs k hlt
      obtain ⟨z, hz⟩ : ∃ z, z = zs[k] := ⟨_, rfl⟩
      rw [← hz] at hcx
      have HZ : Hid (z = zs[k]) := hz
      have hki : (k : Int) < (zs.length : Int) := by omega
      clear hc hz
      go_wp2
      · have h1 : (z != 0) = true := by assumption
        have h2 : ¬ z = 0 := by simpa using h1
        go_ret
        exact ⟨ret_int (by rw [hh.out, HD.out, ← HZ.out, if_neg h2]), rfl⟩
      · have h1 : (z != 0) = false := by assumption
        have h2 : z = 0 := by simpa using h1
        have HN : Hid (orI zs = orI (zs.drop (k + 1))) := by show _ = _; rw [hh.out, HD.out, ← HZ.out, if_pos h2]
        clear h2
        go_round
        case rel => exact ⟨k + 1, by omega, by go_num, HN⟩
        case measure => simp [intOf]; omega
    · have he : k = zs.length := by omega
      subst he
      clear hc
      have HE : Hid (orI zs = 0) := by show _ = _; rw [hh.out, List.drop_length]; rfl
      go_wp2
      go_ret
      exact ⟨ret_int HE.out.symm, rfl⟩

theorem two_cells (w : World) (x y : Int) (t : TypeId) : ∀ k (h : k < [x, y].length), (w.alloc (.cells #[.int .i64 x, .int .i64 y] t)).cell? ⟨w.heap.size, k, none⟩ = some (.int .i64 [x, y][k]) := fun k h => by
  have e := vblk_cell (vheap_new w (.cells #[.int .i64 x, .int .i64 y] t)) k
  rw [e]
  match k, h with
  | 0, _ => rfl
  | 1, _ => rfl
theorem three_cells (w : World) (x y z : Int) (t : TypeId) : ∀ k (h : k < [x, y, z].length), (w.alloc (.cells #[.int .i64 x, .int .i64 y, .int .i64 z] t)).cell? ⟨w.heap.size, k, none⟩ = some (.int .i64 [x, y, z][k]) := fun k h => by
  have e := vblk_cell (vheap_new w (.cells #[.int .i64 x, .int .i64 y, .int .i64 z] t)) k
  rw [e]
  match k, h with
  | 0, _ => rfl
  | 1, _ => rfl
  | 2, _ => rfl

set_option maxHeartbeats 1000000 in
theorem comparePart_c (a b : ByteArray) (ha : a.size ≤ maxLen) (hb : b.size ≤ maxLen) (w : World) :
    Calls Tryz.prog 65 #[.string a, .string b] w fun e w' => e = .returned (.int .i64 (cmpPart a b)) ∧ Below w.heap.size w w' := by
  have HA : Hid (∀ w1, Calls Tryz.prog 96 #[.string a] w1 fun e w' => e = .returned (.bool (digitsB a)) ∧ w1 = w') := fun w1 => implDigits_c a ha w1
  have HB : Hid (∀ w1, Calls Tryz.prog 96 #[.string b] w1 fun e w' => e = .returned (.bool (digitsB b)) ∧ w1 = w') := fun w1 => implDigits_c b hb w1
  unfold maxLen at ha hb
  cases h1 : digitsB a <;> cases h2 : digitsB b
  · have e : cmpPart a b = cmpS a b := by rw [cmpPart, h1, h2]; rfl
    rw [e]
    rw [h1] at HA
    rw [h2] at HB
    go_enter Tryz.func65, Tryz.ntmps65
    go_wp2_with fail
    go_at_call 96
    refine (HA.out _).mono ?_
    rintro e w' ⟨rfl, rfl⟩
    go_wp2_with fail
    go_at_call 96
    refine (HB.out _).mono ?_
    rintro e w' ⟨rfl, rfl⟩
    go_wp2_with (go_at_call 101; refine (compareStr_c _ _ _).mono ?_; rintro e w' ⟨rfl, rfl⟩)
    go_ret
    exact ⟨rfl, Below.refl _ _⟩
  · have e : cmpPart a b = 1 := by rw [cmpPart, h1, h2]; rfl
    rw [e]
    rw [h1] at HA
    rw [h2] at HB
    go_enter Tryz.func65, Tryz.ntmps65
    go_wp2_with fail
    go_at_call 96
    refine (HA.out _).mono ?_
    rintro e w' ⟨rfl, rfl⟩
    go_wp2_with fail
    go_at_call 96
    refine (HB.out _).mono ?_
    rintro e w' ⟨rfl, rfl⟩
    go_wp2
    go_ret
    exact ⟨rfl, Below.refl _ _⟩
  · have e : cmpPart a b = -1 := by rw [cmpPart, h1, h2]; rfl
    rw [e]
    rw [h1] at HA
    rw [h2] at HB
    go_enter Tryz.func65, Tryz.ntmps65
    go_wp2_with fail
    go_at_call 96
    refine (HA.out _).mono ?_
    rintro e w' ⟨rfl, rfl⟩
    go_wp2_with fail
    go_at_call 96
    refine (HB.out _).mono ?_
    rintro e w' ⟨rfl, rfl⟩
    go_wp2
    go_ret
    exact ⟨rfl, Below.refl _ _⟩
  · have e : cmpPart a b = orI [cmpI a.size b.size, cmpS a b] := by rw [cmpPart, h1, h2]; rfl
    rw [e]
    rw [h1] at HA
    rw [h2] at HB
    clear e
    go_enter Tryz.func65, Tryz.ntmps65
    go_wp2_with fail
    go_at_call 96
    refine (HA.out _).mono ?_
    rintro e w' ⟨rfl, rfl⟩
    go_wp2_with fail
    go_at_call 96
    refine (HB.out _).mono ?_
    rintro e w' ⟨rfl, rfl⟩
    go_wp2_with (first
      | (go_at_call 101; refine (compareStr_c _ _ _).mono ?_; rintro e w' ⟨rfl, rfl⟩)
      | (go_at_call 63; refine (compareInt_c _ _ _).mono ?_; rintro e w' ⟨rfl, rfl⟩)
      | (go_at_call 62; refine (or_c [cmpI a.size b.size, cmpS a b] _ _ _ (by simp) (by simp) (two_cells _ _ _ _)).mono ?_; rintro e w' ⟨rfl, rfl⟩))
    go_ret
    exact ⟨rfl, (Below.refl _ _).alloc (Nat.le_refl _) _⟩
end Go.Proofs.YtijmocdkaabijaaGreatDoor

/-! What LessVer answers, the program's: contracts for the walks; conditions: the lists of texts lie in memory as told, and hold no more than 2 to the 20. -/
namespace Go.Proofs.YtijmocdkaabijaaGreatDoor
open Go.RowKit
set_option linter.unusedSimpArgs false
set_option linter.unusedVariables false

theorem cmpPre_at (ps ps' : List ByteArray) (k : Nat) (h : k < ps.length) (h' : k < ps'.length) : cmpPre (ps.drop k) (ps'.drop k) = if cmpPart ps[k] ps'[k] = 0 then cmpPre (ps.drop (k + 1)) (ps'.drop (k + 1)) else cmpPart ps[k] ps'[k] := by
  rw [List.drop_eq_getElem_cons h, List.drop_eq_getElem_cons h', cmpPre]
theorem cmpPre_past (ps ps' : List ByteArray) (k : Nat) (h : k < ps.length) (h' : ¬ k < ps'.length) : cmpPre (ps.drop k) (ps'.drop k) = 1 := by
  rw [List.drop_eq_getElem_cons h, List.drop_eq_nil_of_le (show ps'.length ≤ k by omega), cmpPre]
theorem cmpPre_end (ps ps' : List ByteArray) : cmpPre (ps.drop ps.length) (ps'.drop ps.length) = if ps.length < ps'.length then -1 else 0 := by
  rw [List.drop_length]
  by_cases h : ps.length < ps'.length
  · rw [List.drop_eq_getElem_cons h, cmpPre, if_pos h]
  · rw [List.drop_eq_nil_of_le (show ps'.length ≤ ps.length by omega), cmpPre, if_neg h]

set_option maxHeartbeats 1000000 in
set_option maxRecDepth 100000 in
theorem compareFunc_c (u u' : Value) (ps ps' : List ByteArray) (w : World) (hu : Reads w u (strsV ps)) (hu' : Reads w u' (strsV ps')) (hb : bulkS ps ≤ 1048576) (hb' : bulkS ps' ≤ 1048576) :
    Calls Tryz.prog 64 #[u, u', .func (.func 65) #[] #[]] w fun e w' => e = .returned (.int .i64 (cmpPre ps ps')) ∧ Below w.heap.size w w' := by
  have hsz : ∀ s ∈ ps, s.size ≤ maxLen := fun s hs => by have := size_of_bulk hs; unfold maxLen; omega
  have hsz' : ∀ s ∈ ps', s.size ≤ maxLen := fun s hs => by have := size_of_bulk hs; unfold maxLen; omega
  have hn : ps.length ≤ 1048576 := by unfold bulkS at hb; omega
  have hn' : ps'.length ≤ 1048576 := by unfold bulkS at hb'; omega
  obtain ⟨q, cap, rfl, _, hc⟩ := reads_strs hu
  obtain ⟨q', cap', rfl, _, hc'⟩ := reads_strs hu'
  clear hu hu' hb hb'
  go_enter Tryz.func64, Tryz.ntmps64
  go_wp2
  go_loopw [7, 8, 9, 10, 13] (fun _ _ _ _ vi wr => ∃ k : Nat, k ≤ ps.length ∧ vi = .int .i64 (k : Int) ∧ Hid (cmpPre (ps.drop k) (ps'.drop k) = cmpPre ps ps') ∧ Below w.heap.size w wr) (fun _ _ _ _ vi _ => ps.length - (intOf vi).toNat)
  case atStart => exact ⟨0, Nat.zero_le _, rfl, rfl, Below.refl _ _⟩
  case round =>
    obtain ⟨k, hk, rfl, hh, hbr⟩ := hrel
    by_cases hlt : k < ps.length
    · rcases hc with rfl | ⟨bl, off, rfl, hlb, hc⟩
      · simp at hlt
      have hcx : wr.cell? ⟨bl, off + k, none⟩ = some (.string ps[k]) := (hbr.cell (p := ⟨bl, off + k, none⟩) hlb).trans (hc k hlt)
      have hsk := hsz ps[k] (List.getElem_mem hlt)
      obtain ⟨t, ht⟩ : ∃ t, t = ps[k] := ⟨_, rfl⟩
      rw [← ht] at hcx hsk
      have HT : Hid (t = ps[k]) := ht
      have hki : (k : Int) < (ps.length : Int) := by omega
      clear hc hsz ht
      by_cases hlt' : k < ps'.length
      · rcases hc' with rfl | ⟨bl', off', rfl, hlb', hc'⟩
        · simp at hlt'
        have hcx' : wr.cell? ⟨bl', off' + k, none⟩ = some (.string ps'[k]) := (hbr.cell (p := ⟨bl', off' + k, none⟩) hlb').trans (hc' k hlt')
        have hsk' := hsz' ps'[k] (List.getElem_mem hlt')
        obtain ⟨t', ht'⟩ : ∃ t, t = ps'[k] := ⟨_, rfl⟩
        rw [← ht'] at hcx' hsk'
        have HT' : Hid (t' = ps'[k]) := ht'
        have hki' : (k : Int) < (ps'.length : Int) := by omega
        have HP : Hid (cmpPre (ps.drop k) (ps'.drop k) = if cmpPart t t' = 0 then cmpPre (ps.drop (k + 1)) (ps'.drop (k + 1)) else cmpPart t t') := by rw [HT.out, HT'.out]; exact cmpPre_at ps ps' k hlt hlt'
        clear hc' hsz' ht'
        obtain ⟨z, hz⟩ : ∃ z, z = cmpPart t t' := ⟨_, rfl⟩
        have HC : Hid (∀ w1, Calls Tryz.prog 65 #[.string t, .string t'] w1 fun e w' => e = .returned (.int .i64 z) ∧ Below w1.heap.size w1 w') := fun w1 => by rw [hz]; exact comparePart_c t t' hsk hsk' w1
        rw [← hz] at HP
        clear hz
        go_wp2_with (go_at_call 65; refine (HC.out _).mono ?_; rintro e w1 ⟨rfl, b1⟩)
        · have h1 : (z != 0) = true := by assumption
          have h2 : ¬ z = 0 := by simpa using h1
          go_ret
          exact ⟨ret_int (by rw [← hh.out, HP.out, if_neg h2]), hbr.trans (b1.mono hbr.size)⟩
        · have h1 : (z != 0) = false := by assumption
          have h2 : z = 0 := by simpa using h1
          have HN : Hid (cmpPre (ps.drop (k + 1)) (ps'.drop (k + 1)) = cmpPre ps ps') := by show _ = _; rw [← hh.out, HP.out, if_pos h2]
          clear h2
          go_roundw
          case rel => exact ⟨k + 1, by omega, by go_num, HN, hbr.trans (b1.mono hbr.size)⟩
          case measure => simp [intOf]; omega
      · have hki' : ¬ (k : Int) < (ps'.length : Int) := by omega
        have hki2 : (ps'.length : Int) ≤ (k : Int) := by omega
        clear hc' hsz'
        go_wp2
        go_ret
        exact ⟨ret_int (by rw [← hh.out]; exact (cmpPre_past ps ps' k hlt hlt').symm), hbr⟩
    · have he : k = ps.length := by omega
      subst he
      have HE : Hid (cmpPre ps ps' = if ps.length < ps'.length then -1 else 0) := by show _ = _; rw [← hh.out]; exact cmpPre_end ps ps'
      clear hc hc' hsz hsz'
      by_cases hl : ps.length < ps'.length
      · have hl' : (ps.length : Int) < (ps'.length : Int) := by omega
        go_wp2
        go_ret
        exact ⟨ret_int (by rw [HE.out, if_pos hl]), hbr⟩
      · have hl' : ¬ (ps.length : Int) < (ps'.length : Int) := by omega
        go_wp2
        go_ret
        exact ⟨ret_int (by rw [HE.out, if_neg hl]), hbr⟩

theorem three_cells_d (w : World) (x y z : Int) (t : TypeId) : ∀ k (h : k < [x, y, z].length), (w.alloc (.cells #[.int .i64 x, .int .i64 y, .int .i64 z] t)).drew.cell? ⟨w.heap.size, k, none⟩ = some (.int .i64 [x, y, z][k]) := three_cells w x y z t

set_option maxHeartbeats 2000000 in
set_option maxRecDepth 100000 in
theorem compareVers_c (a b c : Int) (u : Value) (ps : List ByteArray) (a' b' c' : Int) (u' : Value) (ps' : List ByteArray) (w : World) (hu : Reads w u (strsV ps)) (hu' : Reads w u' (strsV ps')) (hb : bulkS ps ≤ 1048576) (hb' : bulkS ps' ≤ 1048576) :
    Calls Tryz.prog 27 #[.agg #[.int .i64 a, .int .i64 b, .int .i64 c, u], .agg #[.int .i64 a', .int .i64 b', .int .i64 c', u']] w fun e w' => e = .returned (.int .i64 (cmpVer a b c ps a' b' c' ps')) ∧ Below w.heap.size w w' := by
  have HF : Hid (∀ w1, Below w.heap.size w w1 → Calls Tryz.prog 64 #[u, u', .func (.func 65) #[] #[]] w1 fun e w' => e = .returned (.int .i64 (cmpPre ps ps')) ∧ Below w1.heap.size w1 w') := fun w1 h => compareFunc_c u u' ps ps' w1 (hu.below h) (hu'.below h) hb hb'
  have hn : ps.length ≤ 1048576 := by unfold bulkS at hb; omega
  have hn' : ps'.length ≤ 1048576 := by unfold bulkS at hb'; omega
  obtain ⟨q, cap, rfl, _, _⟩ := reads_strs hu
  obtain ⟨q', cap', rfl, _, _⟩ := reads_strs hu'
  clear hu hu' hb hb'
  obtain ⟨x, hx⟩ : ∃ x, x = orI [cmpI a a', cmpI b b', cmpI c c'] := ⟨_, rfl⟩
  have HV : Hid (cmpVer a b c ps a' b' c' ps' = if x = 0 then (if ps.length = 0 ∨ ps'.length = 0 then cmpI ps'.length ps.length else cmpPre ps ps') else x) := by show _ = _; rw [cmpVer, ← hx]
  have HO : Hid (∀ B w1, (∀ k (h : k < [cmpI a a', cmpI b b', cmpI c c'].length), w1.cell? ⟨B, k, none⟩ = some (.int .i64 [cmpI a a', cmpI b b', cmpI c c'][k])) → Calls Tryz.prog 62 #[.slice (some ⟨B, 0, none⟩) 3 3] w1 fun e w' => e = .returned (.int .i64 x) ∧ w1 = w') := fun B w1 h => by rw [hx]; exact or_c [cmpI a a', cmpI b b', cmpI c c'] B 3 w1 (by simp) (by simp) h
  clear hx
  have hb3 : ∀ A R O, Below w.heap.size w (((w.alloc A).alloc R).alloc O) := fun A R O => (((Below.refl _ _).alloc (Nat.le_refl _) _).alloc (by simp) _).alloc (by simp; omega) _
  go_enter Tryz.func27, Tryz.ntmps27
  go_wp2_with fail
  obtain ⟨A0, B0⟩ := four_two w 26 26 (.int .i64 a) (.int .i64 b) (.int .i64 c) (.slice q ps.length cap) (.int .i64 a') (.int .i64 b') (.int .i64 c') (.slice q' ps'.length cap')
  have hW := two_box (w := w) (.cells #[.int .i64 a, .int .i64 b, .int .i64 c, .slice q ps.length cap] 26) (.cells #[.int .i64 a', .int .i64 b', .int .i64 c', .slice q' ps'.length cap'] 26)
  generalize ((w.alloc (.cells #[.int .i64 a, .int .i64 b, .int .i64 c, .slice q ps.length cap] 26)).alloc (.cells #[.int .i64 a', .int .i64 b', .int .i64 c', .slice q' ps'.length cap'] 26)) = W0 at A0 B0 hW ⊢
  obtain ⟨x0, x1, x2, x3⟩ := A0.cells
  obtain ⟨y0, y1, y2, y3⟩ := B0.cells
  have la := A0.lt
  have lb := B0.lt
  go_region_held (fun w' => w'.cell? ⟨w.heap.size, 0, none⟩ = some (.int .i64 a) ∧ w'.cell? ⟨w.heap.size, 1, none⟩ = some (.int .i64 b) ∧ w'.cell? ⟨w.heap.size, 2, none⟩ = some (.int .i64 c) ∧ w'.cell? ⟨w.heap.size, 3, none⟩ = some (.slice q ps.length cap) ∧ w'.cell? ⟨w.heap.size + 1, 0, none⟩ = some (.int .i64 a') ∧ w'.cell? ⟨w.heap.size + 1, 1, none⟩ = some (.int .i64 b') ∧ w'.cell? ⟨w.heap.size + 1, 2, none⟩ = some (.int .i64 c') ∧ w'.cell? ⟨w.heap.size + 1, 3, none⟩ = some (.slice q' ps'.length cap')) (go_keep) (first
    | (go_at_call 63
       refine (compareInt_c _ _ _).mono ?_
       rintro e w1 ⟨rfl, rfl⟩)
    | (go_at_call 62
       refine (HO.out _ _ (three_cells_d _ _ _ _ _)).mono ?_
       rintro e w1 ⟨rfl, rfl⟩))
  have hW2 : ∀ o, Below w.heap.size w (W0.alloc o).drew := fun o => (hW.alloc hW.size _).drew
  by_cases h0 : x = 0
  · have HV2 : Hid (cmpVer a b c ps a' b' c' ps' = if ps.length = 0 ∨ ps'.length = 0 then cmpI ps'.length ps.length else cmpPre ps ps') := by show _ = _; rw [HV.out, if_pos h0]
    subst h0
    clear HV HO
    by_cases hp : ps.length = 0
    · have hp1 : ((ps.length : Int) == 0) = true := by simp [hp]
      have HP : Hid (cmpVer a b c ps a' b' c' ps' = cmpI ps'.length ps.length) := by show _ = _; rw [HV2.out, if_pos (.inl hp)]
      clear hp
      go_wp2_with (go_at_call 63; refine (compareInt_c _ _ _).mono ?_; rintro e w1 ⟨rfl, rfl⟩)
      go_ret
      exact ⟨ret_int HP.out.symm, hW2 _⟩
    · have hp1 : ((ps.length : Int) == 0) = false := by rw [beq_eq_false_iff_ne]; omega
      by_cases hp' : ps'.length = 0
      · have hp2 : ((ps'.length : Int) == 0) = true := by simp [hp']
        have HP : Hid (cmpVer a b c ps a' b' c' ps' = cmpI ps'.length ps.length) := by show _ = _; rw [HV2.out, if_pos (.inr hp')]
        clear hp hp'
        go_wp2_with (go_at_call 63; refine (compareInt_c _ _ _).mono ?_; rintro e w1 ⟨rfl, rfl⟩)
        go_ret
        exact ⟨ret_int HP.out.symm, hW2 _⟩
      · have hp2 : ((ps'.length : Int) == 0) = false := by rw [beq_eq_false_iff_ne]; omega
        have HP : Hid (cmpVer a b c ps a' b' c' ps' = cmpPre ps ps') := by show _ = _; rw [HV2.out, if_neg (by omega)]
        clear hp hp'
        go_wp2_with (go_at_call 64; refine (HF.out _ (hW2 _)).mono ?_; rintro e w1 ⟨rfl, b1⟩)
        go_ret
        exact ⟨ret_int HP.out.symm, (hW2 _).trans (b1.mono (hW2 _).size)⟩
  · have h1 : (x != 0) = true := by simpa using h0
    go_wp2
    go_ret
    exact ⟨ret_int (by rw [HV.out, if_neg h0]), hW2 _⟩

set_option maxHeartbeats 1000000 in
set_option maxRecDepth 100000 in
theorem implLess_c (a b c : Int) (u : Value) (ps : List ByteArray) (a' b' c' : Int) (u' : Value) (ps' : List ByteArray) (w : World) (hu : Reads w u (strsV ps)) (hu' : Reads w u' (strsV ps')) (hb : bulkS ps ≤ 1048576) (hb' : bulkS ps' ≤ 1048576) :
    Calls Tryz.prog 10 #[.agg #[.int .i64 a, .int .i64 b, .int .i64 c, u], .agg #[.int .i64 a', .int .i64 b', .int .i64 c', u']] w fun e w' => e = .returned (.bool (lessB a b c ps a' b' c' ps')) ∧ Below w.heap.size w w' := by
  have HF : Hid (∀ w1, Below w.heap.size w w1 → Calls Tryz.prog 27 #[.agg #[.int .i64 a, .int .i64 b, .int .i64 c, u], .agg #[.int .i64 a', .int .i64 b', .int .i64 c', u']] w1 fun e w' => e = .returned (.int .i64 (cmpVer a b c ps a' b' c' ps')) ∧ Below w1.heap.size w1 w') := fun w1 h => compareVers_c a b c u ps a' b' c' u' ps' w1 (hu.below h) (hu'.below h) hb hb'
  rw [← cmpVer_neg]
  obtain ⟨q, cap, rfl, _, _⟩ := reads_strs hu
  obtain ⟨q', cap', rfl, _, _⟩ := reads_strs hu'
  clear hu hu' hb hb'
  go_enter Tryz.func10, Tryz.ntmps10
  go_wp2_with (go_at_call 27; refine (HF.out _ (two_box _ _)).mono ?_; rintro e w1 ⟨rfl, b1⟩)
  go_ret
  exact ⟨rfl, (two_box _ _).trans (b1.mono (by simp; omega))⟩
end Go.Proofs.YtijmocdkaabijaaGreatDoor

/-! What LessVer answers, the specification's: contracts for the walks; conditions: the lists of texts lie in memory as told, and hold no more than 2 to the 20. -/
namespace Go.Proofs.YtijmocdkaabijaaGreatDoor
open Go.RowKit
set_option linter.unusedSimpArgs false
set_option linter.unusedVariables false

theorem quiet_ver {P : Program} {f : FuncId} {args : Array Value} {w : World} {n : Nat} {v : Value}
    (h : Calls P f args (w.drewN n) fun e w' => e = .returned v ∧ w.drewN n = w') : Calls P f args (w.drewN n) fun e w'' => e = .returned v ∧ ∃ m, w'' = w.drewN m :=
  h.mono fun _ _ ⟨he, hm⟩ => ⟨he, n, hm.symm⟩

theorem lessGo_at (ps ps' : List ByteArray) (k : Nat) (h : k < ps.length) (h' : k < ps'.length) : lessGo (ps.drop k) (ps'.drop k) = if ps[k] = ps'[k] then lessGo (ps.drop (k + 1)) (ps'.drop (k + 1)) else lessPart ps[k] ps'[k] := by
  rw [List.drop_eq_getElem_cons h, List.drop_eq_getElem_cons h', lessGo]
theorem lessGo_end (ps ps' : List ByteArray) (k : Nat) (h : k ≤ ps.length) (h' : k ≤ ps'.length) (he : ¬ (k < ps.length ∧ k < ps'.length)) : lessGo (ps.drop k) (ps'.drop k) = decide (ps.length < ps'.length) := by
  by_cases hk : k < ps.length
  · have : ps'.length = k := by omega
    rw [List.drop_eq_getElem_cons hk, List.drop_eq_nil_of_le (show ps'.length ≤ k by omega), lessGo, Bool.eq_iff_iff]
    simp; omega
  · rw [List.drop_eq_nil_of_le (show ps.length ≤ k by omega), lessGo, Bool.eq_iff_iff]
    simp; omega

end Go.Proofs.YtijmocdkaabijaaGreatDoor

/-! What CmpOk answers, the program's and the specification's: contracts for the walks; conditions: the lists of texts lie in memory as told, and hold no more than 2 to the 20. -/
namespace Go.Proofs.YtijmocdkaabijaaGreatDoor
open Go.RowKit
set_option linter.unusedSimpArgs false
set_option linter.unusedVariables false

theorem sameB_comm (a b c : Int) (ps : List ByteArray) (a' b' c' : Int) (ps' : List ByteArray) : sameB a b c ps a' b' c' ps' = sameB a' b' c' ps' a b c ps := by
  have e1 : (a == a') = (a' == a) := BEq.comm
  have e2 : (b == b') = (b' == b) := BEq.comm
  have e3 : (c == c') = (c' == c) := BEq.comm
  have e4 : decide (ps = ps') = decide (ps' = ps) := decide_eq_decide.2 eq_comm
  rw [sameB, sameB, coreB, coreB, e1, e2, e3, e4]

/-- What CmpOk answers of a Cmp and a version. -/
def cmpB (o a b c : Int) (ps : List ByteArray) (a' b' c' : Int) (ps' : List ByteArray) : Bool :=
  if o = 0 then sameB a b c ps a' b' c' ps' else if o = 1 then lessB a' b' c' ps' a b c ps else if o = 2 then !lessB a b c ps a' b' c' ps' else if o = 3 then lessB a b c ps a' b' c' ps' else if o = 4 then !lessB a' b' c' ps' a b c ps else false

set_option maxHeartbeats 1000000 in
set_option maxRecDepth 100000 in
theorem implCmpOk_c (o a b c : Int) (u : Value) (ps : List ByteArray) (a' b' c' : Int) (u' : Value) (ps' : List ByteArray) (w : World) (hu : Reads w u (strsV ps)) (hu' : Reads w u' (strsV ps')) (hb : bulkS ps ≤ 1048576) (hb' : bulkS ps' ≤ 1048576) :
    Calls Tryz.prog 60 #[.agg #[.int .i64 o, .int .i64 a, .int .i64 b, .int .i64 c, u], .agg #[.int .i64 a', .int .i64 b', .int .i64 c', u']] w fun e w' => e = .returned (.bool (cmpB o a b c ps a' b' c' ps')) ∧ Below w.heap.size w w' := by
  have hn : ps.length ≤ 1048576 := by unfold bulkS at hb; omega
  have hn' : ps'.length ≤ 1048576 := by unfold bulkS at hb'; omega
  have HS : Hid (∀ w1, Below w.heap.size w w1 → Calls Tryz.prog 99 #[.agg #[.int .i64 a', .int .i64 b', .int .i64 c', u'], .agg #[.int .i64 a, .int .i64 b, .int .i64 c, u]] w1 fun e w' => e = .returned (.bool (sameB a b c ps a' b' c' ps')) ∧ Below w1.heap.size w1 w') := fun w1 h => by
    rw [sameB_comm]
    exact implSame_c a' b' c' u' ps' a b c u ps w1 (hu'.below h) (hu.below h) hn'
  have HL : Hid (∀ w1, Below w.heap.size w w1 → Calls Tryz.prog 10 #[.agg #[.int .i64 a', .int .i64 b', .int .i64 c', u'], .agg #[.int .i64 a, .int .i64 b, .int .i64 c, u]] w1 fun e w' => e = .returned (.bool (lessB a' b' c' ps' a b c ps)) ∧ Below w1.heap.size w1 w') := fun w1 h => implLess_c a' b' c' u' ps' a b c u ps w1 (hu'.below h) (hu.below h) hb' hb
  have HM : Hid (∀ w1, Below w.heap.size w w1 → Calls Tryz.prog 10 #[.agg #[.int .i64 a, .int .i64 b, .int .i64 c, u], .agg #[.int .i64 a', .int .i64 b', .int .i64 c', u']] w1 fun e w' => e = .returned (.bool (lessB a b c ps a' b' c' ps')) ∧ Below w1.heap.size w1 w') := fun w1 h => implLess_c a b c u ps a' b' c' u' ps' w1 (hu.below h) (hu'.below h) hb hb'
  have HC : Hid (cmpB o a b c ps a' b' c' ps' = if o = 0 then sameB a b c ps a' b' c' ps' else if o = 1 then lessB a' b' c' ps' a b c ps else if o = 2 then !lessB a b c ps a' b' c' ps' else if o = 3 then lessB a b c ps a' b' c' ps' else if o = 4 then !lessB a' b' c' ps' a b c ps else false) := rfl
  obtain ⟨r0, hr0⟩ : ∃ r, r = sameB a b c ps a' b' c' ps' := ⟨_, rfl⟩
  obtain ⟨r1, hr1⟩ : ∃ r, r = lessB a' b' c' ps' a b c ps := ⟨_, rfl⟩
  obtain ⟨r2, hr2⟩ : ∃ r, r = lessB a b c ps a' b' c' ps' := ⟨_, rfl⟩
  obtain ⟨rc, hrc⟩ : ∃ r, r = cmpB o a b c ps a' b' c' ps' := ⟨_, rfl⟩
  rw [← hr0, ← hr1, ← hr2, ← hrc] at HC
  rw [← hr0] at HS
  rw [← hr1] at HL
  rw [← hr2] at HM
  rw [← hrc]
  obtain ⟨q, cap, rfl, _, _⟩ := reads_strs hu
  obtain ⟨q', cap', rfl, _, _⟩ := reads_strs hu'
  clear hu hu' hb hb' hr0 hr1 hr2 hrc
  by_cases h0 : o = 0
  · have e : rc = (r0) := by rw [HC.out]; simp [h0]
    rw [e]
    subst h0
    clear e HC
    go_enter Tryz.func60, Tryz.ntmps60
    go_wp2_with (go_at_call 99; refine (HS.out _ (two_box _ _)).mono ?_; rintro e w1 ⟨rfl, b1⟩)
    go_ret
    exact ⟨rfl, (two_box _ _).trans (b1.mono (by simp; omega))⟩
  by_cases h1 : o = 1
  · have e : rc = (r1) := by rw [HC.out]; simp [h1]
    rw [e]
    subst h1
    clear e HC
    go_enter Tryz.func60, Tryz.ntmps60
    go_wp2_with (go_at_call 10; refine (HL.out _ (two_box _ _)).mono ?_; rintro e w1 ⟨rfl, b1⟩)
    go_ret
    exact ⟨rfl, (two_box _ _).trans (b1.mono (by simp; omega))⟩
  by_cases h2 : o = 2
  · have e : rc = (!r2) := by rw [HC.out]; simp [h2]
    rw [e]
    subst h2
    clear e HC
    go_enter Tryz.func60, Tryz.ntmps60
    go_wp2_with (go_at_call 10; refine (HM.out _ (two_box _ _)).mono ?_; rintro e w1 ⟨rfl, b1⟩)
    go_ret
    exact ⟨rfl, (two_box _ _).trans (b1.mono (by simp; omega))⟩
  by_cases h3 : o = 3
  · have e : rc = (r2) := by rw [HC.out]; simp [h3]
    rw [e]
    subst h3
    clear e HC
    go_enter Tryz.func60, Tryz.ntmps60
    go_wp2_with (go_at_call 10; refine (HM.out _ (two_box _ _)).mono ?_; rintro e w1 ⟨rfl, b1⟩)
    go_ret
    exact ⟨rfl, (two_box _ _).trans (b1.mono (by simp; omega))⟩
  by_cases h4 : o = 4
  · have e : rc = (!r1) := by rw [HC.out]; simp [h4]
    rw [e]
    subst h4
    clear e HC
    go_enter Tryz.func60, Tryz.ntmps60
    go_wp2_with (go_at_call 10; refine (HL.out _ (two_box _ _)).mono ?_; rintro e w1 ⟨rfl, b1⟩)
    go_ret
    exact ⟨rfl, (two_box _ _).trans (b1.mono (by simp; omega))⟩
  have e : rc = false := by rw [HC.out]; simp [h0, h1, h2, h3, h4]
  rw [e]
  have k0 : (o == 0) = false := by simpa using h0
  have k1 : (o == 1) = false := by simpa using h1
  have k2 : (o == 2) = false := by simpa using h2
  have k3 : (o == 3) = false := by simpa using h3
  have k4 : (o == 4) = false := by simpa using h4
  clear e HC h0 h1 h2 h3 h4
  go_enter Tryz.func60, Tryz.ntmps60
  go_wp2
  go_ret
  exact ⟨rfl, two_box _ _⟩

end Go.Proofs.YtijmocdkaabijaaGreatDoor

/-! What InRange answers, the program's: contracts for the walks; conditions: what comes in lies in memory as told, and holds no more than 2 to the 20. -/
namespace Go.Proofs.YtijmocdkaabijaaGreatDoor
open Go.RowKit
set_option linter.unusedSimpArgs false
set_option linter.unusedVariables false

/-- Does a Cmp hold, and does it ask for a Pre of these numbers? -/
def holdsD (a' b' c' : Int) (ps' : List ByteArray) (d : CmpD) : Bool := cmpB d.o d.a d.b d.c d.ps a' b' c' ps'
def asksD (a' b' c' : Int) (d : CmpD) : Bool := decide (0 < d.ps.length) && coreB d.a d.b d.c a' b' c'
/-- Is a version taken by a list of Cmps; by a range? -/
def takeB (a' b' c' : Int) (ps' : List ByteArray) (ds : List CmpD) : Bool := ds.all (holdsD a' b' c' ps') && (decide (ps'.length = 0) || ds.any (asksD a' b' c'))
def inRB (a' b' c' : Int) (ps' : List ByteArray) (dss : List (List CmpD)) : Bool := verB a' b' c' ps' && dss.any (takeB a' b' c' ps')

theorem any_take {α : Type} (f : α → Bool) (l : List α) (k : Nat) (h : k < l.length) : (l.take (k + 1)).any f = ((l.take k).any f || f l[k]) := by
  rw [List.take_succ_eq_append_getElem h, List.any_append]; simp
theorem all_at {α : Type} (f : α → Bool) (l : List α) (k : Nat) (h : k < l.length) (hf : f l[k] = false) : l.all f = false := by
  rw [List.all_eq_false]; exact ⟨l[k], List.getElem_mem h, by simp [hf]⟩
theorem all_take {α : Type} (f : α → Bool) (l : List α) (k : Nat) (h : k < l.length) : (l.take (k + 1)).all f = ((l.take k).all f && f l[k]) := by
  rw [List.take_succ_eq_append_getElem h, List.all_append]; simp

set_option maxHeartbeats 1000000 in
set_option maxRecDepth 100000 in
theorem sameNums_c (a b c : Int) (q : Option Addr) (n cap : Nat) (a' b' c' : Int) (q' : Option Addr) (n' cap' : Nat) (w : World) :
    Calls Tryz.prog 61 #[.agg #[.int .i64 a, .int .i64 b, .int .i64 c, .slice q n cap], .agg #[.int .i64 a', .int .i64 b', .int .i64 c', .slice q' n' cap']] w fun e w' => e = .returned (.bool (coreB a b c a' b' c')) ∧ Below w.heap.size w w' := by
  cases ha : (a == a') with
  | false =>
    have e : coreB a b c a' b' c' = false := by rw [coreB, ha]; rfl
    rw [e]
    go_enter Tryz.func61, Tryz.ntmps61
    go_wp2
    go_ret
    exact ⟨rfl, two_box _ _⟩
  | true =>
  cases hb : (b == b') with
  | false =>
    have e : coreB a b c a' b' c' = false := by rw [coreB, hb, Bool.and_false]; rfl
    rw [e]
    go_enter Tryz.func61, Tryz.ntmps61
    go_wp2
    go_ret
    exact ⟨rfl, two_box _ _⟩
  | true =>
    have e : coreB a b c a' b' c' = (c == c') := by rw [coreB, ha, hb]; rfl
    rw [e]
    clear e
    go_enter Tryz.func61, Tryz.ntmps61
    go_wp2
    go_ret
    exact ⟨rfl, two_box _ _⟩

theorem take_end (a' b' c' : Int) (ps' : List ByteArray) (ds : List CmpD) (h : (ds.take ds.length).all (holdsD a' b' c' ps') = true) : takeB a' b' c' ps' ds = (decide (ps'.length = 0) || (ds.take ds.length).any (asksD a' b' c')) := by
  rw [List.take_length] at h ⊢
  rw [takeB, h, Bool.true_and]
theorem len_beq (n : Nat) : ((n : Int) == 0) = decide (n = 0) := by
  by_cases h : n = 0
  · simp [h]
  · have : ¬ (n : Int) = 0 := by omega
    simp [h]

set_option maxHeartbeats 4000000 in
set_option maxRecDepth 100000 in
theorem allTake_c (S : Nat → Prop) (v : Value) (ds : List CmpD) (a' b' c' : Int) (u' : Value) (ps' : List ByteArray) (w : World) (hv : CmpsIn S w v ds) (hB : ∀ b, S b → b < w.heap.size) (hw : wtC ds ≤ 1048576) (hu' : Reads w u' (strsV ps')) (hb' : bulkS ps' ≤ 1048576) :
    Calls Tryz.prog 26 #[v, .agg #[.int .i64 a', .int .i64 b', .int .i64 c', u']] w fun e w' => e = .returned (.bool (takeB a' b' c' ps' ds)) ∧ Below w.heap.size w w' := by
  obtain ⟨a, cap, rfl, hl, hc, ha⟩ := hv
  unfold maxLen at hl
  have hrv : ∀ w1, Below w.heap.size w w1 → Reads w1 u' (strsV ps') := fun w1 h => hu'.below h
  have hn' : ps'.length ≤ 1048576 := by unfold bulkS at hb'; omega
  obtain ⟨q', cap', rfl, _, _⟩ := reads_strs hu'
  have HR : Hid (∀ w1, Below w.heap.size w w1 → Reads w1 (.slice q' ps'.length cap') (strsV ps')) := hrv
  have F0 := four_new w 26 (.int .i64 a') (.int .i64 b') (.int .i64 c') (.slice q' ps'.length cap')
  have hbx : ∀ o, Below w.heap.size w (w.alloc o) := fun o => (Below.refl _ _).alloc (Nat.le_refl _) _
  clear hu' hrv
  go_enter Tryz.func26, Tryz.ntmps26
  go_wp2_with fail
  go_loopw [5, 14] (fun v5 vi wr => ∃ (k : Nat) (p : Bool), k ≤ ds.length ∧ vi = .int .i64 (k : Int) ∧ v5 = .bool p ∧ Hid (p = (decide (ps'.length = 0) || (ds.take k).any (asksD a' b' c'))) ∧ Hid ((ds.take k).all (holdsD a' b' c' ps') = true) ∧ Below w.heap.size w wr ∧ Four wr w.heap.size 26 (.int .i64 a') (.int .i64 b') (.int .i64 c') (.slice q' ps'.length cap')) (fun _ vi _ => ds.length - (intOf vi).toNat)
  case atStart => exact ⟨0, _, Nat.zero_le _, rfl, rfl, (by show _ = _; rw [len_beq]; simp), (by show _ = _; simp), hbx _, F0⟩
  case round =>
    obtain ⟨k, p, hk, rfl, rfl, hp, hall, hbr, hF⟩ := hrel
    clear F0
    by_cases hlt' : k < ds.length
    · rcases ha with rfl | ⟨b, off, us, rfl, hlt, ha⟩
      · simp at hlt'
      obtain ⟨e0, e1, e2, e3, e4, hu, hsn⟩ := ha k hlt'
      have hlt2 : b < w.heap.size := hB b hlt
      rw [← hbr.cell (by simpa using hlt2)] at e0 e1 e2 e3 e4
      have hbk : bulkS ds[k].ps ≤ 1048576 := by have := bulk_wtC (List.getElem_mem hlt'); omega
      have hpl : ds[k].ps.length ≤ 1048576 := by unfold bulkS at hbk; omega
      have hr1 : ∀ w1, Below wr.heap.size wr w1 → Reads w1 (us k) (strsV ds[k].ps) := fun w1 h => (hu.keep (.of (hbr.trans (h.mono hbr.size)) hB)).reads (fun b hb => Nat.lt_of_lt_of_le (hB b hb) (Nat.le_trans hbr.size h.size))
      have HA : Hid (∀ q : Bool, q = holdsD a' b' c' ps' ds[k] → q = true → (ds.take (k + 1)).all (holdsD a' b' c' ps') = true) := fun q h1 h2 => by rw [all_take _ _ _ hlt', hall.out, ← h1, h2]; rfl
      have HX : Hid (holdsD a' b' c' ps' ds[k] = false → takeB a' b' c' ps' ds = false) := fun h => by rw [takeB, all_at _ _ k hlt' h]; rfl
      have HY : Hid (∀ q : Bool, q = (p || asksD a' b' c' ds[k]) → q = (decide (ps'.length = 0) || (ds.take (k + 1)).any (asksD a' b' c'))) := fun q h => by rw [any_take _ _ _ hlt', ← Bool.or_assoc, ← hp.out]; exact h
      obtain ⟨d, hd⟩ : ∃ d, d = ds[k] := ⟨_, rfl⟩
      rw [← hd] at e0 e1 e2 e3 hr1 hbk hpl HA HX HY
      obtain ⟨u, hu0⟩ : ∃ u, u = us k := ⟨_, rfl⟩
      rw [← hu0] at e4 hr1
      obtain ⟨uq, ucap, hu2, _, _⟩ := reads_strs (hr1 wr (Below.refl _ _))
      subst hu2
      obtain ⟨r, hr⟩ : ∃ r, r = holdsD a' b' c' ps' d := ⟨_, rfl⟩
      have HC : Hid (∀ w1, Below wr.heap.size wr w1 → Calls Tryz.prog 60 #[.agg #[.int .i64 d.o, .int .i64 d.a, .int .i64 d.b, .int .i64 d.c, .slice uq d.ps.length ucap], .agg #[.int .i64 a', .int .i64 b', .int .i64 c', .slice q' ps'.length cap']] w1 fun e w' => e = .returned (.bool r) ∧ Below w1.heap.size w1 w') := fun w1 h => by rw [hr]; exact implCmpOk_c _ _ _ _ _ d.ps _ _ _ _ ps' w1 (hr1 w1 h) (HR.out w1 (hbr.trans (h.mono hbr.size))) hbk hb'
      rw [← hr] at HX
      have HA2 : Hid (r = true → (ds.take (k + 1)).all (holdsD a' b' c' ps') = true) := HA.out r hr
      have hbw : ∀ o, Below wr.heap.size wr (wr.alloc o) := fun o => (Below.refl _ _).alloc (Nat.le_refl _) _
      have hC0 := five_new wr 103 (.int .i64 d.o) (.int .i64 d.a) (.int .i64 d.b) (.int .i64 d.c) (.slice uq d.ps.length ucap)
      have hF1 := hF.keep (hbw (.cells #[.int .i64 d.o, .int .i64 d.a, .int .i64 d.b, .int .i64 d.c, .slice uq d.ps.length ucap] 103))
      obtain ⟨x0, x1, x2, x3⟩ := hF.cells
      have hNw : w.heap.size < wr.heap.size := hF.lt
      have hki : (k : Int) < (ds.length : Int) := by omega
      clear ha hu hd hu0 hr1 hr HA hsn hbk
      cases r with
      | false =>
        have HX2 : Hid (takeB a' b' c' ps' ds = false) := HX.out rfl
        clear HX
        go_wp2_with (go_at_call 60; refine (HC.out _ (hbw _)).mono ?_; rintro e w1 ⟨rfl, b1⟩)
        go_ret
        exact ⟨by rw [HX2.out]; rfl, hbr.trans (((hbw _).trans (b1.mono (by simp))).mono hbr.size)⟩
      | true =>
        have HA3 := HA2.out rfl
        have HA4 : Hid ((ds.take (k + 1)).all (holdsD a' b' c' ps') = true) := HA3
        clear HX HA2 HA3
        cases p with
        | true =>
          have HY2 : Hid (true = (decide (ps'.length = 0) || (ds.take (k + 1)).any (asksD a' b' c'))) := HY.out true rfl
          clear HY
          go_wp2_with (go_at_call 60; refine (HC.out _ (hbw _)).mono ?_; rintro e w1 ⟨rfl, b1⟩; have G1 := hF1.keep b1)
          go_roundw
          case rel => exact ⟨k + 1, true, by omega, by go_num, rfl, HY2, HA4, hbr.trans (((hbw _).trans (b1.mono (by simp))).mono hbr.size), G1⟩
          case measure => simp [intOf]; omega
        | false =>
          by_cases hgt : 0 < d.ps.length
          · have hgt' : (0 : Int) < (d.ps.length : Int) := by omega
            obtain ⟨r2, hr2⟩ : ∃ r, r = coreB d.a d.b d.c a' b' c' := ⟨_, rfl⟩
            have HY2 : Hid (r2 = (decide (ps'.length = 0) || (ds.take (k + 1)).any (asksD a' b' c'))) := HY.out r2 (by rw [asksD, decide_eq_true hgt, hr2]; rfl)
            have HN : Hid (∀ w1, Calls Tryz.prog 61 #[.agg #[.int .i64 d.a, .int .i64 d.b, .int .i64 d.c, .slice uq d.ps.length ucap], .agg #[.int .i64 a', .int .i64 b', .int .i64 c', .slice q' ps'.length cap']] w1 fun e w' => e = .returned (.bool r2) ∧ Below w1.heap.size w1 w') := fun w1 => by rw [hr2]; exact sameNums_c _ _ _ _ _ _ _ _ _ _ _ _ w1
            clear HY hr2 hgt
            go_wp2_with (first
              | (go_at_call 60; refine (HC.out _ (hbw _)).mono ?_; rintro e w1 ⟨rfl, b1⟩; have G1 := hF1.keep b1; have D1 := hC0.keep b1; obtain ⟨y0, y1, y2, y3⟩ := G1.cells; obtain ⟨z0, z1, z2, z3, z4⟩ := D1.cells)
              | (go_at_call 61; refine (HN.out _).mono ?_; rintro e w2 ⟨rfl, b2⟩))
            go_roundw
            case rel => exact ⟨k + 1, r2, by omega, by go_num, rfl, HY2, HA4, hbr.trans ((((hbw _).trans (b1.mono (by simp))).trans (b2.mono (Nat.le_trans (hbw (.cells #[.int .i64 d.o, .int .i64 d.a, .int .i64 d.b, .int .i64 d.c, .slice uq d.ps.length ucap] 103)).size b1.size))).mono hbr.size), G1.keep b2⟩
            case measure => simp [intOf]; omega
          · have hgt' : ¬ (0 : Int) < (d.ps.length : Int) := by omega
            have HY2 : Hid (false = (decide (ps'.length = 0) || (ds.take (k + 1)).any (asksD a' b' c'))) := HY.out false (by rw [asksD, decide_eq_false hgt]; rfl)
            clear HY hgt
            go_wp2_with (go_at_call 60; refine (HC.out _ (hbw _)).mono ?_; rintro e w1 ⟨rfl, b1⟩; have G1 := hF1.keep b1; have D1 := hC0.keep b1; obtain ⟨y0, y1, y2, y3⟩ := G1.cells; obtain ⟨z0, z1, z2, z3, z4⟩ := D1.cells)
            go_roundw
            case rel => exact ⟨k + 1, false, by omega, by go_num, rfl, HY2, HA4, hbr.trans (((hbw _).trans (b1.mono (by simp))).mono hbr.size), G1⟩
            case measure => simp [intOf]; omega
    · have he : k = ds.length := by omega
      subst he
      have HE : Hid (takeB a' b' c' ps' ds = p) := by show _ = _; rw [take_end _ _ _ _ _ hall.out, ← hp.out]
      clear ha hall hp
      go_wp2_with fail
      go_ret
      exact ⟨by rw [HE.out]; rfl, hbr⟩
end Go.Proofs.YtijmocdkaabijaaGreatDoor

/-! Carets, tildes and stars of versions whose numbers are at most 2, worked out one by one: what they take; no condition. -/
namespace Go.Proofs.YtijmocdkaabijaaGreatDoor
open Go.RowKit
set_option linter.unusedSimpArgs false
set_option linter.unusedVariables false

def carT : ByteArray := ⟨#[94]⟩
def tilT : ByteArray := ⟨#[126]⟩
def staT : ByteArray := ⟨#[42]⟩
def rgOf (s : ByteArray) : List (List CmpD) := (rangeI s).getD []
/-- Whether b is of the same line as a. -/
def sameC (a1 a2 a3 b1 b2 b3 : Int) : Bool := (a1 == b1) && (!(a1 == 0) || ((a2 == b2) && (!(a2 == 0) || (a3 == b3))))
/-- All that is asked of a range: that it is one, and small. -/
def sizeOk (dss : List (List CmpD)) : Bool := decide (dss.length ≤ 4) && (dss.all (fun ds => decide (ds.length ≤ 4) && ds.all (fun d => decide (bulkS d.ps ≤ 100))) && decide (wtR dss ≤ 1000))
def oneC (a1 a2 a3 : Int) : Bool :=
  decide ((coreT a1 a2 a3).size ≤ 100) && ((rangeI (carT ++ coreT a1 a2 a3)).isSome && ((rangeI (tilT ++ coreT a1 a2 a3)).isSome && (sizeOk (rgOf (carT ++ coreT a1 a2 a3)) && (sizeOk (rgOf (tilT ++ coreT a1 a2 a3)) && (verB a1 a2 a3 [] && (inRB a1 a2 a3 [] (rgOf staT) && (inRB a1 a2 a3 [] (rgOf (carT ++ coreT a1 a2 a3)) && inRB a1 a2 a3 [] (rgOf (tilT ++ coreT a1 a2 a3)))))))))
def twoC (a1 a2 a3 b1 b2 b3 : Int) : Bool :=
  (inRB b1 b2 b3 [] (rgOf (carT ++ coreT a1 a2 a3)) == (sameC a1 a2 a3 b1 b2 b3 && !(lessB b1 b2 b3 [] a1 a2 a3 []))) && (inRB b1 b2 b3 [] (rgOf (tilT ++ coreT a1 a2 a3)) == ((a1 == b1) && ((a2 == b2) && !(lessB b1 b2 b3 [] a1 a2 a3 []))))
def three : List Int := [0, 1, 2]
def nine : List (Int × Int × Int) := three.flatMap fun a => three.flatMap fun b => three.map fun c => (a, b, c)

theorem star_good : ((rangeI staT).isSome && sizeOk (rgOf staT)) = true := by kernel_rfl
theorem two_all : (nine.all fun x => nine.all fun y => twoC x.1 x.2.1 x.2.2 y.1 y.2.1 y.2.2) = true := by kernel_rfl
theorem one_all : (nine.all fun x => oneC x.1 x.2.1 x.2.2) = true := by kernel_rfl

theorem nine_mem {a b c : Int} (ha : 0 ≤ a ∧ a ≤ 2) (hb : 0 ≤ b ∧ b ≤ 2) (hc : 0 ≤ c ∧ c ≤ 2) : (a, b, c) ∈ nine := by
  have h : ∀ {x : Int}, 0 ≤ x ∧ x ≤ 2 → x ∈ three := fun {x} hx => by
    have : x = 0 ∨ x = 1 ∨ x = 2 := by omega
    rcases this with rfl | rfl | rfl <;> simp [three]
  exact List.mem_flatMap.2 ⟨a, h ha, List.mem_flatMap.2 ⟨b, h hb, List.mem_map.2 ⟨c, h hc, rfl⟩⟩⟩
theorem one_at {a b c : Int} (ha : 0 ≤ a ∧ a ≤ 2) (hb : 0 ≤ b ∧ b ≤ 2) (hc : 0 ≤ c ∧ c ≤ 2) : oneC a b c = true := by
  have h1 := List.all_eq_true.1 one_all (a, b, c) (nine_mem ha hb hc)
  exact h1
theorem two_at {a b c a' b' c' : Int} (ha : 0 ≤ a ∧ a ≤ 2) (hb : 0 ≤ b ∧ b ≤ 2) (hc : 0 ≤ c ∧ c ≤ 2) (ha' : 0 ≤ a' ∧ a' ≤ 2) (hb' : 0 ≤ b' ∧ b' ≤ 2) (hc' : 0 ≤ c' ∧ c' ≤ 2) : twoC a b c a' b' c' = true := by
  have h1 := List.all_eq_true.1 two_all (a, b, c) (nine_mem ha hb hc)
  have h2 := List.all_eq_true.1 h1 (a', b', c') (nine_mem ha' hb' hc')
  exact h2
theorem size_parts {dss : List (List CmpD)} (h : sizeOk dss = true) : dss.length ≤ 4 ∧ (∀ ds ∈ dss, ds.length ≤ 4) ∧ (∀ ds ∈ dss, ∀ d ∈ ds, bulkS d.ps ≤ 1048576) ∧ wtR dss ≤ 1048576 := by
  simp only [sizeOk, Bool.and_eq_true, decide_eq_true_eq, List.all_eq_true] at h
  obtain ⟨h1, h2, h3⟩ := h
  exact ⟨h1, fun ds hd => (h2 ds hd).1, fun ds hd d hdd => by have := (h2 ds hd).2 d hdd; omega, by omega⟩
theorem one_parts {a b c : Int} (h : oneC a b c = true) : (coreT a b c).size ≤ 100 ∧ (rangeI (carT ++ coreT a b c)).isSome = true ∧ (rangeI (tilT ++ coreT a b c)).isSome = true ∧ sizeOk (rgOf (carT ++ coreT a b c)) = true ∧ sizeOk (rgOf (tilT ++ coreT a b c)) = true ∧ verB a b c [] = true ∧ inRB a b c [] (rgOf staT) = true ∧ inRB a b c [] (rgOf (carT ++ coreT a b c)) = true ∧ inRB a b c [] (rgOf (tilT ++ coreT a b c)) = true := by
  unfold oneC at h
  simp only [Bool.and_eq_true, decide_eq_true_eq] at h
  exact h
theorem two_parts {a b c a' b' c' : Int} (h : twoC a b c a' b' c' = true) : inRB a' b' c' [] (rgOf (carT ++ coreT a b c)) = (sameC a b c a' b' c' && !(lessB a' b' c' [] a b c [])) ∧ inRB a' b' c' [] (rgOf (tilT ++ coreT a b c)) = ((a == a') && ((b == b') && !(lessB a' b' c' [] a b c []))) := by
  unfold twoC at h
  simp only [Bool.and_eq_true, beq_iff_eq] at h
  exact ⟨by simpa using h.1, by simpa using h.2⟩
theorem star_parts : (rangeI staT).isSome = true ∧ sizeOk (rgOf staT) = true := by
  have h := star_good
  simp only [Bool.and_eq_true] at h
  exact h
theorem verT_core {a b c : Int} (h : verB a b c [] = true) : verT a b c [] = coreT a b c := by
  unfold verT; rw [h]; rfl
theorem reads_nil (w : World) (q : Option Addr) (c : Nat) : Reads w (.slice q 0 c) (strsV []) := ⟨q, c, rfl, Nat.zero_le _, .inl rfl⟩
end Go.Proofs.YtijmocdkaabijaaGreatDoor

/-! Whether a code is too long for a law: contracts for the walks; no condition. -/
namespace Go.Proofs.YtijmocdkaabijaaGreatDoor
open Go.RowKit
set_option linter.unusedSimpArgs false
set_option linter.unusedVariables false

theorem bigYes_c (v : Value) (zs : List Int) (w : World) (hr : Reads w v (bytesV zs)) (h : (1048576 : Int) < (zs.length : Int)) :
    Calls Tryz.prog 5 #[v] w fun e w' => e = .returned (.bool true) ∧ w = w' := by
  obtain ⟨a, cap, rfl, _, _⟩ := reads_bytes hr
  clear hr
  go_enter Tryz.func5, Tryz.ntmps5
  go_wp2
  go_ret
  exact ⟨by simp [h], rfl⟩
theorem bigNo_c (v : Value) (zs : List Int) (w : World) (hr : Reads w v (bytesV zs)) (h : ¬ (1048576 : Int) < (zs.length : Int)) :
    Calls Tryz.prog 5 #[v] w fun e w' => e = .returned (.bool false) ∧ w = w' := by
  obtain ⟨a, cap, rfl, _, _⟩ := reads_bytes hr
  clear hr
  go_enter Tryz.func5, Tryz.ntmps5
  go_wp2
  go_ret
  exact ⟨by simp [h], rfl⟩
end Go.Proofs.YtijmocdkaabijaaGreatDoor
