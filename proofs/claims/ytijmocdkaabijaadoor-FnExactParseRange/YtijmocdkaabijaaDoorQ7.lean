/-
  Contracts for the walks, several texts in one: each part says what it proves, and under which conditions.
-/
import Derived.Shelf.Small.Utf8
import Derived.Shelf.Small.Strs
import Derived.Shelf.Strconv.Itoa0
import Derived.Shelf.Strconv.Itoa1
import Derived.Shelf.LaysM
import Derived.Shelf.Strconv.Itoa2
import Derived.Shelf.Strconv.Clone
import Derived.Shelf.Strings.Search1
import Derived.Shelf.Strings.Search2
import Derived.Shelf.Strings.Search3
import Derived.Shelf.Strings.Count
import Derived.Shelf.Strings.Shaped
import Derived.Shelf.Strings.Split
import Derived.Shelf.Strings.SplitShaped
import Derived.Shelf.Strings.Runes
import Derived.Shelf.Strings.AsciiSet
import Derived.Shelf.Unicode.DecodeSlow
import Derived.Test.YtijmocdkaabijaaDoorProg
import Derived.Lib.IndexBytes
import Derived.Lib.SplitLaws
import Derived.Lib.CutLaws
import Derived.Test.YtijmocdkaabijaaDoorQ5
import Derived.Test.YtijmocdkaabijaaDoorQ6
import Derived.Test.YtijmocdkaabijaaDoorQ2
import Derived.Test.YtijmocdkaabijaaDoorQ1

/-! The contract of the library for cutting a text at each place where another stands, taken over from the library of contracts at the numbers of this program; conditions as it says. -/
namespace Go.Proofs
open Go.Shelf
def Tryd.lays146_ren : Go.Shelf.Ren := ⟨fun | 146 => 20 | 221 => 39 | 268 => 67 | 138 => 68 | 143 => 69 | 195 => 102 | 197 => 80 | 218 => 103 | 219 => 104 | 260 => 117 | 217 => 105 | 225 => 124 | 224 => 125 | 267 => 126 | 266 => 127 | 314 => 138 | n => n, fun | 9 => 9 | 31 => 29 | 3 => 3 | 4 => 4 | 0 => 0 | 105 => 119 | 21 => 21 | 5 => 5 | 46 => 152 | 119 => 155 | 139 => 158 | 138 => 157 | 146 => 165 | 51 => 164 | n => n, fun | 1 => 1 | 3 => 2 | 4 => 3 | n => n⟩
theorem Tryd.lays146 : Go.Proofs.Lays.n146 Tryd.prog Tryd.lays146_ren := {
  mixed := by kernel_rfl
  f138 := Tryd.func68.trans (congrArg some (by kernel_rfl))
  f143 := Tryd.func69.trans (congrArg some (by kernel_rfl))
  f146 := Tryd.func20.trans (congrArg some (by kernel_rfl))
  f195 := Tryd.func102.trans (congrArg some (by kernel_rfl))
  f197 := Tryd.func80.trans (congrArg some (by kernel_rfl))
  f217 := Tryd.func105.trans (congrArg some (by kernel_rfl))
  f218 := Tryd.func103.trans (congrArg some (by kernel_rfl))
  f219 := Tryd.func104.trans (congrArg some (by kernel_rfl))
  f221 := Tryd.func39.trans (congrArg some (by kernel_rfl))
  f224 := Tryd.func125.trans (congrArg some (by kernel_rfl))
  f225 := Tryd.func124.trans (congrArg some (by kernel_rfl))
  f260 := Tryd.func117.trans (congrArg some (by kernel_rfl))
  f266 := Tryd.func127.trans (congrArg some (by kernel_rfl))
  f267 := Tryd.func126.trans (congrArg some (by kernel_rfl))
  f268 := Tryd.func67.trans (congrArg some (by kernel_rfl))
  f314 := Tryd.func138.trans (congrArg some (by kernel_rfl))
  t0 := Tryd.underlying0
  a0 := Tryd.isAgg0
  z0 := Tryd.sizeOf0
  v0 := Tryd.zeroValue0
  t3 := Tryd.underlying3
  a3 := Tryd.isAgg3
  z3 := Tryd.sizeOf3
  v3 := Tryd.zeroValue3
  t4 := Tryd.underlying4
  a4 := Tryd.isAgg4
  z4 := Tryd.sizeOf4
  v4 := Tryd.zeroValue4
  t5 := Tryd.underlying5
  a5 := Tryd.isAgg5
  z5 := Tryd.sizeOf5
  v5 := Tryd.zeroValue5
  t9 := Tryd.underlying9
  a9 := Tryd.isAgg9
  z9 := Tryd.sizeOf9
  v9 := Tryd.zeroValue9
  t21 := Tryd.underlying21
  a21 := Tryd.isAgg21
  z21 := Tryd.sizeOf21
  v21 := Tryd.zeroValue21
  t31 := Tryd.underlying29
  a31 := Tryd.isAgg29
  z31 := Tryd.sizeOf29
  v31 := Tryd.zeroValue29
  t46 := Tryd.underlying152
  a46 := Tryd.isAgg152
  z46 := Tryd.sizeOf152
  v46 := Tryd.zeroValue152
  t51 := Tryd.underlying164
  a51 := Tryd.isAgg164
  z51 := Tryd.sizeOf164
  v51 := Tryd.zeroValue164
  t105 := Tryd.underlying119
  a105 := Tryd.isAgg119
  z105 := Tryd.sizeOf119
  v105 := Tryd.zeroValue119
  t119 := Tryd.underlying155
  a119 := Tryd.isAgg155
  z119 := Tryd.sizeOf155
  t138 := Tryd.underlying157
  a138 := Tryd.isAgg157
  z138 := Tryd.sizeOf157
  v138 := Tryd.zeroValue157
  t139 := Tryd.underlying158
  a139 := Tryd.isAgg158
  z139 := Tryd.sizeOf158
  v139 := Tryd.zeroValue158
  t146 := Tryd.underlying165
  a146 := Tryd.isAgg165
  z146 := Tryd.sizeOf165
  v146 := Tryd.zeroValue165
  g1 := by kernel_rfl
  g3 := by kernel_rfl
  g4 := by kernel_rfl }
open Go.RowKit Go.Lib in
theorem Tryd.strings_Split (s sep : ByteArray) (m : Int) (w : World) (hs : s.size < 4294967281) (hm : w.cell? ⟨1, 0, none⟩ = some (.int .i64 m)) (h1 : 1 ≤ sep.size) :
    Calls Tryd.prog 20 #[.string s, .string sep] w fun e w' =>
      e = .returned (.slice (some ⟨w.heap.size, 0, none⟩) (Lib.countB s sep + 1) (Lib.countB s sep + 1)) ∧ w' = w.alloc (.cells ((Lib.splitB sep 0 (Lib.countB s sep) s).map Value.string).toArray 9) := Any.strings_Split Tryd.lays146 (by kernel_rfl) s sep m w hs hm h1
end Go.Proofs

/-! What ParseRange reads, the program's: a contract for the walks; conditions: the text has at most 2 to the 20 bytes, the table of signs holds what the text lays, the library's MaxLen is a number. -/
namespace Go.Proofs.YtijmocdkaabijaaDoor
open Go.RowKit
set_option linter.unusedSimpArgs false
set_option linter.unusedVariables false

theorem rowsG_apart {w : World} {base base' e e' sz sz' : Nat} {v v' : Value} {n n' : Nat} {xs xs' : List Value} (h : w.ownsRow base e sz v n xs) (h' : w.ownsRow base' e' sz' v' n' xs') (hne : e ≠ e') : v'.ownBlock = none ∨ v'.ownBlock ≠ v.ownBlock := by
  rcases h.2 with ⟨rfl, _⟩ | ⟨g, cap, cur, rfl, _, hg, _⟩
  · rcases h'.2 with ⟨rfl, _⟩ | ⟨g', cap', cur', rfl, _, hg', _⟩
    · exact .inl rfl
    · exact .inr (by simp [Value.ownBlock])
  · rcases h'.2 with ⟨rfl, _⟩ | ⟨g', cap', cur', rfl, _, hg', _⟩
    · exact .inl rfl
    · refine .inr fun e1 => hne ?_
      simp only [Value.ownBlock, Option.some.injEq] at e1
      subst e1
      rw [hg] at hg'
      simp only [Option.some.injEq, Obj.cells.injEq] at hg'
      exact hg'.2.1

/-- A list of Cmps of the call's own, all of it in blocks from lo on, below hi. -/
def CmpsSeg (lo hi : Nat) (w : World) (v : Value) (ds : List CmpD) : Prop :=
  ∃ (ys : List Value) (us : Nat → Value), w.ownsRow lo 70 5 v ds.length ys ∧
    (∀ i (h : i < ds.length), FiveAt ys (i * 5) (.int .i64 ds[i].o) (.int .i64 ds[i].a) (.int .i64 ds[i].b) (.int .i64 ds[i].c) (us i) ∧ w.ownsRow lo 9 1 (us i) ds[i].ps.length (strsV ds[i].ps)) ∧
    (∀ i j, i < ds.length → j < ds.length → i ≠ j → (us i).ownBlock = (us j).ownBlock → (us i).ownBlock = none) ∧
    (∀ k, v.ownBlock = some k → k < hi) ∧ ∀ i, i < ds.length → ∀ k, (us i).ownBlock = some k → k < hi
theorem CmpsOwn.seg {lo : Nat} {w : World} {v : Value} {ds : List CmpD} (h : CmpsOwn lo w v ds) : CmpsSeg lo w.heap.size w v ds := by
  obtain ⟨ys, us, h1, h2, h3⟩ := h
  refine ⟨ys, us, h1, h2, h3, fun k hk => ?_, fun i hi k hk => ((h2 i hi).2.lt k hk).2⟩
  rcases h1.2 with ⟨rfl, _⟩ | ⟨g, cap, cur, rfl, _, hg, _⟩
  · simp [Value.ownBlock] at hk
  · simp only [Value.ownBlock, Option.some.injEq] at hk
    subst hk
    exact (Array.getElem?_eq_some_iff.1 hg).1
theorem CmpsSeg.below {lo hi : Nat} {w w' : World} {v : Value} {ds : List CmpD} (h : CmpsSeg lo hi w v ds) (b : Below w.heap.size w w') : CmpsSeg lo hi w' v ds := by
  obtain ⟨ys, us, h1, h2, h3⟩ := h
  exact ⟨ys, us, own_kept5 h1 b, fun i hi => ⟨(h2 i hi).1, owns_of_below (h2 i hi).2 b⟩, h3⟩
theorem CmpsSeg.grown {lo hi base n : Nat} {w w' : World} {v r : Value} {ds : List CmpD} {xs : List Value} (h : CmpsSeg lo hi w v ds) (hr : w.ownsRow base 41 1 r n xs) (g : w.grownBy w' r.ownBlock) : CmpsSeg lo hi w' v ds := by
  obtain ⟨ys, us, h1, h2, h3⟩ := h
  exact ⟨ys, us, h1.kept g (rowsG_apart hr h1 (by decide)), fun i hi => ⟨(h2 i hi).1, (h2 i hi).2.kept g (rowsG_apart hr (h2 i hi).2 (by decide))⟩, h3⟩

/-- A list of lists of Cmps of the call's own: its row, and each list in blocks of its own. -/
def RangeOwn (lo : Nat) (w : World) (v : Value) (dss : List (List CmpD)) : Prop :=
  ∃ (vs : List Value) (ls hs : Nat → Nat), w.ownsRow lo 41 1 v dss.length vs ∧
    (∀ i (h : i < dss.length), ∃ u, vs[i]? = some u ∧ lo ≤ ls i ∧ hs i ≤ w.heap.size ∧ CmpsSeg (ls i) (hs i) w u dss[i]) ∧ ∀ i j, i < j → j < dss.length → hs i ≤ ls j
theorem rangeOwn_nil (w : World) (lo : Nat) : RangeOwn lo w (.slice none 0 0) [] :=
  ⟨[], fun _ => 0, fun _ => 0, ⟨rfl, .inl ⟨rfl, rfl⟩⟩, fun i h => by simp at h, fun i j _ h => by simp at h⟩
theorem RangeOwn.below {lo : Nat} {w w' : World} {v : Value} {dss : List (List CmpD)} (h : RangeOwn lo w v dss) (b : Below w.heap.size w w') : RangeOwn lo w' v dss := by
  obtain ⟨vs, ls, hs, h1, h2, h3⟩ := h
  refine ⟨vs, ls, hs, owns_of_below h1 b, fun i hi => ?_, h3⟩
  obtain ⟨u, e, a1, a2, a3⟩ := h2 i hi
  exact ⟨u, e, a1, Nat.le_trans a2 b.size, a3.below b⟩
theorem RangeOwn.lower {lo lo' : Nat} {w : World} {v : Value} {dss : List (List CmpD)} (h : RangeOwn lo w v dss) (hl : lo' ≤ lo) : RangeOwn lo' w v dss := by
  obtain ⟨vs, ls, hs, h1, h2, h3⟩ := h
  refine ⟨vs, ls, hs, owns_base h1 hl, fun i hi => ?_, h3⟩
  obtain ⟨u, e, a1, a2, a3⟩ := h2 i hi
  exact ⟨u, e, Nat.le_trans hl a1, a2, a3⟩

/-- What an append of one more list leaves. -/
theorem RangeOwn.snoc {lo : Nat} {wk w4 : World} {v v4 : Value} {dss : List (List CmpD)} {ds : List CmpD} (h : RangeOwn lo wk v dss) (hlo : lo ≤ wk.heap.size) (b : Below wk.heap.size wk w4) (h4 : CmpsOwn wk.heap.size w4 v4 ds) :
    ∃ vs, w4.ownsRow lo 41 1 v dss.length vs ∧ ∀ o w6 v6, w6.ownsRow lo 41 1 v6 (dss.length + 1) (vs ++ [v4]) → (w4.alloc o).grownBy w6 v.ownBlock → RangeOwn lo w6 v6 (dss ++ [ds]) := by
  obtain ⟨vs, ls, hs, h1, h2, h3⟩ := h
  have h1' := owns_of_below h1 b
  refine ⟨vs, h1', fun o w6 v6 o6 gr => ?_⟩
  have tA : Below w4.heap.size w4 (w4.alloc o) := (Below.refl _ _).alloc (Nat.le_refl _) _
  have h1a := owns_of_below h1' tA
  have hsz : w4.heap.size ≤ w6.heap.size := Nat.le_trans tA.size gr.size
  have hvl : vs.length = dss.length := by have := h1.1; omega
  refine ⟨vs ++ [v4], fun i => if i < dss.length then ls i else wk.heap.size, fun i => if i < dss.length then hs i else w4.heap.size, by rw [List.length_append]; exact o6, fun i hi => ?_, fun i j hij hj => ?_⟩
  · by_cases hl : i < dss.length
    · obtain ⟨u, e, a1, a2, a3⟩ := h2 i hl
      refine ⟨u, by rw [List.getElem?_append_left (by omega)]; exact e, ?_, ?_, ?_⟩
      · simp only [hl, if_true]; exact a1
      · simp only [hl, if_true]; exact Nat.le_trans a2 (Nat.le_trans b.size hsz)
      · simp only [hl, if_true, List.getElem_append_left hl]
        exact ((a3.below b).below tA).grown h1a gr
    · have hi' : i = dss.length := by simp at hi; omega
      subst hi'
      refine ⟨v4, by rw [List.getElem?_append_right (by omega), hvl]; simp, ?_, ?_, ?_⟩
      · simp only [hl, if_false]; exact hlo
      · simp only [hl, if_false]; exact hsz
      · have eg : (dss ++ [ds])[dss.length] = ds := by simp
        simp only [hl, if_false, eg]
        exact (h4.seg.below tA).grown h1a gr
  · rw [List.length_append] at hj
    simp at hj
    by_cases hj1 : j < dss.length
    · have hi1 : i < dss.length := by omega
      simp only [hi1, hj1, if_true]
      exact h3 i j hij hj1
    · have hi1 : i < dss.length := by omega
      obtain ⟨u, e, a1, a2, a3⟩ := h2 i hi1
      simp only [hi1, hj1, if_true, if_false]
      exact a2

def orT : ByteArray := ⟨#[124, 124]⟩
def sidesI (s : ByteArray) : List ByteArray := Lib.splitB orT 0 (Lib.countB s orT) s
def foldR : List ByteArray → List (List CmpD) → Option (List (List CmpD))
  | [], acc => some acc
  | t :: ts, acc => match listC (splitS (trimS t) 32) with | some ds => foldR ts (acc ++ [ds]) | none => none
/-- What a text tells as a range. -/
def rangeI (s : ByteArray) : Option (List (List CmpD)) := if 4 < (sidesI s).length then none else foldR (sidesI s) []

theorem splitB_piece (sep : ByteArray) (save : Nat) (hsv : save = 0) : ∀ (k : Nat) (s : ByteArray), ∀ x ∈ Lib.splitB sep save k s, x.size ≤ s.size
  | 0, s => fun x hx => by simp [Lib.splitB] at hx; subst hx; exact Nat.le_refl _
  | k + 1, s => fun x hx => by
    rw [Lib.splitB] at hx
    split at hx
    · simp at hx; subst hx; exact Nat.le_refl _
    · rcases List.mem_cons.1 hx with rfl | hx
      · rw [ByteArray.size_extract]; omega
      · refine Nat.le_trans (splitB_piece sep save hsv k _ x hx) ?_
        rw [ByteArray.size_extract]; omega

theorem lit_row (w : World) (xs : List ByteArray) (t : TypeId) : ∀ k (h : k < xs.length), (w.alloc (.cells (xs.map Value.string).toArray t)).cell? ⟨w.heap.size, k, none⟩ = some (.string xs[k]) := fun k h => by
  have e : (w.alloc (.cells (xs.map Value.string).toArray t)).cell? ⟨w.heap.size, k, none⟩ = ((xs.map Value.string).toArray)[k]? := vblk_cell (vheap_new _ _) k
  rw [e]
  simp [h]
theorem cell_one_c (w : World) (v : Value) (t : TypeId) : ∀ j u, ([v] : List Value)[j]? = some u → (w.alloc (.cells #[v] t)).cell? ((⟨w.heap.size, 0, none⟩ : Addr).add j) = some u := fun j u hj => by
  have hj0 : j = 0 := by have := (List.getElem?_eq_some_iff.1 hj).1; simp at this; omega
  subst hj0
  simp at hj
  subst hj
  have e : ((⟨w.heap.size, 0, none⟩ : Addr).add 0) = ⟨w.heap.size, 0, none⟩ := by unfold Addr.add; split <;> simp_all
  rw [e]
  exact vblk_cell (vheap_new _ _) 0

set_option maxHeartbeats 4000000 in
set_option maxRecDepth 100000 in
theorem implRange_c (s : ByteArray) (hs : s.size ≤ 1048576) (m : Int) (w : World) (hm : w.cell? ⟨1, 0, none⟩ = some (.int .i64 m)) (hsg : ∀ k (h : k < signsT.length), w.cell? ⟨0, k, none⟩ = some (.string signsT[k])) :
    Calls Tryd.prog 6 #[.string s] w fun e w' => ∃ v, e = .returned (.tuple #[v, .bool (rangeI s).isSome]) ∧ RangeOwn w.heap.size w' v ((rangeI s).getD []) ∧ Below w.heap.size w w' := by
  have HS : Calls Tryd.prog 20 #[.string s, .string orT] w fun e w' => e = .returned (.slice (some ⟨w.heap.size, 0, none⟩) (sidesI s).length (sidesI s).length) ∧ w' = w.alloc (.cells ((sidesI s).map Value.string).toArray 9) := by
    have h := Tryd.strings_Split s orT m w (by omega) hm (by decide)
    have hl : (sidesI s).length = Lib.countB s orT + 1 := Lib.splitB_all orT (by decide) 0 _ s rfl
    rw [hl]
    exact h
  have hpc : ∀ x ∈ sidesI s, x.size ≤ s.size := splitB_piece orT 0 rfl _ s
  have hll : (sidesI s).length ≤ 1048577 := by
    have hl : (sidesI s).length = Lib.countB s orT + 1 := Lib.splitB_all orT (by decide) 0 _ s rfl
    have := Lib.countB_le orT (by decide) s.size s (Nat.le_refl _)
    omega
  have hgl : 0 < w.heap.size := World.block_lt_of_cell? w _ (hsg 0 (by decide))
  have HG : Hid (∀ w1, Below w.heap.size w w1 → ∀ k (h : k < signsT.length), w1.cell? ⟨0, k, none⟩ = some (.string signsT[k])) := fun w1 b k h => (b.cell (p := ⟨0, k, none⟩) hgl).trans (hsg k h)
  have HR : Hid (rangeI s = if 4 < (sidesI s).length then none else foldR (sidesI s) []) := rfl
  obtain ⟨ts, hts⟩ : ∃ ts, ts = sidesI s := ⟨_, rfl⟩
  obtain ⟨R, hR⟩ : ∃ R, R = rangeI s := ⟨_, rfl⟩
  rw [← hts] at HS hpc HR hll
  rw [← hR] at HR
  rw [← hR]
  clear hts hR hsg hgl hm
  have b3 : Below w.heap.size w (w.alloc (.cells (ts.map Value.string).toArray 9)) := (Below.refl _ _).alloc (Nat.le_refl _) _
  have hcell := lit_row w ts 9
  have hs3 : (w.alloc (.cells (ts.map Value.string).toArray 9)).heap.size = w.heap.size + 1 := by simp
  obtain ⟨i0, hi, hz0, hz1, hz2⟩ := info_parts infoCmps
  go_enter Tryd.func6, Tryd.ntmps6
  go_wp2_with fail
  go_at_call 20
  refine HS.mono ?_
  rintro e w' ⟨rfl, rfl⟩
  generalize (w.alloc (.cells (ts.map Value.string).toArray 9)) = w3 at b3 hcell hs3 ⊢
  have hbq : w.heap.size < w3.heap.size := by omega
  clear HS hs3
  by_cases h4 : 4 < ts.length
  · have e : R = none := by rw [HR.out, if_pos h4]
    have h4' : (4 : Int) < (ts.length : Int) := by omega
    subst e
    clear HR hcell
    go_wp2_with fail
    go_ret2
    exact ⟨_, rfl, rangeOwn_nil _ _, b3⟩
  have HF : Hid (R = foldR ts []) := by show _ = _; rw [HR.out, if_neg h4]
  have h4' : ¬ (4 : Int) < (ts.length : Int) := by omega
  have hl4 : ts.length ≤ 4 := by omega
  have HP : Hid (∀ x : ByteArray, x.size ≤ 1048576 → ∀ w1, Below w.heap.size w w1 → Calls Tryd.prog 21 #[.string x] w1 fun e w' => ∃ v, e = .returned (.tuple #[v, .bool (listC (splitS x 32)).isSome]) ∧ CmpsOwn w1.heap.size w' v ((listC (splitS x 32)).getD []) ∧ Below w1.heap.size w1 w') := fun x hx w1 b => parseCmps_c x hx w1 (HG.out w1 b)
  clear HR h4 HG
  go_wp2_with fail
  go_loopw [5, 17] (fun v5 vi wr => ∃ (k : Nat) (acc : List (List CmpD)), k ≤ ts.length ∧ vi = .int .i64 (k : Int) ∧ RangeOwn w3.heap.size wr v5 acc ∧ acc.length = k ∧ Hid (foldR (ts.drop k) acc = foldR ts []) ∧ Below w3.heap.size w3 wr) (fun _ vi _ => ts.length - (intOf vi).toNat)
  case atStart => exact ⟨0, [], Nat.zero_le _, rfl, rangeOwn_nil _ _, rfl, rfl, Below.refl _ _⟩
  case round =>
    obtain ⟨k, acc, hk, rfl, hacc, hal, hf, hbr⟩ := hrel
    have hmr := b3.trans (hbr.mono b3.size)
    obtain ⟨qv, nv, cv, hv5⟩ : ∃ q n c, u5 = .slice q n c := by
      obtain ⟨vs, ls, hs, h1, _⟩ := hacc
      rcases h1.2 with ⟨h, _⟩ | ⟨g, cap, cur, h, _⟩
      · exact ⟨_, _, _, h⟩
      · exact ⟨_, _, _, h⟩
    subst hv5
    by_cases hlt : k < ts.length
    · have hcx : wr.cell? ⟨w.heap.size, k, none⟩ = some (.string ts[k]) := (hbr.cell (p := ⟨w.heap.size, k, none⟩) hbq).trans (hcell k hlt)
      have hsk : ts[k].size ≤ 1048576 := by have := hpc ts[k] (List.getElem_mem _); omega
      have hdr : ts.drop k = ts[k] :: ts.drop (k + 1) := List.drop_eq_getElem_cons hlt
      rw [hdr, foldR] at hf
      obtain ⟨x, hx⟩ : ∃ x, x = ts[k] := ⟨_, rfl⟩
      rw [← hx] at hcx hsk hf
      have HT : Hid (∀ w1, Calls Tryd.prog 22 #[.string x, .string ⟨#[32]⟩] w1 fun e w' => e = .returned (.string (trimS x)) ∧ Below w1.heap.size w1 w') := fun w1 => trim_c x (by omega) w1
      have htz : (trimS x).size ≤ 1048576 := Nat.le_trans (trimS_size x) hsk
      obtain ⟨y, hy⟩ : ∃ y, y = trimS x := ⟨_, rfl⟩
      rw [← hy] at HT htz hf
      have HC := HP.out y htz
      obtain ⟨L, hL⟩ : ∃ L, L = listC (splitS y 32) := ⟨_, rfl⟩
      rw [← hL] at HC hf
      have HC' : Hid (∀ w1, Below w.heap.size w w1 → Calls Tryd.prog 21 #[.string y] w1 fun e w' => ∃ v, e = .returned (.tuple #[v, .bool L.isSome]) ∧ CmpsOwn w1.heap.size w' v (L.getD []) ∧ Below w1.heap.size w1 w') := HC
      have hki : (k : Int) < (ts.length : Int) := by omega
      clear HC hx hy hL hdr hcell HP
      cases L with
      | none =>
        have e : R = none := by rw [HF.out, ← hf.out]
        subst e
        clear hf HF
        go_wp2_with (first
          | (go_at_call 22; refine (HT.out _).mono ?_; rintro e w4 ⟨rfl, b4⟩; have hm4 := hmr.trans (b4.mono hmr.size))
          | (go_at_call 21; refine (HC'.out _ hm4).mono ?_; rintro e w5 ⟨v5, rfl, hv5, b5⟩; obtain ⟨q5, c5, us5, hq5, _, _⟩ := hv5.at; subst hq5))
        go_ret2
        exact ⟨_, rfl, rangeOwn_nil _ _, hm4.trans (b5.mono hm4.size)⟩
      | some ds =>
        have HN : Hid (foldR (ts.drop (k + 1)) (acc ++ [ds]) = foldR ts []) := hf
        have hlo : w3.heap.size ≤ wr.heap.size := hbr.size
        have hrow : ∀ j, Value.ownBlock (.slice qv nv cv) = some j → w3.heap.size ≤ j := fun j hj => by
          obtain ⟨vs, ls, hs, h1, _⟩ := hacc
          exact (h1.lt j hj).1
        have HSN : Hid (∀ w4 w5 v4, Below wr.heap.size wr w4 → CmpsOwn w4.heap.size w5 v4 ds → Below w4.heap.size w4 w5 → ∃ vs, w5.ownsRow w3.heap.size 41 1 (.slice qv nv cv) acc.length vs ∧ ∀ o w6 v6, w6.ownsRow w3.heap.size 41 1 v6 (acc.length + 1) (vs ++ [v4]) → (w5.alloc o).grownBy w6 (Value.ownBlock (.slice qv nv cv)) → RangeOwn w3.heap.size w6 v6 (acc ++ [ds])) := fun w4 w5 v4 b4 h4 b5 => (hacc.below b4).snoc (Nat.le_trans hlo b4.size) b5 h4
        have HRW : Hid (∀ j, Value.ownBlock (.slice qv nv cv) = some j → w3.heap.size ≤ j) := hrow
        clear hf hrow hacc
        go_wp2_with (first
          | (go_at_call 22; refine (HT.out _).mono ?_; rintro e w4 ⟨rfl, b4⟩; have hm4 := hmr.trans (b4.mono hmr.size))
          | (go_at_call 21; refine (HC'.out _ hm4).mono ?_; rintro e w5 ⟨v5, rfl, hv5, b5⟩; obtain ⟨q5, c5, us5, hq5, _, _⟩ := hv5.at; subst hq5; obtain ⟨vs, o5, hsn⟩ := HSN.out w4 w5 _ b4 hv5 b5; have HSN2 := hsn (.cells #[.slice q5 ((some ds).getD []).length c5] 41); have HSN3 : Hid (∀ w6 v6, w6.ownsRow w3.heap.size 41 1 v6 (acc.length + 1) (vs ++ [.slice q5 ((some ds).getD []).length c5]) → (w5.alloc (.cells #[.slice q5 ((some ds).getD []).length c5] 41)).grownBy w6 (Value.ownBlock (.slice qv nv cv)) → RangeOwn w3.heap.size w6 v6 (acc ++ [ds])) := HSN2; clear hsn HSN2 hv5)
          | (at_builtin; refine wpList_append_own _ rfl _ _ 22 rfl w3.heap.size 41 i0 (.slice none 0 0) 1 24 Tryd.underlying22 hi hz0 hz1 hz2 rfl (by decide) (.slice qv nv cv) acc.length vs rfl (o5.alloc _) ⟨w5.heap.size, 0, none⟩ 1 1 [.slice q5 ((some ds).getD []).length c5] rfl rfl (cell_one_c _ _ _) (fun u hu => by simp at hu; subst hu; rfl) (by unfold maxLen; omega) (by omega) (by have h1 := hlo; have h2 := b4.size; have h3 := b5.size; simp; omega) ?_))
        intro v6 w6 o6 gr6 _
        have kx := (hbr.trans (b4.mono hlo)).trans (b5.mono (Nat.le_trans hlo b4.size))
        have k6 := below_turned (kx.alloc kx.size _) gr6 (by have := kx.size; simp; omega) HRW.out
        have hown := HSN3.out w6 v6 (by rw [hal]; exact o6) gr6
        clear HSN3 HSN o5 o6 gr6
        go_wp2_with fail
        go_roundw
        case rel => exact ⟨k + 1, acc ++ [ds], by omega, by go_num, hown, by simp [hal], HN, k6⟩
        case measure => simp [intOf]; omega
    · have he : k = ts.length := by omega
      subst he
      have e : R = some acc := by rw [HF.out, ← hf.out, List.drop_length, foldR]
      subst e
      clear hf HF hcell HP
      go_wp2_with fail
      go_ret2
      exact ⟨_, rfl, hacc.lower b3.size, hmr⟩
end Go.Proofs.YtijmocdkaabijaaDoor

/-! What stands between signs of or, the specification's: a contract for the walks: it is what the library's Split gives; condition: the text has at most 2 to the 20 bytes. -/
namespace Go.Proofs.YtijmocdkaabijaaDoor
open Go.RowKit
set_option linter.unusedSimpArgs false
set_option linter.unusedVariables false

theorem piece2 (t : ByteArray) (i : Nat) (h : i + 2 ≤ t.size) : ((t.extract i (i + 2)).toList == orT.toList) = ((((t[i]'(by omega)).toNat : Int) == 124) && (((t[i + 1]'(by omega)).toNat : Int) == 124)) := by
  have e : (t.extract i (i + 2)).toList = [t[i]'(by omega), t[i + 1]'(by omega)] := by
    have hz : (t.extract i (i + 2)).size = 2 := by rw [ByteArray.size_extract]; omega
    rw [ByteArray.toList_eq]
    apply List.ext_getElem
    · rw [Array.length_toList]; exact hz
    · intro n h1 h2
      have hn : n = 0 ∨ n = 1 := by simp at h2; omega
      have hg : ∀ k (hk : k < (t.extract i (i + 2)).size), (t.extract i (i + 2))[k] = t[i + k]'(by omega) := fun k hk => ByteArray.getElem_extract ..
      rcases hn with rfl | rfl
      · exact hg 0 (by omega)
      · exact hg 1 (by omega)
  have hu : ∀ x : UInt8, (x == 124) = (((x.toNat : Int)) == 124) := fun x => by
    rw [Bool.eq_iff_iff]
    simp only [beq_iff_eq]
    constructor
    · rintro rfl; rfl
    · intro h; apply UInt8.toNat_inj.1; simp; omega
  rw [e, show orT.toList = [124, 124] by decide +kernel, ← hu, ← hu]
  simp [List.cons_beq_cons]

theorem sides_hit (t : ByteArray) (k : Nat) (hno : Lib.NoOccB t orT k) (hk : k + 2 ≤ t.size) (h1 : (((t[k]'(by omega)).toNat : Int) == 124) = true) (h2 : (((t[k + 1]'(by omega)).toNat : Int) == 124) = true) : sidesI t = t.extract 0 k :: sidesI (t.extract (k + 2) t.size) := by
  have hi : Lib.indexB t orT = k := Lib.hit t orT k hno hk (by
    have h := piece2 t k hk
    rw [h1, h2] at h
    exact h)
  rw [sidesI, Lib.countB_hit t orT k (by decide) hi, Nat.add_comm, Lib.splitB_hit orT 0 _ t k hi]
  rfl
theorem sides_end (t : ByteArray) (k : Nat) (hno : Lib.NoOccB t orT k) (h : t.size < k + 2) : sidesI t = [t] := by
  rw [sidesI, Lib.splitB_miss orT 0 _ t (Lib.past t orT k hno (by decide) h)]
theorem sides_miss (t : ByteArray) (k : Nat) (hno : Lib.NoOccB t orT k) (hk : k + 2 ≤ t.size) (h : ((((t[k]'(by omega)).toNat : Int) == 124) && (((t[k + 1]'(by omega)).toNat : Int) == 124)) = false) : Lib.NoOccB t orT (k + 1) :=
  Lib.miss_piece t orT k hno hk ((piece2 t k hk).trans h)

theorem at_rest (s : ByteArray) (b i : Nat) (hb : b ≤ i) (hi : i < s.size) : ((s.extract b s.size)[i - b]'(by rw [ByteArray.size_extract]; omega)) = s[i] := by
  rw [ByteArray.getElem_extract]
  congr 1
  omega
theorem rest_cut (s : ByteArray) (b k : Nat) (hb : b ≤ s.size) : (s.extract b s.size).extract k (s.extract b s.size).size = s.extract (b + k) s.size := by
  rw [ByteArray.size_extract, ByteArray.extract_extract]
  congr 1
  omega
theorem rest_front (s : ByteArray) (b i : Nat) (hb : b ≤ i) (hi : i ≤ s.size) : (s.extract b s.size).extract 0 (i - b) = s.extract b i := by
  rw [ByteArray.extract_extract]
  congr 1 <;> omega

set_option maxHeartbeats 2000000 in
set_option maxRecDepth 100000 in
theorem l4Sides_c (s : ByteArray) (hs : s.size ≤ 1048576) (w : World) :
    Calls Tryd.prog 15 #[.string s] w fun e w' => ∃ v, e = .returned v ∧ w'.ownsRow w.heap.size 9 1 v (sidesI s).length (strsV (sidesI s)) ∧ Below w.heap.size w w' := by
  obtain ⟨i0, hi, hz0, hz1, hz2⟩ := info_parts infoS
  have ho : (w.alloc (.cells #[] 9)).ownsRow w.heap.size 9 1 (.slice (some ⟨w.heap.size, 0, none⟩) 0 0) 0 [] := World.ownsRow_lit w #[] 0 (Nat.le_refl _) (by unfold maxLen; omega) rfl
  have h00 : s.extract 0 s.size = s := by simp
  go_enter Tryd.func15, Tryd.ntmps15
  go_wp2_with fail
  go_loopw [3, 4, 5] (fun vo vb vi wr => ∃ (i b : Nat) (xs : List ByteArray), vi = .int .i64 (i : Int) ∧ vb = .int .i64 (b : Int) ∧ i ≤ s.size ∧ b ≤ i ∧ xs.length ≤ i ∧ wr.ownsRow w.heap.size 9 1 vo xs.length (strsV xs) ∧ Hid (xs ++ sidesI (s.extract b s.size) = sidesI s ∧ Lib.NoOccB (s.extract b s.size) orT (i - b)) ∧ Below w.heap.size w wr) (fun _ _ vi _ => s.size - (intOf vi).toNat)
  case atStart => exact ⟨0, 0, [], rfl, rfl, by omega, by omega, by simp, ho, ⟨by rw [h00]; rfl, fun j h => absurd h (by omega)⟩, (Below.refl _ _).alloc (Nat.le_refl _) _⟩
  case round =>
    obtain ⟨i, b, xs, rfl, rfl, hi1, hbi, hxl, hown, hh, hbr⟩ := hrel
    clear ho h00
    have hrz : (s.extract b s.size).size = s.size - b := by rw [ByteArray.size_extract]; omega
    by_cases hlt : i + 1 < s.size
    · have hlt' : (i : Int) + 1 < (s.size : Int) := by omega
      have hbt := at_rest s b i hbi (by omega)
      have hbt2 := at_rest s b (i + 1) (by omega) hlt
      have hcc : (s.extract b s.size)[i - b + 1]'(by omega) = s[i + 1] := by rw [← hbt2]; congr 1; omega
      have HMISS : Hid ((((s[i]'(by omega)).toNat : Int) == 124 && (((s[i + 1]'hlt).toNat : Int) == 124)) = false → Lib.NoOccB (s.extract b s.size) orT (i + 1 - b)) := fun h => by
        rw [show i + 1 - b = i - b + 1 by omega]
        exact sides_miss _ _ hh.out.2 (by omega) (by rw [hbt, hcc]; exact h)
      have HHIT : Hid ((((s[i]'(by omega)).toNat : Int) == 124) = true → (((s[i + 1]'hlt).toNat : Int) == 124) = true → (xs ++ [s.extract b i]) ++ sidesI (s.extract (i + 2) s.size) = sidesI s) := fun h1 h2 => by
        rw [← hh.out.1, sides_hit _ _ hh.out.2 (by omega) (by rw [hbt]; exact h1) (by rw [hcc]; exact h2), rest_front s b i hbi hi1, rest_cut s b (i - b + 2) (by omega), show b + (i - b + 2) = i + 2 by omega]
        simp
      have HS : Hid (xs ++ sidesI (s.extract b s.size) = sidesI s) := hh.out.1
      clear hh hbt hbt2 hcc hrz
      cases hc1 : (((s[i]'(by omega)).toNat : Int) == 124) with
      | true =>
        cases hc2 : (((s[i + 1]'hlt).toNat : Int) == 124) with
        | true =>
          have HT : Hid ((xs ++ [s.extract b i]) ++ sidesI (s.extract (i + 2) s.size) = sidesI s) := HHIT.out hc1 hc2
          clear HHIT HMISS HS
          go_wp2_with (at_builtin; refine wpList_append_own _ rfl _ _ 29 rfl w.heap.size 9 i0 (.string ⟨#[]⟩) 1 16 Tryd.underlying29 hi hz0 hz1 hz2 rfl (by decide) _ xs.length (strsV xs) rfl (hown.alloc _) ⟨wr.heap.size, 0, none⟩ 1 1 (strsV [s.extract b i]) rfl rfl (cell_one_new _ _ _) (fun u hu => by simp [strsV] at hu; subst hu; rfl) (by unfold maxLen; omega) (by omega) (by have := hbr.size; simp; omega) ?_)
          intro v2 w2 o2 gr2 _
          rw [strs_append] at o2
          have hb2 : Below w.heap.size w w2 := Below.grown (hbr.alloc hbr.size _) gr2 (by have := hbr.size; simp; omega) (fun j hj => (hown.lt _ hj).1)
          have hl2 : (xs ++ [s.extract b i]).length = xs.length + 1 := by simp
          rw [← hl2] at o2
          clear gr2 hown hbr hl2
          go_wp2_with fail
          go_roundw
          case rel => exact ⟨i + 2, i + 2, _, by go_num, by go_num, by omega, by omega, (by simp; omega), o2, ⟨HT.out, fun j h => absurd h (by omega)⟩, hb2⟩
          case measure => simp [intOf]; omega
        | false =>
          have HT : Hid (Lib.NoOccB (s.extract b s.size) orT (i + 1 - b)) := HMISS.out (by rw [hc1, hc2]; rfl)
          clear HHIT HMISS
          go_wp2_with fail
          go_roundw
          case rel => exact ⟨i + 1, b, xs, by go_num, rfl, by omega, by omega, by omega, hown, ⟨HS.out, HT.out⟩, hbr⟩
          case measure => simp [intOf]; omega
      | false =>
        have HT : Hid (Lib.NoOccB (s.extract b s.size) orT (i + 1 - b)) := HMISS.out (by rw [hc1]; rfl)
        clear HHIT HMISS
        go_wp2_with fail
        go_roundw
        case rel => exact ⟨i + 1, b, xs, by go_num, rfl, by omega, by omega, by omega, hown, ⟨HS.out, HT.out⟩, hbr⟩
        case measure => simp [intOf]; omega
    · have hlt' : ¬ (i : Int) + 1 < (s.size : Int) := by omega
      have HT : Hid (xs ++ [s.extract b s.size] = sidesI s) := by
        show _ = _
        rw [← hh.out.1, sides_end _ _ hh.out.2 (by omega)]
      clear hh
      go_wp2_with (at_builtin; refine wpList_append_own _ rfl _ _ 29 rfl w.heap.size 9 i0 (.string ⟨#[]⟩) 1 16 Tryd.underlying29 hi hz0 hz1 hz2 rfl (by decide) _ xs.length (strsV xs) rfl (hown.alloc _) ⟨wr.heap.size, 0, none⟩ 1 1 (strsV [s.extract b s.size]) rfl rfl (cell_one_new _ _ _) (fun u hu => by simp [strsV] at hu; subst hu; rfl) (by unfold maxLen; omega) (by omega) (by have := hbr.size; simp; omega) ?_)
      intro v2 w2 o2 gr2 _
      rw [strs_append] at o2
      have hb2 : Below w.heap.size w w2 := Below.grown (hbr.alloc hbr.size _) gr2 (by have := hbr.size; simp; omega) (fun j hj => (hown.lt _ hj).1)
      have hl2 : (xs ++ [s.extract b s.size]).length = xs.length + 1 := by simp
      rw [← hl2, HT.out] at o2
      clear gr2 hown hbr hl2
      go_wp2_with fail
      go_ret
      exact ⟨_, rfl, o2, hb2⟩
end Go.Proofs.YtijmocdkaabijaaDoor

/-! Blanks left out at both ends, the specification's: a contract for the walks, and it is what the library leaves; condition: the text has at most 2 to the 40 bytes. -/
namespace Go.Proofs.YtijmocdkaabijaaDoor
open Go.RowKit
set_option linter.unusedSimpArgs false
set_option linter.unusedVariables false

def bl (t : ByteArray) (i : Nat) : Prop := ∃ h : i < t.size, ((t[i]'h).toNat : Int) = 32
theorem trimR_step' {t : ByteArray} (h : bl t (t.size - 1)) : trimRS t = trimRS (t.extract 0 (t.size - 1)) := trimR_step (by have := h.1; omega) h.2
theorem trimR_stop' {t : ByteArray} (h : ¬ bl t (t.size - 1)) : trimRS t = t := trimR_stop (fun h0 e => h ⟨by omega, e⟩)
theorem trimL_step' {t : ByteArray} (h : bl t 0) : trimLS t = trimLS (t.extract 1 t.size) := trimL_step h.1 h.2
theorem trimL_stop' {t : ByteArray} (h : ¬ bl t 0) : trimLS t = t := trimL_stop (fun h0 e => h ⟨h0, e⟩)
theorem bl_ex {t : ByteArray} {i j k : Nat} (hj : j ≤ t.size) (hk : i + k < j) : bl (t.extract i j) k ↔ bl t (i + k) := by
  have hsz : (t.extract i j).size = j - i := by rw [ByteArray.size_extract]; omega
  constructor
  · rintro ⟨h, e⟩; exact ⟨by omega, by rw [ByteArray.getElem_extract] at e; exact e⟩
  · rintro ⟨h, e⟩; exact ⟨by omega, by rw [ByteArray.getElem_extract]; exact e⟩
theorem size0_eq {a b : ByteArray} (ha : a.size = 0) (hb : b.size = 0) : a = b := by
  have h1 : a.data = #[] := Array.eq_empty_of_size_eq_zero ha
  have h2 : b.data = #[] := Array.eq_empty_of_size_eq_zero hb
  cases a; cases b
  simp at h1 h2
  rw [h1, h2]

theorem trimRL : ∀ (n : Nat) (t : ByteArray), t.size = n → bl t 0 →
    ((trimRS t).size = 0 ∧ (trimRS (t.extract 1 t.size)).size = 0) ∨ (bl (trimRS t) 0 ∧ (trimRS t).extract 1 (trimRS t).size = trimRS (t.extract 1 t.size)) := by
  intro n
  induction n with
  | zero => intro t hn hb; have := hb.1; omega
  | succ n ih =>
    intro t hn hb
    have h1z : (t.extract 1 t.size).size = n := by rw [ByteArray.size_extract]; omega
    by_cases hl : bl t (t.size - 1)
    · rw [trimR_step' hl]
      have h2z : (t.extract 0 (t.size - 1)).size = n := by rw [ByteArray.size_extract]; omega
      by_cases h1 : n = 0
      · left
        have e1 : trimRS (t.extract 0 (t.size - 1)) = t.extract 0 (t.size - 1) := trimR_stop' (fun h => by have := h.1; omega)
        have e2 : trimRS (t.extract 1 t.size) = t.extract 1 t.size := trimR_stop' (fun h => by have := h.1; omega)
        rw [e1, e2]
        omega
      · have hb2 : bl (t.extract 0 (t.size - 1)) 0 := (bl_ex (by omega) (by omega)).2 (by simpa using hb)
        have hl2 : bl (t.extract 1 t.size) ((t.extract 1 t.size).size - 1) := (bl_ex (by omega) (by omega)).2 (by rw [h1z, show 1 + (n - 1) = t.size - 1 by omega]; exact hl)
        have e : (t.extract 0 (t.size - 1)).extract 1 (t.extract 0 (t.size - 1)).size = (t.extract 1 t.size).extract 0 ((t.extract 1 t.size).size - 1) := by
          rw [h1z, h2z, ByteArray.extract_extract, ByteArray.extract_extract]
          congr 1 <;> omega
        have := ih _ h2z hb2
        rw [e, ← trimR_step' hl2] at this
        exact this
    · have h1 : n ≠ 0 := fun h => hl (by rw [show t.size - 1 = 0 by omega]; exact hb)
      have hl2 : ¬ bl (t.extract 1 t.size) ((t.extract 1 t.size).size - 1) := fun h => hl (by
        have := (bl_ex (Nat.le_refl _) (by omega)).1 h
        rw [h1z, show 1 + (n - 1) = t.size - 1 by omega] at this
        exact this)
      rw [trimR_stop' hl, trimR_stop' hl2]
      exact .inr ⟨hb, rfl⟩

theorem trimR_front : ∀ (n : Nat) (t : ByteArray), t.size = n → bl (trimRS t) 0 → bl t 0 := by
  intro n
  induction n with
  | zero => intro t hn h; rw [trimR_stop' (fun h => by have := h.1; omega)] at h; exact h
  | succ n ih =>
    intro t hn h
    by_cases hl : bl t (t.size - 1)
    · rw [trimR_step' hl] at h
      have h2 := ih _ (by rw [ByteArray.size_extract]; omega) h
      have h0 := h2.1
      rw [ByteArray.size_extract] at h0
      simpa using (bl_ex (by omega) (by omega)).1 h2
    · rw [trimR_stop' hl] at h; exact h

theorem trim_turn : ∀ (n : Nat) (t : ByteArray), t.size = n → trimRS (trimLS t) = trimLS (trimRS t) := by
  intro n
  induction n with
  | zero =>
    intro t hn
    have h1 : ¬ bl t 0 := fun h => by have := h.1; omega
    have h2 : ¬ bl t (t.size - 1) := fun h => by have := h.1; omega
    rw [trimL_stop' h1, trimR_stop' h2, trimL_stop' h1]
  | succ n ih =>
    intro t hn
    by_cases hb : bl t 0
    · have hz : (t.extract 1 t.size).size = n := by rw [ByteArray.size_extract]; omega
      rw [trimL_step' hb, ih _ hz]
      rcases trimRL _ t rfl hb with ⟨h1, h2⟩ | ⟨h1, h2⟩
      · rw [size0_eq h1 h2]
      · rw [trimL_step' h1, h2]
    · rw [trimL_stop' hb, trimL_stop' (fun h => hb (trimR_front _ t rfl h))]

theorem trimS_turn (s : ByteArray) : trimRS (trimLS s) = trimS s := trim_turn _ s rfl

set_option maxHeartbeats 1000000 in
set_option maxRecDepth 100000 in
theorem l4Trim_c (s : ByteArray) (hs : s.size ≤ 1099511627776) (w : World) :
    Calls Tryd.prog 18 #[.string s] w fun e w' => e = .returned (.string (trimS s)) ∧ w = w' := by
  go_enter Tryd.func18, Tryd.ntmps18
  go_wp2_with fail
  go_loop [0] (fun v0 => ∃ t : ByteArray, v0 = .string t ∧ t.size ≤ 1099511627776 ∧ Hid (trimLS t = trimLS s)) (fun v0 => match v0 with | .string t => t.size | _ => 0)
  case atStart => exact ⟨s, rfl, hs, rfl⟩
  case round =>
    obtain ⟨t, rfl, ht, hh⟩ := hrel
    by_cases h0 : 0 < t.size
    · have h0' : (0 : Int) < (t.size : Int) := by omega
      by_cases hb : ((t[0]'(by omega)).toNat : Int) = 32
      · have HN : Hid (trimLS (t.extract 1 t.size) = trimLS s) := by show _ = _; rw [← hh.out, trimL_step h0 hb]
        have hb' : (((t[0]'(by omega)).toNat : Int) == 32) = true := by simpa using hb
        clear hh hb
        go_wp2_with fail
        go_round
        case rel => exact ⟨_, rfl, by rw [ByteArray.size_extract]; omega, HN⟩
        case measure => simp; omega
      · have HN : Hid (trimRS t = trimS s) := by show _ = _; rw [← trimS_turn, ← hh.out, trimL_stop (fun _ => hb)]
        have hb' : (((t[0]'(by omega)).toNat : Int) == 32) = false := by simpa using hb
        clear hh hb
        go_wp2_with fail
        go_loop [0] (fun v0 => ∃ r : ByteArray, v0 = .string r ∧ r.size ≤ 1099511627776 ∧ Hid (trimRS r = trimS s)) (fun v0 => match v0 with | .string r => r.size | _ => 0)
        case atStart => exact ⟨t, rfl, ht, HN⟩
        case round =>
          obtain ⟨r, rfl, hr, hh2⟩ := hrel
          clear HN
          by_cases h02 : 0 < r.size
          · have h02' : (0 : Int) < (r.size : Int) := by omega
            have hm1 : (r.size : Int) - 1 = ((r.size - 1 : Nat) : Int) := by omega
            have hm2 : ((r.size - 1 : Nat) : Int) < (r.size : Int) := by omega
            by_cases hb2 : ((r[r.size - 1]'(by omega)).toNat : Int) = 32
            · have HN2 : Hid (trimRS (r.extract 0 (r.size - 1)) = trimS s) := by show _ = _; rw [← hh2.out, trimR_step h02 hb2]
              have hb2' : (((r[r.size - 1]'(by omega)).toNat : Int) == 32) = true := by simpa using hb2
              clear hh2 hb2
              go_wp2_with fail
              go_round
              case rel => exact ⟨_, rfl, by rw [ByteArray.size_extract]; omega, HN2⟩
              case measure => simp; omega
            · have HN2 : Hid (trimS s = r) := by show _ = _; rw [← hh2.out]; exact trimR_stop (fun _ => hb2)
              have hb2' : (((r[r.size - 1]'(by omega)).toNat : Int) == 32) = false := by simpa using hb2
              clear hh2 hb2
              go_wp2_with fail
              go_ret
              exact ⟨by rw [HN2.out]; rfl, rfl⟩
          · have h02' : ¬ (0 : Int) < (r.size : Int) := by omega
            have HN2 : Hid (trimS s = r) := by show _ = _; rw [← hh2.out]; exact trimR_stop (fun h => absurd h h02)
            clear hh2
            go_wp2_with fail
            go_ret
            exact ⟨by rw [HN2.out]; rfl, rfl⟩
    · have h0' : ¬ (0 : Int) < (t.size : Int) := by omega
      have HN : Hid (trimRS t = trimS s) := by show _ = _; rw [← trimS_turn, ← hh.out, trimL_stop (fun h => absurd h h0)]
      clear hh
      go_wp2_with fail
      go_loop [0] (fun v0 => ∃ r : ByteArray, v0 = .string r ∧ r.size ≤ 1099511627776 ∧ Hid (trimRS r = trimS s)) (fun v0 => match v0 with | .string r => r.size | _ => 0)
      case atStart => exact ⟨t, rfl, ht, HN⟩
      case round =>
        obtain ⟨r, rfl, hr, hh2⟩ := hrel
        clear HN
        by_cases h02 : 0 < r.size
        · have h02' : (0 : Int) < (r.size : Int) := by omega
          have hm1 : (r.size : Int) - 1 = ((r.size - 1 : Nat) : Int) := by omega
          have hm2 : ((r.size - 1 : Nat) : Int) < (r.size : Int) := by omega
          by_cases hb2 : ((r[r.size - 1]'(by omega)).toNat : Int) = 32
          · have HN2 : Hid (trimRS (r.extract 0 (r.size - 1)) = trimS s) := by show _ = _; rw [← hh2.out, trimR_step h02 hb2]
            have hb2' : (((r[r.size - 1]'(by omega)).toNat : Int) == 32) = true := by simpa using hb2
            clear hh2 hb2
            go_wp2_with fail
            go_round
            case rel => exact ⟨_, rfl, by rw [ByteArray.size_extract]; omega, HN2⟩
            case measure => simp; omega
          · have HN2 : Hid (trimS s = r) := by show _ = _; rw [← hh2.out]; exact trimR_stop (fun _ => hb2)
            have hb2' : (((r[r.size - 1]'(by omega)).toNat : Int) == 32) = false := by simpa using hb2
            clear hh2 hb2
            go_wp2_with fail
            go_ret
            exact ⟨by rw [HN2.out]; rfl, rfl⟩
        · have h02' : ¬ (0 : Int) < (r.size : Int) := by omega
          have HN2 : Hid (trimS s = r) := by show _ = _; rw [← hh2.out]; exact trimR_stop (fun h => absurd h h02)
          clear hh2
          go_wp2_with fail
          go_ret
          exact ⟨by rw [HN2.out]; rfl, rfl⟩
end Go.Proofs.YtijmocdkaabijaaDoor

/-! What the specification's ParseRange answers: what the program's is told to: a contract for the walks; condition: the text has at most 2 to the 20 bytes. -/
namespace Go.Proofs.YtijmocdkaabijaaDoor
open Go.RowKit
set_option linter.unusedSimpArgs false
set_option linter.unusedVariables false

theorem rangeOwn_empty (w : World) (lo : Nat) (h : lo ≤ w.heap.size) : RangeOwn lo (w.alloc (.cells #[] 41)) (.slice (some ⟨w.heap.size, 0, none⟩) 0 0) [] :=
  ⟨[], fun _ => 0, fun _ => 0, World.ownsRow_lit w #[] 0 (base := lo) (e := 41) (size := 1) h (by unfold maxLen; omega) rfl, fun i h => by simp at h, fun i j _ h => by simp at h⟩

theorem owns_slice {w : World} {base : Nat} {e : TypeId} {v : Value} {n : Nat} {xs : List Value} (h : w.ownsRow base e 1 v n xs) : ∃ q m c, v = .slice q m c := by
  rcases h.2 with ⟨h, _⟩ | ⟨g, cap, cur, h, _⟩
  · exact ⟨_, _, _, h⟩
  · exact ⟨_, _, _, h⟩

theorem word_bulk (x : ByteArray) : ∀ d ∈ wordD x, bulkS d.ps ≤ 1048576 := by
  unfold wordD
  split
  · intro d hd
    simp at hd
    subst hd
    simp [bulkS]
  · split
    · rename_i hp
      exact make_bulk _ _ _ _ _ _ (part_nums hp).2.2
    · intro d hd; simp at hd
theorem foldS_bulk : ∀ (ws : List ByteArray) (acc : List CmpD), (∀ d ∈ acc, bulkS d.ps ≤ 1048576) → ∀ d ∈ (foldS ws acc).2, bulkS d.ps ≤ 1048576
  | [], acc => fun h => by simpa [foldS] using h
  | x :: ws, acc => fun h => by
    rw [foldS]
    split
    · exact foldS_bulk ws _ (fun d hd => by
        rcases List.mem_append.1 hd with hd | hd
        · exact h d hd
        · exact word_bulk x d hd)
    · exact h
theorem res_bulk (x : ByteArray) : bulkS (resP x) ≤ 27 := by
  cases h : resOk x with
  | true => exact bk_bulk (bk_ver x h)
  | false =>
    have : resAll x = none := by
      cases hr : resAll x with
      | none => rfl
      | some r => simp [resOk, hr] at h
    simp [resP, this, bulkS]
theorem list_bulk (ws : List ByteArray) : ∀ d ∈ (listS ws).2, bulkS d.ps ≤ 1048576 := by
  unfold listS
  split
  · intro d hd
    simp only [bothD, List.mem_cons, List.not_mem_nil, or_false] at hd
    rcases hd with rfl | rfl
    · have := res_bulk (ws.getD 0 ⟨#[]⟩); simp only; omega
    · have := res_bulk (ws.getD 2 ⟨#[]⟩); simp only; omega
  · exact foldS_bulk ws [] (fun d hd => by simp at hd)
theorem list_four (ws : List ByteArray) (h : (listS ws).1 = true) : (listS ws).2.length ≤ 4 := by
  unfold listS at h ⊢
  split
  · simp [bothD]
  · rename_i hn
    rw [if_neg hn] at h
    exact foldS_four ws [] h
theorem foldR_len : ∀ (ts : List ByteArray) (acc dss : List (List CmpD)), foldR ts acc = some dss → dss.length = acc.length + ts.length
  | [], acc, dss => fun h => by simp [foldR] at h; subst h; simp
  | t :: ts, acc, dss => fun h => by
    rw [foldR] at h
    split at h
    · have := foldR_len ts _ _ h
      simp at this ⊢
      omega
    · simp at h

set_option maxHeartbeats 4000000 in
set_option maxRecDepth 100000 in
theorem specRange_c (s : ByteArray) (hs : s.size ≤ 1048576) (w : World) :
    Calls Tryd.prog 5 #[.string s] w fun e w' => ∃ v, e = .returned (.tuple #[v, .bool (rangeI s).isSome]) ∧ RangeOwn w.heap.size w' v ((rangeI s).getD []) ∧ Below w.heap.size w w' := by
  have HS := l4Sides_c s hs (w.alloc (.cells #[] 41))
  have hpc : ∀ x ∈ sidesI s, x.size ≤ s.size := splitB_piece orT 0 rfl _ s
  have hl : (sidesI s).length = Lib.countB s orT + 1 := Lib.splitB_all orT (by decide) 0 _ s rfl
  have hl0 : 0 < (sidesI s).length := by omega
  have hll : (sidesI s).length ≤ 1048577 := by
    have := Lib.countB_le orT (by decide) s.size s (Nat.le_refl _)
    omega
  have HR : Hid (rangeI s = if 4 < (sidesI s).length then none else foldR (sidesI s) []) := rfl
  obtain ⟨ts, hts⟩ : ∃ ts, ts = sidesI s := ⟨_, rfl⟩
  obtain ⟨R, hR⟩ : ∃ R, R = rangeI s := ⟨_, rfl⟩
  rw [← hts] at HS hpc HR hll hl0
  rw [← hR] at HR
  rw [← hR]
  clear hts hR hl
  have b1 : Below w.heap.size w (w.alloc (.cells #[] 41)) := (Below.refl _ _).alloc (Nat.le_refl _) _
  have O1 := rangeOwn_empty w w.heap.size (Nat.le_refl _)
  obtain ⟨i0, hi, hz0, hz1, hz2⟩ := info_parts infoCmps
  go_enter Tryd.func5, Tryd.ntmps5
  go_wp2_with fail
  go_at_call 15
  refine HS.mono ?_
  rintro e w3 ⟨v3, rfl, o3, b3⟩
  obtain ⟨qw, cw, hv, hcw, hc3⟩ := reads_strs (reads_of_owns o3)
  subst hv
  rcases hc3 with hw0 | ⟨bq, off, rfl, hbq, hcell⟩
  · rw [hw0] at hl0; simp at hl0
  have k3 := b1.trans (b3.mono b1.size)
  have O3 := O1.below b3
  have o3' := owns_base o3 b1.size
  clear HS o3 O1 b1 b3
  go_wp2_with fail
  go_loopw [4, 6, 7, 8] (fun v4 vi v7 v8 wr => ∃ (k : Nat) (acc : List (List CmpD)), k ≤ ts.length ∧ vi = .int .i64 (k : Int) ∧ RangeOwn w.heap.size wr v4 acc ∧ acc.length = k ∧ Hid (foldR (ts.drop k) acc = foldR ts []) ∧ wr.ownsRow w.heap.size 9 1 (.slice (some ⟨bq, off, none⟩) ts.length cw) ts.length (strsV ts) ∧ Below w.heap.size w wr) (fun _ vi _ _ _ => ts.length - (intOf vi).toNat)
  case atStart => exact ⟨0, [], Nat.zero_le _, rfl, O3, rfl, rfl, o3', k3⟩
  case round =>
    obtain ⟨k, acc, hk, rfl, hacc, hal, hf, oL, hbr⟩ := hrel
    clear O3 o3' hcell hbq
    obtain ⟨qz, cz, hvz, _, hcz⟩ := reads_strs (reads_of_owns oL)
    cases hvz
    rcases hcz with hz | ⟨bz, oz, hqz, hbq, hcell⟩
    · rw [hz] at hl0; simp at hl0
    cases hqz
    obtain ⟨qv, nv, cv, hv5⟩ : ∃ q n c, u4 = .slice q n c := by
      obtain ⟨vs, ls, hs, h1, _⟩ := hacc
      rcases h1.2 with ⟨h, _⟩ | ⟨g, cap, cur, h, _⟩
      · exact ⟨_, _, _, h⟩
      · exact ⟨_, _, _, h⟩
    subst hv5
    have hnv : nv = acc.length := by
      obtain ⟨vs, ls, hs, h1, _⟩ := hacc
      rcases h1.2 with ⟨h, h'⟩ | ⟨g, cap, cur, h, _⟩
      · cases h; exact h'.symm
      · cases h; rfl
    subst hnv
    subst hal
    by_cases hlt : acc.length < ts.length
    · have hcx : wr.cell? ⟨bq, off + acc.length, none⟩ = some (.string ts[acc.length]) := hcell acc.length hlt
      have hsk : ts[acc.length].size ≤ 1048576 := by have := hpc ts[acc.length] (List.getElem_mem _); omega
      have hdr : ts.drop acc.length = ts[acc.length] :: ts.drop (acc.length + 1) := List.drop_eq_getElem_cons hlt
      rw [hdr, foldR] at hf
      obtain ⟨x, hx⟩ : ∃ x, x = ts[acc.length] := ⟨_, rfl⟩
      rw [← hx] at hcx hsk hf
      have HT : Hid (∀ w1, Calls Tryd.prog 18 #[.string x] w1 fun e w' => e = .returned (.string (trimS x)) ∧ w1 = w') := fun w1 => l4Trim_c x (by omega) w1
      have htz : (trimS x).size ≤ 1048576 := Nat.le_trans (trimS_size x) hsk
      obtain ⟨y, hy⟩ : ∃ y, y = trimS x := ⟨_, rfl⟩
      rw [← hy] at HT htz hf
      have HSp : Hid (∀ w1, Calls Tryd.prog 17 #[.string y, .int .u8 32] w1 fun e w' => ∃ v, e = .returned v ∧ w'.ownsRow w1.heap.size 9 1 v (splitS y 32).length (strsV (splitS y 32)) ∧ Below w1.heap.size w1 w') := fun w1 => specSplit_c y 32 w1 htz
      have hwl : (splitS y 32).length ≤ 1048577 := by have := splitS_len y 32; omega
      have hw0 := splitS_pos y 32
      have hwz : ∀ z ∈ splitS y 32, z.size ≤ 1048576 := fun z hz => Nat.le_trans (splitS_piece y 32 z hz) htz
      obtain ⟨ws, hws⟩ : ∃ z, z = splitS y 32 := ⟨_, rfl⟩
      rw [← hws] at HSp hwl hw0 hwz hf
      rw [list_same] at hf
      have hb4 := list_four ws
      have hbk := list_bulk ws
      have HLs : Hid (∀ w1 v, Reads w1 v (strsV ws) → Calls Tryd.prog 16 #[v] w1 fun e w' => ∃ v', e = .returned (.tuple #[v', .bool (listS ws).1]) ∧ CmpsOwn w1.heap.size w' v' (listS ws).2 ∧ Below w1.heap.size w1 w') := fun w1 v hv => l4List_c ws hwl hwz hw0 v w1 hv
      obtain ⟨ok, hok⟩ : ∃ z, z = (listS ws).1 := ⟨_, rfl⟩
      obtain ⟨ds, hds⟩ : ∃ z, z = (listS ws).2 := ⟨_, rfl⟩
      rw [← hok, ← hds] at HLs hf hb4
      rw [← hds] at hbk
      have hki : (acc.length : Int) < (ts.length : Int) := by omega
      clear hx hy hws hok hds hdr hcell hwl hw0 hwz
      cases ok with
      | false =>
        have HN : Hid (R = none) := by
          show _ = _
          rw [HR.out, ← hf.out]; simp
        clear hf HR
        go_wp2_with (first
          | (go_at_call 18; refine (HT.out _).mono ?_; rintro e w' ⟨rfl, rfl⟩)
          | (go_at_call 17; refine (HSp.out _).mono ?_; rintro e w4 ⟨v4, rfl, o4, b4⟩; have R4 := reads_of_owns o4; obtain ⟨q4, n4, c4, hq4⟩ := owns_slice o4; subst hq4)
          | (go_at_call 16; refine (HLs.out _ _ R4).mono ?_; rintro e w5 ⟨v5, rfl, o5, b5⟩; obtain ⟨q5, c5, us5, hq5, _, _⟩ := o5.at; subst hq5))
        go_ret2
        have k5 := (hbr.trans (b4.mono hbr.size)).trans (b5.mono (Nat.le_trans hbr.size b4.size))
        exact ⟨_, by rw [HN.out]; rfl, by rw [HN.out]; exact rangeOwn_empty _ _ k5.size, k5.alloc k5.size _⟩
      | true =>
        have hd4 := hb4 rfl
        obtain ⟨gd, hgd⟩ : ∃ z, z = ds.all goodD := ⟨_, rfl⟩
        have HGd : Hid (∀ lo w1 v, CmpsOwn lo w1 v ds → Calls Tryd.prog 19 #[v] w1 fun e w' => e = .returned (.bool gd) ∧ Below w1.heap.size w1 w') := fun lo w1 v hv => by rw [hgd]; exact l4Good_c lo v ds w1 hv (by omega) hbk
        rw [← hgd] at hf
        clear hgd hb4 hbk
        cases gd with
        | false =>
          have HN : Hid (R = none) := by
            show _ = _
            rw [HR.out, ← hf.out]; simp
          clear hf HR
          go_wp2_with (first
            | (go_at_call 18; refine (HT.out _).mono ?_; rintro e w' ⟨rfl, rfl⟩)
            | (go_at_call 17; refine (HSp.out _).mono ?_; rintro e w4 ⟨v4, rfl, o4, b4⟩; have R4 := reads_of_owns o4; obtain ⟨q4, n4, c4, hq4⟩ := owns_slice o4; subst hq4)
            | (go_at_call 16; refine (HLs.out _ _ R4).mono ?_; rintro e w5 ⟨v5, rfl, o5, b5⟩; obtain ⟨q5, c5, us5, hq5, _, _⟩ := o5.at; subst hq5)
            | (go_at_call 19; refine (HGd.out _ _ _ o5).mono ?_; rintro e w6 ⟨rfl, b6⟩))
          go_ret2
          have k5 := (hbr.trans (b4.mono hbr.size)).trans (b5.mono (Nat.le_trans hbr.size b4.size))
          have k6 := k5.trans (b6.mono k5.size)
          exact ⟨_, by rw [HN.out]; rfl, by rw [HN.out]; exact rangeOwn_empty _ _ k6.size, k6.alloc k6.size _⟩
        | true =>
          have HN : Hid (foldR (ts.drop (acc.length + 1)) (acc ++ [ds]) = foldR ts []) := by
            show _ = _
            rw [← hf.out]; simp
          have hlo : w.heap.size ≤ wr.heap.size := hbr.size
          have HRW : Hid (∀ j, Value.ownBlock (.slice qv acc.length cv) = some j → w.heap.size ≤ j) := fun j hj => by
            obtain ⟨vs, ls, hs, h1, _⟩ := hacc
            exact (h1.lt j hj).1
          have HSN : Hid (∀ w6 v4, Below wr.heap.size wr w6 → CmpsOwn wr.heap.size w6 v4 ds → ∃ vs, w6.ownsRow w.heap.size 41 1 (.slice qv acc.length cv) acc.length vs ∧ ∀ o w7 v7, w7.ownsRow w.heap.size 41 1 v7 (acc.length + 1) (vs ++ [v4]) → (w6.alloc o).grownBy w7 (Value.ownBlock (.slice qv acc.length cv)) → RangeOwn w.heap.size w7 v7 (acc ++ [ds])) := fun w6 v4 b h4 => hacc.snoc hlo b h4
          have HLK : Hid (∀ w6, Below wr.heap.size wr w6 → ∀ vs o w7, w6.ownsRow w.heap.size 41 1 (.slice qv acc.length cv) acc.length vs → (w6.alloc o).grownBy w7 (Value.ownBlock (.slice qv acc.length cv)) → w7.ownsRow w.heap.size 9 1 (.slice (some ⟨bq, off, none⟩) ts.length cw) ts.length (strsV ts)) := fun w6 b vs o w7 o6 gr => by
            have h1 := (owns_of_below oL b).alloc o
            exact h1.kept gr (rowsG_apart (o6.alloc o) h1 (by decide))
          clear hf hacc
          go_wp2_with (first
            | (go_at_call 18; refine (HT.out _).mono ?_; rintro e w' ⟨rfl, rfl⟩)
            | (go_at_call 17; refine (HSp.out _).mono ?_; rintro e w4 ⟨v4, rfl, o4, b4⟩; have R4 := reads_of_owns o4; obtain ⟨q4, n4, c4, hq4⟩ := owns_slice o4; subst hq4)
            | (go_at_call 16; refine (HLs.out _ _ R4).mono ?_; rintro e w5 ⟨v5, rfl, o5, b5⟩; obtain ⟨q5, c5, us5, hq5, _, _⟩ := o5.at; subst hq5)
            | (go_at_call 19; refine (HGd.out _ _ _ o5).mono ?_; rintro e w6 ⟨rfl, b6⟩; have b46 := b4.trans (b5.mono b4.size); have bw6 := b46.trans (b6.mono b46.size); obtain ⟨vs, o6, hsn⟩ := HSN.out w6 _ bw6 ((o5.below b6).lower b4.size); have HSN3 : Hid (∀ o w7 v7, w7.ownsRow w.heap.size 41 1 v7 (acc.length + 1) (vs ++ [.slice q5 ds.length c5]) → (w6.alloc o).grownBy w7 (Value.ownBlock (.slice qv acc.length cv)) → RangeOwn w.heap.size w7 v7 (acc ++ [ds])) := hsn; clear hsn)
            | (at_builtin; refine wpList_append_own _ rfl _ _ 22 rfl w.heap.size 41 i0 (.slice none 0 0) 1 24 Tryd.underlying22 hi hz0 hz1 hz2 rfl (by decide) (.slice qv acc.length cv) acc.length vs rfl (o6.alloc _) ⟨w6.heap.size, 0, none⟩ 1 1 [.slice q5 ds.length c5] rfl rfl (cell_one_c _ _ _) (fun u hu => by simp at hu; subst hu; rfl) (by unfold maxLen; omega) (by omega) (by have h1 := hlo; have h2 := bw6.size; simp; omega) ?_))
          intro v7 w7 o7 gr7 _
          have kx := hbr.trans (bw6.mono hlo)
          have k7 := below_turned (kx.alloc kx.size _) gr7 (by have := kx.size; simp; omega) HRW.out
          have hown := HSN3.out _ w7 v7 o7 gr7
          have hL7 := HLK.out w6 bw6 vs _ w7 o6 gr7
          clear HSN3 HSN o6 o7 gr7
          go_wp2_with fail
          go_roundw
          case rel => exact ⟨acc.length + 1, acc ++ [ds], by omega, by go_num, hown, by simp, HN, hL7, k7⟩
          case measure => simp [intOf]; omega
    · have he : acc.length = ts.length := by omega
      have hki : ¬ (acc.length : Int) < (ts.length : Int) := by omega
      have HA : Hid (foldR ts [] = some acc) := by show _ = _; rw [← hf.out, he, List.drop_length, foldR]
      by_cases h4 : 4 < acc.length
      · have HN : Hid (R = none) := by show _ = _; rw [HR.out, if_pos (by omega)]
        have h4' : (4 : Int) < (acc.length : Int) := by omega
        clear hf HR HA hcell he
        go_wp2_with fail
        go_ret2
        exact ⟨_, by rw [HN.out]; rfl, by rw [HN.out]; exact rangeOwn_empty _ _ hbr.size, hbr.alloc hbr.size _⟩
      · have HN : Hid (R = some acc) := by show _ = _; rw [HR.out, if_neg (by omega), HA.out]
        have h4' : ¬ (4 : Int) < (acc.length : Int) := by omega
        clear hf HR HA hcell he
        go_wp2_with fail
        go_ret2
        exact ⟨_, by rw [HN.out]; rfl, by rw [HN.out]; exact hacc, hbr⟩
end Go.Proofs.YtijmocdkaabijaaDoor

/-! Two lists of Cmps, and two lists of such lists, that are the same are told so by the law's own comparison: contracts for what lies in memory. -/
namespace Go.Proofs.YtijmocdkaabijaaDoor
open Go.RowKit
set_option linter.unusedSimpArgs false
set_option linter.unusedVariables false

set_option maxHeartbeats 2000000 in
set_option maxRecDepth 100000 in
theorem eqCmpS_c (S S' : Nat → Prop) (v u : Value) (ds : List CmpD) (w : World) (hv : CmpsIn S w v ds) (hv' : CmpsIn S' w u ds) (hB : ∀ b, S b → b < w.heap.size) (hB' : ∀ b, S' b → b < w.heap.size) (hw : wtC ds ≤ 1048576) :
    Calls Tryd.prog 23 #[v, u] w fun e w' => e = .returned (.bool true) ∧ Below w.heap.size w w' := by
  obtain ⟨a, cap, rfl, hl, hc, ha⟩ := hv
  obtain ⟨a', cap', rfl, _, hc', ha'⟩ := hv'
  unfold maxLen at hl
  go_enter Tryd.func23, Tryd.ntmps23
  go_wp2_with fail
  go_loopw [5] (fun vi wr => ∃ k : Nat, k ≤ ds.length ∧ vi = .int .i64 (k : Int) ∧ Below w.heap.size w wr) (fun vi _ => ds.length - (intOf vi).toNat)
  case atStart => exact ⟨0, Nat.zero_le _, rfl, Below.refl _ _⟩
  case round =>
    obtain ⟨k, hk, rfl, hbr⟩ := hrel
    by_cases hlt' : k < ds.length
    · rcases ha with rfl | ⟨b, off, us, rfl, hlt, ha⟩
      · simp at hlt'
      rcases ha' with rfl | ⟨b', off', us', rfl, hlt3, ha'⟩
      · simp at hlt'
      obtain ⟨e0, e1, e2, e3, e4, hu, hsn⟩ := ha k hlt'
      obtain ⟨g0, g1, g2, g3, g4, hu2, _⟩ := ha' k hlt'
      have hlt2 : b < w.heap.size := hB b hlt
      have hlt4 : b' < w.heap.size := hB' b' hlt3
      rw [← hbr.cell (by simpa using hlt2)] at e0 e1 e2 e3 e4
      rw [← hbr.cell (by simpa using hlt4)] at g0 g1 g2 g3 g4
      have hbk : bulkS ds[k].ps ≤ 1048576 := by have := bulk_wtC (List.getElem_mem hlt'); omega
      have hpl : ds[k].ps.length ≤ 1048576 := by unfold bulkS at hbk; omega
      have hr1 : Reads wr.drew (us k) (strsV ds[k].ps) := (hu.keep (.of hbr.drew hB)).reads (fun b h => Nat.lt_of_lt_of_le (hB b h) hbr.size)
      have hr2 : Reads wr.drew (us' k) (strsV ds[k].ps) := (hu2.keep (.of hbr.drew hB')).reads (fun b h => Nat.lt_of_lt_of_le (hB' b h) hbr.size)
      obtain ⟨d, hd⟩ : ∃ d, d = ds[k] := ⟨_, rfl⟩
      rw [← hd] at e0 e1 e2 e3 g0 g1 g2 g3 hr1 hr2 hpl
      obtain ⟨x, hx⟩ : ∃ x, x = us k := ⟨_, rfl⟩
      obtain ⟨x', hx'⟩ : ∃ x, x = us' k := ⟨_, rfl⟩
      rw [← hx] at e4 hr1
      rw [← hx'] at g4 hr2
      obtain ⟨uq, ucap, rfl, _, _⟩ := reads_strs hr1
      obtain ⟨uq', ucap', rfl, _, _⟩ := reads_strs hr2
      have hki : (k : Int) < (ds.length : Int) := by omega
      clear ha ha' hu hu2 hd hx hx' hbk hsn
      go_wp2_with fail
      go_region_with (go_at_call 50; refine (eqCmp_c _ _ _ _ _ _ d.ps wr.drew hr1 hr2 hpl).mono ?_; rintro e w2 ⟨rfl, hb2⟩)
      all_goals go_wp2_with fail
      all_goals go_roundw
      all_goals first
        | exact ⟨k + 1, by omega, by go_num, hbr.drew.trans (hb2.mono hbr.size)⟩
        | (simp [intOf]; omega)
    · have he : k = ds.length := by omega
      subst he
      clear ha ha'
      go_wp2_with fail
      go_ret
      exact ⟨rfl, hbr⟩

set_option maxHeartbeats 2000000 in
set_option maxRecDepth 100000 in
theorem eqCmpSS_c (S S' : Nat → Prop) (v u : Value) (dss : List (List CmpD)) (w : World) (hv : RangeIn S w v dss) (hv' : RangeIn S' w u dss) (hB : ∀ b, S b → b < w.heap.size) (hB' : ∀ b, S' b → b < w.heap.size) (hw : wtR dss ≤ 1048576) :
    Calls Tryd.prog 7 #[v, u] w fun e w' => e = .returned (.bool true) ∧ Below w.heap.size w w' := by
  obtain ⟨a, cap, rfl, hl, hc, ha⟩ := hv
  obtain ⟨a', cap', rfl, _, hc', ha'⟩ := hv'
  unfold maxLen at hl
  go_enter Tryd.func7, Tryd.ntmps7
  go_wp2_with fail
  go_loopw [5] (fun vi wr => ∃ k : Nat, k ≤ dss.length ∧ vi = .int .i64 (k : Int) ∧ Below w.heap.size w wr) (fun vi _ => dss.length - (intOf vi).toNat)
  case atStart => exact ⟨0, Nat.zero_le _, rfl, Below.refl _ _⟩
  case round =>
    obtain ⟨k, hk, rfl, hbr⟩ := hrel
    by_cases hlt' : k < dss.length
    · rcases ha with rfl | ⟨b, off, vs, rfl, hlt, ha⟩
      · simp at hlt'
      rcases ha' with rfl | ⟨b', off', vs', rfl, hlt3, ha'⟩
      · simp at hlt'
      obtain ⟨e0, hu⟩ := ha k hlt'
      obtain ⟨g0, hu2⟩ := ha' k hlt'
      have hlt2 : b < w.heap.size := hB b hlt
      have hlt4 : b' < w.heap.size := hB' b' hlt3
      rw [← hbr.cell (by simpa using hlt2)] at e0
      rw [← hbr.cell (by simpa using hlt4)] at g0
      have hwt : wtC dss[k] ≤ 1048576 := by have := wtC_wtR (List.getElem_mem hlt'); omega
      have hr1 : CmpsIn S wr.drew (vs k) dss[k] := hu.keep (.of hbr.drew hB)
      have hr2 : CmpsIn S' wr.drew (vs' k) dss[k] := hu2.keep (.of hbr.drew hB')
      have hBr : ∀ b, S b → b < wr.drew.heap.size := fun b h => Nat.lt_of_lt_of_le (hB b h) hbr.size
      have hBr' : ∀ b, S' b → b < wr.drew.heap.size := fun b h => Nat.lt_of_lt_of_le (hB' b h) hbr.size
      obtain ⟨d, hd⟩ : ∃ d, d = dss[k] := ⟨_, rfl⟩
      rw [← hd] at hr1 hr2 hwt
      obtain ⟨x, hx⟩ : ∃ x, x = vs k := ⟨_, rfl⟩
      obtain ⟨x', hx'⟩ : ∃ x, x = vs' k := ⟨_, rfl⟩
      rw [← hx] at e0 hr1
      rw [← hx'] at g0 hr2
      obtain ⟨uq, ucap, hu3, _⟩ := id hr1
      subst hu3
      obtain ⟨uq', ucap', hu3, _⟩ := id hr2
      subst hu3
      have hki : (k : Int) < (dss.length : Int) := by omega
      clear ha ha' hu hu2 hd hx hx'
      go_wp2_with fail
      go_region_with (go_at_call 23; refine (eqCmpS_c S S' _ _ d wr.drew hr1 hr2 hBr hBr' hwt).mono ?_; rintro e w2 ⟨rfl, hb2⟩)
      all_goals go_wp2_with fail
      all_goals go_roundw
      all_goals first
        | exact ⟨k + 1, by omega, by go_num, hbr.drew.trans (hb2.mono hbr.size)⟩
        | (simp [intOf]; omega)
    · have he : k = dss.length := by omega
      subst he
      clear ha ha'
      go_wp2_with fail
      go_ret
      exact ⟨rfl, hbr⟩
end Go.Proofs.YtijmocdkaabijaaDoor

/-! A range that a call holds alone, read as the law reads it; how much it holds: pure but for the memory; no condition. -/
namespace Go.Proofs.YtijmocdkaabijaaDoor
open Go.RowKit
set_option linter.unusedSimpArgs false
set_option linter.unusedVariables false

theorem sane_bulk {ps : List ByteArray} (h : bulkS ps ≤ 1048576) : saneP ps := by
  refine ⟨?_, fun s hs => ?_⟩
  · unfold bulkS at h; unfold maxLen; omega
  · have := size_of_bulk hs; unfold maxLen; omega

theorem CmpsSeg.cmpsIn {lo hi : Nat} {w : World} {v : Value} {ds : List CmpD} (h : CmpsSeg lo hi w v ds) (hl : ds.length ≤ 4) (hb : ∀ d ∈ ds, bulkS d.ps ≤ 1048576) : CmpsIn (Ow lo w.heap.size) w v ds := by
  obtain ⟨ys, us, h1, h2, _, _⟩ := h
  have hlen := h1.1
  rcases h1.2 with ⟨rfl, hn⟩ | ⟨g, cap, cur, rfl, hg, hh, hx⟩
  · have e : ds = [] := List.eq_nil_of_length_eq_zero hn
    subst e
    exact ⟨none, 0, rfl, by simp, by simp, .inl rfl⟩
  · have hlt := (Array.getElem?_eq_some_iff.1 hh).1
    refine ⟨_, cap, rfl, by unfold maxLen; omega, by omega, .inr ⟨g, 0, us, rfl, ⟨hg, hlt⟩, fun i hi => ?_⟩⟩
    rw [Nat.zero_add]
    obtain ⟨⟨f0, f1, f2, f3, f4⟩, ou⟩ := h2 i hi
    refine ⟨?_, ?_, ?_, ?_, ?_, rdB_owns ou, sane_bulk (hb _ (List.getElem_mem hi))⟩ <;> rw [h1.cellAt _ (by omega)] <;> assumption

theorem RangeOwn.rangeIn {lo : Nat} {w : World} {v : Value} {dss : List (List CmpD)} (h : RangeOwn lo w v dss) (hl : dss.length ≤ 4) (h4 : ∀ ds ∈ dss, ds.length ≤ 4) (hb : ∀ ds ∈ dss, ∀ d ∈ ds, bulkS d.ps ≤ 1048576) : RangeIn (Ow lo w.heap.size) w v dss := by
  obtain ⟨vs, ls, hs, h1, h2, _⟩ := h
  have hlen := h1.1
  rcases h1.2 with ⟨rfl, hn⟩ | ⟨g, cap, cur, rfl, hg, hh, hx⟩
  · have e : dss = [] := List.eq_nil_of_length_eq_zero hn
    subst e
    exact ⟨none, 0, rfl, by simp, by simp, .inl rfl⟩
  · have hlt := (Array.getElem?_eq_some_iff.1 hh).1
    refine ⟨_, cap, rfl, by unfold maxLen; omega, by omega, .inr ⟨g, 0, fun i => vs.getD i undef, rfl, ⟨hg, hlt⟩, fun i hi => ?_⟩⟩
    obtain ⟨u, hu, hlo, hhi, hseg⟩ := h2 i hi
    have e : vs.getD i undef = u := by simp [List.getD_eq_getElem?_getD, hu]
    show w.cell? ⟨g, 0 + i, none⟩ = some (vs.getD i undef) ∧ CmpsIn (Ow lo w.heap.size) w (vs.getD i undef) dss[i]
    rw [e, Nat.zero_add]
    exact ⟨(h1.cellAt i (by omega)).trans hu, (hseg.cmpsIn (h4 _ (List.getElem_mem hi)) (hb _ (List.getElem_mem hi))).mono (Ow.mono hlo (Nat.le_refl _))⟩

/-- Each list that is read holds at most four Cmps, each with texts that are short. -/
theorem listC_small {ws : List ByteArray} {ds : List CmpD} (h : listC ws = some ds) : ds.length ≤ 4 ∧ ∀ d ∈ ds, goodD d = true := by
  rw [list_same] at h
  split at h
  · rename_i hc
    simp only [Option.some.injEq] at h
    subst h
    simp only [Bool.and_eq_true] at hc
    exact ⟨list_four ws hc.1, fun d hd => List.all_eq_true.1 hc.2 d hd⟩
  · simp at h
theorem foldR_small : ∀ (ts : List ByteArray) (acc dss : List (List CmpD)), foldR ts acc = some dss → (∀ ds ∈ acc, ds.length ≤ 4 ∧ ∀ d ∈ ds, goodD d = true) → ∀ ds ∈ dss, ds.length ≤ 4 ∧ ∀ d ∈ ds, goodD d = true
  | [], acc, dss => fun h ha => by simp [foldR] at h; subst h; exact ha
  | t :: ts, acc, dss => fun h ha => by
    rw [foldR] at h
    split at h
    · rename_i ds hds
      exact foldR_small ts _ _ h (fun e he => by
        rcases List.mem_append.1 he with he | he
        · exact ha e he
        · simp at he; subst he; exact listC_small hds)
    · simp at h
theorem range_small (s : ByteArray) : ((rangeI s).getD []).length ≤ 4 ∧ (∀ ds ∈ (rangeI s).getD [], ds.length ≤ 4) ∧ ∀ ds ∈ (rangeI s).getD [], ∀ d ∈ ds, bulkS d.ps ≤ 27 := by
  unfold rangeI
  split
  · simp
  · rename_i h4
    cases hf : foldR (sidesI s) [] with
    | none => simp
    | some dss =>
      have hl := foldR_len _ _ _ hf
      have hs := foldR_small _ _ _ hf (fun ds hd => by simp at hd)
      simp only [Option.getD_some]
      exact ⟨by simp at hl; omega, fun ds hd => (hs ds hd).1, fun ds hd d hd' => bk_bulk ((hs ds hd).2 d hd')⟩
theorem sum_le (l : List Nat) (m : Nat) (h : ∀ x ∈ l, x ≤ m) : l.sum ≤ l.length * m := by
  induction l with
  | nil => simp
  | cons x l ih =>
    have h1 := h x (by simp)
    have h2 := ih (fun y hy => h y (by simp [hy]))
    simp only [List.sum_cons, List.length_cons]
    rw [Nat.succ_mul]
    omega
theorem range_weight (s : ByteArray) : wtR ((rangeI s).getD []) ≤ 1048576 := by
  obtain ⟨h1, h2, h3⟩ := range_small s
  generalize (rangeI s).getD [] = dss at h1 h2 h3
  have hc : ∀ ds ∈ dss, wtC ds ≤ 112 := fun ds hd => by
    have := sum_le (ds.map fun d => 1 + bulkS d.ps) 28 (fun x hx => by
      obtain ⟨d, hd', rfl⟩ := List.mem_map.1 hx
      have := h3 ds hd d hd'
      omega)
    rw [List.length_map] at this
    have h4 := h2 ds hd
    unfold wtC
    omega
  have := sum_le (dss.map fun ds => 1 + wtC ds) 113 (fun x hx => by
    obtain ⟨ds, hd', rfl⟩ := List.mem_map.1 hx
    have := hc ds hd'
    omega)
  rw [List.length_map] at this
  unfold wtR
  omega
end Go.Proofs.YtijmocdkaabijaaDoor

/-! Marks in a list of Cmps looked for: contracts for the walks; conditions: the marks stay below a million. -/
namespace Go.Proofs.YtijmocdkaabijaaDoor
open Go.RowKit
set_option linter.unusedSimpArgs false
set_option linter.unusedVariables false

/-- A Cmp that is marked from k on; how many marks it takes. -/
def markD (k : Nat) (d : CmpD) : CmpD := ⟨(k : Int), (k : Int) + 1, (k : Int) + 1 + 1, (k : Int) + 1 + 1 + 1, marksS (k + 4) d.ps.length⟩
def cntC (ds : List CmpD) : Nat := (ds.map fun d => 4 + d.ps.length).sum
def marksC : Nat → List CmpD → List CmpD
  | _, [] => []
  | k, d :: ds => markD k d :: marksC (k + (4 + d.ps.length)) ds
theorem length_marksC : ∀ (ds : List CmpD) (k : Nat), (marksC k ds).length = ds.length
  | [], _ => rfl
  | d :: ds, k => by simp [marksC, length_marksC ds]
theorem cntC_cons (d : CmpD) (ds : List CmpD) : cntC (d :: ds) = (4 + d.ps.length) + cntC ds := by simp [cntC]
theorem cntC_take (ds : List CmpD) (i : Nat) (h : i < ds.length) : cntC (ds.take (i + 1)) = cntC (ds.take i) + (4 + ds[i].ps.length) := by
  rw [List.take_succ_eq_append_getElem h]
  simp only [cntC, List.map_append, List.sum_append, List.map_cons, List.map_nil, List.sum_cons, List.sum_nil, Nat.add_zero]
theorem cntC_split (ds : List CmpD) (i : Nat) : cntC ds = cntC (ds.take i) + cntC (ds.drop i) := by
  conv => lhs; rw [← List.take_append_drop i ds]
  simp only [cntC, List.map_append, List.sum_append]
theorem marksC_at : ∀ (ds : List CmpD) (k i : Nat) (h : i < ds.length), (marksC k ds)[i]'(by rw [length_marksC]; exact h) = markD (k + cntC (ds.take i)) ds[i]
  | d :: ds, k, 0, h => by simp [marksC, cntC]
  | d :: ds, k, i + 1, h => by
    have h' : i < ds.length := by simpa using h
    simp only [marksC, List.getElem_cons_succ, List.take_succ_cons, cntC_cons]
    rw [marksC_at ds _ i h', Nat.add_assoc]

set_option maxHeartbeats 2000000 in
set_option maxRecDepth 100000 in
theorem heldCmpS_c (S : Nat → Prop) (v : Value) (ds : List CmpD) (k0 : Nat) (w : World) (hv : CmpsIn S w v (marksC k0 ds)) (hB : ∀ b, S b → b < w.heap.size) (h1 : 1 ≤ k0) (h2 : k0 + cntC ds ≤ 1000000) :
    Calls Tryd.prog 25 #[v, .int .i64 (k0 : Int)] w fun e w' => e = .returned (.int .i64 ((k0 : Int) + (cntC ds : Int))) ∧ Below w.heap.size w w' := by
  obtain ⟨a, cap, rfl, hl, hc, ha⟩ := hv
  rw [length_marksC] at hl hc ⊢
  unfold maxLen at hl
  go_enter Tryd.func25, Tryd.ntmps25
  go_wp2_with fail
  go_loopw [1, 5] (fun vk vi wr => ∃ i : Nat, i ≤ ds.length ∧ vi = .int .i64 (i : Int) ∧ vk = .int .i64 ((k0 + cntC (ds.take i) : Nat) : Int) ∧ Below w.heap.size w wr) (fun _ vi _ => ds.length - (intOf vi).toNat)
  case atStart => exact ⟨0, Nat.zero_le _, rfl, by simp [cntC], Below.refl _ _⟩
  case round =>
    obtain ⟨i, hi, rfl, rfl, hbr⟩ := hrel
    by_cases hlt : i < ds.length
    · have hlt' : i < (marksC k0 ds).length := by rw [length_marksC]; exact hlt
      rcases ha with he | ⟨b, off, us, rfl, hb, ha⟩
      · have h0 : ds.length = 0 := by rw [← length_marksC ds k0, he]; rfl
        omega
      obtain ⟨e0, e1, e2, e3, e4, hu, hsn⟩ := ha i hlt'
      have hlt2 : b < w.heap.size := hB b hb
      rw [← hbr.cell (by simpa using hlt2)] at e0 e1 e2 e3 e4
      rw [marksC_at ds k0 i hlt] at e0 e1 e2 e3 hu
      have hnx := cntC_take ds i hlt
      have hsp := cntC_split ds (i + 1)
      obtain ⟨n, hn⟩ : ∃ n, n = ds[i].ps.length := ⟨_, rfl⟩
      obtain ⟨kk, hkk⟩ : ∃ x, x = k0 + cntC (ds.take i) := ⟨_, rfl⟩
      rw [← hkk] at e0 e1 e2 e3 hu ⊢
      simp only [markD] at e0 e1 e2 e3 hu
      rw [← hn] at hu hnx
      obtain ⟨u, hu0⟩ : ∃ u, u = us i := ⟨_, rfl⟩
      rw [← hu0] at e4 hu
      have hru : Reads wr u (strsV (marksS (kk + 4) n)) := (hu.keep (.of hbr hB)).reads (fun b hb => Nat.lt_of_lt_of_le (hB b hb) hbr.size)
      obtain ⟨uq, ucap, hu2, _, _⟩ := reads_strs hru
      subst hu2
      rw [length_marksS] at hru e4
      have hk4 : ((kk + 4 : Nat) : Int) = (kk : Int) + 1 + 1 + 1 + 1 := by omega
      have HM : Hid (Calls Tryd.prog 52 #[.slice uq n ucap, .int .i64 ((kk : Int) + 1 + 1 + 1 + 1)] wr fun e w' => e = .returned (.int .i64 ((kk : Int) + 1 + 1 + 1 + 1 + (n : Int))) ∧ Below wr.heap.size wr w') := by
        have h := heldStrs_c (.slice uq n ucap) n (kk + 4) wr hru (by omega) (by omega) (by omega)
        rw [hk4] at h
        exact h
      have hkb : kk + 4 + n ≤ 1000000 := by omega
      have HX : Hid ((kk : Int) + 1 + 1 + 1 + 1 + (n : Int) = ((k0 + cntC (ds.take (i + 1)) : Nat) : Int)) := by show _ = _; omega
      have hng : ¬ (kk : Int) + 1 + 1 + 1 + 1 + (n : Int) < 0 := by omega
      have hii : (i : Int) < (ds.length : Int) := by omega
      clear ha hu hru hu0 hn hkk hnx hsp hsn hk4 h2 h1
      go_wp2_with (go_at_call 52; refine HM.out.mono ?_; rintro e w4 ⟨rfl, b4⟩)
      go_roundw
      case rel => exact ⟨i + 1, by omega, by go_num, by rw [HX.out], hbr.trans (b4.mono hbr.size)⟩
      case measure => simp [intOf]; omega
    · have he : i = ds.length := by omega
      subst he
      rw [List.take_length]
      clear ha
      go_wp2_with fail
      go_ret
      exact ⟨by simp, hbr⟩

/-- A range that is marked. -/
def cntR (dss : List (List CmpD)) : Nat := (dss.map cntC).sum
def marksR : Nat → List (List CmpD) → List (List CmpD)
  | _, [] => []
  | k, ds :: dss => marksC k ds :: marksR (k + cntC ds) dss
theorem length_marksR : ∀ (dss : List (List CmpD)) (k : Nat), (marksR k dss).length = dss.length
  | [], _ => rfl
  | d :: dss, k => by simp [marksR, length_marksR dss]
theorem cntR_cons (d : List CmpD) (dss : List (List CmpD)) : cntR (d :: dss) = cntC d + cntR dss := by simp [cntR]
theorem cntR_take (dss : List (List CmpD)) (i : Nat) (h : i < dss.length) : cntR (dss.take (i + 1)) = cntR (dss.take i) + cntC dss[i] := by
  rw [List.take_succ_eq_append_getElem h]
  simp only [cntR, List.map_append, List.sum_append, List.map_cons, List.map_nil, List.sum_cons, List.sum_nil, Nat.add_zero]
theorem cntR_split (dss : List (List CmpD)) (i : Nat) : cntR dss = cntR (dss.take i) + cntR (dss.drop i) := by
  conv => lhs; rw [← List.take_append_drop i dss]
  simp only [cntR, List.map_append, List.sum_append]
theorem marksR_at : ∀ (dss : List (List CmpD)) (k i : Nat) (h : i < dss.length), (marksR k dss)[i]'(by rw [length_marksR]; exact h) = marksC (k + cntR (dss.take i)) dss[i]
  | d :: dss, k, 0, h => by simp [marksR, cntR]
  | d :: dss, k, i + 1, h => by
    have h' : i < dss.length := by simpa using h
    simp only [marksR, List.getElem_cons_succ, List.take_succ_cons, cntR_cons]
    rw [marksR_at dss _ i h', Nat.add_assoc]

set_option maxHeartbeats 2000000 in
set_option maxRecDepth 100000 in
theorem heldCmpSS_c (S : Nat → Prop) (v : Value) (dss : List (List CmpD)) (k0 : Nat) (w : World) (hv : RangeIn S w v (marksR k0 dss)) (hB : ∀ b, S b → b < w.heap.size) (h1 : 1 ≤ k0) (h2 : k0 + cntR dss ≤ 1000000) :
    Calls Tryd.prog 9 #[v, .int .i64 (k0 : Int)] w fun e w' => e = .returned (.int .i64 ((k0 : Int) + (cntR dss : Int))) ∧ Below w.heap.size w w' := by
  obtain ⟨a, cap, rfl, hl, hc, ha⟩ := hv
  rw [length_marksR] at hl hc ⊢
  unfold maxLen at hl
  go_enter Tryd.func9, Tryd.ntmps9
  go_wp2_with fail
  go_loopw [1, 5] (fun vk vi wr => ∃ i : Nat, i ≤ dss.length ∧ vi = .int .i64 (i : Int) ∧ vk = .int .i64 ((k0 + cntR (dss.take i) : Nat) : Int) ∧ Below w.heap.size w wr) (fun _ vi _ => dss.length - (intOf vi).toNat)
  case atStart => exact ⟨0, Nat.zero_le _, rfl, by simp [cntR], Below.refl _ _⟩
  case round =>
    obtain ⟨i, hi, rfl, rfl, hbr⟩ := hrel
    by_cases hlt : i < dss.length
    · have hlt' : i < (marksR k0 dss).length := by rw [length_marksR]; exact hlt
      rcases ha with he | ⟨b, off, us, rfl, hb, ha⟩
      · have h0 : dss.length = 0 := by rw [← length_marksR dss k0, he]; rfl
        omega
      obtain ⟨e0, hu⟩ := ha i hlt'
      have hlt2 : b < w.heap.size := hB b hb
      rw [← hbr.cell (by simpa using hlt2)] at e0
      rw [marksR_at dss k0 i hlt] at hu
      have hnx := cntR_take dss i hlt
      have hsp := cntR_split dss (i + 1)
      obtain ⟨ds, hds⟩ : ∃ x, x = dss[i] := ⟨_, rfl⟩
      obtain ⟨kk, hkk⟩ : ∃ x, x = k0 + cntR (dss.take i) := ⟨_, rfl⟩
      rw [← hkk] at hu ⊢
      rw [← hds] at hu hnx
      have hu' := hu.keep (Kp.of hbr hB)
      have HM : Hid (Calls Tryd.prog 25 #[us i, .int .i64 (kk : Int)] wr fun e w' => e = .returned (.int .i64 ((kk : Int) + (cntC ds : Int))) ∧ Below wr.heap.size wr w') := heldCmpS_c S (us i) ds kk wr hu' (fun b hb => Nat.lt_of_lt_of_le (hB b hb) hbr.size) (by omega) (by omega)
      obtain ⟨uq, ucap, hu2, _, _⟩ := hu'
      rw [hu2] at HM e0
      have HX : Hid ((kk : Int) + (cntC ds : Int) = ((k0 + cntR (dss.take (i + 1)) : Nat) : Int)) := by show _ = _; omega
      have hng : ¬ (kk : Int) + (cntC ds : Int) < 0 := by omega
      have hii : (i : Int) < (dss.length : Int) := by omega
      clear ha hu hds hkk hnx hsp h2 h1 hu2
      go_wp2_with (go_at_call 25; refine HM.out.mono ?_; rintro e w4 ⟨rfl, b4⟩)
      go_roundw
      case rel => exact ⟨i + 1, by omega, by go_num, by rw [HX.out], hbr.trans (b4.mono hbr.size)⟩
      case measure => simp [intOf]; omega
    · have he : i = dss.length := by omega
      subst he
      rw [List.take_length]
      clear ha
      go_wp2_with fail
      go_ret
      exact ⟨by simp, hbr⟩
end Go.Proofs.YtijmocdkaabijaaDoor

/-! Marks written into a range that is the call's own: contracts for the walks; conditions: the marks stay below a million. -/
namespace Go.Proofs.YtijmocdkaabijaaDoor
open Go.RowKit
set_option linter.unusedSimpArgs false
set_option linter.unusedVariables false

/-- A block from lo on, below hi, that holds Cmps or texts. -/
def Mk (lo hi : Nat) (w : World) (k : Nat) : Prop := Ow lo hi k ∧ ∃ cs t x, w.heap[k]? = some (.cells cs t x) ∧ (t = 70 ∨ t = 9)
/-- All but such blocks is as it was. -/
structure Out (lo hi : Nat) (w w' : World) : Prop where
  os : w'.os = w.os
  tape : w'.tape = w.tape
  output : w'.output = w.output
  size : w.heap.size ≤ w'.heap.size
  block : ∀ k, k < w.heap.size → ¬ Mk lo hi w k → w'.heap[k]? = w.heap[k]?
theorem Out.refl (lo hi : Nat) (w : World) : Out lo hi w w := ⟨rfl, rfl, rfl, Nat.le_refl _, fun _ _ _ => rfl⟩
theorem Out.trans {lo hi : Nat} {a b c : World} (h : Out lo hi a b) (k : Out lo hi b c) : Out lo hi a c :=
  ⟨k.os.trans h.os, k.tape.trans h.tape, k.output.trans h.output, Nat.le_trans h.size k.size, fun i hi hn => by
    have e := h.block i hi hn
    exact (k.block i (Nat.lt_of_lt_of_le hi h.size) (fun hm => hn (by unfold Mk at hm ⊢; rw [e] at hm; exact hm))).trans e⟩
theorem Out.mono {lo hi lo' hi' : Nat} {a b : World} (h : Out lo hi a b) (h1 : lo' ≤ lo) (h2 : hi ≤ hi') : Out lo' hi' a b :=
  ⟨h.os, h.tape, h.output, h.size, fun i hi hn => h.block i hi (fun k => hn ⟨Ow.mono h1 h2 _ k.1, k.2⟩)⟩
theorem Out.grown {lo hi : Nat} {a b : World} {row : Option Nat} (g : a.grownBy b row) (hr : ∀ k, row = some k → Mk lo hi a k) : Out lo hi a b :=
  ⟨g.os, g.tape, g.output, g.size, fun i hi hn => g.block i hi (fun e => hn (hr i e.symm))⟩
theorem Out.below {lo hi : Nat} {a b : World} (h : Out lo hi a b) (hl : lo ≤ a.heap.size) : Below lo a b :=
  ⟨h.os, h.tape, h.output, h.size, fun i hi => h.block i (by omega) (fun k => by have := k.1.1; omega)⟩

theorem owns_ge {base sz n : Nat} {e : TypeId} {w : World} {v : Value} {xs : List Value} (h : w.ownsRow base e sz v n xs) : ∀ k, v.ownBlock = some k → base ≤ k := fun k hk => by
  rcases h.2 with ⟨rfl, _⟩ | ⟨g, cap, cur, rfl, hg, _⟩
  · simp [Value.ownBlock] at hk
  · simp [Value.ownBlock] at hk; omega
theorem owns_mk {lo hi base sz n : Nat} {e : TypeId} {w : World} {v : Value} {xs : List Value} (h : w.ownsRow base e sz v n xs) (he : e = 70 ∨ e = 9) (hb : lo ≤ base) (hk : ∀ k, v.ownBlock = some k → k < hi) : ∀ k, v.ownBlock = some k → Mk lo hi w k := fun k hk' => by
  have h1 := owns_ge h k hk'
  refine ⟨⟨by omega, hk k hk'⟩, ?_⟩
  rcases h.2 with ⟨rfl, _⟩ | ⟨g, cap, cur, rfl, hg, hh, _⟩
  · simp [Value.ownBlock] at hk'
  · simp [Value.ownBlock] at hk'
    subst hk'
    exact ⟨_, _, _, hh, he⟩
/-- A row outside what has turned is as it was. -/
theorem owns_out {lo hi base sz n : Nat} {e : TypeId} {w w' : World} {v : Value} {xs : List Value} (h : w.ownsRow base e sz v n xs) (o : Out lo hi w w') (hn : (e ≠ 70 ∧ e ≠ 9) ∨ ∀ k, v.ownBlock = some k → ¬ Ow lo hi k) : w'.ownsRow base e sz v n xs := by
  refine ⟨h.1, ?_⟩
  rcases h.2 with h2 | ⟨g, cap, cur, rfl, hg, hh, r⟩
  · exact .inl h2
  · have hl := (Array.getElem?_eq_some_iff.1 hh).1
    refine .inr ⟨g, cap, cur, rfl, hg, (o.block g hl (fun hm => ?_)).trans hh, r⟩
    rcases hn with hn | hn
    · obtain ⟨_, cs, t, x, h3, h4⟩ := hm
      rw [hh] at h3
      simp only [Option.some.injEq, Obj.cells.injEq] at h3
      rcases h4 with h4 | h4
      · exact hn.1 (h3.2.1.trans h4)
      · exact hn.2 (h3.2.1.trans h4)
    · exact hn g rfl hm.1

theorem CmpsSeg.out {lo hi lo' hi' : Nat} {w w' : World} {v : Value} {ds : List CmpD} (h : CmpsSeg lo hi w v ds) (o : Out lo' hi' w w') (hd : hi ≤ lo' ∨ hi' ≤ lo) : CmpsSeg lo hi w' v ds := by
  obtain ⟨ys, us, h1, h2, h3, h4, h5⟩ := h
  have hno : ∀ k, lo ≤ k → k < hi → ¬ Ow lo' hi' k := fun k a b c => by have := c.1; have := c.2; omega
  exact ⟨ys, us, owns_out h1 o (.inr fun k hk => hno k (owns_ge h1 k hk) (h4 k hk)), fun i hi => ⟨(h2 i hi).1, owns_out (h2 i hi).2 o (.inr fun k hk => hno k (owns_ge (h2 i hi).2 k hk) (h5 i hi k hk))⟩, h3, h4, h5⟩

def set4 (ys : List Value) (i : Nat) (c0 c1 c2 c3 : Value) : List Value := (((ys.set (i * 5) c0).set (i * 5 + 1) c1).set (i * 5 + 2) c2).set (i * 5 + 3) c3
theorem set4_get (ys : List Value) (i j : Nat) (c0 c1 c2 c3 : Value) (h : j < i * 5 ∨ i * 5 + 3 < j) : (set4 ys i c0 c1 c2 c3)[j]? = ys[j]? := by
  unfold set4
  rw [List.getElem?_set_ne (by omega), List.getElem?_set_ne (by omega), List.getElem?_set_ne (by omega), List.getElem?_set_ne (by omega)]
theorem set4_same {ys : List Value} {i : Nat} {c0 c1 c2 c3 d0 d1 d2 d3 u : Value} (h : i * 5 + 4 < ys.length) (hf : FiveAt ys (i * 5) d0 d1 d2 d3 u) : FiveAt (set4 ys i c0 c1 c2 c3) (i * 5) c0 c1 c2 c3 u := by
  refine ⟨?_, ?_, ?_, ?_, ?_⟩
  · simp [set4, List.getElem?_set, show i * 5 < ys.length by omega]
  · simp [set4, List.getElem?_set, show i * 5 + 1 < ys.length by omega]
  · simp [set4, List.getElem?_set, show i * 5 + 2 < ys.length by omega]
  · simp [set4, List.getElem?_set, show i * 5 + 3 < ys.length by omega]
  · rw [set4_get _ _ _ _ _ _ _ (by omega)]; exact hf.2.2.2.2
theorem set4_other {ys : List Value} {i j : Nat} {c0 c1 c2 c3 d0 d1 d2 d3 d4 : Value} (h : j ≠ i) (hf : FiveAt ys (j * 5) d0 d1 d2 d3 d4) : FiveAt (set4 ys i c0 c1 c2 c3) (j * 5) d0 d1 d2 d3 d4 := by
  obtain ⟨h0, h1, h2, h3, h4⟩ := hf
  refine ⟨?_, ?_, ?_, ?_, ?_⟩ <;> rw [set4_get _ _ _ _ _ _ _ (by omega)] <;> assumption

/-- The list of which the first i are marked. -/
def upMark (k0 : Nat) (ds : List CmpD) (i : Nat) : List CmpD := (marksC k0 ds).take i ++ ds.drop i
theorem upMark_len (k0 : Nat) (ds : List CmpD) (i : Nat) : (upMark k0 ds i).length = ds.length := by
  unfold upMark; rw [List.length_append, List.length_take, List.length_drop, length_marksC]; omega
theorem upMark_at {k0 : Nat} {ds : List CmpD} {i j : Nat} (h : j < ds.length) (hij : i ≤ j) : (upMark k0 ds i)[j]'(by rw [upMark_len]; exact h) = ds[j] := by
  unfold upMark
  rw [List.getElem_append_right (by rw [List.length_take, length_marksC]; omega)]
  simp only [List.length_take, length_marksC, List.getElem_drop]
  congr 1; omega
theorem upMark_step {k0 : Nat} {ds : List CmpD} {i : Nat} (h : i < ds.length) : upMark k0 ds (i + 1) = (upMark k0 ds i).set i (markD (k0 + cntC (ds.take i)) ds[i]) := by
  unfold upMark
  rw [List.set_append_right _ _ (by rw [List.length_take, length_marksC]; omega)]
  have e1 : (marksC k0 ds).take (i + 1) = (marksC k0 ds).take i ++ [markD (k0 + cntC (ds.take i)) ds[i]] := by
    rw [List.take_succ_eq_append_getElem (by rw [length_marksC]; exact h), marksC_at ds k0 i h]
  have e2 : ds.drop i = ds[i] :: ds.drop (i + 1) := (List.getElem_cons_drop h).symm
  rw [e1, e2]
  simp only [List.length_take, length_marksC, show i - min i ds.length = 0 by omega, List.set_cons_zero, List.append_assoc, List.cons_append, List.nil_append]
theorem upMark_zero (k0 : Nat) (ds : List CmpD) : upMark k0 ds 0 = ds := by simp [upMark]
theorem upMark_all (k0 : Nat) (ds : List CmpD) : upMark k0 ds ds.length = marksC k0 ds := by
  unfold upMark; rw [List.drop_length, List.append_nil, List.take_of_length_le (by rw [length_marksC]; omega)]

/-- One Cmp of a list marked: what four stores and the marks of its texts leave. -/
theorem CmpsSeg.mark {lo hi : Nat} {w : World} {g cap : Nat} {es : List CmpD} {ys : List Value} {us : Nat → Value}
    (h1 : w.ownsRow lo 70 5 (.slice (some ⟨g, 0, none⟩) es.length cap) es.length ys)
    (h2 : ∀ i (h : i < es.length), FiveAt ys (i * 5) (.int .i64 es[i].o) (.int .i64 es[i].a) (.int .i64 es[i].b) (.int .i64 es[i].c) (us i) ∧ w.ownsRow lo 9 1 (us i) es[i].ps.length (strsV es[i].ps))
    (h3 : ∀ i j, i < es.length → j < es.length → i ≠ j → (us i).ownBlock = (us j).ownBlock → (us i).ownBlock = none)
    (h4 : ∀ k, (Value.slice (some ⟨g, 0, none⟩) es.length cap).ownBlock = some k → k < hi) (h5 : ∀ i, i < es.length → ∀ k, (us i).ownBlock = some k → k < hi)
    {i : Nat} (hi' : i < es.length) (c0 c1 c2 c3 : Int) (ps : List ByteArray) (hps : ps.length = es[i].ps.length) :
    ∃ W4, W4 = (((w.setCell ⟨g, i * 5, none⟩ (.int .i64 c0)).setCell ⟨g, i * 5 + 1, none⟩ (.int .i64 c1)).setCell ⟨g, i * 5 + 2, none⟩ (.int .i64 c2)).setCell ⟨g, i * 5 + 3, none⟩ (.int .i64 c3) ∧ W4.ownsRow lo 9 1 (us i) es[i].ps.length (strsV es[i].ps) ∧ w.heap.size ≤ W4.heap.size ∧ W4.cell? ⟨g, i * 5 + 4, none⟩ = some (us i) ∧
      ∀ w5, W4.grownBy w5 (us i).ownBlock → w5.ownsRow lo 9 1 (us i) es[i].ps.length (strsV ps) → CmpsSeg lo hi w5 (.slice (some ⟨g, 0, none⟩) es.length cap) (es.set i ⟨c0, c1, c2, c3, ps⟩) ∧ Out lo hi w w5 := by
  have hlen := h1.1
  obtain ⟨o1, g1⟩ := h1.stored (i * 5) (.int .i64 c0)
  obtain ⟨o2, g2⟩ := o1.stored (i * 5 + 1) (.int .i64 c1)
  obtain ⟨o3, g3⟩ := o2.stored (i * 5 + 2) (.int .i64 c2)
  obtain ⟨o4, g4⟩ := o3.stored (i * 5 + 3) (.int .i64 c3)
  have gg := grown_trans (grown_trans (grown_trans g1 g2) g3) g4
  have hgO : Mk lo hi w g := owns_mk h1 (.inl rfl) (Nat.le_refl _) h4 g rfl
  have hap : ∀ j (hj : j < es.length), (us j).ownBlock = none ∨ (us j).ownBlock ≠ some g := fun j hj => rowsG_apart h1 (h2 j hj).2 (by decide)
  have hu4 := fun j (hj : j < es.length) => (h2 j hj).2.kept gg (hap j hj)
  refine ⟨_, rfl, hu4 i hi', gg.size, ?_, fun w5 g5 o5 => ⟨?_, ?_⟩⟩
  · rw [o4.cellAt _ (by omega)]
    have := set4_get ys i (i * 5 + 4) (.int .i64 c0) (.int .i64 c1) (.int .i64 c2) (.int .i64 c3) (by omega)
    unfold set4 at this
    rw [this]; exact (h2 i hi').1.2.2.2.2
  · have hv5 := o4.kept g5 (rowsG_apart (hu4 i hi') o4 (by decide))
    refine ⟨set4 ys i (.int .i64 c0) (.int .i64 c1) (.int .i64 c2) (.int .i64 c3), us, by rw [List.length_set]; exact hv5, fun j hj => ?_, fun a b ha hb => h3 a b (by simpa using ha) (by simpa using hb), h4, fun j hj => h5 j (by simpa using hj)⟩
    have hj' : j < es.length := by simpa using hj
    by_cases e : j = i
    · subst e
      rw [List.getElem_set_self]
      refine ⟨set4_same (by omega) (h2 j hj').1, ?_⟩
      show w5.ownsRow lo 9 1 (us j) ps.length (strsV ps)
      rw [hps]; exact o5
    · rw [List.getElem_set_ne (fun h => e h.symm)]
      refine ⟨set4_other e (h2 j hj').1, (hu4 j hj').kept g5 ?_⟩
      by_cases hb : (us j).ownBlock = (us i).ownBlock
      · exact .inl (h3 j i hj' hi' e hb)
      · exact .inr hb
  · exact (Out.grown gg (fun k hk => by cases hk; exact hgO)).trans (Out.grown g5 (fun k hk => owns_mk (hu4 i hi') (.inr rfl) (Nat.le_refl _) (h5 i hi') k hk))

set_option maxHeartbeats 4000000 in
set_option maxRecDepth 100000 in
theorem markCmpS_c (lo hi : Nat) (v : Value) (ds : List CmpD) (k0 : Nat) (w : World) (hv : CmpsSeg lo hi w v ds) (hl : ds.length ≤ 4) (h1 : 1 ≤ k0) (h2 : k0 + cntC ds ≤ 1000000) :
    Calls Tryd.prog 24 #[v, .int .i64 (k0 : Int)] w fun e w' => e = .returned (.int .i64 ((k0 : Int) + (cntC ds : Int))) ∧ CmpsSeg lo hi w' v (marksC k0 ds) ∧ Out lo hi w w' := by
  obtain ⟨q, cap, rfl⟩ : ∃ q cap, v = .slice q ds.length cap := by
    obtain ⟨_, _, ho, _⟩ := hv
    rcases ho.2 with ⟨rfl, h0⟩ | ⟨g, cap, cur, rfl, _⟩
    · exact ⟨_, _, by rw [h0]⟩
    · exact ⟨_, _, rfl⟩
  go_enter Tryd.func24, Tryd.ntmps24
  go_wp2_with fail
  go_loopw [1, 5] (fun vk vi wr => ∃ i : Nat, i ≤ ds.length ∧ vi = .int .i64 (i : Int) ∧ vk = .int .i64 ((k0 + cntC (ds.take i) : Nat) : Int) ∧ Hid (CmpsSeg lo hi wr (.slice q ds.length cap) (upMark k0 ds i)) ∧ Hid (Out lo hi w wr)) (fun _ vi _ => ds.length - (intOf vi).toNat)
  case atStart => exact ⟨0, Nat.zero_le _, rfl, by simp [cntC], (by show CmpsSeg _ _ _ _ _; rw [upMark_zero]; exact hv), Out.refl _ _ _⟩
  case round =>
    obtain ⟨i, hi2, rfl, rfl, hsg, hout⟩ := hrel
    clear hv
    by_cases hlt : i < ds.length
    · have hnx := cntC_take ds i hlt
      have hsp := cntC_split ds (i + 1)
      have hst := upMark_step (k0 := k0) hlt
      have hat := upMark_at (k0 := k0) hlt (Nat.le_refl i)
      obtain ⟨ys, us, o1, o2, o3, o4, o5⟩ := hsg.out
      obtain ⟨es, hes⟩ : ∃ es, es = upMark k0 ds i := ⟨_, rfl⟩
      have hel : es.length = ds.length := by rw [hes, upMark_len]
      have hat' : ∀ h : i < es.length, es[i] = ds[i] := fun h => by subst hes; exact hat
      rw [← hes] at o1 o2 o3 o5 hst
      clear hat hes hsg
      rw [← hel] at o1 o4
      obtain ⟨g, rfl, hlw⟩ : ∃ g, q = some ⟨g, 0, none⟩ ∧ lo ≤ wr.heap.size := by
        rcases o1.2 with ⟨_, h0⟩ | ⟨g, cap', cur, hh, hlg, hgg, _⟩
        · omega
        · simp at hh; exact ⟨g, hh.1, Nat.le_of_lt (Nat.lt_of_le_of_lt hlg (Array.getElem?_eq_some_iff.1 hgg).1)⟩
      have hie : i < es.length := by omega
      obtain ⟨n, hn⟩ : ∃ n, n = ds[i].ps.length := ⟨_, rfl⟩
      obtain ⟨kk, hkk⟩ : ∃ x, x = k0 + cntC (ds.take i) := ⟨_, rfl⟩
      rw [← hn] at hnx
      rw [← hkk] at hst ⊢
      have hkb : kk + 4 + n ≤ 1000000 := by omega
      have hpl : (marksS (kk + 4) n).length = es[i].ps.length := by rw [length_marksS, hat' hie, hn]
      obtain ⟨W4, hW4, hu4, hsz, hc4, hfin⟩ := CmpsSeg.mark o1 o2 o3 o4 o5 hie (kk : Int) ((kk : Int) + 1) ((kk : Int) + 1 + 1) ((kk : Int) + 1 + 1 + 1) (marksS (kk + 4) n) hpl
      have hN : es[i].ps.length = n := by rw [hat' hie, hn]
      rw [hN] at hu4 hfin
      have hmk := markStrs_c (us i) lo n _ (kk + 4) W4 hu4 (by omega) (by omega) (by omega) (by omega)
      have ec : ((kk + 4 : Nat) : Int) = (kk : Int) + 1 + 1 + 1 + 1 := by omega
      have ec2 : ((kk + 4 : Nat) : Int) + (n : Int) = ((k0 + cntC (ds.take (i + 1)) : Nat) : Int) := by omega
      have EC2 : Hid ((kk : Int) + 1 + 1 + 1 + 1 + (n : Int) = ((k0 + cntC (ds.take (i + 1)) : Nat) : Int)) := by rw [← ec]; exact ec2
      rw [ec] at hmk
      have HFIN : Hid (∀ w5, W4.grownBy w5 (us i).ownBlock → w5.ownsRow lo 9 1 (us i) n (strsV (marksS (kk + 4) n)) → CmpsSeg lo hi w5 (.slice (some ⟨g, 0, none⟩) ds.length cap) (upMark k0 ds (i + 1)) ∧ Out lo hi w w5) := fun w5 a b => by
        have := hfin w5 a b
        rw [hel] at this
        have em : markD kk ds[i] = ⟨(kk : Int), (kk : Int) + 1, (kk : Int) + 1 + 1, (kk : Int) + 1 + 1 + 1, marksS (kk + 4) n⟩ := by rw [markD, ← hn]
        rw [em] at hst
        rw [hst]
        exact ⟨this.1, hout.out.trans this.2⟩
      have hcl : ∀ j, j < 5 → wr.cell? ⟨g, i * 5 + j, none⟩ = some (ys.getD (i * 5 + j) undef) := fun j hj => by
        have hl5 := o1.1
        rw [o1.cellAt _ (by omega)]; simp [List.getD_eq_getElem?_getD, show i * 5 + j < ys.length by omega]
      have hfr := fun j => o1.frozenAt j
      have d0 := hcl 0 (by omega); have d1 := hcl 1 (by omega); have d2 := hcl 2 (by omega); have d3 := hcl 3 (by omega)
      rw [Nat.add_zero] at d0
      have d4 : wr.cell? ⟨g, i * 5 + 4, none⟩ = some (us i) := by rw [o1.cellAt _ (by have := o1.1; omega)]; exact (o2 i hie).1.2.2.2.2
      obtain ⟨u, hu⟩ : ∃ u, u = us i := ⟨_, rfl⟩
      rw [← hu] at hmk HFIN d4
      obtain ⟨uq, um, uc, hu9⟩ : ∃ q m c, u = .slice q m c := by rw [hu]; exact owns_slice hu4
      subst hu9
      have hki : (i : Int) < (ds.length : Int) := by omega
      have hout0 := hout
      clear o1 o2 o3 o4 o5 hcl hnx hsp hst hat' hfin hu4 hc4 hpl hu hN ec2 hsz hn hel hie hkk
      subst hW4
      go_wp2_with (go_at_call 51; refine hmk.mono ?_; rintro e w5 ⟨rfl, r5, g5⟩)
      go_roundw
      case rel =>
        obtain ⟨a, b⟩ := HFIN.out w5 g5 r5
        exact ⟨i + 1, by omega, by go_num, by rw [EC2.out], a, b⟩
      case measure => simp [intOf]; omega
    · have he : i = ds.length := by omega
      subst he
      have hs2 := hsg.out
      rw [upMark_all] at hs2
      rw [List.take_length]
      go_wp2_with fail
      go_ret
      exact ⟨by simp, hs2, hout.out⟩
end Go.Proofs.YtijmocdkaabijaaDoor

/-! Marks written into a range, list by list, that is the call's own: a contract for the walks; conditions: the marks stay below a million. -/
namespace Go.Proofs.YtijmocdkaabijaaDoor
open Go.RowKit
set_option linter.unusedSimpArgs false
set_option linter.unusedVariables false

/-- The range of which the first i lists are marked. -/
def upR (k0 : Nat) (dss : List (List CmpD)) (i : Nat) : List (List CmpD) := (marksR k0 dss).take i ++ dss.drop i
theorem upR_len (k0 : Nat) (dss : List (List CmpD)) (i : Nat) : (upR k0 dss i).length = dss.length := by
  unfold upR; rw [List.length_append, List.length_take, List.length_drop, length_marksR]; omega
theorem upR_at {k0 : Nat} {dss : List (List CmpD)} {i j : Nat} (h : j < dss.length) (hij : i ≤ j) : (upR k0 dss i)[j]'(by rw [upR_len]; exact h) = dss[j] := by
  unfold upR
  rw [List.getElem_append_right (by rw [List.length_take, length_marksR]; omega)]
  simp only [List.length_take, length_marksR, List.getElem_drop]
  congr 1; omega
theorem upR_step {k0 : Nat} {dss : List (List CmpD)} {i : Nat} (h : i < dss.length) : upR k0 dss (i + 1) = (upR k0 dss i).set i (marksC (k0 + cntR (dss.take i)) dss[i]) := by
  unfold upR
  rw [List.set_append_right _ _ (by rw [List.length_take, length_marksR]; omega)]
  have e1 : (marksR k0 dss).take (i + 1) = (marksR k0 dss).take i ++ [marksC (k0 + cntR (dss.take i)) dss[i]] := by
    rw [List.take_succ_eq_append_getElem (by rw [length_marksR]; exact h), marksR_at dss k0 i h]
  have e2 : dss.drop i = dss[i] :: dss.drop (i + 1) := (List.getElem_cons_drop h).symm
  rw [e1, e2]
  simp only [List.length_take, length_marksR, show i - min i dss.length = 0 by omega, List.set_cons_zero, List.append_assoc, List.cons_append, List.nil_append]
theorem upR_zero (k0 : Nat) (dss : List (List CmpD)) : upR k0 dss 0 = dss := by simp [upR]
theorem upR_all (k0 : Nat) (dss : List (List CmpD)) : upR k0 dss dss.length = marksR k0 dss := by
  unfold upR; rw [List.drop_length, List.append_nil, List.take_of_length_le (by rw [length_marksR]; omega)]

theorem RangeOwn.mark {lo : Nat} {w w5 : World} {v u : Value} {ess : List (List CmpD)} {es' : List CmpD} {vs : List Value} {ls hs : Nat → Nat} (h1 : w.ownsRow lo 41 1 v ess.length vs)
    (h2 : ∀ i (h : i < ess.length), ∃ u, vs[i]? = some u ∧ lo ≤ ls i ∧ hs i ≤ w.heap.size ∧ CmpsSeg (ls i) (hs i) w u ess[i]) (h3 : ∀ i j, i < j → j < ess.length → hs i ≤ ls j) {i : Nat} (hi : i < ess.length) (hu : vs[i]? = some u)
    (o : Out (ls i) (hs i) w w5) (h5 : CmpsSeg (ls i) (hs i) w5 u es') (hlo : lo ≤ w.heap.size) : RangeOwn lo w5 v (ess.set i es') ∧ Below lo w w5 := by
  refine ⟨⟨vs, ls, hs, by rw [List.length_set]; exact owns_out h1 o (.inl (by decide)), fun j hj => ?_, fun a b hab hb => h3 a b hab (by simpa using hb)⟩, ?_⟩
  · have hj' : j < ess.length := by simpa using hj
    obtain ⟨u', e, a1, a2, a3⟩ := h2 j hj'
    by_cases hji : j = i
    · subst hji
      rw [hu] at e
      cases e
      rw [List.getElem_set_self]
      exact ⟨u, hu, a1, Nat.le_trans a2 o.size, h5⟩
    · rw [List.getElem_set_ne (fun h => hji h.symm)]
      refine ⟨u', e, a1, Nat.le_trans a2 o.size, a3.out o ?_⟩
      rcases Nat.lt_or_gt_of_ne hji with h | h
      · exact .inl (h3 j i h hi)
      · exact .inr (h3 i j h hj')
  · obtain ⟨_, _, a1, a2, _⟩ := h2 i hi
    exact ⟨o.os, o.tape, o.output, o.size, fun k hk => o.block k (by omega) (fun hm => by have := hm.1.1; omega)⟩

set_option maxHeartbeats 4000000 in
set_option maxRecDepth 100000 in
theorem markCmpSS_c (lo : Nat) (v : Value) (dss : List (List CmpD)) (k0 : Nat) (w : World) (hv : RangeOwn lo w v dss) (hlo : lo ≤ w.heap.size) (hl : dss.length ≤ 4) (h4 : ∀ ds ∈ dss, ds.length ≤ 4) (h1 : 1 ≤ k0) (h2 : k0 + cntR dss ≤ 1000000) :
    Calls Tryd.prog 8 #[v, .int .i64 (k0 : Int)] w fun e w' => e = .returned (.int .i64 ((k0 : Int) + (cntR dss : Int))) ∧ RangeOwn lo w' v (marksR k0 dss) ∧ Below lo w w' := by
  obtain ⟨q, cap, rfl⟩ : ∃ q cap, v = .slice q dss.length cap := by
    obtain ⟨_, _, _, ho, _⟩ := hv
    rcases ho.2 with ⟨rfl, h0⟩ | ⟨g, cap, cur, rfl, _⟩
    · exact ⟨_, _, by rw [h0]⟩
    · exact ⟨_, _, rfl⟩
  go_enter Tryd.func8, Tryd.ntmps8
  go_wp2_with fail
  go_loopw [1, 5] (fun vk vi wr => ∃ i : Nat, i ≤ dss.length ∧ vi = .int .i64 (i : Int) ∧ vk = .int .i64 ((k0 + cntR (dss.take i) : Nat) : Int) ∧ Hid (RangeOwn lo wr (.slice q dss.length cap) (upR k0 dss i)) ∧ Hid (Below lo w wr)) (fun _ vi _ => dss.length - (intOf vi).toNat)
  case atStart => exact ⟨0, Nat.zero_le _, rfl, by simp [cntR], (by show RangeOwn _ _ _ _; rw [upR_zero]; exact hv), Below.refl _ _⟩
  case round =>
    obtain ⟨i, hi2, rfl, rfl, hsg, hout⟩ := hrel
    clear hv
    by_cases hlt : i < dss.length
    · have hnx := cntR_take dss i hlt
      have hsp := cntR_split dss (i + 1)
      have hst := upR_step (k0 := k0) hlt
      have hat := upR_at (k0 := k0) hlt (Nat.le_refl i)
      obtain ⟨vs, ls, hs, o1, o2, o3⟩ := hsg.out
      obtain ⟨es, hes⟩ : ∃ es, es = upR k0 dss i := ⟨_, rfl⟩
      have hel : es.length = dss.length := by rw [hes, upR_len]
      have hat' : ∀ h : i < es.length, es[i] = dss[i] := fun h => by subst hes; exact hat
      rw [← hes] at o1 o2 o3 hst
      clear hat hes hsg
      rw [← hel] at o1
      obtain ⟨g, rfl⟩ : ∃ g, q = some ⟨g, 0, none⟩ := by
        rcases o1.2 with ⟨_, h0⟩ | ⟨g, cap', cur, hh, _⟩
        · omega
        · simp at hh; exact ⟨g, hh.1⟩
      have hie : i < es.length := by omega
      obtain ⟨u, hu, a1, a2, a3⟩ := o2 i hie
      rw [hat' hie] at a3
      obtain ⟨kk, hkk⟩ : ∃ x, x = k0 + cntR (dss.take i) := ⟨_, rfl⟩
      rw [← hkk] at hst ⊢
      have hwl : lo ≤ wr.heap.size := Nat.le_trans hlo hout.out.size
      have hmk := markCmpS_c (ls i) (hs i) u dss[i] kk wr a3 (h4 _ (List.getElem_mem hlt)) (by omega) (by omega)
      have EC : Hid ((kk : Int) + (cntC dss[i] : Int) = ((k0 + cntR (dss.take (i + 1)) : Nat) : Int)) := by show _ = _; omega
      have HFIN : Hid (∀ w5, CmpsSeg (ls i) (hs i) w5 u (marksC kk dss[i]) → Out (ls i) (hs i) wr w5 → RangeOwn lo w5 (.slice (some ⟨g, 0, none⟩) dss.length cap) (upR k0 dss (i + 1)) ∧ Below lo w w5) := fun w5 a b => by
        have := RangeOwn.mark o1 o2 o3 hie hu b a hwl
        rw [hel] at this
        rw [hst]
        exact ⟨this.1, hout.out.trans this.2⟩
      have d0 : wr.cell? ⟨g, i, none⟩ = some u := by rw [o1.cellAt _ (by omega)]; exact hu
      obtain ⟨uq, um, uc, hu9⟩ : ∃ q m c, u = .slice q m c := by
        obtain ⟨_, _, ho, _⟩ := a3
        rcases ho.2 with ⟨rfl, _⟩ | ⟨g', c', cur, rfl, _⟩
        · exact ⟨_, _, _, rfl⟩
        · exact ⟨_, _, _, rfl⟩
      subst hu9
      have hki : (i : Int) < (dss.length : Int) := by omega
      clear o1 o2 o3 hnx hsp hst hat' hu hel hie a3 a1 a2 hkk
      go_wp2_with (go_at_call 24; refine hmk.mono ?_; rintro e w5 ⟨rfl, r5, g5⟩)
      go_roundw
      case rel =>
        obtain ⟨a, b⟩ := HFIN.out w5 r5 g5
        exact ⟨i + 1, by omega, by go_num, by rw [EC.out], a, b⟩
      case measure => simp [intOf]; omega
    · have he : i = dss.length := by omega
      subst he
      have hs2 := hsg.out
      rw [upR_all] at hs2
      rw [List.take_length]
      go_wp2_with fail
      go_ret
      exact ⟨by simp, hs2, hout.out⟩
end Go.Proofs.YtijmocdkaabijaaDoor

/-! The law FnExactParseRange walked: it answers true; conditions: the table of signs holds the seven signs, and the library's bound is a number. -/
namespace Go.Proofs.YtijmocdkaabijaaDoor
open Go.RowKit
set_option linter.unusedSimpArgs false
set_option linter.unusedVariables false

theorem cntC_bound {ds : List CmpD} (hl : ds.length ≤ 4) (hb : ∀ d ∈ ds, bulkS d.ps ≤ 27) : cntC ds ≤ 124 := by
  have h : ∀ x ∈ ds.map (fun d => 4 + d.ps.length), x ≤ 31 := fun x hx => by
    obtain ⟨d, hd, rfl⟩ := List.mem_map.1 hx
    have := hb d hd
    unfold bulkS at this; omega
  have := sum_le _ 31 h
  rw [List.length_map] at this
  unfold cntC; omega
theorem cntR_bound (s : ByteArray) : cntR ((rangeI s).getD []) ≤ 496 := by
  obtain ⟨h1, h2, h3⟩ := range_small s
  have h : ∀ x ∈ ((rangeI s).getD []).map cntC, x ≤ 124 := fun x hx => by
    obtain ⟨d, hd, rfl⟩ := List.mem_map.1 hx
    exact cntC_bound (h2 d hd) (h3 d hd)
  have := sum_le _ 124 h
  rw [List.length_map] at this
  unfold cntR; omega
theorem marksR_mem {k : Nat} {dss : List (List CmpD)} {es : List CmpD} (h : es ∈ marksR k dss) : ∃ ds ∈ dss, ∃ k', es = marksC k' ds := by
  obtain ⟨i, hi, rfl⟩ := List.mem_iff_getElem.1 h
  rw [length_marksR] at hi
  exact ⟨dss[i], List.getElem_mem hi, _, marksR_at dss k i hi⟩
theorem marksC_mem {k : Nat} {ds : List CmpD} {e : CmpD} (h : e ∈ marksC k ds) : ∃ d ∈ ds, ∃ k', e = markD k' d := by
  obtain ⟨i, hi, rfl⟩ := List.mem_iff_getElem.1 h
  rw [length_marksC] at hi
  exact ⟨ds[i], List.getElem_mem hi, _, marksC_at ds k i hi⟩

theorem markLoop_size : ∀ (f k : Nat) (out : ByteArray), (markLoop f k out).size ≤ out.size + f
  | 0, k, out => by simp [markLoop]
  | f + 1, k, out => by
    rw [markLoop]
    split
    · omega
    · have := markLoop_size f (k / 10) (strOfNums [48 + (k : Int) % 10] ++ out)
      rw [ByteArray.size_append, strOfNums_size] at this
      simp at this; omega
theorem markStr_size (k : Nat) : (markStr k).size ≤ 1 + k := by
  unfold markStr
  rw [ByteArray.size_append]
  have := markLoop_size k k ⟨#[]⟩
  have e : (⟨#[109]⟩ : ByteArray).size = 1 := rfl
  have e2 : (⟨#[]⟩ : ByteArray).size = 0 := rfl
  omega
theorem marksS_bulk (k n : Nat) (hk : k + n ≤ 1000) (hn : n ≤ 27) : bulkS (marksS k n) ≤ 1048576 := by
  have h : ∀ x ∈ (marksS k n).map ByteArray.size, x ≤ 1001 := fun x hx => by
    obtain ⟨y, hy, rfl⟩ := List.mem_map.1 hx
    obtain ⟨j, hj, rfl⟩ := List.mem_map.1 hy
    have := markStr_size (k + j)
    have := List.mem_range.1 hj
    omega
  have := sum_le _ 1001 h
  rw [List.length_map, length_marksS] at this
  unfold bulkS
  rw [length_marksS]; omega
theorem cntC_mem_le {dss : List (List CmpD)} (i : Nat) (h : i < dss.length) : cntR (dss.take i) + cntC dss[i] ≤ cntR dss := by
  have h1 := cntR_take dss i h
  have h2 := cntR_split dss (i + 1)
  omega
theorem markR_bulk (s : ByteArray) : ∀ es ∈ marksR 1 ((rangeI s).getD []), es.length ≤ 4 ∧ ∀ e ∈ es, bulkS e.ps ≤ 1048576 := by
  obtain ⟨h1, h2, h3⟩ := range_small s
  have hb := cntR_bound s
  obtain ⟨dss, hd⟩ : ∃ d, d = (rangeI s).getD [] := ⟨_, rfl⟩
  rw [← hd] at h1 h2 h3 hb ⊢
  intro es hes
  obtain ⟨i, hi, rfl⟩ := List.mem_iff_getElem.1 hes
  rw [length_marksR] at hi
  rw [marksR_at dss 1 i hi]
  refine ⟨by rw [length_marksC]; exact h2 _ (List.getElem_mem hi), fun e he => ?_⟩
  obtain ⟨j, hj, rfl⟩ := List.mem_iff_getElem.1 he
  rw [length_marksC] at hj
  rw [marksC_at _ _ j hj]
  have c1 := cntC_mem_le i hi
  have c2 := cntC_take dss[i] j hj
  have c3 := cntC_split dss[i] (j + 1)
  have c4 := h3 _ (List.getElem_mem hi) _ (List.getElem_mem hj)
  show bulkS (marksS _ _) ≤ _
  exact marksS_bulk _ _ (by omega) (by unfold bulkS at c4; omega)

theorem RangeOwn.slice {lo : Nat} {w : World} {v : Value} {dss : List (List CmpD)} (h : RangeOwn lo w v dss) : ∃ q c, v = .slice q dss.length c := by
  obtain ⟨_, _, _, ho, _⟩ := h
  rcases ho.2 with ⟨rfl, h0⟩ | ⟨g, c, cur, rfl, _⟩
  · exact ⟨_, _, by rw [h0]⟩
  · exact ⟨_, _, rfl⟩

set_option maxHeartbeats 4000000 in
set_option maxRecDepth 100000 in
theorem parseRange_walk (s : ByteArray) (hsm : s.size ≤ maxLen) (m : Int) (w : World) (hm : w.cell? ⟨1, 0, none⟩ = some (.int .i64 m)) (hsg : ∀ k (h : k < signsT.length), w.cell? ⟨0, k, none⟩ = some (.string signsT[k])) :
    Calls Tryd.prog 3 #[.string s] w fun e w' => e = .returned (.bool true) ∧ Below w.heap.size w w' := by
  unfold maxLen at hsm
  by_cases hbig : 1048576 < s.size
  · have hb : (1048576 : Int) < (s.size : Int) := by omega
    clear hsg
    go_enter Tryd.func3, Tryd.ntmps3
    go_wp2_with fail
    go_ret
    exact ⟨rfl, Below.refl _ _⟩
  have hb : ¬ (1048576 : Int) < (s.size : Int) := by omega
  have hs : s.size ≤ 1048576 := by omega
  have hgm : 1 < w.heap.size := World.block_lt_of_cell? w _ hm
  have hgs : 0 < w.heap.size := World.block_lt_of_cell? w _ (hsg 0 (by decide))
  have HI0 : ∀ w1, Below w.heap.size w w1 → Calls Tryd.prog 6 #[.string s] w1 fun e w' => ∃ v, e = .returned (.tuple #[v, .bool (rangeI s).isSome]) ∧ RangeOwn w1.heap.size w' v ((rangeI s).getD []) ∧ Below w1.heap.size w1 w' := fun w1 h1 => implRange_c s hs m w1 ((h1.cell (by simpa using hgm)).trans hm) (fun k hk => (h1.cell (by simpa using hgs)).trans (hsg k hk))
  have HS0 := specRange_c s hs w
  obtain ⟨hr1, hr2, hr3⟩ := range_small s
  have hwt := range_weight s
  have hmb := markR_bulk s
  have hcb := cntR_bound s
  obtain ⟨ok, hok⟩ : ∃ o, o = (rangeI s).isSome := ⟨_, rfl⟩
  rw [← hok] at HS0
  simp only [← hok] at HI0
  clear hok
  obtain ⟨dss, hd⟩ : ∃ d, d = (rangeI s).getD [] := ⟨_, rfl⟩
  rw [← hd] at HS0 hr1 hr2 hr3 hwt hmb hcb
  simp only [← hd] at HI0
  clear hd hsg hm
  have hIn : ∀ w1 lo v, RangeOwn lo w1 v dss → RangeIn (Ow lo w1.heap.size) w1 v dss := fun w1 lo v h => h.rangeIn hr1 hr2 (fun ds h1 d h2 => by have := hr3 ds h1 d h2; omega)
  have hInM : ∀ w1 lo v, RangeOwn lo w1 v (marksR 1 dss) → RangeIn (Ow lo w1.heap.size) w1 v (marksR 1 dss) := fun w1 lo v h => h.rangeIn (by rw [length_marksR]; exact hr1) (fun ds h1 => (hmb ds h1).1) (fun ds h1 => (hmb ds h1).2)
  have HE : Hid (∀ w1 lo lo' v u, RangeOwn lo w1 v dss → RangeOwn lo' w1 u dss → Calls Tryd.prog 7 #[v, u] w1 fun e w' => e = .returned (.bool true) ∧ Below w1.heap.size w1 w') := fun w1 lo lo' v u h h' => eqCmpSS_c _ _ v u dss w1 (hIn w1 lo v h) (hIn w1 lo' u h') (fun b h => h.2) (fun b h => h.2) hwt
  have HH : Hid (∀ w1 lo v, RangeOwn lo w1 v (marksR 1 dss) → Calls Tryd.prog 9 #[v, .int .i64 1] w1 fun e w' => e = .returned (.int .i64 (1 + (cntR dss : Int))) ∧ Below w1.heap.size w1 w') := fun w1 lo v h => heldCmpSS_c _ v dss 1 w1 (hInM w1 lo v h) (fun b h => h.2) (Nat.le_refl _) (by omega)
  have HM : Hid (∀ w1 lo v, RangeOwn lo w1 v dss → lo ≤ w1.heap.size → Calls Tryd.prog 8 #[v, .int .i64 1] w1 fun e w' => e = .returned (.int .i64 (1 + (cntR dss : Int))) ∧ RangeOwn lo w' v (marksR 1 dss) ∧ Below lo w1 w') := fun w1 lo v h hl => markCmpSS_c lo v dss 1 w1 h hl hr1 hr2 (Nat.le_refl _) (by omega)
  have HI : Hid (∀ w1, Below w.heap.size w w1 → Calls Tryd.prog 6 #[.string s] w1 fun e w' => ∃ v, e = .returned (.tuple #[v, .bool ok]) ∧ RangeOwn w1.heap.size w' v dss ∧ Below w1.heap.size w1 w') := HI0
  obtain ⟨M, hM⟩ : ∃ M : Int, M = 1 + (cntR dss : Int) := ⟨_, rfl⟩
  rw [← hM] at HH HM
  have hM0 : ¬ M < 0 := by omega
  clear HI0 hIn hInM hr1 hr2 hr3 hwt hmb hcb hM hbig
  go_enter Tryd.func3, Tryd.ntmps3
  go_wp2_with fail
  go_at_call 5
  refine HS0.mono ?_
  rintro e w1 ⟨v1, rfl, O1, k1⟩
  obtain ⟨q1, c1, rfl⟩ := O1.slice
  clear HS0
  go_wp2_with fail
  go_at_call 6
  refine (HI.out w1 k1).mono ?_
  rintro e w2 ⟨v2, rfl, O2, b2⟩
  obtain ⟨q2, c2, rfl⟩ := O2.slice
  have k2 := k1.trans (b2.mono k1.size)
  have hs12 := b2.size
  go_wp2_with fail
  go_at_call 7
  refine (HE.out w2 _ _ _ _ O2 (O1.below b2)).mono ?_
  rintro e w3 ⟨rfl, b3⟩
  have k3 := k2.trans (b3.mono k2.size)
  have j3 : Below w1.heap.size w1 w3 := b2.trans (b3.mono hs12)
  have O2c := O2.below b3
  clear O2 b2 b3 k2
  go_wp2_with fail
  go_at_call 8
  refine (HM.out w3 _ _ O2c j3.size).mono ?_
  rintro e w4 ⟨rfl, O4, b4⟩
  have k4 := k3.trans (b4.mono k1.size)
  have j4 := j3.trans b4
  clear O2c b4 k3 j3 HM
  go_wp2_with fail
  go_at_call 9
  refine (HH.out w4 _ _ O4).mono ?_
  rintro e w5 ⟨rfl, b5⟩
  have k5 := k4.trans (b5.mono k4.size)
  have j5 := j4.trans (b5.mono j4.size)
  have O5 := O4.below b5
  clear b5 k4 j4 O4
  go_wp2_with fail
  go_at_call 6
  refine (HI.out w5 k5).mono ?_
  rintro e w6 ⟨v6, rfl, O6, b6⟩
  obtain ⟨q6, c6, rfl⟩ := O6.slice
  have k6 := k5.trans (b6.mono k5.size)
  have j6 := j5.trans (b6.mono j5.size)
  have O5b := O5.below b6
  clear b6 k5 j5 O5 HI
  go_wp2_with fail
  go_at_call 7
  refine (HE.out w6 _ _ _ _ O6 (O1.below j6)).mono ?_
  rintro e w7 ⟨rfl, b7⟩
  have k7 := k6.trans (b7.mono k6.size)
  have O7 := O5b.below b7
  clear b7 k6 j6 O5b HE O6 O1
  go_wp2_with fail
  go_at_call 9
  refine (HH.out w7 _ _ O7).mono ?_
  rintro e w8 ⟨rfl, b8⟩
  have k8 := k7.trans (b8.mono k7.size)
  go_wp2_with fail
  go_ret
  exact ⟨rfl, k8⟩
end Go.Proofs.YtijmocdkaabijaaDoor
