/-
  The program's reading of a map, given its reading of each of its values: for every map that lies in memory and holds at most 2 to the 20.
-/
import Derived.Test.YtbolphjigjpmiaaDoorValF
namespace Go.Proofs.YtbolphjigjpmiaaDoor
open Go.RowKit
set_option linter.unusedSimpArgs false
set_option linter.unusedVariables false

def fieldsB (l : List Tree) (ks : List ByteArray) (d : Nat) (c : Int) : Bool := (ks.length == l.length && keysUpto ks ks.length) && (goodL l (d + 1) && decide (c + (nodesL l : Int) ≤ 80))

def FieldsC (k n : Int) (s : ByteArray) (l : List Tree) (ks : List ByteArray) : Prop := ∀ (S : Nat → Prop) (v : Value) (w : World) (d g : Nat) (c : Int), Lies S w v (.mk k n s l ks) → (∀ b, S b → b < w.heap.size ∧ b ≠ g) → CtrAt w g c → 0 ≤ c → c ≤ 80 → 1 ≤ d → d ≤ 6 → wtL l ≤ 1048576 → bulkS ks ≤ 1048576 →
  Calls Tryd.prog 35 #[.pointer (some ⟨g, 0, none⟩), v, .int .i64 (d : Int)] w fun e w' => ∃ x c1, e = .returned (.tuple #[x, .bool (fieldsB l ks d c)]) ∧ CtrAt w' g c1 ∧ w.grownBy w' (some g) ∧
    (fieldsB l ks d c = true → c1 = c + (nodesL l : Int) ∧ XMap (Own w.heap.size w'.heap.size) w' x l ks)

theorem size_le_bulk {ks : List ByteArray} {s : ByteArray} (h : s ∈ ks) : s.size ≤ bulkS ks := by
  unfold bulkS
  induction ks with
  | nil => simp at h
  | cons t r ih =>
    simp only [List.mem_cons] at h
    simp only [List.map_cons, List.sum_cons, List.length_cons]
    rcases h with rfl | h
    · omega
    · have := ih h; omega

theorem xmap_of {w : World} {N : Nat} {vo : Value} {l : List Tree} {ks : List ByteArray} {xs : List Value} (hown : w.ownsRow N 72 2 vo l.length xs)
    (hX : ∀ j (h : j < l.length), xs.getD (j * 2) undef = .string (ks.getD j ⟨#[]⟩) ∧ XLies (Own N w.heap.size) w (xs.getD (j * 2 + 1) undef) l[j]) : XMap (Own N w.heap.size) w (.iface 63 vo) l ks := by
  have hlen := hown.1
  rcases hown.2 with ⟨rfl, h0⟩ | ⟨gb, cap, cur, rfl, hb, hg, hn, hcap, hsz, htake⟩
  · have : l = [] := List.eq_nil_of_length_eq_zero h0
    subst this
    exact ⟨none, 0, fun _ => undef, rfl, Nat.le_refl _, .inl rfl, fun i h => by simp at h⟩
  · refine ⟨_, cap, fun j => xs.getD (j * 2 + 1) undef, rfl, hn, .inr ⟨gb, 0, rfl, ⟨hb, (Array.getElem?_eq_some_iff.1 hg).1⟩, fun i hi => ⟨?_, ?_⟩⟩, fun i hi => (hX i hi).2⟩
    · rw [Nat.zero_add, hown.cellAt _ (by omega), ← (hX i hi).1]
      simp [List.getD_eq_getElem?_getD, show i * 2 < xs.length by omega]
    · rw [Nat.zero_add, hown.cellAt _ (by omega)]
      simp [List.getD_eq_getElem?_getD, show i * 2 + 1 < xs.length by omega]

theorem rise_cells {w : World} {N : Nat} {vo : Value} {n : Nat} {ks : List ByteArray} {xs : List Value} (hown : w.ownsRow N 72 2 vo n xs)
    (hX : ∀ j, j < n → xs.getD (j * 2) undef = .string (ks.getD j ⟨#[]⟩)) : ∃ a cap, vo = .slice a n cap ∧ n ≤ cap ∧ (n = 0 ∨ ∃ b off, a = some ⟨b, off, none⟩ ∧ ∀ i, i < n → w.cell? ⟨b, off + i * 2, none⟩ = some (.string (ks.getD i ⟨#[]⟩))) := by
  have hlen := hown.1
  rcases hown.2 with ⟨rfl, h0⟩ | ⟨gb, cap, cur, rfl, hb, hg, hn, hcap, hsz, htake⟩
  · subst h0
    exact ⟨none, 0, rfl, Nat.le_refl _, .inl rfl⟩
  · refine ⟨_, cap, rfl, hn, .inr ⟨gb, 0, rfl, fun i hi => ?_⟩⟩
    rw [Nat.zero_add, hown.cellAt _ (by omega), ← hX i hi]
    simp [List.getD_eq_getElem?_getD, show i * 2 < xs.length by omega]

theorem two_cells' (w : World) (a b : Value) (t : TypeId) : ∀ j u, ([a, b] : List Value)[j]? = some u → (w.alloc (.cells #[a, b] t)).cell? ((⟨w.heap.size, 0, none⟩ : Addr).add j) = some u := by
  intro j u hu
  have hadd : (⟨w.heap.size, 0, none⟩ : Addr).add j = ⟨w.heap.size, j, none⟩ := by unfold Addr.add; split <;> simp_all
  rw [hadd, blk_cell (heap_new w _) j]
  simpa using hu

set_option maxHeartbeats 4000000 in
set_option maxRecDepth 100000 in
theorem fields_step (k n : Int) (s : ByteArray) (l : List Tree) (ks : List ByteArray) (ih : ∀ U ∈ l, ValueC U) : FieldsC k n s l ks := by
  intro S v w d g c hv hB hct h0 h1 hd1 hd6 hw hkb
  obtain ⟨cv, u, rfl, hs, hk, hl, hu⟩ := hv.out
  clear hv
  obtain ⟨a, cap, rfl, hlm, hcp, ha⟩ := hl.at
  have hur := (hu.reads fun b h => (hB b h).1)
  obtain ⟨a', cap', rfl, hcp', hc'⟩ := reads_strs hur
  have hn := length_le_wtL l
  unfold maxLen at hlm
  have hgN := hct.lt
  have hkn : ks.length ≤ 1048576 := by unfold bulkS at hkb; omega
  by_cases hle : (ks.length : Int) = (l.length : Int)
  case neg =>
    have hf : fieldsB l ks d c = false := by
      have : (ks.length == l.length) = false := by simp; omega
      unfold fieldsB
      rw [this]; rfl
    have hle' : ¬ ks.length = l.length := by omega
    have HF : Hid (fieldsB l ks d c = false) := hf
    clear hf hc' ha
    go_enter Tryd.func35, Tryd.ntmps35
    go_wp2_with fail
    go_ret2
    exact ⟨_, c, by rw [HF.out]; rfl, hct.alloc _, galloc _ _ _, fun h => by rw [HF.out] at h; cases h⟩
  have hlen' : ks.length = l.length := by omega
  have HLn : Hid (ks.length = l.length) := hlen'
  rw [hlen']
  rw [hlen'] at hcp'
  have hk2 := hk.2
  have hsz20 : ∀ (q : Nat) (h : q < l.length), (ks.getD q ⟨#[]⟩).size ≤ 1048576 := fun q h => by
    have e : ks.getD q ⟨#[]⟩ = ks[q]'(by omega) := by simp [List.getD_eq_getElem?_getD, show q < ks.length by omega]
    rw [e]
    exact Nat.le_trans (size_le_bulk (List.getElem_mem _)) hkb
  have hkc : l = [] ∨ ∃ b off, a' = some ⟨b, off, none⟩ ∧ S b ∧ ∀ q, q < l.length → w.cell? ⟨b, off + q, none⟩ = some (.string (ks.getD q ⟨#[]⟩)) := by
    obtain ⟨a9, cap9, hv9, _, hx9⟩ := hu
    simp only [Value.slice.injEq] at hv9
    obtain ⟨rfl, _, _⟩ := hv9
    rcases hx9 with hx9 | ⟨b, off, ha9, hSb, hx9⟩
    · left
      have h1 : (strsV ks).length = 0 := by rw [hx9]; rfl
      rw [length_strsV] at h1
      exact List.eq_nil_of_length_eq_zero (by omega)
    · right
      refine ⟨b, off, ha9, hSb, fun q hq => ?_⟩
      rw [hx9 q (by simp; omega)]
      simp [strsV, List.getD_eq_getElem?_getD, show q < ks.length by omega]
  have hBx : ∀ b, S b → b < w.heap.size ∧ b ≠ g := hB
  clear hle hlen' hc' hur hu hk hk2
  obtain ⟨i0, hi, hz0, hz1, hz2⟩ := info_parts infoKv
  go_enter Tryd.func35, Tryd.ntmps35
  go_wp2_with fail
  obtain ⟨W, hW⟩ : ∃ W, W = w.alloc (.cells #[.int .i64 k, .int .i64 n, .string s, .slice a l.length cap, .slice a' l.length cap'] 30) := ⟨_, rfl⟩
  obtain ⟨_, _, _, x3, _⟩ := box5 (w := w) (t := 30) (c0 := .int .i64 k) (c1 := .int .i64 n) (c2 := .string s) (c3 := .slice a l.length cap) (c4 := .slice a' l.length cap') (w1 := W) (by rw [hW]; exact Below.refl _ _)
  have hsW : W.heap.size ≤ w.heap.size + 1 := by rw [hW]; simp
  have hsW2 : w.heap.size + 1 ≤ W.heap.size := by rw [hW]; simp
  have hgW : ∀ r, w.grownBy W r := fun r => by rw [hW]; exact galloc _ _ _
  have hctW : CtrAt W g c := by rw [hW]; exact hct.alloc _
  rw [← hW]
  clear hW hct
  go_loopw [8, 23] (fun v8 vi wr => ∃ (vo : Value) (i : Nat) (xs : List Value) (c' : Int), vo = v8 ∧ i ≤ l.length ∧ vi = .int .i64 (i : Int) ∧ wr.ownsRow W.heap.size 72 2 vo i xs ∧ CtrAt wr g c' ∧ W.grownBy wr (some g) ∧ 0 ≤ c' ∧ c' ≤ 80 ∧ Hid (goodL (l.take i) (d + 1) = true ∧ textsUpto ks i = true ∧ c' = c + (nodesL (l.take i) : Int) ∧ ∀ j (h : j < l.length), j < i → xs.getD (j * 2) undef = .string (ks.getD j ⟨#[]⟩) ∧ XLies (Off W.heap.size wr.heap.size vo.ownBlock) wr (xs.getD (j * 2 + 1) undef) l[j])) (fun _ vi _ => l.length - (intOf vi).toNat)
  case atStart => exact ⟨_, 0, [], c, rfl, Nat.zero_le _, rfl, World.ownsRow_nil _ _ _ _, hctW, ⟨rfl, rfl, rfl, Nat.le_refl _, fun _ _ _ => rfl⟩, h0, h1, ⟨by simp [goodL], rfl, by simp [nodesL], fun j h hj => by omega⟩⟩
  case round =>
    obtain ⟨vo, i, xs, c', rfl, hil, rfl, hown, hcr, hgr, hc0, hc1, hh⟩ := hrel
    have x3' : wr.cell? ⟨w.heap.size, 3, none⟩ = some (.slice a l.length cap) := (World.cell?_of_block (w := W) (hgr.block w.heap.size (by omega) (fun e => by simp at e; omega))).trans x3
    by_cases hlt : i < l.length
    · rcases ha with rfl | ⟨b, off, rfl, hlb, ha⟩
      · simp at hlt
      rcases hkc with rfl | ⟨kb, koff, rfl, hkS, hkc⟩
      · simp at hlt
      obtain ⟨y0, y1, y2, y3, y4, e0, e1, e2, e3, e4, hT⟩ := ha i hlt
      have hcellS : ∀ b, S b → wr.heap[b]? = w.heap[b]? := fun b hb => by
        rw [hgr.block b (by have := (hB b hb).1; omega) (fun e => (hB b hb).2 (by simpa using e)), (hgW none).block b (hB b hb).1 (by simp)]
      have hcell : ∀ b o, S b → wr.cell? ⟨b, o, none⟩ = w.cell? ⟨b, o, none⟩ := fun b o hb => World.cell?_of_block (w := w) (hcellS b hb)
      rw [← hcell _ _ hlb] at e0 e1 e2 e3 e4
      have ek := hkc i hlt
      rw [← hcell _ _ hkS] at ek
      have hkz := hsz20 i hlt
      have htx : textsUpto ks (i + 1) = (textsUpto ks i && textB (ks.getD i ⟨#[]⟩)) := by rw [textsUpto]
      obtain ⟨key, hkey⟩ : ∃ key, key = ks.getD i ⟨#[]⟩ := ⟨_, rfl⟩
      rw [← hkey] at ek hkz htx
      have ihk := ih _ (List.getElem_mem hlt)
      have hwt : (l[i]).wt ≤ 1048576 := by have := wt_le_wtL (List.getElem_mem hlt); omega
      have hn1 := nodesL_take_succ l i hlt
      have hg1 := goodL_take_succ l i (d + 1) hlt
      obtain ⟨U, hU⟩ : ∃ U, U = l[i] := ⟨_, rfl⟩
      rw [← hU] at hT ihk hn1 hg1 hwt
      have HN : Hid (nodesL (l.take (i + 1)) = nodesL (l.take i) + U.nodes ∧ goodL (l.take (i + 1)) (d + 1) = (goodL (l.take i) (d + 1) && U.good (d + 1)) ∧ U = l[i] ∧ key = ks.getD i ⟨#[]⟩ ∧ textsUpto ks (i + 1) = (textsUpto ks i && textB key)) := ⟨hn1, hg1, hU, hkey, htx⟩
      have hki : (i : Int) < (l.length : Int) := by omega
      obtain ⟨p1, p2, p3, p4, p5, p6, p7, p8, p9, hag⟩ := hT.parts
      have hag' := congrArg (fun v => v.cells.toList) hag
      simp [Value.cells] at hag'
      obtain ⟨rfl, rfl, rfl, rfl, rfl⟩ := hag'
      clear hag
      have hT' : Lies S wr _ U := hT.keep hcellS
      have hBr : ∀ b, S b → b < wr.heap.size ∧ b ≠ g := fun b h => ⟨by have := (hB b h).1; have := hgr.size; omega, (hB b h).2⟩
      have hcall := ihk S _ wr (d + 1) g c' hT' hBr hcr hc0 hc1 (by omega) (by omega) hwt
      rw [show (((d + 1 : Nat)) : Int) = (d : Int) + 1 by omega] at hcall
      obtain ⟨ok, hok⟩ : ∃ ok, ok = (U.good (d + 1) && decide (c' + (U.nodes : Int) ≤ 80)) := ⟨_, rfl⟩
      rw [← hok] at hcall
      have HOK : Hid (ok = (U.good (d + 1) && decide (c' + (U.nodes : Int) ≤ 80))) := hok
      have hle1 := nodesL_take_le l (i + 1)
      have hgt := fun h => goodL_take l (i + 1) (d + 1) h
      have HL : Hid (nodesL (l.take (i + 1)) ≤ nodesL l ∧ (goodL l (d + 1) = true → goodL (l.take (i + 1)) (d + 1) = true)) := ⟨hle1, hgt⟩
      have HTx : Hid (∀ w, Calls Tryd.prog 33 #[.string key] w fun e w' => e = .returned (.bool (textB key)) ∧ w = w') := fun w => implText_c key (by unfold maxLen; omega) w
      clear hle1 hgt ha ih hT hT' hn1 hg1 ihk hok hcell hcellS hkc hkey htx hsz20
      cases ok with
      | false =>
        go_wp2_with (go_at_call 22; refine hcall.mono ?_; rintro e w2 ⟨x, c1, rfl, ct2, g2, _⟩)
        go_ret2
        have hf : fieldsB l ks d c = false := by
          obtain ⟨hn1, hg1, _⟩ := HN.out
          obtain ⟨hl1, hl2⟩ := HL.out
          obtain ⟨q1, _, q2, _⟩ := hh.out
          have hk := HOK.out
          unfold fieldsB
          cases hgl : goodL l (d + 1) with
          | false => simp
          | true =>
            have := hl2 hgl
            rw [hg1] at this
            simp at this
            rw [this.2] at hk
            simp at hk ⊢
            intros
            omega
        exact ⟨_, c1, by rw [hf]; rfl, ct2, gtrans (hgW _) (gtrans hgr g2), fun h => by rw [hf] at h; cases h⟩
      | true =>
        have hk' : U.good (d + 1) = true ∧ c' + (U.nodes : Int) ≤ 80 := by
          have := HOK.out.symm
          simp at this
          exact this
        have HK : Hid (U.good (d + 1) = true ∧ c' + (U.nodes : Int) ≤ 80) := hk'
        clear hk' HOK
        cases htk : textB key with
        | false =>
          rw [htk] at HTx
          go_wp2_with (first
            | (go_at_call 22; refine hcall.mono ?_; rintro e w2 ⟨x, c1, rfl, ct2, g2, hx⟩)
            | (go_at_call 33; refine (HTx.out _).mono ?_; rintro e w' ⟨rfl, rfl⟩))
          go_ret2
          have hf : fieldsB l ks d c = false := by
            obtain ⟨hn1, hg1, _, _, htx⟩ := HN.out
            rw [htk, Bool.and_false] at htx
            have := texts_bad ks i htx ks.length (by rw [HLn.out]; omega)
            unfold fieldsB
            rw [keys_split, this]
            simp
          exact ⟨_, c1, by rw [hf]; rfl, ct2, gtrans (hgW _) (gtrans hgr g2), fun h => by rw [hf] at h; cases h⟩
        | true =>
          rw [htk] at HTx
          have hvb := hown.lt
          have HV : Hid (∀ k, vo.ownBlock = some k → W.heap.size ≤ k ∧ k < wr.heap.size) := hvb
          clear hvb
          have hile : i ≤ 1048576 := by omega
          go_wp2_with (first
            | (go_at_call 22; refine hcall.mono ?_; rintro e w2 ⟨x, c1, rfl, ct2, g2, hx⟩; obtain ⟨hx1, hx2⟩ := hx HK.out.1 HK.out.2; obtain ⟨xt, xv, rfl⟩ := hx2.iface; have hown2 := hown.kept g2 (by cases hb : vo.ownBlock with | none => exact .inl rfl | some k => right; have := HV.out k hb; simp; omega))
            | (go_at_call 33; refine (HTx.out _).mono ?_; rintro e w' ⟨rfl, rfl⟩)
            | (go_at_call 32; refine (clone2_c key _ hkz).mono ?_; rintro e w4 ⟨rfl, b4⟩; have hown4 := hown2.kept (grown_of_below b4 none) (by cases hv : vo.ownBlock <;> simp))
            | (at_builtin; refine wpList_append_block _ rfl _ _ 63 rfl W.heap.size 72 i0 _ 2 32 Tryd.underlying63 hi hz0 hz1 hz2 rfl (by decide) _ i xs rfl (hown4.alloc _) ⟨w4.heap.size, 0, none⟩ 1 1 [.string key, .iface xt xv] rfl rfl (two_cells' _ _ _ _) (fun u hu => by simp at hu; rcases hu with rfl | rfl <;> rfl) (by unfold maxLen; omega) (by omega) (by have h1 := hgr.size; have h2 := g2.size; have h3 := b4.size; simp; omega) (by decide) ?_))
          intro v3 w3 o3 g3 hb3
          go_wp2_with fail
          go_roundw
          case rel =>
            obtain ⟨hn1, hg1, hUi, hkey, htx⟩ := HN.out
            obtain ⟨q1, q4, q2, q3⟩ := hh.out
            have hlen := hown.1
            have z2 := g2.size
            have z4 := b4.size
            have sB : (w4.alloc (Obj.cells #[.string key, .iface xt xv] 72)).heap.size = w4.heap.size + 1 := by simp
            have z3 := g3.size
            rw [sB] at z3
            have hb5 : v3.ownBlock = vo.ownBlock ∨ v3.ownBlock = some (w4.heap.size + 1) := by first | exact hb3 | (rw [sB] at hb3; exact hb3)
            have hgz := hgr.size
            have g0 : wr.grownBy (w4.alloc (Obj.cells #[.string key, .iface xt xv] 72)) (some g) := gtrans g2 (gtrans (grown_of_below b4 _) (galloc _ _ _))
            have hgv : some g ≠ vo.ownBlock := fun e => by have := HV.out g e.symm; omega
            refine ⟨v3, i + 1, xs ++ [.string key, .iface xt xv], c1, rfl, by omega, by go_num, o3, ((ct2.keep b4).alloc _).grown g3 hgv, ?_, by omega, by have := HK.out.2; omega, ⟨by rw [hg1, q1, HK.out.1]; rfl, by rw [htx, q4, htk]; rfl, by rw [hx1, hn1, q2]; omega, fun j h hj => ?_⟩⟩
            · refine ⟨g3.os.trans (g0.os.trans hgr.os), g3.tape.trans (g0.tape.trans hgr.tape), g3.output.trans (g0.output.trans hgr.output), by omega, fun k hk hne => ?_⟩
              rw [g3.block k (by rw [sB]; omega) (fun e => by have := HV.out k e.symm; omega), g0.block k (by omega) hne, hgr.block k hk hne]
            · have hoff : ∀ b, W.heap.size ≤ b → b < w4.heap.size → some b ≠ vo.ownBlock → Off W.heap.size w3.heap.size v3.ownBlock b := fun b h1 h2 h3 => ⟨h1, by omega, fun e => by
                rcases hb5 with hb | hb
                · exact h3 (e.trans hb)
                · rw [hb] at e; simp at e; omega⟩
              by_cases hji : j = i
              · subst hji
                have ex0 : (xs ++ [Value.string key, Value.iface xt xv]).getD (j * 2) undef = .string key := by
                  rw [List.getD_eq_getElem?_getD, List.getElem?_append_right (by omega), show j * 2 - xs.length = 0 by omega]; rfl
                have ex : (xs ++ [Value.string key, Value.iface xt xv]).getD (j * 2 + 1) undef = .iface xt xv := by
                  rw [List.getD_eq_getElem?_getD, List.getElem?_append_right (by omega), show j * 2 + 1 - xs.length = 1 by omega]; rfl
                rw [ex0, ex, ← hUi, ← hkey]
                refine ⟨rfl, ?_⟩
                have hne : ∀ b, Own wr.heap.size w2.heap.size b → some b ≠ vo.ownBlock := fun b hb e => by have := HV.out b e.symm; have := hb.1; omega
                refine (hx2.keep fun b hb => ?_).mono fun b hb => hoff b (by have := hb.1; omega) (by have := hb.2; omega) (hne b hb)
                rw [g3.block b (by rw [sB]; have := hb.2; omega) (hne b hb), heap_old _ _ (by have := hb.2; omega), b4.block b hb.2]
              · have ex0 : (xs ++ [Value.string key, Value.iface xt xv]).getD (j * 2) undef = xs.getD (j * 2) undef := by
                  rw [List.getD_eq_getElem?_getD, List.getElem?_append_left (by omega), ← List.getD_eq_getElem?_getD]
                have ex : (xs ++ [Value.string key, Value.iface xt xv]).getD (j * 2 + 1) undef = xs.getD (j * 2 + 1) undef := by
                  rw [List.getD_eq_getElem?_getD, List.getElem?_append_left (by omega), ← List.getD_eq_getElem?_getD]
                rw [ex0, ex]
                refine ⟨(q3 j h (by omega)).1, ?_⟩
                refine ((q3 j h (by omega)).2.keep fun b hb => ?_).mono fun b hb => hoff b hb.1 (by have := hb.2.1; omega) hb.2.2
                rw [g3.block b (by rw [sB]; have := hb.2.1; omega) hb.2.2, g0.block b hb.2.1 (fun e => by simp at e; have := hb.1; omega)]
          case measure => simp [intOf]; omega
    · have he : i = l.length := by omega
      subst he
      obtain ⟨q1, q4, q2, q3⟩ := hh.out
      rw [List.take_length] at q1 q2
      obtain ⟨av, capv, rfl, hcv, hav⟩ := rise_cells hown fun j hj => (q3 j hj hj).1
      have hR : ∀ w5, Below wr.heap.size wr w5 → Calls Tryd.prog 42 #[.slice av l.length capv] wr fun e w' => e = .returned (.bool (riseUpto ks l.length)) ∧ Below wr.heap.size wr w' := fun _ _ => rising_c av l.length capv ks wr (by omega) hcv hav
      have HR : Hid (Calls Tryd.prog 42 #[.slice av l.length capv] wr fun e w' => e = .returned (.bool (riseUpto ks l.length)) ∧ Below wr.heap.size wr w') := hR wr (Below.refl _ _)
      have hf : fieldsB l ks d c = riseUpto ks l.length := by
        unfold fieldsB
        rw [q1, keys_split, HLn.out, q4]
        simp
        omega
      have HF : Hid (fieldsB l ks d c = riseUpto ks l.length) := hf
      have HQ : Hid (c' = c + (nodesL l : Int) ∧ XMap (Own W.heap.size wr.heap.size) wr (.iface 63 (.slice av l.length capv)) l ks) := ⟨q2, xmap_of hown fun j h => ⟨(q3 j h h).1, (q3 j h h).2.mono fun b hb => ⟨hb.1, hb.2.1⟩⟩⟩
      clear ha hkc hR hf q1 q2 q3 q4 hav hh
      go_wp2_with (go_at_call 42; refine HR.out.mono ?_; rintro e w5 ⟨rfl, b5⟩)
      go_ret2
      refine ⟨_, c', by rw [HF.out]; rfl, hcr.keep b5, gtrans (hgW _) (gtrans hgr (grown_of_below b5 _)), fun _ => ⟨HQ.out.1, ?_⟩⟩
      have hm := HQ.out.2
      obtain ⟨a9, cap9, X9, e9, h9, ha9, hX9⟩ := hm
      have hkp : KeptIn (Own W.heap.size wr.heap.size) wr w5 := Own.below b5
      have hmo : ∀ b, Own W.heap.size wr.heap.size b → Own w.heap.size w5.heap.size b := Own.mono (by omega) b5.size
      refine ⟨a9, cap9, X9, e9, h9, ?_, fun i h => ((hX9 i h).keep hkp).mono hmo⟩
      rcases ha9 with ha9 | ⟨b, off, ha9, hSb, hcc⟩
      · exact .inl ha9
      · exact .inr ⟨b, off, ha9, hmo b hSb, fun i h => ⟨(hkp.cell hSb _).trans (hcc i h).1, (hkp.cell hSb _).trans (hcc i h).2⟩⟩
end Go.Proofs.YtbolphjigjpmiaaDoor
