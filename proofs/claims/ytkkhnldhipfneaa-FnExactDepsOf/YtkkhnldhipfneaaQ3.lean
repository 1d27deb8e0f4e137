/-
  Contracts for the walks, several texts in one: each part says what it proves, and under which conditions.
-/
import Derived.Maps.OwnOps
import Derived.Deep.DeepCutAuto
import Derived.Test.YtkkhnldhipfneaaQ2
import Derived.Test.YtkkhnldhipfneaaQ1

/-! A name is numbered, as the program does it: a contract for the walks; conditions: the graph lies in memory, its names are fewer than 2 to the 22. -/
namespace Go.Proofs.Ytkkhnldhipfneaa
open Go.RowKit Go.Maps
set_option linter.unusedSimpArgs false
set_option linter.unusedVariables false

/-- No place is left out. -/
def noX (_ : Nat) : Prop := False
/-- The graph behind a pointer. -/
def GrM (lo : Nat) (w : World) (p own : Nat) (g : GD) : Prop := ∃ mb vn vu vb us bs, w.heap[p]? = some (.cells #[.map (some mb), vn, .int .i64 (own : Int), vu, vb] 63 (0, 0)) ∧ lo ≤ p ∧ GrC lo w mb vn vu vb us bs g.N g.N g.U g.B noX noX
theorem GrC.put {lo mb : Nat} {w w' : World} {vn vu vb : Value} {us bs : List Value} {M N : List ByteArray} {U B : List (List Nat)} {xa xb : Nat → Prop} {s : ByteArray} (h : GrC lo w mb vn vu vb us bs M N U B xa xb) {n : Nat} (hm : MapI w' mb (M.length + 1) n (fun q => if q = s then some (.int .i64 (M.length : Int)) else mOf M q)) (hs : s ∉ M) (gr : w.grownBy w' (some mb)) : GrC lo w' mb vn vu vb us bs (M ++ [s]) N U B xa xb := by
  have hr : ∀ {lo' sz n : Nat} {e : TypeId} {v : Value} {xs : List Value}, w.ownsRow lo' e sz v n xs → v.ownBlock = none ∨ v.ownBlock ≠ some mb := fun hv => .inr (h.ne_map hv)
  refine ⟨⟨n, ?_⟩, h.mlo, h.names.kept gr (hr h.names), h.ru.kept gr (hr h.ru), h.rb.kept gr (hr h.rb), fun i u hx hi => (h.eu i u hx hi).kept gr (hr (h.eu i u hx hi)), fun i u hx hi => (h.eb i u hx hi).kept gr (hr (h.eb i u hx hi)), h.vv, h.ap, fun i g u hu hb => Nat.lt_of_lt_of_le (h.ltu i g u hu hb) gr.size, fun i g u hu hb => Nat.lt_of_lt_of_le (h.ltb i g u hu hb) gr.size⟩
  rw [List.length_append, List.length_singleton]
  refine hm.same fun q => ?_
  unfold mOf
  by_cases e : q = s
  · subst e
    rw [if_pos rfl, if_pos (by simp)]
    have h1 := posN_not hs
    have h2 : posN (M ++ [q]) q = M.length := by
      unfold posN at *
      rw [List.findIdx_append, h1]
      simp
    rw [h2]
  · rw [if_neg e]
    by_cases hq : q ∈ M
    · rw [if_pos hq, if_pos (by simp [hq]), posN_app hq]
    · rw [if_neg hq, if_neg (by simp [hq, e])]
theorem mOf_some {N : List ByteArray} {s : ByteArray} (h : s ∈ N) : mOf N s = some (.int .i64 (posN N s : Int)) := by unfold mOf; rw [if_pos h]
theorem mOf_none {N : List ByteArray} {s : ByteArray} (h : s ∉ N) : mOf N s = none := by unfold mOf; rw [if_neg h]

set_option maxHeartbeats 16000000 in
set_option maxRecDepth 100000 in
theorem numberOf_c (lo p own : Nat) (g : GD) (s : ByteArray) (w : World) (h : GrM lo w p own g) (hok : g.ok) (hs : s.size ≤ maxLen) (hN : g.N.length ≤ 4194304) :
    Calls Try.prog 73 #[.pointer (some ⟨p, 0, none⟩), .string s] w fun e w' => e = .returned (.int .i64 (posN (g.add s).N s : Int)) ∧ GrM lo w' p own (g.add s) ∧ Below lo w w' := by
  obtain ⟨iS, hiS, hzS0, hzS1, hzS2⟩ := info_parts infoS
  obtain ⟨iI, hiI, hzI0, hzI1, hzI2⟩ := info_parts infoIs
  obtain ⟨mb, vn, vu, vb, us, bs, hbox, hp, C⟩ := h
  obtain ⟨ms, hmap⟩ := C.map
  have hpw : p < w.heap.size := (Array.getElem?_eq_some_iff.1 hbox).1
  have c0 : w.cell? ⟨p, 0, none⟩ = some (.map (some mb)) := vblk_cell hbox 0
  have c1 : w.cell? ⟨p, 1, none⟩ = some vn := vblk_cell hbox 1
  have c3 : w.cell? ⟨p, 3, none⟩ = some vu := vblk_cell hbox 3
  have c4 : w.cell? ⟨p, 4, none⟩ = some vb := vblk_cell hbox 4
  obtain ⟨qn, xn, en⟩ := owns_slG C.names
  obtain ⟨qu, xu, eu⟩ := owns_slG C.ru
  obtain ⟨qb, xb, eb⟩ := owns_slG C.rb
  by_cases hin : s ∈ g.N
  · have HR : Hid (Value.tuple #[(mOf g.N s).getD (.int .i64 0), .bool (mOf g.N s).isSome] = .tuple #[.int .i64 (posN g.N s : Int), .bool true]) := by show _ = _; rw [mOf_some hin]; rfl
    have HA : Hid (g.add s = g) := GD.add_id hin
    have HG : Hid (GrM lo w p own g) := ⟨mb, vn, vu, vb, us, bs, hbox, hp, C⟩
    obtain ⟨r, hr⟩ : ∃ r : Int, r = (posN g.N s : Int) := ⟨_, rfl⟩
    rw [HA.out, ← hr]
    rw [← hr] at HR
    clear hr C c1 c3 c4 hbox en eu eb HA
    go_enter Try.func73, Try.ntmps73
    go_wp2_with (at_lookup; refine wpList_lookup_I _ rfl _ _ rfl mb g.N.length ms _ rfl hmap s rfl hs _ HR.out ?_)
    go_wp2_with fail
    go_ret
    exact ⟨rfl, HG.out, Below.refl _ _⟩
  have HR : Hid (Value.tuple #[(mOf g.N s).getD (.int .i64 0), .bool (mOf g.N s).isSome] = .tuple #[.int .i64 0, .bool false]) := by show _ = _; rw [mOf_none hin]; rfl
  have HA : Hid (g.add s = ⟨g.N ++ [s], g.U ++ [[]], g.B ++ [[]]⟩) := by show _ = _; unfold GD.add; rw [if_neg hin]
  have HP : Hid (posN (g.N ++ [s]) s = g.N.length) := by
    show _ = _
    have h1 := posN_not hin
    unfold posN at *
    rw [List.findIdx_append, h1]
    simp
  rw [HA.out]
  show Calls _ _ _ _ fun e w' => e = .returned (.int .i64 (posN (g.N ++ [s]) s : Int)) ∧ _
  rw [HP.out]
  subst en eu eb
  have HC := hidden C
  have hU : g.U.length ≤ 4194304 := by have := hok.u; omega
  have hB : g.B.length ≤ 4194304 := by have := hok.b; omega
  obtain ⟨n0, hn0⟩ : ∃ n, n = g.N.length := ⟨_, rfl⟩
  have hn0' : n0 < maxLen := by unfold maxLen; omega
  have HB0 := hidden hbox
  have hml := C.mlo
  clear C hbox HA HP
  have hvn : Hid (g.N.length = n0) := hn0.symm
  rw [← hn0] at c1 hmap HB0 ⊢
  have hnB : n0 ≤ 4194304 := by omega
  clear hn0 hN
  go_enter Try.func73, Try.ntmps73
  go_wp2_with (first | (at_lookup; refine wpList_lookup_I _ rfl _ _ rfl mb n0 ms _ rfl hmap s rfl hs _ HR.out ?_) | (at_mapUpdate; refine wpList_mapUpdate_I _ rfl _ _ _ rfl mb n0 ms _ rfl hmap hn0' s rfl hs (.int .i64 (n0 : Int)) rfl ?_; intro w1 hm1 g1; go_frame))
  have hb1 : Below lo w w1 := ⟨g1.os, g1.tape, g1.output, g1.size, fun k hk => g1.block k (by omega) (fun e => by have := Option.some.inj e; omega)⟩
  have C1' : GrC lo w1 mb (.slice qn g.N.length xn) (.slice qu g.U.length xu) (.slice qb g.B.length xb) us bs (g.N ++ [s]) g.N g.U g.B noX noX := HC.out.put (n := _) (by rw [hvn.out]; exact hm1) hin g1
  rw [hvn.out] at C1'
  have hx1 : w1.heap[p]? = some (.cells #[.map (some mb), .slice qn n0 xn, .int .i64 (own : Int), .slice qu g.U.length xu, .slice qb g.B.length xb] 63 (0, 0)) := by
    rw [g1.block p hpw (fun e => by
      obtain rfl : p = mb := Option.some.inj e
      obtain ⟨es, c, hh⟩ := hmap.heap
      exact block_ne HB0.out hh)]
    exact HB0.out
  clear HC HB0 c0 c1 c3 c4 hmap HR hm1
  have HC1 := hidden C1'
  have HX1 := hidden hx1
  have HB1 := hidden hb1
  clear C1' hx1 hb1 g1
  go_cut [5] (fun v5 wc => v5 = .int .i64 (n0 : Int) ∧ Hid (GrM lo wc p own ⟨g.N ++ [s], g.U ++ [[]], g.B ++ [[]]⟩) ∧ Hid (Below lo w wc))
  case rest =>
    obtain ⟨rfl, HG, HB⟩ := hcut
    go_wp2_with fail
    go_ret
    exact ⟨rfl, HG.out, HB.out⟩
  case first =>
    have HK : Hid (∀ W : World, W.heap[p]? = some (.cells #[.map (some mb), .slice qn n0 xn, .int .i64 (own : Int), .slice qu g.U.length xu, .slice qb g.B.length xb] 63 (0, 0)) → (fun W => W.cell? ⟨p, 1, none⟩ = some (.slice qn n0 xn) ∧ W.cell? ⟨p, 3, none⟩ = some (.slice qu g.U.length xu) ∧ W.cell? ⟨p, 4, none⟩ = some (.slice qb g.B.length xb)) W) := fun W hW => ⟨vblk_cell hW 1, vblk_cell hW 3, vblk_cell hW 4⟩
    refine till_region (fun W => W.cell? ⟨p, 1, none⟩ = some (.slice qn n0 xn) ∧ W.cell? ⟨p, 3, none⟩ = some (.slice qu g.U.length xu) ∧ W.cell? ⟨p, 4, none⟩ = some (.slice qb g.B.length xb)) 24 (by kernel_rfl) (HK.out _ HX1.out) (fun hHeld => ?_)
    have D0 : GrC lo w1.drew mb (.slice qn n0 xn) (.slice qu g.U.length xu) (.slice qb g.B.length xb) us bs (g.N ++ [s]) g.N g.U g.B noX noX := HC1.out.new (r := none) (grown_of_below (Below.refl _ _).drew none) (fun q e => by cases e)
    have X0 : w1.drew.heap[p]? = some (.cells #[.map (some mb), .slice qn n0 xn, .int .i64 (own : Int), .slice qu g.U.length xu, .slice qb g.B.length xb] 63 (0, 0)) := HX1.out
    have B0 : Below lo w w1.drew := HB1.out.drew
    generalize w1.drew = w2 at hHeld D0 X0 B0 ⊢
    clear HC1 HX1 HB1
    refine till_at (k' := 31) (l' := #[false, false, false, false, false, false, false, false, false, false, false, false, false, false, false, false, false, false, false, false, false, false, false, false, false, false, false, false, false, false, false]) ?_ (by kernel_rfl) (by kernel_rfl)
    refine tv 0 hHeld (h := ?_)
    refine tv 1 hHeld (h := ?_)
    refine tv 2 hHeld (h := ?_)
    refine tv 3 hHeld (h := ?_)
    refine tv 4 hHeld (h := ?_)
    refine tv 5 hHeld (h := ?_)
    refine tu 6 hHeld (h := ?_)
    refine tv 7 hHeld (h := ?_)
    refine tv 10 hHeld (h := ?_)
    refine tv 11 hHeld (h := ?_)
    refine tv 12 hHeld (h := ?_)
    refine tu 13 hHeld (h := ?_)
    refine tv 16 hHeld (h := ?_)
    refine tv 17 hHeld (h := ?_)
    refine tv 18 hHeld (h := ?_)
    refine tu 19 hHeld (h := ?_)
    clear hHeld
    refine till_phi (fun Φ hΦ => ?_)
    have N1113 : Hid (∀ (W : World) (v9 : Value) (v15 : Value) (v21 : Value) (C : GrC lo W mb (v9) (v15) (v21) (us ++ [.slice none 0 0]) (bs ++ [.slice none 0 0]) (g.N ++ [s]) (g.N ++ [s]) (g.U ++ [[]]) (g.B ++ [[]]) noX noX) (X : W.heap[p]? = some (.cells #[.map (some mb), .slice qn n0 xn, .int .i64 (own : Int), .slice qu g.U.length xu, .slice qb g.B.length xb] 63 (0, 0))) (Bw : Below lo w W) (q8 : Nat) (q14 : Nat) (q20 : Nat), Φ 9 #[true, true, true, true, true, true, true, true, true, true, true, true, true, true, true, true, true, true, true, true, true, true, false, false, false, false, false, false, false, false, false] { tmps := #[.pointer (some ⟨p, 0, none⟩), .string s, undef, undef, .int .i64 0, .int .i64 (n0 : Int), .bool false, .tuple #[.int .i64 0, .bool false], .pointer (some ⟨p, 0, none⟩), .pointer (some ⟨p, 0, none⟩), .pointer (some ⟨p, 0, none⟩), .map (some mb), .string s, .tuple #[.int .i64 0, .bool false], .int .i64 0, .bool false, .bool false, .bool true, .pointer (some ⟨p, 0, none⟩), .pointer (some ⟨p, 0, none⟩), .pointer (some ⟨p, 1, none⟩), .slice qn n0 xn, .int .i64 (n0 : Int), .pointer (some ⟨p, 0, none⟩), .pointer (some ⟨p, 0, none⟩), .pointer (some ⟨p, 0, none⟩), .map (some mb), .string s, .int .i64 (n0 : Int), .pointer (some ⟨p, 0, none⟩), .pointer (some ⟨p, 0, none⟩), .pointer (some ⟨p, 0, none⟩), .pointer (some ⟨p, 0, none⟩), .pointer (some ⟨p, 0, none⟩), .pointer (some ⟨p, 1, none⟩), .slice qn n0 xn, .string s, .slice (some ⟨q8, 0, none⟩) 1 1, v9, .pointer (some ⟨p, 0, none⟩), .pointer (some ⟨p, 0, none⟩), .pointer (some ⟨p, 3, none⟩), .slice qu g.U.length xu, .slice (some ⟨q14, 0, none⟩) 1 1, v15, .pointer (some ⟨p, 0, none⟩), .pointer (some ⟨p, 0, none⟩), .pointer (some ⟨p, 4, none⟩), .slice qb g.B.length xb, .slice (some ⟨q20, 0, none⟩) 1 1, v21, undef, undef, undef, undef, undef, undef, undef], defers := [] } W) := by
      intro W v9 v15 v21 C X Bw q8 q14 q20
      rw [hΦ]
      have hpW : p < W.heap.size := (Array.getElem?_eq_some_iff.1 X).1
      have hloW : lo ≤ W.heap.size := by omega
      obtain ⟨y9, m9, x9, ev9⟩ : ∃ q m c, v9 = .slice q m c := by obtain ⟨q, c, e⟩ := owns_slG C.names; exact ⟨q, _, c, e⟩
      obtain ⟨y15, m15, x15, ev15⟩ : ∃ q m c, v15 = .slice q m c := by obtain ⟨q, c, e⟩ := owns_slG C.ru; exact ⟨q, _, c, e⟩
      obtain ⟨y21, m21, x21, ev21⟩ : ∃ q m c, v21 = .slice q m c := by obtain ⟨q, c, e⟩ := owns_slG C.rb; exact ⟨q, _, c, e⟩
      subst ev9 ev15 ev21
      refine till_ready (rs := [22]) (by kernel_rfl) (by simp) ?_
      refine AllTill.cons rfl rfl (fun K hK => ?_) AllTill.nil
      go_simp
      refine hK.out _ _ (fun _ => HK.out _ X) ?_
      clear hK K
      refine till_ready (rs := [23]) (by kernel_rfl) (by simp) ?_
      refine AllTill.cons rfl rfl (fun K hK => ?_) AllTill.nil
      go_simp
      refine hK.out _ _ (fun _ => HK.out _ X) ?_
      clear hK K
      refine till_ready (rs := [24]) (by kernel_rfl) (by simp) ?_
      refine AllTill.cons rfl rfl (fun K hK => ?_) AllTill.nil
      have x24 := vblk_cell X 1
      have f24 := vblk_frozen X 1
      simp only [List.getElem?_toArray, List.getElem?_cons_succ, List.getElem?_cons_zero] at x24
      go_simp
      have X24 : (W.setCell ⟨p, 1, none⟩ (.slice y9 m9 x9)).heap[p]? = some (.cells #[.map (some mb), (.slice y9 m9 x9), .int .i64 (own : Int), .slice qu g.U.length xu, .slice qb g.B.length xb] 63 (0, 0)) := heap_setCell_same W p 1 _ _ (.slice y9 m9 x9) X
      have C24 := C.other (grown_set W p 1 (.slice y9 m9 x9)) X ⟨by decide, by decide, by decide⟩
      have B24 : Below lo w (W.setCell ⟨p, 1, none⟩ (.slice y9 m9 x9)) := Below.setCell Bw hp _
      refine hK.out _ _ (fun h => nomatch (show true = false from h)) ?_
      generalize W.setCell ⟨p, 1, none⟩ (.slice y9 m9 x9) = V24 at X24 C24 B24 ⊢
      clear x24 f24 hK K
      refine till_ready (rs := [25]) (by kernel_rfl) (by simp) ?_
      refine AllTill.cons rfl rfl (fun K hK => ?_) AllTill.nil
      go_simp
      refine hK.out _ _ (fun h => nomatch (show true = false from h)) ?_
      clear hK K
      refine till_ready (rs := [26]) (by kernel_rfl) (by simp) ?_
      refine AllTill.cons rfl rfl (fun K hK => ?_) AllTill.nil
      go_simp
      refine hK.out _ _ (fun h => nomatch (show true = false from h)) ?_
      clear hK K
      refine till_ready (rs := [27]) (by kernel_rfl) (by simp) ?_
      refine AllTill.cons rfl rfl (fun K hK => ?_) AllTill.nil
      have x27 := vblk_cell X24 3
      have f27 := vblk_frozen X24 3
      simp only [List.getElem?_toArray, List.getElem?_cons_succ, List.getElem?_cons_zero] at x27
      go_simp
      have X27 : (V24.setCell ⟨p, 3, none⟩ (.slice y15 m15 x15)).heap[p]? = some (.cells #[.map (some mb), (.slice y9 m9 x9), .int .i64 (own : Int), (.slice y15 m15 x15), .slice qb g.B.length xb] 63 (0, 0)) := heap_setCell_same V24 p 3 _ _ (.slice y15 m15 x15) X24
      have C27 := C24.other (grown_set V24 p 3 (.slice y15 m15 x15)) X24 ⟨by decide, by decide, by decide⟩
      have B27 : Below lo w (V24.setCell ⟨p, 3, none⟩ (.slice y15 m15 x15)) := Below.setCell B24 hp _
      refine hK.out _ _ (fun h => nomatch (show true = false from h)) ?_
      generalize V24.setCell ⟨p, 3, none⟩ (.slice y15 m15 x15) = V27 at X27 C27 B27 ⊢
      clear x27 f27 hK K
      refine till_ready (rs := [28]) (by kernel_rfl) (by simp) ?_
      refine AllTill.cons rfl rfl (fun K hK => ?_) AllTill.nil
      go_simp
      refine hK.out _ _ (fun h => nomatch (show true = false from h)) ?_
      clear hK K
      refine till_ready (rs := [29]) (by kernel_rfl) (by simp) ?_
      refine AllTill.cons rfl rfl (fun K hK => ?_) AllTill.nil
      go_simp
      refine hK.out _ _ (fun h => nomatch (show true = false from h)) ?_
      clear hK K
      refine till_ready (rs := [30]) (by kernel_rfl) (by simp) ?_
      refine AllTill.cons rfl rfl (fun K hK => ?_) AllTill.nil
      have x30 := vblk_cell X27 4
      have f30 := vblk_frozen X27 4
      simp only [List.getElem?_toArray, List.getElem?_cons_succ, List.getElem?_cons_zero] at x30
      go_simp
      have X30 : (V27.setCell ⟨p, 4, none⟩ (.slice y21 m21 x21)).heap[p]? = some (.cells #[.map (some mb), (.slice y9 m9 x9), .int .i64 (own : Int), (.slice y15 m15 x15), (.slice y21 m21 x21)] 63 (0, 0)) := heap_setCell_same V27 p 4 _ _ (.slice y21 m21 x21) X27
      have C30 := C27.other (grown_set V27 p 4 (.slice y21 m21 x21)) X27 ⟨by decide, by decide, by decide⟩
      have B30 : Below lo w (V27.setCell ⟨p, 4, none⟩ (.slice y21 m21 x21)) := Below.setCell B27 hp _
      refine hK.out _ _ (fun h => nomatch (show true = false from h)) ?_
      generalize V27.setCell ⟨p, 4, none⟩ (.slice y21 m21 x21) = V30 at X30 C30 B30 ⊢
      clear x30 f30 hK K
      refine till_done (by kernel_rfl) ?_ _
      have HG : Hid (GrM lo V30 p own ⟨g.N ++ [s], g.U ++ [[]], g.B ++ [[]]⟩) := ⟨mb, _, _, _, us ++ [.slice none 0 0], bs ++ [.slice none 0 0], X30, hp, C30⟩
      have HB9 : Hid (Below lo w V30) := B30
      clear C X C24 X24 C27 X27 C30 X30 B30 B27 B24 Bw
      go_wp2_with fail
      go_meet
      case rel => exact ⟨rfl, HG, HB9⟩
    have N1112 : Hid (∀ (W : World) (v9 : Value) (v15 : Value) (C : GrC lo W mb (v9) (v15) (.slice qb g.B.length xb) (us ++ [.slice none 0 0]) bs (g.N ++ [s]) (g.N ++ [s]) (g.U ++ [[]]) g.B noX noX) (X : W.heap[p]? = some (.cells #[.map (some mb), .slice qn n0 xn, .int .i64 (own : Int), .slice qu g.U.length xu, .slice qb g.B.length xb] 63 (0, 0))) (Bw : Below lo w W) (q8 : Nat) (q14 : Nat) (q20 : Nat) (R20 : W.ownsRow lo 69 1 (.slice (some ⟨q20, 0, none⟩) 1 1) 1 [.slice none 0 0]), Φ 10 #[true, true, true, true, true, true, true, true, true, true, true, true, true, true, true, true, true, true, true, true, true, false, false, false, false, false, false, false, false, false, false] { tmps := #[.pointer (some ⟨p, 0, none⟩), .string s, undef, undef, .int .i64 0, .int .i64 (n0 : Int), .bool false, .tuple #[.int .i64 0, .bool false], .pointer (some ⟨p, 0, none⟩), .pointer (some ⟨p, 0, none⟩), .pointer (some ⟨p, 0, none⟩), .map (some mb), .string s, .tuple #[.int .i64 0, .bool false], .int .i64 0, .bool false, .bool false, .bool true, .pointer (some ⟨p, 0, none⟩), .pointer (some ⟨p, 0, none⟩), .pointer (some ⟨p, 1, none⟩), .slice qn n0 xn, .int .i64 (n0 : Int), .pointer (some ⟨p, 0, none⟩), .pointer (some ⟨p, 0, none⟩), .pointer (some ⟨p, 0, none⟩), .map (some mb), .string s, .int .i64 (n0 : Int), .pointer (some ⟨p, 0, none⟩), .pointer (some ⟨p, 0, none⟩), .pointer (some ⟨p, 0, none⟩), .pointer (some ⟨p, 0, none⟩), .pointer (some ⟨p, 0, none⟩), .pointer (some ⟨p, 1, none⟩), .slice qn n0 xn, .string s, .slice (some ⟨q8, 0, none⟩) 1 1, v9, .pointer (some ⟨p, 0, none⟩), .pointer (some ⟨p, 0, none⟩), .pointer (some ⟨p, 3, none⟩), .slice qu g.U.length xu, .slice (some ⟨q14, 0, none⟩) 1 1, v15, .pointer (some ⟨p, 0, none⟩), .pointer (some ⟨p, 0, none⟩), .pointer (some ⟨p, 4, none⟩), .slice qb g.B.length xb, .slice (some ⟨q20, 0, none⟩) 1 1, undef, undef, undef, undef, undef, undef, undef, undef], defers := [] } W) := by
      intro W v9 v15 C X Bw q8 q14 q20 R20
      rw [hΦ]
      have hpW : p < W.heap.size := (Array.getElem?_eq_some_iff.1 X).1
      have hloW : lo ≤ W.heap.size := by omega
      refine till_ready (rs := [21]) (by kernel_rfl) (by simp) ?_
      refine AllTill.cons rfl rfl (fun K hK => ?_) (AllTill.nil)
      rw [if_pos (by rfl)]
      refine wp_append_loc _ _ 61 rfl lo 69 iI (.slice none 0 0) 1 24 Try.underlying61 hiI hzI0 hzI1 hzI2 rfl (by decide) _ g.B.length bs rfl C.rb ⟨q20, 0, none⟩ 1 1 [.slice none 0 0] rfl rfl (R20.cells rfl) (fun u hu => by simp at hu; subst hu; rfl) (by unfold maxLen; omega) (by omega) hloW ?_
      intro v21 W9 o9 gr9 lc9
      have Cn := C.addB (fun h => h) o9 gr9 lc9
      have Bn : Below lo w W9 := Below.grown Bw gr9 hloW (fun j hj => (C.rb.lt j hj).1)
      have Xn : W9.heap[p]? = some (.cells #[.map (some mb), .slice qn n0 xn, .int .i64 (own : Int), .slice qu g.U.length xu, .slice qb g.B.length xb] 63 (0, 0)) := (gr9.block p hpW (fun e => by obtain ⟨cur, hc⟩ := row_block C.rb e.symm; rw [X] at hc; simp at hc)).trans X
      refine hK.out _ _ (fun _ => HK.out _ Xn) ?_
      have h := N1113.out W9 v9 v15 v21 Cn Xn Bn q8 q14 q20
      rw [hΦ] at h
      exact till_at h (by kernel_rfl) (by kernel_rfl)
    have N1102 : Hid (∀ (W : World) (v9 : Value) (v15 : Value) (C : GrC lo W mb (v9) (v15) (.slice qb g.B.length xb) (us ++ [.slice none 0 0]) bs (g.N ++ [s]) (g.N ++ [s]) (g.U ++ [[]]) g.B noX noX) (X : W.heap[p]? = some (.cells #[.map (some mb), .slice qn n0 xn, .int .i64 (own : Int), .slice qu g.U.length xu, .slice qb g.B.length xb] 63 (0, 0))) (Bw : Below lo w W) (q8 : Nat) (q14 : Nat), Φ 11 #[true, true, true, true, true, true, true, true, true, true, true, true, true, true, true, true, true, true, true, true, false, false, false, false, false, false, false, false, false, false, false] { tmps := #[.pointer (some ⟨p, 0, none⟩), .string s, undef, undef, .int .i64 0, .int .i64 (n0 : Int), .bool false, .tuple #[.int .i64 0, .bool false], .pointer (some ⟨p, 0, none⟩), .pointer (some ⟨p, 0, none⟩), .pointer (some ⟨p, 0, none⟩), .map (some mb), .string s, .tuple #[.int .i64 0, .bool false], .int .i64 0, .bool false, .bool false, .bool true, .pointer (some ⟨p, 0, none⟩), .pointer (some ⟨p, 0, none⟩), .pointer (some ⟨p, 1, none⟩), .slice qn n0 xn, .int .i64 (n0 : Int), .pointer (some ⟨p, 0, none⟩), .pointer (some ⟨p, 0, none⟩), .pointer (some ⟨p, 0, none⟩), .map (some mb), .string s, .int .i64 (n0 : Int), .pointer (some ⟨p, 0, none⟩), .pointer (some ⟨p, 0, none⟩), .pointer (some ⟨p, 0, none⟩), .pointer (some ⟨p, 0, none⟩), .pointer (some ⟨p, 0, none⟩), .pointer (some ⟨p, 1, none⟩), .slice qn n0 xn, .string s, .slice (some ⟨q8, 0, none⟩) 1 1, v9, .pointer (some ⟨p, 0, none⟩), .pointer (some ⟨p, 0, none⟩), .pointer (some ⟨p, 3, none⟩), .slice qu g.U.length xu, .slice (some ⟨q14, 0, none⟩) 1 1, v15, .pointer (some ⟨p, 0, none⟩), .pointer (some ⟨p, 0, none⟩), .pointer (some ⟨p, 4, none⟩), .slice qb g.B.length xb, undef, undef, undef, undef, undef, undef, undef, undef, undef], defers := [] } W) := by
      intro W v9 v15 C X Bw q8 q14
      rw [hΦ]
      have hpW : p < W.heap.size := (Array.getElem?_eq_some_iff.1 X).1
      have hloW : lo ≤ W.heap.size := by omega
      refine till_ready (rs := [20]) (by kernel_rfl) (by simp) ?_
      refine AllTill.cons rfl rfl (fun K hK => ?_) (AllTill.nil)
      go_simp
      have Bn : Below lo w (W.alloc (.cells #[.slice none 0 0] 69)) := Bw.alloc hloW _
      have Xn : (W.alloc (.cells #[.slice none 0 0] 69)).heap[p]? = some (.cells #[.map (some mb), .slice qn n0 xn, .int .i64 (own : Int), .slice qu g.U.length xu, .slice qb g.B.length xb] 63 (0, 0)) := (vheap_old W _ hpW).trans X
      have Cn := C.new (World.grownBy_alloc W (.cells #[.slice none 0 0] 69) none) (fun q e => by cases e)
      have R20n : (W.alloc (.cells #[.slice none 0 0] 69)).ownsRow lo 69 1 (.slice (some ⟨W.heap.size, 0, none⟩) 1 1) 1 [.slice none 0 0] := World.ownsRow_lit W #[.slice none 0 0] 1 hloW (by unfold maxLen; omega) rfl
      refine hK.out _ _ (fun _ => HK.out _ Xn) ?_
      have h := N1112.out (W.alloc (.cells #[.slice none 0 0] 69)) v9 v15 Cn Xn Bn q8 q14 W.heap.size R20n
      rw [hΦ] at h
      exact till_at h (by kernel_rfl) (by kernel_rfl)
    have N1111 : Hid (∀ (W : World) (v9 : Value) (C : GrC lo W mb (v9) (.slice qu g.U.length xu) (.slice qb g.B.length xb) us bs (g.N ++ [s]) (g.N ++ [s]) g.U g.B noX noX) (X : W.heap[p]? = some (.cells #[.map (some mb), .slice qn n0 xn, .int .i64 (own : Int), .slice qu g.U.length xu, .slice qb g.B.length xb] 63 (0, 0))) (Bw : Below lo w W) (q8 : Nat) (q14 : Nat) (R14 : W.ownsRow lo 69 1 (.slice (some ⟨q14, 0, none⟩) 1 1) 1 [.slice none 0 0]) (q20 : Nat) (R20 : W.ownsRow lo 69 1 (.slice (some ⟨q20, 0, none⟩) 1 1) 1 [.slice none 0 0]) (n20 : Value.ownBlock (.slice qu g.U.length xu) ≠ some q20), Φ 11 #[true, true, true, true, true, true, true, true, true, true, true, true, true, true, true, false, true, true, true, true, true, false, false, false, false, false, false, false, false, false, false] { tmps := #[.pointer (some ⟨p, 0, none⟩), .string s, undef, undef, .int .i64 0, .int .i64 (n0 : Int), .bool false, .tuple #[.int .i64 0, .bool false], .pointer (some ⟨p, 0, none⟩), .pointer (some ⟨p, 0, none⟩), .pointer (some ⟨p, 0, none⟩), .map (some mb), .string s, .tuple #[.int .i64 0, .bool false], .int .i64 0, .bool false, .bool false, .bool true, .pointer (some ⟨p, 0, none⟩), .pointer (some ⟨p, 0, none⟩), .pointer (some ⟨p, 1, none⟩), .slice qn n0 xn, .int .i64 (n0 : Int), .pointer (some ⟨p, 0, none⟩), .pointer (some ⟨p, 0, none⟩), .pointer (some ⟨p, 0, none⟩), .map (some mb), .string s, .int .i64 (n0 : Int), .pointer (some ⟨p, 0, none⟩), .pointer (some ⟨p, 0, none⟩), .pointer (some ⟨p, 0, none⟩), .pointer (some ⟨p, 0, none⟩), .pointer (some ⟨p, 0, none⟩), .pointer (some ⟨p, 1, none⟩), .slice qn n0 xn, .string s, .slice (some ⟨q8, 0, none⟩) 1 1, v9, .pointer (some ⟨p, 0, none⟩), .pointer (some ⟨p, 0, none⟩), .pointer (some ⟨p, 3, none⟩), .slice qu g.U.length xu, .slice (some ⟨q14, 0, none⟩) 1 1, undef, .pointer (some ⟨p, 0, none⟩), .pointer (some ⟨p, 0, none⟩), .pointer (some ⟨p, 4, none⟩), .slice qb g.B.length xb, .slice (some ⟨q20, 0, none⟩) 1 1, undef, undef, undef, undef, undef, undef, undef, undef], defers := [] } W) := by
      intro W v9 C X Bw q8 q14 R14 q20 R20 n20
      rw [hΦ]
      have hpW : p < W.heap.size := (Array.getElem?_eq_some_iff.1 X).1
      have hloW : lo ≤ W.heap.size := by omega
      refine till_ready (rs := [15]) (by kernel_rfl) (by simp) ?_
      refine AllTill.cons rfl rfl (fun K hK => ?_) (AllTill.nil)
      rw [if_pos (by rfl)]
      refine wp_append_loc _ _ 61 rfl lo 69 iI (.slice none 0 0) 1 24 Try.underlying61 hiI hzI0 hzI1 hzI2 rfl (by decide) _ g.U.length us rfl C.ru ⟨q14, 0, none⟩ 1 1 [.slice none 0 0] rfl rfl (R14.cells rfl) (fun u hu => by simp at hu; subst hu; rfl) (by unfold maxLen; omega) (by omega) hloW ?_
      intro v15 W9 o9 gr9 lc9
      have Cn := C.addU (fun h => h) o9 gr9 lc9
      have Bn : Below lo w W9 := Below.grown Bw gr9 hloW (fun j hj => (C.ru.lt j hj).1)
      have Xn : W9.heap[p]? = some (.cells #[.map (some mb), .slice qn n0 xn, .int .i64 (own : Int), .slice qu g.U.length xu, .slice qb g.B.length xb] 63 (0, 0)) := (gr9.block p hpW (fun e => by obtain ⟨cur, hc⟩ := row_block C.ru e.symm; rw [X] at hc; simp at hc)).trans X
      refine hK.out _ _ (fun _ => HK.out _ Xn) ?_
      have h := N1112.out W9 v9 v15 Cn Xn Bn q8 q14 q20 (R20.kept gr9 (.inr (fun e => n20 e.symm)))
      rw [hΦ] at h
      exact till_at h (by kernel_rfl) (by kernel_rfl)
    have N1101 : Hid (∀ (W : World) (v9 : Value) (C : GrC lo W mb (v9) (.slice qu g.U.length xu) (.slice qb g.B.length xb) us bs (g.N ++ [s]) (g.N ++ [s]) g.U g.B noX noX) (X : W.heap[p]? = some (.cells #[.map (some mb), .slice qn n0 xn, .int .i64 (own : Int), .slice qu g.U.length xu, .slice qb g.B.length xb] 63 (0, 0))) (Bw : Below lo w W) (q8 : Nat) (q14 : Nat) (R14 : W.ownsRow lo 69 1 (.slice (some ⟨q14, 0, none⟩) 1 1) 1 [.slice none 0 0]), Φ 12 #[true, true, true, true, true, true, true, true, true, true, true, true, true, true, true, false, true, true, true, true, false, false, false, false, false, false, false, false, false, false, false] { tmps := #[.pointer (some ⟨p, 0, none⟩), .string s, undef, undef, .int .i64 0, .int .i64 (n0 : Int), .bool false, .tuple #[.int .i64 0, .bool false], .pointer (some ⟨p, 0, none⟩), .pointer (some ⟨p, 0, none⟩), .pointer (some ⟨p, 0, none⟩), .map (some mb), .string s, .tuple #[.int .i64 0, .bool false], .int .i64 0, .bool false, .bool false, .bool true, .pointer (some ⟨p, 0, none⟩), .pointer (some ⟨p, 0, none⟩), .pointer (some ⟨p, 1, none⟩), .slice qn n0 xn, .int .i64 (n0 : Int), .pointer (some ⟨p, 0, none⟩), .pointer (some ⟨p, 0, none⟩), .pointer (some ⟨p, 0, none⟩), .map (some mb), .string s, .int .i64 (n0 : Int), .pointer (some ⟨p, 0, none⟩), .pointer (some ⟨p, 0, none⟩), .pointer (some ⟨p, 0, none⟩), .pointer (some ⟨p, 0, none⟩), .pointer (some ⟨p, 0, none⟩), .pointer (some ⟨p, 1, none⟩), .slice qn n0 xn, .string s, .slice (some ⟨q8, 0, none⟩) 1 1, v9, .pointer (some ⟨p, 0, none⟩), .pointer (some ⟨p, 0, none⟩), .pointer (some ⟨p, 3, none⟩), .slice qu g.U.length xu, .slice (some ⟨q14, 0, none⟩) 1 1, undef, .pointer (some ⟨p, 0, none⟩), .pointer (some ⟨p, 0, none⟩), .pointer (some ⟨p, 4, none⟩), .slice qb g.B.length xb, undef, undef, undef, undef, undef, undef, undef, undef, undef], defers := [] } W) := by
      intro W v9 C X Bw q8 q14 R14
      rw [hΦ]
      have hpW : p < W.heap.size := (Array.getElem?_eq_some_iff.1 X).1
      have hloW : lo ≤ W.heap.size := by omega
      refine till_ready (rs := [15, 20]) (by kernel_rfl) (by simp) ?_
      refine AllTill.cons rfl rfl (fun K hK => ?_) (AllTill.cons rfl rfl (fun K hK => ?_) (AllTill.nil))
      · rw [if_pos (by rfl)]
        refine wp_append_loc _ _ 61 rfl lo 69 iI (.slice none 0 0) 1 24 Try.underlying61 hiI hzI0 hzI1 hzI2 rfl (by decide) _ g.U.length us rfl C.ru ⟨q14, 0, none⟩ 1 1 [.slice none 0 0] rfl rfl (R14.cells rfl) (fun u hu => by simp at hu; subst hu; rfl) (by unfold maxLen; omega) (by omega) hloW ?_
        intro v15 W9 o9 gr9 lc9
        have Cn := C.addU (fun h => h) o9 gr9 lc9
        have Bn : Below lo w W9 := Below.grown Bw gr9 hloW (fun j hj => (C.ru.lt j hj).1)
        have Xn : W9.heap[p]? = some (.cells #[.map (some mb), .slice qn n0 xn, .int .i64 (own : Int), .slice qu g.U.length xu, .slice qb g.B.length xb] 63 (0, 0)) := (gr9.block p hpW (fun e => by obtain ⟨cur, hc⟩ := row_block C.ru e.symm; rw [X] at hc; simp at hc)).trans X
        refine hK.out _ _ (fun _ => HK.out _ Xn) ?_
        have h := N1102.out W9 v9 v15 Cn Xn Bn q8 q14
        rw [hΦ] at h
        exact till_at h (by kernel_rfl) (by kernel_rfl)
      · go_simp
        have Bn : Below lo w (W.alloc (.cells #[.slice none 0 0] 69)) := Bw.alloc hloW _
        have Xn : (W.alloc (.cells #[.slice none 0 0] 69)).heap[p]? = some (.cells #[.map (some mb), .slice qn n0 xn, .int .i64 (own : Int), .slice qu g.U.length xu, .slice qb g.B.length xb] 63 (0, 0)) := (vheap_old W _ hpW).trans X
        have Cn := C.new (World.grownBy_alloc W (.cells #[.slice none 0 0] 69) none) (fun q e => by cases e)
        have R20n : (W.alloc (.cells #[.slice none 0 0] 69)).ownsRow lo 69 1 (.slice (some ⟨W.heap.size, 0, none⟩) 1 1) 1 [.slice none 0 0] := World.ownsRow_lit W #[.slice none 0 0] 1 hloW (by unfold maxLen; omega) rfl
        have n20n : Value.ownBlock (.slice qu g.U.length xu) ≠ some W.heap.size := fun e => by have := (C.ru.lt _ e).2; omega
        refine hK.out _ _ (fun _ => HK.out _ Xn) ?_
        have h := N1111.out (W.alloc (.cells #[.slice none 0 0] 69)) v9 Cn Xn Bn q8 q14 (R14.alloc _) W.heap.size R20n n20n
        rw [hΦ] at h
        exact till_at h (by kernel_rfl) (by kernel_rfl)
    have N1011 : Hid (∀ (W : World) (v9 : Value) (C : GrC lo W mb (v9) (.slice qu g.U.length xu) (.slice qb g.B.length xb) us bs (g.N ++ [s]) (g.N ++ [s]) g.U g.B noX noX) (X : W.heap[p]? = some (.cells #[.map (some mb), .slice qn n0 xn, .int .i64 (own : Int), .slice qu g.U.length xu, .slice qb g.B.length xb] 63 (0, 0))) (Bw : Below lo w W) (q8 : Nat) (q20 : Nat) (R20 : W.ownsRow lo 69 1 (.slice (some ⟨q20, 0, none⟩) 1 1) 1 [.slice none 0 0]) (n20 : Value.ownBlock (.slice qu g.U.length xu) ≠ some q20), Φ 12 #[true, true, true, true, true, true, true, true, true, true, true, true, true, true, false, false, true, true, true, true, true, false, false, false, false, false, false, false, false, false, false] { tmps := #[.pointer (some ⟨p, 0, none⟩), .string s, undef, undef, .int .i64 0, .int .i64 (n0 : Int), .bool false, .tuple #[.int .i64 0, .bool false], .pointer (some ⟨p, 0, none⟩), .pointer (some ⟨p, 0, none⟩), .pointer (some ⟨p, 0, none⟩), .map (some mb), .string s, .tuple #[.int .i64 0, .bool false], .int .i64 0, .bool false, .bool false, .bool true, .pointer (some ⟨p, 0, none⟩), .pointer (some ⟨p, 0, none⟩), .pointer (some ⟨p, 1, none⟩), .slice qn n0 xn, .int .i64 (n0 : Int), .pointer (some ⟨p, 0, none⟩), .pointer (some ⟨p, 0, none⟩), .pointer (some ⟨p, 0, none⟩), .map (some mb), .string s, .int .i64 (n0 : Int), .pointer (some ⟨p, 0, none⟩), .pointer (some ⟨p, 0, none⟩), .pointer (some ⟨p, 0, none⟩), .pointer (some ⟨p, 0, none⟩), .pointer (some ⟨p, 0, none⟩), .pointer (some ⟨p, 1, none⟩), .slice qn n0 xn, .string s, .slice (some ⟨q8, 0, none⟩) 1 1, v9, .pointer (some ⟨p, 0, none⟩), .pointer (some ⟨p, 0, none⟩), .pointer (some ⟨p, 3, none⟩), .slice qu g.U.length xu, undef, undef, .pointer (some ⟨p, 0, none⟩), .pointer (some ⟨p, 0, none⟩), .pointer (some ⟨p, 4, none⟩), .slice qb g.B.length xb, .slice (some ⟨q20, 0, none⟩) 1 1, undef, undef, undef, undef, undef, undef, undef, undef], defers := [] } W) := by
      intro W v9 C X Bw q8 q20 R20 n20
      rw [hΦ]
      have hpW : p < W.heap.size := (Array.getElem?_eq_some_iff.1 X).1
      have hloW : lo ≤ W.heap.size := by omega
      refine till_ready (rs := [14]) (by kernel_rfl) (by simp) ?_
      refine AllTill.cons rfl rfl (fun K hK => ?_) (AllTill.nil)
      go_simp
      have Bn : Below lo w (W.alloc (.cells #[.slice none 0 0] 69)) := Bw.alloc hloW _
      have Xn : (W.alloc (.cells #[.slice none 0 0] 69)).heap[p]? = some (.cells #[.map (some mb), .slice qn n0 xn, .int .i64 (own : Int), .slice qu g.U.length xu, .slice qb g.B.length xb] 63 (0, 0)) := (vheap_old W _ hpW).trans X
      have Cn := C.new (World.grownBy_alloc W (.cells #[.slice none 0 0] 69) none) (fun q e => by cases e)
      have R14n : (W.alloc (.cells #[.slice none 0 0] 69)).ownsRow lo 69 1 (.slice (some ⟨W.heap.size, 0, none⟩) 1 1) 1 [.slice none 0 0] := World.ownsRow_lit W #[.slice none 0 0] 1 hloW (by unfold maxLen; omega) rfl
      refine hK.out _ _ (fun _ => HK.out _ Xn) ?_
      have h := N1111.out (W.alloc (.cells #[.slice none 0 0] 69)) v9 Cn Xn Bn q8 W.heap.size R14n q20 (R20.alloc _) n20
      rw [hΦ] at h
      exact till_at h (by kernel_rfl) (by kernel_rfl)
    have N1110 : Hid (∀ (W : World) (C : GrC lo W mb (.slice qn n0 xn) (.slice qu g.U.length xu) (.slice qb g.B.length xb) us bs (g.N ++ [s]) g.N g.U g.B noX noX) (X : W.heap[p]? = some (.cells #[.map (some mb), .slice qn n0 xn, .int .i64 (own : Int), .slice qu g.U.length xu, .slice qb g.B.length xb] 63 (0, 0))) (Bw : Below lo w W) (q8 : Nat) (R8 : W.ownsRow lo 9 1 (.slice (some ⟨q8, 0, none⟩) 1 1) 1 (strsV [s])) (q14 : Nat) (R14 : W.ownsRow lo 69 1 (.slice (some ⟨q14, 0, none⟩) 1 1) 1 [.slice none 0 0]) (q20 : Nat) (R20 : W.ownsRow lo 69 1 (.slice (some ⟨q20, 0, none⟩) 1 1) 1 [.slice none 0 0]) (n20 : Value.ownBlock (.slice qu g.U.length xu) ≠ some q20), Φ 12 #[true, true, true, true, true, true, true, true, true, false, true, true, true, true, true, false, true, true, true, true, true, false, false, false, false, false, false, false, false, false, false] { tmps := #[.pointer (some ⟨p, 0, none⟩), .string s, undef, undef, .int .i64 0, .int .i64 (n0 : Int), .bool false, .tuple #[.int .i64 0, .bool false], .pointer (some ⟨p, 0, none⟩), .pointer (some ⟨p, 0, none⟩), .pointer (some ⟨p, 0, none⟩), .map (some mb), .string s, .tuple #[.int .i64 0, .bool false], .int .i64 0, .bool false, .bool false, .bool true, .pointer (some ⟨p, 0, none⟩), .pointer (some ⟨p, 0, none⟩), .pointer (some ⟨p, 1, none⟩), .slice qn n0 xn, .int .i64 (n0 : Int), .pointer (some ⟨p, 0, none⟩), .pointer (some ⟨p, 0, none⟩), .pointer (some ⟨p, 0, none⟩), .map (some mb), .string s, .int .i64 (n0 : Int), .pointer (some ⟨p, 0, none⟩), .pointer (some ⟨p, 0, none⟩), .pointer (some ⟨p, 0, none⟩), .pointer (some ⟨p, 0, none⟩), .pointer (some ⟨p, 0, none⟩), .pointer (some ⟨p, 1, none⟩), .slice qn n0 xn, .string s, .slice (some ⟨q8, 0, none⟩) 1 1, undef, .pointer (some ⟨p, 0, none⟩), .pointer (some ⟨p, 0, none⟩), .pointer (some ⟨p, 3, none⟩), .slice qu g.U.length xu, .slice (some ⟨q14, 0, none⟩) 1 1, undef, .pointer (some ⟨p, 0, none⟩), .pointer (some ⟨p, 0, none⟩), .pointer (some ⟨p, 4, none⟩), .slice qb g.B.length xb, .slice (some ⟨q20, 0, none⟩) 1 1, undef, undef, undef, undef, undef, undef, undef, undef], defers := [] } W) := by
      intro W C X Bw q8 R8 q14 R14 q20 R20 n20
      rw [hΦ]
      have hpW : p < W.heap.size := (Array.getElem?_eq_some_iff.1 X).1
      have hloW : lo ≤ W.heap.size := by omega
      refine till_ready (rs := [9]) (by kernel_rfl) (by simp) ?_
      refine AllTill.cons rfl rfl (fun K hK => ?_) (AllTill.nil)
      rw [if_pos (by rfl)]
      refine wp_append_loc _ _ 26 rfl lo 9 iS (.string ⟨#[]⟩) 1 16 Try.underlying26 hiS hzS0 hzS1 hzS2 rfl (by decide) _ g.N.length (strsV g.N) rfl C.names ⟨q8, 0, none⟩ 1 1 (strsV [s]) rfl rfl (R8.cells rfl) (fun u hu => by simp [strsV] at hu; subst hu; rfl) (by have := hvn.out; unfold maxLen; omega) (by have := hvn.out; omega) hloW ?_
      intro v9 W9 o9 gr9 lc9
      have Cn := C.addN o9 gr9
      have Bn : Below lo w W9 := Below.grown Bw gr9 hloW (fun j hj => (C.names.lt j hj).1)
      have Xn : W9.heap[p]? = some (.cells #[.map (some mb), .slice qn n0 xn, .int .i64 (own : Int), .slice qu g.U.length xu, .slice qb g.B.length xb] 63 (0, 0)) := (gr9.block p hpW (fun e => by obtain ⟨cur, hc⟩ := row_block C.names e.symm; rw [X] at hc; simp at hc)).trans X
      refine hK.out _ _ (fun _ => HK.out _ Xn) ?_
      have h := N1111.out W9 v9 Cn Xn Bn q8 q14 (R14.kept gr9 (apart_r R14 C.names (by decide))) q20 (R20.kept gr9 (apart_r R20 C.names (by decide))) n20
      rw [hΦ] at h
      exact till_at h (by kernel_rfl) (by kernel_rfl)
    have N1001 : Hid (∀ (W : World) (v9 : Value) (C : GrC lo W mb (v9) (.slice qu g.U.length xu) (.slice qb g.B.length xb) us bs (g.N ++ [s]) (g.N ++ [s]) g.U g.B noX noX) (X : W.heap[p]? = some (.cells #[.map (some mb), .slice qn n0 xn, .int .i64 (own : Int), .slice qu g.U.length xu, .slice qb g.B.length xb] 63 (0, 0))) (Bw : Below lo w W) (q8 : Nat), Φ 13 #[true, true, true, true, true, true, true, true, true, true, true, true, true, true, false, false, true, true, true, true, false, false, false, false, false, false, false, false, false, false, false] { tmps := #[.pointer (some ⟨p, 0, none⟩), .string s, undef, undef, .int .i64 0, .int .i64 (n0 : Int), .bool false, .tuple #[.int .i64 0, .bool false], .pointer (some ⟨p, 0, none⟩), .pointer (some ⟨p, 0, none⟩), .pointer (some ⟨p, 0, none⟩), .map (some mb), .string s, .tuple #[.int .i64 0, .bool false], .int .i64 0, .bool false, .bool false, .bool true, .pointer (some ⟨p, 0, none⟩), .pointer (some ⟨p, 0, none⟩), .pointer (some ⟨p, 1, none⟩), .slice qn n0 xn, .int .i64 (n0 : Int), .pointer (some ⟨p, 0, none⟩), .pointer (some ⟨p, 0, none⟩), .pointer (some ⟨p, 0, none⟩), .map (some mb), .string s, .int .i64 (n0 : Int), .pointer (some ⟨p, 0, none⟩), .pointer (some ⟨p, 0, none⟩), .pointer (some ⟨p, 0, none⟩), .pointer (some ⟨p, 0, none⟩), .pointer (some ⟨p, 0, none⟩), .pointer (some ⟨p, 1, none⟩), .slice qn n0 xn, .string s, .slice (some ⟨q8, 0, none⟩) 1 1, v9, .pointer (some ⟨p, 0, none⟩), .pointer (some ⟨p, 0, none⟩), .pointer (some ⟨p, 3, none⟩), .slice qu g.U.length xu, undef, undef, .pointer (some ⟨p, 0, none⟩), .pointer (some ⟨p, 0, none⟩), .pointer (some ⟨p, 4, none⟩), .slice qb g.B.length xb, undef, undef, undef, undef, undef, undef, undef, undef, undef], defers := [] } W) := by
      intro W v9 C X Bw q8
      rw [hΦ]
      have hpW : p < W.heap.size := (Array.getElem?_eq_some_iff.1 X).1
      have hloW : lo ≤ W.heap.size := by omega
      refine till_ready (rs := [14, 20]) (by kernel_rfl) (by simp) ?_
      refine AllTill.cons rfl rfl (fun K hK => ?_) (AllTill.cons rfl rfl (fun K hK => ?_) (AllTill.nil))
      · go_simp
        have Bn : Below lo w (W.alloc (.cells #[.slice none 0 0] 69)) := Bw.alloc hloW _
        have Xn : (W.alloc (.cells #[.slice none 0 0] 69)).heap[p]? = some (.cells #[.map (some mb), .slice qn n0 xn, .int .i64 (own : Int), .slice qu g.U.length xu, .slice qb g.B.length xb] 63 (0, 0)) := (vheap_old W _ hpW).trans X
        have Cn := C.new (World.grownBy_alloc W (.cells #[.slice none 0 0] 69) none) (fun q e => by cases e)
        have R14n : (W.alloc (.cells #[.slice none 0 0] 69)).ownsRow lo 69 1 (.slice (some ⟨W.heap.size, 0, none⟩) 1 1) 1 [.slice none 0 0] := World.ownsRow_lit W #[.slice none 0 0] 1 hloW (by unfold maxLen; omega) rfl
        refine hK.out _ _ (fun _ => HK.out _ Xn) ?_
        have h := N1101.out (W.alloc (.cells #[.slice none 0 0] 69)) v9 Cn Xn Bn q8 W.heap.size R14n
        rw [hΦ] at h
        exact till_at h (by kernel_rfl) (by kernel_rfl)
      · go_simp
        have Bn : Below lo w (W.alloc (.cells #[.slice none 0 0] 69)) := Bw.alloc hloW _
        have Xn : (W.alloc (.cells #[.slice none 0 0] 69)).heap[p]? = some (.cells #[.map (some mb), .slice qn n0 xn, .int .i64 (own : Int), .slice qu g.U.length xu, .slice qb g.B.length xb] 63 (0, 0)) := (vheap_old W _ hpW).trans X
        have Cn := C.new (World.grownBy_alloc W (.cells #[.slice none 0 0] 69) none) (fun q e => by cases e)
        have R20n : (W.alloc (.cells #[.slice none 0 0] 69)).ownsRow lo 69 1 (.slice (some ⟨W.heap.size, 0, none⟩) 1 1) 1 [.slice none 0 0] := World.ownsRow_lit W #[.slice none 0 0] 1 hloW (by unfold maxLen; omega) rfl
        have n20n : Value.ownBlock (.slice qu g.U.length xu) ≠ some W.heap.size := fun e => by have := (C.ru.lt _ e).2; omega
        refine hK.out _ _ (fun _ => HK.out _ Xn) ?_
        have h := N1011.out (W.alloc (.cells #[.slice none 0 0] 69)) v9 Cn Xn Bn q8 W.heap.size R20n n20n
        rw [hΦ] at h
        exact till_at h (by kernel_rfl) (by kernel_rfl)
    have N1100 : Hid (∀ (W : World) (C : GrC lo W mb (.slice qn n0 xn) (.slice qu g.U.length xu) (.slice qb g.B.length xb) us bs (g.N ++ [s]) g.N g.U g.B noX noX) (X : W.heap[p]? = some (.cells #[.map (some mb), .slice qn n0 xn, .int .i64 (own : Int), .slice qu g.U.length xu, .slice qb g.B.length xb] 63 (0, 0))) (Bw : Below lo w W) (q8 : Nat) (R8 : W.ownsRow lo 9 1 (.slice (some ⟨q8, 0, none⟩) 1 1) 1 (strsV [s])) (q14 : Nat) (R14 : W.ownsRow lo 69 1 (.slice (some ⟨q14, 0, none⟩) 1 1) 1 [.slice none 0 0]), Φ 13 #[true, true, true, true, true, true, true, true, true, false, true, true, true, true, true, false, true, true, true, true, false, false, false, false, false, false, false, false, false, false, false] { tmps := #[.pointer (some ⟨p, 0, none⟩), .string s, undef, undef, .int .i64 0, .int .i64 (n0 : Int), .bool false, .tuple #[.int .i64 0, .bool false], .pointer (some ⟨p, 0, none⟩), .pointer (some ⟨p, 0, none⟩), .pointer (some ⟨p, 0, none⟩), .map (some mb), .string s, .tuple #[.int .i64 0, .bool false], .int .i64 0, .bool false, .bool false, .bool true, .pointer (some ⟨p, 0, none⟩), .pointer (some ⟨p, 0, none⟩), .pointer (some ⟨p, 1, none⟩), .slice qn n0 xn, .int .i64 (n0 : Int), .pointer (some ⟨p, 0, none⟩), .pointer (some ⟨p, 0, none⟩), .pointer (some ⟨p, 0, none⟩), .map (some mb), .string s, .int .i64 (n0 : Int), .pointer (some ⟨p, 0, none⟩), .pointer (some ⟨p, 0, none⟩), .pointer (some ⟨p, 0, none⟩), .pointer (some ⟨p, 0, none⟩), .pointer (some ⟨p, 0, none⟩), .pointer (some ⟨p, 1, none⟩), .slice qn n0 xn, .string s, .slice (some ⟨q8, 0, none⟩) 1 1, undef, .pointer (some ⟨p, 0, none⟩), .pointer (some ⟨p, 0, none⟩), .pointer (some ⟨p, 3, none⟩), .slice qu g.U.length xu, .slice (some ⟨q14, 0, none⟩) 1 1, undef, .pointer (some ⟨p, 0, none⟩), .pointer (some ⟨p, 0, none⟩), .pointer (some ⟨p, 4, none⟩), .slice qb g.B.length xb, undef, undef, undef, undef, undef, undef, undef, undef, undef], defers := [] } W) := by
      intro W C X Bw q8 R8 q14 R14
      rw [hΦ]
      have hpW : p < W.heap.size := (Array.getElem?_eq_some_iff.1 X).1
      have hloW : lo ≤ W.heap.size := by omega
      refine till_ready (rs := [9, 20]) (by kernel_rfl) (by simp) ?_
      refine AllTill.cons rfl rfl (fun K hK => ?_) (AllTill.cons rfl rfl (fun K hK => ?_) (AllTill.nil))
      · rw [if_pos (by rfl)]
        refine wp_append_loc _ _ 26 rfl lo 9 iS (.string ⟨#[]⟩) 1 16 Try.underlying26 hiS hzS0 hzS1 hzS2 rfl (by decide) _ g.N.length (strsV g.N) rfl C.names ⟨q8, 0, none⟩ 1 1 (strsV [s]) rfl rfl (R8.cells rfl) (fun u hu => by simp [strsV] at hu; subst hu; rfl) (by have := hvn.out; unfold maxLen; omega) (by have := hvn.out; omega) hloW ?_
        intro v9 W9 o9 gr9 lc9
        have Cn := C.addN o9 gr9
        have Bn : Below lo w W9 := Below.grown Bw gr9 hloW (fun j hj => (C.names.lt j hj).1)
        have Xn : W9.heap[p]? = some (.cells #[.map (some mb), .slice qn n0 xn, .int .i64 (own : Int), .slice qu g.U.length xu, .slice qb g.B.length xb] 63 (0, 0)) := (gr9.block p hpW (fun e => by obtain ⟨cur, hc⟩ := row_block C.names e.symm; rw [X] at hc; simp at hc)).trans X
        refine hK.out _ _ (fun _ => HK.out _ Xn) ?_
        have h := N1101.out W9 v9 Cn Xn Bn q8 q14 (R14.kept gr9 (apart_r R14 C.names (by decide)))
        rw [hΦ] at h
        exact till_at h (by kernel_rfl) (by kernel_rfl)
      · go_simp
        have Bn : Below lo w (W.alloc (.cells #[.slice none 0 0] 69)) := Bw.alloc hloW _
        have Xn : (W.alloc (.cells #[.slice none 0 0] 69)).heap[p]? = some (.cells #[.map (some mb), .slice qn n0 xn, .int .i64 (own : Int), .slice qu g.U.length xu, .slice qb g.B.length xb] 63 (0, 0)) := (vheap_old W _ hpW).trans X
        have Cn := C.new (World.grownBy_alloc W (.cells #[.slice none 0 0] 69) none) (fun q e => by cases e)
        have R20n : (W.alloc (.cells #[.slice none 0 0] 69)).ownsRow lo 69 1 (.slice (some ⟨W.heap.size, 0, none⟩) 1 1) 1 [.slice none 0 0] := World.ownsRow_lit W #[.slice none 0 0] 1 hloW (by unfold maxLen; omega) rfl
        have n20n : Value.ownBlock (.slice qu g.U.length xu) ≠ some W.heap.size := fun e => by have := (C.ru.lt _ e).2; omega
        refine hK.out _ _ (fun _ => HK.out _ Xn) ?_
        have h := N1110.out (W.alloc (.cells #[.slice none 0 0] 69)) Cn Xn Bn q8 (R8.alloc _) q14 (R14.alloc _) W.heap.size R20n n20n
        rw [hΦ] at h
        exact till_at h (by kernel_rfl) (by kernel_rfl)
    have N1010 : Hid (∀ (W : World) (C : GrC lo W mb (.slice qn n0 xn) (.slice qu g.U.length xu) (.slice qb g.B.length xb) us bs (g.N ++ [s]) g.N g.U g.B noX noX) (X : W.heap[p]? = some (.cells #[.map (some mb), .slice qn n0 xn, .int .i64 (own : Int), .slice qu g.U.length xu, .slice qb g.B.length xb] 63 (0, 0))) (Bw : Below lo w W) (q8 : Nat) (R8 : W.ownsRow lo 9 1 (.slice (some ⟨q8, 0, none⟩) 1 1) 1 (strsV [s])) (q20 : Nat) (R20 : W.ownsRow lo 69 1 (.slice (some ⟨q20, 0, none⟩) 1 1) 1 [.slice none 0 0]) (n20 : Value.ownBlock (.slice qu g.U.length xu) ≠ some q20), Φ 13 #[true, true, true, true, true, true, true, true, true, false, true, true, true, true, false, false, true, true, true, true, true, false, false, false, false, false, false, false, false, false, false] { tmps := #[.pointer (some ⟨p, 0, none⟩), .string s, undef, undef, .int .i64 0, .int .i64 (n0 : Int), .bool false, .tuple #[.int .i64 0, .bool false], .pointer (some ⟨p, 0, none⟩), .pointer (some ⟨p, 0, none⟩), .pointer (some ⟨p, 0, none⟩), .map (some mb), .string s, .tuple #[.int .i64 0, .bool false], .int .i64 0, .bool false, .bool false, .bool true, .pointer (some ⟨p, 0, none⟩), .pointer (some ⟨p, 0, none⟩), .pointer (some ⟨p, 1, none⟩), .slice qn n0 xn, .int .i64 (n0 : Int), .pointer (some ⟨p, 0, none⟩), .pointer (some ⟨p, 0, none⟩), .pointer (some ⟨p, 0, none⟩), .map (some mb), .string s, .int .i64 (n0 : Int), .pointer (some ⟨p, 0, none⟩), .pointer (some ⟨p, 0, none⟩), .pointer (some ⟨p, 0, none⟩), .pointer (some ⟨p, 0, none⟩), .pointer (some ⟨p, 0, none⟩), .pointer (some ⟨p, 1, none⟩), .slice qn n0 xn, .string s, .slice (some ⟨q8, 0, none⟩) 1 1, undef, .pointer (some ⟨p, 0, none⟩), .pointer (some ⟨p, 0, none⟩), .pointer (some ⟨p, 3, none⟩), .slice qu g.U.length xu, undef, undef, .pointer (some ⟨p, 0, none⟩), .pointer (some ⟨p, 0, none⟩), .pointer (some ⟨p, 4, none⟩), .slice qb g.B.length xb, .slice (some ⟨q20, 0, none⟩) 1 1, undef, undef, undef, undef, undef, undef, undef, undef], defers := [] } W) := by
      intro W C X Bw q8 R8 q20 R20 n20
      rw [hΦ]
      have hpW : p < W.heap.size := (Array.getElem?_eq_some_iff.1 X).1
      have hloW : lo ≤ W.heap.size := by omega
      refine till_ready (rs := [9, 14]) (by kernel_rfl) (by simp) ?_
      refine AllTill.cons rfl rfl (fun K hK => ?_) (AllTill.cons rfl rfl (fun K hK => ?_) (AllTill.nil))
      · rw [if_pos (by rfl)]
        refine wp_append_loc _ _ 26 rfl lo 9 iS (.string ⟨#[]⟩) 1 16 Try.underlying26 hiS hzS0 hzS1 hzS2 rfl (by decide) _ g.N.length (strsV g.N) rfl C.names ⟨q8, 0, none⟩ 1 1 (strsV [s]) rfl rfl (R8.cells rfl) (fun u hu => by simp [strsV] at hu; subst hu; rfl) (by have := hvn.out; unfold maxLen; omega) (by have := hvn.out; omega) hloW ?_
        intro v9 W9 o9 gr9 lc9
        have Cn := C.addN o9 gr9
        have Bn : Below lo w W9 := Below.grown Bw gr9 hloW (fun j hj => (C.names.lt j hj).1)
        have Xn : W9.heap[p]? = some (.cells #[.map (some mb), .slice qn n0 xn, .int .i64 (own : Int), .slice qu g.U.length xu, .slice qb g.B.length xb] 63 (0, 0)) := (gr9.block p hpW (fun e => by obtain ⟨cur, hc⟩ := row_block C.names e.symm; rw [X] at hc; simp at hc)).trans X
        refine hK.out _ _ (fun _ => HK.out _ Xn) ?_
        have h := N1011.out W9 v9 Cn Xn Bn q8 q20 (R20.kept gr9 (apart_r R20 C.names (by decide))) n20
        rw [hΦ] at h
        exact till_at h (by kernel_rfl) (by kernel_rfl)
      · go_simp
        have Bn : Below lo w (W.alloc (.cells #[.slice none 0 0] 69)) := Bw.alloc hloW _
        have Xn : (W.alloc (.cells #[.slice none 0 0] 69)).heap[p]? = some (.cells #[.map (some mb), .slice qn n0 xn, .int .i64 (own : Int), .slice qu g.U.length xu, .slice qb g.B.length xb] 63 (0, 0)) := (vheap_old W _ hpW).trans X
        have Cn := C.new (World.grownBy_alloc W (.cells #[.slice none 0 0] 69) none) (fun q e => by cases e)
        have R14n : (W.alloc (.cells #[.slice none 0 0] 69)).ownsRow lo 69 1 (.slice (some ⟨W.heap.size, 0, none⟩) 1 1) 1 [.slice none 0 0] := World.ownsRow_lit W #[.slice none 0 0] 1 hloW (by unfold maxLen; omega) rfl
        refine hK.out _ _ (fun _ => HK.out _ Xn) ?_
        have h := N1110.out (W.alloc (.cells #[.slice none 0 0] 69)) Cn Xn Bn q8 (R8.alloc _) W.heap.size R14n q20 (R20.alloc _) n20
        rw [hΦ] at h
        exact till_at h (by kernel_rfl) (by kernel_rfl)
    have N0110 : Hid (∀ (W : World) (C : GrC lo W mb (.slice qn n0 xn) (.slice qu g.U.length xu) (.slice qb g.B.length xb) us bs (g.N ++ [s]) g.N g.U g.B noX noX) (X : W.heap[p]? = some (.cells #[.map (some mb), .slice qn n0 xn, .int .i64 (own : Int), .slice qu g.U.length xu, .slice qb g.B.length xb] 63 (0, 0))) (Bw : Below lo w W) (q14 : Nat) (R14 : W.ownsRow lo 69 1 (.slice (some ⟨q14, 0, none⟩) 1 1) 1 [.slice none 0 0]) (q20 : Nat) (R20 : W.ownsRow lo 69 1 (.slice (some ⟨q20, 0, none⟩) 1 1) 1 [.slice none 0 0]) (n20 : Value.ownBlock (.slice qu g.U.length xu) ≠ some q20), Φ 13 #[true, true, true, true, true, true, true, true, false, false, true, true, true, true, true, false, true, true, true, true, true, false, false, false, false, false, false, false, false, false, false] { tmps := #[.pointer (some ⟨p, 0, none⟩), .string s, undef, undef, .int .i64 0, .int .i64 (n0 : Int), .bool false, .tuple #[.int .i64 0, .bool false], .pointer (some ⟨p, 0, none⟩), .pointer (some ⟨p, 0, none⟩), .pointer (some ⟨p, 0, none⟩), .map (some mb), .string s, .tuple #[.int .i64 0, .bool false], .int .i64 0, .bool false, .bool false, .bool true, .pointer (some ⟨p, 0, none⟩), .pointer (some ⟨p, 0, none⟩), .pointer (some ⟨p, 1, none⟩), .slice qn n0 xn, .int .i64 (n0 : Int), .pointer (some ⟨p, 0, none⟩), .pointer (some ⟨p, 0, none⟩), .pointer (some ⟨p, 0, none⟩), .map (some mb), .string s, .int .i64 (n0 : Int), .pointer (some ⟨p, 0, none⟩), .pointer (some ⟨p, 0, none⟩), .pointer (some ⟨p, 0, none⟩), .pointer (some ⟨p, 0, none⟩), .pointer (some ⟨p, 0, none⟩), .pointer (some ⟨p, 1, none⟩), .slice qn n0 xn, .string s, undef, undef, .pointer (some ⟨p, 0, none⟩), .pointer (some ⟨p, 0, none⟩), .pointer (some ⟨p, 3, none⟩), .slice qu g.U.length xu, .slice (some ⟨q14, 0, none⟩) 1 1, undef, .pointer (some ⟨p, 0, none⟩), .pointer (some ⟨p, 0, none⟩), .pointer (some ⟨p, 4, none⟩), .slice qb g.B.length xb, .slice (some ⟨q20, 0, none⟩) 1 1, undef, undef, undef, undef, undef, undef, undef, undef], defers := [] } W) := by
      intro W C X Bw q14 R14 q20 R20 n20
      rw [hΦ]
      have hpW : p < W.heap.size := (Array.getElem?_eq_some_iff.1 X).1
      have hloW : lo ≤ W.heap.size := by omega
      refine till_ready (rs := [8]) (by kernel_rfl) (by simp) ?_
      refine AllTill.cons rfl rfl (fun K hK => ?_) (AllTill.nil)
      go_simp
      have Bn : Below lo w (W.alloc (.cells #[.string s] 9)) := Bw.alloc hloW _
      have Xn : (W.alloc (.cells #[.string s] 9)).heap[p]? = some (.cells #[.map (some mb), .slice qn n0 xn, .int .i64 (own : Int), .slice qu g.U.length xu, .slice qb g.B.length xb] 63 (0, 0)) := (vheap_old W _ hpW).trans X
      have Cn := C.new (World.grownBy_alloc W (.cells #[.string s] 9) none) (fun q e => by cases e)
      have R8n : (W.alloc (.cells #[.string s] 9)).ownsRow lo 9 1 (.slice (some ⟨W.heap.size, 0, none⟩) 1 1) 1 (strsV [s]) := World.ownsRow_lit W #[.string s] 1 hloW (by unfold maxLen; omega) rfl
      refine hK.out _ _ (fun _ => HK.out _ Xn) ?_
      have h := N1110.out (W.alloc (.cells #[.string s] 9)) Cn Xn Bn W.heap.size R8n q14 (R14.alloc _) q20 (R20.alloc _) n20
      rw [hΦ] at h
      exact till_at h (by kernel_rfl) (by kernel_rfl)
    have N1000 : Hid (∀ (W : World) (C : GrC lo W mb (.slice qn n0 xn) (.slice qu g.U.length xu) (.slice qb g.B.length xb) us bs (g.N ++ [s]) g.N g.U g.B noX noX) (X : W.heap[p]? = some (.cells #[.map (some mb), .slice qn n0 xn, .int .i64 (own : Int), .slice qu g.U.length xu, .slice qb g.B.length xb] 63 (0, 0))) (Bw : Below lo w W) (q8 : Nat) (R8 : W.ownsRow lo 9 1 (.slice (some ⟨q8, 0, none⟩) 1 1) 1 (strsV [s])), Φ 14 #[true, true, true, true, true, true, true, true, true, false, true, true, true, true, false, false, true, true, true, true, false, false, false, false, false, false, false, false, false, false, false] { tmps := #[.pointer (some ⟨p, 0, none⟩), .string s, undef, undef, .int .i64 0, .int .i64 (n0 : Int), .bool false, .tuple #[.int .i64 0, .bool false], .pointer (some ⟨p, 0, none⟩), .pointer (some ⟨p, 0, none⟩), .pointer (some ⟨p, 0, none⟩), .map (some mb), .string s, .tuple #[.int .i64 0, .bool false], .int .i64 0, .bool false, .bool false, .bool true, .pointer (some ⟨p, 0, none⟩), .pointer (some ⟨p, 0, none⟩), .pointer (some ⟨p, 1, none⟩), .slice qn n0 xn, .int .i64 (n0 : Int), .pointer (some ⟨p, 0, none⟩), .pointer (some ⟨p, 0, none⟩), .pointer (some ⟨p, 0, none⟩), .map (some mb), .string s, .int .i64 (n0 : Int), .pointer (some ⟨p, 0, none⟩), .pointer (some ⟨p, 0, none⟩), .pointer (some ⟨p, 0, none⟩), .pointer (some ⟨p, 0, none⟩), .pointer (some ⟨p, 0, none⟩), .pointer (some ⟨p, 1, none⟩), .slice qn n0 xn, .string s, .slice (some ⟨q8, 0, none⟩) 1 1, undef, .pointer (some ⟨p, 0, none⟩), .pointer (some ⟨p, 0, none⟩), .pointer (some ⟨p, 3, none⟩), .slice qu g.U.length xu, undef, undef, .pointer (some ⟨p, 0, none⟩), .pointer (some ⟨p, 0, none⟩), .pointer (some ⟨p, 4, none⟩), .slice qb g.B.length xb, undef, undef, undef, undef, undef, undef, undef, undef, undef], defers := [] } W) := by
      intro W C X Bw q8 R8
      rw [hΦ]
      have hpW : p < W.heap.size := (Array.getElem?_eq_some_iff.1 X).1
      have hloW : lo ≤ W.heap.size := by omega
      refine till_ready (rs := [9, 14, 20]) (by kernel_rfl) (by simp) ?_
      refine AllTill.cons rfl rfl (fun K hK => ?_) (AllTill.cons rfl rfl (fun K hK => ?_) (AllTill.cons rfl rfl (fun K hK => ?_) (AllTill.nil)))
      · rw [if_pos (by rfl)]
        refine wp_append_loc _ _ 26 rfl lo 9 iS (.string ⟨#[]⟩) 1 16 Try.underlying26 hiS hzS0 hzS1 hzS2 rfl (by decide) _ g.N.length (strsV g.N) rfl C.names ⟨q8, 0, none⟩ 1 1 (strsV [s]) rfl rfl (R8.cells rfl) (fun u hu => by simp [strsV] at hu; subst hu; rfl) (by have := hvn.out; unfold maxLen; omega) (by have := hvn.out; omega) hloW ?_
        intro v9 W9 o9 gr9 lc9
        have Cn := C.addN o9 gr9
        have Bn : Below lo w W9 := Below.grown Bw gr9 hloW (fun j hj => (C.names.lt j hj).1)
        have Xn : W9.heap[p]? = some (.cells #[.map (some mb), .slice qn n0 xn, .int .i64 (own : Int), .slice qu g.U.length xu, .slice qb g.B.length xb] 63 (0, 0)) := (gr9.block p hpW (fun e => by obtain ⟨cur, hc⟩ := row_block C.names e.symm; rw [X] at hc; simp at hc)).trans X
        refine hK.out _ _ (fun _ => HK.out _ Xn) ?_
        have h := N1001.out W9 v9 Cn Xn Bn q8
        rw [hΦ] at h
        exact till_at h (by kernel_rfl) (by kernel_rfl)
      · go_simp
        have Bn : Below lo w (W.alloc (.cells #[.slice none 0 0] 69)) := Bw.alloc hloW _
        have Xn : (W.alloc (.cells #[.slice none 0 0] 69)).heap[p]? = some (.cells #[.map (some mb), .slice qn n0 xn, .int .i64 (own : Int), .slice qu g.U.length xu, .slice qb g.B.length xb] 63 (0, 0)) := (vheap_old W _ hpW).trans X
        have Cn := C.new (World.grownBy_alloc W (.cells #[.slice none 0 0] 69) none) (fun q e => by cases e)
        have R14n : (W.alloc (.cells #[.slice none 0 0] 69)).ownsRow lo 69 1 (.slice (some ⟨W.heap.size, 0, none⟩) 1 1) 1 [.slice none 0 0] := World.ownsRow_lit W #[.slice none 0 0] 1 hloW (by unfold maxLen; omega) rfl
        refine hK.out _ _ (fun _ => HK.out _ Xn) ?_
        have h := N1100.out (W.alloc (.cells #[.slice none 0 0] 69)) Cn Xn Bn q8 (R8.alloc _) W.heap.size R14n
        rw [hΦ] at h
        exact till_at h (by kernel_rfl) (by kernel_rfl)
      · go_simp
        have Bn : Below lo w (W.alloc (.cells #[.slice none 0 0] 69)) := Bw.alloc hloW _
        have Xn : (W.alloc (.cells #[.slice none 0 0] 69)).heap[p]? = some (.cells #[.map (some mb), .slice qn n0 xn, .int .i64 (own : Int), .slice qu g.U.length xu, .slice qb g.B.length xb] 63 (0, 0)) := (vheap_old W _ hpW).trans X
        have Cn := C.new (World.grownBy_alloc W (.cells #[.slice none 0 0] 69) none) (fun q e => by cases e)
        have R20n : (W.alloc (.cells #[.slice none 0 0] 69)).ownsRow lo 69 1 (.slice (some ⟨W.heap.size, 0, none⟩) 1 1) 1 [.slice none 0 0] := World.ownsRow_lit W #[.slice none 0 0] 1 hloW (by unfold maxLen; omega) rfl
        have n20n : Value.ownBlock (.slice qu g.U.length xu) ≠ some W.heap.size := fun e => by have := (C.ru.lt _ e).2; omega
        refine hK.out _ _ (fun _ => HK.out _ Xn) ?_
        have h := N1010.out (W.alloc (.cells #[.slice none 0 0] 69)) Cn Xn Bn q8 (R8.alloc _) W.heap.size R20n n20n
        rw [hΦ] at h
        exact till_at h (by kernel_rfl) (by kernel_rfl)
    have N0100 : Hid (∀ (W : World) (C : GrC lo W mb (.slice qn n0 xn) (.slice qu g.U.length xu) (.slice qb g.B.length xb) us bs (g.N ++ [s]) g.N g.U g.B noX noX) (X : W.heap[p]? = some (.cells #[.map (some mb), .slice qn n0 xn, .int .i64 (own : Int), .slice qu g.U.length xu, .slice qb g.B.length xb] 63 (0, 0))) (Bw : Below lo w W) (q14 : Nat) (R14 : W.ownsRow lo 69 1 (.slice (some ⟨q14, 0, none⟩) 1 1) 1 [.slice none 0 0]), Φ 14 #[true, true, true, true, true, true, true, true, false, false, true, true, true, true, true, false, true, true, true, true, false, false, false, false, false, false, false, false, false, false, false] { tmps := #[.pointer (some ⟨p, 0, none⟩), .string s, undef, undef, .int .i64 0, .int .i64 (n0 : Int), .bool false, .tuple #[.int .i64 0, .bool false], .pointer (some ⟨p, 0, none⟩), .pointer (some ⟨p, 0, none⟩), .pointer (some ⟨p, 0, none⟩), .map (some mb), .string s, .tuple #[.int .i64 0, .bool false], .int .i64 0, .bool false, .bool false, .bool true, .pointer (some ⟨p, 0, none⟩), .pointer (some ⟨p, 0, none⟩), .pointer (some ⟨p, 1, none⟩), .slice qn n0 xn, .int .i64 (n0 : Int), .pointer (some ⟨p, 0, none⟩), .pointer (some ⟨p, 0, none⟩), .pointer (some ⟨p, 0, none⟩), .map (some mb), .string s, .int .i64 (n0 : Int), .pointer (some ⟨p, 0, none⟩), .pointer (some ⟨p, 0, none⟩), .pointer (some ⟨p, 0, none⟩), .pointer (some ⟨p, 0, none⟩), .pointer (some ⟨p, 0, none⟩), .pointer (some ⟨p, 1, none⟩), .slice qn n0 xn, .string s, undef, undef, .pointer (some ⟨p, 0, none⟩), .pointer (some ⟨p, 0, none⟩), .pointer (some ⟨p, 3, none⟩), .slice qu g.U.length xu, .slice (some ⟨q14, 0, none⟩) 1 1, undef, .pointer (some ⟨p, 0, none⟩), .pointer (some ⟨p, 0, none⟩), .pointer (some ⟨p, 4, none⟩), .slice qb g.B.length xb, undef, undef, undef, undef, undef, undef, undef, undef, undef], defers := [] } W) := by
      intro W C X Bw q14 R14
      rw [hΦ]
      have hpW : p < W.heap.size := (Array.getElem?_eq_some_iff.1 X).1
      have hloW : lo ≤ W.heap.size := by omega
      refine till_ready (rs := [8, 20]) (by kernel_rfl) (by simp) ?_
      refine AllTill.cons rfl rfl (fun K hK => ?_) (AllTill.cons rfl rfl (fun K hK => ?_) (AllTill.nil))
      · go_simp
        have Bn : Below lo w (W.alloc (.cells #[.string s] 9)) := Bw.alloc hloW _
        have Xn : (W.alloc (.cells #[.string s] 9)).heap[p]? = some (.cells #[.map (some mb), .slice qn n0 xn, .int .i64 (own : Int), .slice qu g.U.length xu, .slice qb g.B.length xb] 63 (0, 0)) := (vheap_old W _ hpW).trans X
        have Cn := C.new (World.grownBy_alloc W (.cells #[.string s] 9) none) (fun q e => by cases e)
        have R8n : (W.alloc (.cells #[.string s] 9)).ownsRow lo 9 1 (.slice (some ⟨W.heap.size, 0, none⟩) 1 1) 1 (strsV [s]) := World.ownsRow_lit W #[.string s] 1 hloW (by unfold maxLen; omega) rfl
        refine hK.out _ _ (fun _ => HK.out _ Xn) ?_
        have h := N1100.out (W.alloc (.cells #[.string s] 9)) Cn Xn Bn W.heap.size R8n q14 (R14.alloc _)
        rw [hΦ] at h
        exact till_at h (by kernel_rfl) (by kernel_rfl)
      · go_simp
        have Bn : Below lo w (W.alloc (.cells #[.slice none 0 0] 69)) := Bw.alloc hloW _
        have Xn : (W.alloc (.cells #[.slice none 0 0] 69)).heap[p]? = some (.cells #[.map (some mb), .slice qn n0 xn, .int .i64 (own : Int), .slice qu g.U.length xu, .slice qb g.B.length xb] 63 (0, 0)) := (vheap_old W _ hpW).trans X
        have Cn := C.new (World.grownBy_alloc W (.cells #[.slice none 0 0] 69) none) (fun q e => by cases e)
        have R20n : (W.alloc (.cells #[.slice none 0 0] 69)).ownsRow lo 69 1 (.slice (some ⟨W.heap.size, 0, none⟩) 1 1) 1 [.slice none 0 0] := World.ownsRow_lit W #[.slice none 0 0] 1 hloW (by unfold maxLen; omega) rfl
        have n20n : Value.ownBlock (.slice qu g.U.length xu) ≠ some W.heap.size := fun e => by have := (C.ru.lt _ e).2; omega
        refine hK.out _ _ (fun _ => HK.out _ Xn) ?_
        have h := N0110.out (W.alloc (.cells #[.slice none 0 0] 69)) Cn Xn Bn q14 (R14.alloc _) W.heap.size R20n n20n
        rw [hΦ] at h
        exact till_at h (by kernel_rfl) (by kernel_rfl)
    have N0010 : Hid (∀ (W : World) (C : GrC lo W mb (.slice qn n0 xn) (.slice qu g.U.length xu) (.slice qb g.B.length xb) us bs (g.N ++ [s]) g.N g.U g.B noX noX) (X : W.heap[p]? = some (.cells #[.map (some mb), .slice qn n0 xn, .int .i64 (own : Int), .slice qu g.U.length xu, .slice qb g.B.length xb] 63 (0, 0))) (Bw : Below lo w W) (q20 : Nat) (R20 : W.ownsRow lo 69 1 (.slice (some ⟨q20, 0, none⟩) 1 1) 1 [.slice none 0 0]) (n20 : Value.ownBlock (.slice qu g.U.length xu) ≠ some q20), Φ 14 #[true, true, true, true, true, true, true, true, false, false, true, true, true, true, false, false, true, true, true, true, true, false, false, false, false, false, false, false, false, false, false] { tmps := #[.pointer (some ⟨p, 0, none⟩), .string s, undef, undef, .int .i64 0, .int .i64 (n0 : Int), .bool false, .tuple #[.int .i64 0, .bool false], .pointer (some ⟨p, 0, none⟩), .pointer (some ⟨p, 0, none⟩), .pointer (some ⟨p, 0, none⟩), .map (some mb), .string s, .tuple #[.int .i64 0, .bool false], .int .i64 0, .bool false, .bool false, .bool true, .pointer (some ⟨p, 0, none⟩), .pointer (some ⟨p, 0, none⟩), .pointer (some ⟨p, 1, none⟩), .slice qn n0 xn, .int .i64 (n0 : Int), .pointer (some ⟨p, 0, none⟩), .pointer (some ⟨p, 0, none⟩), .pointer (some ⟨p, 0, none⟩), .map (some mb), .string s, .int .i64 (n0 : Int), .pointer (some ⟨p, 0, none⟩), .pointer (some ⟨p, 0, none⟩), .pointer (some ⟨p, 0, none⟩), .pointer (some ⟨p, 0, none⟩), .pointer (some ⟨p, 0, none⟩), .pointer (some ⟨p, 1, none⟩), .slice qn n0 xn, .string s, undef, undef, .pointer (some ⟨p, 0, none⟩), .pointer (some ⟨p, 0, none⟩), .pointer (some ⟨p, 3, none⟩), .slice qu g.U.length xu, undef, undef, .pointer (some ⟨p, 0, none⟩), .pointer (some ⟨p, 0, none⟩), .pointer (some ⟨p, 4, none⟩), .slice qb g.B.length xb, .slice (some ⟨q20, 0, none⟩) 1 1, undef, undef, undef, undef, undef, undef, undef, undef], defers := [] } W) := by
      intro W C X Bw q20 R20 n20
      rw [hΦ]
      have hpW : p < W.heap.size := (Array.getElem?_eq_some_iff.1 X).1
      have hloW : lo ≤ W.heap.size := by omega
      refine till_ready (rs := [8, 14]) (by kernel_rfl) (by simp) ?_
      refine AllTill.cons rfl rfl (fun K hK => ?_) (AllTill.cons rfl rfl (fun K hK => ?_) (AllTill.nil))
      · go_simp
        have Bn : Below lo w (W.alloc (.cells #[.string s] 9)) := Bw.alloc hloW _
        have Xn : (W.alloc (.cells #[.string s] 9)).heap[p]? = some (.cells #[.map (some mb), .slice qn n0 xn, .int .i64 (own : Int), .slice qu g.U.length xu, .slice qb g.B.length xb] 63 (0, 0)) := (vheap_old W _ hpW).trans X
        have Cn := C.new (World.grownBy_alloc W (.cells #[.string s] 9) none) (fun q e => by cases e)
        have R8n : (W.alloc (.cells #[.string s] 9)).ownsRow lo 9 1 (.slice (some ⟨W.heap.size, 0, none⟩) 1 1) 1 (strsV [s]) := World.ownsRow_lit W #[.string s] 1 hloW (by unfold maxLen; omega) rfl
        refine hK.out _ _ (fun _ => HK.out _ Xn) ?_
        have h := N1010.out (W.alloc (.cells #[.string s] 9)) Cn Xn Bn W.heap.size R8n q20 (R20.alloc _) n20
        rw [hΦ] at h
        exact till_at h (by kernel_rfl) (by kernel_rfl)
      · go_simp
        have Bn : Below lo w (W.alloc (.cells #[.slice none 0 0] 69)) := Bw.alloc hloW _
        have Xn : (W.alloc (.cells #[.slice none 0 0] 69)).heap[p]? = some (.cells #[.map (some mb), .slice qn n0 xn, .int .i64 (own : Int), .slice qu g.U.length xu, .slice qb g.B.length xb] 63 (0, 0)) := (vheap_old W _ hpW).trans X
        have Cn := C.new (World.grownBy_alloc W (.cells #[.slice none 0 0] 69) none) (fun q e => by cases e)
        have R14n : (W.alloc (.cells #[.slice none 0 0] 69)).ownsRow lo 69 1 (.slice (some ⟨W.heap.size, 0, none⟩) 1 1) 1 [.slice none 0 0] := World.ownsRow_lit W #[.slice none 0 0] 1 hloW (by unfold maxLen; omega) rfl
        refine hK.out _ _ (fun _ => HK.out _ Xn) ?_
        have h := N0110.out (W.alloc (.cells #[.slice none 0 0] 69)) Cn Xn Bn W.heap.size R14n q20 (R20.alloc _) n20
        rw [hΦ] at h
        exact till_at h (by kernel_rfl) (by kernel_rfl)
    have N0000 : Hid (∀ (W : World) (C : GrC lo W mb (.slice qn n0 xn) (.slice qu g.U.length xu) (.slice qb g.B.length xb) us bs (g.N ++ [s]) g.N g.U g.B noX noX) (X : W.heap[p]? = some (.cells #[.map (some mb), .slice qn n0 xn, .int .i64 (own : Int), .slice qu g.U.length xu, .slice qb g.B.length xb] 63 (0, 0))) (Bw : Below lo w W), Φ 15 #[true, true, true, true, true, true, true, true, false, false, true, true, true, true, false, false, true, true, true, true, false, false, false, false, false, false, false, false, false, false, false] { tmps := #[.pointer (some ⟨p, 0, none⟩), .string s, undef, undef, .int .i64 0, .int .i64 (n0 : Int), .bool false, .tuple #[.int .i64 0, .bool false], .pointer (some ⟨p, 0, none⟩), .pointer (some ⟨p, 0, none⟩), .pointer (some ⟨p, 0, none⟩), .map (some mb), .string s, .tuple #[.int .i64 0, .bool false], .int .i64 0, .bool false, .bool false, .bool true, .pointer (some ⟨p, 0, none⟩), .pointer (some ⟨p, 0, none⟩), .pointer (some ⟨p, 1, none⟩), .slice qn n0 xn, .int .i64 (n0 : Int), .pointer (some ⟨p, 0, none⟩), .pointer (some ⟨p, 0, none⟩), .pointer (some ⟨p, 0, none⟩), .map (some mb), .string s, .int .i64 (n0 : Int), .pointer (some ⟨p, 0, none⟩), .pointer (some ⟨p, 0, none⟩), .pointer (some ⟨p, 0, none⟩), .pointer (some ⟨p, 0, none⟩), .pointer (some ⟨p, 0, none⟩), .pointer (some ⟨p, 1, none⟩), .slice qn n0 xn, .string s, undef, undef, .pointer (some ⟨p, 0, none⟩), .pointer (some ⟨p, 0, none⟩), .pointer (some ⟨p, 3, none⟩), .slice qu g.U.length xu, undef, undef, .pointer (some ⟨p, 0, none⟩), .pointer (some ⟨p, 0, none⟩), .pointer (some ⟨p, 4, none⟩), .slice qb g.B.length xb, undef, undef, undef, undef, undef, undef, undef, undef, undef], defers := [] } W) := by
      intro W C X Bw
      rw [hΦ]
      have hpW : p < W.heap.size := (Array.getElem?_eq_some_iff.1 X).1
      have hloW : lo ≤ W.heap.size := by omega
      refine till_ready (rs := [8, 14, 20]) (by kernel_rfl) (by simp) ?_
      refine AllTill.cons rfl rfl (fun K hK => ?_) (AllTill.cons rfl rfl (fun K hK => ?_) (AllTill.cons rfl rfl (fun K hK => ?_) (AllTill.nil)))
      · go_simp
        have Bn : Below lo w (W.alloc (.cells #[.string s] 9)) := Bw.alloc hloW _
        have Xn : (W.alloc (.cells #[.string s] 9)).heap[p]? = some (.cells #[.map (some mb), .slice qn n0 xn, .int .i64 (own : Int), .slice qu g.U.length xu, .slice qb g.B.length xb] 63 (0, 0)) := (vheap_old W _ hpW).trans X
        have Cn := C.new (World.grownBy_alloc W (.cells #[.string s] 9) none) (fun q e => by cases e)
        have R8n : (W.alloc (.cells #[.string s] 9)).ownsRow lo 9 1 (.slice (some ⟨W.heap.size, 0, none⟩) 1 1) 1 (strsV [s]) := World.ownsRow_lit W #[.string s] 1 hloW (by unfold maxLen; omega) rfl
        refine hK.out _ _ (fun _ => HK.out _ Xn) ?_
        have h := N1000.out (W.alloc (.cells #[.string s] 9)) Cn Xn Bn W.heap.size R8n
        rw [hΦ] at h
        exact till_at h (by kernel_rfl) (by kernel_rfl)
      · go_simp
        have Bn : Below lo w (W.alloc (.cells #[.slice none 0 0] 69)) := Bw.alloc hloW _
        have Xn : (W.alloc (.cells #[.slice none 0 0] 69)).heap[p]? = some (.cells #[.map (some mb), .slice qn n0 xn, .int .i64 (own : Int), .slice qu g.U.length xu, .slice qb g.B.length xb] 63 (0, 0)) := (vheap_old W _ hpW).trans X
        have Cn := C.new (World.grownBy_alloc W (.cells #[.slice none 0 0] 69) none) (fun q e => by cases e)
        have R14n : (W.alloc (.cells #[.slice none 0 0] 69)).ownsRow lo 69 1 (.slice (some ⟨W.heap.size, 0, none⟩) 1 1) 1 [.slice none 0 0] := World.ownsRow_lit W #[.slice none 0 0] 1 hloW (by unfold maxLen; omega) rfl
        refine hK.out _ _ (fun _ => HK.out _ Xn) ?_
        have h := N0100.out (W.alloc (.cells #[.slice none 0 0] 69)) Cn Xn Bn W.heap.size R14n
        rw [hΦ] at h
        exact till_at h (by kernel_rfl) (by kernel_rfl)
      · go_simp
        have Bn : Below lo w (W.alloc (.cells #[.slice none 0 0] 69)) := Bw.alloc hloW _
        have Xn : (W.alloc (.cells #[.slice none 0 0] 69)).heap[p]? = some (.cells #[.map (some mb), .slice qn n0 xn, .int .i64 (own : Int), .slice qu g.U.length xu, .slice qb g.B.length xb] 63 (0, 0)) := (vheap_old W _ hpW).trans X
        have Cn := C.new (World.grownBy_alloc W (.cells #[.slice none 0 0] 69) none) (fun q e => by cases e)
        have R20n : (W.alloc (.cells #[.slice none 0 0] 69)).ownsRow lo 69 1 (.slice (some ⟨W.heap.size, 0, none⟩) 1 1) 1 [.slice none 0 0] := World.ownsRow_lit W #[.slice none 0 0] 1 hloW (by unfold maxLen; omega) rfl
        have n20n : Value.ownBlock (.slice qu g.U.length xu) ≠ some W.heap.size := fun e => by have := (C.ru.lt _ e).2; omega
        refine hK.out _ _ (fun _ => HK.out _ Xn) ?_
        have h := N0010.out (W.alloc (.cells #[.slice none 0 0] 69)) Cn Xn Bn W.heap.size R20n n20n
        rw [hΦ] at h
        exact till_at h (by kernel_rfl) (by kernel_rfl)
    have h := N0000.out w2 D0 X0 B0
    rw [hΦ] at h
    exact till_at h (by kernel_rfl) (by kernel_rfl)
end Go.Proofs.Ytkkhnldhipfneaa

/-! What a pack uses is laid over the numbers, as the program does it: a contract for the walks; conditions: the graph and the list lie in memory, and hold fewer than 2 to the 22. -/
namespace Go.Proofs.Ytkkhnldhipfneaa
open Go.RowKit Go.Maps
set_option linter.unusedSimpArgs false
set_option linter.unusedVariables false

theorem owns_pos {w : World} {lo sz n : Nat} {e : TypeId} {v : Value} {xs : List Value} (h : w.ownsRow lo e sz v n xs) (hn : 0 < n) : ∃ g cap, v = .slice (some ⟨g, 0, none⟩) n cap := by
  rcases h.2 with ⟨_, h0⟩ | ⟨g, cap, _, h1, _⟩
  · omega
  · exact ⟨g, cap, h1⟩
theorem GD.add_len (g : GD) (s : ByteArray) : (g.add s).N.length ≤ g.N.length + 1 := by
  unfold GD.add
  split
  · omega
  · simp
theorem fold_use_len (a : Nat) (os : List ByteArray) : ∀ g : GD, (os.foldl (GD.use a) g).N.length ≤ g.N.length + os.length := by
  induction os with
  | nil => intro g; simp
  | cons o os ih =>
    intro g
    have h1 := ih (GD.use a g o)
    have h2 : (GD.use a g o).N.length ≤ g.N.length + 1 := GD.add_len g o
    rw [List.foldl_cons, List.length_cons]
    omega
theorem rowAt_put_le (L : List (List Nat)) (i x j : Nat) : (rowAt (putAt L i x) j).length ≤ (rowAt L j).length + 1 := by
  by_cases hi : i < L.length
  · rw [rowAt_put L i x j hi]
    split
    · simp
    · omega
  · unfold putAt
    rw [List.set_eq_of_length_le (by omega)]
    omega
theorem fold_use_rows (a : Nat) (os : List ByteArray) : ∀ (g : GD) (i : Nat), (rowAt (os.foldl (GD.use a) g).U i).length ≤ (rowAt g.U i).length + os.length ∧ (rowAt (os.foldl (GD.use a) g).B i).length ≤ (rowAt g.B i).length + os.length := by
  induction os with
  | nil => intro g i; simp
  | cons o os ih =>
    intro g i
    obtain ⟨h1, h2⟩ := ih (GD.use a g o) i
    obtain ⟨h3, h4⟩ := GD.add_row g o i
    have h5 : (rowAt (GD.use a g o).U i).length ≤ (rowAt (g.add o).U i).length + 1 := rowAt_put_le _ _ _ _
    have h6 : (rowAt (GD.use a g o).B i).length ≤ (rowAt (g.add o).B i).length + 1 := rowAt_put_le _ _ _ _
    rw [h3] at h5
    rw [h4] at h6
    rw [List.foldl_cons, List.length_cons]
    omega
theorem fold_take (a : Nat) (g : GD) (os : List ByteArray) (k : Nat) (h : k < os.length) : (os.take (k + 1)).foldl (GD.use a) g = GD.use a ((os.take k).foldl (GD.use a) g) os[k] := by
  rw [List.take_succ_eq_append_getElem h, List.foldl_append]; rfl

set_option maxHeartbeats 16000000 in
set_option maxRecDepth 100000 in
theorem addUses_c (lo p own : Nat) (g : GD) (s : ByteArray) (S : Nat → Prop) (v : Value) (os : List ByteArray) (w : World) (h : GrM lo w p own g) (hok : g.ok) (hv : RdB S w v (strsV os)) (hS : ∀ b, S b → b < lo) (hs : s.size ≤ maxLen) (hos : ∀ x ∈ os, x.size ≤ maxLen) (hN : g.N.length + os.length ≤ 4194303) (hE : ∀ i, (rowAt g.U i).length + os.length ≤ 1099511627776 ∧ (rowAt g.B i).length + os.length ≤ 1099511627776) :
    Calls Try.prog 74 #[.pointer (some ⟨p, 0, none⟩), .string s, v] w fun e w' => e = .returned (.tuple #[]) ∧ GrM lo w' p own (g.uses s os) ∧ Below lo w w' := by
  obtain ⟨iI, hiI, hzI0, hzI1, hzI2⟩ := info_parts infoI
  have HN0 := hidden (numberOf_c lo p own g s w h hok hs (by omega))
  have hlo : lo ≤ w.heap.size := by obtain ⟨_, _, _, _, _, _, hb, hp, _⟩ := h; have := (Array.getElem?_eq_some_iff.1 hb).1; omega
  have hok0 := hok.add s
  have hlen0 := GD.add_len g s
  obtain ⟨a, ha⟩ : ∃ a, a = posN (g.add s).N s := ⟨_, rfl⟩
  have halt : a < (g.add s).N.length := by rw [ha]; exact posN_lt.2 (GD.add_mem g s)
  have HU : Hid (g.uses s os = os.foldl (GD.use a) (g.add s)) := by show _ = _; unfold GD.uses; rw [← ha]
  rw [HU.out]
  rw [← ha] at HN0
  have hE0 : ∀ i, (rowAt (g.add s).U i).length + os.length ≤ 1099511627776 ∧ (rowAt (g.add s).B i).length + os.length ≤ 1099511627776 := fun i => by rw [(GD.add_row g s i).1, (GD.add_row g s i).2]; exact hE i
  obtain ⟨g0, hg0⟩ : ∃ g0, g0 = g.add s := ⟨_, rfl⟩
  rw [← hg0] at HN0 hok0 hlen0 halt hE0 ⊢
  obtain ⟨av, cv, rfl, hcv, hav⟩ := hv
  rw [length_strsV] at hcv ⊢
  have hF := GD.fold_use a
  clear h hok ha hg0 HU
  go_enter Try.func74, Try.ntmps74
  go_wp2_with (go_at_call 73; refine HN0.out.mono ?_; rintro e w1 ⟨rfl, G1, b1⟩)
  clear HN0
  have HG1 := hidden G1
  clear G1
  go_loopw [15] (fun vi wr => ∃ k : Nat, k ≤ os.length ∧ vi = .int .i64 (k : Int) ∧ Hid (GrM lo wr p own ((os.take k).foldl (GD.use a) g0)) ∧ Below lo w wr) (fun vi _ => os.length - (intOf vi).toNat)
  case atStart => exact ⟨0, Nat.zero_le _, rfl, by rw [List.take_zero]; exact HG1.out, b1⟩
  case round =>
    clear HG1 b1
    obtain ⟨k, hk, rfl, HG, hbr⟩ := hrel
    by_cases hlt' : k < os.length
    · obtain ⟨f1, ⟨M, f2⟩, _, _⟩ := hF (os.take k) g0 hok0 halt
      have f3 := fold_use_len a (os.take k) g0
      have f4 : (os.take k).length = k := by rw [List.length_take]; omega
      have HT := hidden (fold_take a g0 os k hlt')
      have hR1 : ∀ i, (rowAt (((os.take k).foldl (GD.use a) g0).add os[k]).U i).length ≤ 1099511627776 ∧ (rowAt (((os.take k).foldl (GD.use a) g0).add os[k]).B i).length ≤ 1099511627776 := fun i => by
        rw [(GD.add_row _ _ i).1, (GD.add_row _ _ i).2]
        have h1 := fold_use_rows a (os.take k) g0 i
        have h2 := hE0 i
        omega
      rcases hav with hav | ⟨b, off, rfl, hb, hav⟩
      · have := congrArg List.length hav; rw [length_strsV] at this; simp at this; rw [this] at hlt'; simp at hlt'
      have e0 : wr.cell? ⟨b, off + k, none⟩ = some (.string os[k]) := by
        rw [hbr.cell (p := ⟨b, off + k, none⟩) (hS b hb), hav k (by rw [length_strsV]; exact hlt')]
        simp [strsV]
      have hosk := hos os[k] (List.getElem_mem hlt')
      obtain ⟨o, ho⟩ : ∃ o, o = os[k] := ⟨_, rfl⟩
      rw [← ho] at HT e0 hosk hR1
      obtain ⟨G, hG⟩ : ∃ G, G = (os.take k).foldl (GD.use a) g0 := ⟨_, rfl⟩
      rw [← hG] at HG HT f1 f2 f3 hR1
      have haG : a < G.N.length := by rw [f2, List.length_append]; omega
      have HN := hidden (numberOf_c lo p own G o wr HG.out f1 hosk (by omega))
      obtain ⟨f5, f6⟩ := f1.use haG o
      have f7 := GD.add_len G o
      have f8 := f1.add o
      have HE : Hid (GD.use a G o = (G.add o).edge a (posN (G.add o).N o)) := rfl
      rw [HE.out] at HT
      have hbl : posN (G.add o).N o < (G.add o).N.length := posN_lt.2 (GD.add_mem G o)
      have haL : a < (G.add o).N.length := f6
      obtain ⟨t, ht⟩ : ∃ t, t = posN (G.add o).N o := ⟨_, rfl⟩
      obtain ⟨H, hH⟩ : ∃ H, H = G.add o := ⟨_, rfl⟩
      rw [← ht] at HN HT hbl
      rw [← hH] at HN HT hbl haL f7 f8 hR1
      have hlenU := (hR1 a).1
      have hlenB := (hR1 t).2
      clear hR1
      have hHl : H.N.length ≤ 4194304 := by omega
      have hki : (k : Int) < (os.length : Int) := by omega
      clear hav ho hG f1 f2 f3 f4 f5 f6 f7 HE ht hH HG haG hosk M
      go_wp2_with (go_at_call 73; refine HN.out.mono ?_; rintro e w2 ⟨rfl, G2, b2⟩)
      have hb2 : Below lo w w2 := hbr.trans b2
      clear HN b2 e0 hbr
      have HG2 := hidden G2
      have HB2 := hidden hb2
      clear G2 hb2
      obtain ⟨mb, vn, vu, vb, us, bs, hbox, hp, C⟩ := HG2.out
      have haU : a < H.U.length := by rw [f8.u]; exact haL
      have htB : t < H.B.length := by rw [f8.b]; exact hbl
      obtain ⟨gu, xu, eu⟩ := owns_pos C.ru (by omega)
      obtain ⟨gb, xb, eb⟩ := owns_pos C.rb (by omega)
      subst eu eb
      have hul : a < us.length := by rw [C.len_u]; exact haU
      have hbl2 : t < bs.length := by rw [C.len_b]; exact htB
      have hua : us[a]? = some us[a] := List.getElem?_eq_getElem hul
      have hbt : bs[t]? = some bs[t] := List.getElem?_eq_getElem hbl2
      obtain ⟨qa, na, ca, eua⟩ : ∃ q m c, us[a] = .slice q m c := by obtain ⟨q, c, e⟩ := owns_slG (C.eu a _ (fun h => h) hua); exact ⟨q, _, c, e⟩
      obtain ⟨qt, nt, ct, eub⟩ : ∃ q m c, bs[t] = .slice q m c := by obtain ⟨q, c, e⟩ := owns_slG (C.eb t _ (fun h => h) hbt); exact ⟨q, _, c, e⟩
      rw [eua] at hua
      rw [eub] at hbt
      clear eua eub hul hbl2
      have haI : (a : Int) < (H.U.length : Int) := by omega
      have htI : (t : Int) < (H.B.length : Int) := by omega
      have hlU : (rowAt H.U a).length ≤ 1099511627776 := hlenU
      have hlB : (rowAt H.B t).length ≤ 1099511627776 := hlenB
      have HK : Hid (∀ (W : World) (za zb : Nat → Prop), W.heap[p]? = some (.cells #[.map (some mb), vn, .int .i64 (own : Int), (.slice (some ⟨gu, 0, none⟩) H.U.length xu), (.slice (some ⟨gb, 0, none⟩) H.B.length xb)] 63 (0, 0)) → GrC lo W mb vn (.slice (some ⟨gu, 0, none⟩) H.U.length xu) (.slice (some ⟨gb, 0, none⟩) H.B.length xb) us bs H.N H.N H.U H.B za zb → (fun W => W.cell? ⟨p, 3, none⟩ = some (.slice (some ⟨gu, 0, none⟩) H.U.length xu) ∧ W.cell? ⟨p, 4, none⟩ = some (.slice (some ⟨gb, 0, none⟩) H.B.length xb) ∧ W.cell? ⟨gu, a, none⟩ = some (.slice qa na ca) ∧ W.cell? ⟨gb, t, none⟩ = some (.slice qt nt ct)) W) := fun W za zb hW C => ⟨vblk_cell hW 3, vblk_cell hW 4, by rw [C.ru.cellAt a (by omega)]; exact hua, by rw [C.rb.cellAt t (by omega)]; exact hbt⟩
      have D0 : GrC lo w2.drew mb vn (.slice (some ⟨gu, 0, none⟩) H.U.length xu) (.slice (some ⟨gb, 0, none⟩) H.B.length xb) us bs H.N H.N H.U H.B noX noX := C.new (r := none) (grown_of_below (Below.refl _ _).drew none) (fun q e => by cases e)
      have X0 : w2.drew.heap[p]? = some (.cells #[.map (some mb), vn, .int .i64 (own : Int), (.slice (some ⟨gu, 0, none⟩) H.U.length xu), (.slice (some ⟨gb, 0, none⟩) H.B.length xb)] 63 (0, 0)) := hbox
      have B0 : Below lo w w2.drew := HB2.out.drew
      refine till_region (fun W => W.cell? ⟨p, 3, none⟩ = some (.slice (some ⟨gu, 0, none⟩) H.U.length xu) ∧ W.cell? ⟨p, 4, none⟩ = some (.slice (some ⟨gb, 0, none⟩) H.B.length xb) ∧ W.cell? ⟨gu, a, none⟩ = some (.slice qa na ca) ∧ W.cell? ⟨gb, t, none⟩ = some (.slice qt nt ct)) 31 (by kernel_rfl) (HK.out _ _ _ X0 D0) (fun hHeld => ?_)
      clear HG2 HB2 hbox C
      generalize w2.drew = w3 at hHeld D0 X0 B0 ⊢
      refine till_at (k' := 34) (l' := #[false, false, false, false, false, false, false, false, false, false, false, false, false, false, false, false, false, false, false, false, false, false, false, false, false, false, false, false, false, false, false, false, false, false]) ?_ (by kernel_rfl) (by kernel_rfl)
      refine tv 0 hHeld (h := ?_)
      refine tv 1 hHeld (h := ?_)
      refine tv 2 hHeld (h := ?_)
      refine tu 3 hHeld (h := ?_)
      refine tv 4 hHeld (h := ?_)
      refine tv 5 hHeld (h := ?_)
      refine tv 6 hHeld (h := ?_)
      refine tv 7 hHeld (h := ?_)
      refine tu 8 hHeld (h := ?_)
      refine tv 9 hHeld (h := ?_)
      refine tv 10 hHeld (h := ?_)
      refine tv 11 hHeld (h := ?_)
      refine tv 12 hHeld (h := ?_)
      refine tu 13 hHeld (h := ?_)
      refine tv 14 hHeld (h := ?_)
      refine tv 15 hHeld (h := ?_)
      refine tu 16 hHeld (h := ?_)
      refine tv 17 hHeld (h := ?_)
      refine tv 20 hHeld (h := ?_)
      refine tv 21 hHeld (h := ?_)
      refine tv 22 hHeld (h := ?_)
      refine tu 23 hHeld (h := ?_)
      refine tv 24 hHeld (h := ?_)
      refine tv 25 hHeld (h := ?_)
      refine tu 26 hHeld (h := ?_)
      refine tv 27 hHeld (h := ?_)
      clear hHeld
      refine till_phi (fun Φ hΦ => ?_)
      have N112 : Hid (∀ (W : World) (va : Value) (vt : Value) (C : GrC lo W mb vn (.slice (some ⟨gu, 0, none⟩) H.U.length xu) (.slice (some ⟨gb, 0, none⟩) H.B.length xb) us bs H.N H.N H.U H.B (fun i => noX i ∨ i = a) (fun i => noX i ∨ i = t)) (X : W.heap[p]? = some (.cells #[.map (some mb), vn, .int .i64 (own : Int), (.slice (some ⟨gu, 0, none⟩) H.U.length xu), (.slice (some ⟨gb, 0, none⟩) H.B.length xb)] 63 (0, 0))) (Bw : Below lo w W) (q1 : Nat) (q2 : Nat) (Ra : W.ownsRow lo 3 1 va ((rowAt H.U a).length + 1) (intsV (rowAt H.U a) ++ [.int .i64 (t : Int)])) (c1 : ∀ (j g : Nat) (u : Value), j ≠ a → us[j]? = some u → u.ownBlock = some g → va.ownBlock ≠ some g) (c2 : ∀ (j g : Nat) (u : Value), bs[j]? = some u → u.ownBlock = some g → va.ownBlock ≠ some g) (Rt : W.ownsRow lo 3 1 vt ((rowAt H.B t).length + 1) (intsV (rowAt H.B t) ++ [.int .i64 (a : Int)])) (d1 : ∀ (j g : Nat) (u : Value), j ≠ t → bs[j]? = some u → u.ownBlock = some g → vt.ownBlock ≠ some g) (d2 : ∀ (j g : Nat) (u : Value), us[j]? = some u → u.ownBlock = some g → vt.ownBlock ≠ some g) (d3 : ∀ g : Nat, va.ownBlock = some g → vt.ownBlock ≠ some g), Φ 4 #[true, true, true, true, true, true, true, true, true, true, true, true, true, true, true, true, true, true, true, true, true, true, true, true, true, true, true, true, true, true, false, false, false, false] { tmps := #[.pointer (some ⟨p, 0, none⟩), .string s, .slice (some ⟨b, off, none⟩) os.length cv, undef, undef, undef, .int .i64 (a : Int), undef, .string o, .int .i64 (t : Int), .pointer (some ⟨p, 0, none⟩), .string s, .int .i64 (a : Int), .slice (some ⟨b, off, none⟩) os.length cv, .int .i64 (os.length : Int), .int .i64 (k : Int), .bool true, .pointer (some ⟨b, off + k, none⟩), .string o, .pointer (some ⟨p, 0, none⟩), .string o, .int .i64 (t : Int), .pointer (some ⟨p, 0, none⟩), .pointer (some ⟨p, 0, none⟩), .pointer (some ⟨p, 3, none⟩), (.slice (some ⟨gu, 0, none⟩) H.U.length xu), .int .i64 (a : Int), .pointer (some ⟨p, 0, none⟩), .pointer (some ⟨p, 0, none⟩), .pointer (some ⟨p, 4, none⟩), (.slice (some ⟨gb, 0, none⟩) H.B.length xb), .int .i64 (t : Int), .pointer (some ⟨p, 0, none⟩), .pointer (some ⟨p, 0, none⟩), .pointer (some ⟨p, 3, none⟩), (.slice (some ⟨gu, 0, none⟩) H.U.length xu), .int .i64 (a : Int), .pointer (some ⟨gu, a, none⟩), (.slice qa na ca), .int .i64 (t : Int), .slice (some ⟨q1, 0, none⟩) 1 1, va, .pointer (some ⟨p, 0, none⟩), .pointer (some ⟨p, 0, none⟩), .pointer (some ⟨p, 4, none⟩), (.slice (some ⟨gb, 0, none⟩) H.B.length xb), .int .i64 (t : Int), .pointer (some ⟨gb, t, none⟩), (.slice qt nt ct), .int .i64 (a : Int), .slice (some ⟨q2, 0, none⟩) 1 1, vt, u52, u53, u54], defers := [] } W) := by
        intro W va vt C X Bw q1 q2 Ra c1 c2 Rt d1 d2 d3
        rw [hΦ]
        have hpW : p < W.heap.size := (Array.getElem?_eq_some_iff.1 X).1
        have hloW : lo ≤ W.heap.size := by omega
        obtain ⟨ya, ma, xa, eva⟩ : ∃ q m c, va = .slice q m c := by obtain ⟨q, c, e⟩ := owns_slG Ra; exact ⟨q, _, c, e⟩
        obtain ⟨yt, mt, xt, evt⟩ : ∃ q m c, vt = .slice q m c := by obtain ⟨q, c, e⟩ := owns_slG Rt; exact ⟨q, _, c, e⟩
        subst eva evt
        refine till_ready (rs := [30]) (by kernel_rfl) (by simp) ?_
        refine AllTill.cons rfl rfl (fun K hK => ?_) AllTill.nil
        go_simp
        refine hK.out _ _ (fun _ => HK.out _ _ _ X C) ?_
        clear hK K
        refine till_ready (rs := [31]) (by kernel_rfl) (by simp) ?_
        refine AllTill.cons rfl rfl (fun K hK => ?_) AllTill.nil
        have x31 : W.cell? ⟨gu, a, none⟩ = some (.slice qa na ca) := by rw [C.ru.cellAt a (by omega)]; exact hua
        have f31 := C.ru.frozenAt a
        go_simp
        have C31 := C.fill (u' := (.slice ya ma xa)) (x := t) haU (fun i h => h.elim (fun h => h.elim) id) (by rw [intsV_app]; exact Ra) c1 c2
        have X31 : (W.setCell ⟨gu, a, none⟩ (.slice ya ma xa)).heap[p]? = some (.cells #[.map (some mb), vn, .int .i64 (own : Int), (.slice (some ⟨gu, 0, none⟩) H.U.length xu), (.slice (some ⟨gb, 0, none⟩) H.B.length xb)] 63 (0, 0)) := ((grown_set W gu a (.slice ya ma xa)).block p hpW (fun e => by obtain ⟨cur, hc⟩ := row_block C.ru (g := p) (by rw [← Option.some.inj e]; rfl); rw [X] at hc; simp at hc)).trans X
        have B31 : Below lo w (W.setCell ⟨gu, a, none⟩ (.slice ya ma xa)) := Below.setCell Bw (C.ru.lt gu rfl).1 _
        have R31 := Rt.kept (grown_set W gu a (.slice ya ma xa)) (apart_r Rt C.ru (by decide))
        refine hK.out _ _ (fun h => nomatch (show true = false from h)) ?_
        generalize W.setCell ⟨gu, a, none⟩ (.slice ya ma xa) = V at X31 C31 B31 R31 ⊢
        clear x31 f31 hK K
        refine till_ready (rs := [32]) (by kernel_rfl) (by simp) ?_
        refine AllTill.cons rfl rfl (fun K hK => ?_) AllTill.nil
        go_simp
        refine hK.out _ _ (fun h => nomatch (show true = false from h)) ?_
        clear hK K
        refine till_ready (rs := [33]) (by kernel_rfl) (by simp) ?_
        refine AllTill.cons rfl rfl (fun K hK => ?_) AllTill.nil
        have x33 : V.cell? ⟨gb, t, none⟩ = some (.slice qt nt ct) := by rw [C31.rb.cellAt t (by omega)]; exact hbt
        have f33 := C31.rb.frozenAt t
        go_simp
        have C33 := (C31.swap.fill (u' := (.slice yt mt xt)) (x := a) htB (fun i h => h.elim (fun h => h.elim) id) (by rw [intsV_app]; exact R31) d1 (fun j g u hu hg => by rcases at_set hu with ⟨_, hu⟩ | ⟨_, rfl⟩; exact d2 j g u hu hg; exact d3 g hg)).swap
        have X33 : (V.setCell ⟨gb, t, none⟩ (.slice yt mt xt)).heap[p]? = some (.cells #[.map (some mb), vn, .int .i64 (own : Int), (.slice (some ⟨gu, 0, none⟩) H.U.length xu), (.slice (some ⟨gb, 0, none⟩) H.B.length xb)] 63 (0, 0)) := ((grown_set V gb t (.slice yt mt xt)).block p (Array.getElem?_eq_some_iff.1 X31).1 (fun e => by obtain ⟨cur, hc⟩ := row_block C31.rb (g := p) (by rw [← Option.some.inj e]; rfl); rw [X31] at hc; simp at hc)).trans X31
        have B33 : Below lo w (V.setCell ⟨gb, t, none⟩ (.slice yt mt xt)) := Below.setCell B31 (C31.rb.lt gb rfl).1 _
        refine hK.out _ _ (fun h => nomatch (show true = false from h)) ?_
        generalize V.setCell ⟨gb, t, none⟩ (.slice yt mt xt) = V2 at X33 C33 B33 ⊢
        clear x33 f33 hK K
        have HG3 : Hid (GrM lo V2 p own (H.edge a t)) := by
          refine ⟨mb, vn, _, _, us.set a (.slice ya ma xa), bs.set t (.slice yt mt xt), X33, hp, ?_⟩
          exact C33
        have HB3 : Hid (Below lo w V2) := B33
        clear C X C31 X31 C33 X33 B33 B31 Bw Ra Rt R31 c1 c2 d1 d2 d3
        refine till_done (by kernel_rfl) ?_ _
        go_wp2_with fail
        go_roundw
        case rel => exact ⟨k + 1, by omega, by go_num, by rw [HT.out]; exact HG3.out, HB3.out⟩
        case measure => simp [intOf]; omega
      have N111 : Hid (∀ (W : World) (va : Value) (C : GrC lo W mb vn (.slice (some ⟨gu, 0, none⟩) H.U.length xu) (.slice (some ⟨gb, 0, none⟩) H.B.length xb) us bs H.N H.N H.U H.B (fun i => noX i ∨ i = a) noX) (X : W.heap[p]? = some (.cells #[.map (some mb), vn, .int .i64 (own : Int), (.slice (some ⟨gu, 0, none⟩) H.U.length xu), (.slice (some ⟨gb, 0, none⟩) H.B.length xb)] 63 (0, 0))) (Bw : Below lo w W) (q1 : Nat) (q2 : Nat) (R2 : W.ownsRow lo 3 1 (.slice (some ⟨q2, 0, none⟩) 1 1) 1 [.int .i64 (a : Int)]) (Ra : W.ownsRow lo 3 1 va ((rowAt H.U a).length + 1) (intsV (rowAt H.U a) ++ [.int .i64 (t : Int)])) (c1 : ∀ (j g : Nat) (u : Value), j ≠ a → us[j]? = some u → u.ownBlock = some g → va.ownBlock ≠ some g) (c2 : ∀ (j g : Nat) (u : Value), bs[j]? = some u → u.ownBlock = some g → va.ownBlock ≠ some g), Φ 5 #[true, true, true, true, true, true, true, true, true, true, true, true, true, true, true, true, true, true, true, true, true, true, true, true, true, true, true, true, true, false, false, false, false, false] { tmps := #[.pointer (some ⟨p, 0, none⟩), .string s, .slice (some ⟨b, off, none⟩) os.length cv, undef, undef, undef, .int .i64 (a : Int), undef, .string o, .int .i64 (t : Int), .pointer (some ⟨p, 0, none⟩), .string s, .int .i64 (a : Int), .slice (some ⟨b, off, none⟩) os.length cv, .int .i64 (os.length : Int), .int .i64 (k : Int), .bool true, .pointer (some ⟨b, off + k, none⟩), .string o, .pointer (some ⟨p, 0, none⟩), .string o, .int .i64 (t : Int), .pointer (some ⟨p, 0, none⟩), .pointer (some ⟨p, 0, none⟩), .pointer (some ⟨p, 3, none⟩), (.slice (some ⟨gu, 0, none⟩) H.U.length xu), .int .i64 (a : Int), .pointer (some ⟨p, 0, none⟩), .pointer (some ⟨p, 0, none⟩), .pointer (some ⟨p, 4, none⟩), (.slice (some ⟨gb, 0, none⟩) H.B.length xb), .int .i64 (t : Int), .pointer (some ⟨p, 0, none⟩), .pointer (some ⟨p, 0, none⟩), .pointer (some ⟨p, 3, none⟩), (.slice (some ⟨gu, 0, none⟩) H.U.length xu), .int .i64 (a : Int), .pointer (some ⟨gu, a, none⟩), (.slice qa na ca), .int .i64 (t : Int), .slice (some ⟨q1, 0, none⟩) 1 1, va, .pointer (some ⟨p, 0, none⟩), .pointer (some ⟨p, 0, none⟩), .pointer (some ⟨p, 4, none⟩), (.slice (some ⟨gb, 0, none⟩) H.B.length xb), .int .i64 (t : Int), .pointer (some ⟨gb, t, none⟩), (.slice qt nt ct), .int .i64 (a : Int), .slice (some ⟨q2, 0, none⟩) 1 1, u51, u52, u53, u54], defers := [] } W) := by
        intro W va C X Bw q1 q2 R2 Ra c1 c2
        rw [hΦ]
        have hpW : p < W.heap.size := (Array.getElem?_eq_some_iff.1 X).1
        have hloW : lo ≤ W.heap.size := by omega
        refine till_ready (rs := [29]) (by kernel_rfl) (by simp) ?_
        refine AllTill.cons rfl rfl (fun K hK => ?_) (AllTill.nil)
        rw [if_pos (by rfl)]
        have E := C.eb t _ (fun h => h) hbt
        refine wp_append_loc _ _ 69 rfl lo 3 iI (.int .i64 0) 1 8 Try.underlying69 hiI hzI0 hzI1 hzI2 rfl (by decide) _ (rowAt H.B t).length (intsV (rowAt H.B t)) rfl E ⟨q2, 0, none⟩ 1 1 [.int .i64 (a : Int)] rfl rfl (R2.cells rfl) (fun u hu => by simp at hu; subst hu; rfl) (by unfold maxLen; omega) (by omega) hloW ?_
        intro vt W9 o9 gr9 lc9
        have Cn := (C.swap.out hbt E gr9).swap
        have d1 : ∀ (j g : Nat) (u : Value), j ≠ t → bs[j]? = some u → u.ownBlock = some g → vt.ownBlock ≠ some g := fun j g u hj hu hg he => by
          rcases lc9 g he with h9 | h9
          · exact hj (C.ap.bb j t g u _ hu hbt hg h9)
          · have := C.ltb j g u hu hg; omega
        have d2 : ∀ (j g : Nat) (u : Value), us[j]? = some u → u.ownBlock = some g → vt.ownBlock ≠ some g := fun j g u hu hg he => by
          rcases lc9 g he with h9 | h9
          · exact C.ap.ub j t g u _ hu hbt hg h9
          · have := C.ltu j g u hu hg; omega
        have d3 : ∀ g : Nat, va.ownBlock = some g → vt.ownBlock ≠ some g := fun g hg he => by
          rcases lc9 g he with h9 | h9
          · exact c2 t g _ hbt h9 hg
          · have := (Ra.lt g hg).2; omega
        have Ran := Ra.kept gr9 (by
          cases hq : va.ownBlock with
          | none => exact .inl rfl
          | some g => exact .inr fun e => c2 t g _ hbt e.symm hq)
        have Bn : Below lo w W9 := Below.grown Bw gr9 hloW (fun j hj => (E.lt j hj).1)
        have Xn : W9.heap[p]? = some (.cells #[.map (some mb), vn, .int .i64 (own : Int), (.slice (some ⟨gu, 0, none⟩) H.U.length xu), (.slice (some ⟨gb, 0, none⟩) H.B.length xb)] 63 (0, 0)) := (gr9.block p hpW (fun e => by obtain ⟨cur, hc⟩ := row_block E e.symm; rw [X] at hc; simp at hc)).trans X
        refine hK.out _ _ (fun _ => HK.out _ _ _ Xn Cn) ?_
        have h := N112.out W9 va vt Cn Xn Bn q1 q2 Ran c1 c2 o9 d1 d2 d3
        rw [hΦ] at h
        exact till_at h (by kernel_rfl) (by kernel_rfl)
      have N101 : Hid (∀ (W : World) (va : Value) (C : GrC lo W mb vn (.slice (some ⟨gu, 0, none⟩) H.U.length xu) (.slice (some ⟨gb, 0, none⟩) H.B.length xb) us bs H.N H.N H.U H.B (fun i => noX i ∨ i = a) noX) (X : W.heap[p]? = some (.cells #[.map (some mb), vn, .int .i64 (own : Int), (.slice (some ⟨gu, 0, none⟩) H.U.length xu), (.slice (some ⟨gb, 0, none⟩) H.B.length xb)] 63 (0, 0))) (Bw : Below lo w W) (q1 : Nat) (Ra : W.ownsRow lo 3 1 va ((rowAt H.U a).length + 1) (intsV (rowAt H.U a) ++ [.int .i64 (t : Int)])) (c1 : ∀ (j g : Nat) (u : Value), j ≠ a → us[j]? = some u → u.ownBlock = some g → va.ownBlock ≠ some g) (c2 : ∀ (j g : Nat) (u : Value), bs[j]? = some u → u.ownBlock = some g → va.ownBlock ≠ some g), Φ 6 #[true, true, true, true, true, true, true, true, true, true, true, true, true, true, true, true, true, true, true, true, true, true, true, true, true, true, true, true, false, false, false, false, false, false] { tmps := #[.pointer (some ⟨p, 0, none⟩), .string s, .slice (some ⟨b, off, none⟩) os.length cv, undef, undef, undef, .int .i64 (a : Int), undef, .string o, .int .i64 (t : Int), .pointer (some ⟨p, 0, none⟩), .string s, .int .i64 (a : Int), .slice (some ⟨b, off, none⟩) os.length cv, .int .i64 (os.length : Int), .int .i64 (k : Int), .bool true, .pointer (some ⟨b, off + k, none⟩), .string o, .pointer (some ⟨p, 0, none⟩), .string o, .int .i64 (t : Int), .pointer (some ⟨p, 0, none⟩), .pointer (some ⟨p, 0, none⟩), .pointer (some ⟨p, 3, none⟩), (.slice (some ⟨gu, 0, none⟩) H.U.length xu), .int .i64 (a : Int), .pointer (some ⟨p, 0, none⟩), .pointer (some ⟨p, 0, none⟩), .pointer (some ⟨p, 4, none⟩), (.slice (some ⟨gb, 0, none⟩) H.B.length xb), .int .i64 (t : Int), .pointer (some ⟨p, 0, none⟩), .pointer (some ⟨p, 0, none⟩), .pointer (some ⟨p, 3, none⟩), (.slice (some ⟨gu, 0, none⟩) H.U.length xu), .int .i64 (a : Int), .pointer (some ⟨gu, a, none⟩), (.slice qa na ca), .int .i64 (t : Int), .slice (some ⟨q1, 0, none⟩) 1 1, va, .pointer (some ⟨p, 0, none⟩), .pointer (some ⟨p, 0, none⟩), .pointer (some ⟨p, 4, none⟩), (.slice (some ⟨gb, 0, none⟩) H.B.length xb), .int .i64 (t : Int), .pointer (some ⟨gb, t, none⟩), (.slice qt nt ct), .int .i64 (a : Int), u50, u51, u52, u53, u54], defers := [] } W) := by
        intro W va C X Bw q1 Ra c1 c2
        rw [hΦ]
        have hpW : p < W.heap.size := (Array.getElem?_eq_some_iff.1 X).1
        have hloW : lo ≤ W.heap.size := by omega
        refine till_ready (rs := [28]) (by kernel_rfl) (by simp) ?_
        refine AllTill.cons rfl rfl (fun K hK => ?_) (AllTill.nil)
        go_simp
        have Bn : Below lo w (W.alloc (.cells #[.int .i64 (a : Int)] 3)) := Bw.alloc hloW _
        have Xn : (W.alloc (.cells #[.int .i64 (a : Int)] 3)).heap[p]? = some (.cells #[.map (some mb), vn, .int .i64 (own : Int), (.slice (some ⟨gu, 0, none⟩) H.U.length xu), (.slice (some ⟨gb, 0, none⟩) H.B.length xb)] 63 (0, 0)) := (vheap_old W _ hpW).trans X
        have Cn := C.new (World.grownBy_alloc W (.cells #[.int .i64 (a : Int)] 3) none) (fun q e => by cases e)
        have R2n : (W.alloc (.cells #[.int .i64 (a : Int)] 3)).ownsRow lo 3 1 (.slice (some ⟨W.heap.size, 0, none⟩) 1 1) 1 [.int .i64 (a : Int)] := World.ownsRow_lit W #[.int .i64 (a : Int)] 1 hloW (by unfold maxLen; omega) rfl
        refine hK.out _ _ (fun _ => HK.out _ _ _ Xn Cn) ?_
        have h := N111.out (W.alloc (.cells #[.int .i64 (a : Int)] 3)) va Cn Xn Bn q1 W.heap.size R2n (Ra.alloc _) c1 c2
        rw [hΦ] at h
        exact till_at h (by kernel_rfl) (by kernel_rfl)
      have N110 : Hid (∀ (W : World) (C : GrC lo W mb vn (.slice (some ⟨gu, 0, none⟩) H.U.length xu) (.slice (some ⟨gb, 0, none⟩) H.B.length xb) us bs H.N H.N H.U H.B noX noX) (X : W.heap[p]? = some (.cells #[.map (some mb), vn, .int .i64 (own : Int), (.slice (some ⟨gu, 0, none⟩) H.U.length xu), (.slice (some ⟨gb, 0, none⟩) H.B.length xb)] 63 (0, 0))) (Bw : Below lo w W) (q1 : Nat) (R1 : W.ownsRow lo 3 1 (.slice (some ⟨q1, 0, none⟩) 1 1) 1 [.int .i64 (t : Int)]) (q2 : Nat) (R2 : W.ownsRow lo 3 1 (.slice (some ⟨q2, 0, none⟩) 1 1) 1 [.int .i64 (a : Int)]) (n2 : Value.ownBlock (.slice qa na ca) ≠ some q2), Φ 6 #[true, true, true, true, true, true, true, true, true, true, true, true, true, true, true, true, true, true, true, false, true, true, true, true, true, true, true, true, true, false, false, false, false, false] { tmps := #[.pointer (some ⟨p, 0, none⟩), .string s, .slice (some ⟨b, off, none⟩) os.length cv, undef, undef, undef, .int .i64 (a : Int), undef, .string o, .int .i64 (t : Int), .pointer (some ⟨p, 0, none⟩), .string s, .int .i64 (a : Int), .slice (some ⟨b, off, none⟩) os.length cv, .int .i64 (os.length : Int), .int .i64 (k : Int), .bool true, .pointer (some ⟨b, off + k, none⟩), .string o, .pointer (some ⟨p, 0, none⟩), .string o, .int .i64 (t : Int), .pointer (some ⟨p, 0, none⟩), .pointer (some ⟨p, 0, none⟩), .pointer (some ⟨p, 3, none⟩), (.slice (some ⟨gu, 0, none⟩) H.U.length xu), .int .i64 (a : Int), .pointer (some ⟨p, 0, none⟩), .pointer (some ⟨p, 0, none⟩), .pointer (some ⟨p, 4, none⟩), (.slice (some ⟨gb, 0, none⟩) H.B.length xb), .int .i64 (t : Int), .pointer (some ⟨p, 0, none⟩), .pointer (some ⟨p, 0, none⟩), .pointer (some ⟨p, 3, none⟩), (.slice (some ⟨gu, 0, none⟩) H.U.length xu), .int .i64 (a : Int), .pointer (some ⟨gu, a, none⟩), (.slice qa na ca), .int .i64 (t : Int), .slice (some ⟨q1, 0, none⟩) 1 1, u41, .pointer (some ⟨p, 0, none⟩), .pointer (some ⟨p, 0, none⟩), .pointer (some ⟨p, 4, none⟩), (.slice (some ⟨gb, 0, none⟩) H.B.length xb), .int .i64 (t : Int), .pointer (some ⟨gb, t, none⟩), (.slice qt nt ct), .int .i64 (a : Int), .slice (some ⟨q2, 0, none⟩) 1 1, u51, u52, u53, u54], defers := [] } W) := by
        intro W C X Bw q1 R1 q2 R2 n2
        rw [hΦ]
        have hpW : p < W.heap.size := (Array.getElem?_eq_some_iff.1 X).1
        have hloW : lo ≤ W.heap.size := by omega
        refine till_ready (rs := [19]) (by kernel_rfl) (by simp) ?_
        refine AllTill.cons rfl rfl (fun K hK => ?_) (AllTill.nil)
        rw [if_pos (by rfl)]
        have E := C.eu a _ (fun h => h) hua
        refine wp_append_loc _ _ 69 rfl lo 3 iI (.int .i64 0) 1 8 Try.underlying69 hiI hzI0 hzI1 hzI2 rfl (by decide) _ (rowAt H.U a).length (intsV (rowAt H.U a)) rfl E ⟨q1, 0, none⟩ 1 1 [.int .i64 (t : Int)] rfl rfl (R1.cells rfl) (fun u hu => by simp at hu; subst hu; rfl) (by unfold maxLen; omega) (by omega) hloW ?_
        intro va W9 o9 gr9 lc9
        have Cn := C.out hua E gr9
        have c1 : ∀ (j g : Nat) (u : Value), j ≠ a → us[j]? = some u → u.ownBlock = some g → va.ownBlock ≠ some g := fun j g u hj hu hg he => by
          rcases lc9 g he with h9 | h9
          · exact hj (C.ap.uu j a g u _ hu hua hg h9)
          · have := C.ltu j g u hu hg; omega
        have c2 : ∀ (j g : Nat) (u : Value), bs[j]? = some u → u.ownBlock = some g → va.ownBlock ≠ some g := fun j g u hu hg he => by
          rcases lc9 g he with h9 | h9
          · exact C.ap.ub a j g _ u hua hu h9 hg
          · have := C.ltb j g u hu hg; omega
        have Bn : Below lo w W9 := Below.grown Bw gr9 hloW (fun j hj => (E.lt j hj).1)
        have Xn : W9.heap[p]? = some (.cells #[.map (some mb), vn, .int .i64 (own : Int), (.slice (some ⟨gu, 0, none⟩) H.U.length xu), (.slice (some ⟨gb, 0, none⟩) H.B.length xb)] 63 (0, 0)) := (gr9.block p hpW (fun e => by obtain ⟨cur, hc⟩ := row_block E e.symm; rw [X] at hc; simp at hc)).trans X
        refine hK.out _ _ (fun _ => HK.out _ _ _ Xn Cn) ?_
        have h := N111.out W9 va Cn Xn Bn q1 q2 (R2.kept gr9 (.inr (fun e => n2 e.symm))) o9 c1 c2
        rw [hΦ] at h
        exact till_at h (by kernel_rfl) (by kernel_rfl)
      have N010 : Hid (∀ (W : World) (C : GrC lo W mb vn (.slice (some ⟨gu, 0, none⟩) H.U.length xu) (.slice (some ⟨gb, 0, none⟩) H.B.length xb) us bs H.N H.N H.U H.B noX noX) (X : W.heap[p]? = some (.cells #[.map (some mb), vn, .int .i64 (own : Int), (.slice (some ⟨gu, 0, none⟩) H.U.length xu), (.slice (some ⟨gb, 0, none⟩) H.B.length xb)] 63 (0, 0))) (Bw : Below lo w W) (q2 : Nat) (R2 : W.ownsRow lo 3 1 (.slice (some ⟨q2, 0, none⟩) 1 1) 1 [.int .i64 (a : Int)]) (n2 : Value.ownBlock (.slice qa na ca) ≠ some q2), Φ 7 #[true, true, true, true, true, true, true, true, true, true, true, true, true, true, true, true, true, true, false, false, true, true, true, true, true, true, true, true, true, false, false, false, false, false] { tmps := #[.pointer (some ⟨p, 0, none⟩), .string s, .slice (some ⟨b, off, none⟩) os.length cv, undef, undef, undef, .int .i64 (a : Int), undef, .string o, .int .i64 (t : Int), .pointer (some ⟨p, 0, none⟩), .string s, .int .i64 (a : Int), .slice (some ⟨b, off, none⟩) os.length cv, .int .i64 (os.length : Int), .int .i64 (k : Int), .bool true, .pointer (some ⟨b, off + k, none⟩), .string o, .pointer (some ⟨p, 0, none⟩), .string o, .int .i64 (t : Int), .pointer (some ⟨p, 0, none⟩), .pointer (some ⟨p, 0, none⟩), .pointer (some ⟨p, 3, none⟩), (.slice (some ⟨gu, 0, none⟩) H.U.length xu), .int .i64 (a : Int), .pointer (some ⟨p, 0, none⟩), .pointer (some ⟨p, 0, none⟩), .pointer (some ⟨p, 4, none⟩), (.slice (some ⟨gb, 0, none⟩) H.B.length xb), .int .i64 (t : Int), .pointer (some ⟨p, 0, none⟩), .pointer (some ⟨p, 0, none⟩), .pointer (some ⟨p, 3, none⟩), (.slice (some ⟨gu, 0, none⟩) H.U.length xu), .int .i64 (a : Int), .pointer (some ⟨gu, a, none⟩), (.slice qa na ca), .int .i64 (t : Int), u40, u41, .pointer (some ⟨p, 0, none⟩), .pointer (some ⟨p, 0, none⟩), .pointer (some ⟨p, 4, none⟩), (.slice (some ⟨gb, 0, none⟩) H.B.length xb), .int .i64 (t : Int), .pointer (some ⟨gb, t, none⟩), (.slice qt nt ct), .int .i64 (a : Int), .slice (some ⟨q2, 0, none⟩) 1 1, u51, u52, u53, u54], defers := [] } W) := by
        intro W C X Bw q2 R2 n2
        rw [hΦ]
        have hpW : p < W.heap.size := (Array.getElem?_eq_some_iff.1 X).1
        have hloW : lo ≤ W.heap.size := by omega
        refine till_ready (rs := [18]) (by kernel_rfl) (by simp) ?_
        refine AllTill.cons rfl rfl (fun K hK => ?_) (AllTill.nil)
        go_simp
        have Bn : Below lo w (W.alloc (.cells #[.int .i64 (t : Int)] 3)) := Bw.alloc hloW _
        have Xn : (W.alloc (.cells #[.int .i64 (t : Int)] 3)).heap[p]? = some (.cells #[.map (some mb), vn, .int .i64 (own : Int), (.slice (some ⟨gu, 0, none⟩) H.U.length xu), (.slice (some ⟨gb, 0, none⟩) H.B.length xb)] 63 (0, 0)) := (vheap_old W _ hpW).trans X
        have Cn := C.new (World.grownBy_alloc W (.cells #[.int .i64 (t : Int)] 3) none) (fun q e => by cases e)
        have R1n : (W.alloc (.cells #[.int .i64 (t : Int)] 3)).ownsRow lo 3 1 (.slice (some ⟨W.heap.size, 0, none⟩) 1 1) 1 [.int .i64 (t : Int)] := World.ownsRow_lit W #[.int .i64 (t : Int)] 1 hloW (by unfold maxLen; omega) rfl
        refine hK.out _ _ (fun _ => HK.out _ _ _ Xn Cn) ?_
        have h := N110.out (W.alloc (.cells #[.int .i64 (t : Int)] 3)) Cn Xn Bn W.heap.size R1n q2 (R2.alloc _) n2
        rw [hΦ] at h
        exact till_at h (by kernel_rfl) (by kernel_rfl)
      have N100 : Hid (∀ (W : World) (C : GrC lo W mb vn (.slice (some ⟨gu, 0, none⟩) H.U.length xu) (.slice (some ⟨gb, 0, none⟩) H.B.length xb) us bs H.N H.N H.U H.B noX noX) (X : W.heap[p]? = some (.cells #[.map (some mb), vn, .int .i64 (own : Int), (.slice (some ⟨gu, 0, none⟩) H.U.length xu), (.slice (some ⟨gb, 0, none⟩) H.B.length xb)] 63 (0, 0))) (Bw : Below lo w W) (q1 : Nat) (R1 : W.ownsRow lo 3 1 (.slice (some ⟨q1, 0, none⟩) 1 1) 1 [.int .i64 (t : Int)]), Φ 7 #[true, true, true, true, true, true, true, true, true, true, true, true, true, true, true, true, true, true, true, false, true, true, true, true, true, true, true, true, false, false, false, false, false, false] { tmps := #[.pointer (some ⟨p, 0, none⟩), .string s, .slice (some ⟨b, off, none⟩) os.length cv, undef, undef, undef, .int .i64 (a : Int), undef, .string o, .int .i64 (t : Int), .pointer (some ⟨p, 0, none⟩), .string s, .int .i64 (a : Int), .slice (some ⟨b, off, none⟩) os.length cv, .int .i64 (os.length : Int), .int .i64 (k : Int), .bool true, .pointer (some ⟨b, off + k, none⟩), .string o, .pointer (some ⟨p, 0, none⟩), .string o, .int .i64 (t : Int), .pointer (some ⟨p, 0, none⟩), .pointer (some ⟨p, 0, none⟩), .pointer (some ⟨p, 3, none⟩), (.slice (some ⟨gu, 0, none⟩) H.U.length xu), .int .i64 (a : Int), .pointer (some ⟨p, 0, none⟩), .pointer (some ⟨p, 0, none⟩), .pointer (some ⟨p, 4, none⟩), (.slice (some ⟨gb, 0, none⟩) H.B.length xb), .int .i64 (t : Int), .pointer (some ⟨p, 0, none⟩), .pointer (some ⟨p, 0, none⟩), .pointer (some ⟨p, 3, none⟩), (.slice (some ⟨gu, 0, none⟩) H.U.length xu), .int .i64 (a : Int), .pointer (some ⟨gu, a, none⟩), (.slice qa na ca), .int .i64 (t : Int), .slice (some ⟨q1, 0, none⟩) 1 1, u41, .pointer (some ⟨p, 0, none⟩), .pointer (some ⟨p, 0, none⟩), .pointer (some ⟨p, 4, none⟩), (.slice (some ⟨gb, 0, none⟩) H.B.length xb), .int .i64 (t : Int), .pointer (some ⟨gb, t, none⟩), (.slice qt nt ct), .int .i64 (a : Int), u50, u51, u52, u53, u54], defers := [] } W) := by
        intro W C X Bw q1 R1
        rw [hΦ]
        have hpW : p < W.heap.size := (Array.getElem?_eq_some_iff.1 X).1
        have hloW : lo ≤ W.heap.size := by omega
        refine till_ready (rs := [19, 28]) (by kernel_rfl) (by simp) ?_
        refine AllTill.cons rfl rfl (fun K hK => ?_) (AllTill.cons rfl rfl (fun K hK => ?_) (AllTill.nil))
        · rw [if_pos (by rfl)]
          have E := C.eu a _ (fun h => h) hua
          refine wp_append_loc _ _ 69 rfl lo 3 iI (.int .i64 0) 1 8 Try.underlying69 hiI hzI0 hzI1 hzI2 rfl (by decide) _ (rowAt H.U a).length (intsV (rowAt H.U a)) rfl E ⟨q1, 0, none⟩ 1 1 [.int .i64 (t : Int)] rfl rfl (R1.cells rfl) (fun u hu => by simp at hu; subst hu; rfl) (by unfold maxLen; omega) (by omega) hloW ?_
          intro va W9 o9 gr9 lc9
          have Cn := C.out hua E gr9
          have c1 : ∀ (j g : Nat) (u : Value), j ≠ a → us[j]? = some u → u.ownBlock = some g → va.ownBlock ≠ some g := fun j g u hj hu hg he => by
            rcases lc9 g he with h9 | h9
            · exact hj (C.ap.uu j a g u _ hu hua hg h9)
            · have := C.ltu j g u hu hg; omega
          have c2 : ∀ (j g : Nat) (u : Value), bs[j]? = some u → u.ownBlock = some g → va.ownBlock ≠ some g := fun j g u hu hg he => by
            rcases lc9 g he with h9 | h9
            · exact C.ap.ub a j g _ u hua hu h9 hg
            · have := C.ltb j g u hu hg; omega
          have Bn : Below lo w W9 := Below.grown Bw gr9 hloW (fun j hj => (E.lt j hj).1)
          have Xn : W9.heap[p]? = some (.cells #[.map (some mb), vn, .int .i64 (own : Int), (.slice (some ⟨gu, 0, none⟩) H.U.length xu), (.slice (some ⟨gb, 0, none⟩) H.B.length xb)] 63 (0, 0)) := (gr9.block p hpW (fun e => by obtain ⟨cur, hc⟩ := row_block E e.symm; rw [X] at hc; simp at hc)).trans X
          refine hK.out _ _ (fun _ => HK.out _ _ _ Xn Cn) ?_
          have h := N101.out W9 va Cn Xn Bn q1 o9 c1 c2
          rw [hΦ] at h
          exact till_at h (by kernel_rfl) (by kernel_rfl)
        · go_simp
          have Bn : Below lo w (W.alloc (.cells #[.int .i64 (a : Int)] 3)) := Bw.alloc hloW _
          have Xn : (W.alloc (.cells #[.int .i64 (a : Int)] 3)).heap[p]? = some (.cells #[.map (some mb), vn, .int .i64 (own : Int), (.slice (some ⟨gu, 0, none⟩) H.U.length xu), (.slice (some ⟨gb, 0, none⟩) H.B.length xb)] 63 (0, 0)) := (vheap_old W _ hpW).trans X
          have Cn := C.new (World.grownBy_alloc W (.cells #[.int .i64 (a : Int)] 3) none) (fun q e => by cases e)
          have R2n : (W.alloc (.cells #[.int .i64 (a : Int)] 3)).ownsRow lo 3 1 (.slice (some ⟨W.heap.size, 0, none⟩) 1 1) 1 [.int .i64 (a : Int)] := World.ownsRow_lit W #[.int .i64 (a : Int)] 1 hloW (by unfold maxLen; omega) rfl
          have n2n : Value.ownBlock (.slice qa na ca) ≠ some W.heap.size := fun e => by have := C.ltu a _ _ hua e; omega
          refine hK.out _ _ (fun _ => HK.out _ _ _ Xn Cn) ?_
          have h := N110.out (W.alloc (.cells #[.int .i64 (a : Int)] 3)) Cn Xn Bn q1 (R1.alloc _) W.heap.size R2n n2n
          rw [hΦ] at h
          exact till_at h (by kernel_rfl) (by kernel_rfl)
      have N000 : Hid (∀ (W : World) (C : GrC lo W mb vn (.slice (some ⟨gu, 0, none⟩) H.U.length xu) (.slice (some ⟨gb, 0, none⟩) H.B.length xb) us bs H.N H.N H.U H.B noX noX) (X : W.heap[p]? = some (.cells #[.map (some mb), vn, .int .i64 (own : Int), (.slice (some ⟨gu, 0, none⟩) H.U.length xu), (.slice (some ⟨gb, 0, none⟩) H.B.length xb)] 63 (0, 0))) (Bw : Below lo w W), Φ 8 #[true, true, true, true, true, true, true, true, true, true, true, true, true, true, true, true, true, true, false, false, true, true, true, true, true, true, true, true, false, false, false, false, false, false] { tmps := #[.pointer (some ⟨p, 0, none⟩), .string s, .slice (some ⟨b, off, none⟩) os.length cv, undef, undef, undef, .int .i64 (a : Int), undef, .string o, .int .i64 (t : Int), .pointer (some ⟨p, 0, none⟩), .string s, .int .i64 (a : Int), .slice (some ⟨b, off, none⟩) os.length cv, .int .i64 (os.length : Int), .int .i64 (k : Int), .bool true, .pointer (some ⟨b, off + k, none⟩), .string o, .pointer (some ⟨p, 0, none⟩), .string o, .int .i64 (t : Int), .pointer (some ⟨p, 0, none⟩), .pointer (some ⟨p, 0, none⟩), .pointer (some ⟨p, 3, none⟩), (.slice (some ⟨gu, 0, none⟩) H.U.length xu), .int .i64 (a : Int), .pointer (some ⟨p, 0, none⟩), .pointer (some ⟨p, 0, none⟩), .pointer (some ⟨p, 4, none⟩), (.slice (some ⟨gb, 0, none⟩) H.B.length xb), .int .i64 (t : Int), .pointer (some ⟨p, 0, none⟩), .pointer (some ⟨p, 0, none⟩), .pointer (some ⟨p, 3, none⟩), (.slice (some ⟨gu, 0, none⟩) H.U.length xu), .int .i64 (a : Int), .pointer (some ⟨gu, a, none⟩), (.slice qa na ca), .int .i64 (t : Int), u40, u41, .pointer (some ⟨p, 0, none⟩), .pointer (some ⟨p, 0, none⟩), .pointer (some ⟨p, 4, none⟩), (.slice (some ⟨gb, 0, none⟩) H.B.length xb), .int .i64 (t : Int), .pointer (some ⟨gb, t, none⟩), (.slice qt nt ct), .int .i64 (a : Int), u50, u51, u52, u53, u54], defers := [] } W) := by
        intro W C X Bw
        rw [hΦ]
        have hpW : p < W.heap.size := (Array.getElem?_eq_some_iff.1 X).1
        have hloW : lo ≤ W.heap.size := by omega
        refine till_ready (rs := [18, 28]) (by kernel_rfl) (by simp) ?_
        refine AllTill.cons rfl rfl (fun K hK => ?_) (AllTill.cons rfl rfl (fun K hK => ?_) (AllTill.nil))
        · go_simp
          have Bn : Below lo w (W.alloc (.cells #[.int .i64 (t : Int)] 3)) := Bw.alloc hloW _
          have Xn : (W.alloc (.cells #[.int .i64 (t : Int)] 3)).heap[p]? = some (.cells #[.map (some mb), vn, .int .i64 (own : Int), (.slice (some ⟨gu, 0, none⟩) H.U.length xu), (.slice (some ⟨gb, 0, none⟩) H.B.length xb)] 63 (0, 0)) := (vheap_old W _ hpW).trans X
          have Cn := C.new (World.grownBy_alloc W (.cells #[.int .i64 (t : Int)] 3) none) (fun q e => by cases e)
          have R1n : (W.alloc (.cells #[.int .i64 (t : Int)] 3)).ownsRow lo 3 1 (.slice (some ⟨W.heap.size, 0, none⟩) 1 1) 1 [.int .i64 (t : Int)] := World.ownsRow_lit W #[.int .i64 (t : Int)] 1 hloW (by unfold maxLen; omega) rfl
          refine hK.out _ _ (fun _ => HK.out _ _ _ Xn Cn) ?_
          have h := N100.out (W.alloc (.cells #[.int .i64 (t : Int)] 3)) Cn Xn Bn W.heap.size R1n
          rw [hΦ] at h
          exact till_at h (by kernel_rfl) (by kernel_rfl)
        · go_simp
          have Bn : Below lo w (W.alloc (.cells #[.int .i64 (a : Int)] 3)) := Bw.alloc hloW _
          have Xn : (W.alloc (.cells #[.int .i64 (a : Int)] 3)).heap[p]? = some (.cells #[.map (some mb), vn, .int .i64 (own : Int), (.slice (some ⟨gu, 0, none⟩) H.U.length xu), (.slice (some ⟨gb, 0, none⟩) H.B.length xb)] 63 (0, 0)) := (vheap_old W _ hpW).trans X
          have Cn := C.new (World.grownBy_alloc W (.cells #[.int .i64 (a : Int)] 3) none) (fun q e => by cases e)
          have R2n : (W.alloc (.cells #[.int .i64 (a : Int)] 3)).ownsRow lo 3 1 (.slice (some ⟨W.heap.size, 0, none⟩) 1 1) 1 [.int .i64 (a : Int)] := World.ownsRow_lit W #[.int .i64 (a : Int)] 1 hloW (by unfold maxLen; omega) rfl
          have n2n : Value.ownBlock (.slice qa na ca) ≠ some W.heap.size := fun e => by have := C.ltu a _ _ hua e; omega
          refine hK.out _ _ (fun _ => HK.out _ _ _ Xn Cn) ?_
          have h := N010.out (W.alloc (.cells #[.int .i64 (a : Int)] 3)) Cn Xn Bn W.heap.size R2n n2n
          rw [hΦ] at h
          exact till_at h (by kernel_rfl) (by kernel_rfl)
      have h := N000.out w3 D0 X0 B0
      rw [hΦ] at h
      exact till_at h (by kernel_rfl) (by kernel_rfl)
    · have he : k = os.length := by omega
      subst he
      have HGe : Hid (GrM lo wr p own (os.foldl (GD.use a) g0)) := by have := HG.out; rw [List.take_length] at this; exact this
      clear HG hav
      go_wp2_with fail
      go_end0
      exact ⟨rfl, HGe.out, hbr⟩
end Go.Proofs.Ytkkhnldhipfneaa

/-! Entries that lie in memory: what they are: no condition. -/
namespace Go.Proofs.Ytkkhnldhipfneaa
open Go.RowKit
set_option linter.unusedSimpArgs false
set_option linter.unusedVariables false

structure EntryD where
  name : ByteArray
  vA : Int
  vB : Int
  vC : Int
  vP : List ByteArray
  needs : List NeedD
def wtEntry (d : EntryD) : Nat := d.name.size + bulkS d.vP + wtRow wtNeed d.needs
def shEntry : Sh EntryD where
  n := 6
  lies S w cs d := ∃ u0 u1, cs = [.string d.name, .int .i64 d.vA, .int .i64 d.vB, .int .i64 d.vC, u0, u1] ∧ d.name.size ≤ maxLen ∧ RdB S w u0 (strsV d.vP) ∧ saneP d.vP ∧ RowIn shNeed S w u1 d.needs
  keep hk h := by obtain ⟨u0, u1, h0, h1, h2, h3, h4⟩ := h; exact ⟨u0, u1, h0, h1, h2.keep hk, h3, h4.keep hk⟩
  mono hS h := by obtain ⟨u0, u1, h0, h1, h2, h3, h4⟩ := h; exact ⟨u0, u1, h0, h1, h2.mono hS, h3, h4.mono hS⟩
def shEntryO : Sh EntryD where
  n := 6
  lies S w cs d := ∃ u0 u1, cs = [.string d.name, .int .i64 d.vA, .int .i64 d.vB, .int .i64 d.vC, u0, u1] ∧ d.name.size ≤ maxLen ∧ StrsOwn S w u0 d.vP ∧ saneP d.vP ∧ RowOwn shNeed 125 S w u1 d.needs
  keep hk h := by obtain ⟨u0, u1, h0, h1, h2, h3, h4⟩ := h; exact ⟨u0, u1, h0, h1, h2.keep hk, h3, h4.keep hk⟩
  mono hS h := by obtain ⟨u0, u1, h0, h1, h2, h3, h4⟩ := h; exact ⟨u0, u1, h0, h1, h2.mono hS, h3, h4.mono hS⟩
theorem liesEntry_plain {S : Nat → Prop} {w : World} {cs : List Value} {d : EntryD} (h : shEntryO.lies S w cs d) : shEntry.lies S w cs d := by
  obtain ⟨u0, u1, e0, s_name, r0, p0, r1⟩ := h
  exact ⟨u0, u1, e0, s_name, r0.plain, p0, r1.plain⟩
end Go.Proofs.Ytkkhnldhipfneaa
