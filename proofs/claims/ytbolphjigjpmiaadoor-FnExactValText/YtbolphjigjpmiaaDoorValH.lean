/-
  The program's own reading of a value, and its ValOk: for every value that lies in memory and holds at most 2 to the 20.
-/
import Derived.Test.YtbolphjigjpmiaaDoorValG
namespace Go.Proofs.YtbolphjigjpmiaaDoor
open Go.RowKit
set_option linter.unusedSimpArgs false
set_option linter.unusedVariables false

/-- Behind the counter's step: it holds one more, the parameter lies in its box. -/
structure Pre (w w1 : World) (g : Nat) (c : Int) (c0 c1 c2 c3 c4 : Value) : Prop where
  ctr : CtrAt w1 g (c + 1)
  grown : w.grownBy w1 (some g)
  x0 : w1.cell? ⟨w.heap.size, 0, none⟩ = some c0
  x1 : w1.cell? ⟨w.heap.size, 1, none⟩ = some c1
  x2 : w1.cell? ⟨w.heap.size, 2, none⟩ = some c2
  x3 : w1.cell? ⟨w.heap.size, 3, none⟩ = some c3
  x4 : w1.cell? ⟨w.heap.size, 4, none⟩ = some c4
  lt : w.heap.size < w1.heap.size

theorem pre_one {w w1 : World} {g : Nat} {c : Int} {c0 c1 c2 c3 c4 : Value} {t : TypeId} (hct : CtrAt w g c) (hw1 : w1 = (w.alloc (.cells #[c0, c1, c2, c3, c4] t)).setCell ⟨g, 0, none⟩ (.int .i64 (c + 1))) : Pre w w1 g c c0 c1 c2 c3 c4 := by
  have hlt := hct.lt
  have hb : (w.alloc (.cells #[c0, c1, c2, c3, c4] t)).heap[w.heap.size]? = _ := heap_new w _
  have hb2 : w1.heap[w.heap.size]? = some (.cells #[c0, c1, c2, c3, c4] t) := by
    rw [hw1, Below.heap_setCell _ _ _ _ (by simp; omega)]; exact hb
  refine ⟨by rw [hw1]; exact (hct.alloc _).set _, by rw [hw1]; exact gtrans (galloc _ _ _) (grown_set' _ _ _ _), blk_cell hb2 0, blk_cell hb2 1, blk_cell hb2 2, blk_cell hb2 3, blk_cell hb2 4, (Array.getElem?_eq_some_iff.1 hb2).1⟩

theorem Pre.keep {w w1 w2 : World} {g : Nat} {c : Int} {c0 c1 c2 c3 c4 : Value} (h : Pre w w1 g c c0 c1 c2 c3 c4) (b : Below w1.heap.size w1 w2) : Pre w w2 g c c0 c1 c2 c3 c4 := by
  have hc : ∀ j, w2.cell? ⟨w.heap.size, j, none⟩ = w1.cell? ⟨w.heap.size, j, none⟩ := fun j => b.cell (p := ⟨w.heap.size, j, none⟩) h.lt
  exact ⟨h.ctr.keep b, gtrans h.grown (grown_of_below b _), (hc 0).trans h.x0, (hc 1).trans h.x1, (hc 2).trans h.x2, (hc 3).trans h.x3, (hc 4).trans h.x4, Nat.lt_of_lt_of_le h.lt b.size⟩

theorem good_flat {k n : Int} {s : ByteArray} {l : List Tree} {ks : List ByteArray} {d : Nat} {c : Int} (hd : d ≤ 6) (hc : c + 1 ≤ 80) (he : emptyB k n s l.length ks = true) (h4 : k ≠ 4) (h5 : k ≠ 5) :
    ((Tree.mk k n s l ks).good d && decide (c + ((Tree.mk k n s l ks).nodes : Int) ≤ 80)) = kindB k n s l.length ks ∧ (Tree.mk k n s l ks).nodes = 1 := by
  have hl : l = [] := by
    unfold emptyB at he
    simp [h4, h5] at he
    exact he.1.2
  subst hl
  have hn : (Tree.mk k n s [] ks).nodes = 1 := by rw [nodes_mk, nodesL]
  refine ⟨?_, hn⟩
  rw [good_mk, here_split, hn, goodL]
  rw [show decide (d ≤ 6) = true by simp; omega, show ([] : List Tree).length = 0 from rfl] at *
  rw [he]
  simp
  intro _
  omega

theorem good_list {k n : Int} {s : ByteArray} {l : List Tree} {ks : List ByteArray} {d : Nat} {c : Int} (hd : d ≤ 6) (he : emptyB k n s l.length ks = true) :
    ((Tree.mk k n s l ks).good d && decide (c + ((Tree.mk k n s l ks).nodes : Int) ≤ 80)) = (kindB k n s l.length ks && (goodL l (d + 1) && decide (c + 1 + (nodesL l : Int) ≤ 80))) := by
  rw [good_mk, here_split, he, nodes_mk, show decide (d ≤ 6) = true by simp; omega, show c + ((1 + nodesL l : Nat) : Int) = c + 1 + (nodesL l : Int) by omega]
  simp [Bool.and_assoc]

set_option maxHeartbeats 4000000 in
set_option maxRecDepth 100000 in
theorem value_step (k n : Int) (s : ByteArray) (l : List Tree) (ks : List ByteArray) (ihl : ListC l) (ihf : FieldsC k n s l ks) : ValueC (.mk k n s l ks) := by
  intro S v w d g c hv hB hct h0 h1 hd1 hd7 hw
  rw [wt_mk] at hw
  have hvv := hv
  obtain ⟨cv, u, rfl, hs, hk, hl, hu⟩ := hv.out
  clear hv
  obtain ⟨a, cap, rfl, hlm, hcp, _⟩ := hl.at
  obtain ⟨a', cap', rfl, hcp', _⟩ := reads_strs (hu.reads fun b h => (hB b h).1)
  have hwl : wtL l ≤ 1048576 := by omega
  have hwk : bulkS ks ≤ 1048576 := by omega
  have hsz : s.size ≤ 1048576 := by omega
  have hgN := hct.lt
  have hctA : ∀ o, CtrAt (w.alloc o) g c := fun o => hct.alloc o
  obtain ⟨R, hR⟩ : ∃ R, R = (decide ((d : Int) ≤ 6) && decide (c + 1 ≤ 80)) := ⟨_, rfl⟩
  have HR : Hid (R = (decide ((d : Int) ≤ 6) && decide (c + 1 ≤ 80))) := hR
  have HRoom : Hid (∀ o, Calls Tryd.prog 30 #[.pointer (some ⟨g, 0, none⟩), .int .i64 (d : Int)] (w.alloc o) fun e w' => e = .returned (.bool R) ∧ w' = (w.alloc o).setCell ⟨g, 0, none⟩ (.int .i64 (c + 1))) := fun o => by rw [hR]; exact room_c g c (d : Int) (w.alloc o) (hctA o) h0 (by omega)
  clear hR
  cases R with
  | false =>
    have HF : Hid (((Tree.mk k n s l ks).good d && decide (c + ((Tree.mk k n s l ks).nodes : Int) ≤ 80)) = false) := by
      show _ = _
      have h := HR.out.symm
      have hn := nodes_pos (Tree.mk k n s l ks)
      by_cases h6 : (d : Int) ≤ 6
      · rw [show decide ((d : Int) ≤ 6) = true by simp; omega] at h
        simp at h ⊢
        intro _; omega
      · rw [good_mk, show decide (d ≤ 6) = false by simp; omega]; rfl
    go_enter Tryd.func22, Tryd.ntmps22
    go_wp2_with (go_at_call 30; refine (HRoom.out _).mono ?_; rintro e w1 ⟨rfl, hw1⟩; have hp := pre_one hct hw1; clear hw1)
    go_ret2
    exact ⟨_, _, by rw [HF.out]; rfl, hp.ctr, hp.grown, fun x1 x2 => by have := HF.out; rw [x1] at this; simp at this; omega⟩
  | true =>
    have hd6 : d ≤ 6 ∧ c + 1 ≤ 80 := by have := HR.out.symm; simp at this; omega
    obtain ⟨hd6, hc8⟩ := hd6
    have HEmp : Hid (∀ w, Calls Tryd.prog 31 #[.agg #[.int .i64 k, .int .i64 n, .string s, .slice a l.length cap, .slice a' ks.length cap']] w fun e w' => e = .returned (.bool (emptyB k n s l.length ks)) ∧ Below w.heap.size w w') := fun w => empty_c k n s a a' l.length cap cap' ks w
    cases he : emptyB k n s l.length ks with
    | false =>
      have HF : Hid (((Tree.mk k n s l ks).good d && decide (c + ((Tree.mk k n s l ks).nodes : Int) ≤ 80)) = false) := by
        show _ = _
        rw [good_mk, here_split, he]; simp
      rw [he] at HEmp
      clear he
      go_enter Tryd.func22, Tryd.ntmps22
      go_wp2_with (first
        | (go_at_call 30; refine (HRoom.out _).mono ?_; rintro e w1 ⟨rfl, hw1⟩; have hp := pre_one hct hw1; have x0 := hp.x0; have x1 := hp.x1; have x2 := hp.x2; have x3 := hp.x3; have x4 := hp.x4; clear hw1)
        | (go_at_call 31; refine (HEmp.out _).mono ?_; rintro e w2 ⟨rfl, b2⟩; have hp2 := hp.keep b2))
      go_ret2
      exact ⟨_, _, by rw [HF.out]; rfl, hp2.ctr, hp2.grown, fun y1 y2 => by have := HF.out; rw [y1] at this; simp at this; omega⟩
    | true =>
      rw [he] at HEmp
      have HE : Hid (emptyB k n s l.length ks = true) := he
      clear he
      by_cases k0 : k = 0
      · subst k0
        obtain ⟨hg, hno⟩ := good_flat hd6 hc8 HE.out (by omega) (by omega)
        have HF : Hid (((Tree.mk 0 n s l ks).good d && decide (c + ((Tree.mk 0 n s l ks).nodes : Int) ≤ 80)) = true) := hg
        clear hg
        go_enter Tryd.func22, Tryd.ntmps22
        go_wp2_with (first
          | (go_at_call 30; refine (HRoom.out _).mono ?_; rintro e w1 ⟨rfl, hw1⟩; have hp := pre_one hct hw1; have x0 := hp.x0; have x1 := hp.x1; have x2 := hp.x2; have x3 := hp.x3; have x4 := hp.x4; clear hw1)
          | (go_at_call 31; refine (HEmp.out _).mono ?_; rintro e w2 ⟨rfl, b2⟩; have hp2 := hp.keep b2; have y0 := hp2.x0))
        go_ret2
        exact ⟨_, _, by rw [HF.out]; rfl, hp2.ctr, hp2.grown, fun _ _ => ⟨by rw [hno]; rfl, .null n s l ks⟩⟩
      by_cases k1 : k = 1
      · subst k1
        obtain ⟨hg, hno⟩ := good_flat hd6 hc8 HE.out (by omega) (by omega)
        have HF : Hid (((Tree.mk 1 n s l ks).good d && decide (c + ((Tree.mk 1 n s l ks).nodes : Int) ≤ 80)) = kindB 1 n s l.length ks) := hg
        clear hg
        by_cases n0 : n = 0
        · subst n0
          go_enter Tryd.func22, Tryd.ntmps22
          go_wp2_with (first
          | (go_at_call 30; refine (HRoom.out _).mono ?_; rintro e w1 ⟨rfl, hw1⟩; have hp := pre_one hct hw1; have x0 := hp.x0; have x1 := hp.x1; have x2 := hp.x2; have x3 := hp.x3; have x4 := hp.x4; clear hw1)
          | (go_at_call 31; refine (HEmp.out _).mono ?_; rintro e w2 ⟨rfl, b2⟩; have hp2 := hp.keep b2; have y0 := hp2.x0; have y1 := hp2.x1; have y2 := hp2.x2; have y3 := hp2.x3; have y4 := hp2.x4))
          go_quiet (fail)
          go_wp2_with fail
          go_ret2
          exact ⟨_, _, by rw [HF.out]; rfl, (hp2.keep (below_drewN' (Below.refl _ _) _)).ctr, (hp2.keep (below_drewN' (Below.refl _ _) _)).grown, fun _ _ => ⟨by rw [hno]; rfl, .bool 0 s l ks⟩⟩
        · have n0' : (n == 0) = false := by simpa using n0
          have HB : Hid (kindB 1 n s l.length ks = (n == 1)) := by
            show _ = _
            unfold kindB inB
            rw [Bool.eq_iff_iff]
            simp
            omega
          go_enter Tryd.func22, Tryd.ntmps22
          go_wp2_with (first
          | (go_at_call 30; refine (HRoom.out _).mono ?_; rintro e w1 ⟨rfl, hw1⟩; have hp := pre_one hct hw1; have x0 := hp.x0; have x1 := hp.x1; have x2 := hp.x2; have x3 := hp.x3; have x4 := hp.x4; clear hw1)
          | (go_at_call 31; refine (HEmp.out _).mono ?_; rintro e w2 ⟨rfl, b2⟩; have hp2 := hp.keep b2; have y0 := hp2.x0; have y1 := hp2.x1; have y2 := hp2.x2; have y3 := hp2.x3; have y4 := hp2.x4))
          go_quiet (fail)
          go_wp2_with fail
          go_ret2
          exact ⟨_, _, by rw [HF.out, HB.out]; rfl, (hp2.keep (below_drewN' (Below.refl _ _) _)).ctr, (hp2.keep (below_drewN' (Below.refl _ _) _)).grown, fun _ _ => ⟨by rw [hno]; rfl, .bool n s l ks⟩⟩
      by_cases k2 : k = 2
      · subst k2
        obtain ⟨hg, hno⟩ := good_flat hd6 hc8 HE.out (by omega) (by omega)
        have HF : Hid (((Tree.mk 2 n s l ks).good d && decide (c + ((Tree.mk 2 n s l ks).nodes : Int) ≤ 80)) = kindB 2 n s l.length ks) := hg
        clear hg
        by_cases n0 : -999999 ≤ n
        · have HB : Hid (kindB 2 n s l.length ks = decide (n ≤ 999999)) := by
            show _ = _
            unfold kindB inB
            rw [Bool.eq_iff_iff]
            simp
            omega
          go_enter Tryd.func22, Tryd.ntmps22
          go_wp2_with (first
          | (go_at_call 30; refine (HRoom.out _).mono ?_; rintro e w1 ⟨rfl, hw1⟩; have hp := pre_one hct hw1; have x0 := hp.x0; have x1 := hp.x1; have x2 := hp.x2; have x3 := hp.x3; have x4 := hp.x4; clear hw1)
          | (go_at_call 31; refine (HEmp.out _).mono ?_; rintro e w2 ⟨rfl, b2⟩; have hp2 := hp.keep b2; have y0 := hp2.x0; have y1 := hp2.x1; have y2 := hp2.x2; have y3 := hp2.x3; have y4 := hp2.x4))
          go_quiet (fail)
          go_wp2_with fail
          go_ret2
          exact ⟨_, _, by rw [HF.out, HB.out]; rfl, (hp2.keep (below_drewN' (Below.refl _ _) _)).ctr, (hp2.keep (below_drewN' (Below.refl _ _) _)).grown, fun _ _ => ⟨by rw [hno]; rfl, .num n s l ks⟩⟩
        · have n0' : decide (-999999 ≤ n) = false := by simpa using n0
          have HB : Hid (kindB 2 n s l.length ks = false) := by
            show _ = _
            unfold kindB inB
            rw [n0']
            rfl
          go_enter Tryd.func22, Tryd.ntmps22
          go_wp2_with (first
          | (go_at_call 30; refine (HRoom.out _).mono ?_; rintro e w1 ⟨rfl, hw1⟩; have hp := pre_one hct hw1; have x0 := hp.x0; have x1 := hp.x1; have x2 := hp.x2; have x3 := hp.x3; have x4 := hp.x4; clear hw1)
          | (go_at_call 31; refine (HEmp.out _).mono ?_; rintro e w2 ⟨rfl, b2⟩; have hp2 := hp.keep b2; have y0 := hp2.x0; have y1 := hp2.x1; have y2 := hp2.x2; have y3 := hp2.x3; have y4 := hp2.x4))
          go_quiet (fail)
          go_wp2_with fail
          go_ret2
          exact ⟨_, _, by rw [HF.out, HB.out]; rfl, (hp2.keep (below_drewN' (Below.refl _ _) _)).ctr, (hp2.keep (below_drewN' (Below.refl _ _) _)).grown, fun _ _ => ⟨by rw [hno]; rfl, .num n s l ks⟩⟩
      by_cases k3 : k = 3
      · subst k3
        obtain ⟨hg, hno⟩ := good_flat hd6 hc8 HE.out (by omega) (by omega)
        have HF : Hid (((Tree.mk 3 n s l ks).good d && decide (c + ((Tree.mk 3 n s l ks).nodes : Int) ≤ 80)) = kindB 3 n s l.length ks) := hg
        clear hg
        have HTx : Hid (∀ w, Calls Tryd.prog 33 #[.string s] w fun e w' => e = .returned (.bool (textB s)) ∧ w = w') := fun w => implText_c s hs w
        go_enter Tryd.func22, Tryd.ntmps22
        go_wp2_with (first
          | (go_at_call 30; refine (HRoom.out _).mono ?_; rintro e w1 ⟨rfl, hw1⟩; have hp := pre_one hct hw1; have x0 := hp.x0; have x1 := hp.x1; have x2 := hp.x2; have x3 := hp.x3; have x4 := hp.x4; clear hw1)
          | (go_at_call 31; refine (HEmp.out _).mono ?_; rintro e w2 ⟨rfl, b2⟩; have hp2 := hp.keep b2; have y0 := hp2.x0; have y1 := hp2.x1; have y2 := hp2.x2; have y3 := hp2.x3; have y4 := hp2.x4))
        go_region_with (first
          | (go_at_call 32; refine (clone2_c s _ hsz).mono ?_; rintro e w3 ⟨rfl, b3⟩; have z2 : w3.cell? ⟨w.heap.size, 2, none⟩ = some (.string s) := (b3.cell (p := ⟨w.heap.size, 2, none⟩) hp2.lt).trans y2)
          | (go_at_call 33; refine (HTx.out _).mono ?_; rintro e w4 ⟨rfl, rfl⟩))
        all_goals go_wp2_with fail
        all_goals go_ret2
        all_goals
          have b4 : Below w2.heap.size w2 w3 := (Below.refl _ _).drew.trans (b3.mono (Nat.le_refl _))
          exact ⟨_, _, by rw [HF.out]; rfl, (hp2.keep b4).ctr, (hp2.keep b4).grown, fun _ _ => ⟨by rw [hno]; rfl, .text n s l ks⟩⟩
      have hSx : ∀ w2 c0 c1 c2 c3 c4, Pre w w2 g c c0 c1 c2 c3 c4 → KeptIn S w w2 ∧ ∀ b, S b → b < w2.heap.size ∧ b ≠ g := fun w2 c0 c1 c2 c3 c4 hp => ⟨fun b hb => hp.grown.block b (hB b hb).1 (fun e => (hB b hb).2 (by simpa using e)), fun b hb => ⟨Nat.lt_of_lt_of_le (hB b hb).1 hp.grown.size, (hB b hb).2⟩⟩
      by_cases k4 : k = 4
      · subst k4
        have hg := good_list (c := c) hd6 HE.out
        rw [show kindB 4 n s l.length ks = true from rfl, Bool.true_and] at hg
        have HF : Hid (((Tree.mk 4 n s l ks).good d && decide (c + ((Tree.mk 4 n s l ks).nodes : Int) ≤ 80)) = (goodL l (d + 1) && decide (c + 1 + (nodesL l : Int) ≤ 80))) := hg
        have HL : Hid (∀ w2 c0 c1 c2 c3 c4, Pre w w2 g c c0 c1 c2 c3 c4 → Calls Tryd.prog 34 #[.pointer (some ⟨g, 0, none⟩), .slice a l.length cap, .int .i64 (d : Int)] w2 fun e w' => ∃ x c1, e = .returned (.tuple #[x, .bool (goodL l (d + 1) && decide (c + 1 + (nodesL l : Int) ≤ 80))]) ∧ CtrAt w' g c1 ∧ w2.grownBy w' (some g) ∧
            (goodL l (d + 1) = true → c + 1 + (nodesL l : Int) ≤ 80 → c1 = c + 1 + (nodesL l : Int) ∧ XList (Own w2.heap.size w'.heap.size) w' x l)) := fun w2 c0 c1 c2 c3 c4 hp => ihl S _ w2 d g (c + 1) (hl.keep (hSx w2 _ _ _ _ _ hp).1) (hSx w2 _ _ _ _ _ hp).2 hp.ctr (by omega) hc8 hd1 hd6 hwl
        clear hg hSx
        go_enter Tryd.func22, Tryd.ntmps22
        go_wp2_with (first
          | (go_at_call 30; refine (HRoom.out _).mono ?_; rintro e w1 ⟨rfl, hw1⟩; have hp := pre_one hct hw1; have x0 := hp.x0; have x1 := hp.x1; have x2 := hp.x2; have x3 := hp.x3; have x4 := hp.x4; clear hw1)
          | (go_at_call 31; refine (HEmp.out _).mono ?_; rintro e w2 ⟨rfl, b2⟩; have hp2 := hp.keep b2; have y0 := hp2.x0; have y1 := hp2.x1; have y2 := hp2.x2; have y3 := hp2.x3; have y4 := hp2.x4)
          | (go_at_call 34; refine (HL.out _ _ _ _ _ _ hp2).mono ?_; rintro e w3 ⟨x, c1, rfl, ct3, g3, hx⟩))
        go_ret2
        refine ⟨_, c1, by rw [HF.out]; rfl, ct3, gtrans hp2.grown g3, fun z1 z2 => ?_⟩
        have h3 := HF.out
        rw [z1, show decide (c + ((Tree.mk 4 n s l ks).nodes : Int) ≤ 80) = true by simp; exact z2] at h3
        have h4 := h3.symm
        simp at h4
        obtain ⟨h5, h6⟩ := hx h4.1 h4.2
        refine ⟨by rw [h5, nodes_mk]; omega, ?_⟩
        obtain ⟨a9, cap9, X9, rfl, h9, ha9, hX9⟩ := h6
        have hmo : ∀ b, Own w2.heap.size w3.heap.size b → Own w.heap.size w3.heap.size b := Own.mono hp2.grown.size (Nat.le_refl _)
        refine .list n s l ks a9 cap9 X9 h9 ?_ fun i h => (hX9 i h).mono hmo
        rcases ha9 with ha9 | ⟨b, off, ha9, hSb, hcc⟩
        · exact .inl ha9
        · exact .inr ⟨b, off, ha9, hmo b hSb, hcc⟩
      by_cases k5 : k = 5
      · subst k5
        have hg := good_list (c := c) hd6 HE.out
        have HF : Hid (((Tree.mk 5 n s l ks).good d && decide (c + ((Tree.mk 5 n s l ks).nodes : Int) ≤ 80)) = fieldsB l ks d (c + 1)) := hg
        have HL : Hid (∀ w2 c0 c1 c2 c3 c4, Pre w w2 g c c0 c1 c2 c3 c4 → Calls Tryd.prog 35 #[.pointer (some ⟨g, 0, none⟩), .agg #[.int .i64 5, .int .i64 n, .string s, .slice a l.length cap, .slice a' ks.length cap'], .int .i64 (d : Int)] w2 fun e w' => ∃ x c1, e = .returned (.tuple #[x, .bool (fieldsB l ks d (c + 1))]) ∧ CtrAt w' g c1 ∧ w2.grownBy w' (some g) ∧
            (fieldsB l ks d (c + 1) = true → c1 = c + 1 + (nodesL l : Int) ∧ XMap (Own w2.heap.size w'.heap.size) w' x l ks)) := fun w2 c0 c1 c2 c3 c4 hp => ihf S _ w2 d g (c + 1) (hvv.keep (hSx w2 _ _ _ _ _ hp).1) (hSx w2 _ _ _ _ _ hp).2 hp.ctr (by omega) hc8 hd1 hd6 hwl hwk
        clear hg hSx hvv
        go_enter Tryd.func22, Tryd.ntmps22
        go_wp2_with (first
          | (go_at_call 30; refine (HRoom.out _).mono ?_; rintro e w1 ⟨rfl, hw1⟩; have hp := pre_one hct hw1; have x0 := hp.x0; have x1 := hp.x1; have x2 := hp.x2; have x3 := hp.x3; have x4 := hp.x4; clear hw1)
          | (go_at_call 31; refine (HEmp.out _).mono ?_; rintro e w2 ⟨rfl, b2⟩; have hp2 := hp.keep b2; have y0 := hp2.x0; have y1 := hp2.x1; have y2 := hp2.x2; have y3 := hp2.x3; have y4 := hp2.x4)
          | (go_at_call 35; refine (HL.out _ _ _ _ _ _ hp2).mono ?_; rintro e w3 ⟨x, c1, rfl, ct3, g3, hx⟩))
        go_ret2
        refine ⟨_, c1, by rw [HF.out]; rfl, ct3, gtrans hp2.grown g3, fun z1 z2 => ?_⟩
        have h3 := HF.out
        rw [z1, show decide (c + ((Tree.mk 5 n s l ks).nodes : Int) ≤ 80) = true by simp; exact z2] at h3
        obtain ⟨h5, h6⟩ := hx h3.symm
        refine ⟨by rw [h5, nodes_mk]; omega, ?_⟩
        obtain ⟨a9, cap9, X9, rfl, h9, ha9, hX9⟩ := h6
        have hmo : ∀ b, Own w2.heap.size w3.heap.size b → Own w.heap.size w3.heap.size b := Own.mono hp2.grown.size (Nat.le_refl _)
        refine .map n s l ks a9 cap9 X9 h9 ?_ fun i h => (hX9 i h).mono hmo
        rcases ha9 with ha9 | ⟨b, off, ha9, hSb, hcc⟩
        · exact .inl ha9
        · exact .inr ⟨b, off, ha9, hmo b hSb, hcc⟩
      · have HF : Hid (((Tree.mk k n s l ks).good d && decide (c + ((Tree.mk k n s l ks).nodes : Int) ≤ 80)) = false) := by
          show _ = _
          rw [good_list hd6 HE.out]
          unfold kindB
          simp [k0, k1, k2, k3, k4, k5]
        clear hSx
        go_enter Tryd.func22, Tryd.ntmps22
        go_wp2_with (first
          | (go_at_call 30; refine (HRoom.out _).mono ?_; rintro e w1 ⟨rfl, hw1⟩; have hp := pre_one hct hw1; have x0 := hp.x0; have x1 := hp.x1; have x2 := hp.x2; have x3 := hp.x3; have x4 := hp.x4; clear hw1)
          | (go_at_call 31; refine (HEmp.out _).mono ?_; rintro e w2 ⟨rfl, b2⟩; have hp2 := hp.keep b2; have y0 := hp2.x0; have y1 := hp2.x1; have y2 := hp2.x2; have y3 := hp2.x3; have y4 := hp2.x4))
        go_ret2
        exact ⟨_, _, by rw [HF.out]; rfl, hp2.ctr, hp2.grown, fun y1 y2 => by have := HF.out; rw [y1] at this; simp at this; omega⟩

theorem value_all : ∀ T, ValueC T := Tree.ind fun k n s l ks ih => value_step k n s l ks (list_step l ih) (fields_step k n s l ks ih)
#print axioms value_all
end Go.Proofs.YtbolphjigjpmiaaDoor
