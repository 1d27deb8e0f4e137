/-
  Contracts for the walks, several texts in one: each part says what it proves, and under which conditions.
-/
import Derived.Deep.RegionHeld
import Derived.Test.YtkkhnldhipfneaaGreatDoorRows
import Derived.LaidLaws
import Derived.LaidHandle
import Derived.LaidSub
import Derived.Stop.Joined
import Derived.WalkKit
import Derived.ProofKit
import Derived.OpenShut
import Derived.Stop.LaidErr
import Derived.WalkMore
import Derived.ScopeJumps
import Derived.Deep.RegionWith
import Derived.Handy
import Derived.Laws.IdiomStrings
import Derived.Test.YtkkhnldhipfneaaGreatDoorQ3
import Derived.Test.YtkkhnldhipfneaaGreatDoorQ1
import Derived.Test.YtkkhnldhipfneaaGreatDoorQ2

/-! The program's own reading of a value, and its ValOk: for every value that lies in memory and holds at most 2 to the 20. -/
namespace Go.Proofs.YtkkhnldhipfneaaGreatDoor
open Go.RowKit
set_option linter.unusedSimpArgs false
set_option linter.unusedVariables false

/-- Behind the counter's step: it holds one more, the parameter lies in its box. -/
structure Pre (w w1 : World) (g : Nat) (c : Int) (c0 c1 c2 c3 c4 : Value) : Prop where
  ctr : CtrAt w1 g (c + 1)
  grown : w.grownBy w1 (some g)
  x0 : w1.cell? ⟨w.heap.size, 0, none⟩ = some c0
  x1 : w1.cell? ⟨w.heap.size, 1, none⟩ = some c1
  x2 : w1.cell? ⟨w.heap.size, 2, none⟩ = some c2
  x3 : w1.cell? ⟨w.heap.size, 3, none⟩ = some c3
  x4 : w1.cell? ⟨w.heap.size, 4, none⟩ = some c4
  lt : w.heap.size < w1.heap.size

theorem pre_one {w w1 : World} {g : Nat} {c : Int} {c0 c1 c2 c3 c4 : Value} {t : TypeId} (hct : CtrAt w g c) (hw1 : w1 = (w.alloc (.cells #[c0, c1, c2, c3, c4] t)).setCell ⟨g, 0, none⟩ (.int .i64 (c + 1))) : Pre w w1 g c c0 c1 c2 c3 c4 := by
  have hlt := hct.lt
  have hb : (w.alloc (.cells #[c0, c1, c2, c3, c4] t)).heap[w.heap.size]? = _ := heap_new w _
  have hb2 : w1.heap[w.heap.size]? = some (.cells #[c0, c1, c2, c3, c4] t) := by
    rw [hw1, Below.heap_setCell _ _ _ _ (by simp; omega)]; exact hb
  refine ⟨by rw [hw1]; exact (hct.alloc _).set _, by rw [hw1]; exact gtrans (galloc _ _ _) (grown_set' _ _ _ _), blk_cell hb2 0, blk_cell hb2 1, blk_cell hb2 2, blk_cell hb2 3, blk_cell hb2 4, (Array.getElem?_eq_some_iff.1 hb2).1⟩

theorem Pre.keep {w w1 w2 : World} {g : Nat} {c : Int} {c0 c1 c2 c3 c4 : Value} (h : Pre w w1 g c c0 c1 c2 c3 c4) (b : Below w1.heap.size w1 w2) : Pre w w2 g c c0 c1 c2 c3 c4 := by
  have hc : ∀ j, w2.cell? ⟨w.heap.size, j, none⟩ = w1.cell? ⟨w.heap.size, j, none⟩ := fun j => b.cell (p := ⟨w.heap.size, j, none⟩) h.lt
  exact ⟨h.ctr.keep b, gtrans h.grown (grown_of_below b _), (hc 0).trans h.x0, (hc 1).trans h.x1, (hc 2).trans h.x2, (hc 3).trans h.x3, (hc 4).trans h.x4, Nat.lt_of_lt_of_le h.lt b.size⟩

theorem good_flat {k n : Int} {s : ByteArray} {l : List Tree} {ks : List ByteArray} {d : Nat} {c : Int} (hd : d ≤ 6) (hc : c + 1 ≤ 80) (he : emptyB k n s l.length ks = true) (h4 : k ≠ 4) (h5 : k ≠ 5) :
    ((Tree.mk k n s l ks).good d && decide (c + ((Tree.mk k n s l ks).nodes : Int) ≤ 80)) = kindB k n s l.length ks ∧ (Tree.mk k n s l ks).nodes = 1 := by
  have hl : l = [] := by
    unfold emptyB at he
    simp [h4, h5] at he
    exact he.1.2
  subst hl
  have hn : (Tree.mk k n s [] ks).nodes = 1 := by rw [nodes_mk, nodesL]
  refine ⟨?_, hn⟩
  rw [good_mk, here_split, hn, goodL]
  rw [show decide (d ≤ 6) = true by simp; omega, show ([] : List Tree).length = 0 from rfl] at *
  rw [he]
  simp
  intro _
  omega

theorem good_list {k n : Int} {s : ByteArray} {l : List Tree} {ks : List ByteArray} {d : Nat} {c : Int} (hd : d ≤ 6) (he : emptyB k n s l.length ks = true) :
    ((Tree.mk k n s l ks).good d && decide (c + ((Tree.mk k n s l ks).nodes : Int) ≤ 80)) = (kindB k n s l.length ks && (goodL l (d + 1) && decide (c + 1 + (nodesL l : Int) ≤ 80))) := by
  rw [good_mk, here_split, he, nodes_mk, show decide (d ≤ 6) = true by simp; omega, show c + ((1 + nodesL l : Nat) : Int) = c + 1 + (nodesL l : Int) by omega]
  simp [Bool.and_assoc]

set_option maxHeartbeats 4000000 in
set_option maxRecDepth 100000 in
theorem value_step (k n : Int) (s : ByteArray) (l : List Tree) (ks : List ByteArray) (ihl : ListC l) (ihf : FieldsC k n s l ks) : ValueC (.mk k n s l ks) := by
  intro S v w d g c hv hB hct h0 h1 hd1 hd7 hw
  rw [wt_mk] at hw
  have hvv := hv
  obtain ⟨cv, u, rfl, hs, hk, hl, hu⟩ := hv.out
  clear hv
  obtain ⟨a, cap, rfl, hlm, hcp, _⟩ := hl.at
  obtain ⟨a', cap', rfl, hcp', _⟩ := reads_strs (hu.reads fun b h => (hB b h).1)
  have hwl : wtL l ≤ 1048576 := by omega
  have hwk : bulkS ks ≤ 1048576 := by omega
  have hsz : s.size ≤ 1048576 := by omega
  have hgN := hct.lt
  have hctA : ∀ o, CtrAt (w.alloc o) g c := fun o => hct.alloc o
  obtain ⟨R, hR⟩ : ∃ R, R = (decide ((d : Int) ≤ 6) && decide (c + 1 ≤ 80)) := ⟨_, rfl⟩
  have HR : Hid (R = (decide ((d : Int) ≤ 6) && decide (c + 1 ≤ 80))) := hR
  have HRoom : Hid (∀ o, Calls Tryz.prog 272 #[.pointer (some ⟨g, 0, none⟩), .int .i64 (d : Int)] (w.alloc o) fun e w' => e = .returned (.bool R) ∧ w' = (w.alloc o).setCell ⟨g, 0, none⟩ (.int .i64 (c + 1))) := fun o => by rw [hR]; exact room_c g c (d : Int) (w.alloc o) (hctA o) h0 (by omega)
  clear hR
  cases R with
  | false =>
    have HF : Hid (((Tree.mk k n s l ks).good d && decide (c + ((Tree.mk k n s l ks).nodes : Int) ≤ 80)) = false) := by
      show _ = _
      have h := HR.out.symm
      have hn := nodes_pos (Tree.mk k n s l ks)
      by_cases h6 : (d : Int) ≤ 6
      · rw [show decide ((d : Int) ≤ 6) = true by simp; omega] at h
        simp at h ⊢
        intro _; omega
      · rw [good_mk, show decide (d ≤ 6) = false by simp; omega]; rfl
    go_enter Tryz.func255, Tryz.ntmps255
    go_wp2_with (go_at_call 272; refine (HRoom.out _).mono ?_; rintro e w1 ⟨rfl, hw1⟩; have hp := pre_one hct hw1; clear hw1)
    go_ret2
    exact ⟨_, _, by rw [HF.out]; rfl, hp.ctr, hp.grown, fun x1 x2 => by have := HF.out; rw [x1] at this; simp at this; omega⟩
  | true =>
    have hd6 : d ≤ 6 ∧ c + 1 ≤ 80 := by have := HR.out.symm; simp at this; omega
    obtain ⟨hd6, hc8⟩ := hd6
    have HEmp : Hid (∀ w, Calls Tryz.prog 273 #[.agg #[.int .i64 k, .int .i64 n, .string s, .slice a l.length cap, .slice a' ks.length cap']] w fun e w' => e = .returned (.bool (emptyB k n s l.length ks)) ∧ Below w.heap.size w w') := fun w => empty_c k n s a a' l.length cap cap' ks w
    cases he : emptyB k n s l.length ks with
    | false =>
      have HF : Hid (((Tree.mk k n s l ks).good d && decide (c + ((Tree.mk k n s l ks).nodes : Int) ≤ 80)) = false) := by
        show _ = _
        rw [good_mk, here_split, he]; simp
      rw [he] at HEmp
      clear he
      go_enter Tryz.func255, Tryz.ntmps255
      go_wp2_with (first
        | (go_at_call 272; refine (HRoom.out _).mono ?_; rintro e w1 ⟨rfl, hw1⟩; have hp := pre_one hct hw1; have x0 := hp.x0; have x1 := hp.x1; have x2 := hp.x2; have x3 := hp.x3; have x4 := hp.x4; clear hw1)
        | (go_at_call 273; refine (HEmp.out _).mono ?_; rintro e w2 ⟨rfl, b2⟩; have hp2 := hp.keep b2))
      go_ret2
      exact ⟨_, _, by rw [HF.out]; rfl, hp2.ctr, hp2.grown, fun y1 y2 => by have := HF.out; rw [y1] at this; simp at this; omega⟩
    | true =>
      rw [he] at HEmp
      have HE : Hid (emptyB k n s l.length ks = true) := he
      clear he
      by_cases k0 : k = 0
      · subst k0
        obtain ⟨hg, hno⟩ := good_flat hd6 hc8 HE.out (by omega) (by omega)
        have HF : Hid (((Tree.mk 0 n s l ks).good d && decide (c + ((Tree.mk 0 n s l ks).nodes : Int) ≤ 80)) = true) := hg
        clear hg
        go_enter Tryz.func255, Tryz.ntmps255
        go_wp2_with (first
          | (go_at_call 272; refine (HRoom.out _).mono ?_; rintro e w1 ⟨rfl, hw1⟩; have hp := pre_one hct hw1; have x0 := hp.x0; have x1 := hp.x1; have x2 := hp.x2; have x3 := hp.x3; have x4 := hp.x4; clear hw1)
          | (go_at_call 273; refine (HEmp.out _).mono ?_; rintro e w2 ⟨rfl, b2⟩; have hp2 := hp.keep b2; have y0 := hp2.x0))
        go_ret2
        exact ⟨_, _, by rw [HF.out]; rfl, hp2.ctr, hp2.grown, fun _ _ => ⟨by rw [hno]; rfl, .null n s l ks⟩⟩
      by_cases k1 : k = 1
      · subst k1
        obtain ⟨hg, hno⟩ := good_flat hd6 hc8 HE.out (by omega) (by omega)
        have HF : Hid (((Tree.mk 1 n s l ks).good d && decide (c + ((Tree.mk 1 n s l ks).nodes : Int) ≤ 80)) = kindB 1 n s l.length ks) := hg
        clear hg
        by_cases n0 : n = 0
        · subst n0
          go_enter Tryz.func255, Tryz.ntmps255
          go_wp2_with (first
          | (go_at_call 272; refine (HRoom.out _).mono ?_; rintro e w1 ⟨rfl, hw1⟩; have hp := pre_one hct hw1; have x0 := hp.x0; have x1 := hp.x1; have x2 := hp.x2; have x3 := hp.x3; have x4 := hp.x4; clear hw1)
          | (go_at_call 273; refine (HEmp.out _).mono ?_; rintro e w2 ⟨rfl, b2⟩; have hp2 := hp.keep b2; have y0 := hp2.x0; have y1 := hp2.x1; have y2 := hp2.x2; have y3 := hp2.x3; have y4 := hp2.x4))
          go_quiet (fail)
          go_wp2_with fail
          go_ret2
          exact ⟨_, _, by rw [HF.out]; rfl, (hp2.keep (below_drewN' (Below.refl _ _) _)).ctr, (hp2.keep (below_drewN' (Below.refl _ _) _)).grown, fun _ _ => ⟨by rw [hno]; rfl, .bool 0 s l ks⟩⟩
        · have n0' : (n == 0) = false := by simpa using n0
          have HB : Hid (kindB 1 n s l.length ks = (n == 1)) := by
            show _ = _
            unfold kindB inB
            rw [Bool.eq_iff_iff]
            simp
            omega
          go_enter Tryz.func255, Tryz.ntmps255
          go_wp2_with (first
          | (go_at_call 272; refine (HRoom.out _).mono ?_; rintro e w1 ⟨rfl, hw1⟩; have hp := pre_one hct hw1; have x0 := hp.x0; have x1 := hp.x1; have x2 := hp.x2; have x3 := hp.x3; have x4 := hp.x4; clear hw1)
          | (go_at_call 273; refine (HEmp.out _).mono ?_; rintro e w2 ⟨rfl, b2⟩; have hp2 := hp.keep b2; have y0 := hp2.x0; have y1 := hp2.x1; have y2 := hp2.x2; have y3 := hp2.x3; have y4 := hp2.x4))
          go_quiet (fail)
          go_wp2_with fail
          go_ret2
          exact ⟨_, _, by rw [HF.out, HB.out]; rfl, (hp2.keep (below_drewN' (Below.refl _ _) _)).ctr, (hp2.keep (below_drewN' (Below.refl _ _) _)).grown, fun _ _ => ⟨by rw [hno]; rfl, .bool n s l ks⟩⟩
      by_cases k2 : k = 2
      · subst k2
        obtain ⟨hg, hno⟩ := good_flat hd6 hc8 HE.out (by omega) (by omega)
        have HF : Hid (((Tree.mk 2 n s l ks).good d && decide (c + ((Tree.mk 2 n s l ks).nodes : Int) ≤ 80)) = kindB 2 n s l.length ks) := hg
        clear hg
        by_cases n0 : -999999 ≤ n
        · have HB : Hid (kindB 2 n s l.length ks = decide (n ≤ 999999)) := by
            show _ = _
            unfold kindB inB
            rw [Bool.eq_iff_iff]
            simp
            omega
          go_enter Tryz.func255, Tryz.ntmps255
          go_wp2_with (first
          | (go_at_call 272; refine (HRoom.out _).mono ?_; rintro e w1 ⟨rfl, hw1⟩; have hp := pre_one hct hw1; have x0 := hp.x0; have x1 := hp.x1; have x2 := hp.x2; have x3 := hp.x3; have x4 := hp.x4; clear hw1)
          | (go_at_call 273; refine (HEmp.out _).mono ?_; rintro e w2 ⟨rfl, b2⟩; have hp2 := hp.keep b2; have y0 := hp2.x0; have y1 := hp2.x1; have y2 := hp2.x2; have y3 := hp2.x3; have y4 := hp2.x4))
          go_quiet (fail)
          go_wp2_with fail
          go_ret2
          exact ⟨_, _, by rw [HF.out, HB.out]; rfl, (hp2.keep (below_drewN' (Below.refl _ _) _)).ctr, (hp2.keep (below_drewN' (Below.refl _ _) _)).grown, fun _ _ => ⟨by rw [hno]; rfl, .num n s l ks⟩⟩
        · have n0' : decide (-999999 ≤ n) = false := by simpa using n0
          have HB : Hid (kindB 2 n s l.length ks = false) := by
            show _ = _
            unfold kindB inB
            rw [n0']
            rfl
          go_enter Tryz.func255, Tryz.ntmps255
          go_wp2_with (first
          | (go_at_call 272; refine (HRoom.out _).mono ?_; rintro e w1 ⟨rfl, hw1⟩; have hp := pre_one hct hw1; have x0 := hp.x0; have x1 := hp.x1; have x2 := hp.x2; have x3 := hp.x3; have x4 := hp.x4; clear hw1)
          | (go_at_call 273; refine (HEmp.out _).mono ?_; rintro e w2 ⟨rfl, b2⟩; have hp2 := hp.keep b2; have y0 := hp2.x0; have y1 := hp2.x1; have y2 := hp2.x2; have y3 := hp2.x3; have y4 := hp2.x4))
          go_quiet (fail)
          go_wp2_with fail
          go_ret2
          exact ⟨_, _, by rw [HF.out, HB.out]; rfl, (hp2.keep (below_drewN' (Below.refl _ _) _)).ctr, (hp2.keep (below_drewN' (Below.refl _ _) _)).grown, fun _ _ => ⟨by rw [hno]; rfl, .num n s l ks⟩⟩
      by_cases k3 : k = 3
      · subst k3
        obtain ⟨hg, hno⟩ := good_flat hd6 hc8 HE.out (by omega) (by omega)
        have HF : Hid (((Tree.mk 3 n s l ks).good d && decide (c + ((Tree.mk 3 n s l ks).nodes : Int) ≤ 80)) = kindB 3 n s l.length ks) := hg
        clear hg
        have HTx : Hid (∀ w, Calls Tryz.prog 274 #[.string s] w fun e w' => e = .returned (.bool (textB s)) ∧ w = w') := fun w => implText_c s hs w
        go_enter Tryz.func255, Tryz.ntmps255
        go_wp2_with (first
          | (go_at_call 272; refine (HRoom.out _).mono ?_; rintro e w1 ⟨rfl, hw1⟩; have hp := pre_one hct hw1; have x0 := hp.x0; have x1 := hp.x1; have x2 := hp.x2; have x3 := hp.x3; have x4 := hp.x4; clear hw1)
          | (go_at_call 273; refine (HEmp.out _).mono ?_; rintro e w2 ⟨rfl, b2⟩; have hp2 := hp.keep b2; have y0 := hp2.x0; have y1 := hp2.x1; have y2 := hp2.x2; have y3 := hp2.x3; have y4 := hp2.x4))
        go_region_with (first
          | (go_at_call 73; refine (clone2_c s _ hsz).mono ?_; rintro e w3 ⟨rfl, b3⟩; have z2 : w3.cell? ⟨w.heap.size, 2, none⟩ = some (.string s) := (b3.cell (p := ⟨w.heap.size, 2, none⟩) hp2.lt).trans y2)
          | (go_at_call 274; refine (HTx.out _).mono ?_; rintro e w4 ⟨rfl, rfl⟩))
        all_goals go_wp2_with fail
        all_goals go_ret2
        all_goals
          have b4 : Below w2.heap.size w2 w3 := (Below.refl _ _).drew.trans (b3.mono (Nat.le_refl _))
          exact ⟨_, _, by rw [HF.out]; rfl, (hp2.keep b4).ctr, (hp2.keep b4).grown, fun _ _ => ⟨by rw [hno]; rfl, .text n s l ks⟩⟩
      have hSx : ∀ w2 c0 c1 c2 c3 c4, Pre w w2 g c c0 c1 c2 c3 c4 → KeptIn S w w2 ∧ ∀ b, S b → b < w2.heap.size ∧ b ≠ g := fun w2 c0 c1 c2 c3 c4 hp => ⟨fun b hb => hp.grown.block b (hB b hb).1 (fun e => (hB b hb).2 (by simpa using e)), fun b hb => ⟨Nat.lt_of_lt_of_le (hB b hb).1 hp.grown.size, (hB b hb).2⟩⟩
      by_cases k4 : k = 4
      · subst k4
        have hg := good_list (c := c) hd6 HE.out
        rw [show kindB 4 n s l.length ks = true from rfl, Bool.true_and] at hg
        have HF : Hid (((Tree.mk 4 n s l ks).good d && decide (c + ((Tree.mk 4 n s l ks).nodes : Int) ≤ 80)) = (goodL l (d + 1) && decide (c + 1 + (nodesL l : Int) ≤ 80))) := hg
        have HL : Hid (∀ w2 c0 c1 c2 c3 c4, Pre w w2 g c c0 c1 c2 c3 c4 → Calls Tryz.prog 275 #[.pointer (some ⟨g, 0, none⟩), .slice a l.length cap, .int .i64 (d : Int)] w2 fun e w' => ∃ x c1, e = .returned (.tuple #[x, .bool (goodL l (d + 1) && decide (c + 1 + (nodesL l : Int) ≤ 80))]) ∧ CtrAt w' g c1 ∧ w2.grownBy w' (some g) ∧
            (goodL l (d + 1) = true → c + 1 + (nodesL l : Int) ≤ 80 → c1 = c + 1 + (nodesL l : Int) ∧ XList (Own w2.heap.size w'.heap.size) w' x l)) := fun w2 c0 c1 c2 c3 c4 hp => ihl S _ w2 d g (c + 1) (hl.keep (hSx w2 _ _ _ _ _ hp).1) (hSx w2 _ _ _ _ _ hp).2 hp.ctr (by omega) hc8 hd1 hd6 hwl
        clear hg hSx
        go_enter Tryz.func255, Tryz.ntmps255
        go_wp2_with (first
          | (go_at_call 272; refine (HRoom.out _).mono ?_; rintro e w1 ⟨rfl, hw1⟩; have hp := pre_one hct hw1; have x0 := hp.x0; have x1 := hp.x1; have x2 := hp.x2; have x3 := hp.x3; have x4 := hp.x4; clear hw1)
          | (go_at_call 273; refine (HEmp.out _).mono ?_; rintro e w2 ⟨rfl, b2⟩; have hp2 := hp.keep b2; have y0 := hp2.x0; have y1 := hp2.x1; have y2 := hp2.x2; have y3 := hp2.x3; have y4 := hp2.x4)
          | (go_at_call 275; refine (HL.out _ _ _ _ _ _ hp2).mono ?_; rintro e w3 ⟨x, c1, rfl, ct3, g3, hx⟩))
        go_ret2
        refine ⟨_, c1, by rw [HF.out]; rfl, ct3, gtrans hp2.grown g3, fun z1 z2 => ?_⟩
        have h3 := HF.out
        rw [z1, show decide (c + ((Tree.mk 4 n s l ks).nodes : Int) ≤ 80) = true by simp; exact z2] at h3
        have h4 := h3.symm
        simp at h4
        obtain ⟨h5, h6⟩ := hx h4.1 h4.2
        refine ⟨by rw [h5, nodes_mk]; omega, ?_⟩
        obtain ⟨a9, cap9, X9, rfl, h9, ha9, hX9⟩ := h6
        have hmo : ∀ b, Own w2.heap.size w3.heap.size b → Own w.heap.size w3.heap.size b := Own.mono hp2.grown.size (Nat.le_refl _)
        refine .list n s l ks a9 cap9 X9 h9 ?_ fun i h => (hX9 i h).mono hmo
        rcases ha9 with ha9 | ⟨b, off, ha9, hSb, hcc⟩
        · exact .inl ha9
        · exact .inr ⟨b, off, ha9, hmo b hSb, hcc⟩
      by_cases k5 : k = 5
      · subst k5
        have hg := good_list (c := c) hd6 HE.out
        have HF : Hid (((Tree.mk 5 n s l ks).good d && decide (c + ((Tree.mk 5 n s l ks).nodes : Int) ≤ 80)) = fieldsB l ks d (c + 1)) := hg
        have HL : Hid (∀ w2 c0 c1 c2 c3 c4, Pre w w2 g c c0 c1 c2 c3 c4 → Calls Tryz.prog 276 #[.pointer (some ⟨g, 0, none⟩), .agg #[.int .i64 5, .int .i64 n, .string s, .slice a l.length cap, .slice a' ks.length cap'], .int .i64 (d : Int)] w2 fun e w' => ∃ x c1, e = .returned (.tuple #[x, .bool (fieldsB l ks d (c + 1))]) ∧ CtrAt w' g c1 ∧ w2.grownBy w' (some g) ∧
            (fieldsB l ks d (c + 1) = true → c1 = c + 1 + (nodesL l : Int) ∧ XMap (Own w2.heap.size w'.heap.size) w' x l ks)) := fun w2 c0 c1 c2 c3 c4 hp => ihf S _ w2 d g (c + 1) (hvv.keep (hSx w2 _ _ _ _ _ hp).1) (hSx w2 _ _ _ _ _ hp).2 hp.ctr (by omega) hc8 hd1 hd6 hwl hwk
        clear hg hSx hvv
        go_enter Tryz.func255, Tryz.ntmps255
        go_wp2_with (first
          | (go_at_call 272; refine (HRoom.out _).mono ?_; rintro e w1 ⟨rfl, hw1⟩; have hp := pre_one hct hw1; have x0 := hp.x0; have x1 := hp.x1; have x2 := hp.x2; have x3 := hp.x3; have x4 := hp.x4; clear hw1)
          | (go_at_call 273; refine (HEmp.out _).mono ?_; rintro e w2 ⟨rfl, b2⟩; have hp2 := hp.keep b2; have y0 := hp2.x0; have y1 := hp2.x1; have y2 := hp2.x2; have y3 := hp2.x3; have y4 := hp2.x4)
          | (go_at_call 276; refine (HL.out _ _ _ _ _ _ hp2).mono ?_; rintro e w3 ⟨x, c1, rfl, ct3, g3, hx⟩))
        go_ret2
        refine ⟨_, c1, by rw [HF.out]; rfl, ct3, gtrans hp2.grown g3, fun z1 z2 => ?_⟩
        have h3 := HF.out
        rw [z1, show decide (c + ((Tree.mk 5 n s l ks).nodes : Int) ≤ 80) = true by simp; exact z2] at h3
        obtain ⟨h5, h6⟩ := hx h3.symm
        refine ⟨by rw [h5, nodes_mk]; omega, ?_⟩
        obtain ⟨a9, cap9, X9, rfl, h9, ha9, hX9⟩ := h6
        have hmo : ∀ b, Own w2.heap.size w3.heap.size b → Own w.heap.size w3.heap.size b := Own.mono hp2.grown.size (Nat.le_refl _)
        refine .map n s l ks a9 cap9 X9 h9 ?_ fun i h => (hX9 i h).mono hmo
        rcases ha9 with ha9 | ⟨b, off, ha9, hSb, hcc⟩
        · exact .inl ha9
        · exact .inr ⟨b, off, ha9, hmo b hSb, hcc⟩
      · have HF : Hid (((Tree.mk k n s l ks).good d && decide (c + ((Tree.mk k n s l ks).nodes : Int) ≤ 80)) = false) := by
          show _ = _
          rw [good_list hd6 HE.out]
          unfold kindB
          simp [k0, k1, k2, k3, k4, k5]
        clear hSx
        go_enter Tryz.func255, Tryz.ntmps255
        go_wp2_with (first
          | (go_at_call 272; refine (HRoom.out _).mono ?_; rintro e w1 ⟨rfl, hw1⟩; have hp := pre_one hct hw1; have x0 := hp.x0; have x1 := hp.x1; have x2 := hp.x2; have x3 := hp.x3; have x4 := hp.x4; clear hw1)
          | (go_at_call 273; refine (HEmp.out _).mono ?_; rintro e w2 ⟨rfl, b2⟩; have hp2 := hp.keep b2; have y0 := hp2.x0; have y1 := hp2.x1; have y2 := hp2.x2; have y3 := hp2.x3; have y4 := hp2.x4))
        go_ret2
        exact ⟨_, _, by rw [HF.out]; rfl, hp2.ctr, hp2.grown, fun y1 y2 => by have := HF.out; rw [y1] at this; simp at this; omega⟩

theorem value_all : ∀ T, ValueC T := Tree.ind fun k n s l ks ih => value_step k n s l ks (list_step l ih) (fields_step k n s l ks ih)
#print axioms value_all
end Go.Proofs.YtkkhnldhipfneaaGreatDoor

/-! The program's ValOk is the specification's: for every value that lies in memory and holds at most 2 to the 20. -/
namespace Go.Proofs.YtkkhnldhipfneaaGreatDoor
open Go.RowKit
set_option linter.unusedSimpArgs false
set_option linter.unusedVariables false

theorem ok_eq (T : Tree) : (T.good 1 && decide ((0 : Int) + (T.nodes : Int) ≤ 80)) = T.ok := by
  unfold Tree.ok
  congr 1
  rw [Bool.eq_iff_iff]
  simp
  omega

set_option maxHeartbeats 1000000 in
theorem valueOf_c (T : Tree) (S : Nat → Prop) (v : Value) (w : World) (hv : Lies S w v T) (hB : ∀ b, S b → b < w.heap.size) (hw : T.wt ≤ 1048576) :
    Calls Tryz.prog 207 #[v] w fun e w' => ∃ x, e = .returned (.tuple #[x, .bool T.ok]) ∧ Below w.heap.size w w' ∧ (T.ok = true → XLies (Own w.heap.size w'.heap.size) w' x T) := by
  have hb2 : ∀ A R, Below w.heap.size w ((w.alloc A).alloc R) := fun A R => ((Below.refl _ _).alloc (Nat.le_refl _) _).alloc (by simp) _
  have HC : Hid (∀ o, Calls Tryz.prog 255 #[.pointer (some ⟨w.heap.size + 1, 0, none⟩), v, .int .i64 1] ((w.alloc o).alloc (.cells #[.int .i64 0] 281)) fun e w' => ∃ x, e = .returned (.tuple #[x, .bool T.ok]) ∧ Below w.heap.size w w' ∧ (T.ok = true → XLies (Own w.heap.size w'.heap.size) w' x T)) := fun o => by
    have s1 : (w.alloc o).heap.size = w.heap.size + 1 := by simp
    have hct : CtrAt ((w.alloc o).alloc (.cells #[.int .i64 0] 281)) (w.heap.size + 1) 0 := by
      unfold CtrAt
      rw [← s1, heap_new]
    have h := value_all T S v ((w.alloc o).alloc (.cells #[.int .i64 0] 281)) 1 (w.heap.size + 1) 0 (hv.keep (.of (hb2 _ _) hB)) (fun b hb => ⟨by have := hB b hb; simp; omega, by have := hB b hb; omega⟩) hct (by omega) (by omega) (by omega) (by omega) hw
    refine h.mono ?_
    rintro e w' ⟨x, c1, rfl, ct, gr, hx⟩
    rw [ok_eq]
    have hbel : Below w.heap.size w w' := (hb2 _ _).grown gr (by simp; omega) (fun k hk => by simp at hk; omega)
    refine ⟨x, rfl, hbel, fun hok => ?_⟩
    rw [← ok_eq] at hok
    simp only [Bool.and_eq_true, decide_eq_true_eq] at hok
    exact (hx hok.1 hok.2).2.mono (Own.mono (by simp; omega) (Nat.le_refl _))
  obtain ⟨k, n, s, a, m, cap, a', m', cap', rfl⟩ := hv.parts
  clear hv
  go_enter Tryz.func207, Tryz.ntmps207
  go_wp2_with (go_at_call 255; refine (HC.out _).mono ?_; rintro e w' ⟨x, rfl, hbel, hx⟩)
  go_ret2
  exact ⟨x, rfl, hbel, hx⟩

end Go.Proofs.YtkkhnldhipfneaaGreatDoor

/-! Entries that lie in memory: what they are: no condition. -/
namespace Go.Proofs.YtkkhnldhipfneaaGreatDoor
open Go.RowKit
set_option linter.unusedSimpArgs false
set_option linter.unusedVariables false

structure EntryD where
  name : ByteArray
  vA : Int
  vB : Int
  vC : Int
  vP : List ByteArray
  needs : List NeedD
def wtEntry (d : EntryD) : Nat := d.name.size + bulkS d.vP + wtRow wtNeed d.needs
def shEntry : Sh EntryD where
  n := 6
  lies S w cs d := ∃ u0 u1, cs = [.string d.name, .int .i64 d.vA, .int .i64 d.vB, .int .i64 d.vC, u0, u1] ∧ d.name.size ≤ maxLen ∧ RdB S w u0 (strsV d.vP) ∧ saneP d.vP ∧ RowIn shNeed S w u1 d.needs
  keep hk h := by obtain ⟨u0, u1, h0, h1, h2, h3, h4⟩ := h; exact ⟨u0, u1, h0, h1, h2.keep hk, h3, h4.keep hk⟩
  mono hS h := by obtain ⟨u0, u1, h0, h1, h2, h3, h4⟩ := h; exact ⟨u0, u1, h0, h1, h2.mono hS, h3, h4.mono hS⟩
def shEntryO : Sh EntryD where
  n := 6
  lies S w cs d := ∃ u0 u1, cs = [.string d.name, .int .i64 d.vA, .int .i64 d.vB, .int .i64 d.vC, u0, u1] ∧ d.name.size ≤ maxLen ∧ StrsOwn S w u0 d.vP ∧ saneP d.vP ∧ RowOwn shNeed 211 S w u1 d.needs
  keep hk h := by obtain ⟨u0, u1, h0, h1, h2, h3, h4⟩ := h; exact ⟨u0, u1, h0, h1, h2.keep hk, h3, h4.keep hk⟩
  mono hS h := by obtain ⟨u0, u1, h0, h1, h2, h3, h4⟩ := h; exact ⟨u0, u1, h0, h1, h2.mono hS, h3, h4.mono hS⟩
theorem liesEntry_plain {S : Nat → Prop} {w : World} {cs : List Value} {d : EntryD} (h : shEntryO.lies S w cs d) : shEntry.lies S w cs d := by
  obtain ⟨u0, u1, e0, s_name, r0, p0, r1⟩ := h
  exact ⟨u0, u1, e0, s_name, r0.plain, p0, r1.plain⟩
end Go.Proofs.YtkkhnldhipfneaaGreatDoor

/-! Copies of needs and commands, and of rows of them, in memory of their own, as the law makes them: contracts for the walks; condition: what is copied holds at most 2 to the 20. -/
namespace Go.Proofs.YtkkhnldhipfneaaGreatDoor
open Go.RowKit
set_option linter.unusedSimpArgs false
set_option linter.unusedVariables false

theorem owns_sliceP {w : World} {lo : Nat} {e : TypeId} {sz n : Nat} {v : Value} {xs : List Value} (hg : w.ownsRow lo e sz v n xs) : ∃ q cap, v = .slice q n cap := by
  rcases hg.2 with ⟨h1, h2⟩ | ⟨g, cap, cur, h1, _⟩
  · exact ⟨none, 0, by rw [h1, h2]⟩
  · exact ⟨_, _, h1⟩
theorem StrsOwn.slice {S : Nat → Prop} {w : World} {u : Value} {ss : List ByteArray} (h : StrsOwn S w u ss) : ∃ q cap, u = .slice q ss.length cap := owns_sliceP h.1
theorem RowOwn.slice {α : Type} {sh : Sh α} {t : TypeId} {S : Nat → Prop} {w : World} {v : Value} {xs : List α} (h : RowOwn sh t S w v xs) : ∃ q cap, v = .slice q xs.length cap := by
  obtain ⟨_, ys, h1, _⟩ := h; exact owns_sliceP h1

set_option maxHeartbeats 2000000 in
set_option maxRecDepth 100000 in
theorem toNeed_c (S : Nat → Prop) (d : NeedD) (cs : List Value) (w : World) (hd : shNeed.lies S w cs d) (hB : ∀ b, S b → b < w.heap.size) (hw : wtNeed d ≤ 1048576) :
    Calls Tryz.prog 213 #[.agg cs.toArray] w fun e w' => ∃ cs', e = .returned (.agg cs'.toArray) ∧ shNeed.lies (Ow w.heap.size w'.heap.size) w' cs' d ∧ Below w.heap.size w w' := by
  obtain ⟨rfl, s_n, s_r⟩ := hd
  have hb3 : ∀ A R O, Below w.heap.size w (((w.alloc A).alloc R).alloc O) := fun A R O => (((Below.refl _ _).alloc (Nat.le_refl _) _).alloc (by simp) _).alloc (by simp; omega) _
  go_enter Tryz.func213, Tryz.ntmps213
  go_wp2_with fail
  refine bodyPost_ret (v := .agg #[.string d.n, .string d.r]) (by simp [results, Tryz.results213, go_sem]) rfl ⟨_, rfl, ⟨rfl, s_n, s_r⟩, ?_⟩
  exact hb3 _ _ _

set_option maxHeartbeats 2000000 in
set_option maxRecDepth 100000 in
theorem infoNeed : (Tryz.prog.info? 211).map (fun i => (i.zero, i.size, i.bytes)) = some (some (.agg #[.string ⟨#[]⟩, .string ⟨#[]⟩]), 2, 32) := by kernel_rfl
set_option maxHeartbeats 2000000 in
set_option maxRecDepth 100000 in
theorem toNeedS_c (S : Nat → Prop) (v : Value) (xs : List NeedD) (w : World) (hv : RowIn shNeed S w v xs) (hB : ∀ b, S b → b < w.heap.size) (hw : wtRow wtNeed xs ≤ 1048576) :
    Calls Tryz.prog 166 #[v] w fun e w' => ∃ g, e = .returned (.slice (some ⟨g, 0, none⟩) xs.length xs.length) ∧ RowOwn shNeed 211 (Ow w.heap.size w'.heap.size) w' (.slice (some ⟨g, 0, none⟩) xs.length xs.length) xs ∧ Below w.heap.size w w' := by
  obtain ⟨a, cap, rfl, hl, hc, ha⟩ := hv
  have hn := len_wtRow wtNeed xs
  have hlm : xs.length ≤ maxLen := hl
  unfold maxLen at hl
  obtain ⟨i0, hi, hz0, hz1, hz2⟩ := info_parts infoNeed
  go_enter Tryz.func166, Tryz.ntmps166
  go_wp2_with (first
    | (at_make; refine wpList_make_full _ rfl _ _ 137 rfl w.heap.size 211 i0 _ 2 Tryz.underlying137 hi hz0 hz1 _ _ _ _ xs.length rfl rfl rfl rfl (by rw [hz2]; omega) (by unfold maxLen; omega) (Nat.le_refl _) ?_))
  intro w1 hown hgrow
  have hb1 := below_of_grown hgrow
  have hs1 : w.heap.size + 1 ≤ w1.heap.size := by
    rcases hown.2 with ⟨h, _⟩ | ⟨g, cap, cur, h, _, hg, _⟩
    · simp at h
    · simp at h
      have := (Array.getElem?_eq_some_iff.1 hg).1
      omega
  obtain ⟨ys1, hown1⟩ : ∃ ys, w1.ownsRow w.heap.size 211 2 (.slice (some ⟨w.heap.size, 0, none⟩) xs.length xs.length) xs.length ys := ⟨_, hown⟩
  clear hgrow hown
  go_wp2_with fail
  go_loopw [4] (fun vi wr => ∃ (k : Nat) (ys : List Value), k ≤ xs.length ∧ vi = .int .i64 (k : Int) ∧ wr.ownsRow w.heap.size 211 2 (.slice (some ⟨w.heap.size, 0, none⟩) xs.length xs.length) xs.length ys ∧ Hid (Laid shNeed (Ow (w.heap.size + 1) wr.heap.size) wr ys xs k) ∧ Below w.heap.size w wr ∧ w.heap.size + 1 ≤ wr.heap.size) (fun vi _ => xs.length - (intOf vi).toNat)
  case atStart => exact ⟨0, ys1, Nat.zero_le _, rfl, hown1, (fun i h h0 => by omega), hb1, hs1⟩
  case round =>
    obtain ⟨k, ys, hk, rfl, hownr, hy, hbr, hsr⟩ := hrel
    by_cases hlt' : k < xs.length
    · rcases ha with rfl | ⟨b, off, rfl, hlt, ha⟩
      · simp at hlt'
      obtain ⟨cs, hL, hcell⟩ := ha k hlt'
      have hL2 := shNeed.keep (.of hbr hB) hL
      have hcell2 := hcell.keep (.of hbr hB) hlt
      have hBr : ∀ b, S b → b < wr.heap.size := fun b h => Nat.lt_of_lt_of_le (hB b h) hbr.size
      have hwt : wtNeed xs[k] ≤ 1048576 := by have := wt_wtRow wtNeed (List.getElem_mem hlt'); omega
      have hown2 : ∀ w2, Below wr.heap.size wr w2 → w2.ownsRow w.heap.size 211 2 (.slice (some ⟨w.heap.size, 0, none⟩) xs.length xs.length) xs.length ys := fun w2 h2 => hownr.kept (grown_of_below h2 none) (by simp [Value.ownBlock])
      have hlen := hownr.1
      have HC : Hid (∀ w2, Below wr.heap.size wr w2 → ∀ j, j < 2 → ∃ x, w2.cell? ⟨w.heap.size, k * 2 + j, none⟩ = some x) := fun w2 h2 j hj => ⟨ys.getD (k * 2 + j) undef, by rw [(hown2 w2 h2).cellAt _ (by omega)]; simp [List.getD_eq_getElem?_getD, show k * 2 + j < ys.length by omega]⟩
      have HF : Hid (∀ w2, Below wr.heap.size wr w2 → ∀ j, w2.frozen? ⟨w.heap.size, j, none⟩ = false) := fun w2 h2 j => (hown2 w2 h2).frozenAt j
      have HO : Hid (∀ w2, Below wr.heap.size wr w2 → w2.ownsRow w.heap.size 211 2 (.slice (some ⟨w.heap.size, 0, none⟩) xs.length xs.length) xs.length ys) := hown2
      have HST : Hid (∀ w2 cs, Below wr.heap.size wr w2 → cs.length = 2 → shNeed.lies (Ow (w.heap.size + 1) w2.heap.size) w2 cs xs[k] → Laid shNeed (Ow (w.heap.size + 1) (setW w2 w.heap.size (k * 2) cs).heap.size) (setW w2 w.heap.size (k * 2) cs) (putL ys (k * 2) cs) xs (k + 1)) := fun w2 cs h2 hc hr => hy.out.step (sh := shNeed) hlt' hlen h2 (by omega) hc hr
      obtain ⟨d, hd⟩ : ∃ d, d = xs[k] := ⟨_, rfl⟩
      rw [← hd] at hL2 hwt HST
      have HC1 := toNeed_c S d cs wr hL2 hBr hwt
      clear ha hL hcell hd hown2 hi hz0 hz1 hz2 hown1 hb1 hlen hwt
      obtain ⟨rfl, s_n, s_r⟩ := hL2
      clear s_n s_r
      have e0 : wr.cell? ⟨b, off + k * 2, none⟩ = some (.string d.n) := hcell2 0 (by simp)
      have e1 : wr.cell? ⟨b, off + k * 2 + 1, none⟩ = some (.string d.r) := hcell2 1 (by simp)
      have HC2 := hidden HC1
      have hki : (k : Int) < (xs.length : Int) := by omega
      clear hcell2 HC1
      go_wp2_with (go_at_call 213; refine HC2.out.mono ?_; rintro e w2 ⟨cs, rfl, hX, hb2⟩; have HX := hidden (HST.out w2 cs hb2 (by have h := hX; obtain ⟨h9, s_n, s_r⟩ := h; rw [h9]; rfl) (shNeed.mono (Ow.mono hsr (Nat.le_refl _)) hX)); obtain ⟨rfl, s_n, s_r⟩ := hX; obtain ⟨y0, d0⟩ := HC.out w2 hb2 0 (by omega); obtain ⟨y1, d1⟩ := HC.out w2 hb2 1 (by omega); rw [Nat.add_zero] at d0; have f9 := HF.out w2 hb2)
      go_roundw
      case rel =>
        refine ⟨k + 1, _, by omega, by go_num, setW_owns [.string d.n, .string d.r] w2 ys (k * 2) (HO.out w2 hb2), HX.out, setW_below (Nat.le_refl _) [.string d.n, .string d.r] w2 w (k * 2) (hbr.trans (hb2.mono hbr.size)), ?_⟩
        have h9 := setW_size [.string d.n, .string d.r] w2 w.heap.size (k * 2)
        have := hb2.size
        exact Nat.le_trans (show w.heap.size + 1 ≤ w2.heap.size by omega) (Nat.le_of_eq h9.symm)
      case measure => simp [intOf]; omega
    · have he : k = xs.length := by omega
      subst he
      clear ha
      go_wp2_with fail
      go_ret
      exact ⟨_, rfl, rowOwn_of hownr hlm hy.out, hbr⟩

set_option maxHeartbeats 2000000 in
set_option maxRecDepth 100000 in
theorem toCmd_c (S : Nat → Prop) (d : CmdD) (cs : List Value) (w : World) (hd : shCmd.lies S w cs d) (hB : ∀ b, S b → b < w.heap.size) (hw : wtCmd d ≤ 1048576) :
    Calls Tryz.prog 214 #[.agg cs.toArray] w fun e w' => ∃ cs', e = .returned (.agg cs'.toArray) ∧ shCmdO.lies (Ow w.heap.size w'.heap.size) w' cs' d ∧ Below w.heap.size w w' := by
  obtain ⟨u0, rfl, s_t, r0, p0⟩ := hd
  have hb3 : ∀ A R O, Below w.heap.size w (((w.alloc A).alloc R).alloc O) := fun A R O => (((Below.refl _ _).alloc (Nat.le_refl _) _).alloc (by simp) _).alloc (by simp; omega) _
  unfold wtCmd at hw
  have HS0 : Hid (∀ w1, Below w.heap.size w w1 → Calls Tryz.prog 34 #[u0] w1 fun e w' => ∃ g, e = .returned (.slice (some ⟨g, 0, none⟩) d.acts.length d.acts.length) ∧ StrsOwn (Ow w1.heap.size w'.heap.size) w' (.slice (some ⟨g, 0, none⟩) d.acts.length d.acts.length) d.acts ∧ Below w1.heap.size w1 w') := fun w1 hb =>
    (toStrs_c u0 d.acts w1 ((r0.keep (.of hb hB)).reads (fun b h => Nat.lt_of_lt_of_le (hB b h) hb.size)) (by unfold bulkS at hw; omega)).mono fun e w' ⟨g, h1, h2, h3⟩ => ⟨g, h1, ⟨owns_lo (Nat.zero_le _) h2, owns_in h2⟩, h3⟩
  obtain ⟨a0, cap0, eu0, _⟩ := id r0
  rw [length_strsV] at eu0
  subst eu0
  clear r0
  go_enter Tryz.func214, Tryz.ntmps214
  go_wp2_with fail
  go_at_call 34
  refine (HS0.out _ (hb3 _ _ _)).mono ?_
  rintro e w1 ⟨g1, rfl, R0, b1⟩
  obtain ⟨hA1, hR1, hO1⟩ := vthree b1
  have s3 : ∀ A R O, (((w.alloc A).alloc R).alloc O).heap.size = w.heap.size + 1 + 1 + 1 := fun A R O => by simp
  rw [s3] at b1 R0
  have m1 : w.heap.size + 3 ≤ w1.heap.size := by have := b1.size; rw [s3] at this; omega
  have kw1 : Below w.heap.size w w1 := (hb3 _ _ _).trans (b1.mono (by omega))
  replace R0 := R0.mono (S' := Ow (w.heap.size + 3) w1.heap.size) (Ow.mono (by omega) (Nat.le_refl _))
  have m1' : w.heap.size + 3 ≤ w1.heap.size := by omega
  have o0 := vblk_cell hO1 0
  have q0 := vblk_cell hR1 0
  have y0 := vblk_cell hA1 0
  have o1 := vblk_cell hO1 1
  have q1 := vblk_cell hR1 1
  have y1 := vblk_cell hA1 1
  have fo := vblk_frozen hO1
  have fr := vblk_frozen hR1
  simp only [List.getElem?_toArray, List.getElem?_cons_succ, List.getElem?_cons_zero, List.setIfInBounds_toArray, List.set_cons_succ, List.set_cons_zero] at o0 q0 y0 o1 q1 y1
  go_wp2_with fail
  refine bodyPost_ret (v := .agg #[.string d.t, .slice (some ⟨g1, 0, none⟩) d.acts.length d.acts.length]) (by simp [results, Tryz.results214, go_sem, o0, q0, o1, q1]) rfl ⟨[.string d.t, .slice (some ⟨g1, 0, none⟩) d.acts.length d.acts.length], rfl, ?_, ?_⟩
  · have hS : ∀ {W : World}, w1.heap.size ≤ W.heap.size → ∀ b, Ow (w.heap.size + 3) w1.heap.size b → Ow w.heap.size W.heap.size b := fun h => Ow.mono (by omega) h
    refine ⟨_, rfl, s_t, (R0.keep ?_).mono (hS ?_), p0⟩
    all_goals first
      | (simp [World.setCell]; done)
      | ((repeat (refine Kp.trans ?_ (Kp.set (Ow.not (by omega))))); exact fun b hb => rfl)
  · refine ?_
    (repeat (refine Below.setCell ?_ (by simp <;> omega) _))
    exact kw1

set_option maxHeartbeats 2000000 in
set_option maxRecDepth 100000 in
theorem infoCmd : (Tryz.prog.info? 170).map (fun i => (i.zero, i.size, i.bytes)) = some (some (.agg #[.string ⟨#[]⟩, .slice none 0 0]), 2, 40) := by kernel_rfl
set_option maxHeartbeats 2000000 in
set_option maxRecDepth 100000 in
theorem toCmdS_c (S : Nat → Prop) (v : Value) (xs : List CmdD) (w : World) (hv : RowIn shCmd S w v xs) (hB : ∀ b, S b → b < w.heap.size) (hw : wtRow wtCmd xs ≤ 1048576) :
    Calls Tryz.prog 167 #[v] w fun e w' => ∃ g, e = .returned (.slice (some ⟨g, 0, none⟩) xs.length xs.length) ∧ RowOwn shCmdO 170 (Ow w.heap.size w'.heap.size) w' (.slice (some ⟨g, 0, none⟩) xs.length xs.length) xs ∧ Below w.heap.size w w' := by
  obtain ⟨a, cap, rfl, hl, hc, ha⟩ := hv
  have hn := len_wtRow wtCmd xs
  have hlm : xs.length ≤ maxLen := hl
  unfold maxLen at hl
  obtain ⟨i0, hi, hz0, hz1, hz2⟩ := info_parts infoCmd
  go_enter Tryz.func167, Tryz.ntmps167
  go_wp2_with (first
    | (at_make; refine wpList_make_full _ rfl _ _ 138 rfl w.heap.size 170 i0 _ 2 Tryz.underlying138 hi hz0 hz1 _ _ _ _ xs.length rfl rfl rfl rfl (by rw [hz2]; omega) (by unfold maxLen; omega) (Nat.le_refl _) ?_))
  intro w1 hown hgrow
  have hb1 := below_of_grown hgrow
  have hs1 : w.heap.size + 1 ≤ w1.heap.size := by
    rcases hown.2 with ⟨h, _⟩ | ⟨g, cap, cur, h, _, hg, _⟩
    · simp at h
    · simp at h
      have := (Array.getElem?_eq_some_iff.1 hg).1
      omega
  obtain ⟨ys1, hown1⟩ : ∃ ys, w1.ownsRow w.heap.size 170 2 (.slice (some ⟨w.heap.size, 0, none⟩) xs.length xs.length) xs.length ys := ⟨_, hown⟩
  clear hgrow hown
  go_wp2_with fail
  go_loopw [4] (fun vi wr => ∃ (k : Nat) (ys : List Value), k ≤ xs.length ∧ vi = .int .i64 (k : Int) ∧ wr.ownsRow w.heap.size 170 2 (.slice (some ⟨w.heap.size, 0, none⟩) xs.length xs.length) xs.length ys ∧ Hid (Laid shCmdO (Ow (w.heap.size + 1) wr.heap.size) wr ys xs k) ∧ Below w.heap.size w wr ∧ w.heap.size + 1 ≤ wr.heap.size) (fun vi _ => xs.length - (intOf vi).toNat)
  case atStart => exact ⟨0, ys1, Nat.zero_le _, rfl, hown1, (fun i h h0 => by omega), hb1, hs1⟩
  case round =>
    obtain ⟨k, ys, hk, rfl, hownr, hy, hbr, hsr⟩ := hrel
    by_cases hlt' : k < xs.length
    · rcases ha with rfl | ⟨b, off, rfl, hlt, ha⟩
      · simp at hlt'
      obtain ⟨cs, hL, hcell⟩ := ha k hlt'
      have hL2 := shCmd.keep (.of hbr hB) hL
      have hcell2 := hcell.keep (.of hbr hB) hlt
      have hBr : ∀ b, S b → b < wr.heap.size := fun b h => Nat.lt_of_lt_of_le (hB b h) hbr.size
      have hwt : wtCmd xs[k] ≤ 1048576 := by have := wt_wtRow wtCmd (List.getElem_mem hlt'); omega
      have hown2 : ∀ w2, Below wr.heap.size wr w2 → w2.ownsRow w.heap.size 170 2 (.slice (some ⟨w.heap.size, 0, none⟩) xs.length xs.length) xs.length ys := fun w2 h2 => hownr.kept (grown_of_below h2 none) (by simp [Value.ownBlock])
      have hlen := hownr.1
      have HC : Hid (∀ w2, Below wr.heap.size wr w2 → ∀ j, j < 2 → ∃ x, w2.cell? ⟨w.heap.size, k * 2 + j, none⟩ = some x) := fun w2 h2 j hj => ⟨ys.getD (k * 2 + j) undef, by rw [(hown2 w2 h2).cellAt _ (by omega)]; simp [List.getD_eq_getElem?_getD, show k * 2 + j < ys.length by omega]⟩
      have HF : Hid (∀ w2, Below wr.heap.size wr w2 → ∀ j, w2.frozen? ⟨w.heap.size, j, none⟩ = false) := fun w2 h2 j => (hown2 w2 h2).frozenAt j
      have HO : Hid (∀ w2, Below wr.heap.size wr w2 → w2.ownsRow w.heap.size 170 2 (.slice (some ⟨w.heap.size, 0, none⟩) xs.length xs.length) xs.length ys) := hown2
      have HST : Hid (∀ w2 cs, Below wr.heap.size wr w2 → cs.length = 2 → shCmdO.lies (Ow (w.heap.size + 1) w2.heap.size) w2 cs xs[k] → Laid shCmdO (Ow (w.heap.size + 1) (setW w2 w.heap.size (k * 2) cs).heap.size) (setW w2 w.heap.size (k * 2) cs) (putL ys (k * 2) cs) xs (k + 1)) := fun w2 cs h2 hc hr => hy.out.step (sh := shCmdO) hlt' hlen h2 (by omega) hc hr
      obtain ⟨d, hd⟩ : ∃ d, d = xs[k] := ⟨_, rfl⟩
      rw [← hd] at hL2 hwt HST
      have HC1 := toCmd_c S d cs wr hL2 hBr hwt
      clear ha hL hcell hd hown2 hi hz0 hz1 hz2 hown1 hb1 hlen hwt
      obtain ⟨u0, rfl, s_t, r0, p0⟩ := hL2
      clear s_t p0
      obtain ⟨a0, cap0, eu0, _⟩ := id r0
      rw [length_strsV] at eu0
      subst eu0
      clear r0
      have e0 : wr.cell? ⟨b, off + k * 2, none⟩ = some (.string d.t) := hcell2 0 (by simp)
      have e1 : wr.cell? ⟨b, off + k * 2 + 1, none⟩ = some (.slice a0 d.acts.length cap0) := hcell2 1 (by simp)
      have HC2 := hidden HC1
      have hki : (k : Int) < (xs.length : Int) := by omega
      clear hcell2 HC1
      go_wp2_with (go_at_call 214; refine HC2.out.mono ?_; rintro e w2 ⟨cs, rfl, hX, hb2⟩; have HX := hidden (HST.out w2 cs hb2 (by have h := hX; obtain ⟨u0, h9, s_t, r0, p0⟩ := h; rw [h9]; rfl) (shCmdO.mono (Ow.mono hsr (Nat.le_refl _)) hX)); obtain ⟨u0, rfl, s_t, z0, p0⟩ := hX; obtain ⟨b0, bap0, ev0⟩ := z0.slice; subst ev0; obtain ⟨y0, d0⟩ := HC.out w2 hb2 0 (by omega); obtain ⟨y1, d1⟩ := HC.out w2 hb2 1 (by omega); rw [Nat.add_zero] at d0; have f9 := HF.out w2 hb2)
      go_roundw
      case rel =>
        refine ⟨k + 1, _, by omega, by go_num, setW_owns [.string d.t, .slice b0 d.acts.length bap0] w2 ys (k * 2) (HO.out w2 hb2), HX.out, setW_below (Nat.le_refl _) [.string d.t, .slice b0 d.acts.length bap0] w2 w (k * 2) (hbr.trans (hb2.mono hbr.size)), ?_⟩
        have h9 := setW_size [.string d.t, .slice b0 d.acts.length bap0] w2 w.heap.size (k * 2)
        have := hb2.size
        exact Nat.le_trans (show w.heap.size + 1 ≤ w2.heap.size by omega) (Nat.le_of_eq h9.symm)
      case measure => simp [intOf]; omega
    · have he : k = xs.length := by omega
      subst he
      clear ha
      go_wp2_with fail
      go_ret
      exact ⟨_, rfl, rowOwn_of hownr hlm hy.out, hbr⟩

end Go.Proofs.YtkkhnldhipfneaaGreatDoor

/-! Copies in memory of their own, as the law makes them: contracts for the walks; condition: what is copied holds at most 2 to the 20. -/
namespace Go.Proofs.YtkkhnldhipfneaaGreatDoor
open Go.RowKit
set_option linter.unusedSimpArgs false
set_option linter.unusedVariables false

end Go.Proofs.YtkkhnldhipfneaaGreatDoor

/-! Copies of versions, needs and entries, as the program makes them: contracts for the walks; conditions: they lie in memory, and hold at most 2 to the 20. -/
namespace Go.Proofs.YtkkhnldhipfneaaGreatDoor
open Go.RowKit
set_option linter.unusedSimpArgs false
set_option linter.unusedVariables false

/-- A block of another type than a row's is not the row's. -/
theorem row_box {w : World} {lo sz n g : Nat} {e t : TypeId} {v : Value} {xs : List Value} {cs : Array Value} {fz : Nat × Nat} (h : w.ownsRow lo e sz v n xs) (hb : w.heap[g]? = some (.cells cs t fz)) (hne : e ≠ t) : v.ownBlock ≠ some g := fun he => by
  rcases h.2 with ⟨rfl, _⟩ | ⟨g', cap, cur, rfl, _, hg, _⟩
  · simp [Value.ownBlock] at he
  · simp [Value.ownBlock] at he
    subst he
    rw [hg] at hb
    simp at hb
    exact hne hb.2.1
theorem box_grown {w w' : World} {row : Option Nat} {g : Nat} {o : Obj} (hb : w.heap[g]? = some o) (hg : w.grownBy w' row) (hne : row ≠ some g) : w'.heap[g]? = some o :=
  (hg.block g (Array.getElem?_eq_some_iff.1 hb).1 (fun e => hne e.symm)).trans hb
theorem box_below {w w' : World} {g : Nat} {o : Obj} (hb : w.heap[g]? = some o) (h : Below w.heap.size w w') : w'.heap[g]? = some o :=
  (h.block g (Array.getElem?_eq_some_iff.1 hb).1).trans hb
theorem row_put {w : World} {lo sz n g j : Nat} {e t : TypeId} {v x : Value} {xs : List Value} {cs : Array Value} {fz : Nat × Nat} (h : w.ownsRow lo e sz v n xs) (hb : w.heap[g]? = some (.cells cs t fz)) (hne : e ≠ t) : (w.setCell ⟨g, j, none⟩ x).ownsRow lo e sz v n xs :=
  owns_kept (S := fun b => b ≠ g) (Kp.set (by simp)) (fun b hb' => by rintro rfl; exact row_box h hb hne hb') h
theorem List.single_le_sum_natC {ss : List ByteArray} {t : ByteArray} (h : t ∈ ss) : t.size ≤ (ss.map ByteArray.size).sum := by
  induction ss with
  | nil => simp at h
  | cons a l ih =>
    simp only [List.map_cons, List.sum_cons]
    rcases List.mem_cons.1 h with rfl | h
    · omega
    · have := ih h; omega
theorem two_boxes {w : World} (A R : Obj) : ((w.alloc A).alloc R).heap[w.heap.size]? = some A ∧ ((w.alloc A).alloc R).heap[w.heap.size + 1]? = some R := by
  have s1 : (w.alloc A).heap.size = w.heap.size + 1 := by simp
  refine ⟨?_, ?_⟩
  · rw [vheap_old _ _ (by simp), vheap_new]
  · rw [← s1, vheap_new]

end Go.Proofs.YtkkhnldhipfneaaGreatDoor

/-! Copies of needs and entries, as the program makes them: contracts for the walks; conditions: they lie in memory, and hold at most 2 to the 20. -/
namespace Go.Proofs.YtkkhnldhipfneaaGreatDoor
open Go.RowKit
set_option linter.unusedSimpArgs false
set_option linter.unusedVariables false

/-- The cells of needs. -/
def needsV (xs : List NeedD) : List Value := xs.flatMap fun d => [.string d.n, .string d.r]
theorem needsV_length (xs : List NeedD) : (needsV xs).length = xs.length * 2 := by
  induction xs with
  | nil => rfl
  | cons d l ih => simp only [needsV, List.flatMap_cons, List.length_append, List.length_cons, List.length_nil] at *; omega
theorem needsV_append (xs ys : List NeedD) : needsV xs ++ needsV ys = needsV (xs ++ ys) := by simp [needsV]
theorem needsV_take (xs : List NeedD) (k : Nat) (h : k < xs.length) : needsV (xs.take k) ++ [.string xs[k].n, .string xs[k].r] = needsV (xs.take (k + 1)) := by
  rw [List.take_succ_eq_append_getElem h, ← needsV_append]; rfl
theorem needsV_at (xs : List NeedD) : ∀ i (h : i < xs.length), (needsV xs)[i * 2]? = some (.string xs[i].n) ∧ (needsV xs)[i * 2 + 1]? = some (.string xs[i].r) := by
  induction xs with
  | nil => intro i h; simp at h
  | cons d l ih =>
    intro i h
    have e : needsV (d :: l) = [.string d.n, .string d.r] ++ needsV l := by simp [needsV]
    cases i with
    | zero => rw [e]; simp
    | succ i =>
      have h' := ih i (by simpa using h)
      rw [e, List.getElem?_append_right (by simp; omega), List.getElem?_append_right (by simp; omega)]
      simp only [List.length_cons, List.length_nil]
      rw [show (i + 1) * 2 - (0 + 1 + 1) = i * 2 by omega, show (i + 1) * 2 + 1 - (0 + 1 + 1) = i * 2 + 1 by omega]
      simpa using h'
theorem needs_own {w : World} {lo : Nat} {v : Value} {xs : List NeedD} (h : w.ownsRow lo 211 2 v xs.length (needsV xs)) (hl : xs.length ≤ maxLen) (hs : ∀ d ∈ xs, d.n.size ≤ maxLen ∧ d.r.size ≤ maxLen) : RowOwn shNeed 211 (Ow lo w.heap.size) w v xs := by
  refine ⟨hl, needsV xs, owns_lo (Nat.zero_le _) h, owns_in h, fun i hi _ => ⟨[.string xs[i].n, .string xs[i].r], rfl, ⟨rfl, hs _ (List.getElem_mem hi)⟩, fun j hj => ?_⟩⟩
  obtain ⟨h1, h2⟩ := needsV_at xs i hi
  match j, hj with
  | 0, _ => exact h1
  | 1, _ => exact h2

theorem owns_of_belowN {w w' : World} {lo sz n : Nat} {e : TypeId} {v : Value} {xs : List Value} (h : w.ownsRow lo e sz v n xs) (hb : Below w.heap.size w w') : w'.ownsRow lo e sz v n xs := h.kept (grown_of_below hb none) (by cases hq : v.ownBlock <;> simp)
theorem cells_put {w : World} {N M : Nat} {o : Obj} (h : w.heap[N]? = some o) (hne : N ≠ M) (j : Nat) (v : Value) : (w.setCell ⟨M, j, none⟩ v).heap[N]? = some o := (Below.heap_setCell w ⟨M, j, none⟩ v N (by simpa using hne)).trans h
theorem two_src (w : World) (c0 c1 : Value) : ∀ j u, ([c0, c1] : List Value)[j]? = some u → (w.alloc (.cells #[c0, c1] 211)).cell? ((⟨w.heap.size, 0, none⟩ : Addr).add j) = some u := fun j u hu => by
  have e : ((⟨w.heap.size, 0, none⟩ : Addr).add j) = ⟨w.heap.size, j, none⟩ := by unfold Addr.add; split <;> simp_all
  rw [e, vblk_cell (vheap_new _ _) j]
  simpa using hu

end Go.Proofs.YtkkhnldhipfneaaGreatDoor

/-! A value read as a kind: contracts; condition: the program's error lies there. -/
namespace Go.Proofs.YtkkhnldhipfneaaGreatDoor
open Go.RowKit
set_option linter.unusedSimpArgs false
set_option linter.unusedVariables false

/-- The program's error lies there. -/
def ErrAt (w : World) (eu : TypeId) (ev : Value) : Prop := w.cell? ⟨0, 0, none⟩ = some (.iface eu ev)
theorem ErrAt.keep {w w' : World} {eu : TypeId} {ev : Value} (h : ErrAt w eu ev) (k : Below w.heap.size w w') : ErrAt w' eu ev := (k.cell (World.block_lt_of_cell? (a := ⟨0, 0, none⟩) (u := .iface eu ev) (w := w) h)).trans h
def Unread (eu : TypeId) (ev : Value) (e : Ending) : Prop := e = .panicked [{ v := .iface eu ev, recovered := false }]
theorem ra_textv_ok (y : Value) (w : World) : Calls Tryz.prog 256 #[.iface 285 y] w fun e w' => e = .returned y ∧ w' = w := by
  have F : ∀ w, (Instr.typeAssert (.iface 285 y) 196 285 true).run Tryz.prog w = .ok (.tuple #[y, .bool true]) w := fun w => by kernel_rfl
  go_enter Tryz.func256, Tryz.ntmps256
  go_wp2_with (rw [F])
  go_ret
  exact ⟨rfl, rfl⟩
theorem ra_textv_no (t : TypeId) (y : Value) (w : World) (ht : t = 306 ∨ t = 200 ∨ t = 307 ∨ t = 243 ∨ t = 193) (eu : TypeId) (ev : Value) (he : ErrAt w eu ev) : Calls Tryz.prog 256 #[.iface t y] w fun e w' => Unread eu ev e ∧ w' = w := by
  have F : ∀ w, (Instr.typeAssert (.iface t y) 196 285 true).run Tryz.prog w = .ok (.tuple #[.string ⟨#[]⟩, .bool false]) w := fun w => by rcases ht with rfl | rfl | rfl | rfl | rfl <;> kernel_rfl
  unfold ErrAt at he
  go_enter Tryz.func256, Tryz.ntmps256
  go_wp2_with (rw [F])
  exact ⟨rfl, ⟨rfl, rfl⟩⟩
theorem ra_listv_ok (y : Value) (w : World) : Calls Tryz.prog 209 #[.iface 243 y] w fun e w' => e = .returned y ∧ w' = w := by
  have F : ∀ w, (Instr.typeAssert (.iface 243 y) 196 243 true).run Tryz.prog w = .ok (.tuple #[y, .bool true]) w := fun w => by kernel_rfl
  go_enter Tryz.func209, Tryz.ntmps209
  go_wp2_with (rw [F])
  go_ret
  exact ⟨rfl, rfl⟩
theorem ra_listv_no (t : TypeId) (y : Value) (w : World) (ht : t = 306 ∨ t = 200 ∨ t = 307 ∨ t = 285 ∨ t = 193) (eu : TypeId) (ev : Value) (he : ErrAt w eu ev) : Calls Tryz.prog 209 #[.iface t y] w fun e w' => Unread eu ev e ∧ w' = w := by
  have F : ∀ w, (Instr.typeAssert (.iface t y) 196 243 true).run Tryz.prog w = .ok (.tuple #[.slice none 0 0, .bool false]) w := fun w => by rcases ht with rfl | rfl | rfl | rfl | rfl <;> kernel_rfl
  unfold ErrAt at he
  go_enter Tryz.func209, Tryz.ntmps209
  go_wp2_with (rw [F])
  exact ⟨rfl, ⟨rfl, rfl⟩⟩
theorem ra_mapv_ok (y : Value) (w : World) : Calls Tryz.prog 208 #[.iface 193 y] w fun e w' => e = .returned y ∧ w' = w := by
  have F : ∀ w, (Instr.typeAssert (.iface 193 y) 196 193 true).run Tryz.prog w = .ok (.tuple #[y, .bool true]) w := fun w => by kernel_rfl
  go_enter Tryz.func208, Tryz.ntmps208
  go_wp2_with (rw [F])
  go_ret
  exact ⟨rfl, rfl⟩
theorem ra_mapv_no (t : TypeId) (y : Value) (w : World) (ht : t = 306 ∨ t = 200 ∨ t = 307 ∨ t = 285 ∨ t = 243) (eu : TypeId) (ev : Value) (he : ErrAt w eu ev) : Calls Tryz.prog 208 #[.iface t y] w fun e w' => Unread eu ev e ∧ w' = w := by
  have F : ∀ w, (Instr.typeAssert (.iface t y) 196 193 true).run Tryz.prog w = .ok (.tuple #[.slice none 0 0, .bool false]) w := fun w => by rcases ht with rfl | rfl | rfl | rfl | rfl <;> kernel_rfl
  unfold ErrAt at he
  go_enter Tryz.func208, Tryz.ntmps208
  go_wp2_with (rw [F])
  exact ⟨rfl, ⟨rfl, rfl⟩⟩
theorem ra_boolv_ok (y : Value) (w : World) : Calls Tryz.prog 163 #[.iface 200 y] w fun e w' => e = .returned y ∧ w' = w := by
  have F : ∀ w, (Instr.typeAssert (.iface 200 y) 196 200 true).run Tryz.prog w = .ok (.tuple #[y, .bool true]) w := fun w => by kernel_rfl
  go_enter Tryz.func163, Tryz.ntmps163
  go_wp2_with (rw [F])
  go_ret
  exact ⟨rfl, rfl⟩
theorem ra_boolv_no (t : TypeId) (y : Value) (w : World) (ht : t = 306 ∨ t = 307 ∨ t = 285 ∨ t = 243 ∨ t = 193) (eu : TypeId) (ev : Value) (he : ErrAt w eu ev) : Calls Tryz.prog 163 #[.iface t y] w fun e w' => Unread eu ev e ∧ w' = w := by
  have F : ∀ w, (Instr.typeAssert (.iface t y) 196 200 true).run Tryz.prog w = .ok (.tuple #[.bool false, .bool false]) w := fun w => by rcases ht with rfl | rfl | rfl | rfl | rfl <;> kernel_rfl
  unfold ErrAt at he
  go_enter Tryz.func163, Tryz.ntmps163
  go_wp2_with (rw [F])
  exact ⟨rfl, ⟨rfl, rfl⟩⟩
theorem XLies.not_textv {S : Nat → Prop} {w : World} {x : Value} {T : Tree} (h : XLies S w x T) (hk : T.kd ≠ 3) : ∃ t y, x = .iface t y ∧ (t = 306 ∨ t = 200 ∨ t = 307 ∨ t = 243 ∨ t = 193) := by
  cases h
  · exact ⟨_, _, rfl, by simp⟩
  · exact ⟨_, _, rfl, by simp⟩
  · exact ⟨_, _, rfl, by simp⟩
  · exact (hk rfl).elim
  · exact ⟨_, _, rfl, by simp⟩
  · exact ⟨_, _, rfl, by simp⟩
theorem XLies.not_listv {S : Nat → Prop} {w : World} {x : Value} {T : Tree} (h : XLies S w x T) (hk : T.kd ≠ 4) : ∃ t y, x = .iface t y ∧ (t = 306 ∨ t = 200 ∨ t = 307 ∨ t = 285 ∨ t = 193) := by
  cases h
  · exact ⟨_, _, rfl, by simp⟩
  · exact ⟨_, _, rfl, by simp⟩
  · exact ⟨_, _, rfl, by simp⟩
  · exact ⟨_, _, rfl, by simp⟩
  · exact (hk rfl).elim
  · exact ⟨_, _, rfl, by simp⟩
theorem XLies.not_mapv {S : Nat → Prop} {w : World} {x : Value} {T : Tree} (h : XLies S w x T) (hk : T.kd ≠ 5) : ∃ t y, x = .iface t y ∧ (t = 306 ∨ t = 200 ∨ t = 307 ∨ t = 285 ∨ t = 243) := by
  cases h
  · exact ⟨_, _, rfl, by simp⟩
  · exact ⟨_, _, rfl, by simp⟩
  · exact ⟨_, _, rfl, by simp⟩
  · exact ⟨_, _, rfl, by simp⟩
  · exact ⟨_, _, rfl, by simp⟩
  · exact (hk rfl).elim
theorem XLies.not_boolv {S : Nat → Prop} {w : World} {x : Value} {T : Tree} (h : XLies S w x T) (hk : T.kd ≠ 1) : ∃ t y, x = .iface t y ∧ (t = 306 ∨ t = 307 ∨ t = 285 ∨ t = 243 ∨ t = 193) := by
  cases h
  · exact ⟨_, _, rfl, by simp⟩
  · exact (hk rfl).elim
  · exact ⟨_, _, rfl, by simp⟩
  · exact ⟨_, _, rfl, by simp⟩
  · exact ⟨_, _, rfl, by simp⟩
  · exact ⟨_, _, rfl, by simp⟩
theorem XLies.is_text {S : Nat → Prop} {w : World} {x : Value} {T : Tree} (h : XLies S w x T) (hk : T.kd = 3) : x = .iface 285 (.string T.st) := by
  cases h <;> first | rfl | (exact absurd hk (by simp [Tree.kd]))
theorem XLies.is_bool {S : Nat → Prop} {w : World} {x : Value} {T : Tree} (h : XLies S w x T) (hk : T.kd = 1) : x = .iface 200 (.bool (T.nm == 1)) := by
  cases h <;> first | rfl | (exact absurd hk (by simp [Tree.kd]))
theorem XLies.is_list {S : Nat → Prop} {w : World} {x : Value} {T : Tree} (h : XLies S w x T) (hk : T.kd = 4) : ∃ (a : Option Addr) (cap : Nat) (X : Nat → Value), x = .iface 243 (.slice a T.kids.length cap) ∧ (T.kids = [] ∨ ∃ b off, a = some ⟨b, off, none⟩ ∧ S b ∧ ∀ i, i < T.kids.length → w.cell? ⟨b, off + i, none⟩ = some (X i)) ∧ ∀ i (h : i < T.kids.length), XLies S w (X i) T.kids[i] := by
  cases h with
  | list n s l ks a cap X hc ha hX => exact ⟨a, cap, X, rfl, ha, hX⟩
  | _ => exact absurd hk (by simp [Tree.kd])
theorem XLies.is_map {S : Nat → Prop} {w : World} {x : Value} {T : Tree} (h : XLies S w x T) (hk : T.kd = 5) : ∃ (a : Option Addr) (cap : Nat) (X : Nat → Value), x = .iface 193 (.slice a T.kids.length cap) ∧ (T.kids = [] ∨ ∃ b off, a = some ⟨b, off, none⟩ ∧ S b ∧ ∀ i, i < T.kids.length → w.cell? ⟨b, off + i * 2, none⟩ = some (.string (T.keys.getD i ⟨#[]⟩)) ∧ w.cell? ⟨b, off + i * 2 + 1, none⟩ = some (X i)) ∧ ∀ i (h : i < T.kids.length), XLies S w (X i) T.kids[i] := by
  cases h with
  | map n s l ks a cap X hc ha hX => exact ⟨a, cap, X, rfl, ha, hX⟩
  | _ => exact absurd hk (by simp [Tree.kd])
theorem readText_ok (s : ByteArray) (w : World) : Calls Tryz.prog 210 #[.iface 285 (.string s)] w fun e w' => e = .returned (.string s) ∧ w' = w := by
  go_enter Tryz.func210, Tryz.ntmps210
  go_wp2_with (go_at_call 256; refine (ra_textv_ok _ _).mono ?_; rintro e w2 ⟨rfl, rfl⟩)
  go_ret
  exact ⟨rfl, rfl⟩
theorem readText_no (t : TypeId) (y : Value) (w : World) (ht : t = 306 ∨ t = 200 ∨ t = 307 ∨ t = 243 ∨ t = 193) (eu : TypeId) (ev : Value) (he : ErrAt w eu ev) : Calls Tryz.prog 210 #[.iface t y] w fun e w' => Unread eu ev e ∧ w' = w := by
  go_enter Tryz.func210, Tryz.ntmps210
  go_wp2_with (go_at_call 256; refine (ra_textv_no _ _ _ ht eu ev he).mono ?_; rintro e w2 ⟨rfl, rfl⟩)
  exact ⟨rfl, ⟨rfl, rfl⟩⟩
set_option maxHeartbeats 2000000 in
set_option maxRecDepth 100000 in
theorem readTexts_c (T : Tree) (S : Nat → Prop) (x : Value) (w : World) (hx : XLies S w x T) (hB : ∀ b, S b → b < w.heap.size) (d : Nat) (hg : T.good d = true) (hn : T.nodes ≤ 80) (eu : TypeId) (ev : Value) (he : ErrAt w eu ev) :
    Calls Tryz.prog 162 #[x] w fun e w' => Below w.heap.size w w' ∧ (∀ l, textsOf T = some l → ∃ u', e = .returned u' ∧ w'.ownsRow w.heap.size 9 1 u' l.length (strsV l)) ∧ (textsOf T = none → Unread eu ev e) := by
  obtain ⟨i0, hi, hz0, hz1, hz2⟩ := info_parts infoS
  by_cases h4 : T.kd = 4
  · obtain ⟨a, cap, X, rfl, hc, hX⟩ := hx.is_list h4
    obtain ⟨l, hl⟩ : ∃ l, l = T.kids := ⟨_, rfl⟩
    have hll : l.length ≤ 80 := by have := len_nodesL T.kids; have := nodes_kids T; rw [hl]; omega
    have hts : ∀ (h : ∀ U ∈ l, U.kd = 3), textsOf T = some (l.map Tree.st) := fun h => by
      unfold textsOf
      rw [if_pos h4, ← hl, if_pos (List.all_eq_true.2 fun U hU => by simpa using h U hU)]
    have htn : ∀ U ∈ l, U.kd ≠ 3 → textsOf T = none := fun U hU h3 => by
      unfold textsOf
      rw [if_pos h4, ← hl, if_neg]
      intro h
      exact h3 (by simpa using List.all_eq_true.1 h U hU)
    have hsz : ∀ U ∈ l, U.kd = 3 → U.st.size ≤ 60 := fun U hU h3 => text_small (goodL_at _ _ (good_here hg).2 U (by rw [← hl]; exact hU)) h3
    have hX : ∀ i (h : i < l.length), XLies S w (X i) l[i] := fun i h => by subst hl; exact hX i h
    rw [← hl] at hc
    simp only [← hl] at ⊢
    obtain ⟨R, hR⟩ : ∃ R, R = textsOf T := ⟨_, rfl⟩
    simp only [← hR] at hts htn ⊢
    clear hx hR hg hn h4 hl
    go_enter Tryz.func162, Tryz.ntmps162
    go_wp2_with (go_at_call 209; refine (ra_listv_ok _ _).mono ?_; rintro e w2 ⟨rfl, rfl⟩)
    go_loopw [3, 9] (fun vx vi wr => ∃ (k : Nat) (vo : Value), k ≤ l.length ∧ vi = .int .i64 (k : Int) ∧ vx = vo ∧ (∀ U ∈ l.take k, U.kd = 3) ∧ wr.ownsRow w2.heap.size 9 1 vo k (strsV ((l.map Tree.st).take k)) ∧ Below w2.heap.size w2 wr) (fun _ vi _ => l.length - (intOf vi).toNat)
    case atStart => exact ⟨0, _, Nat.zero_le _, rfl, rfl, (fun U hU => by simp at hU), (by rw [List.take_zero]; exact World.ownsRow_nil _ _ _ _), Below.refl _ _⟩
    case round =>
      obtain ⟨k, vo, hk, rfl, rfl, hall, hown, hbr⟩ := hrel
      by_cases hlt' : k < l.length
      · rcases hc with rfl | ⟨b0, off, rfl, hs, hc⟩
        · simp at hlt'
        have e0 : wr.cell? ⟨b0, off + k, none⟩ = some (X k) := (hbr.cell (hB _ hs)).trans (hc k hlt')
        have hxk := (hX k hlt').keep (.of hbr hB)
        have hmem := List.getElem_mem hlt'
        have hki : (k : Int) < (l.length : Int) := by omega
        by_cases h3 : l[k].kd = 3
        · have hxe := hxk.is_text h3
          have hsk := hsz _ hmem h3
          have HT : Hid (strsV ((l.map Tree.st).take k) ++ strsV [l[k].st] = strsV ((l.map Tree.st).take (k + 1))) := by show _ = _; rw [strs_append, List.take_succ_eq_append_getElem (by simpa using hlt'), List.getElem_map]
          have HA : Hid (∀ U ∈ l.take (k + 1), U.kd = 3) := by
            intro U hU
            rw [List.take_succ_eq_append_getElem hlt', List.mem_append, List.mem_singleton] at hU
            rcases hU with h | rfl
            · exact hall U h
            · exact h3
          obtain ⟨t, ht⟩ : ∃ t, t = l[k].st := ⟨_, rfl⟩
          rw [← ht] at hxe hsk HT
          rw [hxe] at e0
          clear hc hxe hxk hX hts htn hsz ht hmem h3 hall
          go_wp2_with (first
            | (go_at_call 210; refine (readText_ok t _).mono ?_; rintro e w3 ⟨rfl, rfl⟩)
            | (at_builtin; refine wpList_append_own _ rfl _ _ 26 rfl w2.heap.size 9 i0 (.string ⟨#[]⟩) 1 16 Tryz.underlying26 hi hz0 hz1 hz2 rfl (by decide) _ k (strsV ((l.map Tree.st).take k)) rfl (hown.alloc _) ⟨w3.heap.size, 0, none⟩ 1 1 (strsV [t]) rfl rfl (cell_one_new _ _ _) (fun u hu => by simp [strsV] at hu; subst hu; rfl) (by unfold maxLen; omega) (by omega) (by have h1 := hbr.size; simp; omega) ?_))
          intro v3 w4 o3 gr3 _
          rw [HT.out] at o3
          have hb3 : Below w2.heap.size w2 w4 := Below.grown (hbr.alloc hbr.size _) gr3 (by have := hbr.size; simp; omega) (fun j hj => (hown.lt _ hj).1)
          clear gr3
          go_wp2_with fail
          go_roundw
          case rel => exact ⟨k + 1, _, by omega, by go_num, rfl, HA.out, o3, hb3⟩
          case measure => simp [intOf]; omega
        · obtain ⟨t, y, hxe, hty⟩ := hxk.not_textv h3
          have hnone := htn _ hmem h3
          rw [hxe] at e0
          have her := he.keep hbr
          clear hc hxe hxk hX hts htn hsz hmem h3 hall
          go_wp2_with (go_at_call 210; refine (readText_no t y _ hty eu ev her).mono ?_; rintro e w3 ⟨rfl, rfl⟩)
          exact ⟨rfl, hbr, (fun l h => by rw [hnone] at h; cases h), fun _ => rfl⟩
      · have he : k = l.length := by omega
        subst he
        rw [List.take_length] at hall
        rw [show l.length = (l.map Tree.st).length by simp, List.take_length] at hown
        have hsome := hts hall
        clear hc hX hsz
        go_wp2_with fail
        go_ret
        refine ⟨hbr, fun m hm => ?_, fun h => by rw [hsome] at h; cases h⟩
        rw [hsome] at hm
        obtain rfl := Option.some.inj hm
        exact ⟨_, rfl, hown⟩
  · obtain ⟨t, y, rfl, hty⟩ := hx.not_listv h4
    have hnone : textsOf T = none := by unfold textsOf; rw [if_neg h4]
    clear hx
    go_enter Tryz.func162, Tryz.ntmps162
    go_wp2_with (go_at_call 209; refine (ra_listv_no t y _ hty eu ev he).mono ?_; rintro e w3 ⟨rfl, rfl⟩)
    exact ⟨rfl, Below.refl _ _, (fun l h => by rw [hnone] at h; cases h), fun _ => rfl⟩
end Go.Proofs.YtkkhnldhipfneaaGreatDoor

/-! What the program's own error holds, as the row lists it: an error of errors.New; no condition. -/
namespace Go.Proofs.YtkkhnldhipfneaaGreatDoor
open Go.ChangeShapes Go.WideShapes Go.RowKit
set_option maxRecDepth 100000
namespace fnExactRuleOf
theorem one_laid {W : World} (h : laidMetH Tryz.prog Rows.fnExactRuleOfRow.laid W) : laidMet Tryz.prog [("loop.example/g00464/impl.errUnread", Rows.laid_loop_example_g00464_impl_errUnread)] W := by
  have h1 := laidMetH_iff.1 h
  have e1 : (Rows.fnExactRuleOfRow.laid.filter fun x => x.2.handleName?.isNone) = [("loop.example/g00464/impl.errUnread", Rows.laid_loop_example_g00464_impl_errUnread)] := by first | rfl | kernel_rfl
  rw [e1] at h1
  exact h1.1
theorem euGlob : Tryz.prog.globalNamed "loop.example/g00464/impl.errUnread" = some 0 := by kernel_rfl
theorem euStar : ("*errors.errorString" : String) = "*" ++ "errors.errorString" := by decide +kernel
theorem euRow (u : TypeId) (h : Tryz.prog.typeName? 3 u = some "*errors.errorString") : u = 380 :=
  typeName_ptr_named (nm := "errors.errorString") (by rw [← euStar]; kernel_rfl) (by kernel_rfl) (by decide +kernel) u (by rw [← euStar]; exact h)
theorem err_laid {W : World} (h : laidMetH Tryz.prog Rows.fnExactRuleOfRow.laid W) : ∃ ev, ErrAt W 380 ev := by
  obtain ⟨a0, s0, hv, _⟩ := laid_sentinel (one_laid h) euGlob (by kernel_rfl) Tryz.underlying203 euRow Tryz.underlying380 Tryz.underlying394 rfl rfl Tryz.underlying9 (by kernel_rfl) (by kernel_rfl)
  exact ⟨.pointer (some a0), by simpa [ErrAt] using World.var?_cell euGlob hv 0⟩
end fnExactRuleOf
end Go.Proofs.YtkkhnldhipfneaaGreatDoor

/-! A value read as a map, and as a boolean: contracts; conditions: the value lies in memory and holds at most 2 to the 20, the program's error lies there. -/
namespace Go.Proofs.YtkkhnldhipfneaaGreatDoor
open Go.RowKit
set_option linter.unusedSimpArgs false
set_option linter.unusedVariables false

set_option maxHeartbeats 1000000 in
theorem readFields_c (T : Tree) (S : Nat → Prop) (v : Value) (w : World) (hv : Lies S w v T) (hB : ∀ b, S b → b < w.heap.size) (hw : T.wt ≤ 1048576) (eu : TypeId) (ev : Value) (he : ErrAt w eu ev) :
    Calls Tryz.prog 161 #[v] w fun e w' => Below w.heap.size w w' ∧ (T.ok = true → T.kd = 5 → ∃ (a : Option Addr) (cap : Nat) (X : Nat → Value), e = .returned (.slice a T.kids.length cap) ∧ (T.kids = [] ∨ ∃ b off, a = some ⟨b, off, none⟩ ∧ Own w.heap.size w'.heap.size b ∧ ∀ i, i < T.kids.length → w'.cell? ⟨b, off + i * 2, none⟩ = some (.string (T.keys.getD i ⟨#[]⟩)) ∧ w'.cell? ⟨b, off + i * 2 + 1, none⟩ = some (X i)) ∧ ∀ i (h : i < T.kids.length), XLies (Own w.heap.size w'.heap.size) w' (X i) T.kids[i]) ∧ (¬ (T.ok = true ∧ T.kd = 5) → Unread eu ev e) := by
  have hbx : ∀ o, Below w.heap.size w (w.alloc o) := fun o => (Below.refl _ _).alloc (Nat.le_refl _) _
  have HC : Hid (∀ o, Calls Tryz.prog 207 #[v] (w.alloc o) fun e w' => ∃ x, e = .returned (.tuple #[x, .bool T.ok]) ∧ Below (w.alloc o).heap.size (w.alloc o) w' ∧ (T.ok = true → XLies (Own (w.alloc o).heap.size w'.heap.size) w' x T)) := fun o => valueOf_c T S v (w.alloc o) (hv.keep (.of (hbx _) hB)) (fun b h => Nat.lt_of_lt_of_le (hB b h) (hbx o).size) hw
  obtain ⟨k, n, s, a, m, cap, a', m', cap', rfl⟩ := hv.parts
  clear hv
  obtain ⟨q, hq⟩ : ∃ q, q = T.ok := ⟨_, rfl⟩
  simp only [← hq] at HC ⊢
  clear hq
  cases q with
  | false =>
    go_enter Tryz.func161, Tryz.ntmps161
    go_wp2_with fail
    go_at_call 207
    refine (HC.out _).mono ?_
    rintro e w1 ⟨x, rfl, hb1, hx⟩
    clear hx
    have hbw := (hbx _).trans (hb1.mono (by simp))
    have her := he.keep hbw
    unfold ErrAt at her
    go_wp2_with fail
    exact ⟨rfl, hbw, (fun h => by cases h), fun _ => rfl⟩
  | true =>
    by_cases h5 : T.kd = 5
    · go_enter Tryz.func161, Tryz.ntmps161
      go_wp2_with fail
      go_at_call 207
      refine (HC.out _).mono ?_
      rintro e w1 ⟨x, rfl, hb1, hx⟩
      have hbw := (hbx _).trans (hb1.mono (by simp))
      obtain ⟨a, cap, X, rfl, hc, hX⟩ := (hx (by trivial)).is_map h5
      have HH := hidden (And.intro hc hX)
      clear hx hc hX
      go_wp2_with (go_at_call 208; refine (ra_mapv_ok _ _).mono ?_; rintro e w2 ⟨rfl, rfl⟩)
      go_ret
      have hm : ∀ o b, Own (w.alloc o).heap.size w2.heap.size b → Own w.heap.size w2.heap.size b := fun o b h => Own.mono (by simp) (Nat.le_refl _) b h
      refine ⟨hbw, fun _ _ => ⟨_, _, X, rfl, ?_, ?_⟩, fun h => (h ⟨by trivial, h5⟩).elim⟩
      · rcases HH.out.1 with h | ⟨b, off, h1, h2, h3⟩
        · exact .inl h
        · exact .inr ⟨b, off, h1, hm _ b h2, h3⟩
      · exact fun i h => (HH.out.2 i h).mono (hm _)
    · go_enter Tryz.func161, Tryz.ntmps161
      go_wp2_with fail
      go_at_call 207
      refine (HC.out _).mono ?_
      rintro e w1 ⟨x, rfl, hb1, hx⟩
      have hbw := (hbx _).trans (hb1.mono (by simp))
      obtain ⟨t, y, rfl, hty⟩ := (hx (by trivial)).not_mapv h5
      have her := he.keep hbw
      clear hx
      go_wp2_with (go_at_call 208; refine (ra_mapv_no t y _ hty eu ev her).mono ?_; rintro e w2 ⟨rfl, rfl⟩)
      exact ⟨rfl, hbw, (fun _ h => (h5 h).elim), fun _ => rfl⟩
end Go.Proofs.YtkkhnldhipfneaaGreatDoor

/-! A scope in which the run jumps to several labels: what holds at every jump, label by label, and a measure that every pass from a label lowers; no condition (a law for the walks, after the library's for one label). -/
namespace Go.Proofs.YtkkhnldhipfneaaGreatDoor
set_option linter.unusedSimpArgs false
set_option linter.unusedVariables false

/-- As Q; by a goto to label l: J l. -/
def jumpsTo (J : Nat → Act → World → Prop) (Q : Exit → Act → World → Prop) : Exit → Act → World → Prop
  | .goto l, a, w => J l a w
  | e, a, w => Q e a w

section
variable {P : Program} {a : Act} {w : World} {Q : Exit → Act → World → Prop}

theorem jumpsTo_normal {J : Nat → Act → World → Prop} : jumpsTo J Q .normal a w = Q .normal a w := rfl
theorem jumpsTo_ret {J : Nat → Act → World → Prop} : jumpsTo J Q .ret a w = Q .ret a w := rfl
theorem jumpsTo_goto {J : Nat → Act → World → Prop} {l : Nat} : jumpsTo J Q (.goto l) a w = J l a w := rfl
theorem jumpsTo_exit {J : Nat → Act → World → Prop} {l : Nat} : jumpsTo J Q (.exit l) a w = Q (.exit l) a w := rfl

theorem jumpsTo_mono {J J' : Nat → Act → World → Prop} {Q' : Exit → Act → World → Prop} (hJ : ∀ l a w, J l a w → J' l a w) (hQ : ∀ e a w, Q e a w → Q' e a w) : ∀ e a w, jumpsTo J Q e a w → jumpsTo J' Q' e a w
  | .goto l, a, w, h => hJ l a w h
  | .normal, a, w, h => hQ _ a w h
  | .exit _, a, w, h => hQ _ a w h
  | .ret, a, w, h => hQ _ a w h
  | .panic _, a, w, h => hQ _ a w h
  | .outgrown, a, w, h => hQ _ a w h

theorem wp_scope_labels {c : Code} (R : Nat → Code) (J : Nat → Act → World → Prop) (μ : Nat → Act → World → Nat) (hf : ∀ l a w, J l a w → findLabel c l = some (R l))
    (first : c.wp P (jumpsTo J Q) a w)
    (pass : ∀ l a w, J l a w → (R l).wp P (jumpsTo (fun l' a' w' => J l' a' w' ∧ μ l' a' w' < μ l a w) Q) a w) : (Code.scope c).wp P Q a w := by
  intro b k cs
  have key : ∀ n l a w, μ l a w = n → J l a w → ∃ e a' w', Q e a' w' ∧ Arrives P (lone (b.at a (.code (R l) :: .inScope c :: k)) cs w) b k cs e a' w' := by
    intro n
    induction n using Nat.strongRecOn with
    | _ n ih =>
      intro l a w hn hJ
      obtain ⟨e, a₁, w₁, hq, harr⟩ := pass l a w hJ b (.inScope c :: k) cs
      cases e with
      | normal => exact ⟨.normal, a₁, w₁, hq, Steps.trans harr (.one step_inScope)⟩
      | exit id => exact ⟨.exit id, a₁, w₁, hq, fun k' hk => harr k' (by simp [exitTo, hk])⟩
      | goto l' =>
        obtain ⟨hJ', hlt⟩ := hq
        obtain ⟨e₂, a₂, w₂, hq₂, harr₂⟩ := ih _ (by omega) l' a₁ w₁ rfl hJ'
        exact ⟨e₂, a₂, w₂, hq₂, .of_steps (harr _ (by simp [gotoIn, hf l' a₁ w₁ hJ'])) harr₂⟩
      | ret => exact ⟨_, a₁, w₁, hq, harr⟩
      | panic ch => exact ⟨_, a₁, w₁, hq, harr⟩
      | outgrown => exact ⟨_, a₁, w₁, hq, harr⟩
  obtain ⟨e, a₁, w₁, hq, harr⟩ := first b (.inScope c :: k) cs
  cases e with
  | normal => exact ⟨.normal, a₁, w₁, hq, .head step_scope (Steps.trans harr (.one step_inScope))⟩
  | exit id => exact ⟨.exit id, a₁, w₁, hq, fun k' hk => .head step_scope (harr k' (by simp [exitTo, hk]))⟩
  | goto l' =>
    obtain ⟨e₂, a₂, w₂, hq₂, harr₂⟩ := key _ l' a₁ w₁ rfl hq
    exact ⟨e₂, a₂, w₂, hq₂, .of_steps (.head step_scope (harr _ (by simp [gotoIn, hf l' a₁ w₁ hq]))) harr₂⟩
  | ret => exact ⟨_, a₁, w₁, hq, .of_steps (.one step_scope) harr⟩
  | panic ch => exact ⟨_, a₁, w₁, hq, .of_steps (.one step_scope) harr⟩
  | outgrown => exact ⟨_, a₁, w₁, hq, .of_steps (.one step_scope) harr⟩
/-- From label l, where J l holds, the rest r runs; each jump lowers the number. -/
def Pass (P : Program) (Q : Exit → Act → World → Prop) (J : Nat → Nat → Act → World → Prop) (l : Nat) (r : Code) : Prop :=
  ∀ n a w, J l n a w → ∀ H : Nat → Act → World → Prop, (∀ l' n' a' w', n' < n → J l' n' a' w' → H l' a' w') → r.wp P (jumpsTo H Q) a w

theorem pass_skip {J : Nat → Nat → Act → World → Prop} {l : Nat} {r : Code} (h : Pass P Q J l r) : Pass P Q J l (Code.skip.seq r) := fun n a w hJ H hH =>
  wp_seq (wp_skip (h n a w hJ H hH))

theorem wp_scope_three {c ra rb rc : Code} (A B C : Nat) (J : Nat → Nat → Act → World → Prop) (ha : findLabel c A = some (Code.skip.seq ra)) (hb : findLabel c B = some (Code.skip.seq rb)) (hc : findLabel c C = some (Code.skip.seq rc))
    (hl : ∀ l n a w, J l n a w → l = A ∨ l = B ∨ l = C) (pa : Pass P Q J A ra) (pb : Pass P Q J A ra → Pass P Q J B rb) (pc : Pass P Q J A ra → Pass P Q J B rb → Pass P Q J C rc)
    (first : Pass P Q J A ra → Pass P Q J B rb → Pass P Q J C rc → ∀ H : Nat → Act → World → Prop, (∀ l n a w, J l n a w → H l a w) → c.wp P (jumpsTo H Q) a w) : (Code.scope c).wp P Q a w := by
  have pb' := pb pa
  have pc' := pc pa pb'
  have hf : ∀ l n a w, J l n a w → ∃ r, findLabel c l = some r ∧ Pass P Q J l r := fun l n a w h => by
    rcases hl l n a w h with rfl | rfl | rfl
    · exact ⟨_, ha, pass_skip pa⟩
    · exact ⟨_, hb, pass_skip pb'⟩
    · exact ⟨_, hc, pass_skip pc'⟩
  intro b k cs
  have key : ∀ n l r a w, findLabel c l = some r → Pass P Q J l r → J l n a w → ∃ e a' w', Q e a' w' ∧ Arrives P (lone (b.at a (.code r :: .inScope c :: k)) cs w) b k cs e a' w' := by
    intro n
    induction n using Nat.strongRecOn with
    | _ n ih =>
      intro l r a w hr hp hJ
      obtain ⟨e, a₁, w₁, hq, harr⟩ := hp n a w hJ (fun l' a' w' => ∃ n', n' < n ∧ J l' n' a' w') (fun l' n' a' w' h1 h2 => ⟨n', h1, h2⟩) b (.inScope c :: k) cs
      cases e with
      | normal => exact ⟨.normal, a₁, w₁, hq, Steps.trans harr (.one step_inScope)⟩
      | exit id => exact ⟨.exit id, a₁, w₁, hq, fun k' hk => harr k' (by simp [exitTo, hk])⟩
      | goto l' =>
        obtain ⟨n', hlt, hJ'⟩ := hq
        obtain ⟨r', hr', hp'⟩ := hf l' n' a₁ w₁ hJ'
        obtain ⟨e₂, a₂, w₂, hq₂, harr₂⟩ := ih n' hlt l' r' a₁ w₁ hr' hp' hJ'
        exact ⟨e₂, a₂, w₂, hq₂, .of_steps (harr _ (by simp [gotoIn, hr'])) harr₂⟩
      | ret => exact ⟨_, a₁, w₁, hq, harr⟩
      | panic ch => exact ⟨_, a₁, w₁, hq, harr⟩
      | outgrown => exact ⟨_, a₁, w₁, hq, harr⟩
  obtain ⟨e, a₁, w₁, hq, harr⟩ := first pa pb' pc' (fun l a w => ∃ n, J l n a w) (fun l n a w h => ⟨n, h⟩) b (.inScope c :: k) cs
  cases e with
  | normal => exact ⟨.normal, a₁, w₁, hq, .head step_scope (Steps.trans harr (.one step_inScope))⟩
  | exit id => exact ⟨.exit id, a₁, w₁, hq, fun k' hk => .head step_scope (harr k' (by simp [exitTo, hk]))⟩
  | goto l' =>
    obtain ⟨n', hJ'⟩ := hq
    obtain ⟨r', hr', hp'⟩ := hf l' n' a₁ w₁ hJ'
    obtain ⟨e₂, a₂, w₂, hq₂, harr₂⟩ := key n' l' r' a₁ w₁ hr' hp' hJ'
    exact ⟨e₂, a₂, w₂, hq₂, .of_steps (.head step_scope (harr _ (by simp [gotoIn, hr']))) harr₂⟩
  | ret => exact ⟨_, a₁, w₁, hq, .of_steps (.one step_scope) harr⟩
  | panic ch => exact ⟨_, a₁, w₁, hq, .of_steps (.one step_scope) harr⟩
  | outgrown => exact ⟨_, a₁, w₁, hq, .of_steps (.one step_scope) harr⟩
end
end Go.Proofs.YtkkhnldhipfneaaGreatDoor

/-! Files, and lists of files, that lie in memory; how much they hold, copies of them, and whether two are alike, as the law's helpers work it out: contracts for the walks; conditions as each says. -/
namespace Go.Proofs.YtkkhnldhipfneaaGreatDoor
open Go.RowKit
set_option linter.unusedSimpArgs false
set_option linter.unusedVariables false

structure FileD where
  p : ByteArray
  t : ByteArray

def saneF (f : FileD) : Prop := f.p.size ≤ maxLen ∧ f.t.size ≤ maxLen

/-- The two cells from place j on in block b are the file f. -/
def FileAt (w : World) (b j : Nat) (f : FileD) : Prop := w.cell? ⟨b, j, none⟩ = some (.string f.p) ∧ w.cell? ⟨b, j + 1, none⟩ = some (.string f.t)

/-- The list of files v is fs. -/
def FilesIn (S : Nat → Prop) (w : World) (v : Value) (fs : List FileD) : Prop :=
  ∃ q cap, v = .slice q fs.length cap ∧ fs.length ≤ maxLen ∧ fs.length ≤ cap ∧ (∀ f ∈ fs, saneF f) ∧ (fs = [] ∨ ∃ (b off : Nat), q = some ⟨b, off, none⟩ ∧ S b ∧ ∀ k (h : k < fs.length), FileAt w b (off + k * 2) fs[k])
theorem FilesIn.keep {S : Nat → Prop} {w w' : World} {v : Value} {fs : List FileD} (hk : Kp S w w') (h : FilesIn S w v fs) : FilesIn S w' v fs := by
  obtain ⟨q, cap, hv, hm, hc, hs, h⟩ := h
  refine ⟨q, cap, hv, hm, hc, hs, ?_⟩
  rcases h with h | ⟨b, off, hq, hb, h⟩
  · exact .inl h
  · exact .inr ⟨b, off, hq, hb, fun k hh => ⟨(hk.cell hb _).trans (h k hh).1, (hk.cell hb _).trans (h k hh).2⟩⟩
theorem FilesIn.mono {S S' : Nat → Prop} {w : World} {v : Value} {fs : List FileD} (hS : ∀ b, S b → S' b) (h : FilesIn S w v fs) : FilesIn S' w v fs := by
  obtain ⟨q, cap, hv, hm, hc, hs, h⟩ := h
  refine ⟨q, cap, hv, hm, hc, hs, ?_⟩
  rcases h with h | ⟨b, off, hq, hb, h⟩
  · exact .inl h
  · exact .inr ⟨b, off, hq, hS b hb, h⟩
theorem FilesIn.below {w w' : World} {v : Value} {fs : List FileD} (h : FilesIn (· < w.heap.size) w v fs) (hb : Below w.heap.size w w') : FilesIn (· < w'.heap.size) w' v fs :=
  (h.keep (.of hb (fun b h => h))).mono (fun b h => Nat.lt_of_lt_of_le h hb.size)

/-- How much a file, and a list of them, holds, as the law counts it. -/
def wt1 (f : FileD) : Nat := f.p.size + f.t.size
def wtF (fs : List FileD) : Nat := (fs.map fun f => 1 + wt1 f).sum
theorem wtF_take (fs : List FileD) (k : Nat) (h : k < fs.length) : wtF (fs.take (k + 1)) = wtF (fs.take k) + (1 + wt1 fs[k]) := by
  rw [wtF, wtF, List.take_succ_eq_append_getElem h]; simp only [List.map_append, List.sum_append, List.map_cons, List.map_nil, List.sum_cons, List.sum_nil, Nat.add_zero]
theorem wtF_split (fs : List FileD) (k : Nat) : wtF fs = wtF (fs.take k) + wtF (fs.drop k) := by
  rw [wtF, wtF, wtF, ← List.sum_append, ← List.map_append, List.take_append_drop]
theorem len_wtF (fs : List FileD) : fs.length ≤ wtF fs := by
  induction fs with
  | nil => simp [wtF]
  | cons d ds ih => simp [wtF] at ih ⊢; omega
theorem wt1_wtF {fs : List FileD} {f : FileD} (h : f ∈ fs) : wt1 f ≤ wtF fs := by
  induction fs with
  | nil => simp at h
  | cons x fs ih =>
    simp [wtF] at ih ⊢
    rcases List.mem_cons.1 h with rfl | h
    · omega
    · have := ih h; omega

/-- The cells of a list of files. -/
def cellsF (fs : List FileD) : List Value := fs.flatMap fun f => [.string f.p, .string f.t]
theorem cellsF_length (fs : List FileD) : (cellsF fs).length = fs.length * 2 := by
  induction fs with
  | nil => rfl
  | cons f fs ih => simp only [cellsF, List.flatMap_cons, List.length_append, List.length_cons, List.length_nil] at ih ⊢; omega
theorem cellsF_append (a b : List FileD) : cellsF (a ++ b) = cellsF a ++ cellsF b := by simp [cellsF]
theorem cellsF_at (fs : List FileD) : ∀ (k : Nat) (h : k < fs.length), (cellsF fs)[k * 2]? = some (.string fs[k].p) ∧ (cellsF fs)[k * 2 + 1]? = some (.string fs[k].t) := by
  induction fs with
  | nil => intro k h; simp at h
  | cons f fs ih =>
    intro k h
    cases k with
    | zero => simp [cellsF]
    | succ k =>
      have := ih k (by simpa using h)
      have e : cellsF (f :: fs) = [.string f.p, .string f.t] ++ cellsF fs := by simp [cellsF]
      rw [e, List.getElem?_append_right (by simp; omega), List.getElem?_append_right (by simp; omega)]
      simp only [List.length_cons, List.length_nil, List.getElem_cons_succ]
      rw [show (k + 1) * 2 - (0 + 1 + 1) = k * 2 by omega, show (k + 1) * 2 + 1 - (0 + 1 + 1) = k * 2 + 1 by omega]
      exact this

theorem filesIn_owns {w : World} {lo n : Nat} {e : TypeId} {v : Value} {fs : List FileD} (hg : w.ownsRow lo e 2 v n (cellsF fs)) (hs : ∀ f ∈ fs, saneF f) : FilesIn (Ow lo w.heap.size) w v fs := by
  have hlen := hg.1
  rw [cellsF_length] at hlen
  have hn : n = fs.length := by omega
  subst hn
  rcases hg.2 with ⟨rfl, h0⟩ | ⟨g, cap, cur, rfl, hlo, hg', hcap, hmax, _⟩
  · refine ⟨_, _, by rw [h0], by rw [h0]; exact Nat.zero_le _, by omega, hs, .inl (List.eq_nil_of_length_eq_zero h0)⟩
  · have hgl := (Array.getElem?_eq_some_iff.1 hg').1
    refine ⟨_, _, rfl, by omega, hcap, hs, .inr ⟨g, 0, rfl, ⟨hlo, hgl⟩, fun k hk => ?_⟩⟩
    obtain ⟨h1, h2⟩ := cellsF_at fs k hk
    rw [Nat.zero_add]
    exact ⟨(hg.cellAt _ (by omega)).trans h1, (hg.cellAt _ (by omega)).trans h2⟩

theorem set2_step {ys : List Value} {fs : List FileD} {k : Nat} (hk : k < fs.length) (h : ys.length = fs.length * 2 ∧ ∀ j, j < k * 2 → ys[j]? = (cellsF fs)[j]?) :
    ((ys.set (k * 2) (.string fs[k].p)).set (k * 2 + 1) (.string fs[k].t)).length = fs.length * 2 ∧ ∀ j, j < (k + 1) * 2 → ((ys.set (k * 2) (.string fs[k].p)).set (k * 2 + 1) (.string fs[k].t))[j]? = (cellsF fs)[j]? := by
  refine ⟨by simp [h.1], fun j hj => ?_⟩
  obtain ⟨h1, h2⟩ := cellsF_at fs k hk
  by_cases e1 : j = k * 2 + 1
  · subst e1
    rw [h2, List.getElem?_set_self (by simp [h.1]; omega)]
  · rw [List.getElem?_set_ne (by omega)]
    by_cases e0 : j = k * 2
    · subst e0
      rw [h1, List.getElem?_set_self (by omega)]
    · rw [List.getElem?_set_ne (by omega)]
      exact h.2 j (by omega)

end Go.Proofs.YtkkhnldhipfneaaGreatDoor

/-! Files copied, one and a list of them, the program's: contracts for the walks; conditions: the list lies in memory, its texts have at most 2 to the 20 bytes. -/
namespace Go.Proofs.YtkkhnldhipfneaaGreatDoor
open Go.RowKit
set_option linter.unusedSimpArgs false
set_option linter.unusedVariables false

theorem cell_two_c (w : World) (v u : Value) (t : TypeId) : ∀ j x, ([v, u] : List Value)[j]? = some x → (w.alloc (.cells #[v, u] t)).cell? ((⟨w.heap.size, 0, none⟩ : Addr).add j) = some x := fun j x hj => by
  have h2 : j < 2 := by have := (List.getElem?_eq_some_iff.1 hj).1; simpa using this
  have e : ((⟨w.heap.size, 0, none⟩ : Addr).add j) = ⟨w.heap.size, j, none⟩ := by unfold Addr.add; split <;> simp_all
  rw [e, vblk_cell (vheap_new _ _) j]
  match j, h2 with
  | 0, _ => simpa using hj
  | 1, _ => simpa using hj

theorem owns2_below {w w' : World} {base : Nat} {e : TypeId} {v : Value} {n : Nat} {xs : List Value} (h : w.ownsRow base e 2 v n xs) (b : Below w.heap.size w w') : w'.ownsRow base e 2 v n xs := by
  rcases h.2 with ⟨rfl, rfl⟩ | ⟨g, cap, cur, rfl, hg, hh, _⟩
  · exact ⟨h.1, .inl ⟨rfl, rfl⟩⟩
  · exact h.kept (grown_of_below b none) (by simp [Value.ownBlock])

end Go.Proofs.YtkkhnldhipfneaaGreatDoor

/-! Signs that lie in memory, and what one sign answers of a byte (the program's): contracts for the walks; conditions as each says. -/
namespace Go.Proofs.YtkkhnldhipfneaaGreatDoor
open Go.RowKit
set_option linter.unusedSimpArgs false
set_option linter.unusedVariables false

def takesS (g : Sgn) (c : Int) : Bool := (g.set.any fun u => (u.toNat : Int) == c) != g.nt
def sgnV (g : Sgn) : Value := .agg #[.bool g.many, .bool g.nt, .string ⟨g.set.toArray⟩]

/-- The three cells from place j on in block b are the sign g. -/
def SgnAt (w : World) (b j : Nat) (g : Sgn) : Prop := w.cell? ⟨b, j, none⟩ = some (.bool g.many) ∧ w.cell? ⟨b, j + 1, none⟩ = some (.bool g.nt) ∧ w.cell? ⟨b, j + 2, none⟩ = some (.string ⟨g.set.toArray⟩)
/-- The list of signs v is gs. -/
def SgnsIn (S : Nat → Prop) (w : World) (v : Value) (gs : List Sgn) : Prop :=
  ∃ q cap, v = .slice q gs.length cap ∧ gs.length ≤ 12 ∧ gs.length ≤ cap ∧ (gs = [] ∨ ∃ (b off : Nat), q = some ⟨b, off, none⟩ ∧ S b ∧ ∀ k (h : k < gs.length), SgnAt w b (off + k * 3) gs[k])
theorem SgnsIn.keep {S : Nat → Prop} {w w' : World} {v : Value} {gs : List Sgn} (hk : Kp S w w') (h : SgnsIn S w v gs) : SgnsIn S w' v gs := by
  obtain ⟨q, cap, hv, hm, hc, h⟩ := h
  refine ⟨q, cap, hv, hm, hc, ?_⟩
  rcases h with h | ⟨b, off, hq, hb, h⟩
  · exact .inl h
  · exact .inr ⟨b, off, hq, hb, fun k hh => ⟨(hk.cell hb _).trans (h k hh).1, (hk.cell hb _).trans (h k hh).2.1, (hk.cell hb _).trans (h k hh).2.2⟩⟩
theorem SgnsIn.mono {S S' : Nat → Prop} {w : World} {v : Value} {gs : List Sgn} (hS : ∀ b, S b → S' b) (h : SgnsIn S w v gs) : SgnsIn S' w v gs := by
  obtain ⟨q, cap, hv, hm, hc, h⟩ := h
  refine ⟨q, cap, hv, hm, hc, ?_⟩
  rcases h with h | ⟨b, off, hq, hb, h⟩
  · exact .inl h
  · exact .inr ⟨b, off, hq, hS b hb, h⟩

theorem indexByte_any (l : List UInt8) (c : Int) (h0 : 0 ≤ c) (h1 : c ≤ 255) : decide (0 ≤ Lib.indexByte l c.toNat.toUInt8) = l.any (fun u => (u.toNat : Int) == c) := by
  have hcn : ∀ u : UInt8, ((u.toNat : Int) == c) = true ↔ u = c.toNat.toUInt8 := fun u => by
    have hu := u.toNat_lt
    rw [beq_iff_eq]
    constructor
    · intro e
      have : u.toNat = c.toNat := by omega
      rw [← this]; simp
    · intro e
      subst e
      simp [UInt8.toNat_ofNat']
      omega
  have hge := Lib.indexByte_ge l c.toNat.toUInt8
  by_cases hm : Lib.indexByte l c.toNat.toUInt8 = -1
  · rw [hm]
    have : l.any (fun u => (u.toNat : Int) == c) = false := by
      rw [List.any_eq_false]
      intro u hu hc
      obtain ⟨k, hk, he⟩ := List.getElem_of_mem hu
      have h2 := Lib.indexByte_none hm k
      rw [List.getElem?_eq_getElem hk, he, (hcn u).1 hc] at h2
      exact h2 rfl
    rw [this]; rfl
  · obtain ⟨k, hk⟩ := Int.eq_ofNat_of_zero_le (show 0 ≤ Lib.indexByte l c.toNat.toUInt8 by omega)
    obtain ⟨hh, hbef⟩ := Lib.indexByte_some hk
    have : l.any (fun u => (u.toNat : Int) == c) = true := by
      rw [List.any_eq_true]
      exact ⟨_, List.mem_of_getElem? hh, (hcn _).2 rfl⟩
    rw [this, hk]
    exact decide_eq_true (by omega)

end Go.Proofs.YtkkhnldhipfneaaGreatDoor

/-! Signs gone through by bytes, the program's: the answer is as if all ways were tried; a contract for the walks; conditions: both lists lie in memory, at most 12 signs, at most 2 to the 20 bytes. -/
namespace Go.Proofs.YtkkhnldhipfneaaGreatDoor
open Go.RowKit
set_option linter.unusedSimpArgs false
set_option linter.unusedVariables false

/-- The frame of the run through signs: its five words, the scratch forgotten. -/
def FrS (q : Option Addr) (L cap : Nat) (a : Option Addr) (N cap2 : Nat) (x5 x6 x7 x8 x9 : Value) (f : Act) : Prop :=
  ∃ (u10 u11 u12 u13 u14 u15 u16 u17 u18 u19 u20 u21 u22 u23 u24 u25 u26 u27 u28 u29 u30 u31 u32 u33 u34 u35 u36 u37 u38 u39 u40 u41 u42 u43 u44 u45 u46 u47 u48 u49 u50 u51 u52 u53 u54 u55 u56 u57 u58 u59 u60 u61 u62 u63 u64 u65 u66 u67 u68 u69 u70 u71 u72 u73 u74 : Value), f = { tmps := #[.slice q L cap, .slice a N cap2, undef, undef, .bool false, x5, x6, x7, x8, x9, u10, u11, u12, u13, u14, u15, u16, u17, u18, u19, u20, u21, u22, u23, u24, u25, u26, u27, u28, u29, u30, u31, u32, u33, u34, u35, u36, u37, u38, u39, u40, u41, u42, u43, u44, u45, u46, u47, u48, u49, u50, u51, u52, u53, u54, u55, u56, u57, u58, u59, u60, u61, u62, u63, u64, u65, u66, u67, u68, u69, u70, u71, u72, u73, u74], defers := [] }

theorem FrS.elim {C : Act → Prop} {q : Option Addr} {L cap : Nat} {a : Option Addr} {N cap2 : Nat} {x5 x6 x7 x8 x9 : Value} {f : Act} (h : FrS q L cap a N cap2 x5 x6 x7 x8 x9 f)
    (k : ∀ (u10 u11 u12 u13 u14 u15 u16 u17 u18 u19 u20 u21 u22 u23 u24 u25 u26 u27 u28 u29 u30 u31 u32 u33 u34 u35 u36 u37 u38 u39 u40 u41 u42 u43 u44 u45 u46 u47 u48 u49 u50 u51 u52 u53 u54 u55 u56 u57 u58 u59 u60 u61 u62 u63 u64 u65 u66 u67 u68 u69 u70 u71 u72 u73 u74 : Value), C { tmps := #[.slice q L cap, .slice a N cap2, undef, undef, .bool false, x5, x6, x7, x8, x9, u10, u11, u12, u13, u14, u15, u16, u17, u18, u19, u20, u21, u22, u23, u24, u25, u26, u27, u28, u29, u30, u31, u32, u33, u34, u35, u36, u37, u38, u39, u40, u41, u42, u43, u44, u45, u46, u47, u48, u49, u50, u51, u52, u53, u54, u55, u56, u57, u58, u59, u60, u61, u62, u63, u64, u65, u66, u67, u68, u69, u70, u71, u72, u73, u74], defers := [] }) : C f :=
  Exists.elim h fun u10 h => Exists.elim h fun u11 h => Exists.elim h fun u12 h => Exists.elim h fun u13 h => Exists.elim h fun u14 h => Exists.elim h fun u15 h => Exists.elim h fun u16 h => Exists.elim h fun u17 h => Exists.elim h fun u18 h => Exists.elim h fun u19 h => Exists.elim h fun u20 h => Exists.elim h fun u21 h => Exists.elim h fun u22 h => Exists.elim h fun u23 h => Exists.elim h fun u24 h => Exists.elim h fun u25 h => Exists.elim h fun u26 h => Exists.elim h fun u27 h => Exists.elim h fun u28 h => Exists.elim h fun u29 h => Exists.elim h fun u30 h => Exists.elim h fun u31 h => Exists.elim h fun u32 h => Exists.elim h fun u33 h => Exists.elim h fun u34 h => Exists.elim h fun u35 h => Exists.elim h fun u36 h => Exists.elim h fun u37 h => Exists.elim h fun u38 h => Exists.elim h fun u39 h => Exists.elim h fun u40 h => Exists.elim h fun u41 h => Exists.elim h fun u42 h => Exists.elim h fun u43 h => Exists.elim h fun u44 h => Exists.elim h fun u45 h => Exists.elim h fun u46 h => Exists.elim h fun u47 h => Exists.elim h fun u48 h => Exists.elim h fun u49 h => Exists.elim h fun u50 h => Exists.elim h fun u51 h => Exists.elim h fun u52 h => Exists.elim h fun u53 h => Exists.elim h fun u54 h => Exists.elim h fun u55 h => Exists.elim h fun u56 h => Exists.elim h fun u57 h => Exists.elim h fun u58 h => Exists.elim h fun u59 h => Exists.elim h fun u60 h => Exists.elim h fun u61 h => Exists.elim h fun u62 h => Exists.elim h fun u63 h => Exists.elim h fun u64 h => Exists.elim h fun u65 h => Exists.elim h fun u66 h => Exists.elim h fun u67 h => Exists.elim h fun u68 h => Exists.elim h fun u69 h => Exists.elim h fun u70 h => Exists.elim h fun u71 h => Exists.elim h fun u72 h => Exists.elim h fun u73 h => Exists.elim h fun u74 h => Eq.mpr (congrArg C h) (k u10 u11 u12 u13 u14 u15 u16 u17 u18 u19 u20 u21 u22 u23 u24 u25 u26 u27 u28 u29 u30 u31 u32 u33 u34 u35 u36 u37 u38 u39 u40 u41 u42 u43 u44 u45 u46 u47 u48 u49 u50 u51 u52 u53 u54 u55 u56 u57 u58 u59 u60 u61 u62 u63 u64 u65 u66 u67 u68 u69 u70 u71 u72 u73 u74)

theorem inv_le {α β : Type} {many : α → Bool} {takes : α → β → Bool} {ps : List α} {xs : List β} {s t b tk : Nat} {seen : Bool} (h : Inv many takes ps xs s t b tk seen) : s ≤ ps.length ∧ t ≤ xs.length ∧ b ≤ s ∧ tk ≤ t := by
  obtain ⟨h1, h2, h3, h4, _⟩ := h
  exact ⟨h1, h2, h3, by omega⟩

/-- What holds at the three labels (0: many, 1: look, 2: back). -/
def JS (w : World) (q : Option Addr) (gs : List Sgn) (cap : Nat) (a : Option Addr) (zs : List Int) (cap2 : Nat) (l n : Nat) (f : Act) (wr : World) : Prop :=
  ∃ (s t b tk : Nat) (seen : Bool) (x5 x6 x7 x8 : Value), FrS q gs.length cap a zs.length cap2 x5 x6 x7 x8 (.bool seen) f ∧ x5 = .int .i64 (s : Int) ∧ x6 = .int .i64 (t : Int) ∧ x7 = .int .i64 (b : Int) ∧ x8 = .int .i64 (tk : Int) ∧
    Inv Sgn.many takesS gs zs s t b tk seen ∧ Below w.heap.size w wr ∧
    ((l = 1 ∧ n = 2 * goM gs.length zs.length s b tk + 1) ∨ (l = 0 ∧ n = 2 * goM gs.length zs.length s b tk ∧ ∃ g, gs[s]? = some g ∧ g.many = true) ∨ (l = 2 ∧ n = 2 * goM gs.length zs.length s b tk ∧ F2 Sgn.many takesS gs zs s t = false))

end Go.Proofs.YtkkhnldhipfneaaGreatDoor

/-! Pieces that lie in memory, and what one piece answers of a name (the program's): contracts for the walks; conditions as each says. -/
namespace Go.Proofs.YtkkhnldhipfneaaGreatDoor
open Go.RowKit
set_option linter.unusedSimpArgs false
set_option linter.unusedVariables false

def intsOf (y : ByteArray) : List Int := y.data.toList.map fun u => (u.toNat : Int)
theorem intsOf_len (y : ByteArray) : (intsOf y).length = y.size := by unfold intsOf; rw [List.length_map, len_list]
theorem intsOf_in (y : ByteArray) : ∀ c ∈ intsOf y, 0 ≤ c ∧ c ≤ 255 := fun c h => by
  obtain ⟨u, _, rfl⟩ := List.mem_map.1 h
  exact ⟨byte0 u, byte255 u⟩
def manyT (x : ByteArray) : Bool := x.toList == [42, 42]
def takesT (x y : ByteArray) : Bool := fullG Sgn.many takesS (sgnsOf x) (intsOf y)

/-- The two cells from place j on in block b are the piece that is read off x. -/
def PceAt (S : Nat → Prop) (w : World) (b j : Nat) (x : ByteArray) : Prop := w.cell? ⟨b, j, none⟩ = some (.bool (manyT x)) ∧ ∃ v, w.cell? ⟨b, j + 1, none⟩ = some v ∧ SgnsIn S w v (sgnsOf x)
/-- The list of pieces v is what is read off xs. -/
def PcsIn (S : Nat → Prop) (w : World) (v : Value) (xs : List ByteArray) : Prop :=
  ∃ q cap, v = .slice q xs.length cap ∧ xs.length ≤ 4 ∧ xs.length ≤ cap ∧ (xs = [] ∨ ∃ (b off : Nat), q = some ⟨b, off, none⟩ ∧ S b ∧ ∀ k (h : k < xs.length), PceAt S w b (off + k * 2) xs[k])

theorem bytes_new (w : World) (y : ByteArray) (C : Nat) (t : TypeId) (z : Nat × Nat) (hC : y.size ≤ C) :
    Reads (w.alloc (.cells (bytesRow y C) t z)) (.slice (some ⟨w.heap.size, 0, none⟩) y.size C) (bytesV (intsOf y)) := by
  refine ⟨some ⟨w.heap.size, 0, none⟩, C, by rw [length_bytesV, intsOf_len], by rw [length_bytesV, intsOf_len]; exact hC, .inr ⟨w.heap.size, 0, rfl, by simp, fun k hk => ?_⟩⟩
  rw [length_bytesV, intsOf_len] at hk
  have hh : (w.alloc (.cells (bytesRow y C) t z)).heap[w.heap.size]? = some (.cells (bytesRow y C) t z) := vheap_new _ _
  rw [Nat.zero_add, cell_of_row _ _ k _ _ _ hh]
  unfold bytesRow
  have h1 : k < y.data.size := hk
  rw [Array.getElem?_append_left (by simpa using h1)]
  simp only [bytesV, intsOf, List.getElem_map, Array.getElem?_map, Array.getElem?_eq_getElem h1, Option.map_some, Array.getElem_toList]

end Go.Proofs.YtkkhnldhipfneaaGreatDoor

/-! Signs put one behind the other in memory of the call's own, beside the set that is being read: facts for the walks; no condition. -/
namespace Go.Proofs.YtkkhnldhipfneaaGreatDoor
open Go.RowKit
set_option linter.unusedSimpArgs false
set_option linter.unusedVariables false

theorem infoSgn : (Tryz.prog.info? 336).map (fun i => (i.zero, i.size, i.bytes)) = some (some (.agg #[.bool false, .bool false, .string ⟨#[]⟩]), 3, 24) := by kernel_rfl

def cellsS (gs : List Sgn) : List Value := gs.flatMap fun g => [.bool g.many, .bool g.nt, .string ⟨g.set.toArray⟩]
theorem cellsS_length (gs : List Sgn) : (cellsS gs).length = gs.length * 3 := by
  induction gs with
  | nil => rfl
  | cons f fs ih => simp only [cellsS, List.flatMap_cons, List.length_append, List.length_cons, List.length_nil] at ih ⊢; omega
theorem cellsS_append (a b : List Sgn) : cellsS (a ++ b) = cellsS a ++ cellsS b := by simp [cellsS]
theorem cellsS_at (gs : List Sgn) : ∀ (k : Nat) (h : k < gs.length), (cellsS gs)[k * 3]? = some (.bool gs[k].many) ∧ (cellsS gs)[k * 3 + 1]? = some (.bool gs[k].nt) ∧ (cellsS gs)[k * 3 + 2]? = some (.string ⟨gs[k].set.toArray⟩) := by
  induction gs with
  | nil => intro k h; simp at h
  | cons f fs ih =>
    intro k h
    have e : cellsS (f :: fs) = [.bool f.many, .bool f.nt, .string ⟨f.set.toArray⟩] ++ cellsS fs := by simp [cellsS]
    cases k with
    | zero => rw [e]; simp
    | succ k =>
      have := ih k (by simpa using h)
      rw [e, List.getElem?_append_right (by simp; omega), List.getElem?_append_right (by simp; omega), List.getElem?_append_right (by simp; omega)]
      simp only [List.length_cons, List.length_nil, List.getElem_cons_succ]
      rw [show (k + 1) * 3 - (0 + 1 + 1 + 1) = k * 3 by omega, show (k + 1) * 3 + 1 - (0 + 1 + 1 + 1) = k * 3 + 1 by omega, show (k + 1) * 3 + 2 - (0 + 1 + 1 + 1) = k * 3 + 2 by omega]
      exact this
theorem sgnsIn_owns {w : World} {lo n : Nat} {e : TypeId} {v : Value} {gs : List Sgn} (hg : w.ownsRow lo e 3 v n (cellsS gs)) (h12 : gs.length ≤ 12) : SgnsIn (Ow lo w.heap.size) w v gs := by
  have hlen := hg.1
  rw [cellsS_length] at hlen
  have hn : n = gs.length := by omega
  subst hn
  rcases hg.2 with ⟨rfl, h0⟩ | ⟨g, cap, cur, rfl, hlo, hg', hcap, hmax, _⟩
  · exact ⟨_, _, by rw [h0], h12, by omega, .inl (List.eq_nil_of_length_eq_zero h0)⟩
  · have hgl := (Array.getElem?_eq_some_iff.1 hg').1
    refine ⟨_, _, rfl, h12, hcap, .inr ⟨g, 0, rfl, ⟨hlo, hgl⟩, fun k hk => ?_⟩⟩
    obtain ⟨h1, h2, h3⟩ := cellsS_at gs k hk
    rw [Nat.zero_add]
    exact ⟨(hg.cellAt _ (by omega)).trans h1, (hg.cellAt _ (by omega)).trans h2, (hg.cellAt _ (by omega)).trans h3⟩

theorem cell_three_c (w : World) (v u x : Value) (t : TypeId) : ∀ j y, ([v, u, x] : List Value)[j]? = some y → (w.alloc (.cells #[v, u, x] t)).cell? ((⟨w.heap.size, 0, none⟩ : Addr).add j) = some y := fun j y hj => by
  have h2 : j < 3 := by have := (List.getElem?_eq_some_iff.1 hj).1; simpa using this
  have e : ((⟨w.heap.size, 0, none⟩ : Addr).add j) = ⟨w.heap.size, j, none⟩ := by unfold Addr.add; split <;> simp_all
  rw [e, vblk_cell (vheap_new _ _) j]
  match j, h2 with
  | 0, _ => simpa using hj
  | 1, _ => simpa using hj
  | 2, _ => simpa using hj

/-- The set that is being read, and the signs so far: each in a block of the call's own. -/
def MemR (w wr : World) (v : Value) (xs : List Sgn) (nt : Bool) (x : ByteArray) : Prop :=
  wr.heap[w.heap.size]? = some (.cells #[.bool false, .bool nt, .string x] 336 (0, 0)) ∧ wr.ownsRow (w.heap.size + 1) 336 3 v xs.length (cellsS xs) ∧ Below w.heap.size w wr
theorem MemR.start (w : World) : MemR w (w.alloc (.cells #[.bool false, .bool false, .string ⟨#[]⟩] 336)) (.slice none 0 0) [] false ⟨#[]⟩ :=
  ⟨vheap_new _ _, World.ownsRow_nil _ _ _ _, (Below.refl _ _).alloc (Nat.le_refl _) _⟩
theorem MemR.lt {w wr : World} {v : Value} {xs : List Sgn} {nt : Bool} {x : ByteArray} (h : MemR w wr v xs nt x) : w.heap.size < wr.heap.size := (Array.getElem?_eq_some_iff.1 h.1).1
theorem MemR.slice {w wr : World} {v : Value} {xs : List Sgn} {nt : Bool} {x : ByteArray} (h : MemR w wr v xs nt x) : ∃ q c, v = .slice q xs.length c := by
  rcases h.2.1.2 with ⟨h1, h2⟩ | ⟨g, c, cur, rfl, _⟩
  · exact ⟨none, 0, by rw [h1, h2]⟩
  · exact ⟨_, _, rfl⟩
theorem MemR.grown {w wr w3 : World} {v v3 : Value} {xs ys : List Sgn} {nt : Bool} {x : ByteArray} {o : Obj} (h : MemR w wr v xs nt x) (gr : (wr.alloc o).grownBy w3 v.ownBlock) (o3 : w3.ownsRow (w.heap.size + 1) 336 3 v3 ys.length (cellsS ys)) : MemR w w3 v3 ys nt x := by
  have hlt := h.lt
  have hz := h.2.2.size
  refine ⟨?_, o3, Below.grown (h.2.2.alloc hz _) gr (by simp; omega) (fun j hj => by have := (h.2.1.lt _ hj).1; omega)⟩
  rw [gr.block _ (by simp; omega) (fun e => by have := (h.2.1.lt _ e.symm).1; omega), vheap_old _ _ hlt]
  exact h.1
theorem MemR.cells {w wr : World} {v : Value} {xs : List Sgn} {nt : Bool} {x : ByteArray} (h : MemR w wr v xs nt x) :
    wr.cell? ⟨w.heap.size, 0, none⟩ = some (.bool false) ∧ wr.cell? ⟨w.heap.size, 1, none⟩ = some (.bool nt) ∧ wr.cell? ⟨w.heap.size, 2, none⟩ = some (.string x) ∧ ∀ j, wr.frozen? ⟨w.heap.size, j, none⟩ = false :=
  ⟨by rw [vblk_cell h.1]; rfl, by rw [vblk_cell h.1]; rfl, by rw [vblk_cell h.1]; rfl, vblk_frozen h.1⟩
theorem MemR.keepRow {w wr : World} {v : Value} {xs : List Sgn} {nt : Bool} {x : ByteArray} (h : MemR w wr v xs nt x) (j : Nat) (y : Value) :
    (wr.setCell ⟨w.heap.size, j, none⟩ y).ownsRow (w.heap.size + 1) 336 3 v xs.length (cellsS xs) ∧ Below w.heap.size w (wr.setCell ⟨w.heap.size, j, none⟩ y) := by
  refine ⟨?_, h.2.2.setCell (Nat.le_refl _) _⟩
  have hr := h.2.1
  refine ⟨hr.1, ?_⟩
  rcases hr.2 with hn | ⟨g, cap, cur, rfl, hb, hgg, rest⟩
  · exact .inl hn
  · refine .inr ⟨g, cap, cur, rfl, hb, ?_, rest⟩
    rw [Below.heap_setCell _ _ _ _ (by show g ≠ w.heap.size; omega)]
    exact hgg
theorem MemR.setNot {w wr : World} {v : Value} {xs : List Sgn} {nt : Bool} {x : ByteArray} (h : MemR w wr v xs nt x) (n2 : Bool) : MemR w (wr.setCell ⟨w.heap.size, 1, none⟩ (.bool n2)) v xs n2 x := by
  obtain ⟨h1, h2⟩ := h.keepRow 1 (.bool n2)
  refine ⟨?_, h1, h2⟩
  rw [setCell_eq_setRow wr w.heap.size _ _ _ (0, 0) _ h.1, setRow_heap wr w.heap.size _ _ _ _ h.1]
  rfl
theorem MemR.setSet {w wr : World} {v : Value} {xs : List Sgn} {nt : Bool} {x : ByteArray} (h : MemR w wr v xs nt x) (y : ByteArray) : MemR w (wr.setCell ⟨w.heap.size, 2, none⟩ (.string y)) v xs nt y := by
  obtain ⟨h1, h2⟩ := h.keepRow 2 (.string y)
  refine ⟨?_, h1, h2⟩
  rw [setCell_eq_setRow wr w.heap.size _ _ _ (0, 0) _ h.1, setRow_heap wr w.heap.size _ _ _ _ h.1]
  rfl

theorem extract_one (s : ByteArray) (i : Nat) (h : i < s.size) : s.extract i (i + 1) = ⟨[s[i]].toArray⟩ := by
  apply ext_list
  rw [extract_list, drop_cons s i h]
  simp
theorem extract_run (s : ByteArray) (i j : Nat) : s.extract i j = ⟨((s.data.toList.drop i).take (j - i)).toArray⟩ := by
  apply ext_list
  rw [extract_list]
end Go.Proofs.YtkkhnldhipfneaaGreatDoor
