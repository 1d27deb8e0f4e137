/-
  Copies of versions, needs and entries, as the program makes them: contracts for the walks; conditions: they lie in memory, and hold at most 2 to the 20.
-/
import Derived.Test.YtbolphjigjpmiaaEnB
import Derived.Test.YtbolphjigjpmiaaSplitB
import Derived.Deep.RegionHeld
namespace Go.Proofs.Ytbolphjigjpmiaa
open Go.RowKit
set_option linter.unusedSimpArgs false
set_option linter.unusedVariables false

/-- A block of another type than a row's is not the row's. -/
theorem row_box {w : World} {lo sz n g : Nat} {e t : TypeId} {v : Value} {xs : List Value} {cs : Array Value} {fz : Nat × Nat} (h : w.ownsRow lo e sz v n xs) (hb : w.heap[g]? = some (.cells cs t fz)) (hne : e ≠ t) : v.ownBlock ≠ some g := fun he => by
  rcases h.2 with ⟨rfl, _⟩ | ⟨g', cap, cur, rfl, _, hg, _⟩
  · simp [Value.ownBlock] at he
  · simp [Value.ownBlock] at he
    subst he
    rw [hg] at hb
    simp at hb
    exact hne hb.2.1
theorem box_grown {w w' : World} {row : Option Nat} {g : Nat} {o : Obj} (hb : w.heap[g]? = some o) (hg : w.grownBy w' row) (hne : row ≠ some g) : w'.heap[g]? = some o :=
  (hg.block g (Array.getElem?_eq_some_iff.1 hb).1 (fun e => hne e.symm)).trans hb
theorem box_below {w w' : World} {g : Nat} {o : Obj} (hb : w.heap[g]? = some o) (h : Below w.heap.size w w') : w'.heap[g]? = some o :=
  (h.block g (Array.getElem?_eq_some_iff.1 hb).1).trans hb
theorem row_put {w : World} {lo sz n g j : Nat} {e t : TypeId} {v x : Value} {xs : List Value} {cs : Array Value} {fz : Nat × Nat} (h : w.ownsRow lo e sz v n xs) (hb : w.heap[g]? = some (.cells cs t fz)) (hne : e ≠ t) : (w.setCell ⟨g, j, none⟩ x).ownsRow lo e sz v n xs :=
  owns_kept (S := fun b => b ≠ g) (Kp.set (by simp)) (fun b hb' => by rintro rfl; exact row_box h hb hne hb') h
theorem List.single_le_sum_natC {ss : List ByteArray} {t : ByteArray} (h : t ∈ ss) : t.size ≤ (ss.map ByteArray.size).sum := by
  induction ss with
  | nil => simp at h
  | cons a l ih =>
    simp only [List.map_cons, List.sum_cons]
    rcases List.mem_cons.1 h with rfl | h
    · omega
    · have := ih h; omega
theorem two_boxes {w : World} (A R : Obj) : ((w.alloc A).alloc R).heap[w.heap.size]? = some A ∧ ((w.alloc A).alloc R).heap[w.heap.size + 1]? = some R := by
  have s1 : (w.alloc A).heap.size = w.heap.size + 1 := by simp
  refine ⟨?_, ?_⟩
  · rw [vheap_old _ _ (by simp), vheap_new]
  · rw [← s1, vheap_new]

set_option maxHeartbeats 2000000 in
set_option maxRecDepth 100000 in
theorem copyVer_c (a b c : Int) (u : Value) (ps : List ByteArray) (w : World) (hu : Reads w u (strsV ps)) (hb : bulkS ps ≤ 1048576) :
    Calls Try.prog 75 #[.agg #[.int .i64 a, .int .i64 b, .int .i64 c, u]] w fun e w' => ∃ u', e = .returned (.agg #[.int .i64 a, .int .i64 b, .int .i64 c, u']) ∧ w'.ownsRow w.heap.size 9 1 u' ps.length (strsV ps) ∧ Below w.heap.size w w' := by
  obtain ⟨i0, hi, hz0, hz1, hz2⟩ := info_parts infoS
  obtain ⟨q, cap, rfl, _, hc⟩ := reads_strs hu
  have hn : ps.length ≤ 1048576 := by unfold bulkS at hb; omega
  have hsz : ∀ t ∈ ps, t.size ≤ 1048576 := fun t ht => by
    have : t.size ≤ (ps.map ByteArray.size).sum := List.single_le_sum_natC ht
    unfold bulkS at hb; omega
  have hb2 : ∀ A R, Below w.heap.size w ((w.alloc A).alloc R) := fun A R => ((Below.refl _ _).alloc (Nat.le_refl _) _).alloc (by simp) _
  have HB0 := two_boxes (w := w) (.cells #[.int .i64 a, .int .i64 b, .int .i64 c, .slice q ps.length cap] 59 (0, 0)) (.cells #[.int .i64 0, .int .i64 0, .int .i64 0, .slice none 0 0] 59 (0, 0))
  clear hu hb
  go_enter Try.func75, Try.ntmps75
  go_wp2_with fail
  go_loopw [3, 9] (fun vx vi wr => ∃ (k : Nat) (vo : Value), k ≤ ps.length ∧ vi = .int .i64 (k : Int) ∧ vx = vo ∧ wr.ownsRow w.heap.size 9 1 vo k (strsV (ps.take k)) ∧ Hid (wr.heap[w.heap.size]? = some (.cells #[.int .i64 a, .int .i64 b, .int .i64 c, .slice q ps.length cap] 59 (0, 0)) ∧ wr.heap[w.heap.size + 1]? = some (.cells #[.int .i64 0, .int .i64 0, .int .i64 0, .slice none 0 0] 59 (0, 0))) ∧ Below w.heap.size w wr) (fun _ vi _ => ps.length - (intOf vi).toNat)
  case atStart => exact ⟨0, _, Nat.zero_le _, rfl, rfl, (by rw [List.take_zero]; exact World.ownsRow_nil _ _ _ _), HB0, hb2 _ _⟩
  case round =>
    clear HB0
    obtain ⟨k, vo, hk, rfl, rfl, hown, hbx, hbr⟩ := hrel
    by_cases hlt' : k < ps.length
    · rcases hc with rfl | ⟨b0, off, rfl, hlt, hc⟩
      · simp at hlt'
      have e0 : wr.cell? ⟨b0, off + k, none⟩ = some (.string ps[k]) := (hbr.cell (by simpa using hlt)).trans (hc k hlt')
      have hsk := hsz ps[k] (List.getElem_mem hlt')
      have HT : Hid (strsV (ps.take k) ++ strsV [ps[k]] = strsV (ps.take (k + 1))) := by show _ = _; rw [strs_append, List.take_succ_eq_append_getElem hlt']
      obtain ⟨t, ht⟩ : ∃ t, t = ps[k] := ⟨_, rfl⟩
      rw [← ht] at e0 hsk HT
      have hki : (k : Int) < (ps.length : Int) := by omega
      clear hc ht hsz
      go_wp2_with (first
        | (go_at_call 82; refine (clone_c t _ hsk).mono ?_; rintro e w2 ⟨rfl, b2⟩
           have hown2 := owns_of_below hown b2)
        | (at_builtin; refine wpList_append_own _ rfl _ _ 23 rfl w.heap.size 9 i0 (.string ⟨#[]⟩) 1 16 Try.underlying23 hi hz0 hz1 hz2 rfl (by decide) _ k (strsV (ps.take k)) rfl (hown2.alloc _) ⟨w2.heap.size, 0, none⟩ 1 1 (strsV [t]) rfl rfl (cell_one_new _ _ _) (fun u hu => by simp [strsV] at hu; subst hu; rfl) (by unfold maxLen; omega) (by omega) (by have h1 := hbr.size; have h2 := b2.size; simp; omega) ?_))
      intro v3 w3 o3 gr3 _
      rw [HT.out] at o3
      have hbw2 := hbr.trans (b2.mono hbr.size)
      have hb3 : Below w.heap.size w w3 := Below.grown (hbw2.alloc hbw2.size _) gr3 (by have := hbw2.size; simp; omega) (fun j hj => (hown2.lt _ hj).1)
      have kA : Below w2.heap.size w2 (w2.alloc (.cells #[.string t] 9)) := (Below.refl _ _).alloc (Nat.le_refl _) _
      have hA1 := box_below (box_below hbx.out.1 b2) kA
      have hR1 := box_below (box_below hbx.out.2 b2) kA
      have hown4 := hown2.alloc (.cells #[.string t] 9)
      have HX := hidden (And.intro (box_grown hA1 gr3 (row_box hown4 hA1 (by decide))) (box_grown hR1 gr3 (row_box hown4 hR1 (by decide))))
      clear hA1 hR1 kA hbx hown4
      go_wp2_with fail
      go_roundw
      case rel => exact ⟨k + 1, _, by omega, by go_num, rfl, o3, HX, hb3⟩
      case measure => simp [intOf]; omega
    · have he : k = ps.length := by omega
      subst he
      rw [List.take_length] at hown
      obtain ⟨hA, hR⟩ := hbx.out
      obtain ⟨qo, co, hvo⟩ := owns_sliceP hown
      subst hvo
      have hA2 := heap_setCell_same wr w.heap.size 3 _ _ (.slice qo ps.length co) hA
      have hR2 := (Below.heap_setCell wr ⟨w.heap.size, 3, none⟩ (.slice qo ps.length co) (w.heap.size + 1) (by simp)).trans hR
      have HO : Hid (∀ c0 c1 c2 c3, (((((wr.setCell ⟨w.heap.size, 3, none⟩ (.slice qo ps.length co)).setCell ⟨w.heap.size + 1, 0, none⟩ c0).setCell ⟨w.heap.size + 1, 1, none⟩ c1).setCell ⟨w.heap.size + 1, 2, none⟩ c2).setCell ⟨w.heap.size + 1, 3, none⟩ c3).ownsRow w.heap.size 9 1 (.slice qo ps.length co) ps.length (strsV ps)) := fun c0 c1 c2 c3 =>
        owns_kept (S := fun b => b ≠ w.heap.size ∧ b ≠ w.heap.size + 1) ((((((Kp.set (by simp)).trans (Kp.set (by simp))).trans (Kp.set (by simp))).trans (Kp.set (by simp))).trans (Kp.set (by simp)))) (fun b hb' => ⟨by rintro rfl; exact row_box hown hA (by decide) hb', by rintro rfl; exact row_box hown hR (by decide) hb'⟩) hown
      have a0 := vblk_cell hA 0
      have a1 := vblk_cell hA 1
      have a2 := vblk_cell hA 2
      have a3 := vblk_cell hA 3
      have fa := vblk_frozen hA
      have r0 := vblk_cell hR 0
      have r1 := vblk_cell hR 1
      have r2 := vblk_cell hR 2
      have r3 := vblk_cell hR 3
      have fr := vblk_frozen hR
      simp only [List.getElem?_toArray, List.getElem?_cons_succ, List.getElem?_cons_zero] at a0 a1 a2 a3 r0 r1 r2 r3
      clear hc hsz hA hR hA2 hR2 hbx
      go_wp2_with fail
      refine bodyPost_ret (v := .agg #[.int .i64 a, .int .i64 b, .int .i64 c, .slice qo ps.length co]) (by simp [results, Try.results75, go_sem, a0, a1, a2, a3, r0, r1, r2, r3]) rfl ⟨_, rfl, HO.out _ _ _ _, ?_⟩
      (repeat (refine Below.setCell ?_ (by simp) _))
      exact hbr

end Go.Proofs.Ytbolphjigjpmiaa
