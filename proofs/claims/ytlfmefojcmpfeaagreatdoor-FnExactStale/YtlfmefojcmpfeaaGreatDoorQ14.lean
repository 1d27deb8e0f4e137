/-
  Contracts for the walks, several texts in one: each part says what it proves, and under which conditions.
-/
import Derived.Test.YtlfmefojcmpfeaaGreatDoorQ13

/-! EntryOf, as the program answers it: a contract for the walks; conditions: what comes in lies in memory, holds at most 2 to the 20, its numbers fit into an int, and the library's powers of ten are there. -/
namespace Go.Proofs.YtlfmefojcmpfeaaGreatDoor
open Go.RowKit
set_option linter.unusedSimpArgs false
set_option linter.unusedVariables false

def zeroD : EntryD := ⟨⟨#[]⟩, 0, 0, 0, [], []⟩
/-- The entry at this place, or the zero one. -/
def atD (xs : List EntryD) (o : Option Nat) : EntryD := (o.bind fun i => xs[i]?).getD zeroD
/-- A map that tells this of a key. -/
def MapL (w : World) (b : Nat) (k : KeyE) (r : Value) : Prop := ∃ n m, MapE w b n m ∧ Value.tuple #[(m k).getD zeroE, .bool (m k).isSome] = r
theorem MapL.below {w w' : World} {b : Nat} {k : KeyE} {r : Value} (h : MapL w b k r) (hb : Below w.heap.size w w') : MapL w' b k r := by obtain ⟨n, m, h1, h2⟩ := h; exact ⟨n, m, h1.below hb, h2⟩
theorem MapL.look {w : World} {b : Nat} {k : KeyE} {r : Value} (h : MapL w b k r) (hk : k.ok) : (Instr.lookup 110 (.map (some b)) k.val true).run Tryz.prog w = .ok r w := by
  obtain ⟨n, m, h1, h2⟩ := h
  rw [h1.look hk, h2]
theorem zero_lies (S : Nat → Prop) (w : World) : shEntry.lies S w [.string ⟨#[]⟩, .int .i64 0, .int .i64 0, .int .i64 0, .slice none 0 0, .slice none 0 0] zeroD :=
  ⟨_, _, rfl, Nat.zero_le _, ⟨none, 0, rfl, Nat.le_refl _, .inl rfl⟩, ⟨Nat.zero_le _, fun s h => by cases h⟩, ⟨none, 0, rfl, Nat.zero_le _, Nat.le_refl _, .inl rfl⟩⟩

set_option maxHeartbeats 8000000 in
set_option maxRecDepth 100000 in
theorem implEntry_c (S : Nat → Prop) (v : Value) (xs : List EntryD) (n : ByteArray) (a b c : Int) (u : Value) (ps : List ByteArray) (w : World) (hv : RowIn shEntry S w v xs) (hB : ∀ b, S b → b < w.heap.size) (hw : wtRow wtEntry xs ≤ 1048576) (hwf : ∀ d ∈ xs, wfE d)
    (hn : n.size ≤ maxLen) (hu : Reads w u (strsV ps)) (hb : bulkS ps ≤ 1048576) (ha : (Lit.int .i64 a).wf = true) (hbw : (Lit.int .i64 b).wf = true) (hc : (Lit.int .i64 c).wf = true) (htab : Lib.TabIs Tryz.prog w "internal/strconv.uint64pow10" .u64 Lib.pow10Tab) :
    Calls Tryz.prog 16 #[v, .string n, .agg #[.int .i64 a, .int .i64 b, .int .i64 c, u]] w fun e w' => ∃ cs, e = .returned (.tuple #[.agg cs.toArray, .bool (firstK xs ⟨n, a, b, c, ⟨(preL ps).toArray⟩⟩).isSome]) ∧ shEntryO.lies (Ow w.heap.size w'.heap.size) w' cs (atD xs (firstK xs ⟨n, a, b, c, ⟨(preL ps).toArray⟩⟩)) ∧ Below w.heap.size w w' := by
  have hok : KeyE.ok ⟨n, a, b, c, ⟨(preL ps).toArray⟩⟩ := by
    refine ⟨hn, ha, hbw, hc, ?_⟩
    have := preL_len ps
    show (preL ps).toArray.size ≤ _
    unfold maxLen
    simp; omega
  have hb2 : ∀ A R, Below w.heap.size w ((w.alloc A).alloc R) := fun A R => ((Below.refl _ _).alloc (Nat.le_refl _) _).alloc (by simp) _
  have hBn : ∀ w1, Below w.heap.size w w1 → ∀ b, S b → b < w1.heap.size := fun w1 h b hb => Nat.lt_of_lt_of_le (hB b hb) h.size
  have HM' : ∀ w1, Below w.heap.size w w1 → Calls Tryz.prog 80 #[v] w1 fun e w' => ∃ vs : Nat → Value, e = .returned (.map (some w1.heap.size)) ∧ (∀ i (h : i < xs.length), ∃ cs : List Value, vs i = .agg cs.toArray ∧ shEntry.lies S w1 cs xs[i]) ∧ MapE w' w1.heap.size xs.length (fun q => (firstK xs q).map vs) ∧ Below w1.heap.size w1 w' := fun w1 h => byKey_c S v xs w1 (hv.keep (.of h hB)) (hBn w1 h) hw hwf (tabIs_below h htab)
  have HK' : ∀ w1, Below w.heap.size w w1 → Calls Tryz.prog 81 #[.string n, .agg #[.int .i64 a, .int .i64 b, .int .i64 c, u]] w1 fun e w' => e = .returned (.agg #[.string n, .int .i64 a, .int .i64 b, .int .i64 c, .string ⟨(preL ps).toArray⟩]) ∧ Below w1.heap.size w1 w' := fun w1 h => entryKey_c n a b c u ps w1 (hu.below h) hb (tabIs_below h htab)
  have hwe : ∀ d ∈ xs, wtEntry d ≤ 1048576 := fun d hd => Nat.le_trans (wt_wtRow wtEntry hd) hw
  obtain ⟨q, cap, rfl, _, _⟩ := reads_strs hu
  obtain ⟨qv, cv, hqv⟩ := hv.slice
  have hrow := hv
  subst hqv
  obtain ⟨KD, hKD⟩ : ∃ K : KeyE, K = ⟨n, a, b, c, ⟨(preL ps).toArray⟩⟩ := ⟨_, rfl⟩
  obtain ⟨P, hP⟩ : ∃ P : ByteArray, P = ⟨(preL ps).toArray⟩ := ⟨_, rfl⟩
  have hKV : KD.val = .agg #[.string n, .int .i64 a, .int .i64 b, .int .i64 c, .string P] := by rw [hKD, hP]; rfl
  rw [← hKD] at hok
  rw [← hKD]
  simp only [← hP] at HK'
  clear hKD hP hu htab hv
  obtain ⟨hAz, hRz⟩ := two_boxes (w := w) (.cells #[.int .i64 a, .int .i64 b, .int .i64 c, .slice q ps.length cap] 30 (0, 0)) (.cells #[.string ⟨#[]⟩, .int .i64 0, .int .i64 0, .int .i64 0, .slice none 0 0, .slice none 0 0] 35 (0, 0))
  have hwz := hb2 (.cells #[.int .i64 a, .int .i64 b, .int .i64 c, .slice q ps.length cap] 30 (0, 0)) (.cells #[.string ⟨#[]⟩, .int .i64 0, .int .i64 0, .int .i64 0, .slice none 0 0, .slice none 0 0] 35 (0, 0))
  have hsz : ((w.alloc (.cells #[.int .i64 a, .int .i64 b, .int .i64 c, .slice q ps.length cap] 30 (0, 0))).alloc (.cells #[.string ⟨#[]⟩, .int .i64 0, .int .i64 0, .int .i64 0, .slice none 0 0, .slice none 0 0] 35 (0, 0))).heap.size = w.heap.size + 2 := by simp
  have EZ0 : ∀ w1 : World, Below w.heap.size w w1 → True := fun _ _ => True.intro
  cases hgd : firstK xs KD with
  | none =>
    have HC' : ∀ w1, Below w.heap.size w w1 → Calls Tryz.prog 72 #[.agg #[.string ⟨#[]⟩, .int .i64 0, .int .i64 0, .int .i64 0, .slice none 0 0, .slice none 0 0]] w1 fun e w' => ∃ cs', e = .returned (.agg cs'.toArray) ∧ shEntryO.lies (Ow w1.heap.size w'.heap.size) w' cs' zeroD ∧ Below w1.heap.size w1 w' := fun w1 h => copyEntry_c S zeroD _ w1 (zero_lies S w1) (hBn w1 h) (by decide)
    show Calls _ _ _ _ fun e w' => ∃ cs, e = .returned (.tuple #[.agg cs.toArray, .bool false]) ∧ shEntryO.lies (Ow w.heap.size w'.heap.size) w' cs zeroD ∧ Below w.heap.size w w'
    obtain ⟨DD, hDD⟩ : ∃ D, D = zeroD := ⟨_, rfl⟩
    have HMM : ∀ w1, Below w.heap.size w w1 → Calls Tryz.prog 80 #[.slice qv xs.length cv] w1 fun e w' => ∃ mb, e = .returned (.map (some mb)) ∧ MapL w' mb KD (.tuple #[.agg #[.string ⟨#[]⟩, .int .i64 0, .int .i64 0, .int .i64 0, .slice none 0 0, .slice none 0 0], .bool false]) ∧ Below w1.heap.size w1 w' := fun w1 h => (HM' w1 h).mono fun e w' ⟨vs, h1, h2, h3, h4⟩ => ⟨_, h1, ⟨_, _, h3, by show Value.tuple #[_, _] = _; rw [hgd]; rfl⟩, h4⟩
    rw [← hDD] at HC'
    rw [← hDD]
    clear hDD HM'
    go_enter Tryz.func16, Tryz.ntmps16
    go_wp2_with fail
    obtain ⟨wz, hW⟩ : ∃ wz, wz = (w.alloc (.cells #[.int .i64 a, .int .i64 b, .int .i64 c, .slice q ps.length cap] 30 (0, 0))).alloc (.cells #[.string ⟨#[]⟩, .int .i64 0, .int .i64 0, .int .i64 0, .slice none 0 0, .slice none 0 0] 35 (0, 0)) := ⟨_, rfl⟩
    rw [← hW] at hAz hRz hwz hsz
    rw [← hW]
    clear hW
    have HK : Hid (∀ w1, Below wz.heap.size wz w1 → Calls Tryz.prog 81 #[.string n, .agg #[.int .i64 a, .int .i64 b, .int .i64 c, .slice q ps.length cap]] w1 fun e w' => e = .returned (.agg #[.string n, .int .i64 a, .int .i64 b, .int .i64 c, .string P]) ∧ Below w1.heap.size w1 w') := fun w1 h => HK' w1 (hwz.trans (h.mono (by omega)))
    have h0 : Below wz.heap.size wz wz.drew := (Below.refl _ _).drew
    have KEEP : Hid (∀ w1, Below wz.heap.size wz w1 → w1.cell? ⟨w.heap.size, 0, none⟩ = some (.int .i64 a) ∧ w1.cell? ⟨w.heap.size, 1, none⟩ = some (.int .i64 b) ∧ w1.cell? ⟨w.heap.size, 2, none⟩ = some (.int .i64 c) ∧ w1.cell? ⟨w.heap.size, 3, none⟩ = some (.slice q ps.length cap)) := fun w1 h => by
      have hA := (h.block w.heap.size (by omega)).trans hAz
      exact ⟨vblk_cell hA 0, vblk_cell hA 1, vblk_cell hA 2, vblk_cell hA 3⟩
    have HM := hidden (fun w1 (h : Below wz.heap.size wz w1) => HMM w1 (hwz.trans (h.mono (by omega))))
    have HC := hidden (fun w1 (h : Below wz.heap.size wz w1) => HC' w1 (hwz.trans (h.mono (by omega))))
    have LOOK : Hid (∀ w1 mb, MapL w1 mb KD (.tuple #[.agg #[.string ⟨#[]⟩, .int .i64 0, .int .i64 0, .int .i64 0, .slice none 0 0, .slice none 0 0], .bool false]) → (Instr.lookup 110 (.map (some mb)) (.agg #[.string n, .int .i64 a, .int .i64 b, .int .i64 c, .string P]) true).run Tryz.prog w1 = .ok (.tuple #[.agg #[.string ⟨#[]⟩, .int .i64 0, .int .i64 0, .int .i64 0, .slice none 0 0, .slice none 0 0], .bool false]) w1) := fun w1 mb h => by rw [← hKV]; exact h.look hok
    clear HK' HMM HC' hgd hok hKV
    refine wp_region_held_drew (S := (fun w1 => w1.cell? ⟨w.heap.size, 0, none⟩ = some (.int .i64 a) ∧ w1.cell? ⟨w.heap.size, 1, none⟩ = some (.int .i64 b) ∧ w1.cell? ⟨w.heap.size, 2, none⟩ = some (.int .i64 c) ∧ w1.cell? ⟨w.heap.size, 3, none⟩ = some (.slice q ps.length cap))) (by kernel_rfl) ?S1 (fun hHeld => ?_)
    case S1 => (exact KEEP.out _ h0)
    refine wpAnyH_take (i := 0) (oi := _) (v := ?vT2) rfl (by kernel_rfl) (by kernel_rfl) (by kernel_rfl) (fun _ _ _ h => h) (Or.inl ⟨by rfl, ?yT2⟩) hHeld ?_
    case yT2 => (intro w hSw; (try dsimp only at hSw); go_simp <;> with_reducible rfl)
    try simp only [Act.put, List.getElem_toArray, List.getElem_cons_zero, List.getElem_cons_succ, List.setIfInBounds_toArray, List.set_cons_zero, List.set_cons_succ]
    refine wpAnyH_take (i := 2) (oi := _) (v := ?vT3) rfl (by kernel_rfl) (by kernel_rfl) (by kernel_rfl) (fun _ _ _ h => h) (Or.inl ⟨by rfl, ?yT3⟩) hHeld ?_
    case yT3 => (intro w hSw; (try dsimp only at hSw); go_simp <;> with_reducible rfl)
    try simp only [Act.put, List.getElem_toArray, List.getElem_cons_zero, List.getElem_cons_succ, List.setIfInBounds_toArray, List.set_cons_zero, List.set_cons_succ]
    refine wpAnyH_take (i := 3) (oi := _) (v := ?vT4) rfl (by kernel_rfl) (by kernel_rfl) (by kernel_rfl) (fun _ _ _ h => h) (Or.inl ⟨by rfl, ?yT4⟩) hHeld ?_
    case yT4 => (intro w hSw; (try dsimp only at hSw); go_simp <;> with_reducible rfl)
    try simp only [Act.put, List.getElem_toArray, List.getElem_cons_zero, List.getElem_cons_succ, List.setIfInBounds_toArray, List.set_cons_zero, List.set_cons_succ]
    obtain ⟨wd, hwd⟩ : ∃ wd, wd = wz.drew := ⟨_, rfl⟩
    rw [← hwd] at h0
    rw [← hwd]
    clear hwd
    refine wpAnyH_ready (rs := [1, 9]) (by kernel_rfl) (by simp) ?_
    refine AllReadyH.cons rfl (fun K hK => ?_) (AllReadyH.cons rfl (fun K hK => ?_) AllReadyH.nil)
    · go_simp
      go_wp2_with (go_at_call 80; refine (HM.out _ h0).mono ?_; rintro e wm1 ⟨mb, rfl, hmap, bm1⟩)
      have h1 : Below wz.heap.size wz wm1 := (h0).trans (bm1.mono (h0).size)
      clear hHeld
      refine hK.out _ _ ?G5 (fun hHeld => ?_)
      case G5 => ((try dsimp only); exact KEEP.out _ h1)
      clear hK K
      try simp only [Act.put, List.getElem_toArray, List.getElem_cons_zero, List.getElem_cons_succ, List.setIfInBounds_toArray, List.set_cons_zero, List.set_cons_succ]
      refine wpAnyH_ready (rs := [4, 9]) (by kernel_rfl) (by simp) ?_
      refine AllReadyH.cons rfl (fun K hK => ?_) (AllReadyH.cons rfl (fun K hK => ?_) AllReadyH.nil)
      · go_simp
        go_wp2_with (go_at_call 81; refine (HK.out _ h1).mono ?_; rintro e wk2 ⟨rfl, bk2⟩)
        have h2 : Below wz.heap.size wz wk2 := (h1).trans (bk2.mono (h1).size)
        have hmap := hmap.below bk2
        clear hHeld
        refine hK.out _ _ ?G6 (fun hHeld => ?_)
        case G6 => ((try dsimp only); exact KEEP.out _ h2)
        clear hK K
        try simp only [Act.put, List.getElem_toArray, List.getElem_cons_zero, List.getElem_cons_succ, List.setIfInBounds_toArray, List.set_cons_zero, List.set_cons_succ]
        refine wpAnyH_ready (rs := [5, 9]) (by kernel_rfl) (by simp) ?_
        refine AllReadyH.cons rfl (fun K hK => ?_) (AllReadyH.cons rfl (fun K hK => ?_) AllReadyH.nil)
        · have hrun := LOOK.out _ mb hmap
          go_simp
          clear hHeld
          refine hK.out _ _ ?G7 (fun hHeld => ?_)
          case G7 => ((try dsimp only); exact KEEP.out _ h2)
          clear hK K
          try simp only [Act.put, List.getElem_toArray, List.getElem_cons_zero, List.getElem_cons_succ, List.setIfInBounds_toArray, List.set_cons_zero, List.set_cons_succ]
          clear hrun
          refine wpAnyH_take (i := 6) (oi := _) (v := ?vT8) rfl (by kernel_rfl) (by kernel_rfl) (by kernel_rfl) (fun _ _ _ h => h) (Or.inl ⟨by rfl, ?yT8⟩) hHeld ?_
          case yT8 => (intro w hSw; (try dsimp only at hSw); go_simp <;> with_reducible rfl)
          try simp only [Act.put, List.getElem_toArray, List.getElem_cons_zero, List.getElem_cons_succ, List.setIfInBounds_toArray, List.set_cons_zero, List.set_cons_succ]
          refine wpAnyH_take (i := 7) (oi := _) (v := ?vT9) rfl (by kernel_rfl) (by kernel_rfl) (by kernel_rfl) (fun _ _ _ h => h) (Or.inl ⟨by rfl, ?yT9⟩) hHeld ?_
          case yT9 => (intro w hSw; (try dsimp only at hSw); go_simp <;> with_reducible rfl)
          try simp only [Act.put, List.getElem_toArray, List.getElem_cons_zero, List.getElem_cons_succ, List.setIfInBounds_toArray, List.set_cons_zero, List.set_cons_succ]
          refine wpAnyH_take (i := 8) (oi := _) (v := ?vT10) rfl (by kernel_rfl) (by kernel_rfl) (by kernel_rfl) (fun _ _ _ h => h) (Or.inl ⟨by rfl, ?yT10⟩) hHeld ?_
          case yT10 => (intro w hSw; (try dsimp only at hSw); go_simp <;> with_reducible rfl)
          try simp only [Act.put, List.getElem_toArray, List.getElem_cons_zero, List.getElem_cons_succ, List.setIfInBounds_toArray, List.set_cons_zero, List.set_cons_succ]
          refine wpAnyH_ready (rs := [9]) (by kernel_rfl) (by simp) ?_
          refine AllReadyH.cons rfl (fun K hK => ?_) AllReadyH.nil
          go_simp
          have kz4 : Below (wk2).heap.size (wk2) ((wk2).alloc (.cells #[.string ⟨#[]⟩, .int .i64 0, .int .i64 0, .int .i64 0, .slice none 0 0, .slice none 0 0] 35 (0, 0))) := (Below.refl _ _).alloc (Nat.le_refl _) _
          have h4 : Below wz.heap.size wz ((wk2).alloc (.cells #[.string ⟨#[]⟩, .int .i64 0, .int .i64 0, .int .i64 0, .slice none 0 0, .slice none 0 0] 35 (0, 0))) := (h2).trans (kz4.mono (h2).size)
          have hg8 : ((wk2).alloc (.cells #[.string ⟨#[]⟩, .int .i64 0, .int .i64 0, .int .i64 0, .slice none 0 0, .slice none 0 0] 35 (0, 0))).heap[(wk2).heap.size]? = some (.cells #[.string ⟨#[]⟩, .int .i64 0, .int .i64 0, .int .i64 0, .slice none 0 0, .slice none 0 0] 35 (0, 0)) := vheap_new _ _
          have h8 : wz.heap.size ≤ (wk2).heap.size := (h2).size
          have hmap := hmap.below kz4
          clear hHeld
          refine hK.out _ ((wk2).alloc (.cells #[.string ⟨#[]⟩, .int .i64 0, .int .i64 0, .int .i64 0, .slice none 0 0, .slice none 0 0] 35 (0, 0))) ?G94 (fun hHeld => ?_)
          case G94 => (exact KEEP.out _ h4)
          clear hK K
          try simp only [Act.put, List.getElem_toArray, List.getElem_cons_zero, List.getElem_cons_succ, List.setIfInBounds_toArray, List.set_cons_zero, List.set_cons_succ]
          obtain ⟨g8, hge⟩ : ∃ g, g = (wk2).heap.size := ⟨_, rfl⟩
          rw [← hge] at hg8 h8
          try rw [← hge]
          obtain ⟨wa4, hwa⟩ : ∃ wa, wa = (wk2).alloc (.cells #[.string ⟨#[]⟩, .int .i64 0, .int .i64 0, .int .i64 0, .slice none 0 0, .slice none 0 0] 35 (0, 0)) := ⟨_, rfl⟩
          rw [← hwa] at hg8 h4 hmap
          try rw [← hwa]
          clear hge hwa kz4
          have hX := h4
          have fy := vblk_frozen hg8
          have y0 := vblk_cell hg8 0
          have y1 := vblk_cell hg8 1
          have y2 := vblk_cell hg8 2
          have y3 := vblk_cell hg8 3
          have y4 := vblk_cell hg8 4
          have y5 := vblk_cell hg8 5
          simp only [List.getElem?_toArray, List.getElem?_cons_succ, List.getElem?_cons_zero] at y0 y1 y2 y3 y4 y5
          refine wpAnyH_ready (rs := [10]) (by kernel_rfl) (by simp) ?_
          refine AllReadyH.cons rfl (fun K hK => ?_) AllReadyH.nil
          go_simp
          clear hHeld
          refine hK.out _ _ ?U11 (fun hHeld => ?_)
          case U11 => (have hA3 := (hX.block w.heap.size (by omega)).trans hAz; exact ⟨vblk_cell (cells_put (cells_put (cells_put (cells_put (cells_put (cells_put hA3 (by omega) _ _) (by omega) _ _) (by omega) _ _) (by omega) _ _) (by omega) _ _) (by omega) _ _) 0, vblk_cell (cells_put (cells_put (cells_put (cells_put (cells_put (cells_put hA3 (by omega) _ _) (by omega) _ _) (by omega) _ _) (by omega) _ _) (by omega) _ _) (by omega) _ _) 1, vblk_cell (cells_put (cells_put (cells_put (cells_put (cells_put (cells_put hA3 (by omega) _ _) (by omega) _ _) (by omega) _ _) (by omega) _ _) (by omega) _ _) (by omega) _ _) 2, vblk_cell (cells_put (cells_put (cells_put (cells_put (cells_put (cells_put hA3 (by omega) _ _) (by omega) _ _) (by omega) _ _) (by omega) _ _) (by omega) _ _) (by omega) _ _) 3⟩)
          clear hK K
          try simp only [Act.put, List.getElem_toArray, List.getElem_cons_zero, List.getElem_cons_succ, List.setIfInBounds_toArray, List.set_cons_zero, List.set_cons_succ]
          refine wpAnyH_take (i := 11) (oi := _) (v := ?vT12) rfl (by kernel_rfl) (by kernel_rfl) (by kernel_rfl) (fun _ _ _ h => h) (Or.inl ⟨by rfl, ?yT12⟩) hHeld ?_
          case yT12 => (intro w hSw; (try dsimp only at hSw); go_simp <;> with_reducible rfl)
          try simp only [Act.put, List.getElem_toArray, List.getElem_cons_zero, List.getElem_cons_succ, List.setIfInBounds_toArray, List.set_cons_zero, List.set_cons_succ]
          refine wpAnyH_done (by kernel_rfl) ?_ _
          clear hHeld
          obtain ⟨wY, hWY⟩ : ∃ wY, wY = ((((((wa4.setCell ⟨g8, 0, none⟩ (.string ⟨#[]⟩)).setCell ⟨g8, 1, none⟩ (.int .i64 0)).setCell ⟨g8, 2, none⟩ (.int .i64 0)).setCell ⟨g8, 3, none⟩ (.int .i64 0)).setCell ⟨g8, 4, none⟩ (.slice none 0 0)).setCell ⟨g8, 5, none⟩ (.slice none 0 0)) := ⟨_, rfl⟩
          rw [← hWY]
          have hY : Below wz.heap.size wz wY := by rw [hWY]; (repeat (refine Below.setCell ?_ (by simp; omega) _)); exact hX
          have hb8 : wY.heap[g8]? = some (.cells #[.string ⟨#[]⟩, .int .i64 0, .int .i64 0, .int .i64 0, .slice none 0 0, .slice none 0 0] 35 (0, 0)) := by
            rw [hWY]
            have h6 := heap_setCell_same _ g8 5 _ _ (.slice none 0 0) (heap_setCell_same _ g8 4 _ _ (.slice none 0 0) (heap_setCell_same _ g8 3 _ _ (.int .i64 0) (heap_setCell_same _ g8 2 _ _ (.int .i64 0) (heap_setCell_same _ g8 1 _ _ (.int .i64 0) (heap_setCell_same _ g8 0 _ _ (.string ⟨#[]⟩) hg8)))))
            simpa only [List.setIfInBounds_toArray, List.set_cons_succ, List.set_cons_zero] using h6
          clear hWY y0 y1 y2 y3 y4 y5 fy hg8 hX
          have z0 := vblk_cell hb8 0
          have z1 := vblk_cell hb8 1
          have z2 := vblk_cell hb8 2
          have z3 := vblk_cell hb8 3
          have z4 := vblk_cell hb8 4
          have z5 := vblk_cell hb8 5
          simp only [List.getElem?_toArray, List.getElem?_cons_succ, List.getElem?_cons_zero] at z0 z1 z2 z3 z4 z5
          go_wp2_with fail
          go_at_call 72
          refine (HC.out _ hY).mono ?_
          rintro e wC ⟨cs9, rfl, hl9, bC⟩
          have hRC := (bC.block (w.heap.size + 1) (by have := hY.size; omega)).trans ((hY.block (w.heap.size + 1) (by omega)).trans hRz)
          have kC : Below wz.heap.size wz wC := hY.trans (bC.mono hY.size)
          have sC := hY.size
          have HO : Hid (∀ W : World, W.heap.size = wC.heap.size → Kp (fun b => b ≠ w.heap.size + 1) wC W → shEntryO.lies (Ow w.heap.size W.heap.size) W cs9 DD) := fun W hs hk => shEntryO.mono (Ow.mono (by omega) (by omega)) (shEntryO.keep (S := Ow wY.heap.size wC.heap.size) (fun b hb => hk b (by have := hb.1; show b ≠ _; omega)) hl9)
          obtain ⟨v0, v1, rfl, _, q0, _, q1⟩ := id hl9
          obtain ⟨f0, m0, ef0⟩ := q0.slice
          subst ef0
          obtain ⟨f1, m1, ef1⟩ := q1.slice
          subst ef1
          have fr := vblk_frozen hRC
          have r0 := vblk_cell hRC 0
          have r1 := vblk_cell hRC 1
          have r2 := vblk_cell hRC 2
          have r3 := vblk_cell hRC 3
          have r4 := vblk_cell hRC 4
          have r5 := vblk_cell hRC 5
          simp only [List.getElem?_toArray, List.getElem?_cons_succ, List.getElem?_cons_zero] at r0 r1 r2 r3 r4 r5
          clear hl9 q0 q1 z0 z1 z2 z3 z4 z5 hb8 HC hAz hRz hRC
          go_wp2_with fail
          refine bodyPost_ret (v := .tuple #[.agg #[.string DD.name, .int .i64 DD.vA, .int .i64 DD.vB, .int .i64 DD.vC, .slice f0 DD.vP.length m0, .slice f1 DD.needs.length m1], .bool false]) (by simp [results, Tryz.results16, go_sem, r0, r1, r2, r3, r4, r5]) rfl ⟨_, rfl, HO.out _ (by simp [World.setCell]) ?_, ?_⟩
          · (repeat (refine Kp.trans ?_ (Kp.set (by simp))))
            exact fun b hb => rfl
          · (repeat (refine Below.setCell ?_ (by simp) _))
            exact hwz.trans (kC.mono (by omega))
        · go_simp
          have kz5 : Below (wk2).heap.size (wk2) ((wk2).alloc (.cells #[.string ⟨#[]⟩, .int .i64 0, .int .i64 0, .int .i64 0, .slice none 0 0, .slice none 0 0] 35 (0, 0))) := (Below.refl _ _).alloc (Nat.le_refl _) _
          have h5 : Below wz.heap.size wz ((wk2).alloc (.cells #[.string ⟨#[]⟩, .int .i64 0, .int .i64 0, .int .i64 0, .slice none 0 0, .slice none 0 0] 35 (0, 0))) := (h2).trans (kz5.mono (h2).size)
          have hg8 : ((wk2).alloc (.cells #[.string ⟨#[]⟩, .int .i64 0, .int .i64 0, .int .i64 0, .slice none 0 0, .slice none 0 0] 35 (0, 0))).heap[(wk2).heap.size]? = some (.cells #[.string ⟨#[]⟩, .int .i64 0, .int .i64 0, .int .i64 0, .slice none 0 0, .slice none 0 0] 35 (0, 0)) := vheap_new _ _
          have h8 : wz.heap.size ≤ (wk2).heap.size := (h2).size
          have hmap := hmap.below kz5
          clear hHeld
          refine hK.out _ ((wk2).alloc (.cells #[.string ⟨#[]⟩, .int .i64 0, .int .i64 0, .int .i64 0, .slice none 0 0, .slice none 0 0] 35 (0, 0))) ?G95 (fun hHeld => ?_)
          case G95 => (exact KEEP.out _ h5)
          clear hK K
          try simp only [Act.put, List.getElem_toArray, List.getElem_cons_zero, List.getElem_cons_succ, List.setIfInBounds_toArray, List.set_cons_zero, List.set_cons_succ]
          obtain ⟨g8, hge⟩ : ∃ g, g = (wk2).heap.size := ⟨_, rfl⟩
          rw [← hge] at hg8 h8
          try rw [← hge]
          obtain ⟨wa5, hwa⟩ : ∃ wa, wa = (wk2).alloc (.cells #[.string ⟨#[]⟩, .int .i64 0, .int .i64 0, .int .i64 0, .slice none 0 0, .slice none 0 0] 35 (0, 0)) := ⟨_, rfl⟩
          rw [← hwa] at hg8 h5 hmap
          try rw [← hwa]
          clear hge hwa kz5
          refine wpAnyH_ready (rs := [5]) (by kernel_rfl) (by simp) ?_
          refine AllReadyH.cons rfl (fun K hK => ?_) AllReadyH.nil
          have hrun := LOOK.out _ mb hmap
          go_simp
          clear hHeld
          refine hK.out _ _ ?G13 (fun hHeld => ?_)
          case G13 => ((try dsimp only); exact KEEP.out _ h5)
          clear hK K
          try simp only [Act.put, List.getElem_toArray, List.getElem_cons_zero, List.getElem_cons_succ, List.setIfInBounds_toArray, List.set_cons_zero, List.set_cons_succ]
          clear hrun
          refine wpAnyH_take (i := 6) (oi := _) (v := ?vT14) rfl (by kernel_rfl) (by kernel_rfl) (by kernel_rfl) (fun _ _ _ h => h) (Or.inl ⟨by rfl, ?yT14⟩) hHeld ?_
          case yT14 => (intro w hSw; (try dsimp only at hSw); go_simp <;> with_reducible rfl)
          try simp only [Act.put, List.getElem_toArray, List.getElem_cons_zero, List.getElem_cons_succ, List.setIfInBounds_toArray, List.set_cons_zero, List.set_cons_succ]
          refine wpAnyH_take (i := 7) (oi := _) (v := ?vT15) rfl (by kernel_rfl) (by kernel_rfl) (by kernel_rfl) (fun _ _ _ h => h) (Or.inl ⟨by rfl, ?yT15⟩) hHeld ?_
          case yT15 => (intro w hSw; (try dsimp only at hSw); go_simp <;> with_reducible rfl)
          try simp only [Act.put, List.getElem_toArray, List.getElem_cons_zero, List.getElem_cons_succ, List.setIfInBounds_toArray, List.set_cons_zero, List.set_cons_succ]
          refine wpAnyH_take (i := 8) (oi := _) (v := ?vT16) rfl (by kernel_rfl) (by kernel_rfl) (by kernel_rfl) (fun _ _ _ h => h) (Or.inl ⟨by rfl, ?yT16⟩) hHeld ?_
          case yT16 => (intro w hSw; (try dsimp only at hSw); go_simp <;> with_reducible rfl)
          try simp only [Act.put, List.getElem_toArray, List.getElem_cons_zero, List.getElem_cons_succ, List.setIfInBounds_toArray, List.set_cons_zero, List.set_cons_succ]
          have hX := h5
          have fy := vblk_frozen hg8
          have y0 := vblk_cell hg8 0
          have y1 := vblk_cell hg8 1
          have y2 := vblk_cell hg8 2
          have y3 := vblk_cell hg8 3
          have y4 := vblk_cell hg8 4
          have y5 := vblk_cell hg8 5
          simp only [List.getElem?_toArray, List.getElem?_cons_succ, List.getElem?_cons_zero] at y0 y1 y2 y3 y4 y5
          refine wpAnyH_ready (rs := [10]) (by kernel_rfl) (by simp) ?_
          refine AllReadyH.cons rfl (fun K hK => ?_) AllReadyH.nil
          go_simp
          clear hHeld
          refine hK.out _ _ ?U17 (fun hHeld => ?_)
          case U17 => (have hA3 := (hX.block w.heap.size (by omega)).trans hAz; exact ⟨vblk_cell (cells_put (cells_put (cells_put (cells_put (cells_put (cells_put hA3 (by omega) _ _) (by omega) _ _) (by omega) _ _) (by omega) _ _) (by omega) _ _) (by omega) _ _) 0, vblk_cell (cells_put (cells_put (cells_put (cells_put (cells_put (cells_put hA3 (by omega) _ _) (by omega) _ _) (by omega) _ _) (by omega) _ _) (by omega) _ _) (by omega) _ _) 1, vblk_cell (cells_put (cells_put (cells_put (cells_put (cells_put (cells_put hA3 (by omega) _ _) (by omega) _ _) (by omega) _ _) (by omega) _ _) (by omega) _ _) (by omega) _ _) 2, vblk_cell (cells_put (cells_put (cells_put (cells_put (cells_put (cells_put hA3 (by omega) _ _) (by omega) _ _) (by omega) _ _) (by omega) _ _) (by omega) _ _) (by omega) _ _) 3⟩)
          clear hK K
          try simp only [Act.put, List.getElem_toArray, List.getElem_cons_zero, List.getElem_cons_succ, List.setIfInBounds_toArray, List.set_cons_zero, List.set_cons_succ]
          refine wpAnyH_take (i := 11) (oi := _) (v := ?vT18) rfl (by kernel_rfl) (by kernel_rfl) (by kernel_rfl) (fun _ _ _ h => h) (Or.inl ⟨by rfl, ?yT18⟩) hHeld ?_
          case yT18 => (intro w hSw; (try dsimp only at hSw); go_simp <;> with_reducible rfl)
          try simp only [Act.put, List.getElem_toArray, List.getElem_cons_zero, List.getElem_cons_succ, List.setIfInBounds_toArray, List.set_cons_zero, List.set_cons_succ]
          refine wpAnyH_done (by kernel_rfl) ?_ _
          clear hHeld
          obtain ⟨wY, hWY⟩ : ∃ wY, wY = ((((((wa5.setCell ⟨g8, 0, none⟩ (.string ⟨#[]⟩)).setCell ⟨g8, 1, none⟩ (.int .i64 0)).setCell ⟨g8, 2, none⟩ (.int .i64 0)).setCell ⟨g8, 3, none⟩ (.int .i64 0)).setCell ⟨g8, 4, none⟩ (.slice none 0 0)).setCell ⟨g8, 5, none⟩ (.slice none 0 0)) := ⟨_, rfl⟩
          rw [← hWY]
          have hY : Below wz.heap.size wz wY := by rw [hWY]; (repeat (refine Below.setCell ?_ (by simp; omega) _)); exact hX
          have hb8 : wY.heap[g8]? = some (.cells #[.string ⟨#[]⟩, .int .i64 0, .int .i64 0, .int .i64 0, .slice none 0 0, .slice none 0 0] 35 (0, 0)) := by
            rw [hWY]
            have h6 := heap_setCell_same _ g8 5 _ _ (.slice none 0 0) (heap_setCell_same _ g8 4 _ _ (.slice none 0 0) (heap_setCell_same _ g8 3 _ _ (.int .i64 0) (heap_setCell_same _ g8 2 _ _ (.int .i64 0) (heap_setCell_same _ g8 1 _ _ (.int .i64 0) (heap_setCell_same _ g8 0 _ _ (.string ⟨#[]⟩) hg8)))))
            simpa only [List.setIfInBounds_toArray, List.set_cons_succ, List.set_cons_zero] using h6
          clear hWY y0 y1 y2 y3 y4 y5 fy hg8 hX
          have z0 := vblk_cell hb8 0
          have z1 := vblk_cell hb8 1
          have z2 := vblk_cell hb8 2
          have z3 := vblk_cell hb8 3
          have z4 := vblk_cell hb8 4
          have z5 := vblk_cell hb8 5
          simp only [List.getElem?_toArray, List.getElem?_cons_succ, List.getElem?_cons_zero] at z0 z1 z2 z3 z4 z5
          go_wp2_with fail
          go_at_call 72
          refine (HC.out _ hY).mono ?_
          rintro e wC ⟨cs9, rfl, hl9, bC⟩
          have hRC := (bC.block (w.heap.size + 1) (by have := hY.size; omega)).trans ((hY.block (w.heap.size + 1) (by omega)).trans hRz)
          have kC : Below wz.heap.size wz wC := hY.trans (bC.mono hY.size)
          have sC := hY.size
          have HO : Hid (∀ W : World, W.heap.size = wC.heap.size → Kp (fun b => b ≠ w.heap.size + 1) wC W → shEntryO.lies (Ow w.heap.size W.heap.size) W cs9 DD) := fun W hs hk => shEntryO.mono (Ow.mono (by omega) (by omega)) (shEntryO.keep (S := Ow wY.heap.size wC.heap.size) (fun b hb => hk b (by have := hb.1; show b ≠ _; omega)) hl9)
          obtain ⟨v0, v1, rfl, _, q0, _, q1⟩ := id hl9
          obtain ⟨f0, m0, ef0⟩ := q0.slice
          subst ef0
          obtain ⟨f1, m1, ef1⟩ := q1.slice
          subst ef1
          have fr := vblk_frozen hRC
          have r0 := vblk_cell hRC 0
          have r1 := vblk_cell hRC 1
          have r2 := vblk_cell hRC 2
          have r3 := vblk_cell hRC 3
          have r4 := vblk_cell hRC 4
          have r5 := vblk_cell hRC 5
          simp only [List.getElem?_toArray, List.getElem?_cons_succ, List.getElem?_cons_zero] at r0 r1 r2 r3 r4 r5
          clear hl9 q0 q1 z0 z1 z2 z3 z4 z5 hb8 HC hAz hRz hRC
          go_wp2_with fail
          refine bodyPost_ret (v := .tuple #[.agg #[.string DD.name, .int .i64 DD.vA, .int .i64 DD.vB, .int .i64 DD.vC, .slice f0 DD.vP.length m0, .slice f1 DD.needs.length m1], .bool false]) (by simp [results, Tryz.results16, go_sem, r0, r1, r2, r3, r4, r5]) rfl ⟨_, rfl, HO.out _ (by simp [World.setCell]) ?_, ?_⟩
          · (repeat (refine Kp.trans ?_ (Kp.set (by simp))))
            exact fun b hb => rfl
          · (repeat (refine Below.setCell ?_ (by simp) _))
            exact hwz.trans (kC.mono (by omega))
      · go_simp
        have kz7 : Below (wm1).heap.size (wm1) ((wm1).alloc (.cells #[.string ⟨#[]⟩, .int .i64 0, .int .i64 0, .int .i64 0, .slice none 0 0, .slice none 0 0] 35 (0, 0))) := (Below.refl _ _).alloc (Nat.le_refl _) _
        have h7 : Below wz.heap.size wz ((wm1).alloc (.cells #[.string ⟨#[]⟩, .int .i64 0, .int .i64 0, .int .i64 0, .slice none 0 0, .slice none 0 0] 35 (0, 0))) := (h1).trans (kz7.mono (h1).size)
        have hg8 : ((wm1).alloc (.cells #[.string ⟨#[]⟩, .int .i64 0, .int .i64 0, .int .i64 0, .slice none 0 0, .slice none 0 0] 35 (0, 0))).heap[(wm1).heap.size]? = some (.cells #[.string ⟨#[]⟩, .int .i64 0, .int .i64 0, .int .i64 0, .slice none 0 0, .slice none 0 0] 35 (0, 0)) := vheap_new _ _
        have h8 : wz.heap.size ≤ (wm1).heap.size := (h1).size
        have hmap := hmap.below kz7
        clear hHeld
        refine hK.out _ ((wm1).alloc (.cells #[.string ⟨#[]⟩, .int .i64 0, .int .i64 0, .int .i64 0, .slice none 0 0, .slice none 0 0] 35 (0, 0))) ?G97 (fun hHeld => ?_)
        case G97 => (exact KEEP.out _ h7)
        clear hK K
        try simp only [Act.put, List.getElem_toArray, List.getElem_cons_zero, List.getElem_cons_succ, List.setIfInBounds_toArray, List.set_cons_zero, List.set_cons_succ]
        obtain ⟨g8, hge⟩ : ∃ g, g = (wm1).heap.size := ⟨_, rfl⟩
        rw [← hge] at hg8 h8
        try rw [← hge]
        obtain ⟨wa7, hwa⟩ : ∃ wa, wa = (wm1).alloc (.cells #[.string ⟨#[]⟩, .int .i64 0, .int .i64 0, .int .i64 0, .slice none 0 0, .slice none 0 0] 35 (0, 0)) := ⟨_, rfl⟩
        rw [← hwa] at hg8 h7 hmap
        try rw [← hwa]
        clear hge hwa kz7
        refine wpAnyH_ready (rs := [4]) (by kernel_rfl) (by simp) ?_
        refine AllReadyH.cons rfl (fun K hK => ?_) AllReadyH.nil
        go_simp
        go_wp2_with (go_at_call 81; refine (HK.out _ h7).mono ?_; rintro e wk8 ⟨rfl, bk8⟩)
        have h8 : Below wz.heap.size wz wk8 := (h7).trans (bk8.mono (h7).size)
        have hmap := hmap.below bk8
        have hg8 := box_below hg8 bk8
        clear hHeld
        refine hK.out _ _ ?G19 (fun hHeld => ?_)
        case G19 => ((try dsimp only); exact KEEP.out _ h8)
        clear hK K
        try simp only [Act.put, List.getElem_toArray, List.getElem_cons_zero, List.getElem_cons_succ, List.setIfInBounds_toArray, List.set_cons_zero, List.set_cons_succ]
        refine wpAnyH_ready (rs := [5]) (by kernel_rfl) (by simp) ?_
        refine AllReadyH.cons rfl (fun K hK => ?_) AllReadyH.nil
        have hrun := LOOK.out _ mb hmap
        go_simp
        clear hHeld
        refine hK.out _ _ ?G20 (fun hHeld => ?_)
        case G20 => ((try dsimp only); exact KEEP.out _ h8)
        clear hK K
        try simp only [Act.put, List.getElem_toArray, List.getElem_cons_zero, List.getElem_cons_succ, List.setIfInBounds_toArray, List.set_cons_zero, List.set_cons_succ]
        clear hrun
        refine wpAnyH_take (i := 6) (oi := _) (v := ?vT21) rfl (by kernel_rfl) (by kernel_rfl) (by kernel_rfl) (fun _ _ _ h => h) (Or.inl ⟨by rfl, ?yT21⟩) hHeld ?_
        case yT21 => (intro w hSw; (try dsimp only at hSw); go_simp <;> with_reducible rfl)
        try simp only [Act.put, List.getElem_toArray, List.getElem_cons_zero, List.getElem_cons_succ, List.setIfInBounds_toArray, List.set_cons_zero, List.set_cons_succ]
        refine wpAnyH_take (i := 7) (oi := _) (v := ?vT22) rfl (by kernel_rfl) (by kernel_rfl) (by kernel_rfl) (fun _ _ _ h => h) (Or.inl ⟨by rfl, ?yT22⟩) hHeld ?_
        case yT22 => (intro w hSw; (try dsimp only at hSw); go_simp <;> with_reducible rfl)
        try simp only [Act.put, List.getElem_toArray, List.getElem_cons_zero, List.getElem_cons_succ, List.setIfInBounds_toArray, List.set_cons_zero, List.set_cons_succ]
        refine wpAnyH_take (i := 8) (oi := _) (v := ?vT23) rfl (by kernel_rfl) (by kernel_rfl) (by kernel_rfl) (fun _ _ _ h => h) (Or.inl ⟨by rfl, ?yT23⟩) hHeld ?_
        case yT23 => (intro w hSw; (try dsimp only at hSw); go_simp <;> with_reducible rfl)
        try simp only [Act.put, List.getElem_toArray, List.getElem_cons_zero, List.getElem_cons_succ, List.setIfInBounds_toArray, List.set_cons_zero, List.set_cons_succ]
        have hX := h8
        have fy := vblk_frozen hg8
        have y0 := vblk_cell hg8 0
        have y1 := vblk_cell hg8 1
        have y2 := vblk_cell hg8 2
        have y3 := vblk_cell hg8 3
        have y4 := vblk_cell hg8 4
        have y5 := vblk_cell hg8 5
        simp only [List.getElem?_toArray, List.getElem?_cons_succ, List.getElem?_cons_zero] at y0 y1 y2 y3 y4 y5
        refine wpAnyH_ready (rs := [10]) (by kernel_rfl) (by simp) ?_
        refine AllReadyH.cons rfl (fun K hK => ?_) AllReadyH.nil
        go_simp
        clear hHeld
        refine hK.out _ _ ?U24 (fun hHeld => ?_)
        case U24 => (have hA3 := (hX.block w.heap.size (by omega)).trans hAz; exact ⟨vblk_cell (cells_put (cells_put (cells_put (cells_put (cells_put (cells_put hA3 (by omega) _ _) (by omega) _ _) (by omega) _ _) (by omega) _ _) (by omega) _ _) (by omega) _ _) 0, vblk_cell (cells_put (cells_put (cells_put (cells_put (cells_put (cells_put hA3 (by omega) _ _) (by omega) _ _) (by omega) _ _) (by omega) _ _) (by omega) _ _) (by omega) _ _) 1, vblk_cell (cells_put (cells_put (cells_put (cells_put (cells_put (cells_put hA3 (by omega) _ _) (by omega) _ _) (by omega) _ _) (by omega) _ _) (by omega) _ _) (by omega) _ _) 2, vblk_cell (cells_put (cells_put (cells_put (cells_put (cells_put (cells_put hA3 (by omega) _ _) (by omega) _ _) (by omega) _ _) (by omega) _ _) (by omega) _ _) (by omega) _ _) 3⟩)
        clear hK K
        try simp only [Act.put, List.getElem_toArray, List.getElem_cons_zero, List.getElem_cons_succ, List.setIfInBounds_toArray, List.set_cons_zero, List.set_cons_succ]
        refine wpAnyH_take (i := 11) (oi := _) (v := ?vT25) rfl (by kernel_rfl) (by kernel_rfl) (by kernel_rfl) (fun _ _ _ h => h) (Or.inl ⟨by rfl, ?yT25⟩) hHeld ?_
        case yT25 => (intro w hSw; (try dsimp only at hSw); go_simp <;> with_reducible rfl)
        try simp only [Act.put, List.getElem_toArray, List.getElem_cons_zero, List.getElem_cons_succ, List.setIfInBounds_toArray, List.set_cons_zero, List.set_cons_succ]
        refine wpAnyH_done (by kernel_rfl) ?_ _
        clear hHeld
        obtain ⟨wY, hWY⟩ : ∃ wY, wY = ((((((wk8.setCell ⟨g8, 0, none⟩ (.string ⟨#[]⟩)).setCell ⟨g8, 1, none⟩ (.int .i64 0)).setCell ⟨g8, 2, none⟩ (.int .i64 0)).setCell ⟨g8, 3, none⟩ (.int .i64 0)).setCell ⟨g8, 4, none⟩ (.slice none 0 0)).setCell ⟨g8, 5, none⟩ (.slice none 0 0)) := ⟨_, rfl⟩
        rw [← hWY]
        have hY : Below wz.heap.size wz wY := by rw [hWY]; (repeat (refine Below.setCell ?_ (by simp; omega) _)); exact hX
        have hb8 : wY.heap[g8]? = some (.cells #[.string ⟨#[]⟩, .int .i64 0, .int .i64 0, .int .i64 0, .slice none 0 0, .slice none 0 0] 35 (0, 0)) := by
          rw [hWY]
          have h6 := heap_setCell_same _ g8 5 _ _ (.slice none 0 0) (heap_setCell_same _ g8 4 _ _ (.slice none 0 0) (heap_setCell_same _ g8 3 _ _ (.int .i64 0) (heap_setCell_same _ g8 2 _ _ (.int .i64 0) (heap_setCell_same _ g8 1 _ _ (.int .i64 0) (heap_setCell_same _ g8 0 _ _ (.string ⟨#[]⟩) hg8)))))
          simpa only [List.setIfInBounds_toArray, List.set_cons_succ, List.set_cons_zero] using h6
        clear hWY y0 y1 y2 y3 y4 y5 fy hg8 hX
        have z0 := vblk_cell hb8 0
        have z1 := vblk_cell hb8 1
        have z2 := vblk_cell hb8 2
        have z3 := vblk_cell hb8 3
        have z4 := vblk_cell hb8 4
        have z5 := vblk_cell hb8 5
        simp only [List.getElem?_toArray, List.getElem?_cons_succ, List.getElem?_cons_zero] at z0 z1 z2 z3 z4 z5
        go_wp2_with fail
        go_at_call 72
        refine (HC.out _ hY).mono ?_
        rintro e wC ⟨cs9, rfl, hl9, bC⟩
        have hRC := (bC.block (w.heap.size + 1) (by have := hY.size; omega)).trans ((hY.block (w.heap.size + 1) (by omega)).trans hRz)
        have kC : Below wz.heap.size wz wC := hY.trans (bC.mono hY.size)
        have sC := hY.size
        have HO : Hid (∀ W : World, W.heap.size = wC.heap.size → Kp (fun b => b ≠ w.heap.size + 1) wC W → shEntryO.lies (Ow w.heap.size W.heap.size) W cs9 DD) := fun W hs hk => shEntryO.mono (Ow.mono (by omega) (by omega)) (shEntryO.keep (S := Ow wY.heap.size wC.heap.size) (fun b hb => hk b (by have := hb.1; show b ≠ _; omega)) hl9)
        obtain ⟨v0, v1, rfl, _, q0, _, q1⟩ := id hl9
        obtain ⟨f0, m0, ef0⟩ := q0.slice
        subst ef0
        obtain ⟨f1, m1, ef1⟩ := q1.slice
        subst ef1
        have fr := vblk_frozen hRC
        have r0 := vblk_cell hRC 0
        have r1 := vblk_cell hRC 1
        have r2 := vblk_cell hRC 2
        have r3 := vblk_cell hRC 3
        have r4 := vblk_cell hRC 4
        have r5 := vblk_cell hRC 5
        simp only [List.getElem?_toArray, List.getElem?_cons_succ, List.getElem?_cons_zero] at r0 r1 r2 r3 r4 r5
        clear hl9 q0 q1 z0 z1 z2 z3 z4 z5 hb8 HC hAz hRz hRC
        go_wp2_with fail
        refine bodyPost_ret (v := .tuple #[.agg #[.string DD.name, .int .i64 DD.vA, .int .i64 DD.vB, .int .i64 DD.vC, .slice f0 DD.vP.length m0, .slice f1 DD.needs.length m1], .bool false]) (by simp [results, Tryz.results16, go_sem, r0, r1, r2, r3, r4, r5]) rfl ⟨_, rfl, HO.out _ (by simp [World.setCell]) ?_, ?_⟩
        · (repeat (refine Kp.trans ?_ (Kp.set (by simp))))
          exact fun b hb => rfl
        · (repeat (refine Below.setCell ?_ (by simp) _))
          exact hwz.trans (kC.mono (by omega))
    · go_simp
      have kz10 : Below (wd).heap.size (wd) ((wd).alloc (.cells #[.string ⟨#[]⟩, .int .i64 0, .int .i64 0, .int .i64 0, .slice none 0 0, .slice none 0 0] 35 (0, 0))) := (Below.refl _ _).alloc (Nat.le_refl _) _
      have h10 : Below wz.heap.size wz ((wd).alloc (.cells #[.string ⟨#[]⟩, .int .i64 0, .int .i64 0, .int .i64 0, .slice none 0 0, .slice none 0 0] 35 (0, 0))) := (h0).trans (kz10.mono (h0).size)
      have hg8 : ((wd).alloc (.cells #[.string ⟨#[]⟩, .int .i64 0, .int .i64 0, .int .i64 0, .slice none 0 0, .slice none 0 0] 35 (0, 0))).heap[(wd).heap.size]? = some (.cells #[.string ⟨#[]⟩, .int .i64 0, .int .i64 0, .int .i64 0, .slice none 0 0, .slice none 0 0] 35 (0, 0)) := vheap_new _ _
      have h8 : wz.heap.size ≤ (wd).heap.size := (h0).size
      clear hHeld
      refine hK.out _ ((wd).alloc (.cells #[.string ⟨#[]⟩, .int .i64 0, .int .i64 0, .int .i64 0, .slice none 0 0, .slice none 0 0] 35 (0, 0))) ?G910 (fun hHeld => ?_)
      case G910 => (exact KEEP.out _ h10)
      clear hK K
      try simp only [Act.put, List.getElem_toArray, List.getElem_cons_zero, List.getElem_cons_succ, List.setIfInBounds_toArray, List.set_cons_zero, List.set_cons_succ]
      obtain ⟨g8, hge⟩ : ∃ g, g = (wd).heap.size := ⟨_, rfl⟩
      rw [← hge] at hg8 h8
      try rw [← hge]
      obtain ⟨wa10, hwa⟩ : ∃ wa, wa = (wd).alloc (.cells #[.string ⟨#[]⟩, .int .i64 0, .int .i64 0, .int .i64 0, .slice none 0 0, .slice none 0 0] 35 (0, 0)) := ⟨_, rfl⟩
      rw [← hwa] at hg8 h10
      try rw [← hwa]
      clear hge hwa kz10
      refine wpAnyH_ready (rs := [1]) (by kernel_rfl) (by simp) ?_
      refine AllReadyH.cons rfl (fun K hK => ?_) AllReadyH.nil
      go_simp
      go_wp2_with (go_at_call 80; refine (HM.out _ h10).mono ?_; rintro e wm11 ⟨mb, rfl, hmap, bm11⟩)
      have h11 : Below wz.heap.size wz wm11 := (h10).trans (bm11.mono (h10).size)
      have hg8 := box_below hg8 bm11
      clear hHeld
      refine hK.out _ _ ?G26 (fun hHeld => ?_)
      case G26 => ((try dsimp only); exact KEEP.out _ h11)
      clear hK K
      try simp only [Act.put, List.getElem_toArray, List.getElem_cons_zero, List.getElem_cons_succ, List.setIfInBounds_toArray, List.set_cons_zero, List.set_cons_succ]
      refine wpAnyH_ready (rs := [4]) (by kernel_rfl) (by simp) ?_
      refine AllReadyH.cons rfl (fun K hK => ?_) AllReadyH.nil
      go_simp
      go_wp2_with (go_at_call 81; refine (HK.out _ h11).mono ?_; rintro e wk12 ⟨rfl, bk12⟩)
      have h12 : Below wz.heap.size wz wk12 := (h11).trans (bk12.mono (h11).size)
      have hmap := hmap.below bk12
      have hg8 := box_below hg8 bk12
      clear hHeld
      refine hK.out _ _ ?G27 (fun hHeld => ?_)
      case G27 => ((try dsimp only); exact KEEP.out _ h12)
      clear hK K
      try simp only [Act.put, List.getElem_toArray, List.getElem_cons_zero, List.getElem_cons_succ, List.setIfInBounds_toArray, List.set_cons_zero, List.set_cons_succ]
      refine wpAnyH_ready (rs := [5]) (by kernel_rfl) (by simp) ?_
      refine AllReadyH.cons rfl (fun K hK => ?_) AllReadyH.nil
      have hrun := LOOK.out _ mb hmap
      go_simp
      clear hHeld
      refine hK.out _ _ ?G28 (fun hHeld => ?_)
      case G28 => ((try dsimp only); exact KEEP.out _ h12)
      clear hK K
      try simp only [Act.put, List.getElem_toArray, List.getElem_cons_zero, List.getElem_cons_succ, List.setIfInBounds_toArray, List.set_cons_zero, List.set_cons_succ]
      clear hrun
      refine wpAnyH_take (i := 6) (oi := _) (v := ?vT29) rfl (by kernel_rfl) (by kernel_rfl) (by kernel_rfl) (fun _ _ _ h => h) (Or.inl ⟨by rfl, ?yT29⟩) hHeld ?_
      case yT29 => (intro w hSw; (try dsimp only at hSw); go_simp <;> with_reducible rfl)
      try simp only [Act.put, List.getElem_toArray, List.getElem_cons_zero, List.getElem_cons_succ, List.setIfInBounds_toArray, List.set_cons_zero, List.set_cons_succ]
      refine wpAnyH_take (i := 7) (oi := _) (v := ?vT30) rfl (by kernel_rfl) (by kernel_rfl) (by kernel_rfl) (fun _ _ _ h => h) (Or.inl ⟨by rfl, ?yT30⟩) hHeld ?_
      case yT30 => (intro w hSw; (try dsimp only at hSw); go_simp <;> with_reducible rfl)
      try simp only [Act.put, List.getElem_toArray, List.getElem_cons_zero, List.getElem_cons_succ, List.setIfInBounds_toArray, List.set_cons_zero, List.set_cons_succ]
      refine wpAnyH_take (i := 8) (oi := _) (v := ?vT31) rfl (by kernel_rfl) (by kernel_rfl) (by kernel_rfl) (fun _ _ _ h => h) (Or.inl ⟨by rfl, ?yT31⟩) hHeld ?_
      case yT31 => (intro w hSw; (try dsimp only at hSw); go_simp <;> with_reducible rfl)
      try simp only [Act.put, List.getElem_toArray, List.getElem_cons_zero, List.getElem_cons_succ, List.setIfInBounds_toArray, List.set_cons_zero, List.set_cons_succ]
      have hX := h12
      have fy := vblk_frozen hg8
      have y0 := vblk_cell hg8 0
      have y1 := vblk_cell hg8 1
      have y2 := vblk_cell hg8 2
      have y3 := vblk_cell hg8 3
      have y4 := vblk_cell hg8 4
      have y5 := vblk_cell hg8 5
      simp only [List.getElem?_toArray, List.getElem?_cons_succ, List.getElem?_cons_zero] at y0 y1 y2 y3 y4 y5
      refine wpAnyH_ready (rs := [10]) (by kernel_rfl) (by simp) ?_
      refine AllReadyH.cons rfl (fun K hK => ?_) AllReadyH.nil
      go_simp
      clear hHeld
      refine hK.out _ _ ?U32 (fun hHeld => ?_)
      case U32 => (have hA3 := (hX.block w.heap.size (by omega)).trans hAz; exact ⟨vblk_cell (cells_put (cells_put (cells_put (cells_put (cells_put (cells_put hA3 (by omega) _ _) (by omega) _ _) (by omega) _ _) (by omega) _ _) (by omega) _ _) (by omega) _ _) 0, vblk_cell (cells_put (cells_put (cells_put (cells_put (cells_put (cells_put hA3 (by omega) _ _) (by omega) _ _) (by omega) _ _) (by omega) _ _) (by omega) _ _) (by omega) _ _) 1, vblk_cell (cells_put (cells_put (cells_put (cells_put (cells_put (cells_put hA3 (by omega) _ _) (by omega) _ _) (by omega) _ _) (by omega) _ _) (by omega) _ _) (by omega) _ _) 2, vblk_cell (cells_put (cells_put (cells_put (cells_put (cells_put (cells_put hA3 (by omega) _ _) (by omega) _ _) (by omega) _ _) (by omega) _ _) (by omega) _ _) (by omega) _ _) 3⟩)
      clear hK K
      try simp only [Act.put, List.getElem_toArray, List.getElem_cons_zero, List.getElem_cons_succ, List.setIfInBounds_toArray, List.set_cons_zero, List.set_cons_succ]
      refine wpAnyH_take (i := 11) (oi := _) (v := ?vT33) rfl (by kernel_rfl) (by kernel_rfl) (by kernel_rfl) (fun _ _ _ h => h) (Or.inl ⟨by rfl, ?yT33⟩) hHeld ?_
      case yT33 => (intro w hSw; (try dsimp only at hSw); go_simp <;> with_reducible rfl)
      try simp only [Act.put, List.getElem_toArray, List.getElem_cons_zero, List.getElem_cons_succ, List.setIfInBounds_toArray, List.set_cons_zero, List.set_cons_succ]
      refine wpAnyH_done (by kernel_rfl) ?_ _
      clear hHeld
      obtain ⟨wY, hWY⟩ : ∃ wY, wY = ((((((wk12.setCell ⟨g8, 0, none⟩ (.string ⟨#[]⟩)).setCell ⟨g8, 1, none⟩ (.int .i64 0)).setCell ⟨g8, 2, none⟩ (.int .i64 0)).setCell ⟨g8, 3, none⟩ (.int .i64 0)).setCell ⟨g8, 4, none⟩ (.slice none 0 0)).setCell ⟨g8, 5, none⟩ (.slice none 0 0)) := ⟨_, rfl⟩
      rw [← hWY]
      have hY : Below wz.heap.size wz wY := by rw [hWY]; (repeat (refine Below.setCell ?_ (by simp; omega) _)); exact hX
      have hb8 : wY.heap[g8]? = some (.cells #[.string ⟨#[]⟩, .int .i64 0, .int .i64 0, .int .i64 0, .slice none 0 0, .slice none 0 0] 35 (0, 0)) := by
        rw [hWY]
        have h6 := heap_setCell_same _ g8 5 _ _ (.slice none 0 0) (heap_setCell_same _ g8 4 _ _ (.slice none 0 0) (heap_setCell_same _ g8 3 _ _ (.int .i64 0) (heap_setCell_same _ g8 2 _ _ (.int .i64 0) (heap_setCell_same _ g8 1 _ _ (.int .i64 0) (heap_setCell_same _ g8 0 _ _ (.string ⟨#[]⟩) hg8)))))
        simpa only [List.setIfInBounds_toArray, List.set_cons_succ, List.set_cons_zero] using h6
      clear hWY y0 y1 y2 y3 y4 y5 fy hg8 hX
      have z0 := vblk_cell hb8 0
      have z1 := vblk_cell hb8 1
      have z2 := vblk_cell hb8 2
      have z3 := vblk_cell hb8 3
      have z4 := vblk_cell hb8 4
      have z5 := vblk_cell hb8 5
      simp only [List.getElem?_toArray, List.getElem?_cons_succ, List.getElem?_cons_zero] at z0 z1 z2 z3 z4 z5
      go_wp2_with fail
      go_at_call 72
      refine (HC.out _ hY).mono ?_
      rintro e wC ⟨cs9, rfl, hl9, bC⟩
      have hRC := (bC.block (w.heap.size + 1) (by have := hY.size; omega)).trans ((hY.block (w.heap.size + 1) (by omega)).trans hRz)
      have kC : Below wz.heap.size wz wC := hY.trans (bC.mono hY.size)
      have sC := hY.size
      have HO : Hid (∀ W : World, W.heap.size = wC.heap.size → Kp (fun b => b ≠ w.heap.size + 1) wC W → shEntryO.lies (Ow w.heap.size W.heap.size) W cs9 DD) := fun W hs hk => shEntryO.mono (Ow.mono (by omega) (by omega)) (shEntryO.keep (S := Ow wY.heap.size wC.heap.size) (fun b hb => hk b (by have := hb.1; show b ≠ _; omega)) hl9)
      obtain ⟨v0, v1, rfl, _, q0, _, q1⟩ := id hl9
      obtain ⟨f0, m0, ef0⟩ := q0.slice
      subst ef0
      obtain ⟨f1, m1, ef1⟩ := q1.slice
      subst ef1
      have fr := vblk_frozen hRC
      have r0 := vblk_cell hRC 0
      have r1 := vblk_cell hRC 1
      have r2 := vblk_cell hRC 2
      have r3 := vblk_cell hRC 3
      have r4 := vblk_cell hRC 4
      have r5 := vblk_cell hRC 5
      simp only [List.getElem?_toArray, List.getElem?_cons_succ, List.getElem?_cons_zero] at r0 r1 r2 r3 r4 r5
      clear hl9 q0 q1 z0 z1 z2 z3 z4 z5 hb8 HC hAz hRz hRC
      go_wp2_with fail
      refine bodyPost_ret (v := .tuple #[.agg #[.string DD.name, .int .i64 DD.vA, .int .i64 DD.vB, .int .i64 DD.vC, .slice f0 DD.vP.length m0, .slice f1 DD.needs.length m1], .bool false]) (by simp [results, Tryz.results16, go_sem, r0, r1, r2, r3, r4, r5]) rfl ⟨_, rfl, HO.out _ (by simp [World.setCell]) ?_, ?_⟩
      · (repeat (refine Kp.trans ?_ (Kp.set (by simp))))
        exact fun b hb => rfl
      · (repeat (refine Below.setCell ?_ (by simp) _))
        exact hwz.trans (kC.mono (by omega))
  | some i =>
    obtain ⟨hi, hkd⟩ := firstK_lt hgd
    have hat : atD xs (some i) = xs[i] := by simp [atD, hi]
    have hde := hwe xs[i] (List.getElem_mem hi)
    obtain ⟨cs0, hl0⟩ := hrow.at hi
    obtain ⟨DD, hd⟩ : ∃ d, d = xs[i] := ⟨_, rfl⟩
    rw [← hd] at hat hde
    show Calls _ _ _ _ fun e w' => ∃ cs, e = .returned (.tuple #[.agg cs.toArray, .bool true]) ∧ shEntryO.lies (Ow w.heap.size w'.heap.size) w' cs (atD xs (some i)) ∧ Below w.heap.size w w'
    rw [hat]
    have HMM : ∀ w1, Below w.heap.size w w1 → Calls Tryz.prog 80 #[.slice qv xs.length cv] w1 fun e w' => ∃ mb, e = .returned (.map (some mb)) ∧ (∃ a0 cap0 a1 cap1, shEntry.lies S w [.string DD.name, .int .i64 DD.vA, .int .i64 DD.vB, .int .i64 DD.vC, .slice a0 DD.vP.length cap0, .slice a1 DD.needs.length cap1] DD ∧ MapL w' mb KD (.tuple #[.agg #[.string DD.name, .int .i64 DD.vA, .int .i64 DD.vB, .int .i64 DD.vC, .slice a0 DD.vP.length cap0, .slice a1 DD.needs.length cap1], .bool true])) ∧ Below w1.heap.size w1 w' := fun w1 h => (HM' w1 h).mono fun e w' ⟨vs, h1, h2, h3, h4⟩ => by
      obtain ⟨cs, h5, h6⟩ := h2 i hi
      rw [← hd] at h6
      have h7 := shEntry.keep (w' := w) (fun b hb => (h.block b (hB b hb)).symm) h6
      have h8 := h7
      obtain ⟨t0, t1, rfl, _, tr0, _, tr1⟩ := h8
      obtain ⟨a0, cap0, te0, _⟩ := id tr0
      rw [length_strsV] at te0
      subst te0
      obtain ⟨a1, cap1, te1, _⟩ := id tr1
      subst te1
      exact ⟨_, h1, ⟨a0, cap0, a1, cap1, h7, ⟨_, _, h3, by show Value.tuple #[_, _] = _; rw [hgd, Option.map_some, h5]; rfl⟩⟩, h4⟩
    have HC' : ∀ a0 cap0 a1 cap1, shEntry.lies S w [.string DD.name, .int .i64 DD.vA, .int .i64 DD.vB, .int .i64 DD.vC, .slice a0 DD.vP.length cap0, .slice a1 DD.needs.length cap1] DD → ∀ w1, Below w.heap.size w w1 → Calls Tryz.prog 72 #[.agg #[.string DD.name, .int .i64 DD.vA, .int .i64 DD.vB, .int .i64 DD.vC, .slice a0 DD.vP.length cap0, .slice a1 DD.needs.length cap1]] w1 fun e w' => ∃ cs', e = .returned (.agg cs'.toArray) ∧ shEntryO.lies (Ow w1.heap.size w'.heap.size) w' cs' DD ∧ Below w1.heap.size w1 w' := fun a0 cap0 a1 cap1 hl w1 h => copyEntry_c S DD _ w1 (shEntry.keep (.of h hB) hl) (hBn w1 h) hde
    clear HM' hat hl0 hd hkd hrow
    go_enter Tryz.func16, Tryz.ntmps16
    go_wp2_with fail
    obtain ⟨wz, hW⟩ : ∃ wz, wz = (w.alloc (.cells #[.int .i64 a, .int .i64 b, .int .i64 c, .slice q ps.length cap] 30 (0, 0))).alloc (.cells #[.string ⟨#[]⟩, .int .i64 0, .int .i64 0, .int .i64 0, .slice none 0 0, .slice none 0 0] 35 (0, 0)) := ⟨_, rfl⟩
    rw [← hW] at hAz hRz hwz hsz
    rw [← hW]
    clear hW
    have HK : Hid (∀ w1, Below wz.heap.size wz w1 → Calls Tryz.prog 81 #[.string n, .agg #[.int .i64 a, .int .i64 b, .int .i64 c, .slice q ps.length cap]] w1 fun e w' => e = .returned (.agg #[.string n, .int .i64 a, .int .i64 b, .int .i64 c, .string P]) ∧ Below w1.heap.size w1 w') := fun w1 h => HK' w1 (hwz.trans (h.mono (by omega)))
    have h0 : Below wz.heap.size wz wz.drew := (Below.refl _ _).drew
    have KEEP : Hid (∀ w1, Below wz.heap.size wz w1 → w1.cell? ⟨w.heap.size, 0, none⟩ = some (.int .i64 a) ∧ w1.cell? ⟨w.heap.size, 1, none⟩ = some (.int .i64 b) ∧ w1.cell? ⟨w.heap.size, 2, none⟩ = some (.int .i64 c) ∧ w1.cell? ⟨w.heap.size, 3, none⟩ = some (.slice q ps.length cap)) := fun w1 h => by
      have hA := (h.block w.heap.size (by omega)).trans hAz
      exact ⟨vblk_cell hA 0, vblk_cell hA 1, vblk_cell hA 2, vblk_cell hA 3⟩
    have HM := hidden (fun w1 (h : Below wz.heap.size wz w1) => HMM w1 (hwz.trans (h.mono (by omega))))
    have HC := hidden (fun a0 cap0 a1 cap1 (hl : shEntry.lies S w [.string DD.name, .int .i64 DD.vA, .int .i64 DD.vB, .int .i64 DD.vC, .slice a0 DD.vP.length cap0, .slice a1 DD.needs.length cap1] DD) w1 (h : Below wz.heap.size wz w1) => HC' a0 cap0 a1 cap1 hl w1 (hwz.trans (h.mono (by omega))))
    have LOOK : Hid (∀ a0 cap0 a1 cap1 w1 mb, MapL w1 mb KD (.tuple #[.agg #[.string DD.name, .int .i64 DD.vA, .int .i64 DD.vB, .int .i64 DD.vC, .slice a0 DD.vP.length cap0, .slice a1 DD.needs.length cap1], .bool true]) → (Instr.lookup 110 (.map (some mb)) (.agg #[.string n, .int .i64 a, .int .i64 b, .int .i64 c, .string P]) true).run Tryz.prog w1 = .ok (.tuple #[.agg #[.string DD.name, .int .i64 DD.vA, .int .i64 DD.vB, .int .i64 DD.vC, .slice a0 DD.vP.length cap0, .slice a1 DD.needs.length cap1], .bool true]) w1) := fun a0 cap0 a1 cap1 w1 mb h => by rw [← hKV]; exact h.look hok
    clear HK' HMM HC' hgd hok hKV
    refine wp_region_held_drew (S := (fun w1 => w1.cell? ⟨w.heap.size, 0, none⟩ = some (.int .i64 a) ∧ w1.cell? ⟨w.heap.size, 1, none⟩ = some (.int .i64 b) ∧ w1.cell? ⟨w.heap.size, 2, none⟩ = some (.int .i64 c) ∧ w1.cell? ⟨w.heap.size, 3, none⟩ = some (.slice q ps.length cap))) (by kernel_rfl) ?S34 (fun hHeld => ?_)
    case S34 => (exact KEEP.out _ h0)
    refine wpAnyH_take (i := 0) (oi := _) (v := ?vT35) rfl (by kernel_rfl) (by kernel_rfl) (by kernel_rfl) (fun _ _ _ h => h) (Or.inl ⟨by rfl, ?yT35⟩) hHeld ?_
    case yT35 => (intro w hSw; (try dsimp only at hSw); go_simp <;> with_reducible rfl)
    try simp only [Act.put, List.getElem_toArray, List.getElem_cons_zero, List.getElem_cons_succ, List.setIfInBounds_toArray, List.set_cons_zero, List.set_cons_succ]
    refine wpAnyH_take (i := 2) (oi := _) (v := ?vT36) rfl (by kernel_rfl) (by kernel_rfl) (by kernel_rfl) (fun _ _ _ h => h) (Or.inl ⟨by rfl, ?yT36⟩) hHeld ?_
    case yT36 => (intro w hSw; (try dsimp only at hSw); go_simp <;> with_reducible rfl)
    try simp only [Act.put, List.getElem_toArray, List.getElem_cons_zero, List.getElem_cons_succ, List.setIfInBounds_toArray, List.set_cons_zero, List.set_cons_succ]
    refine wpAnyH_take (i := 3) (oi := _) (v := ?vT37) rfl (by kernel_rfl) (by kernel_rfl) (by kernel_rfl) (fun _ _ _ h => h) (Or.inl ⟨by rfl, ?yT37⟩) hHeld ?_
    case yT37 => (intro w hSw; (try dsimp only at hSw); go_simp <;> with_reducible rfl)
    try simp only [Act.put, List.getElem_toArray, List.getElem_cons_zero, List.getElem_cons_succ, List.setIfInBounds_toArray, List.set_cons_zero, List.set_cons_succ]
    obtain ⟨wd, hwd⟩ : ∃ wd, wd = wz.drew := ⟨_, rfl⟩
    rw [← hwd] at h0
    rw [← hwd]
    clear hwd
    refine wpAnyH_ready (rs := [1, 9]) (by kernel_rfl) (by simp) ?_
    refine AllReadyH.cons rfl (fun K hK => ?_) (AllReadyH.cons rfl (fun K hK => ?_) AllReadyH.nil)
    · go_simp
      go_wp2_with (go_at_call 80; refine (HM.out _ h0).mono ?_; rintro e wm14 ⟨mb, rfl, ⟨a0, cap0, a1, cap1, hlz, hmap⟩, bm14⟩)
      have h14 : Below wz.heap.size wz wm14 := (h0).trans (bm14.mono (h0).size)
      clear hHeld
      refine hK.out _ _ ?G38 (fun hHeld => ?_)
      case G38 => ((try dsimp only); exact KEEP.out _ h14)
      clear hK K
      try simp only [Act.put, List.getElem_toArray, List.getElem_cons_zero, List.getElem_cons_succ, List.setIfInBounds_toArray, List.set_cons_zero, List.set_cons_succ]
      refine wpAnyH_ready (rs := [4, 9]) (by kernel_rfl) (by simp) ?_
      refine AllReadyH.cons rfl (fun K hK => ?_) (AllReadyH.cons rfl (fun K hK => ?_) AllReadyH.nil)
      · go_simp
        go_wp2_with (go_at_call 81; refine (HK.out _ h14).mono ?_; rintro e wk15 ⟨rfl, bk15⟩)
        have h15 : Below wz.heap.size wz wk15 := (h14).trans (bk15.mono (h14).size)
        have hmap := hmap.below bk15
        clear hHeld
        refine hK.out _ _ ?G39 (fun hHeld => ?_)
        case G39 => ((try dsimp only); exact KEEP.out _ h15)
        clear hK K
        try simp only [Act.put, List.getElem_toArray, List.getElem_cons_zero, List.getElem_cons_succ, List.setIfInBounds_toArray, List.set_cons_zero, List.set_cons_succ]
        refine wpAnyH_ready (rs := [5, 9]) (by kernel_rfl) (by simp) ?_
        refine AllReadyH.cons rfl (fun K hK => ?_) (AllReadyH.cons rfl (fun K hK => ?_) AllReadyH.nil)
        · have hrun := LOOK.out a0 cap0 a1 cap1 _ mb hmap
          go_simp
          clear hHeld
          refine hK.out _ _ ?G40 (fun hHeld => ?_)
          case G40 => ((try dsimp only); exact KEEP.out _ h15)
          clear hK K
          try simp only [Act.put, List.getElem_toArray, List.getElem_cons_zero, List.getElem_cons_succ, List.setIfInBounds_toArray, List.set_cons_zero, List.set_cons_succ]
          clear hrun
          refine wpAnyH_take (i := 6) (oi := _) (v := ?vT41) rfl (by kernel_rfl) (by kernel_rfl) (by kernel_rfl) (fun _ _ _ h => h) (Or.inl ⟨by rfl, ?yT41⟩) hHeld ?_
          case yT41 => (intro w hSw; (try dsimp only at hSw); go_simp <;> with_reducible rfl)
          try simp only [Act.put, List.getElem_toArray, List.getElem_cons_zero, List.getElem_cons_succ, List.setIfInBounds_toArray, List.set_cons_zero, List.set_cons_succ]
          refine wpAnyH_take (i := 7) (oi := _) (v := ?vT42) rfl (by kernel_rfl) (by kernel_rfl) (by kernel_rfl) (fun _ _ _ h => h) (Or.inl ⟨by rfl, ?yT42⟩) hHeld ?_
          case yT42 => (intro w hSw; (try dsimp only at hSw); go_simp <;> with_reducible rfl)
          try simp only [Act.put, List.getElem_toArray, List.getElem_cons_zero, List.getElem_cons_succ, List.setIfInBounds_toArray, List.set_cons_zero, List.set_cons_succ]
          refine wpAnyH_take (i := 8) (oi := _) (v := ?vT43) rfl (by kernel_rfl) (by kernel_rfl) (by kernel_rfl) (fun _ _ _ h => h) (Or.inl ⟨by rfl, ?yT43⟩) hHeld ?_
          case yT43 => (intro w hSw; (try dsimp only at hSw); go_simp <;> with_reducible rfl)
          try simp only [Act.put, List.getElem_toArray, List.getElem_cons_zero, List.getElem_cons_succ, List.setIfInBounds_toArray, List.set_cons_zero, List.set_cons_succ]
          refine wpAnyH_ready (rs := [9]) (by kernel_rfl) (by simp) ?_
          refine AllReadyH.cons rfl (fun K hK => ?_) AllReadyH.nil
          go_simp
          have kz17 : Below (wk15).heap.size (wk15) ((wk15).alloc (.cells #[.string ⟨#[]⟩, .int .i64 0, .int .i64 0, .int .i64 0, .slice none 0 0, .slice none 0 0] 35 (0, 0))) := (Below.refl _ _).alloc (Nat.le_refl _) _
          have h17 : Below wz.heap.size wz ((wk15).alloc (.cells #[.string ⟨#[]⟩, .int .i64 0, .int .i64 0, .int .i64 0, .slice none 0 0, .slice none 0 0] 35 (0, 0))) := (h15).trans (kz17.mono (h15).size)
          have hg8 : ((wk15).alloc (.cells #[.string ⟨#[]⟩, .int .i64 0, .int .i64 0, .int .i64 0, .slice none 0 0, .slice none 0 0] 35 (0, 0))).heap[(wk15).heap.size]? = some (.cells #[.string ⟨#[]⟩, .int .i64 0, .int .i64 0, .int .i64 0, .slice none 0 0, .slice none 0 0] 35 (0, 0)) := vheap_new _ _
          have h8 : wz.heap.size ≤ (wk15).heap.size := (h15).size
          have hmap := hmap.below kz17
          clear hHeld
          refine hK.out _ ((wk15).alloc (.cells #[.string ⟨#[]⟩, .int .i64 0, .int .i64 0, .int .i64 0, .slice none 0 0, .slice none 0 0] 35 (0, 0))) ?G917 (fun hHeld => ?_)
          case G917 => (exact KEEP.out _ h17)
          clear hK K
          try simp only [Act.put, List.getElem_toArray, List.getElem_cons_zero, List.getElem_cons_succ, List.setIfInBounds_toArray, List.set_cons_zero, List.set_cons_succ]
          obtain ⟨g8, hge⟩ : ∃ g, g = (wk15).heap.size := ⟨_, rfl⟩
          rw [← hge] at hg8 h8
          try rw [← hge]
          obtain ⟨wa17, hwa⟩ : ∃ wa, wa = (wk15).alloc (.cells #[.string ⟨#[]⟩, .int .i64 0, .int .i64 0, .int .i64 0, .slice none 0 0, .slice none 0 0] 35 (0, 0)) := ⟨_, rfl⟩
          rw [← hwa] at hg8 h17 hmap
          try rw [← hwa]
          clear hge hwa kz17
          have hX := h17
          have fy := vblk_frozen hg8
          have y0 := vblk_cell hg8 0
          have y1 := vblk_cell hg8 1
          have y2 := vblk_cell hg8 2
          have y3 := vblk_cell hg8 3
          have y4 := vblk_cell hg8 4
          have y5 := vblk_cell hg8 5
          simp only [List.getElem?_toArray, List.getElem?_cons_succ, List.getElem?_cons_zero] at y0 y1 y2 y3 y4 y5
          refine wpAnyH_ready (rs := [10]) (by kernel_rfl) (by simp) ?_
          refine AllReadyH.cons rfl (fun K hK => ?_) AllReadyH.nil
          go_simp
          clear hHeld
          refine hK.out _ _ ?U44 (fun hHeld => ?_)
          case U44 => (have hA3 := (hX.block w.heap.size (by omega)).trans hAz; exact ⟨vblk_cell (cells_put (cells_put (cells_put (cells_put (cells_put (cells_put hA3 (by omega) _ _) (by omega) _ _) (by omega) _ _) (by omega) _ _) (by omega) _ _) (by omega) _ _) 0, vblk_cell (cells_put (cells_put (cells_put (cells_put (cells_put (cells_put hA3 (by omega) _ _) (by omega) _ _) (by omega) _ _) (by omega) _ _) (by omega) _ _) (by omega) _ _) 1, vblk_cell (cells_put (cells_put (cells_put (cells_put (cells_put (cells_put hA3 (by omega) _ _) (by omega) _ _) (by omega) _ _) (by omega) _ _) (by omega) _ _) (by omega) _ _) 2, vblk_cell (cells_put (cells_put (cells_put (cells_put (cells_put (cells_put hA3 (by omega) _ _) (by omega) _ _) (by omega) _ _) (by omega) _ _) (by omega) _ _) (by omega) _ _) 3⟩)
          clear hK K
          try simp only [Act.put, List.getElem_toArray, List.getElem_cons_zero, List.getElem_cons_succ, List.setIfInBounds_toArray, List.set_cons_zero, List.set_cons_succ]
          refine wpAnyH_take (i := 11) (oi := _) (v := ?vT45) rfl (by kernel_rfl) (by kernel_rfl) (by kernel_rfl) (fun _ _ _ h => h) (Or.inl ⟨by rfl, ?yT45⟩) hHeld ?_
          case yT45 => (intro w hSw; (try dsimp only at hSw); go_simp <;> with_reducible rfl)
          try simp only [Act.put, List.getElem_toArray, List.getElem_cons_zero, List.getElem_cons_succ, List.setIfInBounds_toArray, List.set_cons_zero, List.set_cons_succ]
          refine wpAnyH_done (by kernel_rfl) ?_ _
          clear hHeld
          obtain ⟨wY, hWY⟩ : ∃ wY, wY = ((((((wa17.setCell ⟨g8, 0, none⟩ (.string DD.name)).setCell ⟨g8, 1, none⟩ (.int .i64 DD.vA)).setCell ⟨g8, 2, none⟩ (.int .i64 DD.vB)).setCell ⟨g8, 3, none⟩ (.int .i64 DD.vC)).setCell ⟨g8, 4, none⟩ (.slice a0 DD.vP.length cap0)).setCell ⟨g8, 5, none⟩ (.slice a1 DD.needs.length cap1)) := ⟨_, rfl⟩
          rw [← hWY]
          have hY : Below wz.heap.size wz wY := by rw [hWY]; (repeat (refine Below.setCell ?_ (by simp; omega) _)); exact hX
          have hb8 : wY.heap[g8]? = some (.cells #[.string DD.name, .int .i64 DD.vA, .int .i64 DD.vB, .int .i64 DD.vC, .slice a0 DD.vP.length cap0, .slice a1 DD.needs.length cap1] 35 (0, 0)) := by
            rw [hWY]
            have h6 := heap_setCell_same _ g8 5 _ _ (.slice a1 DD.needs.length cap1) (heap_setCell_same _ g8 4 _ _ (.slice a0 DD.vP.length cap0) (heap_setCell_same _ g8 3 _ _ (.int .i64 DD.vC) (heap_setCell_same _ g8 2 _ _ (.int .i64 DD.vB) (heap_setCell_same _ g8 1 _ _ (.int .i64 DD.vA) (heap_setCell_same _ g8 0 _ _ (.string DD.name) hg8)))))
            simpa only [List.setIfInBounds_toArray, List.set_cons_succ, List.set_cons_zero] using h6
          clear hWY y0 y1 y2 y3 y4 y5 fy hg8 hX
          have z0 := vblk_cell hb8 0
          have z1 := vblk_cell hb8 1
          have z2 := vblk_cell hb8 2
          have z3 := vblk_cell hb8 3
          have z4 := vblk_cell hb8 4
          have z5 := vblk_cell hb8 5
          simp only [List.getElem?_toArray, List.getElem?_cons_succ, List.getElem?_cons_zero] at z0 z1 z2 z3 z4 z5
          go_wp2_with fail
          go_at_call 72
          refine (HC.out a0 cap0 a1 cap1 hlz _ hY).mono ?_
          rintro e wC ⟨cs9, rfl, hl9, bC⟩
          have hRC := (bC.block (w.heap.size + 1) (by have := hY.size; omega)).trans ((hY.block (w.heap.size + 1) (by omega)).trans hRz)
          have kC : Below wz.heap.size wz wC := hY.trans (bC.mono hY.size)
          have sC := hY.size
          have HO : Hid (∀ W : World, W.heap.size = wC.heap.size → Kp (fun b => b ≠ w.heap.size + 1) wC W → shEntryO.lies (Ow w.heap.size W.heap.size) W cs9 DD) := fun W hs hk => shEntryO.mono (Ow.mono (by omega) (by omega)) (shEntryO.keep (S := Ow wY.heap.size wC.heap.size) (fun b hb => hk b (by have := hb.1; show b ≠ _; omega)) hl9)
          obtain ⟨v0, v1, rfl, _, q0, _, q1⟩ := id hl9
          obtain ⟨f0, m0, ef0⟩ := q0.slice
          subst ef0
          obtain ⟨f1, m1, ef1⟩ := q1.slice
          subst ef1
          have fr := vblk_frozen hRC
          have r0 := vblk_cell hRC 0
          have r1 := vblk_cell hRC 1
          have r2 := vblk_cell hRC 2
          have r3 := vblk_cell hRC 3
          have r4 := vblk_cell hRC 4
          have r5 := vblk_cell hRC 5
          simp only [List.getElem?_toArray, List.getElem?_cons_succ, List.getElem?_cons_zero] at r0 r1 r2 r3 r4 r5
          clear hl9 q0 q1 z0 z1 z2 z3 z4 z5 hb8 HC hAz hRz hRC
          go_wp2_with fail
          refine bodyPost_ret (v := .tuple #[.agg #[.string DD.name, .int .i64 DD.vA, .int .i64 DD.vB, .int .i64 DD.vC, .slice f0 DD.vP.length m0, .slice f1 DD.needs.length m1], .bool true]) (by simp [results, Tryz.results16, go_sem, r0, r1, r2, r3, r4, r5]) rfl ⟨_, rfl, HO.out _ (by simp [World.setCell]) ?_, ?_⟩
          · (repeat (refine Kp.trans ?_ (Kp.set (by simp))))
            exact fun b hb => rfl
          · (repeat (refine Below.setCell ?_ (by simp) _))
            exact hwz.trans (kC.mono (by omega))
        · go_simp
          have kz18 : Below (wk15).heap.size (wk15) ((wk15).alloc (.cells #[.string ⟨#[]⟩, .int .i64 0, .int .i64 0, .int .i64 0, .slice none 0 0, .slice none 0 0] 35 (0, 0))) := (Below.refl _ _).alloc (Nat.le_refl _) _
          have h18 : Below wz.heap.size wz ((wk15).alloc (.cells #[.string ⟨#[]⟩, .int .i64 0, .int .i64 0, .int .i64 0, .slice none 0 0, .slice none 0 0] 35 (0, 0))) := (h15).trans (kz18.mono (h15).size)
          have hg8 : ((wk15).alloc (.cells #[.string ⟨#[]⟩, .int .i64 0, .int .i64 0, .int .i64 0, .slice none 0 0, .slice none 0 0] 35 (0, 0))).heap[(wk15).heap.size]? = some (.cells #[.string ⟨#[]⟩, .int .i64 0, .int .i64 0, .int .i64 0, .slice none 0 0, .slice none 0 0] 35 (0, 0)) := vheap_new _ _
          have h8 : wz.heap.size ≤ (wk15).heap.size := (h15).size
          have hmap := hmap.below kz18
          clear hHeld
          refine hK.out _ ((wk15).alloc (.cells #[.string ⟨#[]⟩, .int .i64 0, .int .i64 0, .int .i64 0, .slice none 0 0, .slice none 0 0] 35 (0, 0))) ?G918 (fun hHeld => ?_)
          case G918 => (exact KEEP.out _ h18)
          clear hK K
          try simp only [Act.put, List.getElem_toArray, List.getElem_cons_zero, List.getElem_cons_succ, List.setIfInBounds_toArray, List.set_cons_zero, List.set_cons_succ]
          obtain ⟨g8, hge⟩ : ∃ g, g = (wk15).heap.size := ⟨_, rfl⟩
          rw [← hge] at hg8 h8
          try rw [← hge]
          obtain ⟨wa18, hwa⟩ : ∃ wa, wa = (wk15).alloc (.cells #[.string ⟨#[]⟩, .int .i64 0, .int .i64 0, .int .i64 0, .slice none 0 0, .slice none 0 0] 35 (0, 0)) := ⟨_, rfl⟩
          rw [← hwa] at hg8 h18 hmap
          try rw [← hwa]
          clear hge hwa kz18
          refine wpAnyH_ready (rs := [5]) (by kernel_rfl) (by simp) ?_
          refine AllReadyH.cons rfl (fun K hK => ?_) AllReadyH.nil
          have hrun := LOOK.out a0 cap0 a1 cap1 _ mb hmap
          go_simp
          clear hHeld
          refine hK.out _ _ ?G46 (fun hHeld => ?_)
          case G46 => ((try dsimp only); exact KEEP.out _ h18)
          clear hK K
          try simp only [Act.put, List.getElem_toArray, List.getElem_cons_zero, List.getElem_cons_succ, List.setIfInBounds_toArray, List.set_cons_zero, List.set_cons_succ]
          clear hrun
          refine wpAnyH_take (i := 6) (oi := _) (v := ?vT47) rfl (by kernel_rfl) (by kernel_rfl) (by kernel_rfl) (fun _ _ _ h => h) (Or.inl ⟨by rfl, ?yT47⟩) hHeld ?_
          case yT47 => (intro w hSw; (try dsimp only at hSw); go_simp <;> with_reducible rfl)
          try simp only [Act.put, List.getElem_toArray, List.getElem_cons_zero, List.getElem_cons_succ, List.setIfInBounds_toArray, List.set_cons_zero, List.set_cons_succ]
          refine wpAnyH_take (i := 7) (oi := _) (v := ?vT48) rfl (by kernel_rfl) (by kernel_rfl) (by kernel_rfl) (fun _ _ _ h => h) (Or.inl ⟨by rfl, ?yT48⟩) hHeld ?_
          case yT48 => (intro w hSw; (try dsimp only at hSw); go_simp <;> with_reducible rfl)
          try simp only [Act.put, List.getElem_toArray, List.getElem_cons_zero, List.getElem_cons_succ, List.setIfInBounds_toArray, List.set_cons_zero, List.set_cons_succ]
          refine wpAnyH_take (i := 8) (oi := _) (v := ?vT49) rfl (by kernel_rfl) (by kernel_rfl) (by kernel_rfl) (fun _ _ _ h => h) (Or.inl ⟨by rfl, ?yT49⟩) hHeld ?_
          case yT49 => (intro w hSw; (try dsimp only at hSw); go_simp <;> with_reducible rfl)
          try simp only [Act.put, List.getElem_toArray, List.getElem_cons_zero, List.getElem_cons_succ, List.setIfInBounds_toArray, List.set_cons_zero, List.set_cons_succ]
          have hX := h18
          have fy := vblk_frozen hg8
          have y0 := vblk_cell hg8 0
          have y1 := vblk_cell hg8 1
          have y2 := vblk_cell hg8 2
          have y3 := vblk_cell hg8 3
          have y4 := vblk_cell hg8 4
          have y5 := vblk_cell hg8 5
          simp only [List.getElem?_toArray, List.getElem?_cons_succ, List.getElem?_cons_zero] at y0 y1 y2 y3 y4 y5
          refine wpAnyH_ready (rs := [10]) (by kernel_rfl) (by simp) ?_
          refine AllReadyH.cons rfl (fun K hK => ?_) AllReadyH.nil
          go_simp
          clear hHeld
          refine hK.out _ _ ?U50 (fun hHeld => ?_)
          case U50 => (have hA3 := (hX.block w.heap.size (by omega)).trans hAz; exact ⟨vblk_cell (cells_put (cells_put (cells_put (cells_put (cells_put (cells_put hA3 (by omega) _ _) (by omega) _ _) (by omega) _ _) (by omega) _ _) (by omega) _ _) (by omega) _ _) 0, vblk_cell (cells_put (cells_put (cells_put (cells_put (cells_put (cells_put hA3 (by omega) _ _) (by omega) _ _) (by omega) _ _) (by omega) _ _) (by omega) _ _) (by omega) _ _) 1, vblk_cell (cells_put (cells_put (cells_put (cells_put (cells_put (cells_put hA3 (by omega) _ _) (by omega) _ _) (by omega) _ _) (by omega) _ _) (by omega) _ _) (by omega) _ _) 2, vblk_cell (cells_put (cells_put (cells_put (cells_put (cells_put (cells_put hA3 (by omega) _ _) (by omega) _ _) (by omega) _ _) (by omega) _ _) (by omega) _ _) (by omega) _ _) 3⟩)
          clear hK K
          try simp only [Act.put, List.getElem_toArray, List.getElem_cons_zero, List.getElem_cons_succ, List.setIfInBounds_toArray, List.set_cons_zero, List.set_cons_succ]
          refine wpAnyH_take (i := 11) (oi := _) (v := ?vT51) rfl (by kernel_rfl) (by kernel_rfl) (by kernel_rfl) (fun _ _ _ h => h) (Or.inl ⟨by rfl, ?yT51⟩) hHeld ?_
          case yT51 => (intro w hSw; (try dsimp only at hSw); go_simp <;> with_reducible rfl)
          try simp only [Act.put, List.getElem_toArray, List.getElem_cons_zero, List.getElem_cons_succ, List.setIfInBounds_toArray, List.set_cons_zero, List.set_cons_succ]
          refine wpAnyH_done (by kernel_rfl) ?_ _
          clear hHeld
          obtain ⟨wY, hWY⟩ : ∃ wY, wY = ((((((wa18.setCell ⟨g8, 0, none⟩ (.string DD.name)).setCell ⟨g8, 1, none⟩ (.int .i64 DD.vA)).setCell ⟨g8, 2, none⟩ (.int .i64 DD.vB)).setCell ⟨g8, 3, none⟩ (.int .i64 DD.vC)).setCell ⟨g8, 4, none⟩ (.slice a0 DD.vP.length cap0)).setCell ⟨g8, 5, none⟩ (.slice a1 DD.needs.length cap1)) := ⟨_, rfl⟩
          rw [← hWY]
          have hY : Below wz.heap.size wz wY := by rw [hWY]; (repeat (refine Below.setCell ?_ (by simp; omega) _)); exact hX
          have hb8 : wY.heap[g8]? = some (.cells #[.string DD.name, .int .i64 DD.vA, .int .i64 DD.vB, .int .i64 DD.vC, .slice a0 DD.vP.length cap0, .slice a1 DD.needs.length cap1] 35 (0, 0)) := by
            rw [hWY]
            have h6 := heap_setCell_same _ g8 5 _ _ (.slice a1 DD.needs.length cap1) (heap_setCell_same _ g8 4 _ _ (.slice a0 DD.vP.length cap0) (heap_setCell_same _ g8 3 _ _ (.int .i64 DD.vC) (heap_setCell_same _ g8 2 _ _ (.int .i64 DD.vB) (heap_setCell_same _ g8 1 _ _ (.int .i64 DD.vA) (heap_setCell_same _ g8 0 _ _ (.string DD.name) hg8)))))
            simpa only [List.setIfInBounds_toArray, List.set_cons_succ, List.set_cons_zero] using h6
          clear hWY y0 y1 y2 y3 y4 y5 fy hg8 hX
          have z0 := vblk_cell hb8 0
          have z1 := vblk_cell hb8 1
          have z2 := vblk_cell hb8 2
          have z3 := vblk_cell hb8 3
          have z4 := vblk_cell hb8 4
          have z5 := vblk_cell hb8 5
          simp only [List.getElem?_toArray, List.getElem?_cons_succ, List.getElem?_cons_zero] at z0 z1 z2 z3 z4 z5
          go_wp2_with fail
          go_at_call 72
          refine (HC.out a0 cap0 a1 cap1 hlz _ hY).mono ?_
          rintro e wC ⟨cs9, rfl, hl9, bC⟩
          have hRC := (bC.block (w.heap.size + 1) (by have := hY.size; omega)).trans ((hY.block (w.heap.size + 1) (by omega)).trans hRz)
          have kC : Below wz.heap.size wz wC := hY.trans (bC.mono hY.size)
          have sC := hY.size
          have HO : Hid (∀ W : World, W.heap.size = wC.heap.size → Kp (fun b => b ≠ w.heap.size + 1) wC W → shEntryO.lies (Ow w.heap.size W.heap.size) W cs9 DD) := fun W hs hk => shEntryO.mono (Ow.mono (by omega) (by omega)) (shEntryO.keep (S := Ow wY.heap.size wC.heap.size) (fun b hb => hk b (by have := hb.1; show b ≠ _; omega)) hl9)
          obtain ⟨v0, v1, rfl, _, q0, _, q1⟩ := id hl9
          obtain ⟨f0, m0, ef0⟩ := q0.slice
          subst ef0
          obtain ⟨f1, m1, ef1⟩ := q1.slice
          subst ef1
          have fr := vblk_frozen hRC
          have r0 := vblk_cell hRC 0
          have r1 := vblk_cell hRC 1
          have r2 := vblk_cell hRC 2
          have r3 := vblk_cell hRC 3
          have r4 := vblk_cell hRC 4
          have r5 := vblk_cell hRC 5
          simp only [List.getElem?_toArray, List.getElem?_cons_succ, List.getElem?_cons_zero] at r0 r1 r2 r3 r4 r5
          clear hl9 q0 q1 z0 z1 z2 z3 z4 z5 hb8 HC hAz hRz hRC
          go_wp2_with fail
          refine bodyPost_ret (v := .tuple #[.agg #[.string DD.name, .int .i64 DD.vA, .int .i64 DD.vB, .int .i64 DD.vC, .slice f0 DD.vP.length m0, .slice f1 DD.needs.length m1], .bool true]) (by simp [results, Tryz.results16, go_sem, r0, r1, r2, r3, r4, r5]) rfl ⟨_, rfl, HO.out _ (by simp [World.setCell]) ?_, ?_⟩
          · (repeat (refine Kp.trans ?_ (Kp.set (by simp))))
            exact fun b hb => rfl
          · (repeat (refine Below.setCell ?_ (by simp) _))
            exact hwz.trans (kC.mono (by omega))
      · go_simp
        have kz20 : Below (wm14).heap.size (wm14) ((wm14).alloc (.cells #[.string ⟨#[]⟩, .int .i64 0, .int .i64 0, .int .i64 0, .slice none 0 0, .slice none 0 0] 35 (0, 0))) := (Below.refl _ _).alloc (Nat.le_refl _) _
        have h20 : Below wz.heap.size wz ((wm14).alloc (.cells #[.string ⟨#[]⟩, .int .i64 0, .int .i64 0, .int .i64 0, .slice none 0 0, .slice none 0 0] 35 (0, 0))) := (h14).trans (kz20.mono (h14).size)
        have hg8 : ((wm14).alloc (.cells #[.string ⟨#[]⟩, .int .i64 0, .int .i64 0, .int .i64 0, .slice none 0 0, .slice none 0 0] 35 (0, 0))).heap[(wm14).heap.size]? = some (.cells #[.string ⟨#[]⟩, .int .i64 0, .int .i64 0, .int .i64 0, .slice none 0 0, .slice none 0 0] 35 (0, 0)) := vheap_new _ _
        have h8 : wz.heap.size ≤ (wm14).heap.size := (h14).size
        have hmap := hmap.below kz20
        clear hHeld
        refine hK.out _ ((wm14).alloc (.cells #[.string ⟨#[]⟩, .int .i64 0, .int .i64 0, .int .i64 0, .slice none 0 0, .slice none 0 0] 35 (0, 0))) ?G920 (fun hHeld => ?_)
        case G920 => (exact KEEP.out _ h20)
        clear hK K
        try simp only [Act.put, List.getElem_toArray, List.getElem_cons_zero, List.getElem_cons_succ, List.setIfInBounds_toArray, List.set_cons_zero, List.set_cons_succ]
        obtain ⟨g8, hge⟩ : ∃ g, g = (wm14).heap.size := ⟨_, rfl⟩
        rw [← hge] at hg8 h8
        try rw [← hge]
        obtain ⟨wa20, hwa⟩ : ∃ wa, wa = (wm14).alloc (.cells #[.string ⟨#[]⟩, .int .i64 0, .int .i64 0, .int .i64 0, .slice none 0 0, .slice none 0 0] 35 (0, 0)) := ⟨_, rfl⟩
        rw [← hwa] at hg8 h20 hmap
        try rw [← hwa]
        clear hge hwa kz20
        refine wpAnyH_ready (rs := [4]) (by kernel_rfl) (by simp) ?_
        refine AllReadyH.cons rfl (fun K hK => ?_) AllReadyH.nil
        go_simp
        go_wp2_with (go_at_call 81; refine (HK.out _ h20).mono ?_; rintro e wk21 ⟨rfl, bk21⟩)
        have h21 : Below wz.heap.size wz wk21 := (h20).trans (bk21.mono (h20).size)
        have hmap := hmap.below bk21
        have hg8 := box_below hg8 bk21
        clear hHeld
        refine hK.out _ _ ?G52 (fun hHeld => ?_)
        case G52 => ((try dsimp only); exact KEEP.out _ h21)
        clear hK K
        try simp only [Act.put, List.getElem_toArray, List.getElem_cons_zero, List.getElem_cons_succ, List.setIfInBounds_toArray, List.set_cons_zero, List.set_cons_succ]
        refine wpAnyH_ready (rs := [5]) (by kernel_rfl) (by simp) ?_
        refine AllReadyH.cons rfl (fun K hK => ?_) AllReadyH.nil
        have hrun := LOOK.out a0 cap0 a1 cap1 _ mb hmap
        go_simp
        clear hHeld
        refine hK.out _ _ ?G53 (fun hHeld => ?_)
        case G53 => ((try dsimp only); exact KEEP.out _ h21)
        clear hK K
        try simp only [Act.put, List.getElem_toArray, List.getElem_cons_zero, List.getElem_cons_succ, List.setIfInBounds_toArray, List.set_cons_zero, List.set_cons_succ]
        clear hrun
        refine wpAnyH_take (i := 6) (oi := _) (v := ?vT54) rfl (by kernel_rfl) (by kernel_rfl) (by kernel_rfl) (fun _ _ _ h => h) (Or.inl ⟨by rfl, ?yT54⟩) hHeld ?_
        case yT54 => (intro w hSw; (try dsimp only at hSw); go_simp <;> with_reducible rfl)
        try simp only [Act.put, List.getElem_toArray, List.getElem_cons_zero, List.getElem_cons_succ, List.setIfInBounds_toArray, List.set_cons_zero, List.set_cons_succ]
        refine wpAnyH_take (i := 7) (oi := _) (v := ?vT55) rfl (by kernel_rfl) (by kernel_rfl) (by kernel_rfl) (fun _ _ _ h => h) (Or.inl ⟨by rfl, ?yT55⟩) hHeld ?_
        case yT55 => (intro w hSw; (try dsimp only at hSw); go_simp <;> with_reducible rfl)
        try simp only [Act.put, List.getElem_toArray, List.getElem_cons_zero, List.getElem_cons_succ, List.setIfInBounds_toArray, List.set_cons_zero, List.set_cons_succ]
        refine wpAnyH_take (i := 8) (oi := _) (v := ?vT56) rfl (by kernel_rfl) (by kernel_rfl) (by kernel_rfl) (fun _ _ _ h => h) (Or.inl ⟨by rfl, ?yT56⟩) hHeld ?_
        case yT56 => (intro w hSw; (try dsimp only at hSw); go_simp <;> with_reducible rfl)
        try simp only [Act.put, List.getElem_toArray, List.getElem_cons_zero, List.getElem_cons_succ, List.setIfInBounds_toArray, List.set_cons_zero, List.set_cons_succ]
        have hX := h21
        have fy := vblk_frozen hg8
        have y0 := vblk_cell hg8 0
        have y1 := vblk_cell hg8 1
        have y2 := vblk_cell hg8 2
        have y3 := vblk_cell hg8 3
        have y4 := vblk_cell hg8 4
        have y5 := vblk_cell hg8 5
        simp only [List.getElem?_toArray, List.getElem?_cons_succ, List.getElem?_cons_zero] at y0 y1 y2 y3 y4 y5
        refine wpAnyH_ready (rs := [10]) (by kernel_rfl) (by simp) ?_
        refine AllReadyH.cons rfl (fun K hK => ?_) AllReadyH.nil
        go_simp
        clear hHeld
        refine hK.out _ _ ?U57 (fun hHeld => ?_)
        case U57 => (have hA3 := (hX.block w.heap.size (by omega)).trans hAz; exact ⟨vblk_cell (cells_put (cells_put (cells_put (cells_put (cells_put (cells_put hA3 (by omega) _ _) (by omega) _ _) (by omega) _ _) (by omega) _ _) (by omega) _ _) (by omega) _ _) 0, vblk_cell (cells_put (cells_put (cells_put (cells_put (cells_put (cells_put hA3 (by omega) _ _) (by omega) _ _) (by omega) _ _) (by omega) _ _) (by omega) _ _) (by omega) _ _) 1, vblk_cell (cells_put (cells_put (cells_put (cells_put (cells_put (cells_put hA3 (by omega) _ _) (by omega) _ _) (by omega) _ _) (by omega) _ _) (by omega) _ _) (by omega) _ _) 2, vblk_cell (cells_put (cells_put (cells_put (cells_put (cells_put (cells_put hA3 (by omega) _ _) (by omega) _ _) (by omega) _ _) (by omega) _ _) (by omega) _ _) (by omega) _ _) 3⟩)
        clear hK K
        try simp only [Act.put, List.getElem_toArray, List.getElem_cons_zero, List.getElem_cons_succ, List.setIfInBounds_toArray, List.set_cons_zero, List.set_cons_succ]
        refine wpAnyH_take (i := 11) (oi := _) (v := ?vT58) rfl (by kernel_rfl) (by kernel_rfl) (by kernel_rfl) (fun _ _ _ h => h) (Or.inl ⟨by rfl, ?yT58⟩) hHeld ?_
        case yT58 => (intro w hSw; (try dsimp only at hSw); go_simp <;> with_reducible rfl)
        try simp only [Act.put, List.getElem_toArray, List.getElem_cons_zero, List.getElem_cons_succ, List.setIfInBounds_toArray, List.set_cons_zero, List.set_cons_succ]
        refine wpAnyH_done (by kernel_rfl) ?_ _
        clear hHeld
        obtain ⟨wY, hWY⟩ : ∃ wY, wY = ((((((wk21.setCell ⟨g8, 0, none⟩ (.string DD.name)).setCell ⟨g8, 1, none⟩ (.int .i64 DD.vA)).setCell ⟨g8, 2, none⟩ (.int .i64 DD.vB)).setCell ⟨g8, 3, none⟩ (.int .i64 DD.vC)).setCell ⟨g8, 4, none⟩ (.slice a0 DD.vP.length cap0)).setCell ⟨g8, 5, none⟩ (.slice a1 DD.needs.length cap1)) := ⟨_, rfl⟩
        rw [← hWY]
        have hY : Below wz.heap.size wz wY := by rw [hWY]; (repeat (refine Below.setCell ?_ (by simp; omega) _)); exact hX
        have hb8 : wY.heap[g8]? = some (.cells #[.string DD.name, .int .i64 DD.vA, .int .i64 DD.vB, .int .i64 DD.vC, .slice a0 DD.vP.length cap0, .slice a1 DD.needs.length cap1] 35 (0, 0)) := by
          rw [hWY]
          have h6 := heap_setCell_same _ g8 5 _ _ (.slice a1 DD.needs.length cap1) (heap_setCell_same _ g8 4 _ _ (.slice a0 DD.vP.length cap0) (heap_setCell_same _ g8 3 _ _ (.int .i64 DD.vC) (heap_setCell_same _ g8 2 _ _ (.int .i64 DD.vB) (heap_setCell_same _ g8 1 _ _ (.int .i64 DD.vA) (heap_setCell_same _ g8 0 _ _ (.string DD.name) hg8)))))
          simpa only [List.setIfInBounds_toArray, List.set_cons_succ, List.set_cons_zero] using h6
        clear hWY y0 y1 y2 y3 y4 y5 fy hg8 hX
        have z0 := vblk_cell hb8 0
        have z1 := vblk_cell hb8 1
        have z2 := vblk_cell hb8 2
        have z3 := vblk_cell hb8 3
        have z4 := vblk_cell hb8 4
        have z5 := vblk_cell hb8 5
        simp only [List.getElem?_toArray, List.getElem?_cons_succ, List.getElem?_cons_zero] at z0 z1 z2 z3 z4 z5
        go_wp2_with fail
        go_at_call 72
        refine (HC.out a0 cap0 a1 cap1 hlz _ hY).mono ?_
        rintro e wC ⟨cs9, rfl, hl9, bC⟩
        have hRC := (bC.block (w.heap.size + 1) (by have := hY.size; omega)).trans ((hY.block (w.heap.size + 1) (by omega)).trans hRz)
        have kC : Below wz.heap.size wz wC := hY.trans (bC.mono hY.size)
        have sC := hY.size
        have HO : Hid (∀ W : World, W.heap.size = wC.heap.size → Kp (fun b => b ≠ w.heap.size + 1) wC W → shEntryO.lies (Ow w.heap.size W.heap.size) W cs9 DD) := fun W hs hk => shEntryO.mono (Ow.mono (by omega) (by omega)) (shEntryO.keep (S := Ow wY.heap.size wC.heap.size) (fun b hb => hk b (by have := hb.1; show b ≠ _; omega)) hl9)
        obtain ⟨v0, v1, rfl, _, q0, _, q1⟩ := id hl9
        obtain ⟨f0, m0, ef0⟩ := q0.slice
        subst ef0
        obtain ⟨f1, m1, ef1⟩ := q1.slice
        subst ef1
        have fr := vblk_frozen hRC
        have r0 := vblk_cell hRC 0
        have r1 := vblk_cell hRC 1
        have r2 := vblk_cell hRC 2
        have r3 := vblk_cell hRC 3
        have r4 := vblk_cell hRC 4
        have r5 := vblk_cell hRC 5
        simp only [List.getElem?_toArray, List.getElem?_cons_succ, List.getElem?_cons_zero] at r0 r1 r2 r3 r4 r5
        clear hl9 q0 q1 z0 z1 z2 z3 z4 z5 hb8 HC hAz hRz hRC
        go_wp2_with fail
        refine bodyPost_ret (v := .tuple #[.agg #[.string DD.name, .int .i64 DD.vA, .int .i64 DD.vB, .int .i64 DD.vC, .slice f0 DD.vP.length m0, .slice f1 DD.needs.length m1], .bool true]) (by simp [results, Tryz.results16, go_sem, r0, r1, r2, r3, r4, r5]) rfl ⟨_, rfl, HO.out _ (by simp [World.setCell]) ?_, ?_⟩
        · (repeat (refine Kp.trans ?_ (Kp.set (by simp))))
          exact fun b hb => rfl
        · (repeat (refine Below.setCell ?_ (by simp) _))
          exact hwz.trans (kC.mono (by omega))
    · go_simp
      have kz23 : Below (wd).heap.size (wd) ((wd).alloc (.cells #[.string ⟨#[]⟩, .int .i64 0, .int .i64 0, .int .i64 0, .slice none 0 0, .slice none 0 0] 35 (0, 0))) := (Below.refl _ _).alloc (Nat.le_refl _) _
      have h23 : Below wz.heap.size wz ((wd).alloc (.cells #[.string ⟨#[]⟩, .int .i64 0, .int .i64 0, .int .i64 0, .slice none 0 0, .slice none 0 0] 35 (0, 0))) := (h0).trans (kz23.mono (h0).size)
      have hg8 : ((wd).alloc (.cells #[.string ⟨#[]⟩, .int .i64 0, .int .i64 0, .int .i64 0, .slice none 0 0, .slice none 0 0] 35 (0, 0))).heap[(wd).heap.size]? = some (.cells #[.string ⟨#[]⟩, .int .i64 0, .int .i64 0, .int .i64 0, .slice none 0 0, .slice none 0 0] 35 (0, 0)) := vheap_new _ _
      have h8 : wz.heap.size ≤ (wd).heap.size := (h0).size
      clear hHeld
      refine hK.out _ ((wd).alloc (.cells #[.string ⟨#[]⟩, .int .i64 0, .int .i64 0, .int .i64 0, .slice none 0 0, .slice none 0 0] 35 (0, 0))) ?G923 (fun hHeld => ?_)
      case G923 => (exact KEEP.out _ h23)
      clear hK K
      try simp only [Act.put, List.getElem_toArray, List.getElem_cons_zero, List.getElem_cons_succ, List.setIfInBounds_toArray, List.set_cons_zero, List.set_cons_succ]
      obtain ⟨g8, hge⟩ : ∃ g, g = (wd).heap.size := ⟨_, rfl⟩
      rw [← hge] at hg8 h8
      try rw [← hge]
      obtain ⟨wa23, hwa⟩ : ∃ wa, wa = (wd).alloc (.cells #[.string ⟨#[]⟩, .int .i64 0, .int .i64 0, .int .i64 0, .slice none 0 0, .slice none 0 0] 35 (0, 0)) := ⟨_, rfl⟩
      rw [← hwa] at hg8 h23
      try rw [← hwa]
      clear hge hwa kz23
      refine wpAnyH_ready (rs := [1]) (by kernel_rfl) (by simp) ?_
      refine AllReadyH.cons rfl (fun K hK => ?_) AllReadyH.nil
      go_simp
      go_wp2_with (go_at_call 80; refine (HM.out _ h23).mono ?_; rintro e wm24 ⟨mb, rfl, ⟨a0, cap0, a1, cap1, hlz, hmap⟩, bm24⟩)
      have h24 : Below wz.heap.size wz wm24 := (h23).trans (bm24.mono (h23).size)
      have hg8 := box_below hg8 bm24
      clear hHeld
      refine hK.out _ _ ?G59 (fun hHeld => ?_)
      case G59 => ((try dsimp only); exact KEEP.out _ h24)
      clear hK K
      try simp only [Act.put, List.getElem_toArray, List.getElem_cons_zero, List.getElem_cons_succ, List.setIfInBounds_toArray, List.set_cons_zero, List.set_cons_succ]
      refine wpAnyH_ready (rs := [4]) (by kernel_rfl) (by simp) ?_
      refine AllReadyH.cons rfl (fun K hK => ?_) AllReadyH.nil
      go_simp
      go_wp2_with (go_at_call 81; refine (HK.out _ h24).mono ?_; rintro e wk25 ⟨rfl, bk25⟩)
      have h25 : Below wz.heap.size wz wk25 := (h24).trans (bk25.mono (h24).size)
      have hmap := hmap.below bk25
      have hg8 := box_below hg8 bk25
      clear hHeld
      refine hK.out _ _ ?G60 (fun hHeld => ?_)
      case G60 => ((try dsimp only); exact KEEP.out _ h25)
      clear hK K
      try simp only [Act.put, List.getElem_toArray, List.getElem_cons_zero, List.getElem_cons_succ, List.setIfInBounds_toArray, List.set_cons_zero, List.set_cons_succ]
      refine wpAnyH_ready (rs := [5]) (by kernel_rfl) (by simp) ?_
      refine AllReadyH.cons rfl (fun K hK => ?_) AllReadyH.nil
      have hrun := LOOK.out a0 cap0 a1 cap1 _ mb hmap
      go_simp
      clear hHeld
      refine hK.out _ _ ?G61 (fun hHeld => ?_)
      case G61 => ((try dsimp only); exact KEEP.out _ h25)
      clear hK K
      try simp only [Act.put, List.getElem_toArray, List.getElem_cons_zero, List.getElem_cons_succ, List.setIfInBounds_toArray, List.set_cons_zero, List.set_cons_succ]
      clear hrun
      refine wpAnyH_take (i := 6) (oi := _) (v := ?vT62) rfl (by kernel_rfl) (by kernel_rfl) (by kernel_rfl) (fun _ _ _ h => h) (Or.inl ⟨by rfl, ?yT62⟩) hHeld ?_
      case yT62 => (intro w hSw; (try dsimp only at hSw); go_simp <;> with_reducible rfl)
      try simp only [Act.put, List.getElem_toArray, List.getElem_cons_zero, List.getElem_cons_succ, List.setIfInBounds_toArray, List.set_cons_zero, List.set_cons_succ]
      refine wpAnyH_take (i := 7) (oi := _) (v := ?vT63) rfl (by kernel_rfl) (by kernel_rfl) (by kernel_rfl) (fun _ _ _ h => h) (Or.inl ⟨by rfl, ?yT63⟩) hHeld ?_
      case yT63 => (intro w hSw; (try dsimp only at hSw); go_simp <;> with_reducible rfl)
      try simp only [Act.put, List.getElem_toArray, List.getElem_cons_zero, List.getElem_cons_succ, List.setIfInBounds_toArray, List.set_cons_zero, List.set_cons_succ]
      refine wpAnyH_take (i := 8) (oi := _) (v := ?vT64) rfl (by kernel_rfl) (by kernel_rfl) (by kernel_rfl) (fun _ _ _ h => h) (Or.inl ⟨by rfl, ?yT64⟩) hHeld ?_
      case yT64 => (intro w hSw; (try dsimp only at hSw); go_simp <;> with_reducible rfl)
      try simp only [Act.put, List.getElem_toArray, List.getElem_cons_zero, List.getElem_cons_succ, List.setIfInBounds_toArray, List.set_cons_zero, List.set_cons_succ]
      have hX := h25
      have fy := vblk_frozen hg8
      have y0 := vblk_cell hg8 0
      have y1 := vblk_cell hg8 1
      have y2 := vblk_cell hg8 2
      have y3 := vblk_cell hg8 3
      have y4 := vblk_cell hg8 4
      have y5 := vblk_cell hg8 5
      simp only [List.getElem?_toArray, List.getElem?_cons_succ, List.getElem?_cons_zero] at y0 y1 y2 y3 y4 y5
      refine wpAnyH_ready (rs := [10]) (by kernel_rfl) (by simp) ?_
      refine AllReadyH.cons rfl (fun K hK => ?_) AllReadyH.nil
      go_simp
      clear hHeld
      refine hK.out _ _ ?U65 (fun hHeld => ?_)
      case U65 => (have hA3 := (hX.block w.heap.size (by omega)).trans hAz; exact ⟨vblk_cell (cells_put (cells_put (cells_put (cells_put (cells_put (cells_put hA3 (by omega) _ _) (by omega) _ _) (by omega) _ _) (by omega) _ _) (by omega) _ _) (by omega) _ _) 0, vblk_cell (cells_put (cells_put (cells_put (cells_put (cells_put (cells_put hA3 (by omega) _ _) (by omega) _ _) (by omega) _ _) (by omega) _ _) (by omega) _ _) (by omega) _ _) 1, vblk_cell (cells_put (cells_put (cells_put (cells_put (cells_put (cells_put hA3 (by omega) _ _) (by omega) _ _) (by omega) _ _) (by omega) _ _) (by omega) _ _) (by omega) _ _) 2, vblk_cell (cells_put (cells_put (cells_put (cells_put (cells_put (cells_put hA3 (by omega) _ _) (by omega) _ _) (by omega) _ _) (by omega) _ _) (by omega) _ _) (by omega) _ _) 3⟩)
      clear hK K
      try simp only [Act.put, List.getElem_toArray, List.getElem_cons_zero, List.getElem_cons_succ, List.setIfInBounds_toArray, List.set_cons_zero, List.set_cons_succ]
      refine wpAnyH_take (i := 11) (oi := _) (v := ?vT66) rfl (by kernel_rfl) (by kernel_rfl) (by kernel_rfl) (fun _ _ _ h => h) (Or.inl ⟨by rfl, ?yT66⟩) hHeld ?_
      case yT66 => (intro w hSw; (try dsimp only at hSw); go_simp <;> with_reducible rfl)
      try simp only [Act.put, List.getElem_toArray, List.getElem_cons_zero, List.getElem_cons_succ, List.setIfInBounds_toArray, List.set_cons_zero, List.set_cons_succ]
      refine wpAnyH_done (by kernel_rfl) ?_ _
      clear hHeld
      obtain ⟨wY, hWY⟩ : ∃ wY, wY = ((((((wk25.setCell ⟨g8, 0, none⟩ (.string DD.name)).setCell ⟨g8, 1, none⟩ (.int .i64 DD.vA)).setCell ⟨g8, 2, none⟩ (.int .i64 DD.vB)).setCell ⟨g8, 3, none⟩ (.int .i64 DD.vC)).setCell ⟨g8, 4, none⟩ (.slice a0 DD.vP.length cap0)).setCell ⟨g8, 5, none⟩ (.slice a1 DD.needs.length cap1)) := ⟨_, rfl⟩
      rw [← hWY]
      have hY : Below wz.heap.size wz wY := by rw [hWY]; (repeat (refine Below.setCell ?_ (by simp; omega) _)); exact hX
      have hb8 : wY.heap[g8]? = some (.cells #[.string DD.name, .int .i64 DD.vA, .int .i64 DD.vB, .int .i64 DD.vC, .slice a0 DD.vP.length cap0, .slice a1 DD.needs.length cap1] 35 (0, 0)) := by
        rw [hWY]
        have h6 := heap_setCell_same _ g8 5 _ _ (.slice a1 DD.needs.length cap1) (heap_setCell_same _ g8 4 _ _ (.slice a0 DD.vP.length cap0) (heap_setCell_same _ g8 3 _ _ (.int .i64 DD.vC) (heap_setCell_same _ g8 2 _ _ (.int .i64 DD.vB) (heap_setCell_same _ g8 1 _ _ (.int .i64 DD.vA) (heap_setCell_same _ g8 0 _ _ (.string DD.name) hg8)))))
        simpa only [List.setIfInBounds_toArray, List.set_cons_succ, List.set_cons_zero] using h6
      clear hWY y0 y1 y2 y3 y4 y5 fy hg8 hX
      have z0 := vblk_cell hb8 0
      have z1 := vblk_cell hb8 1
      have z2 := vblk_cell hb8 2
      have z3 := vblk_cell hb8 3
      have z4 := vblk_cell hb8 4
      have z5 := vblk_cell hb8 5
      simp only [List.getElem?_toArray, List.getElem?_cons_succ, List.getElem?_cons_zero] at z0 z1 z2 z3 z4 z5
      go_wp2_with fail
      go_at_call 72
      refine (HC.out a0 cap0 a1 cap1 hlz _ hY).mono ?_
      rintro e wC ⟨cs9, rfl, hl9, bC⟩
      have hRC := (bC.block (w.heap.size + 1) (by have := hY.size; omega)).trans ((hY.block (w.heap.size + 1) (by omega)).trans hRz)
      have kC : Below wz.heap.size wz wC := hY.trans (bC.mono hY.size)
      have sC := hY.size
      have HO : Hid (∀ W : World, W.heap.size = wC.heap.size → Kp (fun b => b ≠ w.heap.size + 1) wC W → shEntryO.lies (Ow w.heap.size W.heap.size) W cs9 DD) := fun W hs hk => shEntryO.mono (Ow.mono (by omega) (by omega)) (shEntryO.keep (S := Ow wY.heap.size wC.heap.size) (fun b hb => hk b (by have := hb.1; show b ≠ _; omega)) hl9)
      obtain ⟨v0, v1, rfl, _, q0, _, q1⟩ := id hl9
      obtain ⟨f0, m0, ef0⟩ := q0.slice
      subst ef0
      obtain ⟨f1, m1, ef1⟩ := q1.slice
      subst ef1
      have fr := vblk_frozen hRC
      have r0 := vblk_cell hRC 0
      have r1 := vblk_cell hRC 1
      have r2 := vblk_cell hRC 2
      have r3 := vblk_cell hRC 3
      have r4 := vblk_cell hRC 4
      have r5 := vblk_cell hRC 5
      simp only [List.getElem?_toArray, List.getElem?_cons_succ, List.getElem?_cons_zero] at r0 r1 r2 r3 r4 r5
      clear hl9 q0 q1 z0 z1 z2 z3 z4 z5 hb8 HC hAz hRz hRC
      go_wp2_with fail
      refine bodyPost_ret (v := .tuple #[.agg #[.string DD.name, .int .i64 DD.vA, .int .i64 DD.vB, .int .i64 DD.vC, .slice f0 DD.vP.length m0, .slice f1 DD.needs.length m1], .bool true]) (by simp [results, Tryz.results16, go_sem, r0, r1, r2, r3, r4, r5]) rfl ⟨_, rfl, HO.out _ (by simp [World.setCell]) ?_, ?_⟩
      · (repeat (refine Kp.trans ?_ (Kp.set (by simp))))
        exact fun b hb => rfl
      · (repeat (refine Below.setCell ?_ (by simp) _))
        exact hwz.trans (kC.mono (by omega))
end Go.Proofs.YtlfmefojcmpfeaaGreatDoor
