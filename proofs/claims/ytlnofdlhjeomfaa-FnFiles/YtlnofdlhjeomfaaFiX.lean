/-
  A file put into a row of files that has no room, by slices.Insert: a contract for the walks; conditions: the row is of memory of one's own, and holds at most 2 to the 20.
-/
import Derived.Test.YtlnofdlhjeomfaaFiW
namespace Go.Proofs.Ytlnofdlhjeomfaa
open Go.RowKit Go.Maps
set_option linter.unusedSimpArgs false
set_option linter.unusedVariables false

theorem setL_grow {A Z T : List Value} {p t : Value} {i n : Nat} (hA : A.length = i * 2) (hZ : Z.length = (n + 1 - i) * 2) (hT : T.length = (n - i) * 2) (hi : i < n) : setL (setL (A ++ Z) (i * 2) [p, t]) ((i + 1) * 2) T = A ++ [p, t] ++ T := by
  have e1 : setL (A ++ Z) (i * 2) [p, t] = A ++ [p, t] ++ Z.drop 2 := by
    rw [setL_eq _ _ _ (by rw [List.length_append]; simp only [List.length_cons, List.length_nil]; omega)]
    simp only [List.length_cons, List.length_nil]
    rw [List.take_left' (by omega), show i * 2 + (0 + 1 + 1) = A.length + 2 by omega, List.drop_append]
    simp
  have hAl : (A ++ [p, t]).length = (i + 1) * 2 := by rw [List.length_append]; simp only [List.length_cons, List.length_nil]; omega
  rw [e1, setL_eq _ _ _ (by rw [List.length_append, hAl, List.length_drop]; omega), List.take_left' hAl, List.drop_eq_nil_of_le (by rw [List.length_append, hAl, List.length_drop]; omega), List.append_nil]

set_option maxHeartbeats 4000000 in
set_option maxRecDepth 100000 in
theorem insertGrow_c (base g cap : Nat) (fs : List FileD) (f : FileD) (i vb : Nat) (w : World) (hx : w.ownsRow base 26 2 (.slice (some ⟨g, 0, none⟩) fs.length cap) fs.length (cellsF fs)) (hil : i < fs.length) (hroom : cap < fs.length + 1) (hl : fs.length ≤ 1048576) (hbase : base ≤ w.heap.size) (hv : w.heap[vb]? = some (.cells #[.string f.p, .string f.t] 26 (0, 0))) :
    Calls Try.prog 83 #[.slice (some ⟨g, 0, none⟩) fs.length cap, .int .i64 (i : Int), .slice (some ⟨vb, 0, none⟩) 1 1] w (InsOut base fs f i w) := by
  obtain ⟨i0, hi, hz0, hz1, hz2⟩ := info_parts infoFile
  have hgl : g < w.heap.size := (hx.lt g rfl).2
  have hvl : vb < w.heap.size := (Array.getElem?_eq_some_iff.1 hv).1
  have hncap : fs.length ≤ cap := by
    rcases hx.2 with ⟨h', _⟩ | ⟨g', cap', cur, h', _, _, hnc, hcm, _⟩
    · cases h'
    · cases h'; exact hnc
  have h1v : ∀ u ∈ ([.string f.p, .string f.t] : List Value), u.oneCell' = true := fun u hu => by simp at hu; rcases hu with rfl | rfl <;> rfl
  have hsz : (Try.prog.info? 26).map (·.size) = some 2 := by rw [hi]; simp [hz1]
  obtain ⟨n, hn⟩ : ∃ n, n = fs.length := ⟨_, rfl⟩
  obtain ⟨C, hC⟩ : ∃ C, C = cellsF fs := ⟨_, rfl⟩
  have hCl : C.length = n * 2 := by rw [hC, cellsF_length, hn]
  have h1C : ∀ u ∈ C, u.oneCell' = true := by rw [hC]; exact cellsF_one fs
  have HOUT : Hid (∀ y w', w'.ownsRow base 26 2 y (n + 1) (C.take (i * 2) ++ [.string f.p, .string f.t] ++ C.drop (i * 2)) → Below base w w' → InsOut base fs f i w (.returned y) w') := fun y w' h hb => ⟨y, rfl, by rw [cellsF_ins fs f i (by omega), ← hC, ← hn]; exact h, hb⟩
  rw [← hn] at hx hl hil hroom hncap ⊢
  rw [← hC] at hx
  clear hn hC
  obtain ⟨n1, hn1⟩ : ∃ m, m = n + 1 := ⟨_, rfl⟩
  obtain ⟨i1, hi1⟩ : ∃ m, m = i + 1 := ⟨_, rfl⟩
  obtain ⟨dd, hdd⟩ : ∃ m, m = n1 - i := ⟨_, rfl⟩
  have hid : i + dd = n1 := by omega
  have hcell : ∀ j, j < n * 2 → w.cell? ⟨g, j, none⟩ = C[j]? := fun j hj => hx.cellAt j hj
  have hold : (Builtin.firstCells i0.size i (.slice (some ⟨g, 0, none⟩) i cap)).run Try.prog w.drew = .ok (C.take (i * 2)).toArray w.drew := by
    rw [hz1]
    refine run_firstCells_some w.drew 2 i ⟨g, 0, none⟩ i cap (C.take (i * 2)) (by rw [List.length_take]; omega) (fun j u hj => ?_)
    have hjl := (List.getElem?_eq_some_iff.1 hj).1
    rw [List.length_take] at hjl
    rw [addr_addF, Nat.zero_add]
    show w.cell? _ = _
    rw [hcell _ (by omega)]
    rw [List.getElem?_take] at hj
    split at hj
    · exact hj
    · cases hj
  obtain ⟨G, hG⟩ : ∃ G, G = grownCap w n1 cap 26 := ⟨_, rfl⟩
  have hGn : n1 ≤ G := by rw [hG]; exact grownCap_ge w _ _ _
  have hGm : G ≤ maxLen := by rw [hG]; exact grownCap_le_maxLen w n1 cap 26 (by unfold maxLen; omega)
  obtain ⟨Z, hZ⟩ : ∃ Z, Z = Builtin.zeroCells (Value.agg #[.string ⟨#[]⟩, .string ⟨#[]⟩]).cells dd := ⟨_, rfl⟩
  obtain ⟨Y, hY⟩ : ∃ Y, Y = Builtin.zeroCells (Value.agg #[.string ⟨#[]⟩, .string ⟨#[]⟩]).cells (G - n1) := ⟨_, rfl⟩
  have hZl : Z.size = dd * 2 := by rw [hZ]; simp [Builtin.zeroCells, Value.cells]
  have hZt : Z.toList.length = dd * 2 := by rw [Array.length_toList]; exact hZl
  have hYl : Y.size = (G - n1) * 2 := by rw [hY]; simp [Builtin.zeroCells, Value.cells]
  obtain ⟨W1, hW1⟩ : ∃ W1, W1 = w.drew.alloc (.cells ((C.take (i * 2)).toArray ++ Z ++ Y) 26) := ⟨_, rfl⟩
  have hrz : ∀ ty, (Builtin.append_ #[24, 3] ty #[.slice (some ⟨g, 0, none⟩) i cap, .int .i64 (dd : Int)]).run Try.prog w = .ok (.slice (some ⟨w.heap.size, 0, none⟩) n1 G) W1 := fun ty => by
    have h := Lib.run_append_grow_zeros w 24 3 ty 26 i0 _ .i64 .i64 Try.underlying24 Try.underlying3 hi hz0 (some ⟨g, 0, none⟩) i cap (C.take (i * 2)) hold dd (by omega) (by omega) (by omega) (by omega) (by rw [hz2]; omega) (by rw [hz2, hid]; exact growslice_fits (by omega) (by omega))
    rw [hid, ← hG, ← hZ, ← hY, ← hW1] at h
    exact h
  have hO1 : W1.ownsRow base 26 2 (.slice (some ⟨w.heap.size, 0, none⟩) n1 G) n1 (C.take (i * 2) ++ Z.toList) := by
    refine ⟨by rw [List.length_append, List.length_take, hZt]; omega, .inr ⟨w.heap.size, G, _, rfl, hbase, by rw [hW1]; exact vheap_new w.drew _, hGn, hGm, ?_, ?_⟩⟩
    · rw [Array.size_append, Array.size_append, List.size_toArray, List.length_take]; omega
    · rw [Array.toList_append, Array.toList_append, List.take_left' (by rw [List.length_append, List.length_take, hZt]; omega)]
  have kb1 : Below w.heap.size w W1 := by rw [hW1]; exact ((Below.refl w.heap.size w).drew).alloc (Nat.le_refl _) _
  have kb : Below base w W1 := by rw [hW1]; exact ((Below.refl base w).drew).alloc hbase _
  obtain ⟨W2, hW2⟩ : ∃ W2, W2 = W1.setCells w.heap.size (i * 2) [.string f.p, .string f.t] := ⟨_, rfl⟩
  have hO2 := owns_setCells [.string f.p, .string f.t] _ (i * 2) W1 hO1
  rw [← hW2] at hO2
  have hcpA : ∀ ty dc, (Builtin.copy_ #[24, 24] ty #[.slice (some ⟨w.heap.size, i * 2, none⟩) (n1 - i) dc, .slice (some ⟨vb, 0, none⟩) 1 1]).run Try.prog W1 = .ok (goInt 1) W2 := fun ty dc => by
    rw [hW2]
    refine run_copy2 W1 _ _ ty 26 w.heap.size (i * 2) (n1 - i) dc ⟨vb, 0, none⟩ 1 1 1 _ Try.underlying24 hsz (by show min _ _ = _; omega) rfl (fun j u hj => ?_) (fun j hj => ?_) (fun j hj => hO1.frozenAt _) h1v
    · rw [addr_addF, Nat.zero_add, kb1.cell (by simpa using hvl), vblk_cell hv]
      simpa using hj
    · simp only [List.length_cons, List.length_nil] at hj
      rw [hO1.cellAt (i * 2 + j) (by omega), List.getElem?_eq_getElem (by rw [hO1.1]; omega)]
      rfl
  obtain ⟨T, hT⟩ : ∃ T, T = C.drop (i * 2) := ⟨_, rfl⟩
  have hTl : T.length = (n - i) * 2 := by rw [hT, List.length_drop, hCl]; omega
  obtain ⟨W3, hW3⟩ : ∃ W3, W3 = W2.drew.setCells w.heap.size (i1 * 2) T := ⟨_, rfl⟩
  have hO3 := owns_setCells T _ (i1 * 2) W2.drew (show W2.drew.ownsRow _ _ _ _ _ _ from hO2.1)
  rw [← hW3] at hO3
  have hcpB : ∀ ty dc sc, (Builtin.copy_ #[24, 24] ty #[.slice (some ⟨w.heap.size, i1 * 2, none⟩) (n1 - i1) dc, .slice (some ⟨g, i * 2, none⟩) (n - i) sc]).run Try.prog W2.drew = .ok (goInt ((n - i : Nat) : Int)) W3 := fun ty dc sc => by
    rw [hW3]
    refine run_copy2 W2.drew _ _ ty 26 w.heap.size (i1 * 2) (n1 - i1) dc ⟨g, i * 2, none⟩ (n - i) sc (n - i) T Try.underlying24 hsz (by rw [hn1, hi1]; show min _ _ = _; omega) hTl (fun j u hj => ?_) (fun j hj => ?_) (fun j hj => hO2.1.frozenAt _) (fun u hu => h1C u (by rw [hT] at hu; exact List.mem_of_mem_drop hu))
    · have hjl := (List.getElem?_eq_some_iff.1 hj).1
      rw [addr_addF]
      show W2.cell? _ = _
      rw [hW2, World.cell?_setCells_out _ _ _ _ _ (fun h _ => by simp at h; omega), kb1.cell (by simpa using hgl), hcell _ (by omega)]
      rw [hT, List.getElem?_drop] at hj
      exact hj
    · show (W2.cell? _).isSome = true
      rw [hO2.1.cellAt (i1 * 2 + j) (by omega), List.getElem?_eq_getElem (by rw [hO2.1.1]; omega)]
      rfl
  have hlist : setL (setL (C.take (i * 2) ++ Z.toList) (i * 2) [.string f.p, .string f.t]) (i1 * 2) T = C.take (i * 2) ++ [.string f.p, .string f.t] ++ C.drop (i * 2) := by
    rw [hi1, setL_grow (n := n) (by rw [List.length_take]; omega) (by rw [hZt]; omega) hTl hil, hT]
  rw [hlist, hn1] at hO3
  have HO3 : Hid (W3.ownsRow base 26 2 (.slice (some ⟨w.heap.size, 0, none⟩) (n + 1) G) (n + 1) (C.take (i * 2) ++ [.string f.p, .string f.t] ++ C.drop (i * 2)) ∧ Below base w W3) := ⟨hO3.1, Below.grown kb (grown_trans (grown_trans hO2.2 (grown_of_below (Below.refl _ _).drew _)) hO3.2) (Nat.le_trans hbase kb1.size) (fun j hj => by cases hj; exact hbase)⟩
  have HN1 : Hid (n1 = n + 1) := hn1
  have hn1w : IntKind.i64.wrap ((n : Int) + 1) = (n1 : Int) := (IntWalk.i64_in _ ⟨by omega, by omega⟩).trans (by omega)
  have hi1w : IntKind.i64.wrap ((i : Int) + 1) = (i1 : Int) := (IntWalk.i64_in _ ⟨by omega, by omega⟩).trans (by omega)
  have hddw : IntKind.i64.wrap ((n1 : Int) - (i : Int)) = (dd : Int) := (IntWalk.i64_in _ ⟨by omega, by omega⟩).trans (by omega)
  have mixed : Try.prog.follows .mixedOrders = true := by kernel_rfl
  unfold maxLen at hGm
  have g1 : (i : Int) ≤ (n : Int) := by omega
  have g2 : ¬ ((i : Int) = (n : Int)) := by omega
  have g3 : ((cap : Int) < (n1 : Int)) := by omega
  have g4 : (i : Int) ≤ (cap : Int) := by omega
  have g5 : (i1 : Int) ≤ (n1 : Int) := by omega
  have g6 : (i : Int) ≤ (n1 : Int) := by omega
  have g7 : ¬ (G = i1) := by omega
  have g8 : ¬ (G = i) := by omega
  have g8b : ¬ (cap = i) := by omega
  have g9 : (0 : Int) ≤ (i1 : Int) := by omega
  have g10 : (0 : Int) ≤ (n1 : Int) := by omega
  clear hO1 hO2 hO3 hlist hcell hv hx hn1 hi1 hdd hid hT hTl hW1 hW2 hW3 hCl h1C hroom hold hG hZ hY hZl hZt hYl kb kb1
  go_enter Try.func83, Try.ntmps83
  go_wp2_with (first
    | (at_builtin; refine Lib.wpList_append_run _ rfl _ _ _ _ rfl _ _ rfl rfl _ _ (hrz _) ?_)
    | (at_builtin; refine wpList_copy_runI _ rfl _ _ 24 24 rfl _ _ rfl rfl (hcpA _ _) ?_))
  go_region_law_o (refine step_copy_runI rfl _ _ 24 24 rfl (.slice (some ⟨w.heap.size, i1 * 2, none⟩) (n1 - i1) (G - i1)) (.slice (some ⟨g, i * 2, none⟩) (n - i) (cap - i)) (by simp [Act.eval, Act.put]) (by simp [Act.eval, Act.put]) (hcpB _ _ _) ?_)
  go_wp2_with fail
  go_ret
  refine HOUT.out _ _ ?_ HO3.out.2
  rw [HN1.out]
  exact HO3.out.1

theorem insertF_c (base : Nat) (x : Value) (fs : List FileD) (f : FileD) (i vb : Nat) (w : World) (hx : w.ownsRow base 26 2 x fs.length (cellsF fs)) (hil : i ≤ fs.length) (hl : fs.length ≤ 1048576) (hbase : base ≤ w.heap.size) (hv : w.heap[vb]? = some (.cells #[.string f.p, .string f.t] 26 (0, 0))) (hne : ∀ g, x.ownBlock = some g → vb ≠ g) :
    Calls Try.prog 83 #[x, .int .i64 (i : Int), .slice (some ⟨vb, 0, none⟩) 1 1] w (InsOut base fs f i w) := by
  by_cases he : i = fs.length
  · subst he
    exact insertEnd_c base x fs f vb w hx hl hbase hv
  · rcases id hx.2 with ⟨_, h0⟩ | ⟨g, cap, cur, hxe, _⟩
    · omega
    · subst hxe
      by_cases hr : fs.length + 1 ≤ cap
      · exact insertRoom_c base g cap fs f i vb w hx (by omega) hr hl hbase hv (hne g rfl)
      · exact insertGrow_c base g cap fs f i vb w hx (by omega) (by omega) hl hbase hv
end Go.Proofs.Ytlnofdlhjeomfaa
