/-
  A file put into a row of files by slices.Insert: a contract for the walks; conditions: the row is of memory of one's own, and holds at most 2 to the 20.
-/
import Derived.Test.YtlnofdlhjeomfaaFiV
import Derived.Shelf.Spec.SlicesInsertGrow
namespace Go.Proofs.Ytlnofdlhjeomfaa
open Go.RowKit Go.Maps
set_option linter.unusedSimpArgs false
set_option linter.unusedVariables false

theorem run_copy2 {P : Program} (w : World) (dT sT ty elem : TypeId) (b o dLen dCap : Nat) (a : Addr) (sLen sCap k : Nat) (cs : List Value)
    (hu : P.underlying dT = some (.slice elem)) (hs : (P.info? elem).map (·.size) = some 2) (hk : Nat.min sLen dLen = k) (hn : cs.length = k * 2)
    (hsrc : ∀ j v, cs[j]? = some v → w.cell? (a.add j) = some v) (hc : ∀ j, j < cs.length → (w.cell? ⟨b, o + j, none⟩).isSome = true) (hf : ∀ j, j < cs.length → w.frozen? ⟨b, o + j, none⟩ = false) (h1 : ∀ v ∈ cs, v.oneCell' = true) :
    (Builtin.copy_ #[dT, sT] ty #[.slice (some ⟨b, o, none⟩) dLen dCap, .slice (some a) sLen sCap]).run P w = .ok (goInt k) (w.setCells b o cs) := by
  have hl := run_loadCells_list (P := P) w a cs hsrc
  have hst := run_storeCells_cells (P := P) b o cs 0 w (by simpa using hc) (by simpa using hf) h1
  cases hq : P.info? elem with
  | none => simp [hq] at hs
  | some i =>
    have hi : i.size = 2 := by simpa [hq] using hs
    simp [Builtin.copy_, run_underlying hu, Builtin.lenOf, Builtin.firstCells, sizeOf, typeInfo, hq, hi, hk, ← hn, hl, hst]
/-- Cells laid over a list from a place on. -/
def setL (xs : List Value) (o : Nat) : List Value → List Value
  | [] => xs
  | v :: vs => setL (xs.set o v) (o + 1) vs
theorem setL_eq : ∀ (vs : List Value) (xs : List Value) (o : Nat), o + vs.length ≤ xs.length → setL xs o vs = xs.take o ++ vs ++ xs.drop (o + vs.length)
  | [], xs, o, h => by simp [setL]
  | v :: vs, xs, o, h => by
    rw [List.length_cons] at h
    rw [setL, setL_eq vs (xs.set o v) (o + 1) (by rw [List.length_set]; omega)]
    rw [List.drop_set_of_lt (by omega), List.take_succ_eq_append_getElem (by rw [List.length_set]; omega), List.take_set_of_le (Nat.le_refl _), List.getElem_set_self]
    simp [Nat.add_assoc, Nat.add_comm 1]
theorem owns_setCells {base g n cap : Nat} {e : TypeId} : ∀ (vs xs : List Value) (o : Nat) (w : World), w.ownsRow base e 2 (.slice (some ⟨g, 0, none⟩) n cap) n xs →
    (w.setCells g o vs).ownsRow base e 2 (.slice (some ⟨g, 0, none⟩) n cap) n (setL xs o vs) ∧ w.grownBy (w.setCells g o vs) (some g)
  | [], xs, o, w, h => ⟨h, grown_of_below (Below.refl _ _) _⟩
  | v :: vs, xs, o, w, h => by
    obtain ⟨h1, h2⟩ := h.stored o v
    obtain ⟨h3, h4⟩ := owns_setCells vs (xs.set o v) (o + 1) _ h1
    exact ⟨h3, grown_trans h2 h4⟩
theorem cellsF_take (fs : List FileD) (i : Nat) (h : i ≤ fs.length) : (cellsF fs).take (i * 2) = cellsF (fs.take i) := by
  have e : cellsF fs = cellsF (fs.take i) ++ cellsF (fs.drop i) := by rw [← cellsF_append, List.take_append_drop]
  rw [e, List.take_left' (by rw [cellsF_length, List.length_take]; omega)]
theorem cellsF_drop (fs : List FileD) (i : Nat) (h : i ≤ fs.length) : (cellsF fs).drop (i * 2) = cellsF (fs.drop i) := by
  have e : cellsF fs = cellsF (fs.take i) ++ cellsF (fs.drop i) := by rw [← cellsF_append, List.take_append_drop]
  rw [e, List.drop_left' (by rw [cellsF_length, List.length_take]; omega)]
theorem cellsF_ins (fs : List FileD) (f : FileD) (i : Nat) (h : i ≤ fs.length) : cellsF (fs.take i ++ f :: fs.drop i) = (cellsF fs).take (i * 2) ++ [.string f.p, .string f.t] ++ (cellsF fs).drop (i * 2) := by
  rw [cellsF_take fs i h, cellsF_drop fs i h, cellsF_append]
  simp [cellsF]
theorem owns_more {w : World} {base g n cap : Nat} {e : TypeId} {xs : List Value} (h : w.ownsRow base e 2 (.slice (some ⟨g, 0, none⟩) n cap) n xs) (hr : n + 1 ≤ cap) : ∃ us : List Value, us.length = 2 ∧ w.ownsRow base e 2 (.slice (some ⟨g, 0, none⟩) (n + 1) cap) (n + 1) (xs ++ us) := by
  have hl := h.1
  rcases h.2 with ⟨h', _⟩ | ⟨g', cap', cur, h', hb, hg, hnc, hcm, hcs, htake⟩
  · cases h'
  · cases h'
    have hct : cur.toList.length = cap * 2 := by rw [Array.length_toList]; exact hcs
    refine ⟨(cur.toList.drop (n * 2)).take 2, ?_, ?_, .inr ⟨g, cap, cur, rfl, hb, hg, hr, hcm, hcs, ?_⟩⟩
    · rw [List.length_take, List.length_drop, hct]; omega
    · rw [List.length_append, List.length_take, List.length_drop, hct, hl]; omega
    · rw [← htake, show (n + 1) * 2 = n * 2 + 2 by omega, List.take_add]

/-- What slices.Insert is to answer. -/
def InsOut (base : Nat) (fs : List FileD) (f : FileD) (i : Nat) (w : World) (e : Ending) (w' : World) : Prop :=
  ∃ y, e = .returned y ∧ w'.ownsRow base 26 2 y (fs.length + 1) (cellsF (fs.take i ++ f :: fs.drop i)) ∧ Below base w w'

set_option maxHeartbeats 2000000 in
set_option maxRecDepth 100000 in
theorem insertEnd_c (base : Nat) (x : Value) (fs : List FileD) (f : FileD) (vb : Nat) (w : World) (hx : w.ownsRow base 26 2 x fs.length (cellsF fs)) (hl : fs.length ≤ 1048576) (hbase : base ≤ w.heap.size) (hv : w.heap[vb]? = some (.cells #[.string f.p, .string f.t] 26 (0, 0))) :
    Calls Try.prog 83 #[x, .int .i64 (fs.length : Int), .slice (some ⟨vb, 0, none⟩) 1 1] w (InsOut base fs f fs.length w) := by
  obtain ⟨i0, hi, hz0, hz1, hz2⟩ := info_parts infoFile
  obtain ⟨n, hn⟩ : ∃ n, n = fs.length := ⟨_, rfl⟩
  have HOUT : Hid (∀ y w', w'.ownsRow base 26 2 y (n + 1) (cellsF fs ++ [.string f.p, .string f.t]) → Below base w w' → InsOut base fs f fs.length w (.returned y) w') := fun y w' h hb => ⟨y, rfl, by rw [← hn, cellsF_ins fs f n (by omega), hn, List.take_of_length_le (by rw [cellsF_length]; omega), List.drop_eq_nil_of_le (by rw [cellsF_length]; omega), List.append_nil, ← hn]; exact h, hb⟩
  rw [← hn] at hx hl HOUT ⊢
  clear hn
  have hvs : ∀ j u, ([.string f.p, .string f.t] : List Value)[j]? = some u → w.cell? ((⟨vb, 0, none⟩ : Addr).add j) = some u := fun j u hj => by
    rw [addr_addF, Nat.zero_add, vblk_cell hv]
    simpa using hj
  have h1v : ∀ u ∈ ([.string f.p, .string f.t] : List Value), u.oneCell' = true := fun u hu => by simp at hu; rcases hu with rfl | rfl <;> rfl
  clear hv
  rcases id hx.2 with ⟨hxe, h0⟩ | ⟨g, cx, cur, hxe, _, _, hnc, hc63, _⟩
  · subst hxe
    subst h0
    go_enter Try.func83, Try.ntmps83
    go_wp2_with (at_builtin; refine wpList_append_own _ rfl _ _ 24 rfl base 26 i0 (.agg #[.string ⟨#[]⟩, .string ⟨#[]⟩]) 2 32 Try.underlying24 hi hz0 hz1 hz2 rfl (by decide) (.slice none 0 0) 0 (cellsF fs) rfl hx ⟨vb, 0, none⟩ 1 1 [.string f.p, .string f.t] rfl rfl hvs h1v (by unfold maxLen; omega) (by omega) hbase ?_)
    intro v3 w3 o3 gr3 _
    have b3 : Below base w w3 := Below.grown (Below.refl _ _) gr3 hbase (fun j hj => (hx.lt _ hj).1)
    go_wp2_with fail
    go_ret
    exact HOUT.out _ _ o3 b3
  · subst hxe
    obtain ⟨q0, hq0⟩ : ∃ q, (if cx = n then some ⟨g, 0, none⟩ else some ⟨g, n * 2, none⟩ : Option Addr) = q := ⟨_, rfl⟩
    unfold maxLen at hc63
    go_enter Try.func83, Try.ntmps83
    go_wp2_with (at_builtin; refine wpList_append_own _ rfl _ _ 24 rfl base 26 i0 (.agg #[.string ⟨#[]⟩, .string ⟨#[]⟩]) 2 32 Try.underlying24 hi hz0 hz1 hz2 rfl (by decide) (.slice (some ⟨g, 0, none⟩) n cx) n (cellsF fs) rfl hx ⟨vb, 0, none⟩ 1 1 [.string f.p, .string f.t] rfl rfl hvs h1v (by unfold maxLen; omega) (by omega) hbase ?_)
    intro v3 w3 o3 gr3 _
    have b3 : Below base w w3 := Below.grown (Below.refl _ _) gr3 hbase (fun j hj => (hx.lt _ hj).1)
    go_wp2_with fail
    go_ret
    exact HOUT.out _ _ o3 b3

set_option maxHeartbeats 4000000 in
set_option maxRecDepth 100000 in
theorem insertRoom_c (base g cap : Nat) (fs : List FileD) (f : FileD) (i vb : Nat) (w : World) (hx : w.ownsRow base 26 2 (.slice (some ⟨g, 0, none⟩) fs.length cap) fs.length (cellsF fs)) (hil : i < fs.length) (hroom : fs.length + 1 ≤ cap) (hl : fs.length ≤ 1048576) (hbase : base ≤ w.heap.size) (hv : w.heap[vb]? = some (.cells #[.string f.p, .string f.t] 26 (0, 0))) (hne : vb ≠ g) :
    Calls Try.prog 83 #[.slice (some ⟨g, 0, none⟩) fs.length cap, .int .i64 (i : Int), .slice (some ⟨vb, 0, none⟩) 1 1] w (InsOut base fs f i w) := by
  obtain ⟨i0, hi, hz0, hz1, hz2⟩ := info_parts infoFile
  obtain ⟨us, hus, hm⟩ := owns_more hx hroom
  have hgb : base ≤ g := (hx.lt g rfl).1
  have hgl : g < w.heap.size := (hx.lt g rfl).2
  have hcap : cap ≤ 9223372036854775807 := by
    rcases hx.2 with ⟨h', _⟩ | ⟨g', cap', cur, h', _, _, _, hcm, _⟩
    · cases h'
    · cases h'; exact hcm
  obtain ⟨tB, kB, hsb, hkB⟩ : ∃ tB kB, w.shape? g = some (tB, kB) ∧ kB ≠ 0 := by
    rcases hx.2 with ⟨h', _⟩ | ⟨g', cap', cur, h', _, hg, _, _, hcs, _⟩
    · cases h'
    · cases h'
      exact ⟨_, _, by unfold World.shape?; rw [hg], by omega⟩
  have hsa : w.shape? vb = some (26, 2) := by unfold World.shape?; rw [hv]; rfl
  have hfv : ∀ j, w.frozen? ⟨vb, j, none⟩ = false := fun j => by unfold World.frozen?; rw [hv]; simp
  have hvs : ∀ (W : World), W.cell? ⟨vb, 0, none⟩ = w.cell? ⟨vb, 0, none⟩ → W.cell? ⟨vb, 1, none⟩ = w.cell? ⟨vb, 1, none⟩ → ∀ j u, ([.string f.p, .string f.t] : List Value)[j]? = some u → W.cell? ((⟨vb, 0, none⟩ : Addr).add j) = some u := fun W e0 e1 j u hj => by
    rw [addr_addF, Nat.zero_add]
    match j, hj with
    | 0, hj => rw [e0, vblk_cell hv]; simpa using hj
    | 1, hj => rw [e1, vblk_cell hv]; simpa using hj
    | j + 2, hj => simp at hj
  have h1v : ∀ u ∈ ([.string f.p, .string f.t] : List Value), u.oneCell' = true := fun u hu => by simp at hu; rcases hu with rfl | rfl <;> rfl
  have hsz : (Try.prog.info? 26).map (·.size) = some 2 := by rw [hi]; simp [hz1]
  have hzo : ∀ w, (Go.sizeOf 26).run Try.prog w = .ok 2 w := fun w => by simp [Go.sizeOf, typeInfo, hi, hz1]
  obtain ⟨n, hn⟩ : ∃ n, n = fs.length := ⟨_, rfl⟩
  obtain ⟨C, hC⟩ : ∃ C, C = cellsF fs := ⟨_, rfl⟩
  have hCl : C.length = n * 2 := by rw [hC, cellsF_length, hn]
  have h1C : ∀ u ∈ C, u.oneCell' = true := by rw [hC]; exact cellsF_one fs
  have HOUT : Hid (∀ y w', w'.ownsRow base 26 2 y (n + 1) (C.take (i * 2) ++ [.string f.p, .string f.t] ++ C.drop (i * 2)) → Below base w w' → InsOut base fs f i w (.returned y) w') := fun y w' h hb => ⟨y, rfl, by rw [cellsF_ins fs f i (by omega), ← hC, ← hn]; exact h, hb⟩
  rw [← hn] at hx hl hm hil hroom ⊢
  rw [← hC] at hx hm
  clear hn hC
  obtain ⟨n1, hn1⟩ : ∃ m, m = n + 1 := ⟨_, rfl⟩
  obtain ⟨i1, hi1⟩ : ∃ m, m = i + 1 := ⟨_, rfl⟩
  rw [← hn1] at hm
  have hov : ∀ lb cb, (callFunc 103 #[.slice (some ⟨vb, 0, none⟩) 1 1, .slice (some ⟨g, i1 * 2, none⟩) lb cb]).run Try.prog w = .ok (.value (.bool false)) w := fun lb cb => by
    rw [run_callFunc_extern Try.func103 (by kernel_rfl) (by kernel_rfl) (by kernel_rfl) (e := Extern.SlicesOverlaps.overlaps #[24, 24] #[4]) (by kernel_rfl),
      Lib.run_overlaps_apart w 24 4 26 Try.underlying24 2 hzo ⟨vb, 0, none⟩ ⟨g, i1 * 2, none⟩ 1 1 lb cb hne _ tB 2 kB hsa hsb hkB (hfv _) (hfv _)]
    rfl
  have hdl : (C.drop (i * 2)).length = (n - i) * 2 := by rw [List.length_drop, hCl]; omega
  have hcell : ∀ j, j < n1 * 2 → w.cell? ⟨g, j, none⟩ = (C ++ us)[j]? := fun j hj => hm.cellAt j hj
  have hsome : ∀ j, j < n1 * 2 → (w.cell? ⟨g, j, none⟩).isSome = true := fun j hj => by rw [hcell j hj, List.getElem?_eq_getElem (by rw [List.length_append]; omega)]; rfl
  have hfr : ∀ j, w.frozen? ⟨g, j, none⟩ = false := fun j => hm.frozenAt j
  obtain ⟨T, hT⟩ : ∃ T, T = C.drop (i * 2) := ⟨_, rfl⟩
  have hcp1 : ∀ ty dc sc, (Builtin.copy_ #[24, 24] ty #[.slice (some ⟨g, i1 * 2, none⟩) (n1 - i1) dc, .slice (some ⟨g, i * 2, none⟩) (n1 - i) sc]).run Try.prog w.drew = .ok (goInt ((n - i : Nat) : Int)) (w.drew.setCells g (i1 * 2) T) := fun ty dc sc => by
    rw [hT]
    refine run_copy2 w.drew _ _ ty 26 g (i1 * 2) (n1 - i1) dc ⟨g, i * 2, none⟩ (n1 - i) sc (n - i) (C.drop (i * 2)) Try.underlying24 hsz (by rw [hn1, hi1]; show min _ _ = _; omega) hdl (fun j u hj => ?_) (fun j hj => ?_) (fun j hj => ?_) (fun u hu => h1C u (List.mem_of_mem_drop hu))
    · have hjl := (List.getElem?_eq_some_iff.1 hj).1
      rw [addr_addF]
      show w.cell? _ = _
      rw [hcell _ (by omega), List.getElem?_append_left (by omega)]
      rwa [List.getElem?_drop] at hj
    · show (w.cell? _).isSome = true
      exact hsome _ (by omega)
    · show w.frozen? _ = false
      exact hfr _
  have hO1 := owns_setCells T (C ++ us) (i1 * 2) w.drew (show w.drew.ownsRow _ _ _ _ _ _ from hm)
  obtain ⟨W1, hW1⟩ : ∃ W1, W1 = w.drew.setCells g (i1 * 2) T := ⟨_, rfl⟩
  rw [← hW1] at hO1 hcp1
  have hvc : ∀ j, W1.cell? ⟨vb, j, none⟩ = w.cell? ⟨vb, j, none⟩ := fun j => by rw [hW1, World.cell?_setCells_out g _ _ _ _ (fun h _ => absurd h hne)]; rfl
  have hcp2 : ∀ ty dc, (Builtin.copy_ #[24, 24] ty #[.slice (some ⟨g, i * 2, none⟩) (n1 - i) dc, .slice (some ⟨vb, 0, none⟩) 1 1]).run Try.prog W1 = .ok (goInt 1) (W1.setCells g (i * 2) [.string f.p, .string f.t]) := fun ty dc => by
    refine run_copy2 W1 _ _ ty 26 g (i * 2) (n1 - i) dc ⟨vb, 0, none⟩ 1 1 1 _ Try.underlying24 hsz (by show min _ _ = _; omega) rfl (hvs W1 (hvc 0) (hvc 1)) (fun j hj => ?_) (fun j hj => hO1.1.frozenAt _) h1v
    simp only [List.length_cons, List.length_nil] at hj
    have := hO1.1.cellAt (i * 2 + j) (by omega)
    rw [this, List.getElem?_eq_getElem (by rw [hO1.1.1]; omega)]
    rfl
  have hO2 := owns_setCells [.string f.p, .string f.t] _ (i * 2) W1 hO1.1
  have hlist : setL (setL (C ++ us) (i1 * 2) T) (i * 2) [.string f.p, .string f.t] = C.take (i * 2) ++ [.string f.p, .string f.t] ++ C.drop (i * 2) := by
    have hTl : T.length = (n - i) * 2 := by rw [hT]; exact hdl
    have e1 : setL (C ++ us) (i1 * 2) T = (C ++ us).take (i1 * 2) ++ T := by
      rw [setL_eq T (C ++ us) (i1 * 2) (by rw [List.length_append]; omega), List.drop_eq_nil_of_le (by rw [List.length_append]; omega), List.append_nil]
    have hl1 : ((C ++ us).take (i1 * 2)).length = i1 * 2 := by rw [List.length_take, List.length_append]; omega
    rw [e1, setL_eq _ _ _ (by rw [List.length_append, hl1]; simp only [List.length_cons, List.length_nil]; omega)]
    simp only [List.length_cons, List.length_nil]
    rw [List.drop_left' (by rw [hl1]; omega), ← hT, List.take_append_of_le_length (by rw [hl1]; omega), List.take_take, Nat.min_eq_left (by omega), List.take_append_of_le_length (by omega)]
  rw [hlist, hn1] at hO2
  have HO2 : Hid ((W1.setCells g (i * 2) [.string f.p, .string f.t]).ownsRow base 26 2 (.slice (some ⟨g, 0, none⟩) (n + 1) cap) (n + 1) (C.take (i * 2) ++ [.string f.p, .string f.t] ++ C.drop (i * 2)) ∧ Below base w (W1.setCells g (i * 2) [.string f.p, .string f.t])) := ⟨hO2.1, Below.grown (Below.refl _ _) (grown_trans (grown_trans (grown_of_below (Below.refl _ _).drew _) hO1.2) hO2.2) hbase (fun j hj => by cases hj; exact hgb)⟩
  have HN1 : Hid (n1 = n + 1) := hn1
  have hn1w : IntKind.i64.wrap ((n : Int) + 1) = (n1 : Int) := (IntWalk.i64_in _ ⟨by omega, by omega⟩).trans (by omega)
  have hi1w : IntKind.i64.wrap ((i : Int) + 1) = (i1 : Int) := (IntWalk.i64_in _ ⟨by omega, by omega⟩).trans (by omega)
  have mixed : Try.prog.follows .mixedOrders = true := by kernel_rfl
  have g1 : (i : Int) ≤ (n : Int) := by omega
  have g2 : ¬ ((i : Int) = (n : Int)) := by omega
  have g3 : ¬ ((cap : Int) < (n1 : Int)) := by omega
  have g4 : (n1 : Int) ≤ (cap : Int) := by omega
  have g5 : (i1 : Int) ≤ (n1 : Int) := by omega
  have g6 : (i : Int) ≤ (n1 : Int) := by omega
  have g7 : ¬ (cap = i1) := by omega
  have g8 : ¬ (cap = i) := by omega
  have g9 : (0 : Int) ≤ (i1 : Int) := by omega
  have g10 : (0 : Int) ≤ (n1 : Int) := by omega
  clear hO1 hO2 hlist hsome hcell hfr hvc hvs hsa hsb hfv hv hx hm hn1 hi1 hT hdl hW1 hus hCl h1C hroom
  go_enter Try.func83, Try.ntmps83
  go_wp2_with (simp only [hov])
  go_region_law_o (refine step_copy_runI rfl _ _ 24 24 rfl _ _ (by simp [Act.eval, Act.put]) (by simp [Act.eval, Act.put]) (hcp1 _ _ _) ?_)
  go_wp2_with (at_builtin; refine wpList_copy_runI _ rfl _ _ 24 24 rfl _ _ rfl rfl (hcp2 _ _) ?_)
  go_ret
  refine HOUT.out _ _ ?_ HO2.out.2
  rw [HN1.out]
  exact HO2.out.1
end Go.Proofs.Ytlnofdlhjeomfaa
