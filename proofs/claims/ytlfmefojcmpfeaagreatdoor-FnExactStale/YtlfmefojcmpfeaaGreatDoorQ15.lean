/-
  Contracts for the walks, several texts in one: each part says what it proves, and under which conditions.
-/
import Derived.Deep.RegionHeld
import Derived.Maps.OwnSet
import Derived.Test.YtlfmefojcmpfeaaGreatDoorQ13
import Derived.Test.YtlfmefojcmpfeaaGreatDoorQ14
import Derived.Test.YtlfmefojcmpfeaaGreatDoorQ10
import Derived.Test.YtlfmefojcmpfeaaGreatDoorQ11
import Derived.Test.YtlfmefojcmpfeaaGreatDoorQ2
import Derived.Test.YtlfmefojcmpfeaaGreatDoorQ4
import Derived.Test.YtlfmefojcmpfeaaGreatDoorQ12

/-! EntryOf, as the specification answers it: a contract for the walks; conditions: what comes in lies in memory, and holds at most 2 to the 20. -/
namespace Go.Proofs.YtlfmefojcmpfeaaGreatDoor
open Go.RowKit
set_option linter.unusedSimpArgs false
set_option linter.unusedVariables false

theorem same_key (d : EntryD) (n : ByteArray) (a b c : Int) (ps : List ByteArray) : sameK ⟨n, a, b, c, ⟨(preL ps).toArray⟩⟩ d = (decide (d.name = n) && sameB d.vA d.vB d.vC d.vP a b c ps) := by
  have e : decide ((⟨(preL d.vP).toArray⟩ : ByteArray) = ⟨(preL ps).toArray⟩) = decide (d.vP = ps) := by
    by_cases h : d.vP = ps
    · rw [h]; simp
    · rw [decide_eq_false h, decide_eq_false]
      intro h2
      have h3 := congrArg ByteArray.data h2
      exact h (preL_inj (by simpa using h3))
  have hq : ∀ x y : Int, (x == y) = decide (x = y) := fun x y => by rw [Bool.eq_iff_iff]; simp
  unfold sameK sameB coreB
  simp only [e, hq]
  cases decide (d.name = n) <;> cases decide (d.vA = a) <;> cases decide (d.vB = b) <;> cases decide (d.vC = c) <;> cases decide (d.vP = ps) <;> rfl
theorem firstK_at {xs : List EntryD} {q : KeyE} {k : Nat} (h : k < xs.length) (hy : sameK q xs[k] = true) (hn : ∀ j (hj : j < xs.length), j < k → sameK q xs[j] = false) : firstK xs q = some k := by
  unfold firstK
  rw [List.findIdx?_eq_some_iff_getElem]
  exact ⟨h, hy, fun j hj => by simp [hn j (by omega) hj]⟩
theorem firstK_none {xs : List EntryD} {q : KeyE} (hn : ∀ j (hj : j < xs.length), sameK q xs[j] = false) : firstK xs q = none := by
  unfold firstK
  rw [List.findIdx?_eq_none_iff]
  intro x hx
  obtain ⟨j, hj, rfl⟩ := List.mem_iff_getElem.1 hx
  exact hn j hj
theorem zero_liesO (S : Nat → Prop) (w : World) : shEntryO.lies S w [.string ⟨#[]⟩, .int .i64 0, .int .i64 0, .int .i64 0, .slice none 0 0, .slice none 0 0] zeroD :=
  ⟨_, _, rfl, Nat.zero_le _, ⟨⟨rfl, .inl ⟨rfl, rfl⟩⟩, fun g h => by simp [Value.ownBlock] at h⟩, ⟨Nat.zero_le _, fun s h => by cases h⟩, ⟨Nat.zero_le _, [], ⟨rfl, .inl ⟨rfl, rfl⟩⟩, fun g h => by simp [Value.ownBlock] at h, fun i h => by simp [zeroD] at h⟩⟩

set_option maxHeartbeats 8000000 in
set_option maxRecDepth 100000 in
theorem specEntry_c (S : Nat → Prop) (v : Value) (xs : List EntryD) (n : ByteArray) (a b c : Int) (u : Value) (ps : List ByteArray) (w : World) (hv : RowIn shEntryO S w v xs) (hB : ∀ b, S b → b < w.heap.size) (hw : wtRow wtEntry xs ≤ 1048576)
    (hu : Reads w u (strsV ps)) (hb : bulkS ps ≤ 1048576) :
    Calls Tryz.prog 17 #[v, .string n, .agg #[.int .i64 a, .int .i64 b, .int .i64 c, u]] w fun e w' => ∃ cs, e = .returned (.tuple #[.agg cs.toArray, .bool (firstK xs ⟨n, a, b, c, ⟨(preL ps).toArray⟩⟩).isSome]) ∧ shEntryO.lies (Ow w.heap.size w'.heap.size) w' cs (atD xs (firstK xs ⟨n, a, b, c, ⟨(preL ps).toArray⟩⟩)) ∧ Below w.heap.size w w' := by
  have hb2 : ∀ A R, Below w.heap.size w ((w.alloc A).alloc R) := fun A R => ((Below.refl _ _).alloc (Nat.le_refl _) _).alloc (by simp) _
  have hwe : ∀ d ∈ xs, wtEntry d ≤ 1048576 := fun d hd => Nat.le_trans (wt_wtRow wtEntry hd) hw
  have hru : ∀ w1, Below w.heap.size w w1 → Reads w1 u (strsV ps) := fun w1 h => hu.below h
  obtain ⟨q, cap, rfl, _, _⟩ := reads_strs hu
  obtain ⟨av, cv, rfl, hl, hc, ha⟩ := hv
  unfold maxLen at hl
  have HSK : Hid (∀ d : EntryD, sameK ⟨n, a, b, c, ⟨(preL ps).toArray⟩⟩ d = (decide (d.name = n) && sameB d.vA d.vB d.vC d.vP a b c ps)) := fun d => same_key d n a b c ps
  obtain ⟨KD, hKD⟩ : ∃ K : KeyE, K = ⟨n, a, b, c, ⟨(preL ps).toArray⟩⟩ := ⟨_, rfl⟩
  rw [← hKD] at HSK
  rw [← hKD]
  obtain ⟨hAz, hRz⟩ := two_boxes (w := w) (.cells #[.int .i64 a, .int .i64 b, .int .i64 c, .slice q ps.length cap] 30 (0, 0)) (.cells #[.string ⟨#[]⟩, .int .i64 0, .int .i64 0, .int .i64 0, .slice none 0 0, .slice none 0 0] 35 (0, 0))
  have hwz := hb2 (.cells #[.int .i64 a, .int .i64 b, .int .i64 c, .slice q ps.length cap] 30 (0, 0)) (.cells #[.string ⟨#[]⟩, .int .i64 0, .int .i64 0, .int .i64 0, .slice none 0 0, .slice none 0 0] 35 (0, 0))
  have hsz : ((w.alloc (.cells #[.int .i64 a, .int .i64 b, .int .i64 c, .slice q ps.length cap] 30 (0, 0))).alloc (.cells #[.string ⟨#[]⟩, .int .i64 0, .int .i64 0, .int .i64 0, .slice none 0 0, .slice none 0 0] 35 (0, 0))).heap.size = w.heap.size + 2 := by simp
  clear hKD hu
  go_enter Tryz.func17, Tryz.ntmps17
  go_wp2_with fail
  obtain ⟨wz, hW⟩ : ∃ wz, wz = (w.alloc (.cells #[.int .i64 a, .int .i64 b, .int .i64 c, .slice q ps.length cap] 30 (0, 0))).alloc (.cells #[.string ⟨#[]⟩, .int .i64 0, .int .i64 0, .int .i64 0, .slice none 0 0, .slice none 0 0] 35 (0, 0)) := ⟨_, rfl⟩
  rw [← hW] at hAz hRz hwz hsz
  rw [← hW]
  clear hW
  go_loopw [8] (fun vi wr => ∃ k : Nat, k ≤ xs.length ∧ vi = .int .i64 (k : Int) ∧ Hid (∀ j (hj : j < xs.length), j < k → sameK KD xs[j] = false) ∧ Below wz.heap.size wz wr) (fun vi _ => xs.length - (intOf vi).toNat)
  case atStart => exact ⟨0, Nat.zero_le _, rfl, (fun j hj h => by omega), Below.refl _ _⟩
  case round =>
    obtain ⟨k, hk, rfl, hno, hbz⟩ := hrel
    have hbr : Below w.heap.size w wr := hwz.trans (hbz.mono (by omega))
    have hAr := (hbz.block w.heap.size (by omega)).trans hAz
    have hRr := (hbz.block (w.heap.size + 1) (by omega)).trans hRz
    have hszr := hbz.size
    by_cases hlt' : k < xs.length
    · rcases ha with rfl | ⟨b0, off, rfl, hlt, ha⟩
      · simp at hlt'
      obtain ⟨cs, hL, hcell⟩ := ha k hlt'
      replace hcell := hcell.keep (.of hbr hB) hlt
      replace hL := shEntryO.keep (.of hbr hB) hL
      have hbb : b0 < wr.heap.size := Nat.lt_of_lt_of_le (hB b0 hlt) hbr.size
      have hBr : ∀ b, S b → b < wr.heap.size := fun b h => Nat.lt_of_lt_of_le (hB b h) hbr.size
      have hwk := hwe xs[k] (List.getElem_mem hlt')
      have HY : Hid (sameK KD xs[k] = true → firstK xs KD = some k) := fun h => firstK_at hlt' h hno.out
      have HN : Hid (sameK KD xs[k] = false → ∀ j (hj : j < xs.length), j < k + 1 → sameK KD xs[j] = false) := fun h j hj hjk => by
        by_cases e : j = k
        · subst e; exact h
        · exact hno.out j hj (by omega)
      have HAT : Hid (atD xs (some k) = xs[k]) := by show _ = _; simp [atD, hlt']
      obtain ⟨d, hd⟩ : ∃ d, d = xs[k] := ⟨_, rfl⟩
      rw [← hd] at hL hwk HY HN HAT
      have hsk := HSK.out d
      rw [hsk] at HY HN
      have HC' : ∀ w1, Below wr.heap.size wr w1 → Calls Tryz.prog 83 #[.agg cs.toArray] w1 fun e w' => ∃ cs', e = .returned (.agg cs'.toArray) ∧ shEntryO.lies (Ow w1.heap.size w'.heap.size) w' cs' d ∧ Below w1.heap.size w1 w' := fun w1 h => l8Copy_c S d cs w1 (shEntryO.keep (.of h hBr) hL) (fun b hb => Nat.lt_of_lt_of_le (hBr b hb) h.size) hwk
      obtain ⟨u0, u1, rfl, s_n, r0, p0, r1⟩ := hL
      have hbk : bulkS d.vP ≤ 1048576 := by unfold wtEntry at hwk; omega
      have hpl : d.vP.length ≤ 1048576 := by unfold bulkS at hbk; omega
      have HS' : ∀ w1, Below wr.heap.size wr w1 → Calls Tryz.prog 82 #[.agg #[.int .i64 d.vA, .int .i64 d.vB, .int .i64 d.vC, u0], .agg #[.int .i64 a, .int .i64 b, .int .i64 c, .slice q ps.length cap]] w1 fun e w' => e = .returned (.bool (sameB d.vA d.vB d.vC d.vP a b c ps)) ∧ Below w1.heap.size w1 w' := fun w1 h => specSame_c _ _ _ u0 d.vP _ _ _ _ ps w1 ((r0.plain.keep (.of h hBr)).reads (fun b hb => Nat.lt_of_lt_of_le (hBr b hb) h.size)) (hru w1 (hbr.trans (h.mono hbr.size))) hpl
      obtain ⟨a0, cap0, eu0⟩ := r0.slice
      subst eu0
      obtain ⟨a1, cap1, eu1⟩ := r1.slice
      subst eu1
      obtain ⟨SB, hSB⟩ : ∃ r, r = sameB d.vA d.vB d.vC d.vP a b c ps := ⟨_, rfl⟩
      simp only [← hSB] at HS'
      rw [← hSB] at HY HN
      have HS := hidden HS'
      have HC := hidden HC'
      have e0 : wr.cell? ⟨b0, off + k * 6, none⟩ = some (.string d.name) := hcell 0 (by simp)
      have e1 : wr.cell? ⟨b0, off + k * 6 + 1, none⟩ = some (.int .i64 d.vA) := hcell 1 (by simp)
      have e2 : wr.cell? ⟨b0, off + k * 6 + 2, none⟩ = some (.int .i64 d.vB) := hcell 2 (by simp)
      have e3 : wr.cell? ⟨b0, off + k * 6 + 3, none⟩ = some (.int .i64 d.vC) := hcell 3 (by simp)
      have e4 : wr.cell? ⟨b0, off + k * 6 + 4, none⟩ = some (.slice a0 d.vP.length cap0) := hcell 4 (by simp)
      have e5 : wr.cell? ⟨b0, off + k * 6 + 5, none⟩ = some (.slice a1 d.needs.length cap1) := hcell 5 (by simp)
      have hki : (k : Int) < (xs.length : Int) := by omega
      have hd0 : Below wr.heap.size wr wr.drew := (Below.refl _ _).drew
      have hnm := name_alike d.name n
      have KEEP : Hid (∀ w1, Below wr.heap.size wr w1 → w1.cell? ⟨b0, off + k * 6, none⟩ = some (.string d.name) ∧ w1.cell? ⟨b0, off + k * 6 + 1, none⟩ = some (.int .i64 d.vA) ∧ w1.cell? ⟨b0, off + k * 6 + 2, none⟩ = some (.int .i64 d.vB) ∧ w1.cell? ⟨b0, off + k * 6 + 3, none⟩ = some (.int .i64 d.vC) ∧ w1.cell? ⟨b0, off + k * 6 + 4, none⟩ = some (.slice a0 d.vP.length cap0) ∧ w1.cell? ⟨b0, off + k * 6 + 5, none⟩ = some (.slice a1 d.needs.length cap1) ∧ w1.cell? ⟨w.heap.size, 0, none⟩ = some (.int .i64 a) ∧ w1.cell? ⟨w.heap.size, 1, none⟩ = some (.int .i64 b) ∧ w1.cell? ⟨w.heap.size, 2, none⟩ = some (.int .i64 c) ∧ w1.cell? ⟨w.heap.size, 3, none⟩ = some (.slice q ps.length cap)) := fun w1 h => by
        have hA := (h.block w.heap.size (by omega)).trans hAr
        exact ⟨(h.cell (by simpa using hbb)).trans e0, (h.cell (by simpa using hbb)).trans e1, (h.cell (by simpa using hbb)).trans e2, (h.cell (by simpa using hbb)).trans e3, (h.cell (by simpa using hbb)).trans e4, (h.cell (by simpa using hbb)).trans e5, vblk_cell hA 0, vblk_cell hA 1, vblk_cell hA 2, vblk_cell hA 3⟩
      clear ha hd hcell hsk HS' HC' r0 r1 p0 s_n hSB hwk hbk hpl hno HSK
      clear e0 e1 e2 e3 e4 e5
      by_cases hnn : d.name = n
      · rw [decide_eq_true hnn, Bool.true_and] at HY HN
        rw [decide_eq_true hnn] at hnm
        clear hnn
        cases SB with
        | false =>
          have HN2 := hidden (HN.out rfl)
          clear HY HN
          go_wp2_with fail
          refine wp_region_held_drew (S := (fun w' => w'.cell? ⟨b0, off + k * 6, none⟩ = some (.string d.name) ∧ w'.cell? ⟨b0, off + k * 6 + 1, none⟩ = some (.int .i64 d.vA) ∧ w'.cell? ⟨b0, off + k * 6 + 2, none⟩ = some (.int .i64 d.vB) ∧ w'.cell? ⟨b0, off + k * 6 + 3, none⟩ = some (.int .i64 d.vC) ∧ w'.cell? ⟨b0, off + k * 6 + 4, none⟩ = some (.slice a0 d.vP.length cap0) ∧ w'.cell? ⟨b0, off + k * 6 + 5, none⟩ = some (.slice a1 d.needs.length cap1) ∧ w'.cell? ⟨w.heap.size, 0, none⟩ = some (.int .i64 a) ∧ w'.cell? ⟨w.heap.size, 1, none⟩ = some (.int .i64 b) ∧ w'.cell? ⟨w.heap.size, 2, none⟩ = some (.int .i64 c) ∧ w'.cell? ⟨w.heap.size, 3, none⟩ = some (.slice q ps.length cap))) (by kernel_rfl) ?SR10 (fun hHeld => ?_)
          case SR10 => (first | (with_reducible exact KEEP.out _ hd1) | (with_reducible exact KEEP.out _ hd0))
          refine wpAnyH_take (i := 0) (oi := _) (v := ?vR10) rfl (by kernel_rfl) (by kernel_rfl) (by kernel_rfl) (fun _ _ _ h => h) (Or.inl ⟨by rfl, ?yR10⟩) hHeld ?_
          case yR10 => (intro w hSw; (try dsimp only at hSw); go_simp <;> with_reducible rfl)
          try simp only [Act.put, List.getElem_toArray, List.getElem_cons_zero, List.getElem_cons_succ, List.setIfInBounds_toArray, List.set_cons_zero, List.set_cons_succ]
          refine wpAnyH_take (i := 1) (oi := _) (v := ?vR11) rfl (by kernel_rfl) (by kernel_rfl) (by kernel_rfl) (fun _ _ _ h => h) (Or.inl ⟨by rfl, ?yR11⟩) hHeld ?_
          case yR11 => (intro w hSw; (try dsimp only at hSw); go_simp <;> with_reducible rfl)
          try simp only [Act.put, List.getElem_toArray, List.getElem_cons_zero, List.getElem_cons_succ, List.setIfInBounds_toArray, List.set_cons_zero, List.set_cons_succ]
          refine wpAnyH_take (i := 2) (oi := _) (v := ?vR12) rfl (by kernel_rfl) (by kernel_rfl) (by kernel_rfl) (fun _ _ _ h => h) (Or.inl ⟨by rfl, ?yR12⟩) hHeld ?_
          case yR12 => (intro w hSw; (try dsimp only at hSw); go_simp <;> with_reducible rfl)
          try simp only [Act.put, List.getElem_toArray, List.getElem_cons_zero, List.getElem_cons_succ, List.setIfInBounds_toArray, List.set_cons_zero, List.set_cons_succ]
          refine wpAnyH_take (i := 3) (oi := _) (v := ?vR13) rfl (by kernel_rfl) (by kernel_rfl) (by kernel_rfl) (fun _ _ _ h => h) (Or.inl ⟨by rfl, ?yR13⟩) hHeld ?_
          case yR13 => (intro w hSw; (try dsimp only at hSw); go_simp <;> with_reducible rfl)
          try simp only [Act.put, List.getElem_toArray, List.getElem_cons_zero, List.getElem_cons_succ, List.setIfInBounds_toArray, List.set_cons_zero, List.set_cons_succ]
          refine wpAnyH_take (i := 4) (oi := _) (v := ?vR14) rfl (by kernel_rfl) (by kernel_rfl) (by kernel_rfl) (fun _ _ _ h => h) (Or.inl ⟨by rfl, ?yR14⟩) hHeld ?_
          case yR14 => (intro w hSw; (try dsimp only at hSw); go_simp <;> with_reducible rfl)
          try simp only [Act.put, List.getElem_toArray, List.getElem_cons_zero, List.getElem_cons_succ, List.setIfInBounds_toArray, List.set_cons_zero, List.set_cons_succ]
          refine wpAnyH_take (i := 5) (oi := _) (v := ?vR15) rfl (by kernel_rfl) (by kernel_rfl) (by kernel_rfl) (fun _ _ _ h => h) (Or.inl ⟨by rfl, ?yR15⟩) hHeld ?_
          case yR15 => (intro w hSw; (try dsimp only at hSw); go_simp <;> with_reducible rfl)
          try simp only [Act.put, List.getElem_toArray, List.getElem_cons_zero, List.getElem_cons_succ, List.setIfInBounds_toArray, List.set_cons_zero, List.set_cons_succ]
          refine wpAnyH_take (i := 6) (oi := _) (v := ?vR16) rfl (by kernel_rfl) (by kernel_rfl) (by kernel_rfl) (fun _ _ _ h => h) (Or.inl ⟨by rfl, ?yR16⟩) hHeld ?_
          case yR16 => (intro w hSw; (try dsimp only at hSw); go_simp <;> with_reducible rfl)
          try simp only [Act.put, List.getElem_toArray, List.getElem_cons_zero, List.getElem_cons_succ, List.setIfInBounds_toArray, List.set_cons_zero, List.set_cons_succ]
          refine wpAnyH_take (i := 7) (oi := _) (v := ?vR17) rfl (by kernel_rfl) (by kernel_rfl) (by kernel_rfl) (fun _ _ _ h => h) (Or.inl ⟨by rfl, ?yR17⟩) hHeld ?_
          case yR17 => (intro w hSw; (try dsimp only at hSw); go_simp <;> with_reducible rfl)
          try simp only [Act.put, List.getElem_toArray, List.getElem_cons_zero, List.getElem_cons_succ, List.setIfInBounds_toArray, List.set_cons_zero, List.set_cons_succ]
          refine wpAnyH_take (i := 8) (oi := _) (v := ?vR18) rfl (by kernel_rfl) (by kernel_rfl) (by kernel_rfl) (fun _ _ _ h => h) (Or.inl ⟨by rfl, ?yR18⟩) hHeld ?_
          case yR18 => (intro w hSw; (try dsimp only at hSw); go_simp <;> with_reducible rfl)
          try simp only [Act.put, List.getElem_toArray, List.getElem_cons_zero, List.getElem_cons_succ, List.setIfInBounds_toArray, List.set_cons_zero, List.set_cons_succ]
          refine wpAnyH_take (i := 9) (oi := _) (v := ?vR19) rfl (by kernel_rfl) (by kernel_rfl) (by kernel_rfl) (fun _ _ _ h => h) (Or.inl ⟨by rfl, ?yR19⟩) hHeld ?_
          case yR19 => (intro w hSw; (try dsimp only at hSw); go_simp <;> with_reducible rfl)
          try simp only [Act.put, List.getElem_toArray, List.getElem_cons_zero, List.getElem_cons_succ, List.setIfInBounds_toArray, List.set_cons_zero, List.set_cons_succ]
          refine wpAnyH_take (i := 10) (oi := _) (v := ?vR110) rfl (by kernel_rfl) (by kernel_rfl) (by kernel_rfl) (fun _ _ _ h => h) (Or.inl ⟨by rfl, ?yR110⟩) hHeld ?_
          case yR110 => (intro w hSw; (try dsimp only at hSw); go_simp <;> with_reducible rfl)
          try simp only [Act.put, List.getElem_toArray, List.getElem_cons_zero, List.getElem_cons_succ, List.setIfInBounds_toArray, List.set_cons_zero, List.set_cons_succ]
          refine wpAnyH_take (i := 11) (oi := _) (v := ?vR111) rfl (by kernel_rfl) (by kernel_rfl) (by kernel_rfl) (fun _ _ _ h => h) (Or.inl ⟨by rfl, ?yR111⟩) hHeld ?_
          case yR111 => (intro w hSw; (try dsimp only at hSw); go_simp <;> with_reducible rfl)
          try simp only [Act.put, List.getElem_toArray, List.getElem_cons_zero, List.getElem_cons_succ, List.setIfInBounds_toArray, List.set_cons_zero, List.set_cons_succ]
          refine wpAnyH_take (i := 12) (oi := _) (v := ?vR112) rfl (by kernel_rfl) (by kernel_rfl) (by kernel_rfl) (fun _ _ _ h => h) (Or.inl ⟨by rfl, ?yR112⟩) hHeld ?_
          case yR112 => (intro w hSw; (try dsimp only at hSw); go_simp <;> with_reducible rfl)
          try simp only [Act.put, List.getElem_toArray, List.getElem_cons_zero, List.getElem_cons_succ, List.setIfInBounds_toArray, List.set_cons_zero, List.set_cons_succ]
          refine wpAnyH_take (i := 13) (oi := _) (v := ?vR113) rfl (by kernel_rfl) (by kernel_rfl) (by kernel_rfl) (fun _ _ _ h => h) (Or.inl ⟨by rfl, ?yR113⟩) hHeld ?_
          case yR113 => (intro w hSw; (try dsimp only at hSw); go_simp <;> with_reducible rfl)
          try simp only [Act.put, List.getElem_toArray, List.getElem_cons_zero, List.getElem_cons_succ, List.setIfInBounds_toArray, List.set_cons_zero, List.set_cons_succ]
          refine wpAnyH_ready (rs := [14]) (by kernel_rfl) (by simp) ?_
          refine AllReadyH.cons rfl (fun K hK => ?_) AllReadyH.nil
          go_simp
          go_wp2_with (go_at_call 82; refine (HS.out _ hd0).mono ?_; rintro e w1 ⟨rfl, b1⟩; have hd1 : Below wr.heap.size wr w1 := hd0.trans (b1.mono hd0.size))
          clear hHeld
          refine hK.out _ _ ?SR115 (fun hHeld => ?_)
          case SR115 => ((try dsimp only); first | (with_reducible exact KEEP.out _ hd1) | (with_reducible exact KEEP.out _ hd0))
          clear hK K
          refine wpAnyH_take (i := 15) (oi := _) (v := ?vR115) rfl (by kernel_rfl) (by kernel_rfl) (by kernel_rfl) (fun _ _ _ h => h) (Or.inl ⟨by rfl, ?yR115⟩) hHeld ?_
          case yR115 => (intro w hSw; (try dsimp only at hSw); go_simp <;> with_reducible rfl)
          try simp only [Act.put, List.getElem_toArray, List.getElem_cons_zero, List.getElem_cons_succ, List.setIfInBounds_toArray, List.set_cons_zero, List.set_cons_succ]
          refine wpAnyH_done (by kernel_rfl) ?_ _
          go_wp2_with fail
          go_roundw
          case rel => exact ⟨k + 1, by omega, by go_num, HN2.out, hbz.trans (hd1.mono hbz.size)⟩
          case measure => simp [intOf]; omega
        | true =>
          have HY2 := hidden (HY.out rfl)
          clear HY HN
          go_wp2_with fail
          refine wp_region_held_drew (S := (fun w' => w'.cell? ⟨b0, off + k * 6, none⟩ = some (.string d.name) ∧ w'.cell? ⟨b0, off + k * 6 + 1, none⟩ = some (.int .i64 d.vA) ∧ w'.cell? ⟨b0, off + k * 6 + 2, none⟩ = some (.int .i64 d.vB) ∧ w'.cell? ⟨b0, off + k * 6 + 3, none⟩ = some (.int .i64 d.vC) ∧ w'.cell? ⟨b0, off + k * 6 + 4, none⟩ = some (.slice a0 d.vP.length cap0) ∧ w'.cell? ⟨b0, off + k * 6 + 5, none⟩ = some (.slice a1 d.needs.length cap1) ∧ w'.cell? ⟨w.heap.size, 0, none⟩ = some (.int .i64 a) ∧ w'.cell? ⟨w.heap.size, 1, none⟩ = some (.int .i64 b) ∧ w'.cell? ⟨w.heap.size, 2, none⟩ = some (.int .i64 c) ∧ w'.cell? ⟨w.heap.size, 3, none⟩ = some (.slice q ps.length cap))) (by kernel_rfl) ?SR20 (fun hHeld => ?_)
          case SR20 => (first | (with_reducible exact KEEP.out _ hd1) | (with_reducible exact KEEP.out _ hd0))
          refine wpAnyH_take (i := 0) (oi := _) (v := ?vR20) rfl (by kernel_rfl) (by kernel_rfl) (by kernel_rfl) (fun _ _ _ h => h) (Or.inl ⟨by rfl, ?yR20⟩) hHeld ?_
          case yR20 => (intro w hSw; (try dsimp only at hSw); go_simp <;> with_reducible rfl)
          try simp only [Act.put, List.getElem_toArray, List.getElem_cons_zero, List.getElem_cons_succ, List.setIfInBounds_toArray, List.set_cons_zero, List.set_cons_succ]
          refine wpAnyH_take (i := 1) (oi := _) (v := ?vR21) rfl (by kernel_rfl) (by kernel_rfl) (by kernel_rfl) (fun _ _ _ h => h) (Or.inl ⟨by rfl, ?yR21⟩) hHeld ?_
          case yR21 => (intro w hSw; (try dsimp only at hSw); go_simp <;> with_reducible rfl)
          try simp only [Act.put, List.getElem_toArray, List.getElem_cons_zero, List.getElem_cons_succ, List.setIfInBounds_toArray, List.set_cons_zero, List.set_cons_succ]
          refine wpAnyH_take (i := 2) (oi := _) (v := ?vR22) rfl (by kernel_rfl) (by kernel_rfl) (by kernel_rfl) (fun _ _ _ h => h) (Or.inl ⟨by rfl, ?yR22⟩) hHeld ?_
          case yR22 => (intro w hSw; (try dsimp only at hSw); go_simp <;> with_reducible rfl)
          try simp only [Act.put, List.getElem_toArray, List.getElem_cons_zero, List.getElem_cons_succ, List.setIfInBounds_toArray, List.set_cons_zero, List.set_cons_succ]
          refine wpAnyH_take (i := 3) (oi := _) (v := ?vR23) rfl (by kernel_rfl) (by kernel_rfl) (by kernel_rfl) (fun _ _ _ h => h) (Or.inl ⟨by rfl, ?yR23⟩) hHeld ?_
          case yR23 => (intro w hSw; (try dsimp only at hSw); go_simp <;> with_reducible rfl)
          try simp only [Act.put, List.getElem_toArray, List.getElem_cons_zero, List.getElem_cons_succ, List.setIfInBounds_toArray, List.set_cons_zero, List.set_cons_succ]
          refine wpAnyH_take (i := 4) (oi := _) (v := ?vR24) rfl (by kernel_rfl) (by kernel_rfl) (by kernel_rfl) (fun _ _ _ h => h) (Or.inl ⟨by rfl, ?yR24⟩) hHeld ?_
          case yR24 => (intro w hSw; (try dsimp only at hSw); go_simp <;> with_reducible rfl)
          try simp only [Act.put, List.getElem_toArray, List.getElem_cons_zero, List.getElem_cons_succ, List.setIfInBounds_toArray, List.set_cons_zero, List.set_cons_succ]
          refine wpAnyH_take (i := 5) (oi := _) (v := ?vR25) rfl (by kernel_rfl) (by kernel_rfl) (by kernel_rfl) (fun _ _ _ h => h) (Or.inl ⟨by rfl, ?yR25⟩) hHeld ?_
          case yR25 => (intro w hSw; (try dsimp only at hSw); go_simp <;> with_reducible rfl)
          try simp only [Act.put, List.getElem_toArray, List.getElem_cons_zero, List.getElem_cons_succ, List.setIfInBounds_toArray, List.set_cons_zero, List.set_cons_succ]
          refine wpAnyH_take (i := 6) (oi := _) (v := ?vR26) rfl (by kernel_rfl) (by kernel_rfl) (by kernel_rfl) (fun _ _ _ h => h) (Or.inl ⟨by rfl, ?yR26⟩) hHeld ?_
          case yR26 => (intro w hSw; (try dsimp only at hSw); go_simp <;> with_reducible rfl)
          try simp only [Act.put, List.getElem_toArray, List.getElem_cons_zero, List.getElem_cons_succ, List.setIfInBounds_toArray, List.set_cons_zero, List.set_cons_succ]
          refine wpAnyH_take (i := 7) (oi := _) (v := ?vR27) rfl (by kernel_rfl) (by kernel_rfl) (by kernel_rfl) (fun _ _ _ h => h) (Or.inl ⟨by rfl, ?yR27⟩) hHeld ?_
          case yR27 => (intro w hSw; (try dsimp only at hSw); go_simp <;> with_reducible rfl)
          try simp only [Act.put, List.getElem_toArray, List.getElem_cons_zero, List.getElem_cons_succ, List.setIfInBounds_toArray, List.set_cons_zero, List.set_cons_succ]
          refine wpAnyH_take (i := 8) (oi := _) (v := ?vR28) rfl (by kernel_rfl) (by kernel_rfl) (by kernel_rfl) (fun _ _ _ h => h) (Or.inl ⟨by rfl, ?yR28⟩) hHeld ?_
          case yR28 => (intro w hSw; (try dsimp only at hSw); go_simp <;> with_reducible rfl)
          try simp only [Act.put, List.getElem_toArray, List.getElem_cons_zero, List.getElem_cons_succ, List.setIfInBounds_toArray, List.set_cons_zero, List.set_cons_succ]
          refine wpAnyH_take (i := 9) (oi := _) (v := ?vR29) rfl (by kernel_rfl) (by kernel_rfl) (by kernel_rfl) (fun _ _ _ h => h) (Or.inl ⟨by rfl, ?yR29⟩) hHeld ?_
          case yR29 => (intro w hSw; (try dsimp only at hSw); go_simp <;> with_reducible rfl)
          try simp only [Act.put, List.getElem_toArray, List.getElem_cons_zero, List.getElem_cons_succ, List.setIfInBounds_toArray, List.set_cons_zero, List.set_cons_succ]
          refine wpAnyH_take (i := 10) (oi := _) (v := ?vR210) rfl (by kernel_rfl) (by kernel_rfl) (by kernel_rfl) (fun _ _ _ h => h) (Or.inl ⟨by rfl, ?yR210⟩) hHeld ?_
          case yR210 => (intro w hSw; (try dsimp only at hSw); go_simp <;> with_reducible rfl)
          try simp only [Act.put, List.getElem_toArray, List.getElem_cons_zero, List.getElem_cons_succ, List.setIfInBounds_toArray, List.set_cons_zero, List.set_cons_succ]
          refine wpAnyH_take (i := 11) (oi := _) (v := ?vR211) rfl (by kernel_rfl) (by kernel_rfl) (by kernel_rfl) (fun _ _ _ h => h) (Or.inl ⟨by rfl, ?yR211⟩) hHeld ?_
          case yR211 => (intro w hSw; (try dsimp only at hSw); go_simp <;> with_reducible rfl)
          try simp only [Act.put, List.getElem_toArray, List.getElem_cons_zero, List.getElem_cons_succ, List.setIfInBounds_toArray, List.set_cons_zero, List.set_cons_succ]
          refine wpAnyH_take (i := 12) (oi := _) (v := ?vR212) rfl (by kernel_rfl) (by kernel_rfl) (by kernel_rfl) (fun _ _ _ h => h) (Or.inl ⟨by rfl, ?yR212⟩) hHeld ?_
          case yR212 => (intro w hSw; (try dsimp only at hSw); go_simp <;> with_reducible rfl)
          try simp only [Act.put, List.getElem_toArray, List.getElem_cons_zero, List.getElem_cons_succ, List.setIfInBounds_toArray, List.set_cons_zero, List.set_cons_succ]
          refine wpAnyH_take (i := 13) (oi := _) (v := ?vR213) rfl (by kernel_rfl) (by kernel_rfl) (by kernel_rfl) (fun _ _ _ h => h) (Or.inl ⟨by rfl, ?yR213⟩) hHeld ?_
          case yR213 => (intro w hSw; (try dsimp only at hSw); go_simp <;> with_reducible rfl)
          try simp only [Act.put, List.getElem_toArray, List.getElem_cons_zero, List.getElem_cons_succ, List.setIfInBounds_toArray, List.set_cons_zero, List.set_cons_succ]
          refine wpAnyH_ready (rs := [14]) (by kernel_rfl) (by simp) ?_
          refine AllReadyH.cons rfl (fun K hK => ?_) AllReadyH.nil
          go_simp
          go_wp2_with (go_at_call 82; refine (HS.out _ hd0).mono ?_; rintro e w1 ⟨rfl, b1⟩; have hd1 : Below wr.heap.size wr w1 := hd0.trans (b1.mono hd0.size))
          clear hHeld
          refine hK.out _ _ ?SR215 (fun hHeld => ?_)
          case SR215 => ((try dsimp only); first | (with_reducible exact KEEP.out _ hd1) | (with_reducible exact KEEP.out _ hd0))
          clear hK K
          refine wpAnyH_take (i := 15) (oi := _) (v := ?vR215) rfl (by kernel_rfl) (by kernel_rfl) (by kernel_rfl) (fun _ _ _ h => h) (Or.inl ⟨by rfl, ?yR215⟩) hHeld ?_
          case yR215 => (intro w hSw; (try dsimp only at hSw); go_simp <;> with_reducible rfl)
          try simp only [Act.put, List.getElem_toArray, List.getElem_cons_zero, List.getElem_cons_succ, List.setIfInBounds_toArray, List.set_cons_zero, List.set_cons_succ]
          refine wpAnyH_done (by kernel_rfl) ?_ _
          obtain ⟨x0, x1, x2, x3, x4, x5, _⟩ := KEEP.out _ hd1
          go_wp2_with fail
          go_at_call 83
          refine (HC.out _ hd1).mono ?_
          rintro e wC ⟨cs9, rfl, hl9, bC⟩
          have kC : Below wz.heap.size wz wC := (hbz.trans (hd1.mono hbz.size)).trans (bC.mono (hbz.trans (hd1.mono hbz.size)).size)
          have hRC := (kC.block (w.heap.size + 1) (by omega)).trans hRz
          have sC := hd1.size
          have HO : Hid (∀ W : World, W.heap.size = wC.heap.size → Kp (fun b => b ≠ w.heap.size + 1) wC W → shEntryO.lies (Ow w.heap.size W.heap.size) W cs9 d) := fun W hs hk => shEntryO.mono (Ow.mono (by omega) (by omega)) (shEntryO.keep (S := Ow w1.heap.size wC.heap.size) (fun b hb => hk b (by have := hb.1; show b ≠ _; omega)) hl9)
          obtain ⟨v0, v1, rfl, _, q0, _, q1⟩ := id hl9
          obtain ⟨f0, m0, ef0⟩ := q0.slice
          subst ef0
          obtain ⟨f1, m1, ef1⟩ := q1.slice
          subst ef1
          have fr := vblk_frozen hRC
          have r0 := vblk_cell hRC 0
          have r1 := vblk_cell hRC 1
          have r2 := vblk_cell hRC 2
          have r3 := vblk_cell hRC 3
          have r4 := vblk_cell hRC 4
          have r5 := vblk_cell hRC 5
          simp only [List.getElem?_toArray, List.getElem?_cons_succ, List.getElem?_cons_zero] at r0 r1 r2 r3 r4 r5
          clear hl9 q0 q1 HC HS KEEP hRC x0 x1 x2 x3 x4 x5 hHeld
          go_wp2_with fail
          refine bodyPost_ret (v := .tuple #[.agg #[.string d.name, .int .i64 d.vA, .int .i64 d.vB, .int .i64 d.vC, .slice f0 d.vP.length m0, .slice f1 d.needs.length m1], .bool true]) (by simp [results, Tryz.results17, go_sem, r0, r1, r2, r3, r4, r5]) rfl ?_
          rw [HY2.out, HAT.out]
          refine ⟨_, rfl, HO.out _ (by simp [World.setCell]) ?_, ?_⟩
          · (repeat (refine Kp.trans ?_ (Kp.set (by simp))))
            exact fun b hb => rfl
          · (repeat (refine Below.setCell ?_ (by simp) _))
            exact hwz.trans (kC.mono (by omega))
      · rw [decide_eq_false hnn, Bool.false_and] at HN
        rw [decide_eq_false hnn] at hnm
        have HN2 := hidden (HN.out rfl)
        clear HY HN hnn
        go_wp2_with fail
        refine wp_region_held_drew (S := (fun w' => w'.cell? ⟨b0, off + k * 6, none⟩ = some (.string d.name) ∧ w'.cell? ⟨b0, off + k * 6 + 1, none⟩ = some (.int .i64 d.vA) ∧ w'.cell? ⟨b0, off + k * 6 + 2, none⟩ = some (.int .i64 d.vB) ∧ w'.cell? ⟨b0, off + k * 6 + 3, none⟩ = some (.int .i64 d.vC) ∧ w'.cell? ⟨b0, off + k * 6 + 4, none⟩ = some (.slice a0 d.vP.length cap0) ∧ w'.cell? ⟨b0, off + k * 6 + 5, none⟩ = some (.slice a1 d.needs.length cap1) ∧ w'.cell? ⟨w.heap.size, 0, none⟩ = some (.int .i64 a) ∧ w'.cell? ⟨w.heap.size, 1, none⟩ = some (.int .i64 b) ∧ w'.cell? ⟨w.heap.size, 2, none⟩ = some (.int .i64 c) ∧ w'.cell? ⟨w.heap.size, 3, none⟩ = some (.slice q ps.length cap))) (by kernel_rfl) ?SR30 (fun hHeld => ?_)
        case SR30 => (first | (with_reducible exact KEEP.out _ hd1) | (with_reducible exact KEEP.out _ hd0))
        refine wpAnyH_take (i := 0) (oi := _) (v := ?vR30) rfl (by kernel_rfl) (by kernel_rfl) (by kernel_rfl) (fun _ _ _ h => h) (Or.inl ⟨by rfl, ?yR30⟩) hHeld ?_
        case yR30 => (intro w hSw; (try dsimp only at hSw); go_simp <;> with_reducible rfl)
        try simp only [Act.put, List.getElem_toArray, List.getElem_cons_zero, List.getElem_cons_succ, List.setIfInBounds_toArray, List.set_cons_zero, List.set_cons_succ]
        refine wpAnyH_take (i := 1) (oi := _) (v := ?vR31) rfl (by kernel_rfl) (by kernel_rfl) (by kernel_rfl) (fun _ _ _ h => h) (Or.inl ⟨by rfl, ?yR31⟩) hHeld ?_
        case yR31 => (intro w hSw; (try dsimp only at hSw); go_simp <;> with_reducible rfl)
        try simp only [Act.put, List.getElem_toArray, List.getElem_cons_zero, List.getElem_cons_succ, List.setIfInBounds_toArray, List.set_cons_zero, List.set_cons_succ]
        refine wpAnyH_take (i := 2) (oi := _) (v := ?vR32) rfl (by kernel_rfl) (by kernel_rfl) (by kernel_rfl) (fun _ _ _ h => h) (Or.inl ⟨by rfl, ?yR32⟩) hHeld ?_
        case yR32 => (intro w hSw; (try dsimp only at hSw); go_simp <;> with_reducible rfl)
        try simp only [Act.put, List.getElem_toArray, List.getElem_cons_zero, List.getElem_cons_succ, List.setIfInBounds_toArray, List.set_cons_zero, List.set_cons_succ]
        refine wpAnyH_take (i := 3) (oi := _) (v := ?vR33) rfl (by kernel_rfl) (by kernel_rfl) (by kernel_rfl) (fun _ _ _ h => h) (Or.inl ⟨by rfl, ?yR33⟩) hHeld ?_
        case yR33 => (intro w hSw; (try dsimp only at hSw); go_simp <;> with_reducible rfl)
        try simp only [Act.put, List.getElem_toArray, List.getElem_cons_zero, List.getElem_cons_succ, List.setIfInBounds_toArray, List.set_cons_zero, List.set_cons_succ]
        refine wpAnyH_take (i := 4) (oi := _) (v := ?vR34) rfl (by kernel_rfl) (by kernel_rfl) (by kernel_rfl) (fun _ _ _ h => h) (Or.inl ⟨by rfl, ?yR34⟩) hHeld ?_
        case yR34 => (intro w hSw; (try dsimp only at hSw); go_simp <;> with_reducible rfl)
        try simp only [Act.put, List.getElem_toArray, List.getElem_cons_zero, List.getElem_cons_succ, List.setIfInBounds_toArray, List.set_cons_zero, List.set_cons_succ]
        refine wpAnyH_take (i := 5) (oi := _) (v := ?vR35) rfl (by kernel_rfl) (by kernel_rfl) (by kernel_rfl) (fun _ _ _ h => h) (Or.inl ⟨by rfl, ?yR35⟩) hHeld ?_
        case yR35 => (intro w hSw; (try dsimp only at hSw); go_simp <;> with_reducible rfl)
        try simp only [Act.put, List.getElem_toArray, List.getElem_cons_zero, List.getElem_cons_succ, List.setIfInBounds_toArray, List.set_cons_zero, List.set_cons_succ]
        refine wpAnyH_take (i := 6) (oi := _) (v := ?vR36) rfl (by kernel_rfl) (by kernel_rfl) (by kernel_rfl) (fun _ _ _ h => h) (Or.inl ⟨by rfl, ?yR36⟩) hHeld ?_
        case yR36 => (intro w hSw; (try dsimp only at hSw); go_simp <;> with_reducible rfl)
        try simp only [Act.put, List.getElem_toArray, List.getElem_cons_zero, List.getElem_cons_succ, List.setIfInBounds_toArray, List.set_cons_zero, List.set_cons_succ]
        refine wpAnyH_take (i := 7) (oi := _) (v := ?vR37) rfl (by kernel_rfl) (by kernel_rfl) (by kernel_rfl) (fun _ _ _ h => h) (Or.inl ⟨by rfl, ?yR37⟩) hHeld ?_
        case yR37 => (intro w hSw; (try dsimp only at hSw); go_simp <;> with_reducible rfl)
        try simp only [Act.put, List.getElem_toArray, List.getElem_cons_zero, List.getElem_cons_succ, List.setIfInBounds_toArray, List.set_cons_zero, List.set_cons_succ]
        refine wpAnyH_take (i := 8) (oi := _) (v := undef) rfl (by kernel_rfl) (by kernel_rfl) (by kernel_rfl) (fun _ _ _ h => h) (Or.inr ⟨by rfl, rfl⟩) hHeld ?_
        try simp only [Act.put, List.getElem_toArray, List.getElem_cons_zero, List.getElem_cons_succ, List.setIfInBounds_toArray, List.set_cons_zero, List.set_cons_succ]
        refine wpAnyH_take (i := 9) (oi := _) (v := undef) rfl (by kernel_rfl) (by kernel_rfl) (by kernel_rfl) (fun _ _ _ h => h) (Or.inr ⟨by rfl, rfl⟩) hHeld ?_
        try simp only [Act.put, List.getElem_toArray, List.getElem_cons_zero, List.getElem_cons_succ, List.setIfInBounds_toArray, List.set_cons_zero, List.set_cons_succ]
        refine wpAnyH_take (i := 10) (oi := _) (v := undef) rfl (by kernel_rfl) (by kernel_rfl) (by kernel_rfl) (fun _ _ _ h => h) (Or.inr ⟨by rfl, rfl⟩) hHeld ?_
        try simp only [Act.put, List.getElem_toArray, List.getElem_cons_zero, List.getElem_cons_succ, List.setIfInBounds_toArray, List.set_cons_zero, List.set_cons_succ]
        refine wpAnyH_take (i := 11) (oi := _) (v := undef) rfl (by kernel_rfl) (by kernel_rfl) (by kernel_rfl) (fun _ _ _ h => h) (Or.inr ⟨by rfl, rfl⟩) hHeld ?_
        try simp only [Act.put, List.getElem_toArray, List.getElem_cons_zero, List.getElem_cons_succ, List.setIfInBounds_toArray, List.set_cons_zero, List.set_cons_succ]
        refine wpAnyH_take (i := 12) (oi := _) (v := undef) rfl (by kernel_rfl) (by kernel_rfl) (by kernel_rfl) (fun _ _ _ h => h) (Or.inr ⟨by rfl, rfl⟩) hHeld ?_
        try simp only [Act.put, List.getElem_toArray, List.getElem_cons_zero, List.getElem_cons_succ, List.setIfInBounds_toArray, List.set_cons_zero, List.set_cons_succ]
        refine wpAnyH_take (i := 13) (oi := _) (v := undef) rfl (by kernel_rfl) (by kernel_rfl) (by kernel_rfl) (fun _ _ _ h => h) (Or.inr ⟨by rfl, rfl⟩) hHeld ?_
        try simp only [Act.put, List.getElem_toArray, List.getElem_cons_zero, List.getElem_cons_succ, List.setIfInBounds_toArray, List.set_cons_zero, List.set_cons_succ]
        refine wpAnyH_take (i := 14) (oi := _) (v := undef) rfl (by kernel_rfl) (by kernel_rfl) (by kernel_rfl) (fun _ _ _ h => h) (Or.inr ⟨by rfl, rfl⟩) hHeld ?_
        try simp only [Act.put, List.getElem_toArray, List.getElem_cons_zero, List.getElem_cons_succ, List.setIfInBounds_toArray, List.set_cons_zero, List.set_cons_succ]
        refine wpAnyH_take (i := 15) (oi := _) (v := ?vR315) rfl (by kernel_rfl) (by kernel_rfl) (by kernel_rfl) (fun _ _ _ h => h) (Or.inl ⟨by rfl, ?yR315⟩) hHeld ?_
        case yR315 => (intro w hSw; (try dsimp only at hSw); go_simp <;> with_reducible rfl)
        try simp only [Act.put, List.getElem_toArray, List.getElem_cons_zero, List.getElem_cons_succ, List.setIfInBounds_toArray, List.set_cons_zero, List.set_cons_succ]
        refine wpAnyH_done (by kernel_rfl) ?_ _
        go_wp2_with fail
        go_roundw
        case rel => exact ⟨k + 1, by omega, by go_num, HN2.out, hbz.trans (hd0.mono hbz.size)⟩
        case measure => simp [intOf]; omega
    · have he : k = xs.length := by omega
      subst he
      have HE := hidden (firstK_none (fun j hj => hno.out j hj hj))
      have fr := vblk_frozen hRr
      have r0 := vblk_cell hRr 0
      have r1 := vblk_cell hRr 1
      have r2 := vblk_cell hRr 2
      have r3 := vblk_cell hRr 3
      have r4 := vblk_cell hRr 4
      have r5 := vblk_cell hRr 5
      simp only [List.getElem?_toArray, List.getElem?_cons_succ, List.getElem?_cons_zero] at r0 r1 r2 r3 r4 r5
      clear ha hno HSK hRr hAr
      go_wp2_with fail
      refine bodyPost_ret (v := .tuple #[.agg #[.string ⟨#[]⟩, .int .i64 0, .int .i64 0, .int .i64 0, .slice none 0 0, .slice none 0 0], .bool false]) (by simp [results, Tryz.results17, go_sem, r0, r1, r2, r3, r4, r5]) rfl ?_
      rw [HE.out]
      refine ⟨[.string ⟨#[]⟩, .int .i64 0, .int .i64 0, .int .i64 0, .slice none 0 0, .slice none 0 0], rfl, zero_liesO _ _, ?_⟩
      (repeat (refine Below.setCell ?_ (by simp) _))
      exact hbr
end Go.Proofs.YtlfmefojcmpfeaaGreatDoor

/-! PickOf, as the program and the specification answer it: contracts for the walks; conditions: what comes in lies in memory, and holds at most 2 to the 20. -/
namespace Go.Proofs.YtlfmefojcmpfeaaGreatDoor
open Go.RowKit
set_option linter.unusedSimpArgs false
set_option linter.unusedVariables false

def zeroP : PickD := ⟨⟨#[]⟩, 0, 0, 0, []⟩
def firstP (xs : List PickD) (n : ByteArray) : Option Nat := xs.findIdx? fun d => decide (d.name = n)
def atP (xs : List PickD) (o : Option Nat) : PickD := (o.bind (xs[·]?)).getD zeroP
theorem firstP_at {xs : List PickD} {n : ByteArray} {k : Nat} (h : k < xs.length) (hy : xs[k].name = n) (hn : ∀ j (hj : j < xs.length), j < k → ¬ xs[j].name = n) : firstP xs n = some k := by
  unfold firstP
  rw [List.findIdx?_eq_some_iff_getElem]
  exact ⟨h, by simpa using hy, fun j hj => by simpa using hn j (by omega) hj⟩
theorem firstP_none {xs : List PickD} {n : ByteArray} (hn : ∀ j (hj : j < xs.length), ¬ xs[j].name = n) : firstP xs n = none := by
  unfold firstP
  rw [List.findIdx?_eq_none_iff]
  intro x hx
  obtain ⟨j, hj, rfl⟩ := List.mem_iff_getElem.1 hx
  simpa using hn j hj
/-- What PickOf gives back. -/
def PickR (w1 w' : World) (e : Ending) (D : PickD) (is : Bool) : Prop := ∃ u', e = .returned (.tuple #[.agg #[.int .i64 D.vA, .int .i64 D.vB, .int .i64 D.vC, u'], .bool is]) ∧ w'.ownsRow w1.heap.size 9 1 u' D.vP.length (strsV D.vP) ∧ Below w1.heap.size w1 w'

set_option maxHeartbeats 4000000 in
set_option maxRecDepth 100000 in
theorem specPick_c (S : Nat → Prop) (v : Value) (xs : List PickD) (n : ByteArray) (w : World) (hv : RowIn shPickO S w v xs) (hB : ∀ b, S b → b < w.heap.size) (hw : wtRow wtPick xs ≤ 1048576) :
    Calls Tryz.prog 32 #[v, .string n] w fun e w' => PickR w w' e (atP xs (firstP xs n)) (firstP xs n).isSome := by
  have hbx : Below w.heap.size w (w.alloc (.cells #[.int .i64 0, .int .i64 0, .int .i64 0, .slice none 0 0] 30 (0, 0))) := (Below.refl _ _).alloc (Nat.le_refl _) _
  have hwe : ∀ d ∈ xs, wtPick d ≤ 1048576 := fun d hd => Nat.le_trans (wt_wtRow wtPick hd) hw
  obtain ⟨av, cv, rfl, hl, hc, ha⟩ := hv
  unfold maxLen at hl
  obtain ⟨R, hR⟩ : ∃ R, R = firstP xs n := ⟨_, rfl⟩
  rw [← hR]
  have HR : Hid (R = firstP xs n) := hR
  have hRz : (w.alloc (.cells #[.int .i64 0, .int .i64 0, .int .i64 0, .slice none 0 0] 30 (0, 0))).heap[w.heap.size]? = some (.cells #[.int .i64 0, .int .i64 0, .int .i64 0, .slice none 0 0] 30 (0, 0)) := vheap_new _ _
  have hsz : (w.alloc (.cells #[.int .i64 0, .int .i64 0, .int .i64 0, .slice none 0 0] 30 (0, 0))).heap.size = w.heap.size + 1 := by simp
  clear hR
  go_enter Tryz.func32, Tryz.ntmps32
  go_wp2_with fail
  obtain ⟨wz, hW⟩ : ∃ wz, wz = w.alloc (.cells #[.int .i64 0, .int .i64 0, .int .i64 0, .slice none 0 0] 30 (0, 0)) := ⟨_, rfl⟩
  rw [← hW] at hRz hbx hsz
  rw [← hW]
  clear hW
  go_loopw [6] (fun vi wr => ∃ k : Nat, k ≤ xs.length ∧ vi = .int .i64 (k : Int) ∧ Hid (∀ j (hj : j < xs.length), j < k → ¬ xs[j].name = n) ∧ wr = wz) (fun vi _ => xs.length - (intOf vi).toNat)
  case atStart => exact ⟨0, Nat.zero_le _, rfl, (fun j hj h => by omega), rfl⟩
  case round =>
    obtain ⟨k, hk, rfl, hno, rfl⟩ := hrel
    by_cases hlt' : k < xs.length
    · rcases ha with rfl | ⟨b, off, rfl, hlt, ha⟩
      · simp at hlt'
      obtain ⟨cs, hL, hcell⟩ := ha k hlt'
      have hcell2 := hcell.keep (.of hbx hB) hlt
      replace hL := shPickO.keep (.of hbx hB) hL
      have hwk := hwe xs[k] (List.getElem_mem hlt')
      have HT : Hid (xs[k].name = n → R = some k ∧ atP xs (some k) = xs[k]) := fun h => ⟨HR.out.trans (firstP_at hlt' h hno.out), by simp [atP, hlt']⟩
      have HN : Hid (¬ xs[k].name = n → ∀ j (hj : j < xs.length), j < k + 1 → ¬ xs[j].name = n) := fun h j hj hjk => by
        by_cases e : j = k
        · subst e; exact h
        · exact hno.out j hj (by omega)
      obtain ⟨d, hd⟩ : ∃ d, d = xs[k] := ⟨_, rfl⟩
      rw [← hd] at hL HT HN hwk
      obtain ⟨u0, rfl, s_n, r0, p0⟩ := hL
      have hpl : d.vP.length ≤ 1048576 := by unfold wtPick bulkS at hwk; omega
      have HV := hidden (copy_c d.vA d.vB d.vC u0 d.vP 0 _ r0.1 hpl)
      obtain ⟨a0, cap0, eu0⟩ := r0.slice
      subst eu0
      have e0 : wr.cell? ⟨b, off + k * 5, none⟩ = some (.string d.name) := hcell2 0 (by simp)
      have e1 : wr.cell? ⟨b, off + k * 5 + 1, none⟩ = some (.int .i64 d.vA) := hcell2 1 (by simp)
      have e2 : wr.cell? ⟨b, off + k * 5 + 2, none⟩ = some (.int .i64 d.vB) := hcell2 2 (by simp)
      have e3 : wr.cell? ⟨b, off + k * 5 + 3, none⟩ = some (.int .i64 d.vC) := hcell2 3 (by simp)
      have e4 : wr.cell? ⟨b, off + k * 5 + 4, none⟩ = some (.slice a0 d.vP.length cap0) := hcell2 4 (by simp)
      have hki : (k : Int) < (xs.length : Int) := by omega
      have hal := name_alike d.name n
      clear ha hd hcell hcell2 hno HR r0
      by_cases hts : d.name = n
      · have hq : (d.name.toList == n.toList) = true := by rw [hal]; simpa using hts
        have HT2 := hidden (HT.out hts)
        clear HT HN hts hal
        go_wp2_with fail
        go_at_call 78
        refine HV.out.mono ?_
        rintro e w1 ⟨u', rfl, ho, b1⟩
        have hR1 := box_below hRz b1
        have y0 := vblk_cell hR1 0
        have y1 := vblk_cell hR1 1
        have y2 := vblk_cell hR1 2
        have y3 := vblk_cell hR1 3
        have fy := vblk_frozen hR1
        simp only [List.getElem?_toArray, List.getElem?_cons_succ, List.getElem?_cons_zero] at y0 y1 y2 y3
        have kb := hbx.trans (b1.mono hbx.size)
        obtain ⟨qv, cv2, ev⟩ := owns_sliceP ho
        subst ev
        have HO := hidden (And.intro (owns_lo hbx.size ho) (And.intro hR1 kb))
        clear ho hR1 b1
        go_wp2_with fail
        refine bodyPost_ret (v := .tuple #[.agg #[.int .i64 d.vA, .int .i64 d.vB, .int .i64 d.vC, .slice qv d.vP.length cv2], .bool true]) (by simp [results, Tryz.results32, go_sem, y0, y1, y2, y3]) rfl ?_
        obtain ⟨ho, hR1, _⟩ := HO.out
        have hg := row_box ho hR1 (by decide)
        refine ⟨_, by rw [HT2.out.1, HT2.out.2]; rfl, ?_, ?_⟩
        · rw [HT2.out.1, HT2.out.2]
          exact owns_kept (S := fun b => b ≠ w.heap.size) ((((Kp.set (by simp)).trans (Kp.set (by simp))).trans (Kp.set (by simp))).trans (Kp.set (by simp))) (fun g hg2 => by rintro rfl; exact hg hg2) ho
        · exact Below.setCell (Below.setCell (Below.setCell (Below.setCell kb (Nat.le_refl _) _) (Nat.le_refl _) _) (Nat.le_refl _) _) (Nat.le_refl _) _
      · have hq : (d.name.toList == n.toList) = false := by rw [hal]; simpa using hts
        have HN2 := hidden (HN.out hts)
        clear HT HN hts hal
        go_wp2_with fail
        go_roundw
        case rel => exact ⟨k + 1, by omega, by go_num, HN2.out, by first | exact True.intro | rfl⟩
        case measure => simp [intOf]; omega
    · have he : k = xs.length := by omega
      subst he
      have HE : Hid (R = none) := HR.out.trans (firstP_none (fun j hj => hno.out j hj hj))
      have y0 := vblk_cell hRz 0
      have y1 := vblk_cell hRz 1
      have y2 := vblk_cell hRz 2
      have y3 := vblk_cell hRz 3
      have fy := vblk_frozen hRz
      simp only [List.getElem?_toArray, List.getElem?_cons_succ, List.getElem?_cons_zero] at y0 y1 y2 y3
      clear ha hno HR
      go_wp2_with fail
      refine bodyPost_ret (v := .tuple #[.agg #[.int .i64 0, .int .i64 0, .int .i64 0, .slice none 0 0], .bool false]) (by simp [results, Tryz.results32, go_sem, y0, y1, y2, y3]) rfl ?_
      refine ⟨_, by rw [HE.out]; rfl, ?_, ?_⟩
      · rw [HE.out]
        exact ⟨rfl, .inl ⟨rfl, rfl⟩⟩
      · exact Below.setCell (Below.setCell (Below.setCell (Below.setCell hbx (Nat.le_refl _) _) (Nat.le_refl _) _) (Nat.le_refl _) _) (Nat.le_refl _) _

set_option maxHeartbeats 4000000 in
set_option maxRecDepth 100000 in
theorem implPick_c (S : Nat → Prop) (v : Value) (xs : List PickD) (n : ByteArray) (w : World) (hv : RowIn shPick S w v xs) (hB : ∀ b, S b → b < w.heap.size) (hw : wtRow wtPick xs ≤ 1048576) :
    Calls Tryz.prog 31 #[v, .string n] w fun e w' => PickR w w' e (atP xs (firstP xs n)) (firstP xs n).isSome := by
  have hbx : Below w.heap.size w (w.alloc (.cells #[.int .i64 0, .int .i64 0, .int .i64 0, .slice none 0 0] 30 (0, 0))) := (Below.refl _ _).alloc (Nat.le_refl _) _
  have hwe : ∀ d ∈ xs, wtPick d ≤ 1048576 := fun d hd => Nat.le_trans (wt_wtRow wtPick hd) hw
  obtain ⟨av, cv, rfl, hl, hc, ha⟩ := hv
  unfold maxLen at hl
  obtain ⟨R, hR⟩ : ∃ R, R = firstP xs n := ⟨_, rfl⟩
  rw [← hR]
  have HR : Hid (R = firstP xs n) := hR
  have hRz : (w.alloc (.cells #[.int .i64 0, .int .i64 0, .int .i64 0, .slice none 0 0] 30 (0, 0))).heap[w.heap.size]? = some (.cells #[.int .i64 0, .int .i64 0, .int .i64 0, .slice none 0 0] 30 (0, 0)) := vheap_new _ _
  have hsz : (w.alloc (.cells #[.int .i64 0, .int .i64 0, .int .i64 0, .slice none 0 0] 30 (0, 0))).heap.size = w.heap.size + 1 := by simp
  clear hR
  go_enter Tryz.func31, Tryz.ntmps31
  go_wp2_with fail
  obtain ⟨wz, hW⟩ : ∃ wz, wz = w.alloc (.cells #[.int .i64 0, .int .i64 0, .int .i64 0, .slice none 0 0] 30 (0, 0)) := ⟨_, rfl⟩
  rw [← hW] at hRz hbx hsz
  rw [← hW]
  clear hW
  go_loopw [10] (fun vi wr => ∃ k : Nat, k ≤ xs.length ∧ vi = .int .i64 (k : Int) ∧ Hid (∀ j (hj : j < xs.length), j < k → ¬ xs[j].name = n) ∧ Below wz.heap.size wz wr) (fun vi _ => xs.length - (intOf vi).toNat)
  case atStart => exact ⟨0, Nat.zero_le _, rfl, (fun j hj h => by omega), Below.refl _ _⟩
  case round =>
    obtain ⟨k, hk, rfl, hno, hbz⟩ := hrel
    have hbr : Below w.heap.size w wr := hbx.trans (hbz.mono hbx.size)
    have hRr := box_below hRz hbz
    have hszr := hbz.size
    by_cases hlt' : k < xs.length
    · rcases ha with rfl | ⟨b, off, rfl, hlt, ha⟩
      · simp at hlt'
      obtain ⟨cs, hL, hcell⟩ := ha k hlt'
      have hcell2 := hcell.keep (.of hbr hB) hlt
      replace hL := shPick.keep (.of hbr hB) hL
      have hBr : ∀ b, S b → b < wr.heap.size := fun b h => Nat.lt_of_lt_of_le (hB b h) hbr.size
      have hwk := hwe xs[k] (List.getElem_mem hlt')
      have HT : Hid (xs[k].name = n → R = some k ∧ atP xs (some k) = xs[k]) := fun h => ⟨HR.out.trans (firstP_at hlt' h hno.out), by simp [atP, hlt']⟩
      have HN : Hid (¬ xs[k].name = n → ∀ j (hj : j < xs.length), j < k + 1 → ¬ xs[j].name = n) := fun h j hj hjk => by
        by_cases e : j = k
        · subst e; exact h
        · exact hno.out j hj (by omega)
      obtain ⟨d, hd⟩ : ∃ d, d = xs[k] := ⟨_, rfl⟩
      rw [← hd] at hL HT HN hwk
      obtain ⟨u0, rfl, s_n, r0, p0⟩ := hL
      have hbk : bulkS d.vP ≤ 1048576 := by unfold wtPick at hwk; omega
      have HV' : ∀ w1, Below wr.heap.size wr w1 → Calls Tryz.prog 107 #[.agg #[.int .i64 d.vA, .int .i64 d.vB, .int .i64 d.vC, u0]] w1 fun e w' => ∃ u', e = .returned (.agg #[.int .i64 d.vA, .int .i64 d.vB, .int .i64 d.vC, u']) ∧ w'.ownsRow w1.heap.size 9 1 u' d.vP.length (strsV d.vP) ∧ Below w1.heap.size w1 w' := fun w1 h => copyVer_c _ _ _ u0 d.vP w1 ((r0.keep (.of h hBr)).reads (fun b hb => Nat.lt_of_lt_of_le (hBr b hb) h.size)) hbk
      obtain ⟨a0, cap0, eu0, _⟩ := id r0
      rw [length_strsV] at eu0
      subst eu0
      have HV := hidden HV'
      have e0 : wr.cell? ⟨b, off + k * 5, none⟩ = some (.string d.name) := hcell2 0 (by simp)
      have e1 : wr.cell? ⟨b, off + k * 5 + 1, none⟩ = some (.int .i64 d.vA) := hcell2 1 (by simp)
      have e2 : wr.cell? ⟨b, off + k * 5 + 2, none⟩ = some (.int .i64 d.vB) := hcell2 2 (by simp)
      have e3 : wr.cell? ⟨b, off + k * 5 + 3, none⟩ = some (.int .i64 d.vC) := hcell2 3 (by simp)
      have e4 : wr.cell? ⟨b, off + k * 5 + 4, none⟩ = some (.slice a0 d.vP.length cap0) := hcell2 4 (by simp)
      have hki : (k : Int) < (xs.length : Int) := by omega
      have hal := name_alike d.name n
      have hbox : ∀ o, Below wr.heap.size wr (wr.alloc o) := fun o => (Below.refl _ _).alloc (Nat.le_refl _) _
      clear ha hd hcell hcell2 hno HR r0 HV'
      by_cases hts : d.name = n
      · have hq : (d.name.toList == n.toList) = true := by rw [hal]; simpa using hts
        have HT2 := hidden (HT.out hts)
        clear HT HN hts hal
        go_wp2_with fail
        go_at_call 107
        refine (HV.out _ (by first | exact hbox _ | (refine Below.setCell (Below.setCell (Below.setCell (Below.setCell (Below.setCell (hbox _) ?_ _) ?_ _) ?_ _) ?_ _) ?_ _ <;> simp))).mono ?_
        rintro e w1 ⟨u', rfl, ho, b1⟩
        have hb0 := hbox (.cells #[.string d.name, .int .i64 d.vA, .int .i64 d.vB, .int .i64 d.vC, .slice a0 d.vP.length cap0] 59 (0, 0))
        have hR1 := box_below (box_below hRr hb0) b1
        have y0 := vblk_cell hR1 0
        have y1 := vblk_cell hR1 1
        have y2 := vblk_cell hR1 2
        have y3 := vblk_cell hR1 3
        have fy := vblk_frozen hR1
        simp only [List.getElem?_toArray, List.getElem?_cons_succ, List.getElem?_cons_zero] at y0 y1 y2 y3
        have kb0 := hbr.trans (hb0.mono hbr.size)
        have kb := kb0.trans (b1.mono kb0.size)
        obtain ⟨qv, cv2, ev⟩ := owns_sliceP ho
        subst ev
        have HO := hidden (And.intro (owns_lo kb0.size ho) (And.intro hR1 kb))
        clear ho hR1 b1 hb0 kb0
        go_wp2_with fail
        refine bodyPost_ret (v := .tuple #[.agg #[.int .i64 d.vA, .int .i64 d.vB, .int .i64 d.vC, .slice qv d.vP.length cv2], .bool true]) (by simp [results, Tryz.results31, go_sem, y0, y1, y2, y3]) rfl ?_
        obtain ⟨ho, hR1, _⟩ := HO.out
        have hg := row_box ho hR1 (by decide)
        refine ⟨_, by rw [HT2.out.1, HT2.out.2]; rfl, ?_, ?_⟩
        · rw [HT2.out.1, HT2.out.2]
          exact owns_kept (S := fun b => b ≠ w.heap.size) ((((Kp.set (by simp)).trans (Kp.set (by simp))).trans (Kp.set (by simp))).trans (Kp.set (by simp))) (fun g hg2 => by rintro rfl; exact hg hg2) ho
        · exact Below.setCell (Below.setCell (Below.setCell (Below.setCell kb (Nat.le_refl _) _) (Nat.le_refl _) _) (Nat.le_refl _) _) (Nat.le_refl _) _
      · have hq : (d.name.toList == n.toList) = false := by rw [hal]; simpa using hts
        have HN2 := hidden (HN.out hts)
        clear HT HN hts hal
        go_wp2_with fail
        go_roundw
        case rel => exact ⟨k + 1, by omega, by go_num, HN2.out, hbz.trans ((hbox _).mono hszr)⟩
        case measure => simp [intOf]; omega
    · have he : k = xs.length := by omega
      subst he
      have HE : Hid (R = none) := HR.out.trans (firstP_none (fun j hj => hno.out j hj hj))
      have y0 := vblk_cell hRr 0
      have y1 := vblk_cell hRr 1
      have y2 := vblk_cell hRr 2
      have y3 := vblk_cell hRr 3
      have fy := vblk_frozen hRr
      simp only [List.getElem?_toArray, List.getElem?_cons_succ, List.getElem?_cons_zero] at y0 y1 y2 y3
      clear ha hno HR
      go_wp2_with fail
      refine bodyPost_ret (v := .tuple #[.agg #[.int .i64 0, .int .i64 0, .int .i64 0, .slice none 0 0], .bool false]) (by simp [results, Tryz.results31, go_sem, y0, y1, y2, y3]) rfl ?_
      refine ⟨_, by rw [HE.out]; rfl, ?_, ?_⟩
      · rw [HE.out]
        exact ⟨rfl, .inl ⟨rfl, rfl⟩⟩
      · exact Below.setCell (Below.setCell (Below.setCell (Below.setCell hbr (Nat.le_refl _) _) (Nat.le_refl _) _) (Nat.le_refl _) _) (Nat.le_refl _) _
end Go.Proofs.YtlfmefojcmpfeaaGreatDoor

/-! What solves: a function of what is told; pure facts, no condition. -/
namespace Go.Proofs.YtlfmefojcmpfeaaGreatDoor
open Go.RowKit
set_option linter.unusedSimpArgs false
set_option linter.unusedVariables false

def mayP (n : NeedD) (d : PickD) : Bool := mayB n.r d.vA d.vB d.vC d.vP
def met1 (l : List PickD) (n : NeedD) : Bool := (firstP l n.n).isSome && mayP n (atP l (firstP l n.n))
def metB (ns : List NeedD) (l : List PickD) : Bool := ns.all (met1 l)
def keyP (d : PickD) : KeyE := ⟨d.name, d.vA, d.vB, d.vC, ⟨(preL d.vP).toArray⟩⟩
def pickOkB (r : List EntryD) (l : List PickD) (d : PickD) : Bool := (firstK r (keyP d)).isSome && metB (atD r (firstK r (keyP d))).needs l
def namesB (l : List PickD) : Bool := decide ((l.map (·.name)).Nodup)
def solB (r : List EntryD) (ns : List NeedD) (l : List PickD) : Bool := namesB l && (metB ns l && l.all (pickOkB r l))
theorem metB_true {ns : List NeedD} {l : List PickD} (h : ∀ j (hj : j < ns.length), met1 l ns[j] = true) : metB ns l = true := by
  unfold metB
  rw [List.all_eq_true]
  intro x hx
  obtain ⟨j, hj, rfl⟩ := List.mem_iff_getElem.1 hx
  exact h j hj
theorem metB_false {ns : List NeedD} {l : List PickD} {j : Nat} (hj : j < ns.length) (h : met1 l ns[j] = false) : metB ns l = false := by
  unfold metB
  rw [List.all_eq_false]
  exact ⟨ns[j], List.getElem_mem hj, by simp [h]⟩
theorem namesB_true {l : List PickD} (h : ∀ i (hi : i < l.length) k (hk : k < i), ¬ l[k].name = l[i].name) : namesB l = true := by
  unfold namesB
  rw [decide_eq_true_eq, List.Nodup, List.pairwise_iff_getElem]
  intro i j hi hj hij
  simp at hi hj
  simp
  exact h j hj i hij
theorem namesB_false {l : List PickD} {i k : Nat} (hi : i < l.length) (hk : k < i) (h : l[k].name = l[i].name) : namesB l = false := by
  unfold namesB
  rw [decide_eq_false_iff_not]
  intro hn
  rw [List.Nodup, List.pairwise_iff_getElem] at hn
  have := hn k i (by simp; omega) (by simpa using hi) hk
  simp at this
  exact this h
theorem solB_true {r : List EntryD} {ns : List NeedD} {l : List PickD} (hm : metB ns l = true) (h : ∀ i (hi : i < l.length), pickOkB r l l[i] = true ∧ ∀ k (hk : k < i), ¬ l[k].name = l[i].name) : solB r ns l = true := by
  unfold solB
  rw [namesB_true (fun i hi => (h i hi).2), hm, Bool.true_and, Bool.true_and, List.all_eq_true]
  intro x hx
  obtain ⟨j, hj, rfl⟩ := List.mem_iff_getElem.1 hx
  exact (h j hj).1
theorem solB_met {r : List EntryD} {ns : List NeedD} {l : List PickD} (hm : metB ns l = false) : solB r ns l = false := by
  unfold solB; rw [hm]; simp
theorem solB_pick {r : List EntryD} {ns : List NeedD} {l : List PickD} {i : Nat} (hi : i < l.length) (h : pickOkB r l l[i] = false) : solB r ns l = false := by
  unfold solB
  have : l.all (pickOkB r l) = false := by
    rw [List.all_eq_false]
    exact ⟨l[i], List.getElem_mem hi, by simp [h]⟩
  rw [this]; simp
theorem solB_name {r : List EntryD} {ns : List NeedD} {l : List PickD} (h : namesB l = false) : solB r ns l = false := by
  unfold solB; rw [h]; simp
/-- The last of this name among the first k. -/
def lastP (l : List PickD) (p : ByteArray) : Nat → Option Nat
  | 0 => none
  | k + 1 => if (l[k]?.map fun d => decide (d.name = p)) = some true then some k else lastP l p k
/-- How many names there are among the first k. -/
def cntN (l : List PickD) : Nat → Nat
  | 0 => 0
  | k + 1 => match l[k]? with
    | none => cntN l k
    | some d => if (lastP l d.name k).isSome = true then cntN l k else cntN l k + 1
theorem lastP_step (l : List PickD) (k : Nat) (h : k < l.length) (p : ByteArray) : lastP l p (k + 1) = if p = l[k].name then some k else lastP l p k := by
  show (if (l[k]?.map fun d => decide (d.name = p)) = some true then some k else lastP l p k) = _
  rw [List.getElem?_eq_getElem h]
  by_cases e : p = l[k].name
  · rw [if_pos e]; simp [e]
  · rw [if_neg e, if_neg (fun h => e (by simpa using h : l[k].name = p).symm)]
theorem cntN_step (l : List PickD) (k : Nat) (h : k < l.length) : cntN l (k + 1) = if (lastP l l[k].name k).isSome = true then cntN l k else cntN l k + 1 := by
  show (match l[k]? with | none => cntN l k | some d => if (lastP l d.name k).isSome = true then cntN l k else cntN l k + 1) = _
  rw [List.getElem?_eq_getElem h]
theorem lastP_some {l : List PickD} {p : ByteArray} : ∀ {k i : Nat}, k ≤ l.length → lastP l p k = some i → ∃ hi : i < l.length, i < k ∧ l[i].name = p := by
  intro k
  induction k with
  | zero => intro i _ h; cases h
  | succ k ih =>
    intro i hk h
    rw [lastP_step l k (by omega)] at h
    split at h
    · rename_i e; cases h; exact ⟨by omega, by omega, e.symm⟩
    · obtain ⟨h1, h2, h3⟩ := ih (by omega) h; exact ⟨h1, by omega, h3⟩
theorem lastP_none {l : List PickD} {p : ByteArray} : ∀ {k : Nat}, k ≤ l.length → lastP l p k = none → ∀ i (hi : i < l.length), i < k → ¬ l[i].name = p := by
  intro k
  induction k with
  | zero => intro _ _ i hi h; omega
  | succ k ih =>
    intro hk h i hi hik
    rw [lastP_step l k (by omega)] at h
    split at h
    · cases h
    · rename_i e
      by_cases hh : i = k
      · subst hh; exact fun he => e he.symm
      · exact ih (by omega) h i hi (by omega)
theorem cntN_le (l : List PickD) : ∀ k, k ≤ l.length → cntN l k ≤ k := by
  intro k
  induction k with
  | zero => intro _; exact Nat.le_refl _
  | succ k ih =>
    intro hk
    have := ih (by omega)
    rw [cntN_step l k (by omega)]
    split <;> omega
theorem cntN_full (l : List PickD) : ∀ k, k ≤ l.length → cntN l k = k → ∀ i (hi : i < l.length), i < k → ∀ j (hj : j < i), ¬ l[j].name = l[i].name := by
  intro k
  induction k with
  | zero => intro _ _ i hi h; omega
  | succ k ih =>
    intro hk hc i hi hik j hj
    have hle := cntN_le l k (by omega)
    rw [cntN_step l k (by omega)] at hc
    split at hc
    · omega
    · rename_i hn
      by_cases e : i = k
      · subst e
        cases hl : lastP l l[i].name i with
        | some x => rw [hl] at hn; simp at hn
        | none => exact lastP_none (by omega) hl j (by omega) hj
      · exact ih (by omega) (by omega) i hi (by omega) j hj
theorem cntN_less (l : List PickD) : ∀ k, k ≤ l.length → cntN l k < k → ∃ i, ∃ hi : i < l.length, ∃ j, ∃ hj : j < i, l[j].name = l[i].name := by
  intro k
  induction k with
  | zero => intro _ h; omega
  | succ k ih =>
    intro hk hc
    rw [cntN_step l k (by omega)] at hc
    split at hc
    · rename_i hs
      obtain ⟨x, hx⟩ := Option.isSome_iff_exists.1 hs
      obtain ⟨h1, h2, h3⟩ := lastP_some (by omega) hx
      exact ⟨k, by omega, x, h2, h3⟩
    · exact ih (by omega) (by omega)
theorem cntN_names (l : List PickD) : (cntN l l.length < l.length ↔ namesB l = false) := by
  constructor
  · intro h
    obtain ⟨i, hi, j, hj, e⟩ := cntN_less l l.length (Nat.le_refl _) h
    exact namesB_false hi hj e
  · intro h
    have hle := cntN_le l l.length (Nat.le_refl _)
    rcases Nat.lt_or_ge (cntN l l.length) l.length with h1 | h1
    · exact h1
    · have := namesB_true (fun i hi j hj => cntN_full l l.length (Nat.le_refl _) (by omega) i hi hi j hj)
      rw [this] at h; cases h
theorem lastP_first {l : List PickD} (hn : namesB l = true) (p : ByteArray) : lastP l p l.length = firstP l p := by
  have hd : ∀ i (hi : i < l.length) k (hk : k < i), ¬ l[k].name = l[i].name := fun i hi k hk e => by
    rw [namesB_false hi hk e] at hn; cases hn
  cases h : lastP l p l.length with
  | none => exact (firstP_none (fun j hj => lastP_none (Nat.le_refl _) h j hj hj)).symm
  | some i =>
    obtain ⟨h1, _, h3⟩ := lastP_some (Nat.le_refl _) h
    exact (firstP_at h1 h3 (fun j hj hji e => hd i h1 j hji (e.trans h3.symm))).symm
theorem pick_wt {l : List PickD} (hw : wtRow wtPick l ≤ 1048576) (o : Option Nat) : bulkS (atP l o).vP ≤ 1048576 := by
  unfold atP
  cases o with
  | none => show bulkS [] ≤ _; decide
  | some i =>
    cases hi : l[i]? with
    | none => rw [Option.bind_some, hi]; show bulkS [] ≤ _; decide
    | some d =>
      simp only [Option.bind_some, hi, Option.getD_some]
      have h1 : d.name.size + bulkS d.vP ≤ wtRow wtPick l := wt_wtRow wtPick (List.mem_of_getElem? hi)
      omega
end Go.Proofs.YtlfmefojcmpfeaaGreatDoor

/-! Versions in a map by names: what the map in a block holds, told as a function from names, and how many it holds; looked up, put, deleted, counted: laws for the walks; no condition but that a name is no longer than an int can count. -/
namespace Go.Proofs.YtlfmefojcmpfeaaGreatDoor
open Go.RowKit Go.Maps
set_option linter.unusedSimpArgs false
set_option linter.unusedVariables false

theorem keyedV : Keyed Tryz.prog 9 := string_keyed Tryz.underlying9
theorem zeroVerV (w : World) : (zeroValue 30).run Tryz.prog w = .ok (.agg #[.int .i64 0, .int .i64 0, .int .i64 0, .slice none 0 0]) w := by kernel_rfl
def klV (p : ByteArray) : Lit := .string p.data.toList
theorem klV_inj {p q : ByteArray} (h : klV p = klV q) : p = q := by
  simp only [klV, Lit.string.injEq] at h
  exact ByteArray.ext (Array.toList_inj.1 h)
theorem klV_key (p : ByteArray) : WideAt.IsKeyLit (klV p) := trivial
def zeroVV : Value := .agg #[.int .i64 0, .int .i64 0, .int .i64 0, .slice none 0 0]

/-- Block b is a map of s entries (room for n was counted): what it holds at each name is m. -/
def MapV (w : World) (b n s : Nat) (m : ByteArray → Option Value) : Prop :=
  ∃ D : DataW Value, w.ownsMap Tryz.prog 9 selfElem b n D ∧ Maps.size D = s ∧ ∀ p, Maps.has D (klV p) = (m p).isSome ∧ ∀ v, m p = some v → ∀ z, D.atKey (klV p) z = .held v
theorem MapV.lt {w : World} {b n s : Nat} {m : ByteArray → Option Value} (h : MapV w b n s m) : b < w.heap.size := by obtain ⟨D, h, _⟩ := h; exact h.lt
theorem MapV.drew {w : World} {b n s : Nat} {m : ByteArray → Option Value} (h : MapV w b n s m) : MapV w.drew b n s m := by obtain ⟨D, h, h2⟩ := h; exact ⟨D, h.drew, h2⟩
theorem MapV.below {w w' : World} {b n s : Nat} {m : ByteArray → Option Value} (h : MapV w b n s m) (hb : Below w.heap.size w w') : MapV w' b n s m := by obtain ⟨D, h, h2⟩ := h; exact ⟨D, h.kept (grown_of_below hb none) (by simp), h2⟩
theorem MapV.kept {w w' : World} {b n s : Nat} {m : ByteArray → Option Value} {r : Option Nat} (h : MapV w b n s m) (hb : w.grownBy w' r) (hr : r ≠ some b) : MapV w' b n s m := by
  obtain ⟨D, h, h2⟩ := h
  exact ⟨D, h.kept hb (by first | exact hr | exact fun e => hr e.symm | exact .inr hr | exact .inr (fun e => hr e.symm)), h2⟩
theorem MapV.setCell {w : World} {b n s : Nat} {m : ByteArray → Option Value} (h : MapV w b n s m) {a : Addr} (ha : b ≠ a.block) (u : Value) : MapV (w.setCell a u) b n s m := by obtain ⟨D, h, h2⟩ := h; exact ⟨D, h.setCell ha u, h2⟩
theorem MapV.mono {w : World} {b n n' s : Nat} {m : ByteArray → Option Value} (h : MapV w b n s m) (hn : n ≤ n') : MapV w b n' s m := by obtain ⟨D, h, h2⟩ := h; exact ⟨D, h.mono hn, h2⟩
theorem MapV.same {w : World} {b n s : Nat} {m m' : ByteArray → Option Value} (h : MapV w b n s m) (e : ∀ p, m' p = m p) : MapV w b n s m' := by have : m' = m := funext e; rw [this]; exact h
theorem MapV_made (w : World) : MapV (w.alloc (.map #[] 0)) w.heap.size 0 0 (fun _ => none) := ⟨_, World.ownsMap_made w _ _ _, rfl, fun p => ⟨rfl, fun f h => by cases h⟩⟩
theorem MapV.look {w : World} {b n s : Nat} {m : ByteArray → Option Value} (h : MapV w b n s m) {p : ByteArray} (hp : p.size ≤ maxLen) : (Instr.lookup 131 (.map (some b)) (.string p) true).run Tryz.prog w = .ok (.tuple #[(m p).getD zeroVV, .bool (m p).isSome]) w := by
  obtain ⟨D, h, _, h2⟩ := h
  obtain ⟨v, ps, hrun, hv⟩ := h.look_ok keyedV Tryz.underlying131 (zeroVerV w) (zd := .held zeroVV) (zp := []) rfl (WideMaps.keyOf_string_mk Tryz.underlying9 hp)
  rw [hrun]
  obtain ⟨h3, h4⟩ := h2 p
  have h3' : Maps.has D (.string p.data.toList) = (m p).isSome := h3
  rw [h3']
  simp only [selfElem, Option.some.injEq, Prod.mk.injEq] at hv
  change DataW.held v = D.atKey (klV p) (DataW.held zeroVV) ∧ [] = ps at hv
  cases hm : m p with
  | none =>
    rw [hm] at h3
    rw [Maps.atKey_of_not_has h3] at hv
    have := hv.1
    simp only [DataW.held.injEq] at this
    rw [this]
    rfl
  | some x =>
    rw [h4 x hm] at hv
    have := hv.1
    simp only [DataW.held.injEq] at this
    rw [this]
    rfl

section
variable (w : World) {ops : Array Oper} {rest : List Oper} {o : Oper} {a : Act} {Q : Exit → Act → World → Prop}

theorem wpList_lookup_V (hg : o.guard = none) (mo x : Operand) (hop : o.op = Op.lookup 131 mo x true) (b n s : Nat) (m : ByteArray → Option Value) (hm : a.eval mo = .map (some b)) (hown : MapV w b n s m) (p : ByteArray) (hx : a.eval x = .string p) (hp : p.size ≤ maxLen) (r : Value) (hr : Value.tuple #[(m p).getD zeroVV, .bool (m p).isSome] = r)
    (hK : wpList Tryz.prog ops Q rest (a.put o.dst r) w) : wpList Tryz.prog ops Q (o :: rest) a w := by
  subst hr
  refine wpList_plain hg fun K' hK' => ?_
  have hrun := hown.look hp
  unfold Oper.wp
  simp [execOp, hop, hm, hx, hrun, Result.andThen]
  exact hK' _ _ hK

theorem wpList_mapUpdate_V (hg : o.guard = none) (mo x v : Operand) (hop : o.op = Op.mapUpdate 131 mo x v) (b n s : Nat) (m : ByteArray → Option Value) (hm : a.eval mo = .map (some b)) (hown : MapV w b n s m) (hn : n < maxLen) (p : ByteArray) (hx : a.eval x = .string p) (hp : p.size ≤ maxLen)
    (val : Value) (hv : a.eval v = val) (hK : ∀ w', MapV w' b (n + 1) (if (m p).isSome = true then s else s + 1) (fun q => if q = p then some val else m q) → w.grownBy w' (some b) → wpList Tryz.prog ops Q rest (a.put o.dst undef) w') : wpList Tryz.prog ops Q (o :: rest) a w := by
  obtain ⟨D, h, hs, h2⟩ := hown
  refine wpList_mapUpdate_own w hg mo x v 131 hop 9 30 keyedV Tryz.underlying131 selfElem b n D hm h hn _ _ (klV p) hx hv (WideMaps.keyOf_string_mk Tryz.underlying9 hp) (.held val) [] rfl (fun w' h' hg' => hK w' ⟨_, h', ?_, fun q => ?_⟩ hg')
  · rw [Maps.size_put (h.tidy keyedV), (h2 p).1, hs]
  dsimp only
  by_cases e : q = p
  · subst e
    rw [if_pos rfl]
    exact ⟨Maps.has_put_same h.isMap (klV_key q) _, fun g hg z => by rw [Maps.atKey_put_same h.isMap (klV_key q)]; cases hg; rfl⟩
  · have hne : klV q ≠ klV p := fun h => e (klV_inj h)
    rw [if_neg e, Maps.has_put_other hne]
    exact ⟨(h2 q).1, fun g hg z => by rw [Maps.atKey_put_other hne]; exact (h2 q).2 g hg z⟩

theorem wpList_len_V (hg : o.guard = none) (mo : Operand) (hop : o.op = Op.call { callee := Callee.builtin Builtin.len, args := #[mo], argTypes := #[131] }) (b n s : Nat) (m : ByteArray → Option Value) (hm : a.eval mo = .map (some b)) (hown : MapV w b n s m)
    (hK : wpList Tryz.prog ops Q rest (a.put o.dst (.int .i64 (s : Int))) w) : wpList Tryz.prog ops Q (o :: rest) a w := by
  obtain ⟨D, h, hs, h2⟩ := hown
  subst hs
  exact wpList_len_own w hg mo 131 hop 9 30 Tryz.underlying131 selfElem b n D hm h hK
end
end Go.Proofs.YtlfmefojcmpfeaaGreatDoor

/-! Whether all needs are met, as the program tells it: a contract for the walk; conditions: what comes in lies in memory, nothing holds more than 2 to the 20, and the table of signs holds what it is laid with. -/
namespace Go.Proofs.YtlfmefojcmpfeaaGreatDoor
open Go.RowKit
set_option linter.unusedSimpArgs false
set_option linter.unusedVariables false

/-- The versions of picks, as values: each lies in memory. -/
def PickVals (S : Nat → Prop) (w : World) (l : List PickD) (vals : Nat → Value) : Prop := ∀ i (h : i < l.length), ∃ q c, vals i = .agg #[.int .i64 l[i].vA, .int .i64 l[i].vB, .int .i64 l[i].vC, .slice q l[i].vP.length c] ∧ RdB S w (.slice q l[i].vP.length c) (strsV l[i].vP)
theorem PickVals.keep {S : Nat → Prop} {w w' : World} {l : List PickD} {vals : Nat → Value} (h : PickVals S w l vals) (k : Kp S w w') : PickVals S w' l vals := fun i hi => by
  obtain ⟨q, c, h1, h2⟩ := h i hi
  exact ⟨q, c, h1, h2.keep k⟩
theorem firstP_lt {xs : List PickD} {n : ByteArray} {k : Nat} (h : firstP xs n = some k) : ∃ hk : k < xs.length, atP xs (some k) = xs[k] := by
  unfold firstP at h
  obtain ⟨h1, _⟩ := List.findIdx?_eq_some_iff_getElem.1 h
  exact ⟨h1, by simp [atP, h1]⟩

set_option maxHeartbeats 4000000 in
set_option maxRecDepth 100000 in
theorem allMet_c (S S2 : Nat → Prop) (v : Value) (ns : List NeedD) (mb n s : Nat) (l : List PickD) (vals : Nat → Value) (w : World) (hv : RowIn shNeed S w v ns) (hB : ∀ b, S b → b < w.heap.size) (hB2 : ∀ b, S2 b → b < w.heap.size) (hwN : wtRow wtNeed ns ≤ 1048576)
    (hm : MapV w mb n s (fun p => (firstP l p).map vals)) (hvals : PickVals S2 w l vals) (hwl : wtRow wtPick l ≤ 1048576) (hT : Tabs w) :
    Calls Tryz.prog 109 #[v, .map (some mb)] w fun e w' => e = .returned (.bool (metB ns l)) ∧ Below w.heap.size w w' := by
  have hwe : ∀ d ∈ ns, d.n.size ≤ 1048576 ∧ d.r.size ≤ 1048576 := fun d hd => by
    have h1 : d.n.size + d.r.size ≤ wtRow wtNeed ns := wt_wtRow wtNeed hd
    omega
  obtain ⟨av, cv, rfl, hl, hc, ha⟩ := hv
  unfold maxLen at hl
  obtain ⟨R, hR⟩ : ∃ R, R = metB ns l := ⟨_, rfl⟩
  rw [← hR]
  have HR := hidden hR
  have HM := hidden hm
  have HT := hidden hT
  have HVS := hidden hvals
  clear hR hm hT hvals
  go_enter Tryz.func109, Tryz.ntmps109
  go_wp2_with fail
  go_loopw [11] (fun vi wr => ∃ k : Nat, k ≤ ns.length ∧ vi = .int .i64 (k : Int) ∧ Hid (∀ j (hj : j < ns.length), j < k → met1 l ns[j] = true) ∧ Below w.heap.size w wr) (fun vi _ => ns.length - (intOf vi).toNat)
  case atStart => exact ⟨0, Nat.zero_le _, rfl, (fun j hj h => by omega), Below.refl _ _⟩
  case round =>
    obtain ⟨k, hk, rfl, hno, hbr⟩ := hrel
    by_cases hlt' : k < ns.length
    · rcases ha with rfl | ⟨b, off, rfl, hlt, ha⟩
      · simp at hlt'
      obtain ⟨cs, hL, hcell⟩ := ha k hlt'
      have hcell2 := hcell.keep (.of hbr hB) hlt
      obtain ⟨hs1, hs2⟩ := hwe ns[k] (List.getElem_mem hlt')
      have HF : Hid (met1 l ns[k] = false → R = false) := fun h => HR.out.trans (metB_false hlt' h)
      have HN : Hid (met1 l ns[k] = true → ∀ j (hj : j < ns.length), j < k + 1 → met1 l ns[j] = true) := fun h j hj hjk => by
        by_cases e : j = k
        · subst e; exact h
        · exact hno.out j hj (by omega)
      obtain ⟨d, hd⟩ : ∃ d, d = ns[k] := ⟨_, rfl⟩
      rw [← hd] at hL HF HN hs1 hs2
      obtain ⟨rfl, _, _⟩ := hL
      have hmx : d.n.size ≤ maxLen := by unfold maxLen; omega
      have e0 : wr.cell? ⟨b, off + k * 2, none⟩ = some (.string d.n) := hcell2 0 (by simp)
      have e1 : wr.cell? ⟨b, off + k * 2 + 1, none⟩ = some (.string d.r) := hcell2 1 (by simp)
      have hki : (k : Int) < (ns.length : Int) := by omega
      have hbox : ∀ o, Below wr.heap.size wr (wr.alloc o) := fun o => (Below.refl _ _).alloc (Nat.le_refl _) _
      have HMR : Hid (∀ w1, Below wr.heap.size wr w1 → MapV w1 mb n s (fun p => (firstP l p).map vals)) := fun w1 h => HM.out.below (hbr.trans (h.mono hbr.size))
      clear ha hd hcell hcell2 hno
      cases hf : firstP l d.n with
      | none =>
        have hmet : met1 l d = false := by unfold met1; rw [hf]; rfl
        have HE := hidden (HF.out hmet)
        have HQ : Hid (Value.tuple #[((firstP l d.n).map vals).getD zeroVV, .bool ((firstP l d.n).map vals).isSome] = .tuple #[.agg #[.int .i64 0, .int .i64 0, .int .i64 0, .slice none 0 0], .bool false]) := by show _ = _; rw [hf]; rfl
        clear HF HN hmet hf
        go_wp2_with (at_lookup; refine wpList_lookup_V _ rfl _ _ rfl mb n s _ rfl (HMR.out _ (hbox _)) d.n rfl hmx _ HQ.out ?_)
        go_ret
        refine ⟨by rw [HE.out]; rfl, ?_⟩
        exact (hbr.alloc hbr.size _).alloc (by have := hbr.size; simp; omega) _
      | some i =>
        obtain ⟨hi, hat⟩ := firstP_lt hf
        obtain ⟨q, c, hq, hrd⟩ := HVS.out i hi
        have hbk := pick_wt hwl (some i)
        rw [hat] at hbk
        have hmet : met1 l d = mayB d.r l[i].vA l[i].vB l[i].vC l[i].vP := by unfold met1; rw [hf, hat]; rfl
        have HQ : Hid (Value.tuple #[((firstP l d.n).map vals).getD zeroVV, .bool ((firstP l d.n).map vals).isSome] = .tuple #[.agg #[.int .i64 l[i].vA, .int .i64 l[i].vB, .int .i64 l[i].vC, .slice q l[i].vP.length c], .bool true]) := by show _ = _; rw [hf, Option.map_some, hq]; rfl
        obtain ⟨p, hp⟩ : ∃ p, p = l[i] := ⟨_, rfl⟩
        rw [← hp] at hrd hbk hmet HQ
        obtain ⟨B, hBB⟩ : ∃ B, B = mayB d.r p.vA p.vB p.vC p.vP := ⟨_, rfl⟩
        have HMT : Hid (∀ w1, Below wr.heap.size wr w1 → Calls Tryz.prog 23 #[.agg #[.string d.n, .string d.r], .agg #[.int .i64 p.vA, .int .i64 p.vB, .int .i64 p.vC, .slice q p.vP.length c]] w1 fun e w' => e = .returned (.bool B) ∧ Below w1.heap.size w1 w') := fun w1 h => by
          have hb := hbr.trans (h.mono hbr.size)
          rw [hBB]
          exact implMay_c d.n d.r _ _ _ _ p.vP w1 hs2 ((hrd.keep (.of hb hB2)).reads (fun b hb' => Nat.lt_of_lt_of_le (hB2 b hb') hb.size)) hbk (HT.out.below hb)
        rw [← hBB] at hmet
        rw [hmet] at HF HN
        have hb3 : ∀ o o', Below wr.heap.size wr ((wr.alloc o).alloc o') := fun o o' => ((Below.refl _ _).alloc (Nat.le_refl _) _).alloc (by simp) _
        clear hf hi hat hq hrd hbk hmet hp hBB HVS
        go_wp2_with (at_lookup; refine wpList_lookup_V _ rfl _ _ rfl mb n s _ rfl (HMR.out _ (hbox _)) d.n rfl hmx _ HQ.out ?_)
        go_at_call 23
        refine (HMT.out _ (hb3 _ _)).mono ?_
        rintro e w1 ⟨rfl, b1⟩
        have k0 := hbr.trans ((hb3 (.cells #[.string d.n, .string d.r] 39 (0, 0)) (.cells #[.int .i64 p.vA, .int .i64 p.vB, .int .i64 p.vC, .slice q p.vP.length c] 30 (0, 0))).mono hbr.size)
        have k1 := k0.trans (b1.mono k0.size)
        cases B with
        | false =>
          have HE := hidden (HF.out rfl)
          clear HF HN
          go_wp2_with fail
          go_ret
          exact ⟨by rw [HE.out]; rfl, k1⟩
        | true =>
          have HN2 := hidden (HN.out rfl)
          clear HF HN
          go_wp2_with fail
          go_roundw
          case rel => exact ⟨k + 1, by omega, by go_num, HN2.out, k1⟩
          case measure => simp [intOf]; omega
    · have he : k = ns.length := by omega
      subst he
      have HE : Hid (R = true) := HR.out.trans (metB_true (fun j hj => hno.out j hj hj))
      clear ha hno HR
      go_wp2_with fail
      go_ret
      exact ⟨by rw [HE.out]; rfl, hbr⟩
end Go.Proofs.YtlfmefojcmpfeaaGreatDoor

/-! Solves, as the program answers it: a contract for the walk; conditions: what comes in lies in memory, its numbers fit into an int, nothing holds more than 2 to the 20, and the tables hold what they are laid with. -/
namespace Go.Proofs.YtlfmefojcmpfeaaGreatDoor
open Go.RowKit
set_option linter.unusedSimpArgs false
set_option linter.unusedVariables false

def wfP (d : PickD) : Prop := (Lit.int .i64 d.vA).wf = true ∧ (Lit.int .i64 d.vB).wf = true ∧ (Lit.int .i64 d.vC).wf = true
theorem keyP_ok {d : PickD} (hn : d.name.size ≤ maxLen) (hw : wfP d) (hb : bulkS d.vP ≤ 1048576) : (keyP d).ok := by
  refine ⟨hn, hw.1, hw.2.1, hw.2.2, ?_⟩
  have := preL_len d.vP
  show (preL d.vP).toArray.size ≤ _
  unfold maxLen
  simp; omega
theorem pick_vals {S : Nat → Prop} {w : World} {v : Value} {l : List PickD} (hv : RowIn shPick S w v l) : ∃ (q : Option Addr) (cap : Nat) (vals : Nat → Value), v = .slice q l.length cap ∧ l.length ≤ maxLen ∧ PickVals S w l vals ∧
    (l = [] ∨ ∃ (b off : Nat), q = some ⟨b, off, none⟩ ∧ S b ∧ ∀ k (h : k < l.length), ∃ q c, vals k = .agg #[.int .i64 l[k].vA, .int .i64 l[k].vB, .int .i64 l[k].vC, .slice q l[k].vP.length c] ∧ l[k].name.size ≤ maxLen ∧ RdB S w (.slice q l[k].vP.length c) (strsV l[k].vP) ∧ CellsAt w b (off + k * 5) [.string l[k].name, .int .i64 l[k].vA, .int .i64 l[k].vB, .int .i64 l[k].vC, .slice q l[k].vP.length c]) := by
  obtain ⟨q, cap, rfl, hl, hc, ha⟩ := hv
  rcases ha with rfl | ⟨b, off, rfl, hb, ha⟩
  · exact ⟨q, cap, fun _ => undef, rfl, hl, fun i h => by simp at h, .inl rfl⟩
  have h1 : ∀ k : Nat, ∃ x : Value, ∀ h : k < l.length, ∃ q c, x = .agg #[.int .i64 l[k].vA, .int .i64 l[k].vB, .int .i64 l[k].vC, .slice q l[k].vP.length c] ∧ l[k].name.size ≤ maxLen ∧ RdB S w (.slice q l[k].vP.length c) (strsV l[k].vP) ∧ CellsAt w b (off + k * 5) [.string l[k].name, .int .i64 l[k].vA, .int .i64 l[k].vB, .int .i64 l[k].vC, .slice q l[k].vP.length c] := fun k => by
    by_cases h : k < l.length
    · obtain ⟨cs, ⟨u0, rfl, s_n, r0, _⟩, h3⟩ := ha k h
      obtain ⟨a0, c0, eu0, _⟩ := id r0
      rw [length_strsV] at eu0
      subst eu0
      exact ⟨.agg #[.int .i64 l[k].vA, .int .i64 l[k].vB, .int .i64 l[k].vC, .slice a0 l[k].vP.length c0], fun _ => ⟨a0, c0, rfl, s_n, r0, h3⟩⟩
    · exact ⟨undef, fun h2 => absurd h2 h⟩
  obtain ⟨vals, hvals⟩ := Classical.axiomOfChoice h1
  exact ⟨_, cap, vals, rfl, hl, fun i hi => by obtain ⟨q, c, e1, _, e2, _⟩ := hvals i hi; exact ⟨q, c, e1, e2⟩, .inr ⟨b, off, rfl, hb, hvals⟩⟩

set_option maxHeartbeats 8000000 in
set_option maxRecDepth 100000 in
theorem implSolves_c (Sr Sn Sp : Nat → Prop) (rv nv pv : Value) (r : List EntryD) (ns : List NeedD) (l : List PickD) (w : World) (hr : RowIn shEntry Sr w rv r) (hn : RowIn shNeed Sn w nv ns) (hp : RowIn shPick Sp w pv l)
    (hBr : ∀ b, Sr b → b < w.heap.size) (hBn : ∀ b, Sn b → b < w.heap.size) (hBp : ∀ b, Sp b → b < w.heap.size) (hwr : wtRow wtEntry r ≤ 1048576) (hwn : wtRow wtNeed ns ≤ 1048576) (hwl : wtRow wtPick l ≤ 1048576) (hfr : ∀ d ∈ r, wfE d) (hfl : ∀ d ∈ l, wfP d) (hT : Tabs w)
    (htab : Lib.TabIs Tryz.prog w "internal/strconv.uint64pow10" .u64 Lib.pow10Tab) :
    Calls Tryz.prog 35 #[rv, nv, pv] w fun e w' => e = .returned (.bool (solB r ns l)) ∧ Below w.heap.size w w' := by
  obtain ⟨qp, cp, vals, rfl, hll, hpv, hcell⟩ := pick_vals hp
  unfold maxLen at hll
  have hll2 : l.length ≤ 1048576 := Nat.le_trans (len_wtRow wtPick l) hwl
  have hwE : ∀ e ∈ r, wtRow wtNeed e.needs ≤ 1048576 := fun e he => by
    have h1 : e.name.size + bulkS e.vP + wtRow wtNeed e.needs ≤ wtRow wtEntry r := wt_wtRow wtEntry he
    omega
  have HBY : Hid (∀ w1, Below w.heap.size w w1 → Calls Tryz.prog 80 #[rv] w1 fun e w' => ∃ vs : Nat → Value, e = .returned (.map (some w1.heap.size)) ∧ (∀ i (h : i < r.length), ∃ cs : List Value, vs i = .agg cs.toArray ∧ shEntry.lies Sr w1 cs r[i]) ∧ MapE w' w1.heap.size r.length (fun q => (firstK r q).map vs) ∧ Below w1.heap.size w1 w') := fun w1 h => byKey_c Sr rv r w1 (hr.keep (.of h hBr)) (fun b hb => Nat.lt_of_lt_of_le (hBr b hb) h.size) hwr hfr (tabIs_below h htab)
  have HAM : Hid (∀ w1 (S : Nat → Prop) v (ns : List NeedD) mb n s, Below w.heap.size w w1 → RowIn shNeed S w1 v ns → (∀ b, S b → b < w1.heap.size) → wtRow wtNeed ns ≤ 1048576 → MapV w1 mb n s (fun p => (firstP l p).map vals) → Calls Tryz.prog 109 #[v, .map (some mb)] w1 fun e w' => e = .returned (.bool (metB ns l)) ∧ Below w1.heap.size w1 w') := fun w1 S v ns mb n s h hv hB hw hm => allMet_c S Sp v ns mb n s l vals w1 hv hB (fun b hb => Nat.lt_of_lt_of_le (hBp b hb) h.size) hw hm (hpv.keep (.of h hBp)) hwl (hT.below h)
  have HKY : Hid (∀ w1 i (hi : i < l.length) q c, Below w.heap.size w w1 → RdB Sp w (.slice q l[i].vP.length c) (strsV l[i].vP) → Calls Tryz.prog 81 #[.string l[i].name, .agg #[.int .i64 l[i].vA, .int .i64 l[i].vB, .int .i64 l[i].vC, .slice q l[i].vP.length c]] w1 fun e w' => e = .returned (.agg #[.string l[i].name, .int .i64 l[i].vA, .int .i64 l[i].vB, .int .i64 l[i].vC, .string ⟨(preL l[i].vP).toArray⟩]) ∧ Below w1.heap.size w1 w') := fun w1 i hi q c h hrd => entryKey_c _ _ _ _ _ l[i].vP w1 ((hrd.keep (.of h hBp)).reads (fun b hb => Nat.lt_of_lt_of_le (hBp b hb) h.size)) (by
    have := pick_wt hwl (some i)
    rw [show atP l (some i) = l[i] by simp [atP, hi]] at this
    exact this) (tabIs_below h htab)
  have HOK : Hid (∀ i (hi : i < l.length), l[i].name.size ≤ maxLen → (keyP l[i]).ok) := fun i hi hs => keyP_ok hs (hfl _ (List.getElem_mem hi)) (by
    have := pick_wt hwl (some i)
    rw [show atP l (some i) = l[i] by simp [atP, hi]] at this
    exact this)
  obtain ⟨qn, cn, hqn⟩ := hn.slice
  subst hqn
  obtain ⟨qr, cr, hqr⟩ := hr.slice
  subst hqr
  obtain ⟨R, hR⟩ : ∃ R, R = solB r ns l := ⟨_, rfl⟩
  rw [← hR]
  have HR := hidden hR
  have HHN := hidden (And.intro hn hwn)
  have HWE := hidden hwE
  have HBR := hidden (And.intro hBr hBn)
  have HCL := hidden hcell
  clear hR hr hn hp hfr hfl hT htab hwE hpv hcell hwr hwn hBr hBn
  have hmm := @run_makeMap Tryz.prog
  go_enter Tryz.func35, Tryz.ntmps35
  go_wp2_with fail
  go_loopw [18] (fun vi wr => ∃ k : Nat, k ≤ l.length ∧ vi = .int .i64 (k : Int) ∧ MapV wr w.heap.size k (cntN l k) (fun p => (lastP l p k).map vals) ∧ Below w.heap.size w wr) (fun vi _ => l.length - (intOf vi).toNat)
  case atStart => exact ⟨0, Nat.zero_le _, rfl, (MapV_made w).same (fun p => rfl), (Below.refl _ _).alloc (Nat.le_refl _) _⟩
  case round =>
    obtain ⟨k, hk, rfl, hm, hbr⟩ := hrel
    clear hmm
    by_cases hlt' : k < l.length
    · rcases HCL.out with rfl | ⟨b, off, rfl, hlt, ha⟩
      · simp at hlt'
      obtain ⟨q, c, hvk, s_n, hrd, hcl⟩ := ha k hlt'
      replace hcl := hcl.keep (.of hbr hBp) hlt
      have HST : Hid (∀ p, lastP l p (k + 1) = if p = l[k].name then some k else lastP l p k) := lastP_step l k hlt'
      have HCS : Hid (cntN l (k + 1) = if (lastP l l[k].name k).isSome = true then cntN l k else cntN l k + 1) := cntN_step l k hlt'
      obtain ⟨d, hd⟩ : ∃ d, d = l[k] := ⟨_, rfl⟩
      rw [← hd] at hvk s_n hrd hcl HST HCS
      have HVK := hidden hvk
      have e0 : wr.cell? ⟨b, off + k * 5, none⟩ = some (.string d.name) := hcl 0 (by simp)
      have e1 : wr.cell? ⟨b, off + k * 5 + 1, none⟩ = some (.int .i64 d.vA) := hcl 1 (by simp)
      have e2 : wr.cell? ⟨b, off + k * 5 + 2, none⟩ = some (.int .i64 d.vB) := hcl 2 (by simp)
      have e3 : wr.cell? ⟨b, off + k * 5 + 3, none⟩ = some (.int .i64 d.vC) := hcl 3 (by simp)
      have e4 : wr.cell? ⟨b, off + k * 5 + 4, none⟩ = some (.slice q d.vP.length c) := hcl 4 (by simp)
      have hki : (k : Int) < (l.length : Int) := by omega
      have kB : Below wr.heap.size wr (wr.alloc (.cells #[.string d.name, .int .i64 d.vA, .int .i64 d.vB, .int .i64 d.vC, .slice q d.vP.length c] 59 (0, 0))) := (Below.refl _ _).alloc (Nat.le_refl _) _
      have hm5 := hm.below kB
      have hbr5 := hbr.trans (kB.mono hbr.size)
      have hkm : k < maxLen := by unfold maxLen; omega
      clear ha hd hvk hrd hcl hm HCL HBY HAM HKY HOK
      go_wp2_with (at_mapUpdate; refine wpList_mapUpdate_V _ rfl _ _ _ rfl w.heap.size k _ _ rfl hm5 hkm d.name rfl s_n (.agg #[.int .i64 d.vA, .int .i64 d.vB, .int .i64 d.vC, .slice q d.vP.length c]) rfl ?_; intro w1 hm1 hg1)
      go_roundw
      case rel =>
        refine ⟨k + 1, by omega, by go_num, ?_, hbr5.grown hg1 hbr5.size (fun j hj => by cases hj; exact Nat.le_refl _)⟩
        rw [HCS.out]
        have e9 : (if (Option.map vals (lastP l d.name k)).isSome = true then cntN l k else cntN l k + 1) = if (lastP l d.name k).isSome = true then cntN l k else cntN l k + 1 := by rw [Option.isSome_map]
        have hm2 := hm1
        rw [e9] at hm2
        refine hm2.same (fun p => ?_)
        rw [HST.out p]
        by_cases e : p = d.name
        · rw [if_pos e, if_pos e, Option.map_some, HVK.out]
        · rw [if_neg e, if_neg e]
      case measure => simp [intOf]; omega
    · have he : k = l.length := by omega
      subst he
      obtain ⟨CN, hCN⟩ : ∃ c, c = cntN l l.length := ⟨_, rfl⟩
      have hnm := cntN_names l
      rw [← hCN] at hm hnm
      by_cases hless : CN < l.length
      · have HE : Hid (R = false) := HR.out.trans (solB_name (hnm.1 hless))
        have hli : (CN : Int) < (l.length : Int) := by omega
        clear hnm HCL HBY HAM HKY HOK
        go_wp2_with (at_len; refine wpList_len_V _ rfl _ rfl w.heap.size l.length _ _ rfl hm ?_)
        go_ret
        exact ⟨by rw [HE.out]; rfl, hbr⟩
      · have hnb : namesB l = true := by
          cases h : namesB l with
          | true => rfl
          | false => exact absurd (hnm.2 h) hless
        have hmF : MapV wr w.heap.size l.length CN (fun p => (firstP l p).map vals) := hm.same (fun p => by rw [lastP_first hnb p])
        have hli : ¬ (CN : Int) < (l.length : Int) := by omega
        have HAM1 := hidden (HAM.out wr Sn (.slice qn ns.length cn) ns w.heap.size l.length CN hbr (HHN.out.1.keep (.of hbr HBR.out.2)) (fun b hb => Nat.lt_of_lt_of_le (HBR.out.2 b hb) hbr.size) HHN.out.2 hmF)
        obtain ⟨MB, hMB⟩ : ∃ M, M = metB ns l := ⟨_, rfl⟩
        rw [← hMB] at HAM1
        have HMB := hidden hMB
        have HNB := hidden hnb
        clear hnm hm hnb hMB
        go_wp2_with (at_len; refine wpList_len_V _ rfl _ rfl w.heap.size l.length _ _ rfl hmF ?_)
        go_at_call 109
        refine HAM1.out.mono ?_
        rintro e w2 ⟨rfl, b2⟩
        have k2 := hbr.trans (b2.mono hbr.size)
        cases MB with
        | false =>
          have HE : Hid (R = false) := HR.out.trans (solB_met HMB.out.symm)
          clear HCL HBY HAM HKY HOK
          go_wp2_with fail
          go_ret
          exact ⟨by rw [HE.out]; rfl, k2⟩
        | true =>
          have hmF2 := hmF.below b2
          clear hmF b2 hbr
          go_wp2_with fail
          go_at_call 80
          refine (HBY.out _ k2).mono ?_
          rintro e w3 ⟨vs, rfl, hvs, hme, b3⟩
          have k3 := k2.trans (b3.mono k2.size)
          have hmF3 := hmF2.below b3
          have HVS : Hid (∀ i (h : i < r.length), ∃ cs : List Value, vs i = .agg cs.toArray ∧ shEntry.lies Sr w3 cs r[i]) := fun i hi => by
            obtain ⟨cs, h1, h2⟩ := hvs i hi
            exact ⟨cs, h1, shEntry.keep (.of b3 (fun b hb => Nat.lt_of_lt_of_le (HBR.out.1 b hb) k2.size)) h2⟩
          clear hmF2 b3 hvs HBY
          obtain ⟨mE, hmE⟩ : ∃ m, m = w2.heap.size := ⟨_, rfl⟩
          rw [← hmE] at hme
          rw [← hmE]
          clear hmE
          go_wp2_with fail
          go_loopw [43] (fun vi wr => ∃ k : Nat, k ≤ l.length ∧ vi = .int .i64 (k : Int) ∧ Hid (∀ i (hi : i < l.length), i < k → pickOkB r l l[i] = true) ∧ Below w3.heap.size w3 wr) (fun vi _ => l.length - (intOf vi).toNat)
          case atStart => exact ⟨0, Nat.zero_le _, rfl, (fun j hj h => by omega), Below.refl _ _⟩
          case round =>
            obtain ⟨k, hk, rfl, hno, hb3⟩ := hrel
            have hbr := k3.trans (hb3.mono k3.size)
            by_cases hlt' : k < l.length
            · rcases HCL.out with rfl | ⟨b, off, rfl, hlt, ha⟩
              · simp at hlt'
              obtain ⟨q, c, hvk, s_n, hrd, hcl⟩ := ha k hlt'
              replace hcl := hcl.keep (.of hbr hBp) hlt
              have HKE := hidden (fun w1 h => HKY.out w1 k hlt' q c h hrd)
              have hok := HOK.out k hlt' s_n
              have HF : Hid (pickOkB r l l[k] = false → R = false) := fun h => HR.out.trans (solB_pick hlt' h)
              have HN : Hid (pickOkB r l l[k] = true → ∀ i (hi : i < l.length), i < k + 1 → pickOkB r l l[i] = true) := fun h j hj hjk => by
                by_cases e : j = k
                · subst e; exact h
                · exact hno.out j hj (by omega)
              obtain ⟨d, hd⟩ : ∃ d, d = l[k] := ⟨_, rfl⟩
              rw [← hd] at s_n hcl hok HF HN
              simp only [← hd] at HKE
              have e0 : wr.cell? ⟨b, off + k * 5, none⟩ = some (.string d.name) := hcl 0 (by simp)
              have e1 : wr.cell? ⟨b, off + k * 5 + 1, none⟩ = some (.int .i64 d.vA) := hcl 1 (by simp)
              have e2 : wr.cell? ⟨b, off + k * 5 + 2, none⟩ = some (.int .i64 d.vB) := hcl 2 (by simp)
              have e3 : wr.cell? ⟨b, off + k * 5 + 3, none⟩ = some (.int .i64 d.vC) := hcl 3 (by simp)
              have e4 : wr.cell? ⟨b, off + k * 5 + 4, none⟩ = some (.slice q d.vP.length c) := hcl 4 (by simp)
              have hki : (k : Int) < (l.length : Int) := by omega
              have kB : Below wr.heap.size wr (wr.alloc (.cells #[.string d.name, .int .i64 d.vA, .int .i64 d.vB, .int .i64 d.vC, .slice q d.vP.length c] 59 (0, 0))) := (Below.refl _ _).alloc (Nat.le_refl _) _
              have k5 := hbr.trans (kB.mono hbr.size)
              have b35 := hb3.trans (kB.mono hb3.size)
              obtain ⟨P, hP⟩ : ∃ P : ByteArray, P = ⟨(preL d.vP).toArray⟩ := ⟨_, rfl⟩
              obtain ⟨KD, hKD⟩ : ∃ K, K = keyP d := ⟨_, rfl⟩
              have hKV : KD.val = .agg #[.string d.name, .int .i64 d.vA, .int .i64 d.vB, .int .i64 d.vC, .string P] := by rw [hKD, hP]; rfl
              simp only [← hP] at HKE
              have HPO : Hid (pickOkB r l d = ((firstK r KD).isSome && metB (atD r (firstK r KD)).needs l)) := by show _ = _; rw [hKD]; rfl
              rw [← hKD] at hok
              clear ha hd hvk hrd hcl hno HCL HKY HOK hP hKD
              go_wp2_with fail
              go_at_call 81
              refine (HKE.out _ k5).mono ?_
              rintro e w6 ⟨rfl, b6⟩
              have b36 := b35.trans (b6.mono b35.size)
              have k6 := k5.trans (b6.mono k5.size)
              have hme6 := hme.below b36
              clear HKE kB b6 b35 k5 e0 e1 e2 e3 e4
              cases hf : firstK r KD with
              | none =>
                have HE := hidden (HF.out (by rw [HPO.out, hf]; rfl))
                have HG : Hid ((firstK r KD).map vs = none) := by show _ = _; rw [hf]; rfl
                clear HF HN hf
                go_wp2_with (at_lookup; refine wpList_lookup_noE _ rfl _ _ rfl mE r.length _ rfl hme6 KD hKV.symm hok HG.out ?_)
                go_ret
                exact ⟨by rw [HE.out]; rfl, k6.alloc k6.size _⟩
              | some i =>
                obtain ⟨hi, hk9⟩ := firstK_lt hf
                clear hk9
                obtain ⟨cs9, hv9, hl9⟩ := HVS.out i hi
                have hAT : atD r (some i) = r[i] := by simp [atD, hi]
                have hpo : pickOkB r l d = metB r[i].needs l := by rw [HPO.out, hf, hAT]; rfl
                have hwe := HWE.out r[i] (List.getElem_mem hi)
                rw [hpo] at HF HN
                obtain ⟨en, hen⟩ : ∃ e, e = r[i] := ⟨_, rfl⟩
                rw [← hen] at hl9 hwe HF HN
                have HG0 : Hid ((firstK r KD).map vs = some (.agg cs9.toArray)) := by show _ = _; rw [hf, Option.map_some, hv9]
                obtain ⟨u0, u1, rfl, _, r0, _, r1⟩ := hl9
                obtain ⟨ta0, tc0, te0, _⟩ := id r0
                rw [length_strsV] at te0
                subst te0
                have HR1 := hidden r1
                obtain ⟨ta1, tc1, te1, _⟩ := id r1
                subst te1
                have HG : Hid ((firstK r KD).map vs = some (.agg #[.string en.name, .int .i64 en.vA, .int .i64 en.vB, .int .i64 en.vC, .slice ta0 en.vP.length tc0, .slice ta1 en.needs.length tc1])) := HG0
                have kC : ∀ o, Below w6.heap.size w6 (w6.alloc o) := fun o => (Below.refl _ _).alloc (Nat.le_refl _) _
                obtain ⟨MB2, hMB2⟩ : ∃ M, M = metB en.needs l := ⟨_, rfl⟩
                have HA2 : Hid (∀ o, Calls Tryz.prog 109 #[.slice ta1 en.needs.length tc1, .map (some w.heap.size)] (w6.alloc o) fun e w' => e = .returned (.bool MB2) ∧ Below (w6.alloc o).heap.size (w6.alloc o) w') := fun o => by
                  have hx := b36.trans ((kC o).mono b36.size)
                  have hy := k6.trans ((kC o).mono k6.size)
                  rw [hMB2]
                  exact HAM.out _ Sr _ en.needs w.heap.size l.length CN hy (HR1.out.keep (.of hx (fun b hb => Nat.lt_of_lt_of_le (HBR.out.1 b hb) k3.size))) (fun b hb => Nat.lt_of_lt_of_le (HBR.out.1 b hb) hy.size) hwe (hmF3.below hx)
                rw [← hMB2] at HF HN
                clear hf hi hv9 hAT hpo hwe hen HG0 r0 r1 HPO hMB2
                go_wp2_with (at_lookup; refine wpList_lookup_yesE _ rfl _ _ rfl mE r.length _ rfl hme6 KD hKV.symm hok _ HG.out ?_)
                go_at_call 109
                refine (HA2.out _).mono ?_
                rintro e w7 ⟨rfl, b7⟩
                have k7a := k6.trans ((kC (.cells #[.string en.name, .int .i64 en.vA, .int .i64 en.vB, .int .i64 en.vC, .slice ta0 en.vP.length tc0, .slice ta1 en.needs.length tc1] 35 (0, 0))).mono k6.size)
                have k7 := k7a.trans (b7.mono k7a.size)
                have b37a := b36.trans ((kC (.cells #[.string en.name, .int .i64 en.vA, .int .i64 en.vB, .int .i64 en.vC, .slice ta0 en.vP.length tc0, .slice ta1 en.needs.length tc1] 35 (0, 0))).mono b36.size)
                have b37 := b37a.trans (b7.mono b37a.size)
                cases MB2 with
                | false =>
                  have HE := hidden (HF.out rfl)
                  clear HF HN
                  go_wp2_with fail
                  go_ret
                  exact ⟨by rw [HE.out]; rfl, k7⟩
                | true =>
                  have HN2 := hidden (HN.out rfl)
                  clear HF HN
                  go_wp2_with fail
                  go_roundw
                  case rel => exact ⟨k + 1, by omega, by go_num, HN2.out, b37⟩
                  case measure => simp [intOf]; omega
            · have he : k = l.length := by omega
              subst he
              have HE : Hid (R = true) := HR.out.trans (by
                unfold solB
                rw [HNB.out, ← HMB.out, Bool.true_and, Bool.true_and, List.all_eq_true]
                intro x hx
                obtain ⟨j, hj, rfl⟩ := List.mem_iff_getElem.1 hx
                exact hno.out j hj hj)
              clear hno HCL HAM HKY HOK
              go_wp2_with fail
              go_ret
              exact ⟨by rw [HE.out]; rfl, hbr⟩
end Go.Proofs.YtlfmefojcmpfeaaGreatDoor

/-! Whether all needs are met, as the specification tells it: a contract for the walk; conditions: what comes in lies in memory, and nothing holds more than 2 to the 20. -/
namespace Go.Proofs.YtlfmefojcmpfeaaGreatDoor
open Go.RowKit
set_option linter.unusedSimpArgs false
set_option linter.unusedVariables false

set_option maxHeartbeats 4000000 in
set_option maxRecDepth 100000 in
theorem specMet_c (S S2 : Nat → Prop) (v u : Value) (ns : List NeedD) (l : List PickD) (w : World) (hv : RowIn shNeed S w v ns) (hu : RowIn shPickO S2 w u l) (hB : ∀ b, S b → b < w.heap.size) (hB2 : ∀ b, S2 b → b < w.heap.size) (hwN : wtRow wtNeed ns ≤ 1048576) (hwl : wtRow wtPick l ≤ 1048576) :
    Calls Tryz.prog 118 #[v, u] w fun e w' => e = .returned (.bool (metB ns l)) ∧ Below w.heap.size w w' := by
  have hwe : ∀ d ∈ ns, d.n.size ≤ 1048576 ∧ d.r.size ≤ 1048576 := fun d hd => by
    have h1 : d.n.size + d.r.size ≤ wtRow wtNeed ns := wt_wtRow wtNeed hd
    omega
  have HPK : Hid (∀ n w1, Below w.heap.size w w1 → Calls Tryz.prog 32 #[u, .string n] w1 fun e w' => PickR w1 w' e (atP l (firstP l n)) (firstP l n).isSome) := fun n w1 h => specPick_c S2 u l n w1 (hu.keep (.of h hB2)) (fun b hb => Nat.lt_of_lt_of_le (hB2 b hb) h.size) hwl
  obtain ⟨qu, cu, hqu⟩ := hu.slice
  subst hqu
  obtain ⟨av, cv, rfl, hl, hc, ha⟩ := hv
  unfold maxLen at hl
  obtain ⟨R, hR⟩ : ∃ R, R = metB ns l := ⟨_, rfl⟩
  rw [← hR]
  have HR := hidden hR
  clear hR hu
  go_enter Tryz.func118, Tryz.ntmps118
  go_wp2_with fail
  go_loopw [5] (fun vi wr => ∃ k : Nat, k ≤ ns.length ∧ vi = .int .i64 (k : Int) ∧ Hid (∀ j (hj : j < ns.length), j < k → met1 l ns[j] = true) ∧ Below w.heap.size w wr) (fun vi _ => ns.length - (intOf vi).toNat)
  case atStart => exact ⟨0, Nat.zero_le _, rfl, (fun j hj h => by omega), Below.refl _ _⟩
  case round =>
    obtain ⟨k, hk, rfl, hno, hbr⟩ := hrel
    by_cases hlt' : k < ns.length
    · rcases ha with rfl | ⟨b, off, rfl, hlt, ha⟩
      · simp at hlt'
      obtain ⟨cs, hL, hcell⟩ := ha k hlt'
      have hcell2 := hcell.keep (.of hbr hB) hlt
      obtain ⟨hs1, hs2⟩ := hwe ns[k] (List.getElem_mem hlt')
      have HF : Hid (met1 l ns[k] = false → R = false) := fun h => HR.out.trans (metB_false hlt' h)
      have HN : Hid (met1 l ns[k] = true → ∀ j (hj : j < ns.length), j < k + 1 → met1 l ns[j] = true) := fun h j hj hjk => by
        by_cases e : j = k
        · subst e; exact h
        · exact hno.out j hj (by omega)
      obtain ⟨d, hd⟩ : ∃ d, d = ns[k] := ⟨_, rfl⟩
      rw [← hd] at hL HF HN hs1 hs2
      obtain ⟨rfl, _, _⟩ := hL
      have e0 : wr.cell? ⟨b, off + k * 2, none⟩ = some (.string d.n) := hcell2 0 (by simp)
      have e1 : wr.cell? ⟨b, off + k * 2 + 1, none⟩ = some (.string d.r) := hcell2 1 (by simp)
      have hbb : b < wr.heap.size := Nat.lt_of_lt_of_le (hB b hlt) hbr.size
      have hki : (k : Int) < (ns.length : Int) := by omega
      have HPK2 := hidden (HPK.out d.n wr hbr)
      have hmet : met1 l d = ((firstP l d.n).isSome && mayB d.r (atP l (firstP l d.n)).vA (atP l (firstP l d.n)).vB (atP l (firstP l d.n)).vC (atP l (firstP l d.n)).vP) := rfl
      have hbk := pick_wt hwl (firstP l d.n)
      rw [hmet] at HF HN
      obtain ⟨IS, hIS⟩ : ∃ I, I = (firstP l d.n).isSome := ⟨_, rfl⟩
      obtain ⟨DD, hDD⟩ : ∃ D, D = atP l (firstP l d.n) := ⟨_, rfl⟩
      obtain ⟨B, hBB⟩ : ∃ B, B = mayB d.r DD.vA DD.vB DD.vC DD.vP := ⟨_, rfl⟩
      rw [← hIS, ← hDD] at HPK2
      rw [← hIS, ← hDD, ← hBB] at HF HN
      rw [← hDD] at hbk
      clear ha hd hcell hcell2 hno hmet hIS hDD HPK
      go_wp2_with fail
      go_at_call 32
      refine HPK2.out.mono ?_
      rintro e w1 ⟨u', rfl, ho, b1⟩
      have k1 := hbr.trans (b1.mono hbr.size)
      have hmay : ∀ w3, Below w1.heap.size w1 w3 → Calls Tryz.prog 24 #[.agg #[.string d.n, .string d.r], .agg #[.int .i64 DD.vA, .int .i64 DD.vB, .int .i64 DD.vC, u']] w3 fun e w' => e = .returned (.bool B) ∧ Below w3.heap.size w3 w' := fun w3 h => by
        rw [hBB]
        exact specMay_c d.n d.r _ _ _ u' DD.vP w3 hs2 ((reads_of_owns ho).below h) hbk
      obtain ⟨q, c, eu⟩ := owns_sliceP ho
      subst eu
      obtain ⟨DA, hDA⟩ : ∃ x, x = DD.vA := ⟨_, rfl⟩
      obtain ⟨DB, hDB⟩ : ∃ x, x = DD.vB := ⟨_, rfl⟩
      obtain ⟨DC, hDC⟩ : ∃ x, x = DD.vC := ⟨_, rfl⟩
      obtain ⟨np, hnp⟩ : ∃ x, x = DD.vP.length := ⟨_, rfl⟩
      rw [← hDA, ← hDB, ← hDC, ← hnp] at hmay
      rw [← hDA, ← hDB, ← hDC, ← hnp]
      have HMY := hidden hmay
      have x0 := (b1.cell (p := ⟨b, off + k * 2, none⟩) hbb).trans e0
      have x1 := (b1.cell (p := ⟨b, off + k * 2 + 1, none⟩) hbb).trans e1
      have hsz := b1.size
      have hbz : Below w1.heap.size w1 (w1.alloc (.cells #[.int .i64 DA, .int .i64 DB, .int .i64 DC, .slice q np c] 30 (0, 0))) := (Below.refl _ _).alloc (Nat.le_refl _) _
      have hRz : (w1.alloc (.cells #[.int .i64 DA, .int .i64 DB, .int .i64 DC, .slice q np c] 30 (0, 0))).heap[w1.heap.size]? = some (.cells #[.int .i64 DA, .int .i64 DB, .int .i64 DC, .slice q np c] 30 (0, 0)) := vheap_new _ _
      clear ho hmay hDA hDB hDC hnp hBB HPK2 hbk e0 e1
      go_wp2_with fail
      obtain ⟨w2, hw2⟩ : ∃ w2, w2 = w1.alloc (.cells #[.int .i64 DA, .int .i64 DB, .int .i64 DC, .slice q np c] 30 (0, 0)) := ⟨_, rfl⟩
      rw [← hw2] at hbz hRz
      rw [← hw2]
      clear hw2
      have k2 := k1.trans (hbz.mono k1.size)
      have HMT : Hid (∀ w3, Below w2.heap.size w2 w3 → Calls Tryz.prog 24 #[.agg #[.string d.n, .string d.r], .agg #[.int .i64 DA, .int .i64 DB, .int .i64 DC, .slice q np c]] w3 fun e w' => e = .returned (.bool B) ∧ Below w3.heap.size w3 w') := fun w3 h => HMY.out w3 (hbz.trans (h.mono hbz.size))
      have KEEP : Hid (∀ W, Below w2.heap.size w2 W → W.cell? ⟨b, off + k * 2, none⟩ = some (.string d.n) ∧ W.cell? ⟨b, off + k * 2 + 1, none⟩ = some (.string d.r) ∧ W.cell? ⟨w1.heap.size, 0, none⟩ = some (.int .i64 DA) ∧ W.cell? ⟨w1.heap.size, 1, none⟩ = some (.int .i64 DB) ∧ W.cell? ⟨w1.heap.size, 2, none⟩ = some (.int .i64 DC) ∧ W.cell? ⟨w1.heap.size, 3, none⟩ = some (.slice q np c)) := fun W h => by
        have hb := hbz.trans (h.mono hbz.size)
        have hR := box_below hRz h
        exact ⟨(hb.cell (p := ⟨b, off + k * 2, none⟩) (Nat.lt_of_lt_of_le hbb hsz)).trans x0, (hb.cell (p := ⟨b, off + k * 2 + 1, none⟩) (Nat.lt_of_lt_of_le hbb hsz)).trans x1, vblk_cell hR 0, vblk_cell hR 1, vblk_cell hR 2, vblk_cell hR 3⟩
      have hd0 : Below w2.heap.size w2 w2.drew := (Below.refl _ _).drew
      clear x0 x1 HMY
      cases IS with
      | false =>
          have HE := hidden (HF.out rfl)
          clear HF HN
          refine wp_region_held_drew (S := (fun W => W.cell? ⟨b, off + k * 2, none⟩ = some (.string d.n) ∧ W.cell? ⟨b, off + k * 2 + 1, none⟩ = some (.string d.r) ∧ W.cell? ⟨w1.heap.size, 0, none⟩ = some (.int .i64 DA) ∧ W.cell? ⟨w1.heap.size, 1, none⟩ = some (.int .i64 DB) ∧ W.cell? ⟨w1.heap.size, 2, none⟩ = some (.int .i64 DC) ∧ W.cell? ⟨w1.heap.size, 3, none⟩ = some (.slice q np c))) (by kernel_rfl) ?SR10 (fun hHeld => ?_)
          case SR10 => (first | (with_reducible exact KEEP.out _ hd1) | (with_reducible exact KEEP.out _ hd0))
          refine wpAnyH_take (i := 0) (oi := _) (v := ?vR10) rfl (by kernel_rfl) (by kernel_rfl) (by kernel_rfl) (fun _ _ _ h => h) (Or.inl ⟨by rfl, ?yR10⟩) hHeld ?_
          case yR10 => (intro w hSw; (try dsimp only at hSw); go_simp <;> with_reducible rfl)
          try simp only [Act.put, List.getElem_toArray, List.getElem_cons_zero, List.getElem_cons_succ, List.setIfInBounds_toArray, List.set_cons_zero, List.set_cons_succ]
          refine wpAnyH_take (i := 1) (oi := _) (v := ?vR11) rfl (by kernel_rfl) (by kernel_rfl) (by kernel_rfl) (fun _ _ _ h => h) (Or.inl ⟨by rfl, ?yR11⟩) hHeld ?_
          case yR11 => (intro w hSw; (try dsimp only at hSw); go_simp <;> with_reducible rfl)
          try simp only [Act.put, List.getElem_toArray, List.getElem_cons_zero, List.getElem_cons_succ, List.setIfInBounds_toArray, List.set_cons_zero, List.set_cons_succ]
          refine wpAnyH_take (i := 2) (oi := _) (v := ?vR12) rfl (by kernel_rfl) (by kernel_rfl) (by kernel_rfl) (fun _ _ _ h => h) (Or.inl ⟨by rfl, ?yR12⟩) hHeld ?_
          case yR12 => (intro w hSw; (try dsimp only at hSw); go_simp <;> with_reducible rfl)
          try simp only [Act.put, List.getElem_toArray, List.getElem_cons_zero, List.getElem_cons_succ, List.setIfInBounds_toArray, List.set_cons_zero, List.set_cons_succ]
          refine wpAnyH_take (i := 3) (oi := _) (v := undef) rfl (by kernel_rfl) (by kernel_rfl) (by kernel_rfl) (fun _ _ _ h => h) (Or.inr ⟨by rfl, rfl⟩) hHeld ?_
          try simp only [Act.put, List.getElem_toArray, List.getElem_cons_zero, List.getElem_cons_succ, List.setIfInBounds_toArray, List.set_cons_zero, List.set_cons_succ]
          refine wpAnyH_take (i := 4) (oi := _) (v := undef) rfl (by kernel_rfl) (by kernel_rfl) (by kernel_rfl) (fun _ _ _ h => h) (Or.inr ⟨by rfl, rfl⟩) hHeld ?_
          try simp only [Act.put, List.getElem_toArray, List.getElem_cons_zero, List.getElem_cons_succ, List.setIfInBounds_toArray, List.set_cons_zero, List.set_cons_succ]
          refine wpAnyH_take (i := 5) (oi := _) (v := undef) rfl (by kernel_rfl) (by kernel_rfl) (by kernel_rfl) (fun _ _ _ h => h) (Or.inr ⟨by rfl, rfl⟩) hHeld ?_
          try simp only [Act.put, List.getElem_toArray, List.getElem_cons_zero, List.getElem_cons_succ, List.setIfInBounds_toArray, List.set_cons_zero, List.set_cons_succ]
          refine wpAnyH_take (i := 6) (oi := _) (v := undef) rfl (by kernel_rfl) (by kernel_rfl) (by kernel_rfl) (fun _ _ _ h => h) (Or.inr ⟨by rfl, rfl⟩) hHeld ?_
          try simp only [Act.put, List.getElem_toArray, List.getElem_cons_zero, List.getElem_cons_succ, List.setIfInBounds_toArray, List.set_cons_zero, List.set_cons_succ]
          refine wpAnyH_take (i := 7) (oi := _) (v := undef) rfl (by kernel_rfl) (by kernel_rfl) (by kernel_rfl) (fun _ _ _ h => h) (Or.inr ⟨by rfl, rfl⟩) hHeld ?_
          try simp only [Act.put, List.getElem_toArray, List.getElem_cons_zero, List.getElem_cons_succ, List.setIfInBounds_toArray, List.set_cons_zero, List.set_cons_succ]
          refine wpAnyH_take (i := 8) (oi := _) (v := undef) rfl (by kernel_rfl) (by kernel_rfl) (by kernel_rfl) (fun _ _ _ h => h) (Or.inr ⟨by rfl, rfl⟩) hHeld ?_
          try simp only [Act.put, List.getElem_toArray, List.getElem_cons_zero, List.getElem_cons_succ, List.setIfInBounds_toArray, List.set_cons_zero, List.set_cons_succ]
          refine wpAnyH_take (i := 9) (oi := _) (v := undef) rfl (by kernel_rfl) (by kernel_rfl) (by kernel_rfl) (fun _ _ _ h => h) (Or.inr ⟨by rfl, rfl⟩) hHeld ?_
          try simp only [Act.put, List.getElem_toArray, List.getElem_cons_zero, List.getElem_cons_succ, List.setIfInBounds_toArray, List.set_cons_zero, List.set_cons_succ]
          refine wpAnyH_take (i := 10) (oi := _) (v := ?vR110) rfl (by kernel_rfl) (by kernel_rfl) (by kernel_rfl) (fun _ _ _ h => h) (Or.inl ⟨by rfl, ?yR110⟩) hHeld ?_
          case yR110 => (intro w hSw; (try dsimp only at hSw); go_simp <;> with_reducible rfl)
          try simp only [Act.put, List.getElem_toArray, List.getElem_cons_zero, List.getElem_cons_succ, List.setIfInBounds_toArray, List.set_cons_zero, List.set_cons_succ]
          refine wpAnyH_done (by kernel_rfl) ?_ _
          go_wp2_with fail
          go_ret
          exact ⟨by rw [HE.out]; rfl, k2.trans (hd0.mono k2.size)⟩
      | true =>
          rw [Bool.true_and] at HF HN
          refine wp_region_held_drew (S := (fun W => W.cell? ⟨b, off + k * 2, none⟩ = some (.string d.n) ∧ W.cell? ⟨b, off + k * 2 + 1, none⟩ = some (.string d.r) ∧ W.cell? ⟨w1.heap.size, 0, none⟩ = some (.int .i64 DA) ∧ W.cell? ⟨w1.heap.size, 1, none⟩ = some (.int .i64 DB) ∧ W.cell? ⟨w1.heap.size, 2, none⟩ = some (.int .i64 DC) ∧ W.cell? ⟨w1.heap.size, 3, none⟩ = some (.slice q np c))) (by kernel_rfl) ?SR20 (fun hHeld => ?_)
          case SR20 => (first | (with_reducible exact KEEP.out _ hd1) | (with_reducible exact KEEP.out _ hd0))
          refine wpAnyH_take (i := 0) (oi := _) (v := ?vR20) rfl (by kernel_rfl) (by kernel_rfl) (by kernel_rfl) (fun _ _ _ h => h) (Or.inl ⟨by rfl, ?yR20⟩) hHeld ?_
          case yR20 => (intro w hSw; (try dsimp only at hSw); go_simp <;> with_reducible rfl)
          try simp only [Act.put, List.getElem_toArray, List.getElem_cons_zero, List.getElem_cons_succ, List.setIfInBounds_toArray, List.set_cons_zero, List.set_cons_succ]
          refine wpAnyH_take (i := 1) (oi := _) (v := ?vR21) rfl (by kernel_rfl) (by kernel_rfl) (by kernel_rfl) (fun _ _ _ h => h) (Or.inl ⟨by rfl, ?yR21⟩) hHeld ?_
          case yR21 => (intro w hSw; (try dsimp only at hSw); go_simp <;> with_reducible rfl)
          try simp only [Act.put, List.getElem_toArray, List.getElem_cons_zero, List.getElem_cons_succ, List.setIfInBounds_toArray, List.set_cons_zero, List.set_cons_succ]
          refine wpAnyH_take (i := 2) (oi := _) (v := ?vR22) rfl (by kernel_rfl) (by kernel_rfl) (by kernel_rfl) (fun _ _ _ h => h) (Or.inl ⟨by rfl, ?yR22⟩) hHeld ?_
          case yR22 => (intro w hSw; (try dsimp only at hSw); go_simp <;> with_reducible rfl)
          try simp only [Act.put, List.getElem_toArray, List.getElem_cons_zero, List.getElem_cons_succ, List.setIfInBounds_toArray, List.set_cons_zero, List.set_cons_succ]
          refine wpAnyH_take (i := 3) (oi := _) (v := ?vR23) rfl (by kernel_rfl) (by kernel_rfl) (by kernel_rfl) (fun _ _ _ h => h) (Or.inl ⟨by rfl, ?yR23⟩) hHeld ?_
          case yR23 => (intro w hSw; (try dsimp only at hSw); go_simp <;> with_reducible rfl)
          try simp only [Act.put, List.getElem_toArray, List.getElem_cons_zero, List.getElem_cons_succ, List.setIfInBounds_toArray, List.set_cons_zero, List.set_cons_succ]
          refine wpAnyH_take (i := 4) (oi := _) (v := ?vR24) rfl (by kernel_rfl) (by kernel_rfl) (by kernel_rfl) (fun _ _ _ h => h) (Or.inl ⟨by rfl, ?yR24⟩) hHeld ?_
          case yR24 => (intro w hSw; (try dsimp only at hSw); go_simp <;> with_reducible rfl)
          try simp only [Act.put, List.getElem_toArray, List.getElem_cons_zero, List.getElem_cons_succ, List.setIfInBounds_toArray, List.set_cons_zero, List.set_cons_succ]
          refine wpAnyH_take (i := 5) (oi := _) (v := ?vR25) rfl (by kernel_rfl) (by kernel_rfl) (by kernel_rfl) (fun _ _ _ h => h) (Or.inl ⟨by rfl, ?yR25⟩) hHeld ?_
          case yR25 => (intro w hSw; (try dsimp only at hSw); go_simp <;> with_reducible rfl)
          try simp only [Act.put, List.getElem_toArray, List.getElem_cons_zero, List.getElem_cons_succ, List.setIfInBounds_toArray, List.set_cons_zero, List.set_cons_succ]
          refine wpAnyH_take (i := 6) (oi := _) (v := ?vR26) rfl (by kernel_rfl) (by kernel_rfl) (by kernel_rfl) (fun _ _ _ h => h) (Or.inl ⟨by rfl, ?yR26⟩) hHeld ?_
          case yR26 => (intro w hSw; (try dsimp only at hSw); go_simp <;> with_reducible rfl)
          try simp only [Act.put, List.getElem_toArray, List.getElem_cons_zero, List.getElem_cons_succ, List.setIfInBounds_toArray, List.set_cons_zero, List.set_cons_succ]
          refine wpAnyH_take (i := 7) (oi := _) (v := ?vR27) rfl (by kernel_rfl) (by kernel_rfl) (by kernel_rfl) (fun _ _ _ h => h) (Or.inl ⟨by rfl, ?yR27⟩) hHeld ?_
          case yR27 => (intro w hSw; (try dsimp only at hSw); go_simp <;> with_reducible rfl)
          try simp only [Act.put, List.getElem_toArray, List.getElem_cons_zero, List.getElem_cons_succ, List.setIfInBounds_toArray, List.set_cons_zero, List.set_cons_succ]
          refine wpAnyH_ready (rs := [8]) (by kernel_rfl) (by simp) ?_
          refine AllReadyH.cons rfl (fun K hK => ?_) AllReadyH.nil
          go_simp
          go_wp2_with (go_at_call 24; refine (HMT.out _ hd0).mono ?_; rintro e w3 ⟨rfl, b3⟩; have hd1 : Below w2.heap.size w2 w3 := hd0.trans (b3.mono hd0.size))
          clear hHeld
          refine hK.out _ _ ?SR29 (fun hHeld => ?_)
          case SR29 => ((try dsimp only); first | (with_reducible exact KEEP.out _ hd1) | (with_reducible exact KEEP.out _ hd0))
          clear hK K
          refine wpAnyH_take (i := 9) (oi := _) (v := ?vR29) rfl (by kernel_rfl) (by kernel_rfl) (by kernel_rfl) (fun _ _ _ h => h) (Or.inl ⟨by rfl, ?yR29⟩) hHeld ?_
          case yR29 => (intro w hSw; (try dsimp only at hSw); go_simp <;> with_reducible rfl)
          try simp only [Act.put, List.getElem_toArray, List.getElem_cons_zero, List.getElem_cons_succ, List.setIfInBounds_toArray, List.set_cons_zero, List.set_cons_succ]
          refine wpAnyH_take (i := 10) (oi := _) (v := ?vR210) rfl (by kernel_rfl) (by kernel_rfl) (by kernel_rfl) (fun _ _ _ h => h) (Or.inl ⟨by rfl, ?yR210⟩) hHeld ?_
          case yR210 => (intro w hSw; (try dsimp only at hSw); go_simp <;> with_reducible rfl)
          try simp only [Act.put, List.getElem_toArray, List.getElem_cons_zero, List.getElem_cons_succ, List.setIfInBounds_toArray, List.set_cons_zero, List.set_cons_succ]
          refine wpAnyH_done (by kernel_rfl) ?_ _
          have k3 := k2.trans (hd1.mono k2.size)
          cases B with
          | false =>
            have HE := hidden (HF.out rfl)
            clear HF HN
            go_wp2_with fail
            go_ret
            exact ⟨by rw [HE.out]; rfl, k3⟩
          | true =>
            have HN2 := hidden (HN.out rfl)
            clear HF HN
            go_wp2_with fail
            go_roundw
            case rel => exact ⟨k + 1, by omega, by go_num, HN2.out, k3⟩
            case measure => simp [intOf]; omega
    · have he : k = ns.length := by omega
      subst he
      have HE : Hid (R = true) := HR.out.trans (metB_true (fun j hj => hno.out j hj hj))
      clear ha hno HR
      go_wp2_with fail
      go_ret
      exact ⟨by rw [HE.out]; rfl, hbr⟩
end Go.Proofs.YtlfmefojcmpfeaaGreatDoor
