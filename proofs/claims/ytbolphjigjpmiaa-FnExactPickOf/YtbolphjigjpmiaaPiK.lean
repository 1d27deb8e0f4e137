/-
  PickOf, as the program and the specification answer it: contracts for the walks; conditions: what comes in lies in memory, and holds at most 2 to the 20.
-/
import Derived.Test.YtbolphjigjpmiaaPiA
import Derived.Test.YtbolphjigjpmiaaCpA
import Derived.Test.YtbolphjigjpmiaaVerX
import Derived.Test.YtbolphjigjpmiaaPkF
namespace Go.Proofs.Ytbolphjigjpmiaa
open Go.RowKit
set_option linter.unusedSimpArgs false
set_option linter.unusedVariables false

def zeroP : PickD := ⟨⟨#[]⟩, 0, 0, 0, []⟩
def firstP (xs : List PickD) (n : ByteArray) : Option Nat := xs.findIdx? fun d => decide (d.name = n)
def atP (xs : List PickD) (o : Option Nat) : PickD := (o.bind (xs[·]?)).getD zeroP
theorem firstP_at {xs : List PickD} {n : ByteArray} {k : Nat} (h : k < xs.length) (hy : xs[k].name = n) (hn : ∀ j (hj : j < xs.length), j < k → ¬ xs[j].name = n) : firstP xs n = some k := by
  unfold firstP
  rw [List.findIdx?_eq_some_iff_getElem]
  exact ⟨h, by simpa using hy, fun j hj => by simpa using hn j (by omega) hj⟩
theorem firstP_none {xs : List PickD} {n : ByteArray} (hn : ∀ j (hj : j < xs.length), ¬ xs[j].name = n) : firstP xs n = none := by
  unfold firstP
  rw [List.findIdx?_eq_none_iff]
  intro x hx
  obtain ⟨j, hj, rfl⟩ := List.mem_iff_getElem.1 hx
  simpa using hn j hj
/-- What PickOf gives back. -/
def PickR (w1 w' : World) (e : Ending) (D : PickD) (is : Bool) : Prop := ∃ u', e = .returned (.tuple #[.agg #[.int .i64 D.vA, .int .i64 D.vB, .int .i64 D.vC, u'], .bool is]) ∧ w'.ownsRow w1.heap.size 9 1 u' D.vP.length (strsV D.vP) ∧ Below w1.heap.size w1 w'

set_option maxHeartbeats 4000000 in
set_option maxRecDepth 100000 in
theorem specPick_c (S : Nat → Prop) (v : Value) (xs : List PickD) (n : ByteArray) (w : World) (hv : RowIn shPickO S w v xs) (hB : ∀ b, S b → b < w.heap.size) (hw : wtRow wtPick xs ≤ 1048576) :
    Calls Try.prog 28 #[v, .string n] w fun e w' => PickR w w' e (atP xs (firstP xs n)) (firstP xs n).isSome := by
  have hbx : Below w.heap.size w (w.alloc (.cells #[.int .i64 0, .int .i64 0, .int .i64 0, .slice none 0 0] 59 (0, 0))) := (Below.refl _ _).alloc (Nat.le_refl _) _
  have hwe : ∀ d ∈ xs, wtPick d ≤ 1048576 := fun d hd => Nat.le_trans (wt_wtRow wtPick hd) hw
  obtain ⟨av, cv, rfl, hl, hc, ha⟩ := hv
  unfold maxLen at hl
  obtain ⟨R, hR⟩ : ∃ R, R = firstP xs n := ⟨_, rfl⟩
  rw [← hR]
  have HR : Hid (R = firstP xs n) := hR
  have hRz : (w.alloc (.cells #[.int .i64 0, .int .i64 0, .int .i64 0, .slice none 0 0] 59 (0, 0))).heap[w.heap.size]? = some (.cells #[.int .i64 0, .int .i64 0, .int .i64 0, .slice none 0 0] 59 (0, 0)) := vheap_new _ _
  have hsz : (w.alloc (.cells #[.int .i64 0, .int .i64 0, .int .i64 0, .slice none 0 0] 59 (0, 0))).heap.size = w.heap.size + 1 := by simp
  clear hR
  go_enter Try.func28, Try.ntmps28
  go_wp2_with fail
  obtain ⟨wz, hW⟩ : ∃ wz, wz = w.alloc (.cells #[.int .i64 0, .int .i64 0, .int .i64 0, .slice none 0 0] 59 (0, 0)) := ⟨_, rfl⟩
  rw [← hW] at hRz hbx hsz
  rw [← hW]
  clear hW
  go_loopw [6] (fun vi wr => ∃ k : Nat, k ≤ xs.length ∧ vi = .int .i64 (k : Int) ∧ Hid (∀ j (hj : j < xs.length), j < k → ¬ xs[j].name = n) ∧ wr = wz) (fun vi _ => xs.length - (intOf vi).toNat)
  case atStart => exact ⟨0, Nat.zero_le _, rfl, (fun j hj h => by omega), rfl⟩
  case round =>
    obtain ⟨k, hk, rfl, hno, rfl⟩ := hrel
    by_cases hlt' : k < xs.length
    · rcases ha with rfl | ⟨b, off, rfl, hlt, ha⟩
      · simp at hlt'
      obtain ⟨cs, hL, hcell⟩ := ha k hlt'
      have hcell2 := hcell.keep (.of hbx hB) hlt
      replace hL := shPickO.keep (.of hbx hB) hL
      have hwk := hwe xs[k] (List.getElem_mem hlt')
      have HT : Hid (xs[k].name = n → R = some k ∧ atP xs (some k) = xs[k]) := fun h => ⟨HR.out.trans (firstP_at hlt' h hno.out), by simp [atP, hlt']⟩
      have HN : Hid (¬ xs[k].name = n → ∀ j (hj : j < xs.length), j < k + 1 → ¬ xs[j].name = n) := fun h j hj hjk => by
        by_cases e : j = k
        · subst e; exact h
        · exact hno.out j hj (by omega)
      obtain ⟨d, hd⟩ : ∃ d, d = xs[k] := ⟨_, rfl⟩
      rw [← hd] at hL HT HN hwk
      obtain ⟨u0, rfl, s_n, r0, p0⟩ := hL
      have hpl : d.vP.length ≤ 1048576 := by unfold wtPick bulkS at hwk; omega
      have HV := hidden (copy_c d.vA d.vB d.vC u0 d.vP 0 _ r0.1 hpl)
      obtain ⟨a0, cap0, eu0⟩ := r0.slice
      subst eu0
      have e0 : wr.cell? ⟨b, off + k * 5, none⟩ = some (.string d.name) := hcell2 0 (by simp)
      have e1 : wr.cell? ⟨b, off + k * 5 + 1, none⟩ = some (.int .i64 d.vA) := hcell2 1 (by simp)
      have e2 : wr.cell? ⟨b, off + k * 5 + 2, none⟩ = some (.int .i64 d.vB) := hcell2 2 (by simp)
      have e3 : wr.cell? ⟨b, off + k * 5 + 3, none⟩ = some (.int .i64 d.vC) := hcell2 3 (by simp)
      have e4 : wr.cell? ⟨b, off + k * 5 + 4, none⟩ = some (.slice a0 d.vP.length cap0) := hcell2 4 (by simp)
      have hki : (k : Int) < (xs.length : Int) := by omega
      have hal := name_alike d.name n
      clear ha hd hcell hcell2 hno HR r0
      by_cases hts : d.name = n
      · have hq : (d.name.toList == n.toList) = true := by rw [hal]; simpa using hts
        have HT2 := hidden (HT.out hts)
        clear HT HN hts hal
        go_wp2_with fail
        go_at_call 73
        refine HV.out.mono ?_
        rintro e w1 ⟨u', rfl, ho, b1⟩
        have hR1 := box_below hRz b1
        have y0 := vblk_cell hR1 0
        have y1 := vblk_cell hR1 1
        have y2 := vblk_cell hR1 2
        have y3 := vblk_cell hR1 3
        have fy := vblk_frozen hR1
        simp only [List.getElem?_toArray, List.getElem?_cons_succ, List.getElem?_cons_zero] at y0 y1 y2 y3
        have kb := hbx.trans (b1.mono hbx.size)
        obtain ⟨qv, cv2, ev⟩ := owns_sliceP ho
        subst ev
        have HO := hidden (And.intro (owns_lo hbx.size ho) (And.intro hR1 kb))
        clear ho hR1 b1
        go_wp2_with fail
        refine bodyPost_ret (v := .tuple #[.agg #[.int .i64 d.vA, .int .i64 d.vB, .int .i64 d.vC, .slice qv d.vP.length cv2], .bool true]) (by simp [results, Try.results28, go_sem, y0, y1, y2, y3]) rfl ?_
        obtain ⟨ho, hR1, _⟩ := HO.out
        have hg := row_box ho hR1 (by decide)
        refine ⟨_, by rw [HT2.out.1, HT2.out.2]; rfl, ?_, ?_⟩
        · rw [HT2.out.1, HT2.out.2]
          exact owns_kept (S := fun b => b ≠ w.heap.size) ((((Kp.set (by simp)).trans (Kp.set (by simp))).trans (Kp.set (by simp))).trans (Kp.set (by simp))) (fun g hg2 => by rintro rfl; exact hg hg2) ho
        · exact Below.setCell (Below.setCell (Below.setCell (Below.setCell kb (Nat.le_refl _) _) (Nat.le_refl _) _) (Nat.le_refl _) _) (Nat.le_refl _) _
      · have hq : (d.name.toList == n.toList) = false := by rw [hal]; simpa using hts
        have HN2 := hidden (HN.out hts)
        clear HT HN hts hal
        go_wp2_with fail
        go_roundw
        case rel => exact ⟨k + 1, by omega, by go_num, HN2.out, by first | exact True.intro | rfl⟩
        case measure => simp [intOf]; omega
    · have he : k = xs.length := by omega
      subst he
      have HE : Hid (R = none) := HR.out.trans (firstP_none (fun j hj => hno.out j hj hj))
      have y0 := vblk_cell hRz 0
      have y1 := vblk_cell hRz 1
      have y2 := vblk_cell hRz 2
      have y3 := vblk_cell hRz 3
      have fy := vblk_frozen hRz
      simp only [List.getElem?_toArray, List.getElem?_cons_succ, List.getElem?_cons_zero] at y0 y1 y2 y3
      clear ha hno HR
      go_wp2_with fail
      refine bodyPost_ret (v := .tuple #[.agg #[.int .i64 0, .int .i64 0, .int .i64 0, .slice none 0 0], .bool false]) (by simp [results, Try.results28, go_sem, y0, y1, y2, y3]) rfl ?_
      refine ⟨_, by rw [HE.out]; rfl, ?_, ?_⟩
      · rw [HE.out]
        exact ⟨rfl, .inl ⟨rfl, rfl⟩⟩
      · exact Below.setCell (Below.setCell (Below.setCell (Below.setCell hbx (Nat.le_refl _) _) (Nat.le_refl _) _) (Nat.le_refl _) _) (Nat.le_refl _) _

set_option maxHeartbeats 4000000 in
set_option maxRecDepth 100000 in
theorem implPick_c (S : Nat → Prop) (v : Value) (xs : List PickD) (n : ByteArray) (w : World) (hv : RowIn shPick S w v xs) (hB : ∀ b, S b → b < w.heap.size) (hw : wtRow wtPick xs ≤ 1048576) :
    Calls Try.prog 30 #[v, .string n] w fun e w' => PickR w w' e (atP xs (firstP xs n)) (firstP xs n).isSome := by
  have hbx : Below w.heap.size w (w.alloc (.cells #[.int .i64 0, .int .i64 0, .int .i64 0, .slice none 0 0] 59 (0, 0))) := (Below.refl _ _).alloc (Nat.le_refl _) _
  have hwe : ∀ d ∈ xs, wtPick d ≤ 1048576 := fun d hd => Nat.le_trans (wt_wtRow wtPick hd) hw
  obtain ⟨av, cv, rfl, hl, hc, ha⟩ := hv
  unfold maxLen at hl
  obtain ⟨R, hR⟩ : ∃ R, R = firstP xs n := ⟨_, rfl⟩
  rw [← hR]
  have HR : Hid (R = firstP xs n) := hR
  have hRz : (w.alloc (.cells #[.int .i64 0, .int .i64 0, .int .i64 0, .slice none 0 0] 59 (0, 0))).heap[w.heap.size]? = some (.cells #[.int .i64 0, .int .i64 0, .int .i64 0, .slice none 0 0] 59 (0, 0)) := vheap_new _ _
  have hsz : (w.alloc (.cells #[.int .i64 0, .int .i64 0, .int .i64 0, .slice none 0 0] 59 (0, 0))).heap.size = w.heap.size + 1 := by simp
  clear hR
  go_enter Try.func30, Try.ntmps30
  go_wp2_with fail
  obtain ⟨wz, hW⟩ : ∃ wz, wz = w.alloc (.cells #[.int .i64 0, .int .i64 0, .int .i64 0, .slice none 0 0] 59 (0, 0)) := ⟨_, rfl⟩
  rw [← hW] at hRz hbx hsz
  rw [← hW]
  clear hW
  go_loopw [10] (fun vi wr => ∃ k : Nat, k ≤ xs.length ∧ vi = .int .i64 (k : Int) ∧ Hid (∀ j (hj : j < xs.length), j < k → ¬ xs[j].name = n) ∧ Below wz.heap.size wz wr) (fun vi _ => xs.length - (intOf vi).toNat)
  case atStart => exact ⟨0, Nat.zero_le _, rfl, (fun j hj h => by omega), Below.refl _ _⟩
  case round =>
    obtain ⟨k, hk, rfl, hno, hbz⟩ := hrel
    have hbr : Below w.heap.size w wr := hbx.trans (hbz.mono hbx.size)
    have hRr := box_below hRz hbz
    have hszr := hbz.size
    by_cases hlt' : k < xs.length
    · rcases ha with rfl | ⟨b, off, rfl, hlt, ha⟩
      · simp at hlt'
      obtain ⟨cs, hL, hcell⟩ := ha k hlt'
      have hcell2 := hcell.keep (.of hbr hB) hlt
      replace hL := shPick.keep (.of hbr hB) hL
      have hBr : ∀ b, S b → b < wr.heap.size := fun b h => Nat.lt_of_lt_of_le (hB b h) hbr.size
      have hwk := hwe xs[k] (List.getElem_mem hlt')
      have HT : Hid (xs[k].name = n → R = some k ∧ atP xs (some k) = xs[k]) := fun h => ⟨HR.out.trans (firstP_at hlt' h hno.out), by simp [atP, hlt']⟩
      have HN : Hid (¬ xs[k].name = n → ∀ j (hj : j < xs.length), j < k + 1 → ¬ xs[j].name = n) := fun h j hj hjk => by
        by_cases e : j = k
        · subst e; exact h
        · exact hno.out j hj (by omega)
      obtain ⟨d, hd⟩ : ∃ d, d = xs[k] := ⟨_, rfl⟩
      rw [← hd] at hL HT HN hwk
      obtain ⟨u0, rfl, s_n, r0, p0⟩ := hL
      have hbk : bulkS d.vP ≤ 1048576 := by unfold wtPick at hwk; omega
      have HV' : ∀ w1, Below wr.heap.size wr w1 → Calls Try.prog 75 #[.agg #[.int .i64 d.vA, .int .i64 d.vB, .int .i64 d.vC, u0]] w1 fun e w' => ∃ u', e = .returned (.agg #[.int .i64 d.vA, .int .i64 d.vB, .int .i64 d.vC, u']) ∧ w'.ownsRow w1.heap.size 9 1 u' d.vP.length (strsV d.vP) ∧ Below w1.heap.size w1 w' := fun w1 h => copyVer_c _ _ _ u0 d.vP w1 ((r0.keep (.of h hBr)).reads (fun b hb => Nat.lt_of_lt_of_le (hBr b hb) h.size)) hbk
      obtain ⟨a0, cap0, eu0, _⟩ := id r0
      rw [length_strsV] at eu0
      subst eu0
      have HV := hidden HV'
      have e0 : wr.cell? ⟨b, off + k * 5, none⟩ = some (.string d.name) := hcell2 0 (by simp)
      have e1 : wr.cell? ⟨b, off + k * 5 + 1, none⟩ = some (.int .i64 d.vA) := hcell2 1 (by simp)
      have e2 : wr.cell? ⟨b, off + k * 5 + 2, none⟩ = some (.int .i64 d.vB) := hcell2 2 (by simp)
      have e3 : wr.cell? ⟨b, off + k * 5 + 3, none⟩ = some (.int .i64 d.vC) := hcell2 3 (by simp)
      have e4 : wr.cell? ⟨b, off + k * 5 + 4, none⟩ = some (.slice a0 d.vP.length cap0) := hcell2 4 (by simp)
      have hki : (k : Int) < (xs.length : Int) := by omega
      have hal := name_alike d.name n
      have hbox : ∀ o, Below wr.heap.size wr (wr.alloc o) := fun o => (Below.refl _ _).alloc (Nat.le_refl _) _
      clear ha hd hcell hcell2 hno HR r0 HV'
      by_cases hts : d.name = n
      · have hq : (d.name.toList == n.toList) = true := by rw [hal]; simpa using hts
        have HT2 := hidden (HT.out hts)
        clear HT HN hts hal
        go_wp2_with fail
        go_at_call 75
        refine (HV.out _ (by first | exact hbox _ | (refine Below.setCell (Below.setCell (Below.setCell (Below.setCell (Below.setCell (hbox _) ?_ _) ?_ _) ?_ _) ?_ _) ?_ _ <;> simp))).mono ?_
        rintro e w1 ⟨u', rfl, ho, b1⟩
        have hb0 := hbox (.cells #[.string d.name, .int .i64 d.vA, .int .i64 d.vB, .int .i64 d.vC, .slice a0 d.vP.length cap0] 113 (0, 0))
        have hR1 := box_below (box_below hRr hb0) b1
        have y0 := vblk_cell hR1 0
        have y1 := vblk_cell hR1 1
        have y2 := vblk_cell hR1 2
        have y3 := vblk_cell hR1 3
        have fy := vblk_frozen hR1
        simp only [List.getElem?_toArray, List.getElem?_cons_succ, List.getElem?_cons_zero] at y0 y1 y2 y3
        have kb0 := hbr.trans (hb0.mono hbr.size)
        have kb := kb0.trans (b1.mono kb0.size)
        obtain ⟨qv, cv2, ev⟩ := owns_sliceP ho
        subst ev
        have HO := hidden (And.intro (owns_lo kb0.size ho) (And.intro hR1 kb))
        clear ho hR1 b1 hb0 kb0
        go_wp2_with fail
        refine bodyPost_ret (v := .tuple #[.agg #[.int .i64 d.vA, .int .i64 d.vB, .int .i64 d.vC, .slice qv d.vP.length cv2], .bool true]) (by simp [results, Try.results30, go_sem, y0, y1, y2, y3]) rfl ?_
        obtain ⟨ho, hR1, _⟩ := HO.out
        have hg := row_box ho hR1 (by decide)
        refine ⟨_, by rw [HT2.out.1, HT2.out.2]; rfl, ?_, ?_⟩
        · rw [HT2.out.1, HT2.out.2]
          exact owns_kept (S := fun b => b ≠ w.heap.size) ((((Kp.set (by simp)).trans (Kp.set (by simp))).trans (Kp.set (by simp))).trans (Kp.set (by simp))) (fun g hg2 => by rintro rfl; exact hg hg2) ho
        · exact Below.setCell (Below.setCell (Below.setCell (Below.setCell kb (Nat.le_refl _) _) (Nat.le_refl _) _) (Nat.le_refl _) _) (Nat.le_refl _) _
      · have hq : (d.name.toList == n.toList) = false := by rw [hal]; simpa using hts
        have HN2 := hidden (HN.out hts)
        clear HT HN hts hal
        go_wp2_with fail
        go_roundw
        case rel => exact ⟨k + 1, by omega, by go_num, HN2.out, hbz.trans ((hbox _).mono hszr)⟩
        case measure => simp [intOf]; omega
    · have he : k = xs.length := by omega
      subst he
      have HE : Hid (R = none) := HR.out.trans (firstP_none (fun j hj => hno.out j hj hj))
      have y0 := vblk_cell hRr 0
      have y1 := vblk_cell hRr 1
      have y2 := vblk_cell hRr 2
      have y3 := vblk_cell hRr 3
      have fy := vblk_frozen hRr
      simp only [List.getElem?_toArray, List.getElem?_cons_succ, List.getElem?_cons_zero] at y0 y1 y2 y3
      clear ha hno HR
      go_wp2_with fail
      refine bodyPost_ret (v := .tuple #[.agg #[.int .i64 0, .int .i64 0, .int .i64 0, .slice none 0 0], .bool false]) (by simp [results, Try.results30, go_sem, y0, y1, y2, y3]) rfl ?_
      refine ⟨_, by rw [HE.out]; rfl, ?_, ?_⟩
      · rw [HE.out]
        exact ⟨rfl, .inl ⟨rfl, rfl⟩⟩
      · exact Below.setCell (Below.setCell (Below.setCell (Below.setCell hbr (Nat.le_refl _) _) (Nat.le_refl _) _) (Nat.le_refl _) _) (Nat.le_refl _) _
end Go.Proofs.Ytbolphjigjpmiaa
