/-
  At every list of files and every list of texts the program and the specification pick the same files, in the same order; the program writes into neither list, and its answer shares no memory with them, nor with another answer; no condition (what holds more than 2 to the 20 is passed by, as the law says).
-/
import Derived.Test.YtbkmjbjiagkjmaaRows
import Derived.WalkKit
import Derived.Test.YtbkmjbjiagkjmaaGlQ
import Derived.Test.YtbkmjbjiagkjmaaGlO
import Derived.Test.YtbkmjbjiagkjmaaSzS
import Derived.Test.YtbkmjbjiagkjmaaOpenF
import Derived.ProofKit
import Derived.OpenShut
import Derived.ShutString
import Derived.SliceStrings
import Derived.ChangeOld
import Derived.Below
namespace Go.Proofs.Ytbkmjbjiagkjmaa.fnExactPicked
open Go.ChangeShapes Go.WideShapes Go.ChangeAt Go.RowKit
open Go.ChangeMaps (open_string shut_string)
set_option linter.unusedVariables false
set_option linter.unusedSimpArgs false

theorem own : ownKnob Try.prog.godebug = none := by kernel_rfl
theorem laidOut : laidOutB Try.prog = true := by kernel_rfl

theorem addr_add (b off i : Nat) : ((⟨b, off, none⟩ : Addr).add i) = ⟨b, off + i, none⟩ := by unfold Addr.add; split <;> simp_all
theorem reads_mk {w : World} {x : Addr} {len cap : Nat} {xs : List Value} (hl : xs.length = len) (hc : len ≤ cap) (hcell : ∀ i (h : i < xs.length), w.cell? (x.add i) = some xs[i]) : Reads w (.slice (some x) len cap) xs := by
  subst hl
  by_cases h0 : xs.length = 0
  · exact ⟨some x, cap, rfl, hc, .inl (List.eq_nil_of_length_eq_zero h0)⟩
  · obtain ⟨b, off, spot⟩ := x
    have hc0 := hcell 0 (by omega)
    have hspot : spot = none := by simpa [Addr.add] using World.cell?_spot hc0
    subst hspot
    refine ⟨some ⟨b, off, none⟩, cap, rfl, hc, .inr ⟨b, off, rfl, ?_, fun i hi => ?_⟩⟩
    · rw [addr_add] at hc0; exact World.block_lt_of_cell? w _ hc0
    · have := hcell i hi; rw [addr_add] at this; exact this


theorem sum_mem {l : List ByteArray} {g : ByteArray} (h : g ∈ l) : g.size ≤ (l.map ByteArray.size).sum := by
  induction l with
  | nil => simp at h
  | cons x l ih =>
    rw [List.map_cons, List.sum_cons]
    rcases List.mem_cons.1 h with rfl | h
    · omega
    · have := ih h; omega
theorem le_kept {w w' : World} {base : Nat} {e : TypeId} {z : Nat} {v u : Value} {n : Nat} {xs : List Value} (h : w.ownsRow base e z v n xs) (gr : w.grownBy w' u.ownBlock) (hne : ∀ j, u.ownBlock = some j → v.ownBlock ≠ some j) : w'.ownsRow base e z v n xs := by
  refine h.kept gr ?_
  cases hu : u.ownBlock with
  | none => cases hv : v.ownBlock with
    | none => exact .inl rfl
    | some i => exact .inr (by simp)
  | some j => exact .inr (hne j hu)
set_option maxHeartbeats 4000000 in
set_option maxRecDepth 100000 in
theorem walk (a0 : Value) (z0 : List FileD) (a1 : Value) (z1 : List ByteArray) (w : World) (r0 : FilesIn (· < w.heap.size) w a0 z0) (r1 : Reads w a1 (strsV z1)) (w1 : ∀ s ∈ z1, s.size ≤ maxLen) (l1 : z1.length ≤ maxLen) :
    Calls Try.prog 9 #[a0, a1] w fun e w' => e = .returned (.bool true) ∧ Below w.heap.size w w' := by
  obtain ⟨q0, cap0, hq0, _⟩ := id r0
  obtain ⟨q1, cap1, hq1, _⟩ := reads_strs r1
  have hin : ∀ w', Below w.heap.size w w' → FilesIn (· < w'.heap.size) w' a0 z0 := fun w' h => r0.below h
  have hin1 : ∀ w', Below w.heap.size w w' → Reads w' a1 (strsV z1) := fun w' h => r1.below h
  have HZ : Hid (Calls Try.prog 45 #[a0, .int .i64 1048576] w fun e w' => e = .returned (.int .i64 (leftW (wtF z0) 1048576)) ∧ Below w.heap.size w w') := szFileS_c _ _ z0 _ (by omega) (by omega) w r0 (fun b h => h)
  have HZ1 : Hid (∀ w' left, Below w.heap.size w w' → 0 ≤ left → left ≤ 1048576 → Calls Try.prog 46 #[a1, .int .i64 left] w' fun e w'' => e = .returned (.int .i64 (leftS z1 left)) ∧ w' = w'') := fun w' left h h0 h1 => sizeStrsM_c a1 z1 w' left h0 h1 (hin1 w' h) l1 w1
  subst hq0
  subst hq1
  by_cases hbig : 1048576 < wtF z0
  · have e1 : leftW (wtF z0) 1048576 = -1 := leftW_bad (by omega)
    rw [e1] at HZ
    clear e1 hin hin1 r0 r1
    go_enter Try.func9, Try.ntmps9
    go_wp2_with (go_at_call 45; refine HZ.out.mono ?_; rintro e wA ⟨rfl, hbA⟩)
    go_ret
    exact ⟨rfl, hbA⟩
  have hn0 : z0.length ≤ 1048576 := by have := len_wtF z0; omega
  have hsn : ∀ f ∈ z0, saneF f := by obtain ⟨_, _, _, _, _, h, _⟩ := r0; exact h
  have hpz : ∀ f ∈ z0, f.p.size ≤ 1048576 := fun f hf => by have := wt1_wtF hf; unfold wt1 at this; omega
  have htz : ∀ f ∈ z0, f.t.size ≤ 1048576 := fun f hf => by have := wt1_wtF hf; unfold wt1 at this; omega
  obtain ⟨p, hp⟩ : ∃ p, p = leftW (wtF z0) 1048576 := ⟨_, rfl⟩
  rw [← hp] at HZ
  have hp0 : 0 ≤ p := by rw [hp, leftW_good (by omega)]; omega
  have hp1 : p ≤ 1048576 := by rw [hp, leftW_good (by omega)]; omega
  clear hp
  by_cases hbg : (bulkS z1 : Int) ≤ p
  rotate_left
  · have e1 : leftS z1 p = -1 := if_neg hbg
    have HZ2 : Hid (∀ w', Below w.heap.size w w' → Calls Try.prog 46 #[.slice q1 z1.length cap1, .int .i64 p] w' fun e w'' => e = .returned (.int .i64 (-1)) ∧ w' = w'') := fun w' h => by rw [← e1]; exact HZ1.out w' p h hp0 hp1
    clear e1 hin hin1 r0 r1 HZ1 hsn hpz htz
    go_enter Try.func9, Try.ntmps9
    go_wp2_with (first
      | (go_at_call 45; refine HZ.out.mono ?_; rintro e wA ⟨rfl, hbA⟩)
      | (go_at_call 46; refine (HZ2.out wA hbA).mono ?_; rintro e wB ⟨rfl, rfl⟩))
    go_ret
    exact ⟨rfl, hbA⟩
  obtain ⟨p2, hp2⟩ : ∃ p2, p2 = leftS z1 p := ⟨_, rfl⟩
  have hp20 : ¬ p2 < 0 := by rw [hp2, leftS, if_pos hbg]; omega
  have HZ2 : Hid (∀ w', Below w.heap.size w w' → Calls Try.prog 46 #[.slice q1 z1.length cap1, .int .i64 p] w' fun e w'' => e = .returned (.int .i64 p2) ∧ w' = w'') := fun w' h => by rw [hp2]; exact HZ1.out w' p h hp0 hp1
  have hg1 : ∀ g ∈ z1, g.size ≤ 1048576 := fun g hg => by
    have h2 : g.size ≤ (z1.map ByteArray.size).sum := sum_mem hg
    unfold bulkS at hbg
    omega
  have hn1 : z1.length ≤ 1048576 := by unfold bulkS at hbg; omega
  have hpp0 : ¬ p < 0 := by omega
  clear hbg hp2 HZ1
  obtain ⟨P, hP⟩ : ∃ P, P = pickF z0 z1 := ⟨_, rfl⟩
  have hPn : P.length ≤ 1048576 := by rw [hP]; have := pickF_len z0 z1; omega
  have hPs : ∀ f ∈ P, saneF f := fun f hf => hsn f (by rw [hP] at hf; exact pickF_mem hf)
  have HT : Hid (∀ w', Below w.heap.size w w' → Calls Try.prog 48 #[.slice q0 z0.length cap0] w' fun e w'' => ∃ g, e = .returned (.slice (some ⟨g, 0, none⟩) z0.length z0.length) ∧ w''.ownsRow w'.heap.size 26 2 (.slice (some ⟨g, 0, none⟩) z0.length z0.length) z0.length (cellsF z0) ∧ Below w'.heap.size w' w'') := fun w' h => toFileS_c _ _ z0 w' (hin w' h) (fun b h => h) hn0
  have HT1 : Hid (∀ w', Below w.heap.size w w' → Calls Try.prog 49 #[.slice q1 z1.length cap1] w' fun e w'' => ∃ g, e = .returned (.slice (some ⟨g, 0, none⟩) z1.length z1.length) ∧ w''.ownsRow w'.heap.size 9 1 (.slice (some ⟨g, 0, none⟩) z1.length z1.length) z1.length (strsV z1) ∧ Below w'.heap.size w' w'') := fun w' h => toStrs_c _ z1 w' (hin1 w' h) (by omega)
  have HSP : Hid (∀ w' g g' lo, w'.ownsRow lo 26 2 (.slice (some ⟨g, 0, none⟩) z0.length z0.length) z0.length (cellsF z0) → Reads w' (.slice (some ⟨g', 0, none⟩) z1.length z1.length) (strsV z1) → Calls Try.prog 47 #[.slice (some ⟨g, 0, none⟩) z0.length z0.length, .slice (some ⟨g', 0, none⟩) z1.length z1.length] w' fun e w'' => ∃ x, e = .returned x ∧ w''.ownsRow w'.heap.size 26 2 x P.length (cellsF P) ∧ Below w'.heap.size w' w'') := fun w' g g' lo h1 h2 => by rw [hP]; exact specPicked_c _ _ z0 _ z1 w' (filesIn_owns h1 hsn) (fun b h => h.2) h2 hn0 hpz hn1 hg1
  have HIP : Hid (∀ w' g g' lo, w'.ownsRow lo 26 2 (.slice (some ⟨g, 0, none⟩) z0.length z0.length) z0.length (cellsF z0) → Reads w' (.slice (some ⟨g', 0, none⟩) z1.length z1.length) (strsV z1) → Calls Try.prog 35 #[.slice (some ⟨g, 0, none⟩) z0.length z0.length, .slice (some ⟨g', 0, none⟩) z1.length z1.length] w' fun e w'' => ∃ x, e = .returned x ∧ w''.ownsRow w'.heap.size 26 2 x P.length (cellsF P) ∧ Below w'.heap.size w' w'') := fun w' g g' lo h1 h2 => by rw [hP]; exact implPicked_c _ _ z0 _ z1 w' (filesIn_owns h1 hsn) (fun b h => h.2) h2 hn0 hpz htz hn1 hg1
  have HE0 : Hid (∀ w' v u lo lo', w'.ownsRow lo 26 2 v z0.length (cellsF z0) → w'.ownsRow lo' 26 2 u z0.length (cellsF z0) → Calls Try.prog 50 #[v, u] w' fun e w'' => e = .returned (.bool true) ∧ Below w'.heap.size w' w'') := fun w' v u lo lo' h h' => eqFileS_c _ _ _ _ z0 w' (filesIn_owns h hsn) (filesIn_owns h' hsn) (fun b h => h.2) (fun b h => h.2)
  have HEP : Hid (∀ w' v u lo lo', w'.ownsRow lo 26 2 v P.length (cellsF P) → w'.ownsRow lo' 26 2 u P.length (cellsF P) → Calls Try.prog 50 #[v, u] w' fun e w'' => e = .returned (.bool true) ∧ Below w'.heap.size w' w'') := fun w' v u lo lo' h h' => eqFileS_c _ _ _ _ P w' (filesIn_owns h hPs) (filesIn_owns h' hPs) (fun b h => h.2) (fun b h => h.2)
  have HE1 : Hid (∀ w' v u, Reads w' v (strsV z1) → Reads w' u (strsV z1) → Calls Try.prog 51 #[v, u] w' fun e w'' => e = .returned (.bool true) ∧ Below w'.heap.size w' w'') := fun w' v u h h' => by
    have := eqStrs_c v u z1 z1 w' h h' (by omega)
    rw [decide_eq_true rfl] at this
    exact this
  obtain ⟨c1, hc1⟩ : ∃ c, c = 1 + z0.length * 2 := ⟨_, rfl⟩
  obtain ⟨c2, hc2⟩ : ∃ c, c = 1 + P.length * 2 := ⟨_, rfl⟩
  obtain ⟨c3, hc3⟩ : ∃ c, c = c1 + z1.length := ⟨_, rfl⟩
  have HM0 : Hid (∀ w' v lo, w'.ownsRow lo 26 2 v z0.length (cellsF z0) → lo ≤ w'.heap.size → Calls Try.prog 52 #[v, .int .i64 1] w' fun e w'' => e = .returned (.int .i64 (c1 : Int)) ∧ w''.ownsRow lo 26 2 v z0.length (cellsF (marksF 1 z0.length)) ∧ w'.grownBy w'' v.ownBlock) := fun w' v lo h hlo => by
    rw [hc1]
    exact markFiles_c v lo z0.length _ 1 w' h (by omega) (by omega) (by omega) hlo
  have HM1 : Hid (∀ w' v lo, w'.ownsRow lo 9 1 v z1.length (strsV z1) → lo ≤ w'.heap.size → Calls Try.prog 53 #[v, .int .i64 (c1 : Int)] w' fun e w'' => e = .returned (.int .i64 (c3 : Int)) ∧ w'.grownBy w'' v.ownBlock) := fun w' v lo h hlo => (markStrs_c v lo z1.length _ c1 w' h (by omega) (by omega) (by omega) hlo).mono fun e w'' ⟨g1, _, g3⟩ => ⟨by rw [hc3, Int.natCast_add]; exact g1, g3⟩
  have HMP : Hid (∀ w' v lo, w'.ownsRow lo 26 2 v P.length (cellsF P) → lo ≤ w'.heap.size → Calls Try.prog 52 #[v, .int .i64 1] w' fun e w'' => e = .returned (.int .i64 (c2 : Int)) ∧ w''.ownsRow lo 26 2 v P.length (cellsF (marksF 1 P.length)) ∧ w'.grownBy w'' v.ownBlock) := fun w' v lo h hlo => by
    rw [hc2]
    exact markFiles_c v lo P.length _ 1 w' h (by omega) (by omega) (by omega) hlo
  have HHP : Hid (∀ w' v lo, w'.ownsRow lo 26 2 v P.length (cellsF (marksF 1 P.length)) → Calls Try.prog 54 #[v, .int .i64 1] w' fun e w'' => e = .returned (.int .i64 (c2 : Int)) ∧ Below w'.heap.size w' w'') := fun w' v lo h => by
    rw [hc2]
    exact heldFiles_c lo v P.length 1 w' h (by omega) (by omega) (by omega)
  have hc10 : ¬ (c3 : Int) < 0 := by omega
  have hc11 : decide ((c3 : Int) < 0) = false := decide_eq_false (by omega)
  have hc1l : c1 ≤ 4294967296 := by omega
  have hc20 : ¬ (c2 : Int) < 0 := by omega
  clear hin hin1 r0 r1 hP hsn hpz htz hg1 hPs hc1 hc2 hc3
  go_enter Try.func9, Try.ntmps9
  go_wp2_with fail
  go_at_call 45
  refine HZ.out.mono ?_
  rintro e wA ⟨rfl, kA⟩
  go_wp2_with fail
  go_at_call 46
  refine (HZ2.out wA kA).mono ?_
  rintro e wB ⟨rfl, rfl⟩
  go_wp2_with fail
  go_at_call 48
  refine (HT.out wA kA).mono ?_
  rintro e w3 ⟨g3, rfl, o3, b3⟩
  have k3 := kA.trans (b3.mono kA.size)
  go_wp2_with fail
  go_at_call 49
  refine (HT1.out w3 k3).mono ?_
  rintro e w4 ⟨g4, rfl, o4, b4⟩
  have k4 := k3.trans (b4.mono k3.size)
  replace o3 := owns2_below o3 b4
  go_wp2_with fail
  go_at_call 47
  refine (HSP.out w4 g3 g4 _ o3 (reads_of_owns o4)).mono ?_
  rintro e w5 ⟨x5, rfl, o5, b5⟩
  have k5 := k4.trans (b5.mono k4.size)
  have hx5 := o5.lt
  clear o3 o4
  go_wp2_with fail
  go_at_call 48
  refine (HT.out w5 k5).mono ?_
  rintro e w6 ⟨g6, rfl, o6, b6⟩
  have k6 := k5.trans (b6.mono k5.size)
  replace o5 := owns2_below o5 b6
  have hg6 := o6.lt g6 rfl
  go_wp2_with fail
  go_at_call 49
  refine (HT1.out w6 k6).mono ?_
  rintro e w7 ⟨g7, rfl, o7, b7⟩
  have k7 := k6.trans (b7.mono k6.size)
  replace o5 := owns2_below o5 b7
  replace o6 := owns2_below o6 b7
  have hg7 := o7.lt g7 rfl
  go_wp2_with fail
  go_at_call 35
  refine (HIP.out w7 g6 g7 _ o6 (reads_of_owns o7)).mono ?_
  rintro e w8 ⟨x8, rfl, o8, b8⟩
  have k8 := k7.trans (b8.mono k7.size)
  replace o5 := owns2_below o5 b8
  replace o6 := owns2_below o6 b8
  replace o7 := owns_of_below o7 b8
  have hx8 := o8.lt
  go_wp2_with fail
  go_at_call 50
  refine (HEP.out w8 x8 x5 _ _ o8 o5).mono ?_
  rintro e w9 ⟨rfl, b9⟩
  have k9 := k8.trans (b9.mono k8.size)
  replace o5 := owns2_below o5 b9
  replace o6 := owns2_below o6 b9
  replace o7 := owns_of_below o7 b9
  replace o8 := owns2_below o8 b9
  go_wp2_with fail
  go_at_call 48
  refine (HT.out w9 k9).mono ?_
  rintro e w10 ⟨g10, rfl, o10, b10⟩
  have k10 := k9.trans (b10.mono k9.size)
  replace o5 := owns2_below o5 b10
  replace o6 := owns2_below o6 b10
  replace o7 := owns_of_below o7 b10
  replace o8 := owns2_below o8 b10
  go_wp2_with fail
  go_at_call 50
  refine (HE0.out w10 _ _ _ _ o6 o10).mono ?_
  rintro e w11 ⟨rfl, b11⟩
  have k11 := k10.trans (b11.mono k10.size)
  replace o5 := owns2_below o5 b11
  replace o6 := owns2_below o6 b11
  replace o7 := owns_of_below o7 b11
  replace o8 := owns2_below o8 b11
  clear o10
  go_wp2_with fail
  go_at_call 49
  refine (HT1.out w11 k11).mono ?_
  rintro e w12 ⟨g12, rfl, o12, b12⟩
  have k12 := k11.trans (b12.mono k11.size)
  replace o5 := owns2_below o5 b12
  replace o6 := owns2_below o6 b12
  replace o7 := owns_of_below o7 b12
  replace o8 := owns2_below o8 b12
  go_wp2_with fail
  go_at_call 51
  refine (HE1.out w12 _ _ (reads_of_owns o7) (reads_of_owns o12)).mono ?_
  rintro e w13 ⟨rfl, b13⟩
  have k13 := k12.trans (b13.mono k12.size)
  replace o5 := owns2_below o5 b13
  replace o6 := owns2_below o6 b13
  replace o7 := owns_of_below o7 b13
  replace o8 := owns2_below o8 b13
  clear o12
  have SZ : Hid (w.heap.size ≤ w4.heap.size ∧ w4.heap.size ≤ w5.heap.size ∧ w5.heap.size ≤ w6.heap.size ∧ w6.heap.size ≤ w7.heap.size ∧ w7.heap.size ≤ w8.heap.size ∧ w8.heap.size ≤ w13.heap.size) := ⟨k4.size, b5.size, b6.size, b7.size, b8.size, by have h1 := b9.size; have h2 := b10.size; have h3 := b11.size; have h4 := b12.size; have h5 := b13.size; omega⟩
  clear b3 b4 b5 b6 b7 b8 b9 b10 b11 b12 b13
  go_wp2_with fail
  go_at_call 52
  refine (HM0.out w13 _ _ o6 (by have := SZ.out; omega)).mono ?_
  rintro e w14 ⟨rfl, _, gr14⟩
  have k14 := Below.grown k13 gr14 k13.size (fun j hj => by have h1 := (o6.lt j hj).1; have := SZ.out; omega)
  have G6 : ∀ j, (Value.slice (some ⟨g6, 0, none⟩) z0.length z0.length).ownBlock = some j → j = g6 := fun j hj => by simpa [Value.ownBlock] using hj.symm
  replace o5 := le_kept o5 gr14 (fun j hj e => by have h1 := hx5 j e; have h2 := G6 j hj; have h3 := SZ.out; omega)
  replace o8 := le_kept o8 gr14 (fun j hj e => by have h1 := hx8 j e; have h2 := G6 j hj; have h3 := SZ.out; omega)
  replace o7 := le_kept o7 gr14 (fun j hj e => by have h2 := G6 j hj; have h3 := SZ.out; simp only [Value.ownBlock, Option.some.injEq] at e; omega)
  have s14 := gr14.size
  clear gr14 o6
  go_wp2_with fail
  go_at_call 53
  refine (HM1.out w14 _ _ o7 (by have := SZ.out; omega)).mono ?_
  rintro e w15 ⟨rfl, gr15⟩
  have k15 := Below.grown k14 gr15 k14.size (fun j hj => by have h1 := (o7.lt j hj).1; have := SZ.out; omega)
  have G7 : ∀ j, (Value.slice (some ⟨g7, 0, none⟩) z1.length z1.length).ownBlock = some j → j = g7 := fun j hj => by simpa [Value.ownBlock] using hj.symm
  replace o5 := le_kept o5 gr15 (fun j hj e => by have h1 := hx5 j e; have h2 := G7 j hj; have h3 := SZ.out; omega)
  replace o8 := le_kept o8 gr15 (fun j hj e => by have h1 := hx8 j e; have h2 := G7 j hj; have h3 := SZ.out; omega)
  have s15 := gr15.size
  clear gr15 o7
  go_wp2_with fail
  go_at_call 50
  refine (HEP.out w15 x8 x5 _ _ o8 o5).mono ?_
  rintro e w16 ⟨rfl, b16⟩
  have k16 := k15.trans (b16.mono k15.size)
  replace o5 := owns2_below o5 b16
  replace o8 := owns2_below o8 b16
  have s16 := b16.size
  go_wp2_with fail
  go_at_call 52
  refine (HMP.out w16 _ _ o8 (by have := SZ.out; omega)).mono ?_
  rintro e w17 ⟨rfl, o9, gr17⟩
  have k17 := Below.grown k16 gr17 k16.size (fun j hj => by have h1 := (o8.lt j hj).1; have := SZ.out; omega)
  replace o5 := le_kept o5 gr17 (fun j hj e => by have h1 := hx5 j e; have h2 := hx8 j hj; have h3 := SZ.out; omega)
  clear gr17 o8
  go_wp2_with fail
  go_at_call 54
  refine (HHP.out w17 _ _ o9).mono ?_
  rintro e w18 ⟨rfl, b18⟩
  have k18 := k17.trans (b18.mono k17.size)
  replace o5 := owns2_below o5 b18
  replace o9 := owns2_below o9 b18
  go_wp2_with fail
  go_at_call 48
  refine (HT.out w18 k18).mono ?_
  rintro e w19 ⟨g19, rfl, o19, b19⟩
  have k19 := k18.trans (b19.mono k18.size)
  replace o5 := owns2_below o5 b19
  replace o9 := owns2_below o9 b19
  go_wp2_with fail
  go_at_call 49
  refine (HT1.out w19 k19).mono ?_
  rintro e w20 ⟨g20, rfl, o20, b20⟩
  have k20 := k19.trans (b20.mono k19.size)
  replace o5 := owns2_below o5 b20
  replace o9 := owns2_below o9 b20
  replace o19 := owns2_below o19 b20
  go_wp2_with fail
  go_at_call 35
  refine (HIP.out w20 g19 g20 _ o19 (reads_of_owns o20)).mono ?_
  rintro e w21 ⟨x21, rfl, o21, b21⟩
  have k21 := k20.trans (b21.mono k20.size)
  replace o5 := owns2_below o5 b21
  replace o9 := owns2_below o9 b21
  go_wp2_with fail
  go_at_call 50
  refine (HEP.out w21 x21 x5 _ _ o21 o5).mono ?_
  rintro e w22 ⟨rfl, b22⟩
  have k22 := k21.trans (b22.mono k21.size)
  replace o9 := owns2_below o9 b22
  go_wp2_with fail
  go_at_call 54
  refine (HHP.out w22 _ _ o9).mono ?_
  rintro e w23 ⟨rfl, b23⟩
  have k23 := k22.trans (b23.mono k22.size)

  go_wp2_with fail
  go_ret
  exact ⟨rfl, k23⟩

set_option maxRecDepth 100000 in
theorem lifted (os : Os) (started : os.Started) (H : Type) (enc : TypeId × Value → H) :
    ReturnsInHanded {} Try.checked os 9 .any (Rows.fnExactPickedSpec.pre6 enc Try.prog Try.f9 Rows.fnExactPickedRow.domain false) (Rows.fnExactPickedSpec.post enc Try.prog Try.f9 false true false false) := by
  refine returnsInHanded_of_change (C := Try.checked) own started (by kernel_rfl) Try.func9
    (ChangeSpec.witness6 (enc := enc) (C := Try.checked) false ⟨#[], #[.slice none 0 0, .slice none 0 0], []⟩ 8 (by kernel_rfl) (by kernel_rfl) (by kernel_rfl) (by kernel_rfl)) ?_
  intro W base args ds gs before hval0 hW hcnd _
  have hval : ∀ (j : Nat) t v, Try.f9.params[j]? = some t → args[j]? = some v → Value.okWide Try.prog W .any base t v := hval0
  have hW' := hW
  obtain ⟨p, q, hA0, hV, rfl, hfz, hnd⟩ := hW
  have hA : DataW.TrodAll enc Try.prog W 0 (fun _ => true) true Try.f9.params.toList args.toList ds p := hA0
  rw [Try.params9] at hA hval
  obtain ⟨v0, vs0, d0, ds0, p0, q0, hargs, rfl, rfl, h0, r0⟩ := trodAll_cons hA
  obtain ⟨v1, vs1, d1, ds1, p1, q1, rfl, rfl, rfl, h1, r1⟩ := trodAll_cons r0
  obtain ⟨rfl, rfl, rfl⟩ := trodAll_nil r1
  obtain rfl : args = #[v0, v1] := by cases args; simp_all
  obtain ⟨rfl, rfl⟩ := trodVars_none hV
  obtain ⟨a0, len0, cap0, rfl⟩ := okWide_slice Try.underlying63 (hval 0 63 v0 rfl rfl)
  have k0 := h0
  have lt0 : ∀ x ∈ p0, x.block < W.heap.size := by obtain ⟨m, hm⟩ := k0; exact DataW.trod_lt m _ _ _ hm
  obtain ⟨z0, t0⟩ : ∃ fs, FilesIn (· < W.heap.size) W (.slice a0 len0 cap0) fs := by
    obtain ⟨fuel, hf⟩ := h0
    exact files_of_trod fuel _ _ hf
  obtain ⟨a1, len1, cap1, rfl⟩ := okWide_slice Try.underlying34 (hval 1 34 v1 rfl rfl)
  have k1 := h1
  have lt1 : ∀ x ∈ p1, x.block < W.heap.size := by obtain ⟨m, hm⟩ := k1; exact DataW.trod_lt m _ _ _ hm
  obtain ⟨z1, t1, w1, l1⟩ : ∃ zs : List ByteArray, Reads W (.slice a1 len1 cap1) (strsV zs) ∧ (∀ s ∈ zs, s.size ≤ maxLen) ∧ zs.length ≤ maxLen := by
    obtain ⟨fuel, hf⟩ := h1
    rcases open_strings Try.underlying34 Try.underlying9 (by kernel_rfl) hf with ⟨hcs, _⟩ | ⟨x, l, c, zs, hcs, _, hl, hm, hz, _, hcell, hwz⟩
    · simp [Value.cells] at hcs
      obtain ⟨rfl, rfl, rfl⟩ := hcs
      exact ⟨[], ⟨none, 0, rfl, Nat.le_refl _, .inl rfl⟩, by simp, by simp⟩
    · simp [Value.cells] at hcs
      obtain ⟨rfl, rfl, rfl⟩ := hcs
      have hz' : zs.length = cap1 := by simpa using hz
      refine ⟨zs.take len1, reads_mk (by simp; omega) hl (fun i hi => ?_), fun z hzm => hwz z (List.mem_of_mem_take hzm), by simp; omega⟩
      simp at hi
      rw [hcell i (by omega)]
      simp [strsV, List.getD_eq_getElem?_getD, show i < zs.length by omega]
  clear hA0 hval0
  refine (walk _ z0 _ z1 W t0 t1 w1 l1).mono fun e W' ⟨he, bel⟩ => ?_
  subst he
  exact ⟨_, rfl, _, _, _, [], _, [], hW', trodAll_mk1 (shut_bool Try.underlying4 _), (trodAll_cons_mk (Below.trod laidOut (by kernel_rfl) (of_decide_eq_true (by kernel_rfl)) k0 bel lt0) (trodAll_cons_mk (Below.trod laidOut (by kernel_rfl) (of_decide_eq_true (by kernel_rfl)) k1 bel lt1) trodAll_mk0)), rfl, bel.frame _, fun h => by cases h⟩

theorem over : Rows.fnExactPickedRow.holds Try.pinned (OpenSpec.ofChange Rows.fnExactPickedSpec) :=
  OpenClaim.holds_of_wide 9 Try.f9 rfl rfl rfl rfl rfl rfl rfl ⟨rfl, rfl, rfl, rfl, rfl⟩ rfl rfl rfl rfl rfl (by kernel_rfl) Try.func9 (by kernel_rfl)
    (of_decide_eq_true (by kernel_rfl)) (by unfold Func.isWrapper; first | (rw [if_pos (by decide +kernel)]; kernel_rfl) | (rw [if_neg (by decide +kernel)]; exact ⟨rfl, rfl⟩))
    (fun os started H enc _ => lifted os started H enc)

theorem proved : Rows.FnExactPickedSaid := over
end Go.Proofs.Ytbkmjbjiagkjmaa.fnExactPicked
namespace Go.Proofs.Ytbkmjbjiagkjmaa
theorem fnExactPicked_holds : Rows.FnExactPickedSaid := fnExactPicked.proved
#print axioms fnExactPicked_holds
end Go.Proofs.Ytbkmjbjiagkjmaa
