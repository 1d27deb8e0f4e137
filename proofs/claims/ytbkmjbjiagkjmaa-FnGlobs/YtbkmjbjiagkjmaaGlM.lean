/-
  What the specification's functions that ask whether pieces take names, and a pattern a path, answer: all ways are tried; contracts for the walks; condition: texts of at most 2 to the 20 bytes.
-/
import Derived.Test.YtbkmjbjiagkjmaaGlL
import Derived.Test.YtbkmjbjiagkjmaaGlK
import Derived.Deep.RegionHeld
namespace Go.Proofs.Ytbkmjbjiagkjmaa
open Go.RowKit
set_option linter.unusedSimpArgs false
set_option linter.unusedVariables false

/-- A list of texts that is not nil. -/
def RdS (w : World) (v : Value) (xs : List ByteArray) : Prop :=
  ∃ b off N cap, v = .slice (some ⟨b, off, none⟩) N cap ∧ N = xs.length ∧ N ≤ cap ∧ b < w.heap.size ∧ ∀ k (h : k < xs.length), w.cell? ⟨b, off + k, none⟩ = some (.string xs[k])
theorem RdS.below {w w' : World} {v : Value} {xs : List ByteArray} (h : RdS w v xs) (hb : Below w.heap.size w w') : RdS w' v xs := by
  obtain ⟨b, off, N, cap, h1, h2, h3, h4, h5⟩ := h
  exact ⟨b, off, N, cap, h1, h2, h3, Nat.lt_of_lt_of_le h4 hb.size, fun k hk => (hb.cell (by simpa using h4)).trans (h5 k hk)⟩
theorem rdS_tail {w : World} {b off N cap k : Nat} {xs : List ByteArray} (hN : N = xs.length) (hc : N ≤ cap) (hb : b < w.heap.size) (h : ∀ k (h : k < xs.length), w.cell? ⟨b, off + k, none⟩ = some (.string xs[k])) (hk : k ≤ N) :
    RdS w (.slice (if cap = k then some ⟨b, off, none⟩ else some ⟨b, off + k, none⟩) (N - k) (cap - k)) (xs.drop k) := by
  by_cases e : cap = k
  · rw [if_pos e]
    refine ⟨b, off, N - k, cap - k, rfl, by rw [List.length_drop]; omega, by omega, hb, fun j hj => ?_⟩
    rw [List.length_drop] at hj
    omega
  · rw [if_neg e]
    refine ⟨b, off + k, N - k, cap - k, rfl, by rw [List.length_drop]; omega, by omega, hb, fun j hj => ?_⟩
    rw [List.length_drop] at hj
    rw [List.getElem_drop, Nat.add_assoc]
    exact h (k + j) (by omega)
theorem rdS_owns {w : World} {base : Nat} {e : TypeId} {v : Value} {xs : List ByteArray} (h : w.ownsRow base e 1 v xs.length (strsV xs)) (h0 : 0 < xs.length) : RdS w v xs := by
  obtain ⟨a, cap, rfl, hc, hx⟩ := reads_strs (reads_of_owns h)
  rcases hx with rfl | ⟨b, off, rfl, hlt, hx⟩
  · simp at h0
  · exact ⟨b, off, _, cap, rfl, rfl, hc, hlt, hx⟩

def All6 (xs : List ByteArray) : Prop := ∀ (v u : Value) (l : List ByteArray) (w : World), RdS w v xs → RdS w u l → xs.length ≤ 4 → l.length ≤ 1048577 → (∀ y ∈ l, y.size ≤ 1048576 ∧ noMark y) → (∀ x ∈ xs, x.size ≤ 1048576 ∧ signsOf x.data.toList = some (sgnsOf x)) →
  Calls Try.prog 84 #[v, u] w fun e w' => e = .returned (.bool (fullG manyT takesT xs l)) ∧ Below w.heap.size w w'

set_option maxHeartbeats 4000000 in
set_option maxRecDepth 100000 in
theorem all6_nil : All6 [] := by
  intro v u l w hv hu _ hl _ _
  obtain ⟨b, off, N, cap, rfl, hN, hc, hb, _⟩ := hv
  obtain ⟨b2, off2, M, cap2, rfl, hM, hc2, hb2, _⟩ := hu
  have hN0 : N = 0 := hN
  subst hN0
  have HE : Hid (fullG manyT takesT [] l = ((M : Int) == 0)) := by
    show _ = _
    rw [fullG_nil]
    cases l with
    | nil => rw [hM]; rfl
    | cons y t => rw [hM]; simp only [List.isEmpty_cons, List.length_cons]; symm; rw [beq_eq_false_iff_ne]; omega
  clear hM hN
  go_enter Try.func84, Try.ntmps84
  go_wp2_with fail
  go_ret
  exact ⟨by rw [HE.out]; try rfl, Below.refl _ _⟩

set_option maxHeartbeats 8000000 in
set_option maxRecDepth 100000 in
theorem all6_cons (x : ByteArray) (t : List ByteArray) (ih : All6 t) : All6 (x :: t) := by
  intro v u l w hv hu h4 hl hly hxs
  have hv0 := hv
  have hu0 := hu
  obtain ⟨b, off, N, cap, rfl, hN, hc, hb, hcx⟩ := hv
  obtain ⟨b2, off2, M, cap2, rfl, hM, hc2, hb2, hcy⟩ := hu
  have e0 := hcx 0 (by simp)
  rw [Nat.add_zero, List.getElem_cons_zero] at e0
  obtain ⟨hxz, hxg⟩ := hxs x (List.mem_cons_self ..)
  have hNl : N ≤ 4 := by rw [hN]; exact h4
  have hMl : M ≤ 1048577 := by rw [hM]; exact hl
  have hN1 : (1 : Int) ≤ (N : Int) := by rw [hN, List.length_cons]; omega
  have hNn : 0 < N := by rw [hN, List.length_cons]; omega
  have hNe : ((N : Int) == 0) = false := by rw [beq_eq_false_iff_ne]; omega
  obtain ⟨q1, hq1⟩ : ∃ q, (if cap = 1 then some ⟨b, off, none⟩ else some ⟨b, off + 1, none⟩ : Option Addr) = q := ⟨_, rfl⟩
  have HT1 : Hid (∀ w', Below w.heap.size w w' → RdS w' (.slice q1 (N - 1) (cap - 1)) t) := fun w' h => by
    rw [← hq1]
    exact (rdS_tail hN hc hb hcx (by omega)).below h
  have HTL : Hid (∀ k, k ≤ M → ∀ w', Below w.heap.size w w' → RdS w' (.slice (if cap2 = k then some ⟨b2, off2, none⟩ else some ⟨b2, off2 + k, none⟩) (M - k) (cap2 - k)) (l.drop k)) := fun k hk w' h => (rdS_tail hM hc2 hb2 hcy hk).below h
  have HCALL : Hid (∀ k, k ≤ M → ∀ (q : Option Addr), (if cap2 = k then some ⟨b2, off2, none⟩ else some ⟨b2, off2 + k, none⟩ : Option Addr) = q → ∀ w', Below w.heap.size w w' → Calls Try.prog 84 #[.slice q1 (N - 1) (cap - 1), .slice q (M - k) (cap2 - k)] w' fun e w'' => e = .returned (.bool (fullG manyT takesT t (l.drop k))) ∧ Below w'.heap.size w' w'') := fun k hk q hq w' h => by
    subst hq
    exact ih _ _ (l.drop k) w' (HT1.out w' h) (HTL.out k hk w' h) (by simp at h4; omega) (by rw [List.length_drop]; omega) (fun y hy => hly y (List.mem_of_mem_drop hy)) (fun z hz => hxs z (List.mem_cons_of_mem _ hz))
  have HLM : Hid (M = l.length) := hM
  have HLY : Hid (∀ y ∈ l, y.size ≤ 1048576 ∧ noMark y) := hly
  have HCY : Hid (∀ (k : Nat) (h : k < l.length), w.cell? ⟨b2, off2 + k, none⟩ = some (.string l[k])) := hcy
  clear hcx hcy hly hxs hv0 hu0 ih hM hN h4 hl HT1 HTL
  cases hm : (x.toList == [42, 42]) with
  | true =>
    have HE : Hid (fullG manyT takesT (x :: t) l = (List.range (M + 1)).any fun k => fullG manyT takesT t (l.drop k)) := by
      show _ = _
      rw [fullG_many manyT takesT x t l hm, HLM.out]
    go_enter Try.func84, Try.ntmps84
    go_wp2_with fail
    go_loopw [5] (fun vi wr => ∃ k : Nat, k ≤ M + 1 ∧ vi = .int .i64 (k : Int) ∧ Hid (((List.range k).any fun j => fullG manyT takesT t (l.drop j)) = false) ∧ Below w.heap.size w wr) (fun vi _ => M + 1 - (intOf vi).toNat)
    case atStart => exact ⟨0, Nat.zero_le _, rfl, (by show _ = _; simp), Below.refl _ _⟩
    case round =>
      obtain ⟨k, hk, rfl, hh, hbr⟩ := hrel
      by_cases hlt : k ≤ M
      · have hki : (k : Int) ≤ (M : Int) := by omega
        obtain ⟨q2, hq2⟩ : ∃ q, (if cap2 = k then some ⟨b2, off2, none⟩ else some ⟨b2, off2 + k, none⟩ : Option Addr) = q := ⟨_, rfl⟩
        obtain ⟨r, hr⟩ : ∃ r, r = fullG manyT takesT t (l.drop k) := ⟨_, rfl⟩
        have HC' : Hid (∀ w', Below w.heap.size w w' → Calls Try.prog 84 #[.slice q1 (N - 1) (cap - 1), .slice q2 (M - k) (cap2 - k)] w' fun e w'' => e = .returned (.bool r) ∧ Below w'.heap.size w' w'') := fun w' h => by rw [hr]; exact HCALL.out k hlt q2 hq2 w' h
        have HR : Hid (r = fullG manyT takesT t (l.drop k)) := hr
        have hd0 : Below w.heap.size w wr.drew := hbr.drew
        clear hr
        cases r with
        | true =>
          go_wp2_with fail
          refine wp_region_held_drew (S := (fun _ => True)) (by kernel_rfl) ?SR10 (fun hHeld => ?_)
          case SR10 => (first | exact True.intro | done)
          refine wpAnyH_take (i := 0) (oi := _) (v := ?vR10) rfl (by kernel_rfl) (by kernel_rfl) (by kernel_rfl) (fun _ _ _ h => h) (Or.inl ⟨by rfl, ?yR10⟩) hHeld ?_
          case yR10 => (intro w hSw; (try dsimp only at hSw); go_simp <;> with_reducible rfl)
          try simp only [Act.put, List.getElem_toArray, List.getElem_cons_zero, List.getElem_cons_succ, List.setIfInBounds_toArray, List.set_cons_zero, List.set_cons_succ]
          refine wpAnyH_take (i := 1) (oi := _) (v := ?vR11) rfl (by kernel_rfl) (by kernel_rfl) (by kernel_rfl) (fun _ _ _ h => h) (Or.inl ⟨by rfl, ?yR11⟩) hHeld ?_
          case yR11 => (intro w hSw; (try dsimp only at hSw); go_simp <;> with_reducible rfl)
          try simp only [Act.put, List.getElem_toArray, List.getElem_cons_zero, List.getElem_cons_succ, List.setIfInBounds_toArray, List.set_cons_zero, List.set_cons_succ]
          refine wpAnyH_take (i := 2) (oi := _) (v := ?vR12) rfl (by kernel_rfl) (by kernel_rfl) (by kernel_rfl) (fun _ _ _ h => h) (Or.inl ⟨by rfl, ?yR12⟩) hHeld ?_
          case yR12 => (intro w hSw; (try dsimp only at hSw); go_simp <;> with_reducible rfl)
          try simp only [Act.put, List.getElem_toArray, List.getElem_cons_zero, List.getElem_cons_succ, List.setIfInBounds_toArray, List.set_cons_zero, List.set_cons_succ]
          refine wpAnyH_take (i := 3) (oi := _) (v := ?vR13) rfl (by kernel_rfl) (by kernel_rfl) (by kernel_rfl) (fun _ _ _ h => h) (Or.inl ⟨by rfl, ?yR13⟩) hHeld ?_
          case yR13 => (intro w hSw; (try dsimp only at hSw); go_simp <;> with_reducible rfl)
          try simp only [Act.put, List.getElem_toArray, List.getElem_cons_zero, List.getElem_cons_succ, List.setIfInBounds_toArray, List.set_cons_zero, List.set_cons_succ]
          refine wpAnyH_take (i := 4) (oi := _) (v := ?vR14) rfl (by kernel_rfl) (by kernel_rfl) (by kernel_rfl) (fun _ _ _ h => h) (Or.inl ⟨by rfl, ?yR14⟩) hHeld ?_
          case yR14 => (intro w hSw; (try dsimp only at hSw); go_simp <;> with_reducible rfl)
          try simp only [Act.put, List.getElem_toArray, List.getElem_cons_zero, List.getElem_cons_succ, List.setIfInBounds_toArray, List.set_cons_zero, List.set_cons_succ]
          refine wpAnyH_ready (rs := [5]) (by kernel_rfl) (by simp) ?_
          refine AllReadyH.cons rfl (fun K hK => ?_) AllReadyH.nil
          go_simp
          go_wp2_with (go_at_call 84; refine (HC'.out _ hd0).mono ?_; rintro e w2 ⟨rfl, b2'⟩; have hd1 : Below w.heap.size w w2 := hd0.trans (b2'.mono hd0.size))
          clear hHeld
          refine hK.out _ _ ?SR16 (fun hHeld => ?_)
          case SR16 => ((try dsimp only); first | exact True.intro | done)
          clear hK K
          refine wpAnyH_done (by kernel_rfl) ?_ _
          go_wp2_with fail
          go_ret
          exact ⟨by rw [HE.out, any_range_at (Nat.lt_succ_of_le hlt) HR.out.symm]; try rfl, hd1⟩
        | false =>
          go_wp2_with fail
          refine wp_region_held_drew (S := (fun _ => True)) (by kernel_rfl) ?SR20 (fun hHeld => ?_)
          case SR20 => (first | exact True.intro | done)
          refine wpAnyH_take (i := 0) (oi := _) (v := ?vR20) rfl (by kernel_rfl) (by kernel_rfl) (by kernel_rfl) (fun _ _ _ h => h) (Or.inl ⟨by rfl, ?yR20⟩) hHeld ?_
          case yR20 => (intro w hSw; (try dsimp only at hSw); go_simp <;> with_reducible rfl)
          try simp only [Act.put, List.getElem_toArray, List.getElem_cons_zero, List.getElem_cons_succ, List.setIfInBounds_toArray, List.set_cons_zero, List.set_cons_succ]
          refine wpAnyH_take (i := 1) (oi := _) (v := ?vR21) rfl (by kernel_rfl) (by kernel_rfl) (by kernel_rfl) (fun _ _ _ h => h) (Or.inl ⟨by rfl, ?yR21⟩) hHeld ?_
          case yR21 => (intro w hSw; (try dsimp only at hSw); go_simp <;> with_reducible rfl)
          try simp only [Act.put, List.getElem_toArray, List.getElem_cons_zero, List.getElem_cons_succ, List.setIfInBounds_toArray, List.set_cons_zero, List.set_cons_succ]
          refine wpAnyH_take (i := 2) (oi := _) (v := ?vR22) rfl (by kernel_rfl) (by kernel_rfl) (by kernel_rfl) (fun _ _ _ h => h) (Or.inl ⟨by rfl, ?yR22⟩) hHeld ?_
          case yR22 => (intro w hSw; (try dsimp only at hSw); go_simp <;> with_reducible rfl)
          try simp only [Act.put, List.getElem_toArray, List.getElem_cons_zero, List.getElem_cons_succ, List.setIfInBounds_toArray, List.set_cons_zero, List.set_cons_succ]
          refine wpAnyH_take (i := 3) (oi := _) (v := ?vR23) rfl (by kernel_rfl) (by kernel_rfl) (by kernel_rfl) (fun _ _ _ h => h) (Or.inl ⟨by rfl, ?yR23⟩) hHeld ?_
          case yR23 => (intro w hSw; (try dsimp only at hSw); go_simp <;> with_reducible rfl)
          try simp only [Act.put, List.getElem_toArray, List.getElem_cons_zero, List.getElem_cons_succ, List.setIfInBounds_toArray, List.set_cons_zero, List.set_cons_succ]
          refine wpAnyH_take (i := 4) (oi := _) (v := ?vR24) rfl (by kernel_rfl) (by kernel_rfl) (by kernel_rfl) (fun _ _ _ h => h) (Or.inl ⟨by rfl, ?yR24⟩) hHeld ?_
          case yR24 => (intro w hSw; (try dsimp only at hSw); go_simp <;> with_reducible rfl)
          try simp only [Act.put, List.getElem_toArray, List.getElem_cons_zero, List.getElem_cons_succ, List.setIfInBounds_toArray, List.set_cons_zero, List.set_cons_succ]
          refine wpAnyH_ready (rs := [5]) (by kernel_rfl) (by simp) ?_
          refine AllReadyH.cons rfl (fun K hK => ?_) AllReadyH.nil
          go_simp
          go_wp2_with (go_at_call 84; refine (HC'.out _ hd0).mono ?_; rintro e w2 ⟨rfl, b2'⟩; have hd1 : Below w.heap.size w w2 := hd0.trans (b2'.mono hd0.size))
          clear hHeld
          refine hK.out _ _ ?SR26 (fun hHeld => ?_)
          case SR26 => ((try dsimp only); first | exact True.intro | done)
          clear hK K
          refine wpAnyH_done (by kernel_rfl) ?_ _
          go_wp2_with fail
          go_roundw
          case rel => exact ⟨k + 1, by omega, by go_num, any_range_step hh.out HR.out.symm, hd1⟩
          case measure => simp [intOf]; omega
      · have hki : ¬ (k : Int) ≤ (M : Int) := by omega
        have hke : k = M + 1 := by omega
        have HP : Hid (fullG manyT takesT (x :: t) l = false) := by show _ = _; rw [HE.out, ← hke]; exact hh.out
        clear hke
        go_wp2_with fail
        go_ret
        exact ⟨by rw [HP.out]; try rfl, hbr⟩
  | false =>
    have hd0 : Below w.heap.size w w.drew := (Below.refl _ _).drew
    by_cases hM0 : M = 0
    · have hMi : decide ((0 : Int) < (M : Int)) = false := decide_eq_false (by omega)
      have HP : Hid (fullG manyT takesT (x :: t) l = false) := by
        show _ = _
        have : l = [] := List.eq_nil_of_length_eq_zero (by rw [← HLM.out]; exact hM0)
        rw [this, fullG_none manyT takesT x t hm]
      subst hM0
      go_enter Try.func84, Try.ntmps84
      go_wp2_with fail
      refine wp_region_held_drew (S := (fun _ => True)) (by kernel_rfl) ?SR30 (fun hHeld => ?_)
      case SR30 => (first | exact True.intro | done)
      refine wpAnyH_take (i := 0) (oi := _) (v := ?vR30) rfl (by kernel_rfl) (by kernel_rfl) (by kernel_rfl) (fun _ _ _ h => h) (Or.inl ⟨by rfl, ?yR30⟩) hHeld ?_
      case yR30 => (intro w hSw; (try dsimp only at hSw); go_simp <;> with_reducible rfl)
      try simp only [Act.put, List.getElem_toArray, List.getElem_cons_zero, List.getElem_cons_succ, List.setIfInBounds_toArray, List.set_cons_zero, List.set_cons_succ]
      refine wpAnyH_take (i := 1) (oi := _) (v := ?vR31) rfl (by kernel_rfl) (by kernel_rfl) (by kernel_rfl) (fun _ _ _ h => h) (Or.inl ⟨by rfl, ?yR31⟩) hHeld ?_
      case yR31 => (intro w hSw; (try dsimp only at hSw); go_simp <;> with_reducible rfl)
      try simp only [Act.put, List.getElem_toArray, List.getElem_cons_zero, List.getElem_cons_succ, List.setIfInBounds_toArray, List.set_cons_zero, List.set_cons_succ]
      refine wpAnyH_take (i := 2) (oi := _) (v := ?vR32) rfl (by kernel_rfl) (by kernel_rfl) (by kernel_rfl) (fun _ _ _ h => h) (Or.inl ⟨by rfl, ?yR32⟩) hHeld ?_
      case yR32 => (intro w hSw; (try dsimp only at hSw); go_simp <;> with_reducible rfl)
      try simp only [Act.put, List.getElem_toArray, List.getElem_cons_zero, List.getElem_cons_succ, List.setIfInBounds_toArray, List.set_cons_zero, List.set_cons_succ]
      refine wpAnyH_take (i := 3) (oi := _) (v := ?vR33) rfl (by kernel_rfl) (by kernel_rfl) (by kernel_rfl) (fun _ _ _ h => h) (Or.inl ⟨by rfl, ?yR33⟩) hHeld ?_
      case yR33 => (intro w hSw; (try dsimp only at hSw); go_simp <;> with_reducible rfl)
      try simp only [Act.put, List.getElem_toArray, List.getElem_cons_zero, List.getElem_cons_succ, List.setIfInBounds_toArray, List.set_cons_zero, List.set_cons_succ]
      refine wpAnyH_take (i := 4) (oi := _) (v := undef) rfl (by kernel_rfl) (by kernel_rfl) (by kernel_rfl) (fun _ _ _ h => h) (Or.inr ⟨by rfl, rfl⟩) hHeld ?_
      try simp only [Act.put, List.getElem_toArray, List.getElem_cons_zero, List.getElem_cons_succ, List.setIfInBounds_toArray, List.set_cons_zero, List.set_cons_succ]
      refine wpAnyH_take (i := 5) (oi := _) (v := undef) rfl (by kernel_rfl) (by kernel_rfl) (by kernel_rfl) (fun _ _ _ h => h) (Or.inr ⟨by rfl, rfl⟩) hHeld ?_
      try simp only [Act.put, List.getElem_toArray, List.getElem_cons_zero, List.getElem_cons_succ, List.setIfInBounds_toArray, List.set_cons_zero, List.set_cons_succ]
      refine wpAnyH_take (i := 6) (oi := _) (v := undef) rfl (by kernel_rfl) (by kernel_rfl) (by kernel_rfl) (fun _ _ _ h => h) (Or.inr ⟨by rfl, rfl⟩) hHeld ?_
      try simp only [Act.put, List.getElem_toArray, List.getElem_cons_zero, List.getElem_cons_succ, List.setIfInBounds_toArray, List.set_cons_zero, List.set_cons_succ]
      refine wpAnyH_take (i := 7) (oi := _) (v := undef) rfl (by kernel_rfl) (by kernel_rfl) (by kernel_rfl) (fun _ _ _ h => h) (Or.inr ⟨by rfl, rfl⟩) hHeld ?_
      try simp only [Act.put, List.getElem_toArray, List.getElem_cons_zero, List.getElem_cons_succ, List.setIfInBounds_toArray, List.set_cons_zero, List.set_cons_succ]
      refine wpAnyH_take (i := 8) (oi := _) (v := undef) rfl (by kernel_rfl) (by kernel_rfl) (by kernel_rfl) (fun _ _ _ h => h) (Or.inr ⟨by rfl, rfl⟩) hHeld ?_
      try simp only [Act.put, List.getElem_toArray, List.getElem_cons_zero, List.getElem_cons_succ, List.setIfInBounds_toArray, List.set_cons_zero, List.set_cons_succ]
      refine wpAnyH_take (i := 9) (oi := _) (v := undef) rfl (by kernel_rfl) (by kernel_rfl) (by kernel_rfl) (fun _ _ _ h => h) (Or.inr ⟨by rfl, rfl⟩) hHeld ?_
      try simp only [Act.put, List.getElem_toArray, List.getElem_cons_zero, List.getElem_cons_succ, List.setIfInBounds_toArray, List.set_cons_zero, List.set_cons_succ]
      refine wpAnyH_take (i := 10) (oi := _) (v := undef) rfl (by kernel_rfl) (by kernel_rfl) (by kernel_rfl) (fun _ _ _ h => h) (Or.inr ⟨by rfl, rfl⟩) hHeld ?_
      try simp only [Act.put, List.getElem_toArray, List.getElem_cons_zero, List.getElem_cons_succ, List.setIfInBounds_toArray, List.set_cons_zero, List.set_cons_succ]
      refine wpAnyH_take (i := 11) (oi := _) (v := ?vR311) rfl (by kernel_rfl) (by kernel_rfl) (by kernel_rfl) (fun _ _ _ h => h) (Or.inl ⟨by rfl, ?yR311⟩) hHeld ?_
      case yR311 => (intro w hSw; (try dsimp only at hSw); go_simp <;> with_reducible rfl)
      try simp only [Act.put, List.getElem_toArray, List.getElem_cons_zero, List.getElem_cons_succ, List.setIfInBounds_toArray, List.set_cons_zero, List.set_cons_succ]
      refine wpAnyH_take (i := 12) (oi := _) (v := ?vR312) rfl (by kernel_rfl) (by kernel_rfl) (by kernel_rfl) (fun _ _ _ h => h) (Or.inl ⟨by rfl, ?yR312⟩) hHeld ?_
      case yR312 => (intro w hSw; (try dsimp only at hSw); go_simp <;> with_reducible rfl)
      try simp only [Act.put, List.getElem_toArray, List.getElem_cons_zero, List.getElem_cons_succ, List.setIfInBounds_toArray, List.set_cons_zero, List.set_cons_succ]
      refine wpAnyH_take (i := 13) (oi := _) (v := undef) rfl (by kernel_rfl) (by kernel_rfl) (by kernel_rfl) (fun _ _ _ h => h) (Or.inr ⟨by rfl, rfl⟩) hHeld ?_
      try simp only [Act.put, List.getElem_toArray, List.getElem_cons_zero, List.getElem_cons_succ, List.setIfInBounds_toArray, List.set_cons_zero, List.set_cons_succ]
      refine wpAnyH_take (i := 14) (oi := _) (v := undef) rfl (by kernel_rfl) (by kernel_rfl) (by kernel_rfl) (fun _ _ _ h => h) (Or.inr ⟨by rfl, rfl⟩) hHeld ?_
      try simp only [Act.put, List.getElem_toArray, List.getElem_cons_zero, List.getElem_cons_succ, List.setIfInBounds_toArray, List.set_cons_zero, List.set_cons_succ]
      refine wpAnyH_take (i := 15) (oi := _) (v := undef) rfl (by kernel_rfl) (by kernel_rfl) (by kernel_rfl) (fun _ _ _ h => h) (Or.inr ⟨by rfl, rfl⟩) hHeld ?_
      try simp only [Act.put, List.getElem_toArray, List.getElem_cons_zero, List.getElem_cons_succ, List.setIfInBounds_toArray, List.set_cons_zero, List.set_cons_succ]
      refine wpAnyH_take (i := 16) (oi := _) (v := undef) rfl (by kernel_rfl) (by kernel_rfl) (by kernel_rfl) (fun _ _ _ h => h) (Or.inr ⟨by rfl, rfl⟩) hHeld ?_
      try simp only [Act.put, List.getElem_toArray, List.getElem_cons_zero, List.getElem_cons_succ, List.setIfInBounds_toArray, List.set_cons_zero, List.set_cons_succ]
      refine wpAnyH_take (i := 17) (oi := _) (v := undef) rfl (by kernel_rfl) (by kernel_rfl) (by kernel_rfl) (fun _ _ _ h => h) (Or.inr ⟨by rfl, rfl⟩) hHeld ?_
      try simp only [Act.put, List.getElem_toArray, List.getElem_cons_zero, List.getElem_cons_succ, List.setIfInBounds_toArray, List.set_cons_zero, List.set_cons_succ]
      refine wpAnyH_take (i := 18) (oi := _) (v := ?vR318) rfl (by kernel_rfl) (by kernel_rfl) (by kernel_rfl) (fun _ _ _ h => h) (Or.inl ⟨by rfl, ?yR318⟩) hHeld ?_
      case yR318 => (intro w hSw; (try dsimp only at hSw); go_simp <;> with_reducible rfl)
      try simp only [Act.put, List.getElem_toArray, List.getElem_cons_zero, List.getElem_cons_succ, List.setIfInBounds_toArray, List.set_cons_zero, List.set_cons_succ]
      refine wpAnyH_take (i := 19) (oi := _) (v := ?vR319) rfl (by kernel_rfl) (by kernel_rfl) (by kernel_rfl) (fun _ _ _ h => h) (Or.inl ⟨by rfl, ?yR319⟩) hHeld ?_
      case yR319 => (intro w hSw; (try dsimp only at hSw); go_simp <;> with_reducible rfl)
      try simp only [Act.put, List.getElem_toArray, List.getElem_cons_zero, List.getElem_cons_succ, List.setIfInBounds_toArray, List.set_cons_zero, List.set_cons_succ]
      refine wpAnyH_done (by kernel_rfl) ?_ _
      go_wp2_with fail
      go_ret
      exact ⟨by rw [HP.out]; try rfl, hd0⟩
    · have hl0 : 0 < l.length := by rw [← HLM.out]; omega
      have hM1 : (1 : Int) ≤ (M : Int) := by omega
      have hM2 : (0 : Int) < (M : Int) := by omega
      have hMi : decide ((0 : Int) < (M : Int)) = true := decide_eq_true (by omega)
      have hMn : 0 < M := by omega
      have f0 := HCY.out 0 hl0
      rw [Nat.add_zero] at f0
      obtain ⟨hy1, hy2⟩ := HLY.out _ (List.getElem_mem hl0)
      obtain ⟨y, hye⟩ : ∃ y, y = l[0] := ⟨_, rfl⟩
      rw [← hye] at f0 hy1 hy2
      obtain ⟨r, hr⟩ : ∃ r, r = takesT x y := ⟨_, rfl⟩
      have HN : Hid (∀ w', Calls Try.prog 113 #[.string x, .string y] w' fun e w'' => e = .returned (.bool r) ∧ Below w'.heap.size w' w'') := fun w' => by
        rw [hr]
        exact name6_all x.size x (Nat.le_refl _) hxz y _ w' hxg hy1 hy2
      have HE : Hid (fullG manyT takesT (x :: t) l = (r && fullG manyT takesT t (l.drop 1))) := by
        show _ = _
        rw [show l = l[0] :: l.drop 1 from by
          have := List.drop_eq_getElem_cons hl0
          rw [List.drop_zero, Nat.zero_add] at this
          exact this]
        rw [fullG_one manyT takesT x t _ _ hm, ← hye, hr]
        rfl
      obtain ⟨q2, hq2⟩ : ∃ q, (if cap2 = 1 then some ⟨b2, off2, none⟩ else some ⟨b2, off2 + 1, none⟩ : Option Addr) = q := ⟨_, rfl⟩
      have HC' : Hid (∀ w', Below w.heap.size w w' → Calls Try.prog 84 #[.slice q1 (N - 1) (cap - 1), .slice q2 (M - 1) (cap2 - 1)] w' fun e w'' => e = .returned (.bool (fullG manyT takesT t (l.drop 1))) ∧ Below w'.heap.size w' w'') := HCALL.out 1 (by omega) q2 hq2
      have KEEP : Hid (∀ w', Below w.heap.size w w' → w'.cell? ⟨b, off, none⟩ = some (.string x) ∧ w'.cell? ⟨b2, off2, none⟩ = some (.string y)) := fun w' h => ⟨(h.cell (by simpa using hb)).trans e0, (h.cell (by simpa using hb2)).trans f0⟩
      clear hr hye hy1 hy2 hM0
      cases r with
      | true =>
        go_enter Try.func84, Try.ntmps84
        go_wp2_with fail
        refine wp_region_held_drew (S := (fun w' => w'.cell? ⟨b, off, none⟩ = some (.string x) ∧ w'.cell? ⟨b2, off2, none⟩ = some (.string y))) (by kernel_rfl) ?SR40 (fun hHeld => ?_)
        case SR40 => (first | (with_reducible exact KEEP.out _ hd0) | (with_reducible exact KEEP.out _ hdn) | (with_reducible exact KEEP.out _ hd1))
        refine wpAnyH_take (i := 0) (oi := _) (v := ?vR40) rfl (by kernel_rfl) (by kernel_rfl) (by kernel_rfl) (fun _ _ _ h => h) (Or.inl ⟨by rfl, ?yR40⟩) hHeld ?_
        case yR40 => (intro w hSw; (try dsimp only at hSw); go_simp <;> with_reducible rfl)
        try simp only [Act.put, List.getElem_toArray, List.getElem_cons_zero, List.getElem_cons_succ, List.setIfInBounds_toArray, List.set_cons_zero, List.set_cons_succ]
        refine wpAnyH_take (i := 1) (oi := _) (v := ?vR41) rfl (by kernel_rfl) (by kernel_rfl) (by kernel_rfl) (fun _ _ _ h => h) (Or.inl ⟨by rfl, ?yR41⟩) hHeld ?_
        case yR41 => (intro w hSw; (try dsimp only at hSw); go_simp <;> with_reducible rfl)
        try simp only [Act.put, List.getElem_toArray, List.getElem_cons_zero, List.getElem_cons_succ, List.setIfInBounds_toArray, List.set_cons_zero, List.set_cons_succ]
        refine wpAnyH_take (i := 2) (oi := _) (v := ?vR42) rfl (by kernel_rfl) (by kernel_rfl) (by kernel_rfl) (fun _ _ _ h => h) (Or.inl ⟨by rfl, ?yR42⟩) hHeld ?_
        case yR42 => (intro w hSw; (try dsimp only at hSw); go_simp <;> with_reducible rfl)
        try simp only [Act.put, List.getElem_toArray, List.getElem_cons_zero, List.getElem_cons_succ, List.setIfInBounds_toArray, List.set_cons_zero, List.set_cons_succ]
        refine wpAnyH_take (i := 3) (oi := _) (v := ?vR43) rfl (by kernel_rfl) (by kernel_rfl) (by kernel_rfl) (fun _ _ _ h => h) (Or.inl ⟨by rfl, ?yR43⟩) hHeld ?_
        case yR43 => (intro w hSw; (try dsimp only at hSw); go_simp <;> with_reducible rfl)
        try simp only [Act.put, List.getElem_toArray, List.getElem_cons_zero, List.getElem_cons_succ, List.setIfInBounds_toArray, List.set_cons_zero, List.set_cons_succ]
        refine wpAnyH_take (i := 4) (oi := _) (v := ?vR44) rfl (by kernel_rfl) (by kernel_rfl) (by kernel_rfl) (fun _ _ _ h => h) (Or.inl ⟨by rfl, ?yR44⟩) hHeld ?_
        case yR44 => (intro w hSw; (try dsimp only at hSw); go_simp <;> with_reducible rfl)
        try simp only [Act.put, List.getElem_toArray, List.getElem_cons_zero, List.getElem_cons_succ, List.setIfInBounds_toArray, List.set_cons_zero, List.set_cons_succ]
        refine wpAnyH_take (i := 5) (oi := _) (v := ?vR45) rfl (by kernel_rfl) (by kernel_rfl) (by kernel_rfl) (fun _ _ _ h => h) (Or.inl ⟨by rfl, ?yR45⟩) hHeld ?_
        case yR45 => (intro w hSw; (try dsimp only at hSw); go_simp <;> with_reducible rfl)
        try simp only [Act.put, List.getElem_toArray, List.getElem_cons_zero, List.getElem_cons_succ, List.setIfInBounds_toArray, List.set_cons_zero, List.set_cons_succ]
        refine wpAnyH_take (i := 6) (oi := _) (v := ?vR46) rfl (by kernel_rfl) (by kernel_rfl) (by kernel_rfl) (fun _ _ _ h => h) (Or.inl ⟨by rfl, ?yR46⟩) hHeld ?_
        case yR46 => (intro w hSw; (try dsimp only at hSw); go_simp <;> with_reducible rfl)
        try simp only [Act.put, List.getElem_toArray, List.getElem_cons_zero, List.getElem_cons_succ, List.setIfInBounds_toArray, List.set_cons_zero, List.set_cons_succ]
        refine wpAnyH_take (i := 7) (oi := _) (v := ?vR47) rfl (by kernel_rfl) (by kernel_rfl) (by kernel_rfl) (fun _ _ _ h => h) (Or.inl ⟨by rfl, ?yR47⟩) hHeld ?_
        case yR47 => (intro w hSw; (try dsimp only at hSw); go_simp <;> with_reducible rfl)
        try simp only [Act.put, List.getElem_toArray, List.getElem_cons_zero, List.getElem_cons_succ, List.setIfInBounds_toArray, List.set_cons_zero, List.set_cons_succ]
        refine wpAnyH_take (i := 8) (oi := _) (v := ?vR48) rfl (by kernel_rfl) (by kernel_rfl) (by kernel_rfl) (fun _ _ _ h => h) (Or.inl ⟨by rfl, ?yR48⟩) hHeld ?_
        case yR48 => (intro w hSw; (try dsimp only at hSw); go_simp <;> with_reducible rfl)
        try simp only [Act.put, List.getElem_toArray, List.getElem_cons_zero, List.getElem_cons_succ, List.setIfInBounds_toArray, List.set_cons_zero, List.set_cons_succ]
        refine wpAnyH_take (i := 9) (oi := _) (v := ?vR49) rfl (by kernel_rfl) (by kernel_rfl) (by kernel_rfl) (fun _ _ _ h => h) (Or.inl ⟨by rfl, ?yR49⟩) hHeld ?_
        case yR49 => (intro w hSw; (try dsimp only at hSw); go_simp <;> with_reducible rfl)
        try simp only [Act.put, List.getElem_toArray, List.getElem_cons_zero, List.getElem_cons_succ, List.setIfInBounds_toArray, List.set_cons_zero, List.set_cons_succ]
        refine wpAnyH_ready (rs := [10]) (by kernel_rfl) (by simp) ?_
        refine AllReadyH.cons rfl (fun K hK => ?_) AllReadyH.nil
        go_simp
        go_wp2_with (go_at_call 113; refine (HN.out _).mono ?_; rintro e w1 ⟨rfl, b1'⟩; have hdn : Below w.heap.size w w1 := hd0.trans (b1'.mono hd0.size))
        clear hHeld
        refine hK.out _ _ ?SR411 (fun hHeld => ?_)
        case SR411 => ((try dsimp only); first | (with_reducible exact KEEP.out _ hd0) | (with_reducible exact KEEP.out _ hdn) | (with_reducible exact KEEP.out _ hd1))
        clear hK K
        refine wpAnyH_take (i := 11) (oi := _) (v := ?vR411) rfl (by kernel_rfl) (by kernel_rfl) (by kernel_rfl) (fun _ _ _ h => h) (Or.inl ⟨by rfl, ?yR411⟩) hHeld ?_
        case yR411 => (intro w hSw; (try dsimp only at hSw); go_simp <;> with_reducible rfl)
        try simp only [Act.put, List.getElem_toArray, List.getElem_cons_zero, List.getElem_cons_succ, List.setIfInBounds_toArray, List.set_cons_zero, List.set_cons_succ]
        refine wpAnyH_take (i := 12) (oi := _) (v := ?vR412) rfl (by kernel_rfl) (by kernel_rfl) (by kernel_rfl) (fun _ _ _ h => h) (Or.inl ⟨by rfl, ?yR412⟩) hHeld ?_
        case yR412 => (intro w hSw; (try dsimp only at hSw); go_simp <;> with_reducible rfl)
        try simp only [Act.put, List.getElem_toArray, List.getElem_cons_zero, List.getElem_cons_succ, List.setIfInBounds_toArray, List.set_cons_zero, List.set_cons_succ]
        refine wpAnyH_take (i := 13) (oi := _) (v := ?vR413) rfl (by kernel_rfl) (by kernel_rfl) (by kernel_rfl) (fun _ _ _ h => h) (Or.inl ⟨by rfl, ?yR413⟩) hHeld ?_
        case yR413 => (intro w hSw; (try dsimp only at hSw); go_simp <;> with_reducible rfl)
        try simp only [Act.put, List.getElem_toArray, List.getElem_cons_zero, List.getElem_cons_succ, List.setIfInBounds_toArray, List.set_cons_zero, List.set_cons_succ]
        refine wpAnyH_take (i := 14) (oi := _) (v := ?vR414) rfl (by kernel_rfl) (by kernel_rfl) (by kernel_rfl) (fun _ _ _ h => h) (Or.inl ⟨by rfl, ?yR414⟩) hHeld ?_
        case yR414 => (intro w hSw; (try dsimp only at hSw); go_simp <;> with_reducible rfl)
        try simp only [Act.put, List.getElem_toArray, List.getElem_cons_zero, List.getElem_cons_succ, List.setIfInBounds_toArray, List.set_cons_zero, List.set_cons_succ]
        refine wpAnyH_take (i := 15) (oi := _) (v := ?vR415) rfl (by kernel_rfl) (by kernel_rfl) (by kernel_rfl) (fun _ _ _ h => h) (Or.inl ⟨by rfl, ?yR415⟩) hHeld ?_
        case yR415 => (intro w hSw; (try dsimp only at hSw); go_simp <;> with_reducible rfl)
        try simp only [Act.put, List.getElem_toArray, List.getElem_cons_zero, List.getElem_cons_succ, List.setIfInBounds_toArray, List.set_cons_zero, List.set_cons_succ]
        refine wpAnyH_take (i := 16) (oi := _) (v := ?vR416) rfl (by kernel_rfl) (by kernel_rfl) (by kernel_rfl) (fun _ _ _ h => h) (Or.inl ⟨by rfl, ?yR416⟩) hHeld ?_
        case yR416 => (intro w hSw; (try dsimp only at hSw); go_simp <;> with_reducible rfl)
        try simp only [Act.put, List.getElem_toArray, List.getElem_cons_zero, List.getElem_cons_succ, List.setIfInBounds_toArray, List.set_cons_zero, List.set_cons_succ]
        refine wpAnyH_ready (rs := [17]) (by kernel_rfl) (by simp) ?_
        refine AllReadyH.cons rfl (fun K hK => ?_) AllReadyH.nil
        go_simp
        go_wp2_with (go_at_call 84; refine (HC'.out _ hdn).mono ?_; rintro e w2 ⟨rfl, b2'⟩; have hd1 : Below w.heap.size w w2 := hdn.trans (b2'.mono hdn.size))
        clear hHeld
        refine hK.out _ _ ?SR418 (fun hHeld => ?_)
        case SR418 => ((try dsimp only); first | (with_reducible exact KEEP.out _ hd0) | (with_reducible exact KEEP.out _ hdn) | (with_reducible exact KEEP.out _ hd1))
        clear hK K
        refine wpAnyH_take (i := 18) (oi := _) (v := ?vR418) rfl (by kernel_rfl) (by kernel_rfl) (by kernel_rfl) (fun _ _ _ h => h) (Or.inl ⟨by rfl, ?yR418⟩) hHeld ?_
        case yR418 => (intro w hSw; (try dsimp only at hSw); go_simp <;> with_reducible rfl)
        try simp only [Act.put, List.getElem_toArray, List.getElem_cons_zero, List.getElem_cons_succ, List.setIfInBounds_toArray, List.set_cons_zero, List.set_cons_succ]
        refine wpAnyH_take (i := 19) (oi := _) (v := ?vR419) rfl (by kernel_rfl) (by kernel_rfl) (by kernel_rfl) (fun _ _ _ h => h) (Or.inl ⟨by rfl, ?yR419⟩) hHeld ?_
        case yR419 => (intro w hSw; (try dsimp only at hSw); go_simp <;> with_reducible rfl)
        try simp only [Act.put, List.getElem_toArray, List.getElem_cons_zero, List.getElem_cons_succ, List.setIfInBounds_toArray, List.set_cons_zero, List.set_cons_succ]
        refine wpAnyH_done (by kernel_rfl) ?_ _
        go_wp2_with fail
        go_ret
        exact ⟨by rw [HE.out, List.drop_one]; rfl, hd1⟩
      | false =>
        go_enter Try.func84, Try.ntmps84
        go_wp2_with fail
        refine wp_region_held_drew (S := (fun w' => w'.cell? ⟨b, off, none⟩ = some (.string x) ∧ w'.cell? ⟨b2, off2, none⟩ = some (.string y))) (by kernel_rfl) ?SR50 (fun hHeld => ?_)
        case SR50 => (first | (with_reducible exact KEEP.out _ hd0) | (with_reducible exact KEEP.out _ hdn) | (with_reducible exact KEEP.out _ hd1))
        refine wpAnyH_take (i := 0) (oi := _) (v := ?vR50) rfl (by kernel_rfl) (by kernel_rfl) (by kernel_rfl) (fun _ _ _ h => h) (Or.inl ⟨by rfl, ?yR50⟩) hHeld ?_
        case yR50 => (intro w hSw; (try dsimp only at hSw); go_simp <;> with_reducible rfl)
        try simp only [Act.put, List.getElem_toArray, List.getElem_cons_zero, List.getElem_cons_succ, List.setIfInBounds_toArray, List.set_cons_zero, List.set_cons_succ]
        refine wpAnyH_take (i := 1) (oi := _) (v := ?vR51) rfl (by kernel_rfl) (by kernel_rfl) (by kernel_rfl) (fun _ _ _ h => h) (Or.inl ⟨by rfl, ?yR51⟩) hHeld ?_
        case yR51 => (intro w hSw; (try dsimp only at hSw); go_simp <;> with_reducible rfl)
        try simp only [Act.put, List.getElem_toArray, List.getElem_cons_zero, List.getElem_cons_succ, List.setIfInBounds_toArray, List.set_cons_zero, List.set_cons_succ]
        refine wpAnyH_take (i := 2) (oi := _) (v := ?vR52) rfl (by kernel_rfl) (by kernel_rfl) (by kernel_rfl) (fun _ _ _ h => h) (Or.inl ⟨by rfl, ?yR52⟩) hHeld ?_
        case yR52 => (intro w hSw; (try dsimp only at hSw); go_simp <;> with_reducible rfl)
        try simp only [Act.put, List.getElem_toArray, List.getElem_cons_zero, List.getElem_cons_succ, List.setIfInBounds_toArray, List.set_cons_zero, List.set_cons_succ]
        refine wpAnyH_take (i := 3) (oi := _) (v := ?vR53) rfl (by kernel_rfl) (by kernel_rfl) (by kernel_rfl) (fun _ _ _ h => h) (Or.inl ⟨by rfl, ?yR53⟩) hHeld ?_
        case yR53 => (intro w hSw; (try dsimp only at hSw); go_simp <;> with_reducible rfl)
        try simp only [Act.put, List.getElem_toArray, List.getElem_cons_zero, List.getElem_cons_succ, List.setIfInBounds_toArray, List.set_cons_zero, List.set_cons_succ]
        refine wpAnyH_take (i := 4) (oi := _) (v := ?vR54) rfl (by kernel_rfl) (by kernel_rfl) (by kernel_rfl) (fun _ _ _ h => h) (Or.inl ⟨by rfl, ?yR54⟩) hHeld ?_
        case yR54 => (intro w hSw; (try dsimp only at hSw); go_simp <;> with_reducible rfl)
        try simp only [Act.put, List.getElem_toArray, List.getElem_cons_zero, List.getElem_cons_succ, List.setIfInBounds_toArray, List.set_cons_zero, List.set_cons_succ]
        refine wpAnyH_take (i := 5) (oi := _) (v := ?vR55) rfl (by kernel_rfl) (by kernel_rfl) (by kernel_rfl) (fun _ _ _ h => h) (Or.inl ⟨by rfl, ?yR55⟩) hHeld ?_
        case yR55 => (intro w hSw; (try dsimp only at hSw); go_simp <;> with_reducible rfl)
        try simp only [Act.put, List.getElem_toArray, List.getElem_cons_zero, List.getElem_cons_succ, List.setIfInBounds_toArray, List.set_cons_zero, List.set_cons_succ]
        refine wpAnyH_take (i := 6) (oi := _) (v := ?vR56) rfl (by kernel_rfl) (by kernel_rfl) (by kernel_rfl) (fun _ _ _ h => h) (Or.inl ⟨by rfl, ?yR56⟩) hHeld ?_
        case yR56 => (intro w hSw; (try dsimp only at hSw); go_simp <;> with_reducible rfl)
        try simp only [Act.put, List.getElem_toArray, List.getElem_cons_zero, List.getElem_cons_succ, List.setIfInBounds_toArray, List.set_cons_zero, List.set_cons_succ]
        refine wpAnyH_take (i := 7) (oi := _) (v := ?vR57) rfl (by kernel_rfl) (by kernel_rfl) (by kernel_rfl) (fun _ _ _ h => h) (Or.inl ⟨by rfl, ?yR57⟩) hHeld ?_
        case yR57 => (intro w hSw; (try dsimp only at hSw); go_simp <;> with_reducible rfl)
        try simp only [Act.put, List.getElem_toArray, List.getElem_cons_zero, List.getElem_cons_succ, List.setIfInBounds_toArray, List.set_cons_zero, List.set_cons_succ]
        refine wpAnyH_take (i := 8) (oi := _) (v := ?vR58) rfl (by kernel_rfl) (by kernel_rfl) (by kernel_rfl) (fun _ _ _ h => h) (Or.inl ⟨by rfl, ?yR58⟩) hHeld ?_
        case yR58 => (intro w hSw; (try dsimp only at hSw); go_simp <;> with_reducible rfl)
        try simp only [Act.put, List.getElem_toArray, List.getElem_cons_zero, List.getElem_cons_succ, List.setIfInBounds_toArray, List.set_cons_zero, List.set_cons_succ]
        refine wpAnyH_take (i := 9) (oi := _) (v := ?vR59) rfl (by kernel_rfl) (by kernel_rfl) (by kernel_rfl) (fun _ _ _ h => h) (Or.inl ⟨by rfl, ?yR59⟩) hHeld ?_
        case yR59 => (intro w hSw; (try dsimp only at hSw); go_simp <;> with_reducible rfl)
        try simp only [Act.put, List.getElem_toArray, List.getElem_cons_zero, List.getElem_cons_succ, List.setIfInBounds_toArray, List.set_cons_zero, List.set_cons_succ]
        refine wpAnyH_ready (rs := [10]) (by kernel_rfl) (by simp) ?_
        refine AllReadyH.cons rfl (fun K hK => ?_) AllReadyH.nil
        go_simp
        go_wp2_with (go_at_call 113; refine (HN.out _).mono ?_; rintro e w1 ⟨rfl, b1'⟩; have hdn : Below w.heap.size w w1 := hd0.trans (b1'.mono hd0.size))
        clear hHeld
        refine hK.out _ _ ?SR511 (fun hHeld => ?_)
        case SR511 => ((try dsimp only); first | (with_reducible exact KEEP.out _ hd0) | (with_reducible exact KEEP.out _ hdn) | (with_reducible exact KEEP.out _ hd1))
        clear hK K
        refine wpAnyH_take (i := 11) (oi := _) (v := ?vR511) rfl (by kernel_rfl) (by kernel_rfl) (by kernel_rfl) (fun _ _ _ h => h) (Or.inl ⟨by rfl, ?yR511⟩) hHeld ?_
        case yR511 => (intro w hSw; (try dsimp only at hSw); go_simp <;> with_reducible rfl)
        try simp only [Act.put, List.getElem_toArray, List.getElem_cons_zero, List.getElem_cons_succ, List.setIfInBounds_toArray, List.set_cons_zero, List.set_cons_succ]
        refine wpAnyH_take (i := 12) (oi := _) (v := ?vR512) rfl (by kernel_rfl) (by kernel_rfl) (by kernel_rfl) (fun _ _ _ h => h) (Or.inl ⟨by rfl, ?yR512⟩) hHeld ?_
        case yR512 => (intro w hSw; (try dsimp only at hSw); go_simp <;> with_reducible rfl)
        try simp only [Act.put, List.getElem_toArray, List.getElem_cons_zero, List.getElem_cons_succ, List.setIfInBounds_toArray, List.set_cons_zero, List.set_cons_succ]
        refine wpAnyH_take (i := 13) (oi := _) (v := undef) rfl (by kernel_rfl) (by kernel_rfl) (by kernel_rfl) (fun _ _ _ h => h) (Or.inr ⟨by rfl, rfl⟩) hHeld ?_
        try simp only [Act.put, List.getElem_toArray, List.getElem_cons_zero, List.getElem_cons_succ, List.setIfInBounds_toArray, List.set_cons_zero, List.set_cons_succ]
        refine wpAnyH_take (i := 14) (oi := _) (v := undef) rfl (by kernel_rfl) (by kernel_rfl) (by kernel_rfl) (fun _ _ _ h => h) (Or.inr ⟨by rfl, rfl⟩) hHeld ?_
        try simp only [Act.put, List.getElem_toArray, List.getElem_cons_zero, List.getElem_cons_succ, List.setIfInBounds_toArray, List.set_cons_zero, List.set_cons_succ]
        refine wpAnyH_take (i := 15) (oi := _) (v := undef) rfl (by kernel_rfl) (by kernel_rfl) (by kernel_rfl) (fun _ _ _ h => h) (Or.inr ⟨by rfl, rfl⟩) hHeld ?_
        try simp only [Act.put, List.getElem_toArray, List.getElem_cons_zero, List.getElem_cons_succ, List.setIfInBounds_toArray, List.set_cons_zero, List.set_cons_succ]
        refine wpAnyH_take (i := 16) (oi := _) (v := undef) rfl (by kernel_rfl) (by kernel_rfl) (by kernel_rfl) (fun _ _ _ h => h) (Or.inr ⟨by rfl, rfl⟩) hHeld ?_
        try simp only [Act.put, List.getElem_toArray, List.getElem_cons_zero, List.getElem_cons_succ, List.setIfInBounds_toArray, List.set_cons_zero, List.set_cons_succ]
        refine wpAnyH_take (i := 17) (oi := _) (v := undef) rfl (by kernel_rfl) (by kernel_rfl) (by kernel_rfl) (fun _ _ _ h => h) (Or.inr ⟨by rfl, rfl⟩) hHeld ?_
        try simp only [Act.put, List.getElem_toArray, List.getElem_cons_zero, List.getElem_cons_succ, List.setIfInBounds_toArray, List.set_cons_zero, List.set_cons_succ]
        refine wpAnyH_take (i := 18) (oi := _) (v := ?vR518) rfl (by kernel_rfl) (by kernel_rfl) (by kernel_rfl) (fun _ _ _ h => h) (Or.inl ⟨by rfl, ?yR518⟩) hHeld ?_
        case yR518 => (intro w hSw; (try dsimp only at hSw); go_simp <;> with_reducible rfl)
        try simp only [Act.put, List.getElem_toArray, List.getElem_cons_zero, List.getElem_cons_succ, List.setIfInBounds_toArray, List.set_cons_zero, List.set_cons_succ]
        refine wpAnyH_take (i := 19) (oi := _) (v := ?vR519) rfl (by kernel_rfl) (by kernel_rfl) (by kernel_rfl) (fun _ _ _ h => h) (Or.inl ⟨by rfl, ?yR519⟩) hHeld ?_
        case yR519 => (intro w hSw; (try dsimp only at hSw); go_simp <;> with_reducible rfl)
        try simp only [Act.put, List.getElem_toArray, List.getElem_cons_zero, List.getElem_cons_succ, List.setIfInBounds_toArray, List.set_cons_zero, List.set_cons_succ]
        refine wpAnyH_done (by kernel_rfl) ?_ _
        go_wp2_with fail
        go_ret
        exact ⟨by rw [HE.out]; try rfl, hdn⟩

theorem all6_all : ∀ xs, All6 xs
  | [] => all6_nil
  | x :: t => all6_cons x t (all6_all t)

theorem pieceB_sgns {x : ByteArray} (h : pieceB x = true) : signsOf x.data.toList = some (sgnsOf x) := by
  unfold pieceB at h
  unfold sgnsOf
  cases hs : signsOf x.data.toList with
  | none => rw [hs] at h; cases h
  | some l => rfl
theorem allUpto_mem {p : Nat → Int → Bool} {s : ByteArray} : ∀ {n : Nat}, allUpto p s n = true → n ≤ s.size → ∀ k, k < n → p k ((s.data[k]!).toNat : Int) = true
  | 0, _, _, k, hk => by omega
  | n + 1, h, hn, k, hk => by
    unfold allUpto at h
    rw [Bool.and_eq_true] at h
    by_cases e : k = n
    · subst e; exact h.2
    · exact allUpto_mem h.1 (by omega) k (by omega)
theorem pname_noMark {y : ByteArray} (h : pnameB y = true) : noMark y := fun u hu => by
  unfold pnameB at h
  rw [Bool.and_eq_true] at h
  obtain ⟨k, hk, he⟩ := List.getElem_of_mem hu
  rw [len_list] at hk
  have h2 := allUpto_mem h.1 (Nat.le_refl _) k hk
  rw [byteBang y k hk] at h2
  have h3 : u = y[k] := by rw [← he]; rfl
  rw [h3]
  have := (pathC_not h2).2.2.2
  omega

set_option maxHeartbeats 1000000 in
theorem specMatches_c (g p : ByteArray) (w : World) (hg : g.size ≤ 1048576) (hp : p.size ≤ 1048576) :
    Calls Try.prog 37 #[.string g, .string p] w fun e w' => e = .returned (.bool (matchB g p)) ∧ Below w.heap.size w w' := by
  have HC := specGlob_c g w hg
  have HP : Hid (∀ w, Calls Try.prog 28 #[.string p] w fun e w' => e = .returned (.bool (pathB p)) ∧ Below w.heap.size w w') := fun w => specPath_c p w hp
  have HM : Hid (matchB g p = (globB g && (pathB p && fullG manyT takesT (splitS g 47) (splitS p 47)))) := rfl
  cases h1 : globB g with
  | false =>
    have HE : Hid (matchB g p = false) := by show _ = _; rw [HM.out, h1]; rfl
    go_enter Try.func37, Try.ntmps37
    go_wp2_with (go_at_call 39; refine HC.mono ?_; rintro e w1 ⟨rfl, b1⟩; rw [h1])
    go_ret
    exact ⟨by rw [HE.out]; try rfl, b1⟩
  | true =>
    cases h2 : pathB p with
    | false =>
      have HE : Hid (matchB g p = false) := by show _ = _; rw [HM.out, h1, h2]; rfl
      go_enter Try.func37, Try.ntmps37
      go_wp2_with (first
        | (go_at_call 39; refine HC.mono ?_; rintro e w1 ⟨rfl, b1⟩; rw [h1])
        | (go_at_call 28; refine (HP.out _).mono ?_; rintro e w2 ⟨rfl, b2⟩; rw [h2]))
      go_ret
      exact ⟨by rw [HE.out]; try rfl, b1.trans (b2.mono b1.size)⟩
    | true =>
      have HE : Hid (matchB g p = fullG manyT takesT (splitS g 47) (splitS p 47)) := by show _ = _; rw [HM.out, h1, h2]; rfl
      have hgl : (splitS g 47).length ≤ 4 ∧ ∀ x ∈ splitS g 47, x.size ≤ 1048576 ∧ signsOf x.data.toList = some (sgnsOf x) := by
        unfold globB at h1
        rw [Bool.and_eq_true] at h1
        exact ⟨of_decide_eq_true h1.1, fun x hx => ⟨by have := splitS_piece g 47 x hx; omega, pieceB_sgns (List.all_eq_true.1 h1.2 x hx)⟩⟩
      have hpl : ∀ y ∈ splitS p 47, y.size ≤ 1048576 ∧ noMark y := fun y hy => by
        unfold pathB at h2
        rw [Bool.and_eq_true] at h2
        exact ⟨by have := splitS_piece p 47 y hy; omega, pname_noMark (List.all_eq_true.1 h2.2 y hy)⟩
      have hln : (splitS p 47).length ≤ 1048577 := by have := splitS_len p 47; omega
      have HA : Hid (∀ v u w', RdS w' v (splitS g 47) → RdS w' u (splitS p 47) → Calls Try.prog 84 #[v, u] w' fun e w'' => e = .returned (.bool (fullG manyT takesT (splitS g 47) (splitS p 47))) ∧ Below w'.heap.size w' w'') := fun v u w' h3 h4 => all6_all _ v u _ w' h3 h4 hgl.1 hln hpl hgl.2
      have HSG : Hid (∀ w, Calls Try.prog 74 #[.string g, .int .u8 47] w fun e w' => ∃ v, e = .returned v ∧ RdS w' v (splitS g 47) ∧ Below w.heap.size w w') := fun w => (specSplit_c g 47 w hg).mono fun e w' ⟨v, q1, q2, q3⟩ => ⟨v, q1, rdS_owns q2 (splitS_pos g 47), q3⟩
      have HSP : Hid (∀ w, Calls Try.prog 74 #[.string p, .int .u8 47] w fun e w' => ∃ v, e = .returned v ∧ RdS w' v (splitS p 47) ∧ Below w.heap.size w w') := fun w => (specSplit_c p 47 w hp).mono fun e w' ⟨v, q1, q2, q3⟩ => ⟨v, q1, rdS_owns q2 (splitS_pos p 47), q3⟩
      clear hgl hpl hln
      go_enter Try.func37, Try.ntmps37
      go_wp2_with (first
        | (go_at_call 39; refine HC.mono ?_; rintro e w1 ⟨rfl, b1⟩; rw [h1]; clear HC)
        | (go_at_call 28; refine (HP.out _).mono ?_; rintro e w2 ⟨rfl, b2⟩; rw [h2]; clear HP)
        | (go_at_call 74; have hS := HSG; clear HSG; refine (hS.out _).mono ?_; rintro e w3 ⟨v3, rfl, r3, b3⟩; clear hS)
        | (go_at_call 74; refine (HSP.out _).mono ?_; rintro e w4 ⟨v4, rfl, r4, b4⟩; have r34 := r3.below b4)
        | (go_at_call 84; refine (HA.out v3 v4 w4 r34 r4).mono ?_; rintro e w5 ⟨rfl, b5⟩))
      go_ret
      have k2 := b1.trans (b2.mono b1.size)
      have k3 := k2.trans (b3.mono k2.size)
      have k4 := k3.trans (b4.mono k3.size)
      exact ⟨by rw [HE.out]; try rfl, k4.trans (b5.mono k4.size)⟩
end Go.Proofs.Ytbkmjbjiagkjmaa
