/-
  What the specification's functions that ask whether a piece takes a name, and pieces names, answer: all ways are tried; contracts for the walks; conditions: texts of at most 2 to the 20 bytes, no byte of a name is an exclamation mark.
-/
import Derived.Test.YtbkmjbjiagkjmaaGlF
import Derived.Deep.RegionHeld
namespace Go.Proofs.Ytbkmjbjiagkjmaa
open Go.RowKit
set_option linter.unusedSimpArgs false
set_option linter.unusedVariables false

def takes6 (x : ByteArray) (c : Int) : Bool := (x.data.toList.any fun u => (u.toNat : Int) == c) != headIs 33 x.data.toList

theorem any_take_step {x : ByteArray} {c : Int} {k : Nat} (hk : k < x.size) (h : ((x.data.toList.take k).any fun u => (u.toNat : Int) == c) = false) (hc : (((x[k]).toNat : Int) == c) = false) : ((x.data.toList.take (k + 1)).any fun u => (u.toNat : Int) == c) = false := by
  rw [List.take_succ_eq_append_getElem (by rw [len_list]; exact hk), List.any_append, h]
  simp only [List.any_cons, List.any_nil, Bool.or_false, Bool.false_or]
  exact hc
theorem any_at {x : ByteArray} {c : Int} {k : Nat} (hk : k < x.size) (hc : (((x[k]).toNat : Int) == c) = true) : (x.data.toList.any fun u => (u.toNat : Int) == c) = true := by
  rw [List.any_eq_true]
  exact ⟨x[k], List.mem_of_getElem? (list_at x k hk), hc⟩

set_option maxHeartbeats 1000000 in
theorem take6_c (x : ByteArray) (c : Int) (h33 : c ≠ 33) (hx : x.size ≤ 1048576) (w : World) :
    Calls Try.prog 125 #[.string x, .int .u8 c] w fun e w' => e = .returned (.bool (takes6 x c)) ∧ w = w' := by
  have hc33 : (c != 33) = true := by simpa using h33
  clear h33
  by_cases h0 : 0 < x.size
  · have h0i : (0 : Int) < (x.size : Int) := by omega
    cases hb0 : ((x[0]).toNat == 33) with
    | true =>
      have hbi : (((x[0]).toNat : Int) == 33) = true := by simp at hb0 ⊢; omega
      have HM : Hid (headIs 33 x.data.toList = true) := by show _ = _; have := headIs_at x 33 0 h0; rw [List.drop_zero] at this; rw [this, hb0]
      clear hb0
      go_enter Try.func125, Try.ntmps125
      go_wp2
      go_loop [6] (fun vi => ∃ k : Nat, k ≤ x.size ∧ vi = .int .i64 (k : Int) ∧ Hid (((x.data.toList.take k).any fun u => (u.toNat : Int) == c) = false)) (fun vi => x.size - (intOf vi).toNat)
      case atStart => exact ⟨0, Nat.zero_le _, rfl, (by show _ = _; simp)⟩
      case round =>
        obtain ⟨k, hk, rfl, hh⟩ := hrel
        by_cases hlt : k < x.size
        · have hki : (k : Int) < (x.size : Int) := by omega
          cases hb : (((x[k]).toNat : Int) == c) with
          | true =>
            have HE : Hid (takes6 x c = !true) := by show _ = _; unfold takes6; rw [any_at hlt hb, HM.out]; rfl
            go_wp2
            go_ret
            exact ⟨by rw [HE.out]; try rfl, rfl⟩
          | false =>
            go_wp2
            go_round
            case rel => exact ⟨k + 1, by omega, by go_num, any_take_step hlt hh.out hb⟩
            case measure => simp [intOf]; omega
        · have hki : ¬ (k : Int) < (x.size : Int) := by omega
          have HE : Hid (takes6 x c = true) := by
            have h1 := hh.out
            rw [List.take_of_length_le (by rw [len_list]; omega)] at h1
            show _ = _
            unfold takes6; rw [h1, HM.out]; rfl
          go_wp2
          go_ret
          exact ⟨by rw [HE.out]; try rfl, rfl⟩
    | false =>
      have hbi : (((x[0]).toNat : Int) == 33) = false := by simp at hb0 ⊢; omega
      have HM : Hid (headIs 33 x.data.toList = false) := by show _ = _; have := headIs_at x 33 0 h0; rw [List.drop_zero] at this; rw [this, hb0]
      clear hb0
      go_enter Try.func125, Try.ntmps125
      go_wp2
      go_loop [6] (fun vi => ∃ k : Nat, k ≤ x.size ∧ vi = .int .i64 (k : Int) ∧ Hid (((x.data.toList.take k).any fun u => (u.toNat : Int) == c) = false)) (fun vi => x.size - (intOf vi).toNat)
      case atStart => exact ⟨0, Nat.zero_le _, rfl, (by show _ = _; simp)⟩
      case round =>
        obtain ⟨k, hk, rfl, hh⟩ := hrel
        by_cases hlt : k < x.size
        · have hki : (k : Int) < (x.size : Int) := by omega
          cases hb : (((x[k]).toNat : Int) == c) with
          | true =>
            have HE : Hid (takes6 x c = !false) := by show _ = _; unfold takes6; rw [any_at hlt hb, HM.out]; rfl
            go_wp2
            go_ret
            exact ⟨by rw [HE.out]; try rfl, rfl⟩
          | false =>
            go_wp2
            go_round
            case rel => exact ⟨k + 1, by omega, by go_num, any_take_step hlt hh.out hb⟩
            case measure => simp [intOf]; omega
        · have hki : ¬ (k : Int) < (x.size : Int) := by omega
          have HE : Hid (takes6 x c = false) := by
            have h1 := hh.out
            rw [List.take_of_length_le (by rw [len_list]; omega)] at h1
            show _ = _
            unfold takes6; rw [h1, HM.out]; rfl
          go_wp2
          go_ret
          exact ⟨by rw [HE.out]; try rfl, rfl⟩
  · have h0i : ¬ (0 : Int) < (x.size : Int) := by omega
    have HM : Hid (headIs 33 x.data.toList = false) := by show _ = _; have := headIs_end x 33 0 (by omega); rw [List.drop_zero] at this; exact this
    go_enter Try.func125, Try.ntmps125
    go_wp2
    go_loop [6] (fun vi => ∃ k : Nat, k ≤ x.size ∧ vi = .int .i64 (k : Int) ∧ Hid (((x.data.toList.take k).any fun u => (u.toNat : Int) == c) = false)) (fun vi => x.size - (intOf vi).toNat)
    case atStart => exact ⟨0, Nat.zero_le _, rfl, (by show _ = _; simp)⟩
    case round =>
      obtain ⟨k, hk, rfl, hh⟩ := hrel
      by_cases hlt : k < x.size
      · have hki : (k : Int) < (x.size : Int) := by omega
        cases hb : (((x[k]).toNat : Int) == c) with
        | true =>
          have HE : Hid (takes6 x c = !false) := by show _ = _; unfold takes6; rw [any_at hlt hb, HM.out]; rfl
          go_wp2
          go_ret
          exact ⟨by rw [HE.out]; try rfl, rfl⟩
        | false =>
          go_wp2
          go_round
          case rel => exact ⟨k + 1, by omega, by go_num, any_take_step hlt hh.out hb⟩
          case measure => simp [intOf]; omega
      · have hki : ¬ (k : Int) < (x.size : Int) := by omega
        have HE : Hid (takes6 x c = false) := by
          have h1 := hh.out
          rw [List.take_of_length_le (by rw [len_list]; omega)] at h1
          show _ = _
          unfold takes6; rw [h1, HM.out]; rfl
        go_wp2
        go_ret
        exact ⟨by rw [HE.out]; try rfl, rfl⟩

/-- A set in brackets, the specification's reading of its text against the program's set. -/
theorem runL_first {l : List UInt8} (h : 1 ≤ runL l) : headIs 33 (l.take (runL l)) = false := by
  cases l with
  | nil => rfl
  | cons c t =>
    by_cases hb : setB (c.toNat : Int) = true
    · rw [runL, if_pos hb, List.take_succ_cons]
      show (c.toNat == 33) = false
      rw [beq_eq_false_iff_ne]
      intro e
      rw [e] at hb
      exact absurd hb (by decide)
    · rw [runL, if_neg hb] at h; omega
theorem takes6_set {p : ByteArray} {g : Sgn} {k : Nat} {c : Int} (h33 : c ≠ 33) (h : setL (p.data.toList.drop 1) = some (g, k)) : takes6 (p.extract 1 (k - 1)) c = takesS g c ∧ 2 ≤ k := by
  unfold takes6
  rw [extract_list]
  obtain ⟨t, ht⟩ : ∃ t, t = p.data.toList.drop 1 := ⟨_, rfl⟩
  rw [← ht] at h ⊢
  unfold setL at h
  split at h
  · rename_i hc
    rw [Bool.and_eq_true] at hc
    have hin : 1 ≤ runL (t.drop (headIs 33 t).toNat) := by
      have := hc.2
      simp only [inB, Bool.and_eq_true, decide_eq_true_eq] at this
      omega
    cases h
    refine ⟨?_, by omega⟩
    unfold takesS
    simp only []
    cases hn : headIs 33 t with
    | false =>
      rw [hn] at hin
      simp only [Bool.toNat_false, List.drop_zero] at hin ⊢
      rw [show 1 + 0 + runL t + 1 - 1 - 1 = runL t by omega, runL_first hin]
    | true =>
      rw [hn] at hin
      simp only [Bool.toNat_true] at hin ⊢
      cases t with
      | nil => cases hn
      | cons d t =>
        simp only [List.drop_succ_cons, List.drop_zero] at hin ⊢
        rw [show 1 + 1 + runL t + 1 - 1 - 1 = runL t + 1 by omega, List.take_succ_cons]
        have hd : (d.toNat == 33) = true := hn
        have h2 : ((d.toNat : Int) == c) = false := by
          rw [beq_eq_false_iff_ne]
          rw [beq_iff_eq] at hd
          omega
        show ((d :: t.take (runL t)).any _ != (d.toNat == 33)) = _
        rw [hd, List.any_cons, h2, Bool.false_or]
  · cases h

/-- The rest of a text behind its first k bytes. -/
theorem ints_tail (s : ByteArray) (k : Nat) : intsOf (s.extract k s.size) = (intsOf s).drop k := by
  unfold intsOf; rw [tail_list, List.map_drop]
def noMark (s : ByteArray) : Prop := ∀ u ∈ s.data.toList, (u.toNat : Int) ≠ 33
theorem noMark_tail {s : ByteArray} (h : noMark s) (k : Nat) : noMark (s.extract k s.size) := fun u hu => by
  rw [tail_list] at hu
  exact h u (List.mem_of_mem_drop hu)
theorem ints_cons {s : ByteArray} (h : 0 < s.size) : intsOf s = ((s[0]).toNat : Int) :: intsOf (s.extract 1 s.size) := by
  rw [ints_tail]
  unfold intsOf
  rw [← List.map_drop]
  have := drop_cons s 0 h
  rw [List.drop_zero] at this
  rw [this, List.map_cons]
  simp
theorem ne_nil_pos {p : ByteArray} (h : 0 < p.size) : p.data.toList ≠ [] := fun e => by
  have := congrArg List.length e
  rw [len_list, List.length_nil] at this
  omega
theorem ints_nil {s : ByteArray} (h : s.size = 0) : intsOf s = [] := List.eq_nil_of_length_eq_zero (by rw [intsOf_len]; exact h)
theorem signs_cut {p : ByteArray} {g : Sgn} {k : Nat} {gs : List Sgn} (h : signL p.data.toList = some (g, k)) (hg : signsOf p.data.toList = some gs) : ∃ hs, gs = g :: hs ∧ signsOf (p.extract k p.size).data.toList = some hs := by
  rw [signsOf_some h] at hg
  rw [tail_list]
  cases hh : signsOf (p.data.toList.drop k) with
  | none => rw [hh] at hg; cases hg
  | some hs => rw [hh] at hg; cases hg; exact ⟨hs, rfl, rfl⟩

def Name6 (p : ByteArray) : Prop := ∀ (s : ByteArray) (gs : List Sgn) (w : World), signsOf p.data.toList = some gs → s.size ≤ 1048576 → noMark s →
  Calls Try.prog 113 #[.string p, .string s] w fun e w' => e = .returned (.bool (fullG Sgn.many takesS gs (intsOf s))) ∧ Below w.heap.size w w'

theorem any_range_step {α β : Type} {m : α → Bool} {t : α → β → Bool} {ps : List α} {l : List β} {k : Nat} (h : ((List.range k).any fun j => fullG m t ps (l.drop j)) = false) (hk : fullG m t ps (l.drop k) = false) : ((List.range (k + 1)).any fun j => fullG m t ps (l.drop j)) = false := by
  rw [List.range_succ, List.any_append, h]; simp [hk]
theorem any_range_at {α β : Type} {m : α → Bool} {t : α → β → Bool} {ps : List α} {l : List β} {k n : Nat} (hn : k < n) (hk : fullG m t ps (l.drop k) = true) : ((List.range n).any fun j => fullG m t ps (l.drop j)) = true := by
  rw [List.any_eq_true]; exact ⟨k, List.mem_range.2 hn, hk⟩

set_option maxHeartbeats 4000000 in
set_option maxRecDepth 100000 in
theorem name6_step (p : ByteArray) (hp : p.size ≤ 1048576) (ih : ∀ k, 0 < k → k ≤ p.size → Name6 (p.extract k p.size)) : Name6 p := by
  intro s gs w hgs hs hm
  by_cases h0 : p.size = 0
  · have hpl : (p.toList == []) = true := by
      have : p.toList = [] := List.eq_nil_of_length_eq_zero (by rw [Lib.toList_data, len_list]; exact h0)
      rw [this]; rfl
    have hge : gs = [] := by
      have : p.data.toList = [] := List.eq_nil_of_length_eq_zero (by rw [len_list]; exact h0)
      rw [this, signsOf_nil] at hgs
      cases hgs; rfl
    have HE : Hid (fullG Sgn.many takesS gs (intsOf s) = s.toList.isEmpty) := by
      show _ = _
      rw [hge, fullG_nil, Lib.toList_data]
      unfold intsOf
      cases s.data.toList <;> rfl
    clear hgs hge ih h0
    go_enter Try.func113, Try.ntmps113
    go_wp2_with fail
    go_ret
    exact ⟨by rw [HE.out]; try rfl, Below.refl _ _⟩
  have hp0 : 0 < p.size := by omega
  have hpl : (p.toList == []) = false := by
    rw [beq_eq_false_iff_ne, Lib.toList_data]
    intro e
    have := congrArg List.length e
    rw [len_list] at this
    exact h0 this
  have HD : Hid (p.data.toList.drop 0 = p.data.toList) := List.drop_zero
  have hz1 : (p.extract 1 p.size).size = p.size - 1 := size_tail p 1 (by omega)
  clear h0
  by_cases h42 : (p[0]).toNat = 42
  · have h42' : (((p[0]).toNat : Int) == 42) = true := by simp; omega
    have hsl := signL_star hp0 h42
    rw [HD.out] at hsl
    obtain ⟨hs', rfl, hr⟩ := signs_cut hsl hgs
    have HI : Hid (∀ k, k ≤ s.size → ∀ w, Calls Try.prog 113 #[.string (p.extract 1 p.size), .string (s.extract k s.size)] w fun e w' => e = .returned (.bool (fullG Sgn.many takesS hs' ((intsOf s).drop k))) ∧ Below w.heap.size w w') := fun k hk w => by
      have := ih 1 (by omega) (by omega) (s.extract k s.size) hs' w hr (by rw [size_tail s k hk]; omega) (noMark_tail hm k)
      rw [ints_tail] at this
      exact this
    have HE : Hid (fullG Sgn.many takesS (⟨true, false, []⟩ :: hs') (intsOf s) = (List.range (s.size + 1)).any fun k => fullG Sgn.many takesS hs' ((intsOf s).drop k)) := by
      show _ = _
      rw [fullG_many _ _ _ _ _ rfl, intsOf_len]
    clear hsl hgs hr ih h42 hm
    go_enter Try.func113, Try.ntmps113
    go_wp2_with fail
    go_loopw [5] (fun vi wr => ∃ k : Nat, k ≤ s.size + 1 ∧ vi = .int .i64 (k : Int) ∧ Hid (((List.range k).any fun j => fullG Sgn.many takesS hs' ((intsOf s).drop j)) = false) ∧ Below w.heap.size w wr) (fun vi _ => s.size + 1 - (intOf vi).toNat)
    case atStart => exact ⟨0, Nat.zero_le _, rfl, (by show _ = _; simp), Below.refl _ _⟩
    case round =>
      obtain ⟨k, hk, rfl, hh, hbr⟩ := hrel
      by_cases hlt : k ≤ s.size
      · have hki : (k : Int) ≤ (s.size : Int) := by omega
        have hpi : (1 : Int) ≤ (p.size : Int) := by omega
        have HC := HI.out k hlt
        obtain ⟨r, hr⟩ : ∃ r, r = fullG Sgn.many takesS hs' ((intsOf s).drop k) := ⟨_, rfl⟩
        simp only [← hr] at HC
        have HC' : Hid (∀ w, Calls Try.prog 113 #[.string (p.extract 1 p.size), .string (s.extract k s.size)] w fun e w' => e = .returned (.bool r) ∧ Below w.heap.size w w') := HC
        have HR : Hid (r = fullG Sgn.many takesS hs' ((intsOf s).drop k)) := hr
        have hd0 : Below wr.heap.size wr wr.drew := (Below.refl _ _).drew
        clear hr HC
        cases r with
        | true =>
          go_wp2_with fail
          refine wp_region_held_drew (S := (fun _ => True)) (by kernel_rfl) ?SR10 (fun hHeld => ?_)
          case SR10 => (first | exact True.intro | done)
          refine wpAnyH_take (i := 0) (oi := _) (v := ?vR10) rfl (by kernel_rfl) (by kernel_rfl) (by kernel_rfl) (fun _ _ _ h => h) (Or.inl ⟨by rfl, ?yR10⟩) hHeld ?_
          case yR10 => (intro w hSw; (try dsimp only at hSw); go_simp <;> with_reducible rfl)
          try simp only [Act.put, List.getElem_toArray, List.getElem_cons_zero, List.getElem_cons_succ, List.setIfInBounds_toArray, List.set_cons_zero, List.set_cons_succ]
          refine wpAnyH_take (i := 1) (oi := _) (v := ?vR11) rfl (by kernel_rfl) (by kernel_rfl) (by kernel_rfl) (fun _ _ _ h => h) (Or.inl ⟨by rfl, ?yR11⟩) hHeld ?_
          case yR11 => (intro w hSw; (try dsimp only at hSw); go_simp <;> with_reducible rfl)
          try simp only [Act.put, List.getElem_toArray, List.getElem_cons_zero, List.getElem_cons_succ, List.setIfInBounds_toArray, List.set_cons_zero, List.set_cons_succ]
          refine wpAnyH_take (i := 2) (oi := _) (v := ?vR12) rfl (by kernel_rfl) (by kernel_rfl) (by kernel_rfl) (fun _ _ _ h => h) (Or.inl ⟨by rfl, ?yR12⟩) hHeld ?_
          case yR12 => (intro w hSw; (try dsimp only at hSw); go_simp <;> with_reducible rfl)
          try simp only [Act.put, List.getElem_toArray, List.getElem_cons_zero, List.getElem_cons_succ, List.setIfInBounds_toArray, List.set_cons_zero, List.set_cons_succ]
          refine wpAnyH_take (i := 3) (oi := _) (v := ?vR13) rfl (by kernel_rfl) (by kernel_rfl) (by kernel_rfl) (fun _ _ _ h => h) (Or.inl ⟨by rfl, ?yR13⟩) hHeld ?_
          case yR13 => (intro w hSw; (try dsimp only at hSw); go_simp <;> with_reducible rfl)
          try simp only [Act.put, List.getElem_toArray, List.getElem_cons_zero, List.getElem_cons_succ, List.setIfInBounds_toArray, List.set_cons_zero, List.set_cons_succ]
          refine wpAnyH_take (i := 4) (oi := _) (v := ?vR14) rfl (by kernel_rfl) (by kernel_rfl) (by kernel_rfl) (fun _ _ _ h => h) (Or.inl ⟨by rfl, ?yR14⟩) hHeld ?_
          case yR14 => (intro w hSw; (try dsimp only at hSw); go_simp <;> with_reducible rfl)
          try simp only [Act.put, List.getElem_toArray, List.getElem_cons_zero, List.getElem_cons_succ, List.setIfInBounds_toArray, List.set_cons_zero, List.set_cons_succ]
          refine wpAnyH_ready (rs := [5]) (by kernel_rfl) (by simp) ?_
          refine AllReadyH.cons rfl (fun K hK => ?_) AllReadyH.nil
          go_simp
          go_wp2_with (go_at_call 113; refine (HC'.out _).mono ?_; rintro e w2 ⟨rfl, b2⟩; have hd1 : Below wr.heap.size wr w2 := hd0.trans (b2.mono hd0.size))
          clear hHeld
          refine hK.out _ _ ?SR16 (fun hHeld => ?_)
          case SR16 => ((try dsimp only); first | exact True.intro | done)
          clear hK K
          refine wpAnyH_done (by kernel_rfl) ?_ _
          go_wp2_with fail
          go_ret
          exact ⟨by rw [HE.out, any_range_at (Nat.lt_succ_of_le hlt) HR.out.symm]; try rfl, hbr.trans (hd1.mono hbr.size)⟩
        | false =>
          go_wp2_with fail
          refine wp_region_held_drew (S := (fun _ => True)) (by kernel_rfl) ?SR20 (fun hHeld => ?_)
          case SR20 => (first | exact True.intro | done)
          refine wpAnyH_take (i := 0) (oi := _) (v := ?vR20) rfl (by kernel_rfl) (by kernel_rfl) (by kernel_rfl) (fun _ _ _ h => h) (Or.inl ⟨by rfl, ?yR20⟩) hHeld ?_
          case yR20 => (intro w hSw; (try dsimp only at hSw); go_simp <;> with_reducible rfl)
          try simp only [Act.put, List.getElem_toArray, List.getElem_cons_zero, List.getElem_cons_succ, List.setIfInBounds_toArray, List.set_cons_zero, List.set_cons_succ]
          refine wpAnyH_take (i := 1) (oi := _) (v := ?vR21) rfl (by kernel_rfl) (by kernel_rfl) (by kernel_rfl) (fun _ _ _ h => h) (Or.inl ⟨by rfl, ?yR21⟩) hHeld ?_
          case yR21 => (intro w hSw; (try dsimp only at hSw); go_simp <;> with_reducible rfl)
          try simp only [Act.put, List.getElem_toArray, List.getElem_cons_zero, List.getElem_cons_succ, List.setIfInBounds_toArray, List.set_cons_zero, List.set_cons_succ]
          refine wpAnyH_take (i := 2) (oi := _) (v := ?vR22) rfl (by kernel_rfl) (by kernel_rfl) (by kernel_rfl) (fun _ _ _ h => h) (Or.inl ⟨by rfl, ?yR22⟩) hHeld ?_
          case yR22 => (intro w hSw; (try dsimp only at hSw); go_simp <;> with_reducible rfl)
          try simp only [Act.put, List.getElem_toArray, List.getElem_cons_zero, List.getElem_cons_succ, List.setIfInBounds_toArray, List.set_cons_zero, List.set_cons_succ]
          refine wpAnyH_take (i := 3) (oi := _) (v := ?vR23) rfl (by kernel_rfl) (by kernel_rfl) (by kernel_rfl) (fun _ _ _ h => h) (Or.inl ⟨by rfl, ?yR23⟩) hHeld ?_
          case yR23 => (intro w hSw; (try dsimp only at hSw); go_simp <;> with_reducible rfl)
          try simp only [Act.put, List.getElem_toArray, List.getElem_cons_zero, List.getElem_cons_succ, List.setIfInBounds_toArray, List.set_cons_zero, List.set_cons_succ]
          refine wpAnyH_take (i := 4) (oi := _) (v := ?vR24) rfl (by kernel_rfl) (by kernel_rfl) (by kernel_rfl) (fun _ _ _ h => h) (Or.inl ⟨by rfl, ?yR24⟩) hHeld ?_
          case yR24 => (intro w hSw; (try dsimp only at hSw); go_simp <;> with_reducible rfl)
          try simp only [Act.put, List.getElem_toArray, List.getElem_cons_zero, List.getElem_cons_succ, List.setIfInBounds_toArray, List.set_cons_zero, List.set_cons_succ]
          refine wpAnyH_ready (rs := [5]) (by kernel_rfl) (by simp) ?_
          refine AllReadyH.cons rfl (fun K hK => ?_) AllReadyH.nil
          go_simp
          go_wp2_with (go_at_call 113; refine (HC'.out _).mono ?_; rintro e w2 ⟨rfl, b2⟩; have hd1 : Below wr.heap.size wr w2 := hd0.trans (b2.mono hd0.size))
          clear hHeld
          refine hK.out _ _ ?SR26 (fun hHeld => ?_)
          case SR26 => ((try dsimp only); first | exact True.intro | done)
          clear hK K
          refine wpAnyH_done (by kernel_rfl) ?_ _
          go_wp2_with fail
          go_roundw
          case rel => exact ⟨k + 1, by omega, by go_num, any_range_step hh.out HR.out.symm, hbr.trans (hd1.mono hbr.size)⟩
          case measure => simp [intOf]; omega
      · have hki : ¬ (k : Int) ≤ (s.size : Int) := by omega
        have hke : k = s.size + 1 := by omega
        have HP : Hid (fullG Sgn.many takesS (⟨true, false, []⟩ :: hs') (intsOf s) = false) := by show _ = _; rw [HE.out, ← hke]; exact hh.out
        clear hke
        go_wp2_with fail
        go_ret
        exact ⟨by rw [HP.out]; try rfl, hbr⟩
  have h42' : (((p[0]).toNat : Int) == 42) = false := by simp; omega
  by_cases hs0 : s.size = 0
  · have hsl : (s.toList == []) = true := by
      have : s.toList = [] := List.eq_nil_of_length_eq_zero (by rw [Lib.toList_data, len_list]; exact hs0)
      rw [this]; rfl
    have HP : Hid (fullG Sgn.many takesS gs (intsOf s) = false) := by
      show _ = _
      rw [ints_nil hs0]
      cases hsg : signL p.data.toList with
      | none => rw [signsOf_none (ne_nil_pos hp0) hsg] at hgs; cases hgs
      | some q =>
        obtain ⟨g, k⟩ := q
        obtain ⟨hs', rfl, _⟩ := signs_cut hsg hgs
        refine fullG_none _ _ _ _ ?_
        have h2 := hsg
        have hdc := drop_cons p 0 hp0
        rw [HD.out] at hdc
        rw [hdc, signL_cons] at h2
        rw [if_neg h42] at h2
        split at h2
        · unfold setL at h2
          split at h2
          · cases h2; rfl
          · cases h2
        split at h2
        · cases h2; rfl
        split at h2
        · cases h2; rfl
        · cases h2
    clear hgs ih h42 hs0 hm
    go_enter Try.func113, Try.ntmps113
    go_wp2_with fail
    go_ret
    exact ⟨by rw [HP.out]; try rfl, Below.refl _ _⟩
  have hs1 : 0 < s.size := by omega
  have hsl : (s.toList == []) = false := by
    rw [beq_eq_false_iff_ne, Lib.toList_data]
    intro e
    have := congrArg List.length e
    rw [len_list] at this
    exact hs0 this
  have hsz : (s.extract 1 s.size).size = s.size - 1 := size_tail s 1 (by omega)
  have hpi : (1 : Int) ≤ (p.size : Int) := by omega
  have hsi : (1 : Int) ≤ (s.size : Int) := by omega
  have hc33 : ((s[0]).toNat : Int) ≠ 33 := hm _ (List.mem_of_getElem? (list_at s 0 hs1))
  have HCALL : Hid (∀ k hs', 0 < k → k ≤ p.size → signsOf (p.extract k p.size).data.toList = some hs' → ∀ w, Calls Try.prog 113 #[.string (p.extract k p.size), .string (s.extract 1 s.size)] w fun e w' => e = .returned (.bool (fullG Sgn.many takesS hs' (intsOf (s.extract 1 s.size)))) ∧ Below w.heap.size w w') := fun k hs' h1 h2 h3 w => ih k h1 h2 (s.extract 1 s.size) hs' w h3 (by omega) (noMark_tail hm 1)
  have hic := ints_cons hs1
  have hd0 : Below w.heap.size w w.drew := (Below.refl _ _).drew
  clear ih hs0 hm
  by_cases h63 : (p[0]).toNat = 63
  · have h63' : (((p[0]).toNat : Int) == 63) = true := by simp; omega
    have hsg := signL_any hp0 h63
    rw [HD.out] at hsg
    obtain ⟨hs', rfl, hr⟩ := signs_cut hsg hgs
    have HE : Hid (fullG Sgn.many takesS (⟨false, true, []⟩ :: hs') (intsOf s) = fullG Sgn.many takesS hs' (intsOf (s.extract 1 s.size))) := by
      show _ = _
      rw [hic, fullG_one _ _ _ _ _ _ rfl]; rfl
    have HC' : Hid (∀ w, Calls Try.prog 113 #[.string (p.extract 1 p.size), .string (s.extract 1 s.size)] w fun e w' => e = .returned (.bool (fullG Sgn.many takesS hs' (intsOf (s.extract 1 s.size)))) ∧ Below w.heap.size w w') := HCALL.out 1 hs' (by omega) (by omega) hr
    clear hsg hgs hr h42 h63 HCALL hic
    go_enter Try.func113, Try.ntmps113
    go_wp2_with fail
    refine wp_region_held_drew (S := (fun _ => True)) (by kernel_rfl) ?SR30 (fun hHeld => ?_)
    case SR30 => (first | exact True.intro | done)
    refine wpAnyH_take (i := 0) (oi := _) (v := ?vR30) rfl (by kernel_rfl) (by kernel_rfl) (by kernel_rfl) (fun _ _ _ h => h) (Or.inl ⟨by rfl, ?yR30⟩) hHeld ?_
    case yR30 => (intro w hSw; (try dsimp only at hSw); go_simp <;> with_reducible rfl)
    try simp only [Act.put, List.getElem_toArray, List.getElem_cons_zero, List.getElem_cons_succ, List.setIfInBounds_toArray, List.set_cons_zero, List.set_cons_succ]
    refine wpAnyH_take (i := 1) (oi := _) (v := ?vR31) rfl (by kernel_rfl) (by kernel_rfl) (by kernel_rfl) (fun _ _ _ h => h) (Or.inl ⟨by rfl, ?yR31⟩) hHeld ?_
    case yR31 => (intro w hSw; (try dsimp only at hSw); go_simp <;> with_reducible rfl)
    try simp only [Act.put, List.getElem_toArray, List.getElem_cons_zero, List.getElem_cons_succ, List.setIfInBounds_toArray, List.set_cons_zero, List.set_cons_succ]
    refine wpAnyH_take (i := 2) (oi := _) (v := ?vR32) rfl (by kernel_rfl) (by kernel_rfl) (by kernel_rfl) (fun _ _ _ h => h) (Or.inl ⟨by rfl, ?yR32⟩) hHeld ?_
    case yR32 => (intro w hSw; (try dsimp only at hSw); go_simp <;> with_reducible rfl)
    try simp only [Act.put, List.getElem_toArray, List.getElem_cons_zero, List.getElem_cons_succ, List.setIfInBounds_toArray, List.set_cons_zero, List.set_cons_succ]
    refine wpAnyH_take (i := 3) (oi := _) (v := ?vR33) rfl (by kernel_rfl) (by kernel_rfl) (by kernel_rfl) (fun _ _ _ h => h) (Or.inl ⟨by rfl, ?yR33⟩) hHeld ?_
    case yR33 => (intro w hSw; (try dsimp only at hSw); go_simp <;> with_reducible rfl)
    try simp only [Act.put, List.getElem_toArray, List.getElem_cons_zero, List.getElem_cons_succ, List.setIfInBounds_toArray, List.set_cons_zero, List.set_cons_succ]
    refine wpAnyH_ready (rs := [4]) (by kernel_rfl) (by simp) ?_
    refine AllReadyH.cons rfl (fun K hK => ?_) AllReadyH.nil
    go_simp
    go_wp2_with (go_at_call 113; refine (HC'.out _).mono ?_; rintro e w2 ⟨rfl, b2⟩; have hd1 : Below w.heap.size w w2 := hd0.trans (b2.mono hd0.size))
    clear hHeld
    refine hK.out _ _ ?SR35 (fun hHeld => ?_)
    case SR35 => ((try dsimp only); first | exact True.intro | done)
    clear hK K
    refine wpAnyH_take (i := 5) (oi := _) (v := ?vR35) rfl (by kernel_rfl) (by kernel_rfl) (by kernel_rfl) (fun _ _ _ h => h) (Or.inl ⟨by rfl, ?yR35⟩) hHeld ?_
    case yR35 => (intro w hSw; (try dsimp only at hSw); go_simp <;> with_reducible rfl)
    try simp only [Act.put, List.getElem_toArray, List.getElem_cons_zero, List.getElem_cons_succ, List.setIfInBounds_toArray, List.set_cons_zero, List.set_cons_succ]
    refine wpAnyH_done (by kernel_rfl) ?_ _
    go_wp2_with fail
    go_ret
    exact ⟨by rw [HE.out]; try rfl, hd1⟩
  have h63' : (((p[0]).toNat : Int) == 63) = false := by simp; omega
  by_cases h91 : (p[0]).toNat = 91
  · have h91' : (((p[0]).toNat : Int) == 91) = true := by simp; omega
    have hsg := signL_set hp0 h91
    rw [HD.out, Nat.zero_add] at hsg
    cases hset : setL (p.data.toList.drop 1) with
    | none =>
      rw [hset] at hsg
      rw [signsOf_none (ne_nil_pos hp0) hsg] at hgs
      cases hgs
    | some q =>
      obtain ⟨g, k⟩ := q
      have hgm : g.many = false := by
        have h2 := hset
        unfold setL at h2
        split at h2
        · cases h2; rfl
        · cases h2
      obtain ⟨ht, hk2⟩ := takes6_set hc33 hset
      rw [hset] at hsg
      have hkp : k ≤ p.size := by have := signL_le hsg; rwa [len_list] at this
      obtain ⟨hs', rfl, hr⟩ := signs_cut hsg hgs
      have hcl : classI p 0 = (k : Int) := by
        unfold classI; rw [Nat.zero_add, hset]; simp
      obtain ⟨r, hrr⟩ : ∃ r, r = takesS g ((s[0]).toNat : Int) := ⟨_, rfl⟩
      have hxz : (p.extract 1 (k - 1)).size ≤ 1048576 := by rw [ByteArray.size_extract]; omega
      have HT : Hid (∀ w, Calls Try.prog 125 #[.string (p.extract 1 (k - 1)), .int .u8 ((s[0]).toNat : Int)] w fun e w' => e = .returned (.bool r) ∧ w = w') := fun w => by
        have := take6_c (p.extract 1 (k - 1)) ((s[0]).toNat : Int) hc33 hxz w
        rw [ht, ← hrr] at this
        exact this
      have HE : Hid (fullG Sgn.many takesS (g :: hs') (intsOf s) = (r && fullG Sgn.many takesS hs' (intsOf (s.extract 1 s.size)))) := by
        show _ = _
        rw [hic, fullG_one _ _ _ _ _ _ hgm, hrr]
      have HC' : Hid (∀ w, Calls Try.prog 113 #[.string (p.extract k p.size), .string (s.extract 1 s.size)] w fun e w' => e = .returned (.bool (fullG Sgn.many takesS hs' (intsOf (s.extract 1 s.size)))) ∧ Below w.heap.size w w') := HCALL.out k hs' (by omega) (by omega) hr
      have HCL : Hid (∀ w, Calls Try.prog 114 #[.string p, .int .i64 0] w fun e w' => e = .returned (.int .i64 (k : Int)) ∧ w = w') := fun w => by
        have := class6_c p 0 hp0 hp w
        rw [hcl] at this
        exact this
      have hk1 : (k : Int) - 1 = ((k - 1 : Nat) : Int) := by omega
      have hk3 : (1 : Int) ≤ ((k - 1 : Nat) : Int) := by omega
      have hk4 : ((k - 1 : Nat) : Int) ≤ (p.size : Int) := by omega
      have hk5 : (k : Int) ≤ (p.size : Int) := by omega
      have hkw : IntKind.i64.wrap ((k - 1 : Nat) : Int) = ((k - 1 : Nat) : Int) := IntWalk.i64_in _ ⟨by omega, by omega⟩
      clear hsg hgs hr h42 h63 h91 HCALL hic hset ht hrr hcl hgm
      cases r with
      | true =>
        go_enter Try.func113, Try.ntmps113
        go_wp2_with (go_at_call 114; refine (HCL.out _).mono ?_; rintro e w1 ⟨rfl, rfl⟩)
        refine wp_region_held_drew (S := (fun _ => True)) (by kernel_rfl) ?SR40 (fun hHeld => ?_)
        case SR40 => (first | exact True.intro | done)
        refine wpAnyH_take (i := 0) (oi := _) (v := ?vR40) rfl (by kernel_rfl) (by kernel_rfl) (by kernel_rfl) (fun _ _ _ h => h) (Or.inl ⟨by rfl, ?yR40⟩) hHeld ?_
        case yR40 => (intro w hSw; (try dsimp only at hSw); go_simp <;> with_reducible rfl)
        try simp only [Act.put, List.getElem_toArray, List.getElem_cons_zero, List.getElem_cons_succ, List.setIfInBounds_toArray, List.set_cons_zero, List.set_cons_succ]
        refine wpAnyH_take (i := 1) (oi := _) (v := ?vR41) rfl (by kernel_rfl) (by kernel_rfl) (by kernel_rfl) (fun _ _ _ h => h) (Or.inl ⟨by rfl, ?yR41⟩) hHeld ?_
        case yR41 => (intro w hSw; (try dsimp only at hSw); go_simp <;> with_reducible rfl)
        try simp only [Act.put, List.getElem_toArray, List.getElem_cons_zero, List.getElem_cons_succ, List.setIfInBounds_toArray, List.set_cons_zero, List.set_cons_succ]
        refine wpAnyH_take (i := 2) (oi := _) (v := ?vR42) rfl (by kernel_rfl) (by kernel_rfl) (by kernel_rfl) (fun _ _ _ h => h) (Or.inl ⟨by rfl, ?yR42⟩) hHeld ?_
        case yR42 => (intro w hSw; (try dsimp only at hSw); go_simp <;> with_reducible rfl)
        try simp only [Act.put, List.getElem_toArray, List.getElem_cons_zero, List.getElem_cons_succ, List.setIfInBounds_toArray, List.set_cons_zero, List.set_cons_succ]
        refine wpAnyH_take (i := 3) (oi := _) (v := ?vR43) rfl (by kernel_rfl) (by kernel_rfl) (by kernel_rfl) (fun _ _ _ h => h) (Or.inl ⟨by rfl, ?yR43⟩) hHeld ?_
        case yR43 => (intro w hSw; (try dsimp only at hSw); go_simp <;> with_reducible rfl)
        try simp only [Act.put, List.getElem_toArray, List.getElem_cons_zero, List.getElem_cons_succ, List.setIfInBounds_toArray, List.set_cons_zero, List.set_cons_succ]
        refine wpAnyH_take (i := 4) (oi := _) (v := ?vR44) rfl (by kernel_rfl) (by kernel_rfl) (by kernel_rfl) (fun _ _ _ h => h) (Or.inl ⟨by rfl, ?yR44⟩) hHeld ?_
        case yR44 => (intro w hSw; (try dsimp only at hSw); go_simp <;> with_reducible rfl)
        try simp only [Act.put, List.getElem_toArray, List.getElem_cons_zero, List.getElem_cons_succ, List.setIfInBounds_toArray, List.set_cons_zero, List.set_cons_succ]
        refine wpAnyH_take (i := 5) (oi := _) (v := ?vR45) rfl (by kernel_rfl) (by kernel_rfl) (by kernel_rfl) (fun _ _ _ h => h) (Or.inl ⟨by rfl, ?yR45⟩) hHeld ?_
        case yR45 => (intro w hSw; (try dsimp only at hSw); go_simp <;> with_reducible rfl)
        try simp only [Act.put, List.getElem_toArray, List.getElem_cons_zero, List.getElem_cons_succ, List.setIfInBounds_toArray, List.set_cons_zero, List.set_cons_succ]
        refine wpAnyH_ready (rs := [6]) (by kernel_rfl) (by simp) ?_
        refine AllReadyH.cons rfl (fun K hK => ?_) AllReadyH.nil
        go_simp
        go_wp2_with (go_at_call 125; refine (HT.out _).mono ?_; rintro e w1 ⟨rfl, rfl⟩)
        clear hHeld
        refine hK.out _ _ ?SR47 (fun hHeld => ?_)
        case SR47 => ((try dsimp only); first | exact True.intro | done)
        clear hK K
        refine wpAnyH_take (i := 7) (oi := _) (v := ?vR47) rfl (by kernel_rfl) (by kernel_rfl) (by kernel_rfl) (fun _ _ _ h => h) (Or.inl ⟨by rfl, ?yR47⟩) hHeld ?_
        case yR47 => (intro w hSw; (try dsimp only at hSw); go_simp <;> with_reducible rfl)
        try simp only [Act.put, List.getElem_toArray, List.getElem_cons_zero, List.getElem_cons_succ, List.setIfInBounds_toArray, List.set_cons_zero, List.set_cons_succ]
        refine wpAnyH_take (i := 8) (oi := _) (v := ?vR48) rfl (by kernel_rfl) (by kernel_rfl) (by kernel_rfl) (fun _ _ _ h => h) (Or.inl ⟨by rfl, ?yR48⟩) hHeld ?_
        case yR48 => (intro w hSw; (try dsimp only at hSw); go_simp <;> with_reducible rfl)
        try simp only [Act.put, List.getElem_toArray, List.getElem_cons_zero, List.getElem_cons_succ, List.setIfInBounds_toArray, List.set_cons_zero, List.set_cons_succ]
        refine wpAnyH_take (i := 9) (oi := _) (v := ?vR49) rfl (by kernel_rfl) (by kernel_rfl) (by kernel_rfl) (fun _ _ _ h => h) (Or.inl ⟨by rfl, ?yR49⟩) hHeld ?_
        case yR49 => (intro w hSw; (try dsimp only at hSw); go_simp <;> with_reducible rfl)
        try simp only [Act.put, List.getElem_toArray, List.getElem_cons_zero, List.getElem_cons_succ, List.setIfInBounds_toArray, List.set_cons_zero, List.set_cons_succ]
        refine wpAnyH_take (i := 10) (oi := _) (v := ?vR410) rfl (by kernel_rfl) (by kernel_rfl) (by kernel_rfl) (fun _ _ _ h => h) (Or.inl ⟨by rfl, ?yR410⟩) hHeld ?_
        case yR410 => (intro w hSw; (try dsimp only at hSw); go_simp <;> with_reducible rfl)
        try simp only [Act.put, List.getElem_toArray, List.getElem_cons_zero, List.getElem_cons_succ, List.setIfInBounds_toArray, List.set_cons_zero, List.set_cons_succ]
        refine wpAnyH_take (i := 11) (oi := _) (v := ?vR411) rfl (by kernel_rfl) (by kernel_rfl) (by kernel_rfl) (fun _ _ _ h => h) (Or.inl ⟨by rfl, ?yR411⟩) hHeld ?_
        case yR411 => (intro w hSw; (try dsimp only at hSw); go_simp <;> with_reducible rfl)
        try simp only [Act.put, List.getElem_toArray, List.getElem_cons_zero, List.getElem_cons_succ, List.setIfInBounds_toArray, List.set_cons_zero, List.set_cons_succ]
        refine wpAnyH_take (i := 12) (oi := _) (v := ?vR412) rfl (by kernel_rfl) (by kernel_rfl) (by kernel_rfl) (fun _ _ _ h => h) (Or.inl ⟨by rfl, ?yR412⟩) hHeld ?_
        case yR412 => (intro w hSw; (try dsimp only at hSw); go_simp <;> with_reducible rfl)
        try simp only [Act.put, List.getElem_toArray, List.getElem_cons_zero, List.getElem_cons_succ, List.setIfInBounds_toArray, List.set_cons_zero, List.set_cons_succ]
        refine wpAnyH_ready (rs := [13]) (by kernel_rfl) (by simp) ?_
        refine AllReadyH.cons rfl (fun K hK => ?_) AllReadyH.nil
        go_simp
        go_wp2_with (go_at_call 113; refine (HC'.out _).mono ?_; rintro e w2 ⟨rfl, b2⟩; have hd1 : Below w.heap.size w w2 := hd0.trans (b2.mono hd0.size))
        clear hHeld
        refine hK.out _ _ ?SR414 (fun hHeld => ?_)
        case SR414 => ((try dsimp only); first | exact True.intro | done)
        clear hK K
        refine wpAnyH_take (i := 14) (oi := _) (v := ?vR414) rfl (by kernel_rfl) (by kernel_rfl) (by kernel_rfl) (fun _ _ _ h => h) (Or.inl ⟨by rfl, ?yR414⟩) hHeld ?_
        case yR414 => (intro w hSw; (try dsimp only at hSw); go_simp <;> with_reducible rfl)
        try simp only [Act.put, List.getElem_toArray, List.getElem_cons_zero, List.getElem_cons_succ, List.setIfInBounds_toArray, List.set_cons_zero, List.set_cons_succ]
        refine wpAnyH_take (i := 15) (oi := _) (v := ?vR415) rfl (by kernel_rfl) (by kernel_rfl) (by kernel_rfl) (fun _ _ _ h => h) (Or.inl ⟨by rfl, ?yR415⟩) hHeld ?_
        case yR415 => (intro w hSw; (try dsimp only at hSw); go_simp <;> with_reducible rfl)
        try simp only [Act.put, List.getElem_toArray, List.getElem_cons_zero, List.getElem_cons_succ, List.setIfInBounds_toArray, List.set_cons_zero, List.set_cons_succ]
        refine wpAnyH_done (by kernel_rfl) ?_ _
        go_wp2_with fail
        go_ret
        exact ⟨by rw [HE.out]; try rfl, hd1⟩
      | false =>
        go_enter Try.func113, Try.ntmps113
        go_wp2_with (go_at_call 114; refine (HCL.out _).mono ?_; rintro e w1 ⟨rfl, rfl⟩)
        refine wp_region_held_drew (S := (fun _ => True)) (by kernel_rfl) ?SR50 (fun hHeld => ?_)
        case SR50 => (first | exact True.intro | done)
        refine wpAnyH_take (i := 0) (oi := _) (v := ?vR50) rfl (by kernel_rfl) (by kernel_rfl) (by kernel_rfl) (fun _ _ _ h => h) (Or.inl ⟨by rfl, ?yR50⟩) hHeld ?_
        case yR50 => (intro w hSw; (try dsimp only at hSw); go_simp <;> with_reducible rfl)
        try simp only [Act.put, List.getElem_toArray, List.getElem_cons_zero, List.getElem_cons_succ, List.setIfInBounds_toArray, List.set_cons_zero, List.set_cons_succ]
        refine wpAnyH_take (i := 1) (oi := _) (v := ?vR51) rfl (by kernel_rfl) (by kernel_rfl) (by kernel_rfl) (fun _ _ _ h => h) (Or.inl ⟨by rfl, ?yR51⟩) hHeld ?_
        case yR51 => (intro w hSw; (try dsimp only at hSw); go_simp <;> with_reducible rfl)
        try simp only [Act.put, List.getElem_toArray, List.getElem_cons_zero, List.getElem_cons_succ, List.setIfInBounds_toArray, List.set_cons_zero, List.set_cons_succ]
        refine wpAnyH_take (i := 2) (oi := _) (v := ?vR52) rfl (by kernel_rfl) (by kernel_rfl) (by kernel_rfl) (fun _ _ _ h => h) (Or.inl ⟨by rfl, ?yR52⟩) hHeld ?_
        case yR52 => (intro w hSw; (try dsimp only at hSw); go_simp <;> with_reducible rfl)
        try simp only [Act.put, List.getElem_toArray, List.getElem_cons_zero, List.getElem_cons_succ, List.setIfInBounds_toArray, List.set_cons_zero, List.set_cons_succ]
        refine wpAnyH_take (i := 3) (oi := _) (v := ?vR53) rfl (by kernel_rfl) (by kernel_rfl) (by kernel_rfl) (fun _ _ _ h => h) (Or.inl ⟨by rfl, ?yR53⟩) hHeld ?_
        case yR53 => (intro w hSw; (try dsimp only at hSw); go_simp <;> with_reducible rfl)
        try simp only [Act.put, List.getElem_toArray, List.getElem_cons_zero, List.getElem_cons_succ, List.setIfInBounds_toArray, List.set_cons_zero, List.set_cons_succ]
        refine wpAnyH_take (i := 4) (oi := _) (v := ?vR54) rfl (by kernel_rfl) (by kernel_rfl) (by kernel_rfl) (fun _ _ _ h => h) (Or.inl ⟨by rfl, ?yR54⟩) hHeld ?_
        case yR54 => (intro w hSw; (try dsimp only at hSw); go_simp <;> with_reducible rfl)
        try simp only [Act.put, List.getElem_toArray, List.getElem_cons_zero, List.getElem_cons_succ, List.setIfInBounds_toArray, List.set_cons_zero, List.set_cons_succ]
        refine wpAnyH_take (i := 5) (oi := _) (v := ?vR55) rfl (by kernel_rfl) (by kernel_rfl) (by kernel_rfl) (fun _ _ _ h => h) (Or.inl ⟨by rfl, ?yR55⟩) hHeld ?_
        case yR55 => (intro w hSw; (try dsimp only at hSw); go_simp <;> with_reducible rfl)
        try simp only [Act.put, List.getElem_toArray, List.getElem_cons_zero, List.getElem_cons_succ, List.setIfInBounds_toArray, List.set_cons_zero, List.set_cons_succ]
        refine wpAnyH_ready (rs := [6]) (by kernel_rfl) (by simp) ?_
        refine AllReadyH.cons rfl (fun K hK => ?_) AllReadyH.nil
        go_simp
        go_wp2_with (go_at_call 125; refine (HT.out _).mono ?_; rintro e w1 ⟨rfl, rfl⟩)
        clear hHeld
        refine hK.out _ _ ?SR57 (fun hHeld => ?_)
        case SR57 => ((try dsimp only); first | exact True.intro | done)
        clear hK K
        refine wpAnyH_take (i := 7) (oi := _) (v := ?vR57) rfl (by kernel_rfl) (by kernel_rfl) (by kernel_rfl) (fun _ _ _ h => h) (Or.inl ⟨by rfl, ?yR57⟩) hHeld ?_
        case yR57 => (intro w hSw; (try dsimp only at hSw); go_simp <;> with_reducible rfl)
        try simp only [Act.put, List.getElem_toArray, List.getElem_cons_zero, List.getElem_cons_succ, List.setIfInBounds_toArray, List.set_cons_zero, List.set_cons_succ]
        refine wpAnyH_take (i := 8) (oi := _) (v := undef) rfl (by kernel_rfl) (by kernel_rfl) (by kernel_rfl) (fun _ _ _ h => h) (Or.inr ⟨by rfl, rfl⟩) hHeld ?_
        try simp only [Act.put, List.getElem_toArray, List.getElem_cons_zero, List.getElem_cons_succ, List.setIfInBounds_toArray, List.set_cons_zero, List.set_cons_succ]
        refine wpAnyH_take (i := 9) (oi := _) (v := undef) rfl (by kernel_rfl) (by kernel_rfl) (by kernel_rfl) (fun _ _ _ h => h) (Or.inr ⟨by rfl, rfl⟩) hHeld ?_
        try simp only [Act.put, List.getElem_toArray, List.getElem_cons_zero, List.getElem_cons_succ, List.setIfInBounds_toArray, List.set_cons_zero, List.set_cons_succ]
        refine wpAnyH_take (i := 10) (oi := _) (v := undef) rfl (by kernel_rfl) (by kernel_rfl) (by kernel_rfl) (fun _ _ _ h => h) (Or.inr ⟨by rfl, rfl⟩) hHeld ?_
        try simp only [Act.put, List.getElem_toArray, List.getElem_cons_zero, List.getElem_cons_succ, List.setIfInBounds_toArray, List.set_cons_zero, List.set_cons_succ]
        refine wpAnyH_take (i := 11) (oi := _) (v := undef) rfl (by kernel_rfl) (by kernel_rfl) (by kernel_rfl) (fun _ _ _ h => h) (Or.inr ⟨by rfl, rfl⟩) hHeld ?_
        try simp only [Act.put, List.getElem_toArray, List.getElem_cons_zero, List.getElem_cons_succ, List.setIfInBounds_toArray, List.set_cons_zero, List.set_cons_succ]
        refine wpAnyH_take (i := 12) (oi := _) (v := undef) rfl (by kernel_rfl) (by kernel_rfl) (by kernel_rfl) (fun _ _ _ h => h) (Or.inr ⟨by rfl, rfl⟩) hHeld ?_
        try simp only [Act.put, List.getElem_toArray, List.getElem_cons_zero, List.getElem_cons_succ, List.setIfInBounds_toArray, List.set_cons_zero, List.set_cons_succ]
        refine wpAnyH_take (i := 13) (oi := _) (v := undef) rfl (by kernel_rfl) (by kernel_rfl) (by kernel_rfl) (fun _ _ _ h => h) (Or.inr ⟨by rfl, rfl⟩) hHeld ?_
        try simp only [Act.put, List.getElem_toArray, List.getElem_cons_zero, List.getElem_cons_succ, List.setIfInBounds_toArray, List.set_cons_zero, List.set_cons_succ]
        refine wpAnyH_take (i := 14) (oi := _) (v := ?vR514) rfl (by kernel_rfl) (by kernel_rfl) (by kernel_rfl) (fun _ _ _ h => h) (Or.inl ⟨by rfl, ?yR514⟩) hHeld ?_
        case yR514 => (intro w hSw; (try dsimp only at hSw); go_simp <;> with_reducible rfl)
        try simp only [Act.put, List.getElem_toArray, List.getElem_cons_zero, List.getElem_cons_succ, List.setIfInBounds_toArray, List.set_cons_zero, List.set_cons_succ]
        refine wpAnyH_take (i := 15) (oi := _) (v := ?vR515) rfl (by kernel_rfl) (by kernel_rfl) (by kernel_rfl) (fun _ _ _ h => h) (Or.inl ⟨by rfl, ?yR515⟩) hHeld ?_
        case yR515 => (intro w hSw; (try dsimp only at hSw); go_simp <;> with_reducible rfl)
        try simp only [Act.put, List.getElem_toArray, List.getElem_cons_zero, List.getElem_cons_succ, List.setIfInBounds_toArray, List.set_cons_zero, List.set_cons_succ]
        refine wpAnyH_done (by kernel_rfl) ?_ _
        go_wp2_with fail
        go_ret
        exact ⟨by rw [HE.out]; try rfl, hd0⟩
  have h91' : (((p[0]).toNat : Int) == 91) = false := by simp; omega
  cases hpc : pathC ((p[0]).toNat : Int) with
  | false =>
    have hsg := signL_bad hp0 h91 h42 h63 hpc
    rw [HD.out] at hsg
    rw [signsOf_none (ne_nil_pos hp0) hsg] at hgs
    cases hgs
  | true =>
    have hsg := signL_path hp0 hpc
    rw [HD.out] at hsg
    obtain ⟨hs', rfl, hr⟩ := signs_cut hsg hgs
    obtain ⟨r, hrr⟩ : ∃ r, r = (((p[0]).toNat : Int) == ((s[0]).toNat : Int)) := ⟨_, rfl⟩
    have HE : Hid (fullG Sgn.many takesS (⟨false, false, [p[0]]⟩ :: hs') (intsOf s) = (r && fullG Sgn.many takesS hs' (intsOf (s.extract 1 s.size)))) := by
      show _ = _
      rw [hic, fullG_one _ _ _ _ _ _ rfl, hrr]
      congr 1
      unfold takesS
      simp
    have HC' : Hid (∀ w, Calls Try.prog 113 #[.string (p.extract 1 p.size), .string (s.extract 1 s.size)] w fun e w' => e = .returned (.bool (fullG Sgn.many takesS hs' (intsOf (s.extract 1 s.size)))) ∧ Below w.heap.size w w') := HCALL.out 1 hs' (by omega) (by omega) hr
    replace hrr := hrr.symm
    clear hsg hgs hr h42 h63 h91 HCALL hic hpc
    obtain ⟨pc, hpc⟩ : ∃ a : Int, ((p[0]).toNat : Int) = a := ⟨_, rfl⟩
    obtain ⟨sc, hsc⟩ : ∃ a : Int, ((s[0]).toNat : Int) = a := ⟨_, rfl⟩
    rw [hpc, hsc] at hrr
    rw [hpc] at h42' h63' h91'
    clear hc33
    cases r with
    | true =>
      go_enter Try.func113, Try.ntmps113
      go_wp2_with fail
      refine wp_region_held_drew (S := (fun _ => True)) (by kernel_rfl) ?SR60 (fun hHeld => ?_)
      case SR60 => (first | exact True.intro | done)
      refine wpAnyH_take (i := 0) (oi := _) (v := ?vR60) rfl (by kernel_rfl) (by kernel_rfl) (by kernel_rfl) (fun _ _ _ h => h) (Or.inl ⟨by rfl, ?yR60⟩) hHeld ?_
      case yR60 => (intro w hSw; (try dsimp only at hSw); go_simp <;> with_reducible rfl)
      try simp only [Act.put, List.getElem_toArray, List.getElem_cons_zero, List.getElem_cons_succ, List.setIfInBounds_toArray, List.set_cons_zero, List.set_cons_succ]
      refine wpAnyH_take (i := 1) (oi := _) (v := ?vR61) rfl (by kernel_rfl) (by kernel_rfl) (by kernel_rfl) (fun _ _ _ h => h) (Or.inl ⟨by rfl, ?yR61⟩) hHeld ?_
      case yR61 => (intro w hSw; (try dsimp only at hSw); go_simp <;> with_reducible rfl)
      try simp only [Act.put, List.getElem_toArray, List.getElem_cons_zero, List.getElem_cons_succ, List.setIfInBounds_toArray, List.set_cons_zero, List.set_cons_succ]
      refine wpAnyH_take (i := 2) (oi := _) (v := ?vR62) rfl (by kernel_rfl) (by kernel_rfl) (by kernel_rfl) (fun _ _ _ h => h) (Or.inl ⟨by rfl, ?yR62⟩) hHeld ?_
      case yR62 => (intro w hSw; (try dsimp only at hSw); go_simp <;> with_reducible rfl)
      try simp only [Act.put, List.getElem_toArray, List.getElem_cons_zero, List.getElem_cons_succ, List.setIfInBounds_toArray, List.set_cons_zero, List.set_cons_succ]
      refine wpAnyH_take (i := 3) (oi := _) (v := ?vR63) rfl (by kernel_rfl) (by kernel_rfl) (by kernel_rfl) (fun _ _ _ h => h) (Or.inl ⟨by rfl, ?yR63⟩) hHeld ?_
      case yR63 => (intro w hSw; (try dsimp only at hSw); go_simp <;> with_reducible rfl)
      try simp only [Act.put, List.getElem_toArray, List.getElem_cons_zero, List.getElem_cons_succ, List.setIfInBounds_toArray, List.set_cons_zero, List.set_cons_succ]
      refine wpAnyH_take (i := 4) (oi := _) (v := ?vR64) rfl (by kernel_rfl) (by kernel_rfl) (by kernel_rfl) (fun _ _ _ h => h) (Or.inl ⟨by rfl, ?yR64⟩) hHeld ?_
      case yR64 => (intro w hSw; (try dsimp only at hSw); go_simp <;> with_reducible rfl)
      try simp only [Act.put, List.getElem_toArray, List.getElem_cons_zero, List.getElem_cons_succ, List.setIfInBounds_toArray, List.set_cons_zero, List.set_cons_succ]
      refine wpAnyH_take (i := 5) (oi := _) (v := ?vR65) rfl (by kernel_rfl) (by kernel_rfl) (by kernel_rfl) (fun _ _ _ h => h) (Or.inl ⟨by rfl, ?yR65⟩) hHeld ?_
      case yR65 => (intro w hSw; (try dsimp only at hSw); go_simp <;> with_reducible rfl)
      try simp only [Act.put, List.getElem_toArray, List.getElem_cons_zero, List.getElem_cons_succ, List.setIfInBounds_toArray, List.set_cons_zero, List.set_cons_succ]
      refine wpAnyH_take (i := 6) (oi := _) (v := ?vR66) rfl (by kernel_rfl) (by kernel_rfl) (by kernel_rfl) (fun _ _ _ h => h) (Or.inl ⟨by rfl, ?yR66⟩) hHeld ?_
      case yR66 => (intro w hSw; (try dsimp only at hSw); go_simp <;> with_reducible rfl)
      try simp only [Act.put, List.getElem_toArray, List.getElem_cons_zero, List.getElem_cons_succ, List.setIfInBounds_toArray, List.set_cons_zero, List.set_cons_succ]
      refine wpAnyH_take (i := 7) (oi := _) (v := ?vR67) rfl (by kernel_rfl) (by kernel_rfl) (by kernel_rfl) (fun _ _ _ h => h) (Or.inl ⟨by rfl, ?yR67⟩) hHeld ?_
      case yR67 => (intro w hSw; (try dsimp only at hSw); go_simp <;> with_reducible rfl)
      try simp only [Act.put, List.getElem_toArray, List.getElem_cons_zero, List.getElem_cons_succ, List.setIfInBounds_toArray, List.set_cons_zero, List.set_cons_succ]
      refine wpAnyH_take (i := 8) (oi := _) (v := ?vR68) rfl (by kernel_rfl) (by kernel_rfl) (by kernel_rfl) (fun _ _ _ h => h) (Or.inl ⟨by rfl, ?yR68⟩) hHeld ?_
      case yR68 => (intro w hSw; (try dsimp only at hSw); go_simp <;> with_reducible rfl)
      try simp only [Act.put, List.getElem_toArray, List.getElem_cons_zero, List.getElem_cons_succ, List.setIfInBounds_toArray, List.set_cons_zero, List.set_cons_succ]
      refine wpAnyH_take (i := 9) (oi := _) (v := ?vR69) rfl (by kernel_rfl) (by kernel_rfl) (by kernel_rfl) (fun _ _ _ h => h) (Or.inl ⟨by rfl, ?yR69⟩) hHeld ?_
      case yR69 => (intro w hSw; (try dsimp only at hSw); go_simp <;> with_reducible rfl)
      try simp only [Act.put, List.getElem_toArray, List.getElem_cons_zero, List.getElem_cons_succ, List.setIfInBounds_toArray, List.set_cons_zero, List.set_cons_succ]
      refine wpAnyH_ready (rs := [10]) (by kernel_rfl) (by simp) ?_
      refine AllReadyH.cons rfl (fun K hK => ?_) AllReadyH.nil
      go_simp
      go_wp2_with (go_at_call 113; refine (HC'.out _).mono ?_; rintro e w2 ⟨rfl, b2⟩; have hd1 : Below w.heap.size w w2 := hd0.trans (b2.mono hd0.size))
      clear hHeld
      refine hK.out _ _ ?SR611 (fun hHeld => ?_)
      case SR611 => ((try dsimp only); first | exact True.intro | done)
      clear hK K
      refine wpAnyH_take (i := 11) (oi := _) (v := ?vR611) rfl (by kernel_rfl) (by kernel_rfl) (by kernel_rfl) (fun _ _ _ h => h) (Or.inl ⟨by rfl, ?yR611⟩) hHeld ?_
      case yR611 => (intro w hSw; (try dsimp only at hSw); go_simp <;> with_reducible rfl)
      try simp only [Act.put, List.getElem_toArray, List.getElem_cons_zero, List.getElem_cons_succ, List.setIfInBounds_toArray, List.set_cons_zero, List.set_cons_succ]
      refine wpAnyH_take (i := 12) (oi := _) (v := ?vR612) rfl (by kernel_rfl) (by kernel_rfl) (by kernel_rfl) (fun _ _ _ h => h) (Or.inl ⟨by rfl, ?yR612⟩) hHeld ?_
      case yR612 => (intro w hSw; (try dsimp only at hSw); go_simp <;> with_reducible rfl)
      try simp only [Act.put, List.getElem_toArray, List.getElem_cons_zero, List.getElem_cons_succ, List.setIfInBounds_toArray, List.set_cons_zero, List.set_cons_succ]
      refine wpAnyH_done (by kernel_rfl) ?_ _
      go_wp2_with fail
      go_ret
      exact ⟨by rw [HE.out]; try rfl, hd1⟩
    | false =>
      go_enter Try.func113, Try.ntmps113
      go_wp2_with fail
      refine wp_region_held_drew (S := (fun _ => True)) (by kernel_rfl) ?SR70 (fun hHeld => ?_)
      case SR70 => (first | exact True.intro | done)
      refine wpAnyH_take (i := 0) (oi := _) (v := ?vR70) rfl (by kernel_rfl) (by kernel_rfl) (by kernel_rfl) (fun _ _ _ h => h) (Or.inl ⟨by rfl, ?yR70⟩) hHeld ?_
      case yR70 => (intro w hSw; (try dsimp only at hSw); go_simp <;> with_reducible rfl)
      try simp only [Act.put, List.getElem_toArray, List.getElem_cons_zero, List.getElem_cons_succ, List.setIfInBounds_toArray, List.set_cons_zero, List.set_cons_succ]
      refine wpAnyH_take (i := 1) (oi := _) (v := ?vR71) rfl (by kernel_rfl) (by kernel_rfl) (by kernel_rfl) (fun _ _ _ h => h) (Or.inl ⟨by rfl, ?yR71⟩) hHeld ?_
      case yR71 => (intro w hSw; (try dsimp only at hSw); go_simp <;> with_reducible rfl)
      try simp only [Act.put, List.getElem_toArray, List.getElem_cons_zero, List.getElem_cons_succ, List.setIfInBounds_toArray, List.set_cons_zero, List.set_cons_succ]
      refine wpAnyH_take (i := 2) (oi := _) (v := ?vR72) rfl (by kernel_rfl) (by kernel_rfl) (by kernel_rfl) (fun _ _ _ h => h) (Or.inl ⟨by rfl, ?yR72⟩) hHeld ?_
      case yR72 => (intro w hSw; (try dsimp only at hSw); go_simp <;> with_reducible rfl)
      try simp only [Act.put, List.getElem_toArray, List.getElem_cons_zero, List.getElem_cons_succ, List.setIfInBounds_toArray, List.set_cons_zero, List.set_cons_succ]
      refine wpAnyH_take (i := 3) (oi := _) (v := ?vR73) rfl (by kernel_rfl) (by kernel_rfl) (by kernel_rfl) (fun _ _ _ h => h) (Or.inl ⟨by rfl, ?yR73⟩) hHeld ?_
      case yR73 => (intro w hSw; (try dsimp only at hSw); go_simp <;> with_reducible rfl)
      try simp only [Act.put, List.getElem_toArray, List.getElem_cons_zero, List.getElem_cons_succ, List.setIfInBounds_toArray, List.set_cons_zero, List.set_cons_succ]
      refine wpAnyH_take (i := 4) (oi := _) (v := ?vR74) rfl (by kernel_rfl) (by kernel_rfl) (by kernel_rfl) (fun _ _ _ h => h) (Or.inl ⟨by rfl, ?yR74⟩) hHeld ?_
      case yR74 => (intro w hSw; (try dsimp only at hSw); go_simp <;> with_reducible rfl)
      try simp only [Act.put, List.getElem_toArray, List.getElem_cons_zero, List.getElem_cons_succ, List.setIfInBounds_toArray, List.set_cons_zero, List.set_cons_succ]
      refine wpAnyH_take (i := 5) (oi := _) (v := ?vR75) rfl (by kernel_rfl) (by kernel_rfl) (by kernel_rfl) (fun _ _ _ h => h) (Or.inl ⟨by rfl, ?yR75⟩) hHeld ?_
      case yR75 => (intro w hSw; (try dsimp only at hSw); go_simp <;> with_reducible rfl)
      try simp only [Act.put, List.getElem_toArray, List.getElem_cons_zero, List.getElem_cons_succ, List.setIfInBounds_toArray, List.set_cons_zero, List.set_cons_succ]
      refine wpAnyH_take (i := 6) (oi := _) (v := undef) rfl (by kernel_rfl) (by kernel_rfl) (by kernel_rfl) (fun _ _ _ h => h) (Or.inr ⟨by rfl, rfl⟩) hHeld ?_
      try simp only [Act.put, List.getElem_toArray, List.getElem_cons_zero, List.getElem_cons_succ, List.setIfInBounds_toArray, List.set_cons_zero, List.set_cons_succ]
      refine wpAnyH_take (i := 7) (oi := _) (v := undef) rfl (by kernel_rfl) (by kernel_rfl) (by kernel_rfl) (fun _ _ _ h => h) (Or.inr ⟨by rfl, rfl⟩) hHeld ?_
      try simp only [Act.put, List.getElem_toArray, List.getElem_cons_zero, List.getElem_cons_succ, List.setIfInBounds_toArray, List.set_cons_zero, List.set_cons_succ]
      refine wpAnyH_take (i := 8) (oi := _) (v := undef) rfl (by kernel_rfl) (by kernel_rfl) (by kernel_rfl) (fun _ _ _ h => h) (Or.inr ⟨by rfl, rfl⟩) hHeld ?_
      try simp only [Act.put, List.getElem_toArray, List.getElem_cons_zero, List.getElem_cons_succ, List.setIfInBounds_toArray, List.set_cons_zero, List.set_cons_succ]
      refine wpAnyH_take (i := 9) (oi := _) (v := undef) rfl (by kernel_rfl) (by kernel_rfl) (by kernel_rfl) (fun _ _ _ h => h) (Or.inr ⟨by rfl, rfl⟩) hHeld ?_
      try simp only [Act.put, List.getElem_toArray, List.getElem_cons_zero, List.getElem_cons_succ, List.setIfInBounds_toArray, List.set_cons_zero, List.set_cons_succ]
      refine wpAnyH_take (i := 10) (oi := _) (v := undef) rfl (by kernel_rfl) (by kernel_rfl) (by kernel_rfl) (fun _ _ _ h => h) (Or.inr ⟨by rfl, rfl⟩) hHeld ?_
      try simp only [Act.put, List.getElem_toArray, List.getElem_cons_zero, List.getElem_cons_succ, List.setIfInBounds_toArray, List.set_cons_zero, List.set_cons_succ]
      refine wpAnyH_take (i := 11) (oi := _) (v := ?vR711) rfl (by kernel_rfl) (by kernel_rfl) (by kernel_rfl) (fun _ _ _ h => h) (Or.inl ⟨by rfl, ?yR711⟩) hHeld ?_
      case yR711 => (intro w hSw; (try dsimp only at hSw); go_simp <;> with_reducible rfl)
      try simp only [Act.put, List.getElem_toArray, List.getElem_cons_zero, List.getElem_cons_succ, List.setIfInBounds_toArray, List.set_cons_zero, List.set_cons_succ]
      refine wpAnyH_take (i := 12) (oi := _) (v := ?vR712) rfl (by kernel_rfl) (by kernel_rfl) (by kernel_rfl) (fun _ _ _ h => h) (Or.inl ⟨by rfl, ?yR712⟩) hHeld ?_
      case yR712 => (intro w hSw; (try dsimp only at hSw); go_simp <;> with_reducible rfl)
      try simp only [Act.put, List.getElem_toArray, List.getElem_cons_zero, List.getElem_cons_succ, List.setIfInBounds_toArray, List.set_cons_zero, List.set_cons_succ]
      refine wpAnyH_done (by kernel_rfl) ?_ _
      go_wp2_with fail
      go_ret
      exact ⟨by rw [HE.out]; try rfl, hd0⟩

theorem name6_all : ∀ (n : Nat) (p : ByteArray), p.size ≤ n → p.size ≤ 1048576 → Name6 p
  | 0, p, h, hp => name6_step p hp (fun k h1 h2 => by omega)
  | n + 1, p, h, hp => name6_step p hp (fun k h1 h2 => name6_all n _ (by rw [size_tail p k h2]; omega) (by rw [size_tail p k h2]; omega))
end Go.Proofs.Ytbkmjbjiagkjmaa
