/-
  Contracts for the walks, several texts in one: each part says what it proves, and under which conditions.
-/
import Derived.Deep.RegionHeld
import Derived.Test.YtlfmefojcmpfeaaGreatDoorQ3
import Derived.Test.YtlfmefojcmpfeaaGreatDoorQ1
import Derived.Test.YtlfmefojcmpfeaaGreatDoorQ2

/-! What the specification's ParseVer answers: the same as the program's reader tells: a contract for the walks; condition: the text has at most 2 to the 20 bytes. -/
namespace Go.Proofs.YtlfmefojcmpfeaaGreatDoor
open Go.RowKit
set_option linter.unusedSimpArgs false
set_option linter.unusedVariables false

theorem vsplit_bulk (s : ByteArray) (c : Int) : ∀ (n i b : Nat), n = s.size - i → b ≤ i → i ≤ s.size → bulkS (splitGo s c (s.size - i) i b) = s.size - b + 1
  | 0, i, b, hn, hb, hi => by
    obtain rfl : i = s.size := by omega
    rw [splitGo_end, bulkS]
    simp [vsize s b s.size hb (Nat.le_refl _)]; omega
  | n + 1, i, b, hn, hb, hi => by
    have hlt : i < s.size := by omega
    by_cases h : ((s.data[i]!).toNat : Int) = c
    · have ih := vsplit_bulk s c n (i + 1) (i + 1) (by omega) (Nat.le_refl _) (by omega)
      rw [splitGo_hit s c i b hlt h]
      unfold bulkS at ih ⊢
      simp only [List.length_cons, List.map_cons, List.sum_cons]
      rw [vsize s b i hb (by omega)]
      omega
    · rw [splitGo_miss s c i b hlt h]
      exact vsplit_bulk s c n (i + 1) b (by omega) (by omega) (by omega)
theorem vsplitS_bulk (s : ByteArray) (c : Int) : bulkS (splitS s c) = s.size + 1 := vsplit_bulk s c s.size 0 0 rfl (Nat.le_refl _) (Nat.zero_le _)

theorem parts_take (ps : List ByteArray) : ∀ n, n ≤ ps.length → partsUpto ps n = (ps.take n).all partB
  | 0, _ => by simp [partsUpto]
  | n + 1, h => by
    rw [partsUpto, parts_take ps n (by omega), List.take_succ_eq_append_getElem h, List.all_append]
    simp [List.getD_eq_getElem?_getD, show n < ps.length by omega]
theorem parts_all (ps : List ByteArray) : partsUpto ps ps.length = ps.all partB := by rw [parts_take ps ps.length (Nat.le_refl _), List.take_length]

theorem num_in {t : ByteArray} (h : numGood t 9999 = true) : inB (numOut t 9999) 0 9999 = true := by
  rw [numOut_good h]
  have h0 := h
  simp only [numGood, Bool.and_eq_true, decide_eq_true_eq] at h
  have h1 : allUpto okDigit t t.size = true := by
    cases hq : allUpto okDigit t t.size
    · rw [good_of_piece hq] at h0; cases h0
    · rfl
  have hb := numUpto_bounds t t.size h1
  have hm : numUpto t t.size ≤ 9999 := by
    by_cases hq : numUpto t t.size ≤ 9999
    · exact hq
    · rw [bad_most (by omega)] at h0; cases h0
  simp only [inB, Bool.and_eq_true, decide_eq_true_eq]
  omega

/-- What the specification makes of the pieces. -/
theorem res_spec (s : ByteArray) (k : Nat) (hk : k ≤ s.size) (hd : k < s.size → ((s.data[k]!).toNat : Int) = 45) (hn : ∀ j, j < k → ¬ ((s.data[j]!).toNat : Int) = 45) (L P : List ByteArray) (hL : L = splitS (s.extract 0 k) 46) (hP : P = if k < s.size then splitS (s.extract (k + 1) s.size) 46 else []) :
    resAll s = if L.all (fun t => numGood t 9999) && decide (L.length = 3) && P.all partB && decide (P.length ≤ 3) then some (L.map (fun t => numOut t 9999), P) else none := by
  have e1 : L = numsAt s k := by rw [hL, split_pieces s 0 k (Nat.zero_le _) hk, numsAt, Nat.sub_zero]
  have e2 : P = presAt s k := by
    rw [hP, presAt]
    by_cases h : k < s.size
    · rw [if_pos h, if_pos h, split_pieces s (k + 1) s.size (by omega) (Nat.le_refl _)]
    · rw [if_neg h, if_neg h]
  rw [resAll, reads_all s k hk hd hn, e1, e2]
  rfl

theorem reads_set3 {w : World} {N : Nat} {u : Value} {xs : List Value} (h : Reads w u xs) (hb : ∀ bl, u.ownBlock = some bl → N < bl) (v0 v1 v2 : Value) : Reads (((w.setCell ⟨N, 0, none⟩ v0).setCell ⟨N, 1, none⟩ v1).setCell ⟨N, 2, none⟩ v2) u xs := by
  obtain ⟨a, cap, rfl, hc, hx⟩ := h
  refine ⟨a, cap, rfl, hc, ?_⟩
  rcases hx with hx | ⟨b, off, rfl, hlt, hx⟩
  · exact .inl hx
  · have hN : N < b := hb b rfl
    refine .inr ⟨b, off, rfl, by simpa [World.setCell] using hlt, fun k hk => ?_⟩
    have hh : ∀ (a : World) (i : Nat) (x : Value), (a.setCell ⟨N, i, none⟩ x).cell? ⟨b, off + k, none⟩ = a.cell? ⟨b, off + k, none⟩ := fun a i x => World.cell?_setCell_other _ _ _ _ (by intro e; injection e; omega)
    rw [hh, hh, hh]; exact hx k hk

theorem reads_set4 {w : World} {N : Nat} {u : Value} {xs : List Value} (h : Reads w u xs) (hb : ∀ bl, u.ownBlock = some bl → N < bl) (v0 v1 v2 v3 : Value) : Reads ((((w.setCell ⟨N, 0, none⟩ v0).setCell ⟨N, 1, none⟩ v1).setCell ⟨N, 2, none⟩ v2).setCell ⟨N, 3, none⟩ v3) u xs := by
  obtain ⟨a, cap, rfl, hc, hx⟩ := h
  refine ⟨a, cap, rfl, hc, ?_⟩
  rcases hx with hx | ⟨b, off, rfl, hlt, hx⟩
  · exact .inl hx
  · have hN : N < b := hb b rfl
    refine .inr ⟨b, off, rfl, by simpa [World.setCell] using hlt, fun k hk => ?_⟩
    have hh : ∀ (a : World) (i : Nat) (x : Value), (a.setCell ⟨N, i, none⟩ x).cell? ⟨b, off + k, none⟩ = a.cell? ⟨b, off + k, none⟩ := fun a i x => World.cell?_setCell_other _ _ _ _ (by intro e; injection e; omega)
    rw [hh, hh, hh, hh]; exact hx k hk

theorem three_of {L : List ByteArray} (h : L.length = 3) : ∃ t0 t1 t2, L = [t0, t1, t2] := by
  match L, h with
  | [t0, t1, t2], _ => exact ⟨t0, t1, t2, rfl⟩

theorem reads_len (s : ByteArray) : ∀ (f i b : Nat) (ns : List Int) (ps : List ByteArray) (inP : Bool) (r : List Int × List ByteArray), reads s f i b ns ps inP = some r → ps.length ≤ 3 → r.2.length ≤ 3
  | 0, i, b, ns, ps, inP, r, h, hp => by
    rw [reads] at h
    split at h
    · rename_i hc
      injection h with h
      subst h
      cases inP
      · simpa [endPs] using hp
      · simp [endOk] at hc
        simp [endPs]; omega
    · cases h
  | f + 1, i, b, ns, ps, inP, r, h, hp => by
    rw [reads] at h
    have hq : endOk ns ps inP (s.extract b i) = true → (endPs ps inP (s.extract b i)).length ≤ 3 := fun hk => by
      cases inP
      · simpa [endPs] using hp
      · simp [endOk] at hk
        simp [endPs]; omega
    split at h
    · split at h
      · exact reads_len s f _ _ _ _ _ r h (hq ‹_›)
      · cases h
    · split at h
      · split at h
        · exact reads_len s f _ _ _ _ _ r h (hq ‹_›)
        · cases h
      · split at h
        · exact reads_len s f _ _ _ _ _ r h hp
        · cases h
theorem resP_len (s : ByteArray) : (resP s).length ≤ 3 := by
  unfold resP
  cases h : resAll s with
  | none => simp
  | some r => exact reads_len s _ _ _ _ _ _ r h (by simp)

set_option maxHeartbeats 4000000 in
set_option maxRecDepth 100000 in
theorem specParse_c (s : ByteArray) (hs : s.size ≤ 1048576) (w : World) :
    Calls Tryz.prog 128 #[.string s] w fun e w' => ∃ u, e = .returned (verOut s u) ∧ Reads w' u (strsV (resP s)) ∧ Below w.heap.size w w' := by
  obtain ⟨A0, B0⟩ := four_two w 30 30 (.int .i64 0) (.int .i64 0) (.int .i64 0) (.slice none 0 0) (.int .i64 0) (.int .i64 0) (.int .i64 0) (.slice none 0 0)
  have hbW := two_new (w := w) (.cells #[.int .i64 0, .int .i64 0, .int .i64 0, .slice none 0 0] 30) (.cells #[.int .i64 0, .int .i64 0, .int .i64 0, .slice none 0 0] 30)
  go_enter Tryz.func128, Tryz.ntmps128
  go_wp2
  go_loop [5] (fun vi => ∃ k : Nat, k ≤ s.size ∧ vi = .int .i64 (k : Int) ∧ Hid (∀ j, j < k → ¬ ((s.data[j]!).toNat : Int) = 45)) (fun vi => s.size - (intOf vi).toNat)
  case atStart => exact ⟨0, Nat.zero_le _, rfl, fun j hj => by omega⟩
  case round =>
    obtain ⟨k, hk, rfl, hh⟩ := hrel
    by_cases hlt : k < s.size
    · have hki : (k : Int) < (s.size : Int) := by omega
      by_cases h45 : ((s[k]).toNat : Int) = 45
      · have e45 : (((s[k]).toNat : Int) != 45) = false := by simpa using h45
        have HD : Hid (k < s.size → ((s.data[k]!).toNat : Int) = 45) := fun _ => by rw [byteBang s k hlt]; exact h45
        have hz : (s.extract (k + 1) s.size).size = s.size - (k + 1) := vsize s (k + 1) s.size (by omega) (Nat.le_refl _)
        obtain ⟨P, hP⟩ : ∃ P, P = splitS (s.extract (k + 1) s.size) 46 := ⟨_, rfl⟩
        have HP : Hid (P = if k < s.size then splitS (s.extract (k + 1) s.size) 46 else []) := by show _ = _; rw [hP, if_pos hlt]
        have HB : Hid (bulkS P ≤ 1048576) := by show _ ≤ _; rw [hP, vsplitS_bulk, hz]; omega
        have HSp : Hid (∀ w1, Calls Tryz.prog 127 #[.string (s.extract (k + 1) s.size), .int .u8 46] w1 fun e w' => ∃ v, e = .returned v ∧ w'.ownsRow w1.heap.size 9 1 v P.length (strsV P) ∧ Below w1.heap.size w1 w') := fun w1 => by rw [hP]; exact specSplit_c _ 46 w1 (by omega)
        clear h45 hz hP
        obtain ⟨L, hL⟩ : ∃ L, L = splitS (s.extract 0 k) 46 := ⟨_, rfl⟩
        have HL : Hid (L = splitS (s.extract 0 k) 46) := hL
        have hLz : (s.extract 0 k).size = k := by rw [vsize s 0 k (Nat.zero_le _) (by omega)]; omega
        have HLB : Hid (bulkS L ≤ 1048577) := by show _ ≤ _; rw [hL, vsplitS_bulk, hLz]; omega
        have HSL : Hid (∀ w1, Calls Tryz.prog 127 #[.string (s.extract 0 k), .int .u8 46] w1 fun e w' => ∃ v, e = .returned v ∧ w'.ownsRow w1.heap.size 9 1 v L.length (strsV L) ∧ Below w1.heap.size w1 w') := fun w1 => by rw [hL]; exact specSplit_c (s.extract 0 k) 46 w1 (by rw [hLz]; omega)
        clear hL hLz
        have hsW : ((w.alloc (.cells #[.int .i64 0, .int .i64 0, .int .i64 0, .slice none 0 0] 30)).alloc (.cells #[.int .i64 0, .int .i64 0, .int .i64 0, .slice none 0 0] 30)).heap.size = w.heap.size + 1 + 1 := by simp
        generalize ((w.alloc (.cells #[.int .i64 0, .int .i64 0, .int .i64 0, .slice none 0 0] 30)).alloc (.cells #[.int .i64 0, .int .i64 0, .int .i64 0, .slice none 0 0] 30)) = W0 at A0 B0 hbW hsW ⊢
        go_wp2_with fail
        go_at_call 127
        refine (HSp.out _).mono ?_
        rintro e w1 ⟨uP, rfl, o1, b1⟩
        obtain ⟨uq, uc, huP⟩ : ∃ q c, uP = .slice q P.length c := by obtain ⟨q, c, h, _⟩ := reads_of_owns o1; exact ⟨q, c, by simpa using h⟩
        rw [hsW] at o1
        have A1' := A0.keep b1
        have B1' := B0.keep b1
        obtain ⟨y0, y1, y2, y3⟩ := B1'.cells
        have fy := B1'.frozen 3
        have A1 := (Only.set (R := w.heap.size + 1) (base := w.heap.size + 1) w1 3 uP).four A1' (by omega) (by omega)
        have B1 := (four_set B1' uP).2.2.2
        have o1s := owns_set o1 (p := ⟨w.heap.size + 1, 3, none⟩) (by simp) uP
        have RP := reads_of_owns o1s
        have HPB : Hid (∀ bl, uP.ownBlock = some bl → w.heap.size + 1 < bl) := fun bl h => by have := (o1.lt bl h).1; omega
        have hB1 : Below w.heap.size w (w1.setCell ⟨w.heap.size + 1, 3, none⟩ uP) := (hbW.trans (b1.mono hbW.size)).setCell (by simp) _
        subst huP
        clear o1 o1s HSp hbW A0 B0 b1 A1'
        go_wp2_with fail
        clear y0 y1 y2 y3 fy B1'
        generalize w1.setCell ⟨w.heap.size + 1, 3, none⟩ (.slice uq P.length uc) = W1 at A1 B1 RP hB1 ⊢
        generalize (Value.slice uq P.length uc) = uP at B1 RP HPB ⊢
        obtain ⟨x0, x1, x2, x3⟩ := A1.cells
        have f1 := A1.frozen
        go_at_call 127
        refine (HSL.out W1).mono ?_
        rintro e w2 ⟨vl, rfl, o2, b2⟩
        have A2 := A1.keep b2
        have B2 := B1.keep b2
        have RP2 := RP.below b2
        have hw2 := hB1.trans (b2.mono hB1.size)
        obtain ⟨z0, z1, z2, z3⟩ := A2.cells
        have fz := A2.frozen
        obtain ⟨y0, y1, y2, y3⟩ := B2.cells
        have fy := B2.frozen
        clear A1 B1 RP x0 x1 x2 x3 f1 HSL b2
        by_cases h3 : L.length = 3
        · obtain ⟨t0, t1, t2, hL3⟩ := three_of h3
          have hlz : ∀ t ∈ L, t.size ≤ maxLen := fun t ht => by have := size_of_bulk ht; have := HLB.out; unfold maxLen; omega
          have hall : resAll s = if L.all (fun t => numGood t 9999) && decide (L.length = 3) && P.all partB && decide (P.length ≤ 3) then some (L.map (fun t => numOut t 9999), P) else none := res_spec s k hk HD.out hh.out L P HL.out HP.out
          subst hL3
          have hz0 := hlz t0 (by simp)
          have hz1 := hlz t1 (by simp)
          have hz2 := hlz t2 (by simp)
          obtain ⟨gl, cl, hvl⟩ : ∃ g cap, vl = .slice (some ⟨g, 0, none⟩) 3 cap := by
            rcases o2.2 with ⟨_, h⟩ | ⟨g, cap, cur, hv, _⟩
            · simp at h
            · exact ⟨g, cap, hv⟩
          subst hvl
          have l0 : w2.cell? ⟨gl, 0, none⟩ = some (.string t0) := by rw [o2.cellAt 0 (by simp)]; rfl
          have l1 : w2.cell? ⟨gl, 1, none⟩ = some (.string t1) := by rw [o2.cellAt 1 (by simp)]; rfl
          have l2 : w2.cell? ⟨gl, 2, none⟩ = some (.string t2) := by rw [o2.cellAt 2 (by simp)]; rfl
          have hall2 : resAll s = if numGood t0 9999 && (numGood t1 9999 && numGood t2 9999) && P.all partB && decide (P.length ≤ 3) then some ([numOut t0 9999, numOut t1 9999, numOut t2 9999], P) else none := by rw [hall]; simp
          have HALL : Hid (resAll s = if numGood t0 9999 && (numGood t1 9999 && numGood t2 9999) && P.all partB && decide (P.length ≤ 3) then some ([numOut t0 9999, numOut t1 9999, numOut t2 9999], P) else none) := hall2
          obtain ⟨m0, hm0⟩ : ∃ m, m = numOut t0 9999 := ⟨_, rfl⟩
          obtain ⟨m1, hm1⟩ : ∃ m, m = numOut t1 9999 := ⟨_, rfl⟩
          obtain ⟨m2, hm2⟩ : ∃ m, m = numOut t2 9999 := ⟨_, rfl⟩
          have N0 : Hid (∀ w1, Calls Tryz.prog 200 #[.string t0, .int .i64 9999] w1 fun e w' => e = .returned (.tuple #[.int .i64 m0, .bool (numGood t0 9999)]) ∧ w1 = w') := fun w1 => by rw [hm0]; exact specNum_c t0 9999 hz0 w1
          have N1 : Hid (∀ w1, Calls Tryz.prog 200 #[.string t1, .int .i64 9999] w1 fun e w' => e = .returned (.tuple #[.int .i64 m1, .bool (numGood t1 9999)]) ∧ w1 = w') := fun w1 => by rw [hm1]; exact specNum_c t1 9999 hz1 w1
          have N2 : Hid (∀ w1, Calls Tryz.prog 200 #[.string t2, .int .i64 9999] w1 fun e w' => e = .returned (.tuple #[.int .i64 m2, .bool (numGood t2 9999)]) ∧ w1 = w') := fun w1 => by rw [hm2]; exact specNum_c t2 9999 hz2 w1
          have I0 : Hid (numGood t0 9999 = true → inB m0 0 9999 = true) := fun h => by rw [hm0]; exact num_in h
          have I1 : Hid (numGood t1 9999 = true → inB m1 0 9999 = true) := fun h => by rw [hm1]; exact num_in h
          have I2 : Hid (numGood t2 9999 = true → inB m2 0 9999 = true) := fun h => by rw [hm2]; exact num_in h
          rw [← hm0, ← hm1, ← hm2] at HALL
          have B3 := (four_set ((four_set ((four_set B2 (.int .i64 m0)).1) (.int .i64 m1)).2.1) (.int .i64 m2)).2.2.1
          have A3 : Four (((w2.setCell ⟨w.heap.size + 1, 0, none⟩ (.int .i64 m0)).setCell ⟨w.heap.size + 1, 1, none⟩ (.int .i64 m1)).setCell ⟨w.heap.size + 1, 2, none⟩ (.int .i64 m2)) w.heap.size 30 (.int .i64 0) (.int .i64 0) (.int .i64 0) (.slice none 0 0) :=
            ((Only.set (R := w.heap.size + 1) (base := w.heap.size + 1) w2 0 (.int .i64 m0)).trans ((Only.set _ 1 (.int .i64 m1)).trans (Only.set _ 2 (.int .i64 m2)))).four A2 (by omega) (by omega)
          have hw3 : Below w.heap.size w (((w2.setCell ⟨w.heap.size + 1, 0, none⟩ (.int .i64 m0)).setCell ⟨w.heap.size + 1, 1, none⟩ (.int .i64 m1)).setCell ⟨w.heap.size + 1, 2, none⟩ (.int .i64 m2)) := ((hw2.setCell (by simp) _).setCell (by simp) _).setCell (by simp) _
          have RP3 := reads_set3 RP2 HPB.out (.int .i64 m0) (.int .i64 m1) (.int .i64 m2)
          obtain ⟨uq, un, uc, hup⟩ : ∃ q n c, uP = .slice q n c := by obtain ⟨q, c, h, _⟩ := RP2; exact ⟨_, _, _, h⟩
          subst hup
          clear hall hall2 hm0 hm1 hm2 hlz o2 HL HP RP2 HD hh
          go_wp2_with fail
          go_at_call 200
          refine (N0.out _).mono ?_
          rintro e w' ⟨rfl, rfl⟩
          go_wp2_with fail
          go_at_call 200
          refine (N1.out _).mono ?_
          rintro e w' ⟨rfl, rfl⟩
          go_wp2_with fail
          go_at_call 200
          refine (N2.out _).mono ?_
          rintro e w' ⟨rfl, rfl⟩
          clear N0 N1 N2
          obtain ⟨a0, a1, a2, a3⟩ := A3.cells
          have fa := A3.frozen
          obtain ⟨b0, b1, b2, b3⟩ := B3.cells
          clear l0 l1 l2
          cases hg0 : numGood t0 9999 with
          | false =>
            have hnone : resAll s = none := by rw [HALL.out, hg0]; rfl
            obtain ⟨ho1, ho2⟩ := out_none hnone
            go_wp2_with fail
            refine bodyPost_ret (v := .tuple #[.agg #[.int .i64 0, .int .i64 0, .int .i64 0, .slice none 0 0], .bool false]) (by simp [results, Tryz.results128, go_sem, a0, a1, a2, a3]) rfl ⟨.slice none 0 0, by rw [ho1], ?_, ?_⟩
            · rw [ho2]; exact ⟨none, 0, rfl, Nat.le_refl _, .inl rfl⟩
            · exact (((hw3.setCell (by simp) _).setCell (by simp) _).setCell (by simp) _).setCell (by simp) _
          | true =>
          cases hg1 : numGood t1 9999 with
          | false =>
            have hnone : resAll s = none := by rw [HALL.out, hg0, hg1]; rfl
            obtain ⟨ho1, ho2⟩ := out_none hnone
            go_wp2_with fail
            refine bodyPost_ret (v := .tuple #[.agg #[.int .i64 0, .int .i64 0, .int .i64 0, .slice none 0 0], .bool false]) (by simp [results, Tryz.results128, go_sem, a0, a1, a2, a3]) rfl ⟨.slice none 0 0, by rw [ho1], ?_, ?_⟩
            · rw [ho2]; exact ⟨none, 0, rfl, Nat.le_refl _, .inl rfl⟩
            · exact (((hw3.setCell (by simp) _).setCell (by simp) _).setCell (by simp) _).setCell (by simp) _
          | true =>
          cases hg2 : numGood t2 9999 with
          | false =>
            have hnone : resAll s = none := by rw [HALL.out, hg0, hg1, hg2]; rfl
            obtain ⟨ho1, ho2⟩ := out_none hnone
            go_wp2_with fail
            refine bodyPost_ret (v := .tuple #[.agg #[.int .i64 0, .int .i64 0, .int .i64 0, .slice none 0 0], .bool false]) (by simp [results, Tryz.results128, go_sem, a0, a1, a2, a3]) rfl ⟨.slice none 0 0, by rw [ho1], ?_, ?_⟩
            · rw [ho2]; exact ⟨none, 0, rfl, Nat.le_refl _, .inl rfl⟩
            · exact (((hw3.setCell (by simp) _).setCell (by simp) _).setCell (by simp) _).setCell (by simp) _
          | true =>
            have HV : Hid (resAll s = if verB m0 m1 m2 P then some ([m0, m1, m2], P) else none) := by
              show _ = _
              rw [HALL.out, hg0, hg1, hg2, verB, parts_all, I0.out hg0, I1.out hg1, I2.out hg2]
              simp
            go_wp2_with fail
            go_at_call 95
            refine (specVerOk_c m0 m1 m2 _ P _ RP3 HB.out).mono ?_
            rintro e w4 ⟨rfl, b4⟩
            have A4 := A3.keep b4
            have B4 := B3.keep b4
            have RP4 := RP3.below b4
            have hw4 := hw3.trans (b4.mono hw3.size)
            obtain ⟨p0, p1, p2, p3⟩ := A4.cells
            have fp := A4.frozen
            obtain ⟨q0, q1, q2, q3⟩ := B4.cells
            clear a0 a1 a2 a3 fa b0 b1 b2 b3 A3 B3 RP3 hw3 HALL b4 I0 I1 I2
            cases hv : verB m0 m1 m2 P with
            | false =>
              have hnone : resAll s = none := by rw [HV.out, hv]; rfl
              obtain ⟨ho1, ho2⟩ := out_none hnone
              go_wp2_with fail
              refine bodyPost_ret (v := .tuple #[.agg #[.int .i64 0, .int .i64 0, .int .i64 0, .slice none 0 0], .bool false]) (by simp [results, Tryz.results128, go_sem, p0, p1, p2, p3]) rfl ⟨.slice none 0 0, by rw [ho1], ?_, ?_⟩
              · rw [ho2]; exact ⟨none, 0, rfl, Nat.le_refl _, .inl rfl⟩
              · exact (((hw4.setCell (by simp) _).setCell (by simp) _).setCell (by simp) _).setCell (by simp) _
            | true =>
              have hsome : resAll s = some ([m0, m1, m2], P) := by rw [HV.out, hv]; rfl
              obtain ⟨ho1, ho2⟩ := out_some hsome (.slice uq un uc)
              go_wp2_with fail
              refine bodyPost_ret (v := .tuple #[.agg #[.int .i64 m0, .int .i64 m1, .int .i64 m2, .slice uq un uc], .bool true]) (by simp [results, Tryz.results128, go_sem, p0, p1, p2, p3]) rfl ⟨.slice uq un uc, by rw [ho1]; rfl, ?_, ?_⟩
              · rw [ho2]
                exact reads_set4 RP4 (fun bl h => by have := HPB.out bl h; omega) _ _ _ _
              · exact (((hw4.setCell (by simp) _).setCell (by simp) _).setCell (by simp) _).setCell (by simp) _
        · have hnone : resAll s = none := by rw [res_spec s k hk HD.out hh.out L P HL.out HP.out, if_neg (by simp [h3])]
          have h3' : ((L.length : Int) != 3) = true := by simp; omega
          obtain ⟨vq, vc, hvl⟩ : ∃ q c, vl = .slice q L.length c := by obtain ⟨q, c, h, _⟩ := reads_of_owns o2; exact ⟨q, c, by simpa using h⟩
          subst hvl
          clear o2 y0 y1 y2 y3 fy
          obtain ⟨ho1, ho2⟩ := out_none hnone
          go_wp2_with fail
          refine bodyPost_ret (v := .tuple #[.agg #[.int .i64 0, .int .i64 0, .int .i64 0, .slice none 0 0], .bool false]) (by simp [results, Tryz.results128, go_sem, z0, z1, z2, z3]) rfl ⟨.slice none 0 0, by rw [ho1], ?_, ?_⟩
          · rw [ho2]; exact ⟨none, 0, rfl, Nat.le_refl _, .inl rfl⟩
          · exact (((hw2.setCell (by simp) _).setCell (by simp) _).setCell (by simp) _).setCell (by simp) _
      · have e45 : (((s[k]).toNat : Int) != 45) = true := by simpa using h45
        go_wp2
        go_round
        case rel => exact ⟨k + 1, by omega, by go_num, fun j hj => (by
          by_cases e : j = k
          · subst e; rw [byteBang s j hlt]; exact h45
          · exact hh.out j (by omega))⟩
        case measure => simp [intOf]; omega
    · have hki : ¬ (k : Int) < (s.size : Int) := by omega
      have HD : Hid (k < s.size → ((s.data[k]!).toNat : Int) = 45) := fun h => absurd h hlt
      obtain ⟨P, hP⟩ : ∃ P : List ByteArray, P = [] := ⟨_, rfl⟩
      have HP : Hid (P = if k < s.size then splitS (s.extract (k + 1) s.size) 46 else []) := by show _ = _; rw [hP, if_neg hlt]
      have HB : Hid (bulkS P ≤ 1048576) := by show _ ≤ _; rw [hP]; simp [bulkS]
      obtain ⟨L, hL⟩ : ∃ L, L = splitS (s.extract 0 k) 46 := ⟨_, rfl⟩
      have HL : Hid (L = splitS (s.extract 0 k) 46) := hL
      have hLz : (s.extract 0 k).size = k := by rw [vsize s 0 k (Nat.zero_le _) (by omega)]; omega
      have HLB : Hid (bulkS L ≤ 1048577) := by show _ ≤ _; rw [hL, vsplitS_bulk, hLz]; omega
      have HSL : Hid (∀ w1, Calls Tryz.prog 127 #[.string (s.extract 0 k), .int .u8 46] w1 fun e w' => ∃ v, e = .returned v ∧ w'.ownsRow w1.heap.size 9 1 v L.length (strsV L) ∧ Below w1.heap.size w1 w') := fun w1 => by rw [hL]; exact specSplit_c (s.extract 0 k) 46 w1 (by rw [hLz]; omega)
      clear hL hLz
      have A1 := A0
      have B1 := B0
      have hB1 := hbW
      generalize ((w.alloc (.cells #[.int .i64 0, .int .i64 0, .int .i64 0, .slice none 0 0] 30)).alloc (.cells #[.int .i64 0, .int .i64 0, .int .i64 0, .slice none 0 0] 30)) = W1 at A1 B1 hB1 ⊢
      have RP : Reads W1 (.slice none 0 0) (strsV P) := by rw [hP]; exact ⟨none, 0, rfl, Nat.le_refl _, .inl rfl⟩
      have HPB : Hid (∀ bl, (Value.slice none 0 0).ownBlock = some bl → w.heap.size + 1 < bl) := fun bl h => by simp [Value.ownBlock] at h
      clear A0 B0 hbW hP
      go_wp2_with fail
      generalize (Value.slice none 0 0) = uP at B1 RP HPB
      obtain ⟨x0, x1, x2, x3⟩ := A1.cells
      have f1 := A1.frozen
      go_at_call 127
      refine (HSL.out W1).mono ?_
      rintro e w2 ⟨vl, rfl, o2, b2⟩
      have A2 := A1.keep b2
      have B2 := B1.keep b2
      have RP2 := RP.below b2
      have hw2 := hB1.trans (b2.mono hB1.size)
      obtain ⟨z0, z1, z2, z3⟩ := A2.cells
      have fz := A2.frozen
      obtain ⟨y0, y1, y2, y3⟩ := B2.cells
      have fy := B2.frozen
      clear A1 B1 RP x0 x1 x2 x3 f1 HSL b2
      by_cases h3 : L.length = 3
      · obtain ⟨t0, t1, t2, hL3⟩ := three_of h3
        have hlz : ∀ t ∈ L, t.size ≤ maxLen := fun t ht => by have := size_of_bulk ht; have := HLB.out; unfold maxLen; omega
        have hall : resAll s = if L.all (fun t => numGood t 9999) && decide (L.length = 3) && P.all partB && decide (P.length ≤ 3) then some (L.map (fun t => numOut t 9999), P) else none := res_spec s k hk HD.out hh.out L P HL.out HP.out
        subst hL3
        have hz0 := hlz t0 (by simp)
        have hz1 := hlz t1 (by simp)
        have hz2 := hlz t2 (by simp)
        obtain ⟨gl, cl, hvl⟩ : ∃ g cap, vl = .slice (some ⟨g, 0, none⟩) 3 cap := by
          rcases o2.2 with ⟨_, h⟩ | ⟨g, cap, cur, hv, _⟩
          · simp at h
          · exact ⟨g, cap, hv⟩
        subst hvl
        have l0 : w2.cell? ⟨gl, 0, none⟩ = some (.string t0) := by rw [o2.cellAt 0 (by simp)]; rfl
        have l1 : w2.cell? ⟨gl, 1, none⟩ = some (.string t1) := by rw [o2.cellAt 1 (by simp)]; rfl
        have l2 : w2.cell? ⟨gl, 2, none⟩ = some (.string t2) := by rw [o2.cellAt 2 (by simp)]; rfl
        have hall2 : resAll s = if numGood t0 9999 && (numGood t1 9999 && numGood t2 9999) && P.all partB && decide (P.length ≤ 3) then some ([numOut t0 9999, numOut t1 9999, numOut t2 9999], P) else none := by rw [hall]; simp
        have HALL : Hid (resAll s = if numGood t0 9999 && (numGood t1 9999 && numGood t2 9999) && P.all partB && decide (P.length ≤ 3) then some ([numOut t0 9999, numOut t1 9999, numOut t2 9999], P) else none) := hall2
        obtain ⟨m0, hm0⟩ : ∃ m, m = numOut t0 9999 := ⟨_, rfl⟩
        obtain ⟨m1, hm1⟩ : ∃ m, m = numOut t1 9999 := ⟨_, rfl⟩
        obtain ⟨m2, hm2⟩ : ∃ m, m = numOut t2 9999 := ⟨_, rfl⟩
        have N0 : Hid (∀ w1, Calls Tryz.prog 200 #[.string t0, .int .i64 9999] w1 fun e w' => e = .returned (.tuple #[.int .i64 m0, .bool (numGood t0 9999)]) ∧ w1 = w') := fun w1 => by rw [hm0]; exact specNum_c t0 9999 hz0 w1
        have N1 : Hid (∀ w1, Calls Tryz.prog 200 #[.string t1, .int .i64 9999] w1 fun e w' => e = .returned (.tuple #[.int .i64 m1, .bool (numGood t1 9999)]) ∧ w1 = w') := fun w1 => by rw [hm1]; exact specNum_c t1 9999 hz1 w1
        have N2 : Hid (∀ w1, Calls Tryz.prog 200 #[.string t2, .int .i64 9999] w1 fun e w' => e = .returned (.tuple #[.int .i64 m2, .bool (numGood t2 9999)]) ∧ w1 = w') := fun w1 => by rw [hm2]; exact specNum_c t2 9999 hz2 w1
        have I0 : Hid (numGood t0 9999 = true → inB m0 0 9999 = true) := fun h => by rw [hm0]; exact num_in h
        have I1 : Hid (numGood t1 9999 = true → inB m1 0 9999 = true) := fun h => by rw [hm1]; exact num_in h
        have I2 : Hid (numGood t2 9999 = true → inB m2 0 9999 = true) := fun h => by rw [hm2]; exact num_in h
        rw [← hm0, ← hm1, ← hm2] at HALL
        have B3 := (four_set ((four_set ((four_set B2 (.int .i64 m0)).1) (.int .i64 m1)).2.1) (.int .i64 m2)).2.2.1
        have A3 : Four (((w2.setCell ⟨w.heap.size + 1, 0, none⟩ (.int .i64 m0)).setCell ⟨w.heap.size + 1, 1, none⟩ (.int .i64 m1)).setCell ⟨w.heap.size + 1, 2, none⟩ (.int .i64 m2)) w.heap.size 30 (.int .i64 0) (.int .i64 0) (.int .i64 0) (.slice none 0 0) :=
          ((Only.set (R := w.heap.size + 1) (base := w.heap.size + 1) w2 0 (.int .i64 m0)).trans ((Only.set _ 1 (.int .i64 m1)).trans (Only.set _ 2 (.int .i64 m2)))).four A2 (by omega) (by omega)
        have hw3 : Below w.heap.size w (((w2.setCell ⟨w.heap.size + 1, 0, none⟩ (.int .i64 m0)).setCell ⟨w.heap.size + 1, 1, none⟩ (.int .i64 m1)).setCell ⟨w.heap.size + 1, 2, none⟩ (.int .i64 m2)) := ((hw2.setCell (by simp) _).setCell (by simp) _).setCell (by simp) _
        have RP3 := reads_set3 RP2 HPB.out (.int .i64 m0) (.int .i64 m1) (.int .i64 m2)
        obtain ⟨uq, un, uc, hup⟩ : ∃ q n c, uP = .slice q n c := by obtain ⟨q, c, h, _⟩ := RP2; exact ⟨_, _, _, h⟩
        subst hup
        clear hall hall2 hm0 hm1 hm2 hlz o2 HL HP RP2 HD hh
        go_wp2_with fail
        go_at_call 200
        refine (N0.out _).mono ?_
        rintro e w' ⟨rfl, rfl⟩
        go_wp2_with fail
        go_at_call 200
        refine (N1.out _).mono ?_
        rintro e w' ⟨rfl, rfl⟩
        go_wp2_with fail
        go_at_call 200
        refine (N2.out _).mono ?_
        rintro e w' ⟨rfl, rfl⟩
        clear N0 N1 N2
        obtain ⟨a0, a1, a2, a3⟩ := A3.cells
        have fa := A3.frozen
        obtain ⟨b0, b1, b2, b3⟩ := B3.cells
        clear l0 l1 l2
        cases hg0 : numGood t0 9999 with
        | false =>
          have hnone : resAll s = none := by rw [HALL.out, hg0]; rfl
          obtain ⟨ho1, ho2⟩ := out_none hnone
          go_wp2_with fail
          refine bodyPost_ret (v := .tuple #[.agg #[.int .i64 0, .int .i64 0, .int .i64 0, .slice none 0 0], .bool false]) (by simp [results, Tryz.results128, go_sem, a0, a1, a2, a3]) rfl ⟨.slice none 0 0, by rw [ho1], ?_, ?_⟩
          · rw [ho2]; exact ⟨none, 0, rfl, Nat.le_refl _, .inl rfl⟩
          · exact (((hw3.setCell (by simp) _).setCell (by simp) _).setCell (by simp) _).setCell (by simp) _
        | true =>
        cases hg1 : numGood t1 9999 with
        | false =>
          have hnone : resAll s = none := by rw [HALL.out, hg0, hg1]; rfl
          obtain ⟨ho1, ho2⟩ := out_none hnone
          go_wp2_with fail
          refine bodyPost_ret (v := .tuple #[.agg #[.int .i64 0, .int .i64 0, .int .i64 0, .slice none 0 0], .bool false]) (by simp [results, Tryz.results128, go_sem, a0, a1, a2, a3]) rfl ⟨.slice none 0 0, by rw [ho1], ?_, ?_⟩
          · rw [ho2]; exact ⟨none, 0, rfl, Nat.le_refl _, .inl rfl⟩
          · exact (((hw3.setCell (by simp) _).setCell (by simp) _).setCell (by simp) _).setCell (by simp) _
        | true =>
        cases hg2 : numGood t2 9999 with
        | false =>
          have hnone : resAll s = none := by rw [HALL.out, hg0, hg1, hg2]; rfl
          obtain ⟨ho1, ho2⟩ := out_none hnone
          go_wp2_with fail
          refine bodyPost_ret (v := .tuple #[.agg #[.int .i64 0, .int .i64 0, .int .i64 0, .slice none 0 0], .bool false]) (by simp [results, Tryz.results128, go_sem, a0, a1, a2, a3]) rfl ⟨.slice none 0 0, by rw [ho1], ?_, ?_⟩
          · rw [ho2]; exact ⟨none, 0, rfl, Nat.le_refl _, .inl rfl⟩
          · exact (((hw3.setCell (by simp) _).setCell (by simp) _).setCell (by simp) _).setCell (by simp) _
        | true =>
          have HV : Hid (resAll s = if verB m0 m1 m2 P then some ([m0, m1, m2], P) else none) := by
            show _ = _
            rw [HALL.out, hg0, hg1, hg2, verB, parts_all, I0.out hg0, I1.out hg1, I2.out hg2]
            simp
          go_wp2_with fail
          go_at_call 95
          refine (specVerOk_c m0 m1 m2 _ P _ RP3 HB.out).mono ?_
          rintro e w4 ⟨rfl, b4⟩
          have A4 := A3.keep b4
          have B4 := B3.keep b4
          have RP4 := RP3.below b4
          have hw4 := hw3.trans (b4.mono hw3.size)
          obtain ⟨p0, p1, p2, p3⟩ := A4.cells
          have fp := A4.frozen
          obtain ⟨q0, q1, q2, q3⟩ := B4.cells
          clear a0 a1 a2 a3 fa b0 b1 b2 b3 A3 B3 RP3 hw3 HALL b4 I0 I1 I2
          cases hv : verB m0 m1 m2 P with
          | false =>
            have hnone : resAll s = none := by rw [HV.out, hv]; rfl
            obtain ⟨ho1, ho2⟩ := out_none hnone
            go_wp2_with fail
            refine bodyPost_ret (v := .tuple #[.agg #[.int .i64 0, .int .i64 0, .int .i64 0, .slice none 0 0], .bool false]) (by simp [results, Tryz.results128, go_sem, p0, p1, p2, p3]) rfl ⟨.slice none 0 0, by rw [ho1], ?_, ?_⟩
            · rw [ho2]; exact ⟨none, 0, rfl, Nat.le_refl _, .inl rfl⟩
            · exact (((hw4.setCell (by simp) _).setCell (by simp) _).setCell (by simp) _).setCell (by simp) _
          | true =>
            have hsome : resAll s = some ([m0, m1, m2], P) := by rw [HV.out, hv]; rfl
            obtain ⟨ho1, ho2⟩ := out_some hsome (.slice uq un uc)
            go_wp2_with fail
            refine bodyPost_ret (v := .tuple #[.agg #[.int .i64 m0, .int .i64 m1, .int .i64 m2, .slice uq un uc], .bool true]) (by simp [results, Tryz.results128, go_sem, p0, p1, p2, p3]) rfl ⟨.slice uq un uc, by rw [ho1]; rfl, ?_, ?_⟩
            · rw [ho2]
              exact reads_set4 RP4 (fun bl h => by have := HPB.out bl h; omega) _ _ _ _
            · exact (((hw4.setCell (by simp) _).setCell (by simp) _).setCell (by simp) _).setCell (by simp) _
      · have hnone : resAll s = none := by rw [res_spec s k hk HD.out hh.out L P HL.out HP.out, if_neg (by simp [h3])]
        have h3' : ((L.length : Int) != 3) = true := by simp; omega
        obtain ⟨vq, vc, hvl⟩ : ∃ q c, vl = .slice q L.length c := by obtain ⟨q, c, h, _⟩ := reads_of_owns o2; exact ⟨q, c, by simpa using h⟩
        subst hvl
        clear o2 y0 y1 y2 y3 fy
        obtain ⟨ho1, ho2⟩ := out_none hnone
        go_wp2_with fail
        refine bodyPost_ret (v := .tuple #[.agg #[.int .i64 0, .int .i64 0, .int .i64 0, .slice none 0 0], .bool false]) (by simp [results, Tryz.results128, go_sem, z0, z1, z2, z3]) rfl ⟨.slice none 0 0, by rw [ho1], ?_, ?_⟩
        · rw [ho2]; exact ⟨none, 0, rfl, Nat.le_refl _, .inl rfl⟩
        · exact (((hw2.setCell (by simp) _).setCell (by simp) _).setCell (by simp) _).setCell (by simp) _
end Go.Proofs.YtlfmefojcmpfeaaGreatDoor

/-! A text that the reader takes as a version is the text of that version; no condition. -/
namespace Go.Proofs.YtlfmefojcmpfeaaGreatDoor
open Go.RowKit
set_option linter.unusedSimpArgs false
set_option linter.unusedVariables false

theorem vempty_add (x : ByteArray) : (⟨#[]⟩ : ByteArray) ++ x = x := by
  apply vext
  simp
theorem vjoinUpto_cons (x : ByteArray) (xs : List ByteArray) (t : ByteArray) : ∀ k, joinUpto (x :: xs) t (k + 2) = x ++ t ++ joinUpto xs t (k + 1)
  | 0 => by
    simp [joinUpto, vempty_add]
  | k + 1 => by
    rw [joinUpto, if_neg (by omega), vjoinUpto_cons x xs t k]
    conv => rhs; rw [joinUpto, if_neg (by omega)]
    simp [List.getD_cons_succ, ByteArray.append_assoc]
theorem vjoinS_cons (x : ByteArray) (xs : List ByteArray) (t : ByteArray) (h : xs ≠ []) : joinS (x :: xs) t = x ++ t ++ joinS xs t := by
  obtain ⟨n, hn⟩ : ∃ n, xs.length = n + 1 := ⟨xs.length - 1, by have := List.length_pos_iff.2 h; omega⟩
  rw [joinS, joinS, List.length_cons, hn]
  exact vjoinUpto_cons x xs t n
theorem vjoinS_one (x t : ByteArray) : joinS [x] t = x := by simp [joinS, joinUpto, vempty_add]
theorem vsplitGo_ne (s : ByteArray) (c : Int) : ∀ n i b, splitGo s c n i b ≠ []
  | 0, i, b => by simp [splitGo]
  | n + 1, i, b => by
    rw [splitGo]
    split
    · simp
    · exact vsplitGo_ne s c n (i + 1) b
theorem vcut_back (s : ByteArray) (b i : Nat) (u : UInt8) (hb : b ≤ i) (hi : i < s.size) (hc : s.data[i]! = u) : s.extract b i ++ ⟨#[u]⟩ ++ s.extract (i + 1) s.size = s.extract b s.size := by
  apply vext
  have hlen := vlen s
  simp only [ByteArray.data_append, Array.toList_append, vextract]
  have h1 : s.data.toList.drop i = s.data[i]! :: s.data.toList.drop (i + 1) := by
    have h2 : i < s.data.toList.length := by omega
    rw [List.drop_eq_getElem_cons h2]
    congr 1
    rw [getElem!_pos s.data i hi]
    rfl
  have h3 : (s.data.toList.drop b).take (s.size - b) = s.data.toList.drop b := List.take_of_length_le (by simp)
  have h4 : (s.data.toList.drop (i + 1)).take (s.size - (i + 1)) = s.data.toList.drop (i + 1) := List.take_of_length_le (by simp)
  rw [h3, h4, List.append_assoc, List.singleton_append, ← hc, ← h1]
  have h5 : s.data.toList.drop i = (s.data.toList.drop b).drop (i - b) := by rw [List.drop_drop]; congr 1; omega
  rw [h5, List.take_append_drop]
theorem byte_of {x : UInt8} {n : Nat} (h : (x.toNat : Int) = (n : Int)) : x = UInt8.ofNat n := by
  have : x.toNat = n := by omega
  rw [← this]; simp
theorem vsplit_back (s : ByteArray) : ∀ (n i b : Nat), n = s.size - i → b ≤ i → i ≤ s.size → joinS (splitGo s 46 (s.size - i) i b) ⟨#[46]⟩ = s.extract b s.size
  | 0, i, b, hn, hb, hi => by
    obtain rfl : i = s.size := by omega
    rw [splitGo_end, vjoinS_one]
  | n + 1, i, b, hn, hb, hi => by
    have hlt : i < s.size := by omega
    by_cases h : ((s.data[i]!).toNat : Int) = 46
    · rw [splitGo_hit s 46 i b hlt h, vjoinS_cons _ _ _ (vsplitGo_ne _ _ _ _ _), vsplit_back s n (i + 1) (i + 1) (by omega) (Nat.le_refl _) (by omega)]
      exact vcut_back s b i 46 hb hlt (byte_of (n := 46) h)
    · rw [splitGo_miss s 46 i b hlt h]
      exact vsplit_back s n (i + 1) b (by omega) (by omega) (by omega)
theorem vwhole (s : ByteArray) : s.extract 0 s.size = s := by
  apply vext
  rw [vextract, List.drop_zero]
  exact List.take_of_length_le (by rw [vlen]; omega)
theorem vsplit_join (s : ByteArray) : joinS (splitS s 46) ⟨#[46]⟩ = s := by
  have := vsplit_back s s.size 0 0 rfl (Nat.le_refl _) (Nat.zero_le _)
  have e : splitS s 46 = splitGo s 46 (s.size - 0) 0 0 := rfl
  rw [e, this, vwhole]

/-- What is read, told anew, is the text. -/
theorem text_back (s : ByteArray) (k : Nat) (hk : k ≤ s.size) (hd : k < s.size → ((s.data[k]!).toNat : Int) = 45) (t0 t1 t2 : ByteArray) (P : List ByteArray) (hL : [t0, t1, t2] = splitS (s.extract 0 k) 46) (hP : P = if k < s.size then splitS (s.extract (k + 1) s.size) 46 else [])
    (g0 : numGood t0 9999 = true) (g1 : numGood t1 9999 = true) (g2 : numGood t2 9999 = true) (gp : P.all partB = true) (gl : P.length ≤ 3) : verT (numOut t0 9999) (numOut t1 9999) (numOut t2 9999) P = s := by
  have hv : verB (numOut t0 9999) (numOut t1 9999) (numOut t2 9999) P = true := by
    rw [verB, parts_all, gp, num_in g0, num_in g1, num_in g2, decide_eq_true gl]; rfl
  have hc : coreT (numOut t0 9999) (numOut t1 9999) (numOut t2 9999) = s.extract 0 k := by
    rw [coreT, (num_str g0).1, (num_str g1).1, (num_str g2).1, ← join_three, hL, vsplit_join]
  rw [verT, hv, if_pos rfl, hc]
  by_cases h : k < s.size
  · rw [if_pos h] at hP
    have hp : 0 < P.length := by rw [hP]; exact List.length_pos_iff.2 (vsplitGo_ne _ _ _ _ _)
    rw [if_pos hp, hP, vsplit_join, vcut_back s 0 k 45 (Nat.zero_le _) h (byte_of (n := 45) (hd h)), vwhole]
  · rw [if_neg h] at hP
    subst hP
    rw [if_neg (by simp), show k = s.size by omega, vwhole]

theorem res_back (s : ByteArray) (ns : List Int) (ps : List ByteArray) (h : resAll s = some (ns, ps)) : ∃ a b c, ns = [a, b, c] ∧ verT a b c ps = s := by
  obtain ⟨k, hk, hd, hn⟩ : ∃ k, k ≤ s.size ∧ (k < s.size → ((s.data[k]!).toNat : Int) = 45) ∧ ∀ j, j < k → ¬ ((s.data[j]!).toNat : Int) = 45 := by
    have : ∀ n, n ≤ s.size → (∃ k, k ≤ n ∧ (k < n → ((s.data[k]!).toNat : Int) = 45) ∧ ∀ j, j < k → ¬ ((s.data[j]!).toNat : Int) = 45) := by
      intro n
      induction n with
      | zero => exact fun _ => ⟨0, Nat.le_refl _, fun h => by omega, fun j h => by omega⟩
      | succ n ih =>
        intro hle
        obtain ⟨k, h1, h2, h3⟩ := ih (by omega)
        by_cases hkn : k < n
        · exact ⟨k, by omega, fun _ => h2 hkn, h3⟩
        · have : k = n := by omega
          subst this
          by_cases hc : ((s.data[k]!).toNat : Int) = 45
          · exact ⟨k, by omega, fun _ => hc, h3⟩
          · refine ⟨k + 1, Nat.le_refl _, fun h => by omega, fun j hj => ?_⟩
            by_cases e : j = k
            · subst e; exact hc
            · exact h3 j (by omega)
    exact this s.size (Nat.le_refl _)
  obtain ⟨L, hL⟩ : ∃ L, L = splitS (s.extract 0 k) 46 := ⟨_, rfl⟩
  obtain ⟨P, hP⟩ : ∃ P, P = if k < s.size then splitS (s.extract (k + 1) s.size) 46 else [] := ⟨_, rfl⟩
  rw [res_spec s k hk hd hn L P hL hP] at h
  split at h
  · rename_i hg
    simp only [Bool.and_eq_true, decide_eq_true_eq] at hg
    obtain ⟨⟨⟨g1, g2⟩, g3⟩, g4⟩ := hg
    obtain ⟨t0, t1, t2, h3⟩ := three_of g2
    subst h3
    simp only [List.all_cons, List.all_nil, Bool.and_true, Bool.and_eq_true] at g1
    injection h with h
    injection h with h1 h2
    subst h1 h2
    exact ⟨_, _, _, rfl, text_back s k hk hd t0 t1 t2 _ hL hP g1.1 g1.2.1 g1.2.2 g3 g4⟩
  · cases h
#print axioms res_back
end Go.Proofs.YtlfmefojcmpfeaaGreatDoor

/-! The text of a version is read as that version; no condition. -/
namespace Go.Proofs.YtlfmefojcmpfeaaGreatDoor
open Go.RowKit
set_option linter.unusedSimpArgs false
set_option linter.unusedVariables false

theorem vat_drop (s : ByteArray) (b i : Nat) (l : List UInt8) (h : s.data.toList.drop b = l) (hi : i < l.length) : s.data[b + i]! = l[i] := by
  subst h
  have h1 : b + i < s.data.toList.length := by rw [List.length_drop] at hi; omega
  have h2 : b + i < s.data.size := by rw [← Array.length_toList]; exact h1
  rw [getElem!_pos s.data (b + i) h2, List.getElem_drop, Array.getElem_toList]
theorem vsplit_hit (s : ByteArray) (c : Int) (b m : Nat) (hm : m < s.size) (hc : ((s.data[m]!).toNat : Int) = c) : ∀ n i, n = m - i → i ≤ m → (∀ j, i ≤ j → j < m → ¬ ((s.data[j]!).toNat : Int) = c) → splitGo s c (s.size - i) i b = s.extract b m :: splitGo s c (s.size - (m + 1)) (m + 1) (m + 1)
  | 0, i, hn, hi, hj => by
    obtain rfl : i = m := by omega
    exact splitGo_hit s c i b hm hc
  | n + 1, i, hn, hi, hj => by
    rw [splitGo_miss s c i b (by omega) (hj i (Nat.le_refl _) (by omega))]
    exact vsplit_hit s c b m hm hc n (i + 1) (by omega) (by omega) (fun j h1 h2 => hj j (by omega) h2)
theorem vsplit_end (s : ByteArray) (c : Int) (b : Nat) : ∀ n i, n = s.size - i → i ≤ s.size → (∀ j, i ≤ j → j < s.size → ¬ ((s.data[j]!).toNat : Int) = c) → splitGo s c (s.size - i) i b = [s.extract b s.size]
  | 0, i, hn, hi, hj => by
    obtain rfl : i = s.size := by omega
    exact splitGo_end s c b
  | n + 1, i, hn, hi, hj => by
    rw [splitGo_miss s c i b (by omega) (hj i (Nat.le_refl _) (by omega))]
    exact vsplit_end s c b n (i + 1) (by omega) (by omega) (fun j h1 h2 => hj j (by omega) h2)

/-- A text holds no such byte. -/
def noneB (c : Nat) (x : ByteArray) : Prop := ∀ u, u ∈ x.data.toList → u.toNat ≠ c

theorem vsplit_told (s : ByteArray) : ∀ (ps : List ByteArray) (b : Nat), ps ≠ [] → (∀ x, x ∈ ps → noneB 46 x) → b ≤ s.size → s.data.toList.drop b = (joinS ps ⟨#[46]⟩).data.toList → splitGo s 46 (s.size - b) b b = ps
  | [], b, h, _, _, _ => absurd rfl h
  | [x], b, _, hx, hb, hs => by
    rw [vjoinS_one] at hs
    have hl : s.size - b = x.size := by rw [← vlen s, ← vlen x, ← hs, List.length_drop]
    rw [vsplit_end s 46 b (s.size - b) b rfl hb]
    · congr 1
      apply vext
      rw [vextract, hs]
      exact List.take_of_length_le (by rw [vlen]; omega)
    · intro j h1 h2 h3
      have h4 : j - b < x.data.toList.length := by rw [vlen]; omega
      have := vat_drop s b (j - b) _ hs h4
      rw [show b + (j - b) = j by omega] at this
      rw [this] at h3
      exact hx x (by simp) _ (List.getElem_mem h4) (by omega)
  | x :: y :: xs, b, _, hx, hb, hs => by
    rw [vjoinS_cons _ _ _ (by simp)] at hs
    obtain ⟨r, hr⟩ : ∃ r, r = joinS (y :: xs) ⟨#[46]⟩ := ⟨_, rfl⟩
    rw [← hr] at hs
    simp only [ByteArray.data_append, Array.toList_append] at hs
    have hl : s.size - b = x.size + 1 + r.size := by
      have := congrArg List.length hs
      rw [List.length_drop, vlen, List.length_append, List.length_append, vlen, vlen] at this
      exact this
    have hm : ((s.data[b + x.size]!).toNat : Int) = 46 := by
      rw [vat_drop s b x.size _ hs (by rw [List.length_append, List.length_append, vlen]; simp; omega)]
      rw [List.getElem_append_left (by rw [List.length_append, vlen]; simp), List.getElem_append_right (by rw [vlen]; exact Nat.le_refl _)]
      simp [vlen]
    rw [vsplit_hit s 46 b (b + x.size) (by omega) hm x.size b (by omega) (by omega)]
    · congr 1
      · apply vext
        rw [vextract, hs, List.append_assoc, show b + x.size - b = x.data.toList.length by rw [vlen]; omega, List.take_left']
        rfl
      · refine vsplit_told s (y :: xs) (b + x.size + 1) (by simp) (fun z hz => hx z (by simp at hz ⊢; exact .inr hz)) (by omega) ?_
        rw [show b + x.size + 1 = b + (x.size + 1) by omega, ← List.drop_drop, hs, ← hr]
        exact List.drop_left' (by rw [List.length_append, vlen]; rfl)
    · intro j h1 h2 h3
      have h4 : j - b < x.data.toList.length := by rw [vlen]; omega
      have := vat_drop s b (j - b) _ hs (by rw [List.length_append, List.length_append]; omega)
      rw [show b + (j - b) = j by omega, List.getElem_append_left (by rw [List.length_append]; omega), List.getElem_append_left h4] at this
      rw [this] at h3
      exact hx x (by simp) _ (List.getElem_mem h4) (by omega)
theorem vsplit_of_join (ps : List ByteArray) (h : ps ≠ []) (hx : ∀ x, x ∈ ps → noneB 46 x) : splitS (joinS ps ⟨#[46]⟩) 46 = ps :=
  vsplit_told _ ps 0 h hx (Nat.zero_le _) (by simp)

theorem vdec_ne : ∀ n, 0 < (Lib.decDigits n).length := by
  intro n
  by_cases h : n < 10
  · rw [vdec_one h]; simp
  · rw [vdec_step h]; simp
theorem vdec_digit (n : Nat) : ∀ u, u ∈ Lib.decDigits n → 48 ≤ u.toNat ∧ u.toNat ≤ 57 := by
  induction n using Nat.strongRecOn with
  | ind n ih =>
    intro u hu
    by_cases h : n < 10
    · rw [vdec_one h, List.mem_singleton] at hu
      subst hu
      simp only [UInt8.toNat_ofNat']
      omega
    · rw [vdec_step h, List.mem_append, List.mem_singleton] at hu
      rcases hu with hu | hu
      · exact ih (n / 10) (by omega) u hu
      · subst hu
        simp only [UInt8.toNat_ofNat']
        omega
theorem vdec_head (n : Nat) (hn : 1 ≤ n) : ∀ u, (Lib.decDigits n)[0]? = some u → u.toNat ≠ 48 := by
  induction n using Nat.strongRecOn with
  | ind n ih =>
    intro u hu
    by_cases h : n < 10
    · rw [vdec_one h, List.getElem?_cons_zero] at hu
      injection hu with hu
      subst hu
      simp only [UInt8.toNat_ofNat']
      omega
    · rw [vdec_step h, List.getElem?_append_left (vdec_ne _)] at hu
      exact ih (n / 10) (by omega) (by omega) u hu
theorem vdec_num (s : ByteArray) : ∀ n k, s.data.toList.take k = Lib.decDigits n → k ≤ s.size → numUpto s k = (n : Int) := by
  intro n
  induction n using Nat.strongRecOn with
  | ind n ih =>
    intro k hk hs
    cases k with
    | zero => exact absurd (vdec_ne n) (by rw [← hk]; simp)
    | succ k =>
      rw [vtake_snoc s k (by omega)] at hk
      have e : numUpto s (k + 1) = numUpto s k * 10 + (((s.data[k]!).toNat : Int) - 48) := rfl
      rw [e]
      by_cases h : n < 10
      · rw [vdec_one h] at hk
        have h1 := List.append_inj' (s₁ := s.data.toList.take k) (s₂ := []) (t₁ := [s.data[k]!]) (t₂ := [UInt8.ofNat (48 + n)]) (by simpa using hk) rfl
        have h2 : k = 0 := by
          have := congrArg List.length h1.1
          rw [List.length_take, vlen, List.length_nil] at this
          omega
        subst h2
        have h3 : s.data[0]! = UInt8.ofNat (48 + n) := by simpa using h1.2
        rw [h3]
        simp only [UInt8.toNat_ofNat', numUpto]
        omega
      · rw [vdec_step h] at hk
        have h1 := List.append_inj' hk rfl
        have h3 : s.data[k]! = UInt8.ofNat (48 + n % 10) := by simpa using h1.2
        rw [ih (n / 10) (by omega) k h1.1 (by omega), h3]
        simp only [UInt8.toNat_ofNat']
        omega
theorem told_num (n : Nat) : numUpto (numStr n) (numStr n).size = (n : Int) :=
  vdec_num (numStr n) n _ (by
    show (Lib.decDigits n).toArray.toList.take _ = _
    rw [List.take_of_length_le]
    exact Nat.le_of_eq (vlen (numStr n))) (Nat.le_refl _)
theorem told_none (c n : Nat) (hc : c < 48) : noneB c (numStr n) := fun u hu he => by
  have := vdec_digit n u hu
  omega

theorem allUpto_of {p : Nat → Int → Bool} {s : ByteArray} : ∀ {n : Nat}, (∀ k, k < n → p k ((s.data[k]!).toNat : Int) = true) → allUpto p s n = true
  | 0, _ => rfl
  | n + 1, h => by
    rw [allUpto, allUpto_of (fun k hk => h k (by omega)), h n (by omega)]; rfl
theorem vat_mem (s : ByteArray) (k : Nat) (h : k < s.size) : s.data[k]! ∈ s.data.toList := by
  have h1 : k < s.data.toList.length := by rw [vlen]; exact h
  have := vat_drop s 0 k _ rfl (by simpa using h1)
  rw [Nat.zero_add] at this
  rw [this]
  simp
theorem told_good (n : Nat) (h : n ≤ 9999) : numGood (numStr n) 9999 = true := by
  have h1 : 1 ≤ (numStr n).size := by rw [← vlen]; exact vdec_ne n
  have h2 := numStr_four n h
  have h3 : allUpto okDigit (numStr n) (numStr n).size = true := allUpto_of (fun k hk => by
    have := vdec_digit n _ (vat_mem (numStr n) k hk)
    rw [okDigit, digitB, decide_eq_true (by omega), decide_eq_true (by omega)]; rfl)
  have h4 : (decide (1 < (numStr n).size) && (((numStr n).data[0]!).toNat : Int) == 48) = false := by
    by_cases hl : 1 < (numStr n).size
    · have hn : 1 ≤ n := by
        cases n with
        | zero =>
          rw [← vlen] at hl
          have e : (numStr 0).data.toList = Lib.decDigits 0 := rfl
          rw [e, vdec_one (by omega)] at hl
          simp at hl
        | succ n => omega
      have h5 : (Lib.decDigits n)[0]? = some ((numStr n).data[0]!) := by
        have := vat_drop (numStr n) 0 0 (Lib.decDigits n) rfl (vdec_ne n)
        rw [Nat.add_zero] at this
        rw [this]
        exact List.getElem?_eq_getElem (vdec_ne n)
      have h6 := vdec_head n hn _ h5
      have h7 : ¬ (((numStr n).data[0]!).toNat : Int) = 48 := by omega
      rw [beq_eq_false_iff_ne.2 h7, Bool.and_false]
    · rw [decide_eq_false hl]; rfl
  rw [numGood, h3, h4, told_num, inB, decide_eq_true (by omega), decide_eq_true (by omega), decide_eq_true (by omega)]; rfl
theorem told_out (n : Nat) (h : n ≤ 9999) : numOut (numStr n) 9999 = (n : Int) := by
  rw [numOut_good (told_good n h), told_num]
theorem part_none {x : ByteArray} (h : partB x = true) : noneB 46 x := by
  intro u hu he
  simp only [partB, Bool.and_eq_true] at h
  obtain ⟨k, hk, e⟩ := List.getElem_of_mem hu
  have h1 := allUpto_at h.1.1 k (by rw [← vlen]; exact hk)
  have h2 := vat_drop x 0 k _ rfl hk
  rw [Nat.zero_add] at h2
  rw [h2] at h1
  have h3 : (x.data.toList.drop 0)[k] = u := e
  rw [h3, okPre, preB, he] at h1
  exact absurd h1 (by decide)
theorem core_none (a b c : Int) : noneB 45 (coreT a b c) := by
  intro u hu
  simp only [coreT, ByteArray.data_append, Array.toList_append, List.mem_append, List.mem_singleton] at hu
  rcases hu with (((hu | hu) | hu) | hu) | hu
  · exact told_none 45 _ (by omega) u hu
  · subst hu; decide
  · exact told_none 45 _ (by omega) u hu
  · subst hu; decide
  · exact told_none 45 _ (by omega) u hu
theorem core_split (a b c : Int) : splitS (coreT a b c) 46 = [numStr a.toNat, numStr b.toNat, numStr c.toNat] := by
  have e : coreT a b c = joinS [numStr a.toNat, numStr b.toNat, numStr c.toNat] ⟨#[46]⟩ := by rw [join_three]; rfl
  rw [e]
  refine vsplit_of_join _ (by simp) (fun x hx => ?_)
  simp at hx
  rcases hx with rfl | rfl | rfl <;> exact told_none 46 _ (by omega)
theorem in_nat {a : Int} (h : inB a 0 9999 = true) : ((a.toNat : Nat) : Int) = a ∧ a.toNat ≤ 9999 := by
  simp only [inB, Bool.and_eq_true, decide_eq_true_eq] at h
  omega

/-- What is told is read. -/
theorem res_told (a b c : Int) (ps : List ByteArray) (h : verB a b c ps = true) : resAll (verT a b c ps) = some ([a, b, c], ps) := by
  have h0 := h
  simp only [verB, Bool.and_eq_true, decide_eq_true_eq, parts_all] at h
  obtain ⟨⟨⟨⟨gp, ga⟩, gb⟩, gc⟩, gl⟩ := h
  obtain ⟨ea, la⟩ := in_nat ga
  obtain ⟨eb, lb⟩ := in_nat gb
  obtain ⟨ec, lc⟩ := in_nat gc
  rw [verT, h0, if_pos rfl]
  have fin : ∀ (s : ByteArray) (k : Nat), k ≤ s.size → (k < s.size → ((s.data[k]!).toNat : Int) = 45) → (∀ j, j < k → ¬ ((s.data[j]!).toNat : Int) = 45) → s.extract 0 k = coreT a b c → (ps = if k < s.size then splitS (s.extract (k + 1) s.size) 46 else []) → resAll s = some ([a, b, c], ps) := by
    intro s k hk hd hn h1 h2
    rw [res_spec s k hk hd hn [numStr a.toNat, numStr b.toNat, numStr c.toNat] ps (by rw [h1, core_split]) h2]
    rw [gp, decide_eq_true gl]
    simp only [List.all_cons, List.all_nil, List.map_cons, List.map_nil, told_good _ la, told_good _ lb, told_good _ lc, told_out _ la, told_out _ lb, told_out _ lc, ea, eb, ec, List.length_cons, List.length_nil]
    rfl
  by_cases hp : 0 < ps.length
  · rw [if_pos hp]
    obtain ⟨r, hr⟩ : ∃ r, r = joinS ps ⟨#[46]⟩ := ⟨_, rfl⟩
    rw [← hr]
    have hd : (coreT a b c ++ ⟨#[45]⟩ ++ r).data.toList = (coreT a b c).data.toList ++ [45] ++ r.data.toList := by
      simp only [ByteArray.data_append, Array.toList_append]
    have hcn := core_none a b c
    generalize coreT a b c = K at *
    have hsz : (K ++ ⟨#[45]⟩ ++ r).size = K.size + 1 + r.size := by
      rw [← vlen, hd, List.length_append, List.length_append, vlen, vlen]; rfl
    generalize K ++ ⟨#[45]⟩ ++ r = s at *
    have hd0 : s.data.toList.drop 0 = K.data.toList ++ [45] ++ r.data.toList := by rw [List.drop_zero, hd]
    refine fin s K.size (by omega) (fun _ => ?_) (fun j hj he => ?_) ?_ ?_
    · have := vat_drop s 0 K.size _ hd0 (by rw [List.length_append, List.length_append, vlen]; simp; omega)
      rw [Nat.zero_add] at this
      rw [this, List.getElem_append_left (by rw [List.length_append, vlen]; simp), List.getElem_append_right (by rw [vlen]; exact Nat.le_refl _)]
      simp [vlen]
    · have h4 : j < K.data.toList.length := by rw [vlen]; exact hj
      have := vat_drop s 0 j _ hd0 (by rw [List.length_append, List.length_append]; omega)
      rw [Nat.zero_add, List.getElem_append_left (by rw [List.length_append]; omega), List.getElem_append_left h4] at this
      rw [this] at he
      exact hcn _ (List.getElem_mem h4) (by omega)
    · apply vext
      rw [vextract, hd0, List.append_assoc, Nat.sub_zero]
      exact List.take_left' (vlen K)
    · rw [if_pos (by omega)]
      have e : s.extract (K.size + 1) s.size = r := by
        apply vext
        rw [vextract, hd, List.drop_left' (by rw [List.length_append, vlen]; rfl)]
        exact List.take_of_length_le (by rw [vlen]; omega)
      rw [e, hr, vsplit_of_join ps (List.length_pos_iff.1 hp) (fun x hx => part_none (List.all_eq_true.1 gp x hx))]
  · rw [if_neg hp]
    have : ps = [] := List.length_eq_zero_iff.1 (by omega)
    refine fin _ (coreT a b c).size (Nat.le_refl _) (fun h => by omega) (fun j hj he => ?_) (vwhole _) (by rw [if_neg (by omega), this])
    exact core_none a b c _ (vat_mem _ j hj) (by omega)
#print axioms res_told
end Go.Proofs.YtlfmefojcmpfeaaGreatDoor

/-! What is read of a text as a version is a right one: plain facts. -/
namespace Go.Proofs.YtlfmefojcmpfeaaGreatDoor
open Go.RowKit
set_option linter.unusedSimpArgs false
set_option linter.unusedVariables false

theorem bk_back (t : ByteArray) (h : resOk t = true) : verT (resN t 0) (resN t 1) (resN t 2) (resP t) = t := by
  unfold resOk at h
  obtain ⟨⟨ns, ps⟩, hx⟩ := Option.isSome_iff_exists.1 h
  obtain ⟨a, b, c, rfl, hv⟩ := res_back t ns ps hx
  simp only [resN, resP, hx]
  exact hv
theorem bk_parts : ∀ ps : List ByteArray, (∀ x ∈ ps, x.size ≤ 8) → (ps.map ByteArray.size).sum ≤ 8 * ps.length
  | [], _ => by simp
  | x :: ps, h => by
    have := bk_parts ps (fun t ht => h t (List.mem_cons_of_mem _ ht))
    have := h x (List.mem_cons_self ..)
    simp only [List.map_cons, List.sum_cons, List.length_cons]
    omega
theorem bk_bulk {a b c : Int} {ps : List ByteArray} (h : verB a b c ps = true) : bulkS ps ≤ 27 := by
  have hp : partsUpto ps ps.length = true := by
    cases hh : partsUpto ps ps.length with
    | true => rfl
    | false => rw [verB_parts hh] at h; exact absurd h (by decide)
  have hl : ps.length ≤ 3 := by
    rw [verB_all hp] at h
    simp at h
    omega
  have hx : ∀ x ∈ ps, x.size ≤ 8 := fun x hm => by
    obtain ⟨k, hk, rfl⟩ := List.getElem_of_mem hm
    cases hb : partB ps[k] with
    | false => rw [parts_end hk hb] at hp; exact absurd hp (by decide)
    | true =>
      simp only [partB, Bool.and_eq_true] at hb
      have h2 := hb.1.2
      simp [inB] at h2
      omega
  have := bk_parts ps hx
  unfold bulkS
  omega
theorem bk_empty : resOk ⟨#[]⟩ = false := by decide +kernel
theorem bk_ver (t : ByteArray) (h : resOk t = true) : verB (resN t 0) (resN t 1) (resN t 2) (resP t) = true := by
  have hb := bk_back t h
  cases hv : verB (resN t 0) (resN t 1) (resN t 2) (resP t) with
  | true => rfl
  | false =>
    have e : verT (resN t 0) (resN t 1) (resN t 2) (resP t) = ⟨#[]⟩ := by simp [verT, hv]
    rw [e] at hb
    rw [← hb, bk_empty] at h
    exact absurd h (by decide)
theorem bk_num {t : ByteArray} (h : numGood t 9999 = true) : 0 ≤ numOut t 9999 ∧ numOut t 9999 ≤ 9999 := by
  refine ⟨(num_str h).2, ?_⟩
  rw [numOut_good h]
  simp only [numGood, Bool.and_eq_true, decide_eq_true_eq] at h
  exact h.2
end Go.Proofs.YtlfmefojcmpfeaaGreatDoor

/-! How many pieces a text falls into, and how long they are: no condition. -/
namespace Go.Proofs.YtlfmefojcmpfeaaGreatDoor
open Go.RowKit
set_option linter.unusedSimpArgs false
set_option linter.unusedVariables false

theorem splitS_pos (s : ByteArray) (c : Int) : 0 < (splitS s c).length := by
  have h : ∀ n i b, 0 < (splitGo s c n i b).length := fun n => by
    induction n with
    | zero => intro i b; simp [splitGo]
    | succ n ih => intro i b; rw [splitGo]; split <;> simp [ih]
  exact h _ _ _
theorem splitS_piece (s : ByteArray) (c : Int) : ∀ x ∈ splitS s c, x.size ≤ s.size := by
  have h : ∀ n i b, ∀ x ∈ splitGo s c n i b, x.size ≤ s.size := fun n => by
    induction n with
    | zero => intro i b x hx; simp [splitGo] at hx; subst hx; rw [ByteArray.size_extract]; omega
    | succ n ih =>
      intro i b x hx
      rw [splitGo] at hx
      split at hx
      · rcases List.mem_cons.1 hx with rfl | hx
        · rw [ByteArray.size_extract]; omega
        · exact ih _ _ x hx
      · exact ih _ _ x hx
  exact h _ _ _
theorem splitS_len (s : ByteArray) (c : Int) : (splitS s c).length ≤ s.size + 1 := by
  have h : ∀ n i b, (splitGo s c n i b).length ≤ n + 1 := fun n => by
    induction n with
    | zero => intro i b; simp [splitGo]
    | succ n ih =>
      intro i b
      rw [splitGo]
      split
      · simp only [List.length_cons]; have := ih (i + 1) (i + 1); omega
      · have := ih (i + 1) b; omega
  exact h _ _ _

end Go.Proofs.YtlfmefojcmpfeaaGreatDoor

/-! A lock's text, read line by line: the program's way and the specification's come to the same; pure facts, no condition. -/
namespace Go.Proofs.YtlfmefojcmpfeaaGreatDoor
open Go.RowKit
set_option linter.unusedSimpArgs false
set_option linter.unusedVariables false

/-- The pick that a name and a version's text tell. -/
def pickT (n t : ByteArray) : PickD := ⟨n, resN t 0, resN t 1, resN t 2, resP t⟩
/-- The pick of a line, as the program reads it. -/
def lineP (l : ByteArray) : Option PickD := if resOk (cutD l 64).2.1 = true then some (pickT (cutD l 64).1 (cutD l 64).2.1) else none
/-- The same, as the specification reads it. -/
def lineS (l : ByteArray) : Option PickD := match splitS l 64 with
  | [n, t] => if resOk t = true then some (pickT n t) else none
  | _ => none

theorem reads_signs (s : ByteArray) : ∀ (f i b : Nat) (ns : List Int) (ps : List ByteArray) (inP : Bool) (r : List Int × List ByteArray), f = s.size - i → reads s f i b ns ps inP = some r → ∀ j, i ≤ j → j < s.size → ¬ ((s.data[j]!).toNat : Int) = 64
  | 0, i, b, ns, ps, inP, r, hf, h, j, hij, hj => by omega
  | f + 1, i, b, ns, ps, inP, r, hf, h, j, hij, hj => by
    have hi : i < s.size := by omega
    have hst := reads_step s i b ns ps inP hi _ rfl
    rw [← hf] at hst
    rw [hst] at h
    split at h
    · rename_i ht
      by_cases e : i = j
      · subst e
        intro h64
        rw [h64] at ht
        unfold takeOk endsB at ht
        have hp : preB 64 = false := by decide
        cases inP <;> simp [hp] at ht
      · exact reads_signs s _ (i + 1) _ _ _ _ r (by omega) h j (by omega) hj
    · cases h
theorem ok_signs {t : ByteArray} (h : resOk t = true) : ∀ j, j < t.size → ¬ ((t.data[j]!).toNat : Int) = 64 := fun j hj => by
  unfold resOk resAll at h
  obtain ⟨r, hr⟩ := Option.isSome_iff_exists.1 h
  exact reads_signs t t.size 0 0 [] [] false r (by omega) hr j (Nat.zero_le _) hj

theorem mem_at {t : ByteArray} {k : Nat} {u : UInt8} (h : t.data.toList[k]? = some u) : k < t.size ∧ t.data[k]! = u := by
  have h2 := (List.getElem?_eq_some_iff.1 h).1
  have h3 : t.data.toList.length = t.size := by rw [Array.length_toList]; rfl
  refine ⟨by omega, ?_⟩
  have h4 := bang_list t k (by omega)
  rw [h] at h4
  exact (Option.some.inj h4).symm
theorem line_alike (l : ByteArray) : lineS l = lineP l := by
  have hs : splitS l 64 = splitGo l 64 (l.size - 0) 0 0 := rfl
  have hu : (64 : Int).toNat.toUInt8 = 64 := rfl
  rcases search l 64 0 (Nat.zero_le _) (by decide) (by decide) with ⟨h1, h2⟩ | ⟨k, h1, hk, h2⟩
  · rw [vwhole, hu] at h1
    rw [vwhole] at h2
    unfold lineS lineP
    rw [hs, h2, cutD_none h1]
    simp [bk_empty]
  · rw [vwhole, hu] at h1
    rw [Nat.zero_add] at h2 hk
    unfold lineS lineP
    rw [hs, h2, cutD_some h1]
    rcases search l 64 (k + 1) (by omega) (by decide) (by decide) with ⟨h3, h4⟩ | ⟨k2, h3, hk2, h4⟩
    · rw [h4]
    · rw [h4]
      have hne := vsplitGo_ne l 64 (l.size - (k + 1 + k2 + 1)) (k + 1 + k2 + 1) (k + 1 + k2 + 1)
      obtain ⟨x, xs, hx⟩ := List.exists_cons_of_ne_nil hne
      rw [hx]
      have hbad : ¬ resOk (l.extract (k + 1) l.size) = true := fun hok => by
        rw [hu] at h3
        obtain ⟨h5, h6⟩ := mem_at (Lib.indexByte_some h3).1
        exact ok_signs hok k2 h5 (by rw [h6]; rfl)
      simp only [hbad]
      rfl

/-- Lines read one by one: the last one must be empty. -/
def lockGo : List ByteArray → List PickD → Option (List PickD)
  | [], _ => none
  | [l], acc => if l.size = 0 then some acc else none
  | l :: l2 :: r, acc => match lineP l with
    | none => none
    | some p => if picksB (acc ++ [p]) = true then lockGo (l2 :: r) (acc ++ [p]) else none
def lockR (s : ByteArray) : Option (List PickD) := lockGo (splitS s 10) []
theorem lockGo_last (l : ByteArray) (acc : List PickD) : lockGo [l] acc = if l.size = 0 then some acc else none := rfl
theorem lockGo_more {L : List ByteArray} (h : L ≠ []) (l : ByteArray) (acc : List PickD) : lockGo (l :: L) acc = match lineP l with
    | none => none
    | some p => if picksB (acc ++ [p]) = true then lockGo L (acc ++ [p]) else none := by
  obtain ⟨x, xs, rfl⟩ := List.exists_cons_of_ne_nil h
  rfl
theorem rowUpto_append {α : Type} (p : α → Bool) (key : α → ByteArray) (xs ys : List α) : ∀ k, k ≤ xs.length → rowUpto p key (xs ++ ys) k = rowUpto p key xs k
  | 0, _ => rfl
  | k + 1, h => by
    have hk : k < xs.length := by omega
    have hp : preX (xs ++ ys) k = preX xs k := by
      cases k with
      | zero => rfl
      | succ j => simp only [preX]; rw [List.getElem?_append_left (by omega)]
    rw [rowUpto, rowUpto, rowUpto_append p key xs ys k (by omega), List.getElem?_append_left hk, hp]
theorem rowUpto_pre {α : Type} (p : α → Bool) (key : α → ByteArray) (xs : List α) : ∀ n k, k ≤ n → rowUpto p key xs n = true → rowUpto p key xs k = true
  | 0, k, h, ht => by obtain rfl : k = 0 := by omega
                      exact ht
  | n + 1, k, h, ht => by
    by_cases e : k = n + 1
    · subst e; exact ht
    · rw [rowUpto] at ht
      exact rowUpto_pre p key xs n k (by omega) (Bool.and_eq_true_iff.1 ht).1
theorem picksB_pre (xs ys : List PickD) (h : picksB (xs ++ ys) = true) : picksB xs = true := by
  unfold picksB rowB at h ⊢
  obtain ⟨h1, h2⟩ := Bool.and_eq_true_iff.1 h
  have h3 := of_decide_eq_true h2
  rw [List.length_append] at h1 h3
  rw [Bool.and_eq_true_iff]
  refine ⟨?_, decide_eq_true (by omega)⟩
  rw [← rowUpto_append pickB PickD.name xs ys xs.length (Nat.le_refl _)]
  exact rowUpto_pre _ _ _ _ _ (by omega) h1
/-- The picks of lines, where each is one. -/
def linesP : List ByteArray → Option (List PickD)
  | [] => some []
  | l :: r => match lineS l with
    | none => none
    | some p => (linesP r).map (p :: ·)
/-- What the specification answers of lines. -/
def lockS (L : List ByteArray) : Option (List PickD) := match linesP L.dropLast with
  | none => none
  | some ps => if (L.getLastD ⟨#[]⟩).size = 0 ∧ picksB ps = true then some ps else none
theorem lockGo_all : ∀ (L : List ByteArray) (acc : List PickD), L ≠ [] → picksB acc = true → lockGo L acc = match linesP L.dropLast with
    | none => none
    | some ps => if (L.getLastD ⟨#[]⟩).size = 0 ∧ picksB (acc ++ ps) = true then some (acc ++ ps) else none
  | [], acc, h, _ => absurd rfl h
  | [l], acc, _, ha => by
    simp only [lockGo, List.dropLast, linesP, List.append_nil, ha, and_true]
    rfl
  | l :: l2 :: r, acc, _, ha => by
    rw [lockGo_more (by simp)]
    have e1 : (l :: l2 :: r).dropLast = l :: (l2 :: r).dropLast := rfl
    have e2 : (l :: l2 :: r).getLastD ⟨#[]⟩ = (l2 :: r).getLastD ⟨#[]⟩ := rfl
    rw [e1, e2, linesP, line_alike]
    cases lineP l with
    | none => rfl
    | some p =>
      show (if picksB (acc ++ [p]) = true then lockGo (l2 :: r) (acc ++ [p]) else none) = _
      by_cases hp : picksB (acc ++ [p]) = true
      · rw [if_pos hp, lockGo_all (l2 :: r) (acc ++ [p]) (by simp) hp]
        cases linesP (l2 :: r).dropLast with
        | none => rfl
        | some ps => simp only [Option.map_some, List.append_assoc, List.singleton_append]
      · rw [if_neg hp]
        cases linesP (l2 :: r).dropLast with
        | none => rfl
        | some ps =>
          have hn : ¬ picksB (acc ++ p :: ps) = true := fun h => hp (picksB_pre (acc ++ [p]) ps (by simpa using h))
          simp [hn]
theorem lock_alike (s : ByteArray) : lockR s = lockS (splitS s 10) := by
  unfold lockR lockS
  rw [lockGo_all _ [] (by have := splitS_pos s 10; intro h; rw [h] at this; simp at this) (by decide)]
  simp only [List.nil_append]
end Go.Proofs.YtlfmefojcmpfeaaGreatDoor

/-! Entries that lie in memory: what they are: no condition. -/
namespace Go.Proofs.YtlfmefojcmpfeaaGreatDoor
open Go.RowKit
set_option linter.unusedSimpArgs false
set_option linter.unusedVariables false

structure EntryD where
  name : ByteArray
  vA : Int
  vB : Int
  vC : Int
  vP : List ByteArray
  needs : List NeedD
def wtEntry (d : EntryD) : Nat := d.name.size + bulkS d.vP + wtRow wtNeed d.needs
def shEntry : Sh EntryD where
  n := 6
  lies S w cs d := ∃ u0 u1, cs = [.string d.name, .int .i64 d.vA, .int .i64 d.vB, .int .i64 d.vC, u0, u1] ∧ d.name.size ≤ maxLen ∧ RdB S w u0 (strsV d.vP) ∧ saneP d.vP ∧ RowIn shNeed S w u1 d.needs
  keep hk h := by obtain ⟨u0, u1, h0, h1, h2, h3, h4⟩ := h; exact ⟨u0, u1, h0, h1, h2.keep hk, h3, h4.keep hk⟩
  mono hS h := by obtain ⟨u0, u1, h0, h1, h2, h3, h4⟩ := h; exact ⟨u0, u1, h0, h1, h2.mono hS, h3, h4.mono hS⟩
def shEntryO : Sh EntryD where
  n := 6
  lies S w cs d := ∃ u0 u1, cs = [.string d.name, .int .i64 d.vA, .int .i64 d.vB, .int .i64 d.vC, u0, u1] ∧ d.name.size ≤ maxLen ∧ StrsOwn S w u0 d.vP ∧ saneP d.vP ∧ RowOwn shNeed 39 S w u1 d.needs
  keep hk h := by obtain ⟨u0, u1, h0, h1, h2, h3, h4⟩ := h; exact ⟨u0, u1, h0, h1, h2.keep hk, h3, h4.keep hk⟩
  mono hS h := by obtain ⟨u0, u1, h0, h1, h2, h3, h4⟩ := h; exact ⟨u0, u1, h0, h1, h2.mono hS, h3, h4.mono hS⟩
theorem liesEntry_plain {S : Nat → Prop} {w : World} {cs : List Value} {d : EntryD} (h : shEntryO.lies S w cs d) : shEntry.lies S w cs d := by
  obtain ⟨u0, u1, e0, s_name, r0, p0, r1⟩ := h
  exact ⟨u0, u1, e0, s_name, r0.plain, p0, r1.plain⟩
end Go.Proofs.YtlfmefojcmpfeaaGreatDoor

/-! Copies of needs and commands, and of rows of them, in memory of their own, as the law makes them: contracts for the walks; condition: what is copied holds at most 2 to the 20. -/
namespace Go.Proofs.YtlfmefojcmpfeaaGreatDoor
open Go.RowKit
set_option linter.unusedSimpArgs false
set_option linter.unusedVariables false

theorem owns_sliceP {w : World} {lo : Nat} {e : TypeId} {sz n : Nat} {v : Value} {xs : List Value} (hg : w.ownsRow lo e sz v n xs) : ∃ q cap, v = .slice q n cap := by
  rcases hg.2 with ⟨h1, h2⟩ | ⟨g, cap, cur, h1, _⟩
  · exact ⟨none, 0, by rw [h1, h2]⟩
  · exact ⟨_, _, h1⟩
theorem StrsOwn.slice {S : Nat → Prop} {w : World} {u : Value} {ss : List ByteArray} (h : StrsOwn S w u ss) : ∃ q cap, u = .slice q ss.length cap := owns_sliceP h.1
theorem RowOwn.slice {α : Type} {sh : Sh α} {t : TypeId} {S : Nat → Prop} {w : World} {v : Value} {xs : List α} (h : RowOwn sh t S w v xs) : ∃ q cap, v = .slice q xs.length cap := by
  obtain ⟨_, ys, h1, _⟩ := h; exact owns_sliceP h1

set_option maxHeartbeats 2000000 in
set_option maxRecDepth 100000 in
theorem toNeed_c (S : Nat → Prop) (d : NeedD) (cs : List Value) (w : World) (hd : shNeed.lies S w cs d) (hB : ∀ b, S b → b < w.heap.size) (hw : wtNeed d ≤ 1048576) :
    Calls Tryz.prog 137 #[.agg cs.toArray] w fun e w' => ∃ cs', e = .returned (.agg cs'.toArray) ∧ shNeed.lies (Ow w.heap.size w'.heap.size) w' cs' d ∧ Below w.heap.size w w' := by
  obtain ⟨rfl, s_n, s_r⟩ := hd
  have hb3 : ∀ A R O, Below w.heap.size w (((w.alloc A).alloc R).alloc O) := fun A R O => (((Below.refl _ _).alloc (Nat.le_refl _) _).alloc (by simp) _).alloc (by simp; omega) _
  go_enter Tryz.func137, Tryz.ntmps137
  go_wp2_with fail
  refine bodyPost_ret (v := .agg #[.string d.n, .string d.r]) (by simp [results, Tryz.results137, go_sem]) rfl ⟨_, rfl, ⟨rfl, s_n, s_r⟩, ?_⟩
  exact hb3 _ _ _

set_option maxHeartbeats 2000000 in
set_option maxRecDepth 100000 in
theorem infoNeed : (Tryz.prog.info? 39).map (fun i => (i.zero, i.size, i.bytes)) = some (some (.agg #[.string ⟨#[]⟩, .string ⟨#[]⟩]), 2, 32) := by kernel_rfl
set_option maxHeartbeats 2000000 in
set_option maxRecDepth 100000 in
theorem toNeedS_c (S : Nat → Prop) (v : Value) (xs : List NeedD) (w : World) (hv : RowIn shNeed S w v xs) (hB : ∀ b, S b → b < w.heap.size) (hw : wtRow wtNeed xs ≤ 1048576) :
    Calls Tryz.prog 58 #[v] w fun e w' => ∃ g, e = .returned (.slice (some ⟨g, 0, none⟩) xs.length xs.length) ∧ RowOwn shNeed 39 (Ow w.heap.size w'.heap.size) w' (.slice (some ⟨g, 0, none⟩) xs.length xs.length) xs ∧ Below w.heap.size w w' := by
  obtain ⟨a, cap, rfl, hl, hc, ha⟩ := hv
  have hn := len_wtRow wtNeed xs
  have hlm : xs.length ≤ maxLen := hl
  unfold maxLen at hl
  obtain ⟨i0, hi, hz0, hz1, hz2⟩ := info_parts infoNeed
  go_enter Tryz.func58, Tryz.ntmps58
  go_wp2_with (first
    | (at_make; refine wpList_make_full _ rfl _ _ 33 rfl w.heap.size 39 i0 _ 2 Tryz.underlying33 hi hz0 hz1 _ _ _ _ xs.length rfl rfl rfl rfl (by rw [hz2]; omega) (by unfold maxLen; omega) (Nat.le_refl _) ?_))
  intro w1 hown hgrow
  have hb1 := below_of_grown hgrow
  have hs1 : w.heap.size + 1 ≤ w1.heap.size := by
    rcases hown.2 with ⟨h, _⟩ | ⟨g, cap, cur, h, _, hg, _⟩
    · simp at h
    · simp at h
      have := (Array.getElem?_eq_some_iff.1 hg).1
      omega
  obtain ⟨ys1, hown1⟩ : ∃ ys, w1.ownsRow w.heap.size 39 2 (.slice (some ⟨w.heap.size, 0, none⟩) xs.length xs.length) xs.length ys := ⟨_, hown⟩
  clear hgrow hown
  go_wp2_with fail
  go_loopw [4] (fun vi wr => ∃ (k : Nat) (ys : List Value), k ≤ xs.length ∧ vi = .int .i64 (k : Int) ∧ wr.ownsRow w.heap.size 39 2 (.slice (some ⟨w.heap.size, 0, none⟩) xs.length xs.length) xs.length ys ∧ Hid (Laid shNeed (Ow (w.heap.size + 1) wr.heap.size) wr ys xs k) ∧ Below w.heap.size w wr ∧ w.heap.size + 1 ≤ wr.heap.size) (fun vi _ => xs.length - (intOf vi).toNat)
  case atStart => exact ⟨0, ys1, Nat.zero_le _, rfl, hown1, (fun i h h0 => by omega), hb1, hs1⟩
  case round =>
    obtain ⟨k, ys, hk, rfl, hownr, hy, hbr, hsr⟩ := hrel
    by_cases hlt' : k < xs.length
    · rcases ha with rfl | ⟨b, off, rfl, hlt, ha⟩
      · simp at hlt'
      obtain ⟨cs, hL, hcell⟩ := ha k hlt'
      have hL2 := shNeed.keep (.of hbr hB) hL
      have hcell2 := hcell.keep (.of hbr hB) hlt
      have hBr : ∀ b, S b → b < wr.heap.size := fun b h => Nat.lt_of_lt_of_le (hB b h) hbr.size
      have hwt : wtNeed xs[k] ≤ 1048576 := by have := wt_wtRow wtNeed (List.getElem_mem hlt'); omega
      have hown2 : ∀ w2, Below wr.heap.size wr w2 → w2.ownsRow w.heap.size 39 2 (.slice (some ⟨w.heap.size, 0, none⟩) xs.length xs.length) xs.length ys := fun w2 h2 => hownr.kept (grown_of_below h2 none) (by simp [Value.ownBlock])
      have hlen := hownr.1
      have HC : Hid (∀ w2, Below wr.heap.size wr w2 → ∀ j, j < 2 → ∃ x, w2.cell? ⟨w.heap.size, k * 2 + j, none⟩ = some x) := fun w2 h2 j hj => ⟨ys.getD (k * 2 + j) undef, by rw [(hown2 w2 h2).cellAt _ (by omega)]; simp [List.getD_eq_getElem?_getD, show k * 2 + j < ys.length by omega]⟩
      have HF : Hid (∀ w2, Below wr.heap.size wr w2 → ∀ j, w2.frozen? ⟨w.heap.size, j, none⟩ = false) := fun w2 h2 j => (hown2 w2 h2).frozenAt j
      have HO : Hid (∀ w2, Below wr.heap.size wr w2 → w2.ownsRow w.heap.size 39 2 (.slice (some ⟨w.heap.size, 0, none⟩) xs.length xs.length) xs.length ys) := hown2
      have HST : Hid (∀ w2 cs, Below wr.heap.size wr w2 → cs.length = 2 → shNeed.lies (Ow (w.heap.size + 1) w2.heap.size) w2 cs xs[k] → Laid shNeed (Ow (w.heap.size + 1) (setW w2 w.heap.size (k * 2) cs).heap.size) (setW w2 w.heap.size (k * 2) cs) (putL ys (k * 2) cs) xs (k + 1)) := fun w2 cs h2 hc hr => hy.out.step (sh := shNeed) hlt' hlen h2 (by omega) hc hr
      obtain ⟨d, hd⟩ : ∃ d, d = xs[k] := ⟨_, rfl⟩
      rw [← hd] at hL2 hwt HST
      have HC1 := toNeed_c S d cs wr hL2 hBr hwt
      clear ha hL hcell hd hown2 hi hz0 hz1 hz2 hown1 hb1 hlen hwt
      obtain ⟨rfl, s_n, s_r⟩ := hL2
      clear s_n s_r
      have e0 : wr.cell? ⟨b, off + k * 2, none⟩ = some (.string d.n) := hcell2 0 (by simp)
      have e1 : wr.cell? ⟨b, off + k * 2 + 1, none⟩ = some (.string d.r) := hcell2 1 (by simp)
      have HC2 := hidden HC1
      have hki : (k : Int) < (xs.length : Int) := by omega
      clear hcell2 HC1
      go_wp2_with (go_at_call 137; refine HC2.out.mono ?_; rintro e w2 ⟨cs, rfl, hX, hb2⟩; have HX := hidden (HST.out w2 cs hb2 (by have h := hX; obtain ⟨h9, s_n, s_r⟩ := h; rw [h9]; rfl) (shNeed.mono (Ow.mono hsr (Nat.le_refl _)) hX)); obtain ⟨rfl, s_n, s_r⟩ := hX; obtain ⟨y0, d0⟩ := HC.out w2 hb2 0 (by omega); obtain ⟨y1, d1⟩ := HC.out w2 hb2 1 (by omega); rw [Nat.add_zero] at d0; have f9 := HF.out w2 hb2)
      go_roundw
      case rel =>
        refine ⟨k + 1, _, by omega, by go_num, setW_owns [.string d.n, .string d.r] w2 ys (k * 2) (HO.out w2 hb2), HX.out, setW_below (Nat.le_refl _) [.string d.n, .string d.r] w2 w (k * 2) (hbr.trans (hb2.mono hbr.size)), ?_⟩
        have h9 := setW_size [.string d.n, .string d.r] w2 w.heap.size (k * 2)
        have := hb2.size
        exact Nat.le_trans (show w.heap.size + 1 ≤ w2.heap.size by omega) (Nat.le_of_eq h9.symm)
      case measure => simp [intOf]; omega
    · have he : k = xs.length := by omega
      subst he
      clear ha
      go_wp2_with fail
      go_ret
      exact ⟨_, rfl, rowOwn_of hownr hlm hy.out, hbr⟩

set_option maxHeartbeats 2000000 in
set_option maxRecDepth 100000 in
theorem toCmd_c (S : Nat → Prop) (d : CmdD) (cs : List Value) (w : World) (hd : shCmd.lies S w cs d) (hB : ∀ b, S b → b < w.heap.size) (hw : wtCmd d ≤ 1048576) :
    Calls Tryz.prog 264 #[.agg cs.toArray] w fun e w' => ∃ cs', e = .returned (.agg cs'.toArray) ∧ shCmdO.lies (Ow w.heap.size w'.heap.size) w' cs' d ∧ Below w.heap.size w w' := by
  obtain ⟨u0, rfl, s_t, r0, p0⟩ := hd
  have hb3 : ∀ A R O, Below w.heap.size w (((w.alloc A).alloc R).alloc O) := fun A R O => (((Below.refl _ _).alloc (Nat.le_refl _) _).alloc (by simp) _).alloc (by simp; omega) _
  unfold wtCmd at hw
  have HS0 : Hid (∀ w1, Below w.heap.size w w1 → Calls Tryz.prog 208 #[u0] w1 fun e w' => ∃ g, e = .returned (.slice (some ⟨g, 0, none⟩) d.acts.length d.acts.length) ∧ StrsOwn (Ow w1.heap.size w'.heap.size) w' (.slice (some ⟨g, 0, none⟩) d.acts.length d.acts.length) d.acts ∧ Below w1.heap.size w1 w') := fun w1 hb =>
    (toStrs_c u0 d.acts w1 ((r0.keep (.of hb hB)).reads (fun b h => Nat.lt_of_lt_of_le (hB b h) hb.size)) (by unfold bulkS at hw; omega)).mono fun e w' ⟨g, h1, h2, h3⟩ => ⟨g, h1, ⟨owns_lo (Nat.zero_le _) h2, owns_in h2⟩, h3⟩
  obtain ⟨a0, cap0, eu0, _⟩ := id r0
  rw [length_strsV] at eu0
  subst eu0
  clear r0
  go_enter Tryz.func264, Tryz.ntmps264
  go_wp2_with fail
  go_at_call 208
  refine (HS0.out _ (hb3 _ _ _)).mono ?_
  rintro e w1 ⟨g1, rfl, R0, b1⟩
  obtain ⟨hA1, hR1, hO1⟩ := vthree b1
  have s3 : ∀ A R O, (((w.alloc A).alloc R).alloc O).heap.size = w.heap.size + 1 + 1 + 1 := fun A R O => by simp
  rw [s3] at b1 R0
  have m1 : w.heap.size + 3 ≤ w1.heap.size := by have := b1.size; rw [s3] at this; omega
  have kw1 : Below w.heap.size w w1 := (hb3 _ _ _).trans (b1.mono (by omega))
  replace R0 := R0.mono (S' := Ow (w.heap.size + 3) w1.heap.size) (Ow.mono (by omega) (Nat.le_refl _))
  have m1' : w.heap.size + 3 ≤ w1.heap.size := by omega
  have o0 := vblk_cell hO1 0
  have q0 := vblk_cell hR1 0
  have y0 := vblk_cell hA1 0
  have o1 := vblk_cell hO1 1
  have q1 := vblk_cell hR1 1
  have y1 := vblk_cell hA1 1
  have fo := vblk_frozen hO1
  have fr := vblk_frozen hR1
  simp only [List.getElem?_toArray, List.getElem?_cons_succ, List.getElem?_cons_zero, List.setIfInBounds_toArray, List.set_cons_succ, List.set_cons_zero] at o0 q0 y0 o1 q1 y1
  go_wp2_with fail
  refine bodyPost_ret (v := .agg #[.string d.t, .slice (some ⟨g1, 0, none⟩) d.acts.length d.acts.length]) (by simp [results, Tryz.results264, go_sem, o0, q0, o1, q1]) rfl ⟨[.string d.t, .slice (some ⟨g1, 0, none⟩) d.acts.length d.acts.length], rfl, ?_, ?_⟩
  · have hS : ∀ {W : World}, w1.heap.size ≤ W.heap.size → ∀ b, Ow (w.heap.size + 3) w1.heap.size b → Ow w.heap.size W.heap.size b := fun h => Ow.mono (by omega) h
    refine ⟨_, rfl, s_t, (R0.keep ?_).mono (hS ?_), p0⟩
    all_goals first
      | (simp [World.setCell]; done)
      | ((repeat (refine Kp.trans ?_ (Kp.set (Ow.not (by omega))))); exact fun b hb => rfl)
  · refine ?_
    (repeat (refine Below.setCell ?_ (by simp <;> omega) _))
    exact kw1

set_option maxHeartbeats 2000000 in
set_option maxRecDepth 100000 in
theorem infoCmd : (Tryz.prog.info? 305).map (fun i => (i.zero, i.size, i.bytes)) = some (some (.agg #[.string ⟨#[]⟩, .slice none 0 0]), 2, 40) := by kernel_rfl
set_option maxHeartbeats 2000000 in
set_option maxRecDepth 100000 in
theorem toCmdS_c (S : Nat → Prop) (v : Value) (xs : List CmdD) (w : World) (hv : RowIn shCmd S w v xs) (hB : ∀ b, S b → b < w.heap.size) (hw : wtRow wtCmd xs ≤ 1048576) :
    Calls Tryz.prog 209 #[v] w fun e w' => ∃ g, e = .returned (.slice (some ⟨g, 0, none⟩) xs.length xs.length) ∧ RowOwn shCmdO 305 (Ow w.heap.size w'.heap.size) w' (.slice (some ⟨g, 0, none⟩) xs.length xs.length) xs ∧ Below w.heap.size w w' := by
  obtain ⟨a, cap, rfl, hl, hc, ha⟩ := hv
  have hn := len_wtRow wtCmd xs
  have hlm : xs.length ≤ maxLen := hl
  unfold maxLen at hl
  obtain ⟨i0, hi, hz0, hz1, hz2⟩ := info_parts infoCmd
  go_enter Tryz.func209, Tryz.ntmps209
  go_wp2_with (first
    | (at_make; refine wpList_make_full _ rfl _ _ 187 rfl w.heap.size 305 i0 _ 2 Tryz.underlying187 hi hz0 hz1 _ _ _ _ xs.length rfl rfl rfl rfl (by rw [hz2]; omega) (by unfold maxLen; omega) (Nat.le_refl _) ?_))
  intro w1 hown hgrow
  have hb1 := below_of_grown hgrow
  have hs1 : w.heap.size + 1 ≤ w1.heap.size := by
    rcases hown.2 with ⟨h, _⟩ | ⟨g, cap, cur, h, _, hg, _⟩
    · simp at h
    · simp at h
      have := (Array.getElem?_eq_some_iff.1 hg).1
      omega
  obtain ⟨ys1, hown1⟩ : ∃ ys, w1.ownsRow w.heap.size 305 2 (.slice (some ⟨w.heap.size, 0, none⟩) xs.length xs.length) xs.length ys := ⟨_, hown⟩
  clear hgrow hown
  go_wp2_with fail
  go_loopw [4] (fun vi wr => ∃ (k : Nat) (ys : List Value), k ≤ xs.length ∧ vi = .int .i64 (k : Int) ∧ wr.ownsRow w.heap.size 305 2 (.slice (some ⟨w.heap.size, 0, none⟩) xs.length xs.length) xs.length ys ∧ Hid (Laid shCmdO (Ow (w.heap.size + 1) wr.heap.size) wr ys xs k) ∧ Below w.heap.size w wr ∧ w.heap.size + 1 ≤ wr.heap.size) (fun vi _ => xs.length - (intOf vi).toNat)
  case atStart => exact ⟨0, ys1, Nat.zero_le _, rfl, hown1, (fun i h h0 => by omega), hb1, hs1⟩
  case round =>
    obtain ⟨k, ys, hk, rfl, hownr, hy, hbr, hsr⟩ := hrel
    by_cases hlt' : k < xs.length
    · rcases ha with rfl | ⟨b, off, rfl, hlt, ha⟩
      · simp at hlt'
      obtain ⟨cs, hL, hcell⟩ := ha k hlt'
      have hL2 := shCmd.keep (.of hbr hB) hL
      have hcell2 := hcell.keep (.of hbr hB) hlt
      have hBr : ∀ b, S b → b < wr.heap.size := fun b h => Nat.lt_of_lt_of_le (hB b h) hbr.size
      have hwt : wtCmd xs[k] ≤ 1048576 := by have := wt_wtRow wtCmd (List.getElem_mem hlt'); omega
      have hown2 : ∀ w2, Below wr.heap.size wr w2 → w2.ownsRow w.heap.size 305 2 (.slice (some ⟨w.heap.size, 0, none⟩) xs.length xs.length) xs.length ys := fun w2 h2 => hownr.kept (grown_of_below h2 none) (by simp [Value.ownBlock])
      have hlen := hownr.1
      have HC : Hid (∀ w2, Below wr.heap.size wr w2 → ∀ j, j < 2 → ∃ x, w2.cell? ⟨w.heap.size, k * 2 + j, none⟩ = some x) := fun w2 h2 j hj => ⟨ys.getD (k * 2 + j) undef, by rw [(hown2 w2 h2).cellAt _ (by omega)]; simp [List.getD_eq_getElem?_getD, show k * 2 + j < ys.length by omega]⟩
      have HF : Hid (∀ w2, Below wr.heap.size wr w2 → ∀ j, w2.frozen? ⟨w.heap.size, j, none⟩ = false) := fun w2 h2 j => (hown2 w2 h2).frozenAt j
      have HO : Hid (∀ w2, Below wr.heap.size wr w2 → w2.ownsRow w.heap.size 305 2 (.slice (some ⟨w.heap.size, 0, none⟩) xs.length xs.length) xs.length ys) := hown2
      have HST : Hid (∀ w2 cs, Below wr.heap.size wr w2 → cs.length = 2 → shCmdO.lies (Ow (w.heap.size + 1) w2.heap.size) w2 cs xs[k] → Laid shCmdO (Ow (w.heap.size + 1) (setW w2 w.heap.size (k * 2) cs).heap.size) (setW w2 w.heap.size (k * 2) cs) (putL ys (k * 2) cs) xs (k + 1)) := fun w2 cs h2 hc hr => hy.out.step (sh := shCmdO) hlt' hlen h2 (by omega) hc hr
      obtain ⟨d, hd⟩ : ∃ d, d = xs[k] := ⟨_, rfl⟩
      rw [← hd] at hL2 hwt HST
      have HC1 := toCmd_c S d cs wr hL2 hBr hwt
      clear ha hL hcell hd hown2 hi hz0 hz1 hz2 hown1 hb1 hlen hwt
      obtain ⟨u0, rfl, s_t, r0, p0⟩ := hL2
      clear s_t p0
      obtain ⟨a0, cap0, eu0, _⟩ := id r0
      rw [length_strsV] at eu0
      subst eu0
      clear r0
      have e0 : wr.cell? ⟨b, off + k * 2, none⟩ = some (.string d.t) := hcell2 0 (by simp)
      have e1 : wr.cell? ⟨b, off + k * 2 + 1, none⟩ = some (.slice a0 d.acts.length cap0) := hcell2 1 (by simp)
      have HC2 := hidden HC1
      have hki : (k : Int) < (xs.length : Int) := by omega
      clear hcell2 HC1
      go_wp2_with (go_at_call 264; refine HC2.out.mono ?_; rintro e w2 ⟨cs, rfl, hX, hb2⟩; have HX := hidden (HST.out w2 cs hb2 (by have h := hX; obtain ⟨u0, h9, s_t, r0, p0⟩ := h; rw [h9]; rfl) (shCmdO.mono (Ow.mono hsr (Nat.le_refl _)) hX)); obtain ⟨u0, rfl, s_t, z0, p0⟩ := hX; obtain ⟨b0, bap0, ev0⟩ := z0.slice; subst ev0; obtain ⟨y0, d0⟩ := HC.out w2 hb2 0 (by omega); obtain ⟨y1, d1⟩ := HC.out w2 hb2 1 (by omega); rw [Nat.add_zero] at d0; have f9 := HF.out w2 hb2)
      go_roundw
      case rel =>
        refine ⟨k + 1, _, by omega, by go_num, setW_owns [.string d.t, .slice b0 d.acts.length bap0] w2 ys (k * 2) (HO.out w2 hb2), HX.out, setW_below (Nat.le_refl _) [.string d.t, .slice b0 d.acts.length bap0] w2 w (k * 2) (hbr.trans (hb2.mono hbr.size)), ?_⟩
        have h9 := setW_size [.string d.t, .slice b0 d.acts.length bap0] w2 w.heap.size (k * 2)
        have := hb2.size
        exact Nat.le_trans (show w.heap.size + 1 ≤ w2.heap.size by omega) (Nat.le_of_eq h9.symm)
      case measure => simp [intOf]; omega
    · have he : k = xs.length := by omega
      subst he
      clear ha
      go_wp2_with fail
      go_ret
      exact ⟨_, rfl, rowOwn_of hownr hlm hy.out, hbr⟩

end Go.Proofs.YtlfmefojcmpfeaaGreatDoor

/-! Copies in memory of their own, as the law makes them: contracts for the walks; condition: what is copied holds at most 2 to the 20. -/
namespace Go.Proofs.YtlfmefojcmpfeaaGreatDoor
open Go.RowKit
set_option linter.unusedSimpArgs false
set_option linter.unusedVariables false

set_option maxHeartbeats 2000000 in
set_option maxRecDepth 100000 in
theorem toVerO_c (a b c : Int) (u : Value) (ps : List ByteArray) (w : World) (hu : Reads w u (strsV ps)) (hn : ps.length ≤ 1048576) :
    Calls Tryz.prog 204 #[.agg #[.int .i64 a, .int .i64 b, .int .i64 c, u]] w fun e w' => ∃ g, e = .returned (.agg #[.int .i64 a, .int .i64 b, .int .i64 c, .slice (some ⟨g, 0, none⟩) ps.length ps.length]) ∧ StrsOwn (Ow w.heap.size w'.heap.size) w' (.slice (some ⟨g, 0, none⟩) ps.length ps.length) ps ∧ Below w.heap.size w w' := by
  have huA : ∀ w1, Below w.heap.size w w1 → Reads w1 u (strsV ps) := fun w1 h1 => hu.below h1
  obtain ⟨q, cap, rfl, _, _⟩ := reads_strs hu
  clear hu
  go_enter Tryz.func204, Tryz.ntmps204
  have hb3 : ∀ A R O, Below w.heap.size w (((w.alloc A).alloc R).alloc O) := fun A R O => (((Below.refl _ _).alloc (Nat.le_refl _) _).alloc (by simp) _).alloc (by simp; omega) _
  go_wp2_with (
    go_at_call 208
    refine (toStrs_c _ ps _ (huA _ (hb3 _ _ _)) (by omega)).mono ?_
    rintro e w1 ⟨g, rfl, hM, hb1⟩
    obtain ⟨hA, hR, hO⟩ := vthree hb1
    have o0 := vblk_cell hO 0
    have o1 := vblk_cell hO 1
    have o2 := vblk_cell hO 2
    have o3 := vblk_cell hO 3
    have r0 := vblk_cell hR 0
    have r1 := vblk_cell hR 1
    have r2 := vblk_cell hR 2
    have r3 := vblk_cell hR 3
    have fo := vblk_frozen hO
    have fr := vblk_frozen hR
    simp only [List.getElem?_toArray, List.getElem?_cons_succ, List.getElem?_cons_zero] at o0 o1 o2 o3 r0 r1 r2 r3)
  have s3 : ∀ A R O, (((w.alloc A).alloc R).alloc O).heap.size = w.heap.size + 1 + 1 + 1 := fun A R O => by simp
  rw [s3] at hb1 hM
  have hN : w.heap.size + 1 + 1 + 1 ≤ w1.heap.size := by have := hb1.size; rw [s3] at this; exact this
  refine bodyPost_ret (v := .agg #[.int .i64 a, .int .i64 b, .int .i64 c, .slice (some ⟨g, 0, none⟩) ps.length ps.length]) (by simp [results, Tryz.results204, go_sem, o0, o1, o2, o3, r0, r1, r2, r3]) rfl ⟨_, rfl, ?_, ?_⟩
  · have hX : ∀ {W : World}, W.ownsRow (w.heap.size + 1 + 1 + 1) 9 1 (.slice (some ⟨g, 0, none⟩) ps.length ps.length) ps.length (strsV ps) → StrsOwn (Ow w.heap.size W.heap.size) W (.slice (some ⟨g, 0, none⟩) ps.length ps.length) ps := fun h => ⟨owns_lo (Nat.zero_le _) h, fun b hb => Ow.mono (by omega) (Nat.le_refl _) b (owns_in h b hb)⟩
    refine hX ?_
    refine owns_set (owns_set (owns_set (owns_set (owns_set hM ?_ _) ?_ _) ?_ _) ?_ _) ?_ _ <;> simp
  · have b1 := ((hb3 _ _ _).trans (hb1.mono (by omega)))
    refine Below.setCell (Below.setCell (Below.setCell (Below.setCell (Below.setCell b1 ?_ _) ?_ _) ?_ _) ?_ _) ?_ _ <;> simp <;> omega

set_option maxHeartbeats 2000000 in
set_option maxRecDepth 100000 in
theorem toEntry_c (S : Nat → Prop) (d : EntryD) (cs : List Value) (w : World) (hd : shEntry.lies S w cs d) (hB : ∀ b, S b → b < w.heap.size) (hw : wtEntry d ≤ 1048576) :
    Calls Tryz.prog 136 #[.agg cs.toArray] w fun e w' => ∃ cs', e = .returned (.agg cs'.toArray) ∧ shEntryO.lies (Ow w.heap.size w'.heap.size) w' cs' d ∧ Below w.heap.size w w' := by
  obtain ⟨u0, u1, rfl, s_name, r0, p0, r1⟩ := hd
  have hb3 : ∀ A R O, Below w.heap.size w (((w.alloc A).alloc R).alloc O) := fun A R O => (((Below.refl _ _).alloc (Nat.le_refl _) _).alloc (by simp) _).alloc (by simp; omega) _
  unfold wtEntry at hw
  have HS0 : Hid (∀ w1, Below w.heap.size w w1 → Calls Tryz.prog 204 #[.agg #[.int .i64 d.vA, .int .i64 d.vB, .int .i64 d.vC, u0]] w1 fun e w' => ∃ g, e = .returned (.agg #[.int .i64 d.vA, .int .i64 d.vB, .int .i64 d.vC, .slice (some ⟨g, 0, none⟩) d.vP.length d.vP.length]) ∧ StrsOwn (Ow w1.heap.size w'.heap.size) w' (.slice (some ⟨g, 0, none⟩) d.vP.length d.vP.length) d.vP ∧ Below w1.heap.size w1 w') := fun w1 hb =>
    toVerO_c _ _ _ u0 d.vP w1 ((r0.keep (.of hb hB)).reads (fun b h => Nat.lt_of_lt_of_le (hB b h) hb.size)) (by unfold bulkS at hw; omega)
  have HS1 : Hid (∀ w1, Below w.heap.size w w1 → Calls Tryz.prog 58 #[u1] w1 fun e w' => ∃ g, e = .returned (.slice (some ⟨g, 0, none⟩) d.needs.length d.needs.length) ∧ RowOwn shNeed 39 (Ow w1.heap.size w'.heap.size) w' (.slice (some ⟨g, 0, none⟩) d.needs.length d.needs.length) d.needs ∧ Below w1.heap.size w1 w') := fun w1 hb =>
    toNeedS_c S u1 d.needs w1 (r1.keep (.of hb hB)) (fun b h => Nat.lt_of_lt_of_le (hB b h) hb.size) (by omega)
  obtain ⟨a0, cap0, eu0, _⟩ := id r0
  rw [length_strsV] at eu0
  subst eu0
  clear r0
  obtain ⟨a1, cap1, eu1, _⟩ := id r1
  subst eu1
  clear r1
  go_enter Tryz.func136, Tryz.ntmps136
  go_wp2_with fail
  go_at_call 204
  refine (HS0.out _ (hb3 _ _ _)).mono ?_
  rintro e w1 ⟨g1, rfl, R0, b1⟩
  obtain ⟨hA1, hR1, hO1⟩ := vthree b1
  have s3 : ∀ A R O, (((w.alloc A).alloc R).alloc O).heap.size = w.heap.size + 1 + 1 + 1 := fun A R O => by simp
  rw [s3] at b1 R0
  have m1 : w.heap.size + 3 ≤ w1.heap.size := by have := b1.size; rw [s3] at this; omega
  have kw1 : Below w.heap.size w w1 := (hb3 _ _ _).trans (b1.mono (by omega))
  replace R0 := R0.mono (S' := Ow (w.heap.size + 3) w1.heap.size) (Ow.mono (by omega) (Nat.le_refl _))
  have m1' : w.heap.size + 3 ≤ w1.heap.size := by omega
  have o0 := vblk_cell hO1 0
  have q0 := vblk_cell hR1 0
  have y0 := vblk_cell hA1 0
  have o1 := vblk_cell hO1 1
  have q1 := vblk_cell hR1 1
  have y1 := vblk_cell hA1 1
  have o2 := vblk_cell hO1 2
  have q2 := vblk_cell hR1 2
  have y2 := vblk_cell hA1 2
  have o3 := vblk_cell hO1 3
  have q3 := vblk_cell hR1 3
  have y3 := vblk_cell hA1 3
  have o4 := vblk_cell hO1 4
  have q4 := vblk_cell hR1 4
  have y4 := vblk_cell hA1 4
  have o5 := vblk_cell hO1 5
  have q5 := vblk_cell hR1 5
  have y5 := vblk_cell hA1 5
  have fo := vblk_frozen hO1
  have fr := vblk_frozen hR1
  simp only [List.getElem?_toArray, List.getElem?_cons_succ, List.getElem?_cons_zero, List.setIfInBounds_toArray, List.set_cons_succ, List.set_cons_zero] at o0 q0 y0 o1 q1 y1 o2 q2 y2 o3 q3 y3 o4 q4 y4 o5 q5 y5
  have k1 : Below w.heap.size w ((((w1.setCell ⟨w.heap.size + 1 + 1, 1, none⟩ (.int .i64 d.vA)).setCell ⟨w.heap.size + 1 + 1, 2, none⟩ (.int .i64 d.vB)).setCell ⟨w.heap.size + 1 + 1, 3, none⟩ (.int .i64 d.vC)).setCell ⟨w.heap.size + 1 + 1, 4, none⟩ (.slice (some ⟨g1, 0, none⟩) d.vP.length d.vP.length)) := (Below.setCell (Below.setCell (Below.setCell (Below.setCell kw1 (by simp; omega) _) (by simp; omega) _) (by simp; omega) _) (by simp; omega) _)
  go_wp2_with fail
  go_at_call 58
  refine (HS1.out _ k1).mono ?_
  rintro e w2 ⟨g2, rfl, R1, b2⟩
  have hA2 := (b2.block w.heap.size (by simp [World.setCell]; omega)).trans ((Below.heap_setCell _ _ _ _ (by simp <;> omega)).trans ((Below.heap_setCell _ _ _ _ (by simp <;> omega)).trans ((Below.heap_setCell _ _ _ _ (by simp <;> omega)).trans ((Below.heap_setCell _ _ _ _ (by simp <;> omega)).trans (hA1)))))
  have hR2 := (b2.block (w.heap.size + 1) (by simp [World.setCell]; omega)).trans ((Below.heap_setCell _ _ _ _ (by simp <;> omega)).trans ((Below.heap_setCell _ _ _ _ (by simp <;> omega)).trans ((Below.heap_setCell _ _ _ _ (by simp <;> omega)).trans ((Below.heap_setCell _ _ _ _ (by simp <;> omega)).trans (hR1)))))
  have hO2 := (b2.block (w.heap.size + 1 + 1) (by simp [World.setCell]; omega)).trans (heap_setCell_same _ _ _ _ _ _ (heap_setCell_same _ _ _ _ _ _ (heap_setCell_same _ _ _ _ _ _ (heap_setCell_same _ _ _ _ _ _ hO1))))
  have m2 : w1.heap.size ≤ w2.heap.size := by have := b2.size; simpa [World.setCell] using this
  have kw2 : Below w.heap.size w w2 := k1.trans (b2.mono k1.size)
  replace R1 := R1.mono (S' := Ow (w.heap.size + 3) w2.heap.size) (Ow.mono (by simp [World.setCell]; omega) (Nat.le_refl _))
  replace R0 := (R0.keep (((((Kp.set (Ow.not (by omega))).trans (Kp.set (Ow.not (by omega)))).trans (Kp.set (Ow.not (by omega)))).trans (Kp.set (Ow.not (by omega)))).trans (Kp.of b2 (fun b h => by have := h.2; simp [World.setCell]; omega)))).mono (S' := Ow (w.heap.size + 3) w2.heap.size) (Ow.mono (Nat.le_refl _) (by omega))
  have m2' : w.heap.size + 3 ≤ w2.heap.size := by omega
  have o0 := vblk_cell hO2 0
  have q0 := vblk_cell hR2 0
  have y0 := vblk_cell hA2 0
  have o1 := vblk_cell hO2 1
  have q1 := vblk_cell hR2 1
  have y1 := vblk_cell hA2 1
  have o2 := vblk_cell hO2 2
  have q2 := vblk_cell hR2 2
  have y2 := vblk_cell hA2 2
  have o3 := vblk_cell hO2 3
  have q3 := vblk_cell hR2 3
  have y3 := vblk_cell hA2 3
  have o4 := vblk_cell hO2 4
  have q4 := vblk_cell hR2 4
  have y4 := vblk_cell hA2 4
  have o5 := vblk_cell hO2 5
  have q5 := vblk_cell hR2 5
  have y5 := vblk_cell hA2 5
  have fo := vblk_frozen hO2
  have fr := vblk_frozen hR2
  simp only [List.getElem?_toArray, List.getElem?_cons_succ, List.getElem?_cons_zero, List.setIfInBounds_toArray, List.set_cons_succ, List.set_cons_zero] at o0 q0 y0 o1 q1 y1 o2 q2 y2 o3 q3 y3 o4 q4 y4 o5 q5 y5
  go_wp2_with fail
  refine bodyPost_ret (v := .agg #[.string d.name, .int .i64 d.vA, .int .i64 d.vB, .int .i64 d.vC, .slice (some ⟨g1, 0, none⟩) d.vP.length d.vP.length, .slice (some ⟨g2, 0, none⟩) d.needs.length d.needs.length]) (by simp [results, Tryz.results136, go_sem, o0, q0, o1, q1, o2, q2, o3, q3, o4, q4, o5, q5]) rfl ⟨[.string d.name, .int .i64 d.vA, .int .i64 d.vB, .int .i64 d.vC, .slice (some ⟨g1, 0, none⟩) d.vP.length d.vP.length, .slice (some ⟨g2, 0, none⟩) d.needs.length d.needs.length], rfl, ?_, ?_⟩
  · have hS : ∀ {W : World}, w2.heap.size ≤ W.heap.size → ∀ b, Ow (w.heap.size + 3) w2.heap.size b → Ow w.heap.size W.heap.size b := fun h => Ow.mono (by omega) h
    refine ⟨_, _, rfl, s_name, (R0.keep ?_).mono (hS ?_), p0, (R1.keep ?_).mono (hS ?_)⟩
    all_goals first
      | (simp [World.setCell]; done)
      | ((repeat (refine Kp.trans ?_ (Kp.set (Ow.not (by omega))))); exact fun b hb => rfl)
  · refine ?_
    (repeat (refine Below.setCell ?_ (by simp <;> omega) _))
    exact kw2

set_option maxHeartbeats 2000000 in
set_option maxRecDepth 100000 in
theorem infoEntry : (Tryz.prog.info? 35).map (fun i => (i.zero, i.size, i.bytes)) = some (some (.agg #[.string ⟨#[]⟩, .int .i64 0, .int .i64 0, .int .i64 0, .slice none 0 0, .slice none 0 0]), 6, 88) := by kernel_rfl
set_option maxHeartbeats 2000000 in
set_option maxRecDepth 100000 in
theorem toEntryS_c (S : Nat → Prop) (v : Value) (xs : List EntryD) (w : World) (hv : RowIn shEntry S w v xs) (hB : ∀ b, S b → b < w.heap.size) (hw : wtRow wtEntry xs ≤ 1048576) :
    Calls Tryz.prog 57 #[v] w fun e w' => ∃ g, e = .returned (.slice (some ⟨g, 0, none⟩) xs.length xs.length) ∧ RowOwn shEntryO 35 (Ow w.heap.size w'.heap.size) w' (.slice (some ⟨g, 0, none⟩) xs.length xs.length) xs ∧ Below w.heap.size w w' := by
  obtain ⟨a, cap, rfl, hl, hc, ha⟩ := hv
  have hn := len_wtRow wtEntry xs
  have hlm : xs.length ≤ maxLen := hl
  unfold maxLen at hl
  obtain ⟨i0, hi, hz0, hz1, hz2⟩ := info_parts infoEntry
  go_enter Tryz.func57, Tryz.ntmps57
  go_wp2_with (first
    | (at_make; refine wpList_make_full _ rfl _ _ 24 rfl w.heap.size 35 i0 _ 6 Tryz.underlying24 hi hz0 hz1 _ _ _ _ xs.length rfl rfl rfl rfl (by rw [hz2]; omega) (by unfold maxLen; omega) (Nat.le_refl _) ?_))
  intro w1 hown hgrow
  have hb1 := below_of_grown hgrow
  have hs1 : w.heap.size + 1 ≤ w1.heap.size := by
    rcases hown.2 with ⟨h, _⟩ | ⟨g, cap, cur, h, _, hg, _⟩
    · simp at h
    · simp at h
      have := (Array.getElem?_eq_some_iff.1 hg).1
      omega
  obtain ⟨ys1, hown1⟩ : ∃ ys, w1.ownsRow w.heap.size 35 6 (.slice (some ⟨w.heap.size, 0, none⟩) xs.length xs.length) xs.length ys := ⟨_, hown⟩
  clear hgrow hown
  go_wp2_with fail
  go_loopw [4] (fun vi wr => ∃ (k : Nat) (ys : List Value), k ≤ xs.length ∧ vi = .int .i64 (k : Int) ∧ wr.ownsRow w.heap.size 35 6 (.slice (some ⟨w.heap.size, 0, none⟩) xs.length xs.length) xs.length ys ∧ Hid (Laid shEntryO (Ow (w.heap.size + 1) wr.heap.size) wr ys xs k) ∧ Below w.heap.size w wr ∧ w.heap.size + 1 ≤ wr.heap.size) (fun vi _ => xs.length - (intOf vi).toNat)
  case atStart => exact ⟨0, ys1, Nat.zero_le _, rfl, hown1, (fun i h h0 => by omega), hb1, hs1⟩
  case round =>
    obtain ⟨k, ys, hk, rfl, hownr, hy, hbr, hsr⟩ := hrel
    by_cases hlt' : k < xs.length
    · rcases ha with rfl | ⟨b, off, rfl, hlt, ha⟩
      · simp at hlt'
      obtain ⟨cs, hL, hcell⟩ := ha k hlt'
      have hL2 := shEntry.keep (.of hbr hB) hL
      have hcell2 := hcell.keep (.of hbr hB) hlt
      have hBr : ∀ b, S b → b < wr.heap.size := fun b h => Nat.lt_of_lt_of_le (hB b h) hbr.size
      have hwt : wtEntry xs[k] ≤ 1048576 := by have := wt_wtRow wtEntry (List.getElem_mem hlt'); omega
      have hown2 : ∀ w2, Below wr.heap.size wr w2 → w2.ownsRow w.heap.size 35 6 (.slice (some ⟨w.heap.size, 0, none⟩) xs.length xs.length) xs.length ys := fun w2 h2 => hownr.kept (grown_of_below h2 none) (by simp [Value.ownBlock])
      have hlen := hownr.1
      have HC : Hid (∀ w2, Below wr.heap.size wr w2 → ∀ j, j < 6 → ∃ x, w2.cell? ⟨w.heap.size, k * 6 + j, none⟩ = some x) := fun w2 h2 j hj => ⟨ys.getD (k * 6 + j) undef, by rw [(hown2 w2 h2).cellAt _ (by omega)]; simp [List.getD_eq_getElem?_getD, show k * 6 + j < ys.length by omega]⟩
      have HF : Hid (∀ w2, Below wr.heap.size wr w2 → ∀ j, w2.frozen? ⟨w.heap.size, j, none⟩ = false) := fun w2 h2 j => (hown2 w2 h2).frozenAt j
      have HO : Hid (∀ w2, Below wr.heap.size wr w2 → w2.ownsRow w.heap.size 35 6 (.slice (some ⟨w.heap.size, 0, none⟩) xs.length xs.length) xs.length ys) := hown2
      have HST : Hid (∀ w2 cs, Below wr.heap.size wr w2 → cs.length = 6 → shEntryO.lies (Ow (w.heap.size + 1) w2.heap.size) w2 cs xs[k] → Laid shEntryO (Ow (w.heap.size + 1) (setW w2 w.heap.size (k * 6) cs).heap.size) (setW w2 w.heap.size (k * 6) cs) (putL ys (k * 6) cs) xs (k + 1)) := fun w2 cs h2 hc hr => hy.out.step (sh := shEntryO) hlt' hlen h2 (by omega) hc hr
      obtain ⟨d, hd⟩ : ∃ d, d = xs[k] := ⟨_, rfl⟩
      rw [← hd] at hL2 hwt HST
      have HC1 := toEntry_c S d cs wr hL2 hBr hwt
      clear ha hL hcell hd hown2 hi hz0 hz1 hz2 hown1 hb1 hlen hwt
      obtain ⟨u0, u1, rfl, s_name, r0, p0, r1⟩ := hL2
      clear s_name p0
      obtain ⟨a0, cap0, eu0, _⟩ := id r0
      rw [length_strsV] at eu0
      subst eu0
      clear r0
      obtain ⟨a1, cap1, eu1, _⟩ := id r1
      subst eu1
      clear r1
      have e0 : wr.cell? ⟨b, off + k * 6, none⟩ = some (.string d.name) := hcell2 0 (by simp)
      have e1 : wr.cell? ⟨b, off + k * 6 + 1, none⟩ = some (.int .i64 d.vA) := hcell2 1 (by simp)
      have e2 : wr.cell? ⟨b, off + k * 6 + 2, none⟩ = some (.int .i64 d.vB) := hcell2 2 (by simp)
      have e3 : wr.cell? ⟨b, off + k * 6 + 3, none⟩ = some (.int .i64 d.vC) := hcell2 3 (by simp)
      have e4 : wr.cell? ⟨b, off + k * 6 + 4, none⟩ = some (.slice a0 d.vP.length cap0) := hcell2 4 (by simp)
      have e5 : wr.cell? ⟨b, off + k * 6 + 5, none⟩ = some (.slice a1 d.needs.length cap1) := hcell2 5 (by simp)
      have HC2 := hidden HC1
      have hki : (k : Int) < (xs.length : Int) := by omega
      clear hcell2 HC1
      go_wp2_with (go_at_call 136; refine HC2.out.mono ?_; rintro e w2 ⟨cs, rfl, hX, hb2⟩; have HX := hidden (HST.out w2 cs hb2 (by have h := hX; obtain ⟨u0, u1, h9, s_name, r0, p0, r1⟩ := h; rw [h9]; rfl) (shEntryO.mono (Ow.mono hsr (Nat.le_refl _)) hX)); obtain ⟨u0, u1, rfl, s_name, z0, p0, z1⟩ := hX; obtain ⟨b0, bap0, ev0⟩ := z0.slice; subst ev0; obtain ⟨b1, bap1, ev1⟩ := z1.slice; subst ev1; obtain ⟨y0, d0⟩ := HC.out w2 hb2 0 (by omega); obtain ⟨y1, d1⟩ := HC.out w2 hb2 1 (by omega); obtain ⟨y2, d2⟩ := HC.out w2 hb2 2 (by omega); obtain ⟨y3, d3⟩ := HC.out w2 hb2 3 (by omega); obtain ⟨y4, d4⟩ := HC.out w2 hb2 4 (by omega); obtain ⟨y5, d5⟩ := HC.out w2 hb2 5 (by omega); rw [Nat.add_zero] at d0; have f9 := HF.out w2 hb2)
      go_roundw
      case rel =>
        refine ⟨k + 1, _, by omega, by go_num, setW_owns [.string d.name, .int .i64 d.vA, .int .i64 d.vB, .int .i64 d.vC, .slice b0 d.vP.length bap0, .slice b1 d.needs.length bap1] w2 ys (k * 6) (HO.out w2 hb2), HX.out, setW_below (Nat.le_refl _) [.string d.name, .int .i64 d.vA, .int .i64 d.vB, .int .i64 d.vC, .slice b0 d.vP.length bap0, .slice b1 d.needs.length bap1] w2 w (k * 6) (hbr.trans (hb2.mono hbr.size)), ?_⟩
        have h9 := setW_size [.string d.name, .int .i64 d.vA, .int .i64 d.vB, .int .i64 d.vC, .slice b0 d.vP.length bap0, .slice b1 d.needs.length bap1] w2 w.heap.size (k * 6)
        have := hb2.size
        exact Nat.le_trans (show w.heap.size + 1 ≤ w2.heap.size by omega) (Nat.le_of_eq h9.symm)
      case measure => simp [intOf]; omega
    · have he : k = xs.length := by omega
      subst he
      clear ha
      go_wp2_with fail
      go_ret
      exact ⟨_, rfl, rowOwn_of hownr hlm hy.out, hbr⟩

end Go.Proofs.YtlfmefojcmpfeaaGreatDoor

/-! Copies of versions, needs and entries, as the program makes them: contracts for the walks; conditions: they lie in memory, and hold at most 2 to the 20. -/
namespace Go.Proofs.YtlfmefojcmpfeaaGreatDoor
open Go.RowKit
set_option linter.unusedSimpArgs false
set_option linter.unusedVariables false

/-- A block of another type than a row's is not the row's. -/
theorem row_box {w : World} {lo sz n g : Nat} {e t : TypeId} {v : Value} {xs : List Value} {cs : Array Value} {fz : Nat × Nat} (h : w.ownsRow lo e sz v n xs) (hb : w.heap[g]? = some (.cells cs t fz)) (hne : e ≠ t) : v.ownBlock ≠ some g := fun he => by
  rcases h.2 with ⟨rfl, _⟩ | ⟨g', cap, cur, rfl, _, hg, _⟩
  · simp [Value.ownBlock] at he
  · simp [Value.ownBlock] at he
    subst he
    rw [hg] at hb
    simp at hb
    exact hne hb.2.1
theorem box_grown {w w' : World} {row : Option Nat} {g : Nat} {o : Obj} (hb : w.heap[g]? = some o) (hg : w.grownBy w' row) (hne : row ≠ some g) : w'.heap[g]? = some o :=
  (hg.block g (Array.getElem?_eq_some_iff.1 hb).1 (fun e => hne e.symm)).trans hb
theorem box_below {w w' : World} {g : Nat} {o : Obj} (hb : w.heap[g]? = some o) (h : Below w.heap.size w w') : w'.heap[g]? = some o :=
  (h.block g (Array.getElem?_eq_some_iff.1 hb).1).trans hb
theorem row_put {w : World} {lo sz n g j : Nat} {e t : TypeId} {v x : Value} {xs : List Value} {cs : Array Value} {fz : Nat × Nat} (h : w.ownsRow lo e sz v n xs) (hb : w.heap[g]? = some (.cells cs t fz)) (hne : e ≠ t) : (w.setCell ⟨g, j, none⟩ x).ownsRow lo e sz v n xs :=
  owns_kept (S := fun b => b ≠ g) (Kp.set (by simp)) (fun b hb' => by rintro rfl; exact row_box h hb hne hb') h
theorem List.single_le_sum_natC {ss : List ByteArray} {t : ByteArray} (h : t ∈ ss) : t.size ≤ (ss.map ByteArray.size).sum := by
  induction ss with
  | nil => simp at h
  | cons a l ih =>
    simp only [List.map_cons, List.sum_cons]
    rcases List.mem_cons.1 h with rfl | h
    · omega
    · have := ih h; omega
theorem two_boxes {w : World} (A R : Obj) : ((w.alloc A).alloc R).heap[w.heap.size]? = some A ∧ ((w.alloc A).alloc R).heap[w.heap.size + 1]? = some R := by
  have s1 : (w.alloc A).heap.size = w.heap.size + 1 := by simp
  refine ⟨?_, ?_⟩
  · rw [vheap_old _ _ (by simp), vheap_new]
  · rw [← s1, vheap_new]

set_option maxHeartbeats 2000000 in
set_option maxRecDepth 100000 in
theorem copyVer_c (a b c : Int) (u : Value) (ps : List ByteArray) (w : World) (hu : Reads w u (strsV ps)) (hb : bulkS ps ≤ 1048576) :
    Calls Tryz.prog 107 #[.agg #[.int .i64 a, .int .i64 b, .int .i64 c, u]] w fun e w' => ∃ u', e = .returned (.agg #[.int .i64 a, .int .i64 b, .int .i64 c, u']) ∧ w'.ownsRow w.heap.size 9 1 u' ps.length (strsV ps) ∧ Below w.heap.size w w' := by
  obtain ⟨i0, hi, hz0, hz1, hz2⟩ := info_parts infoS
  obtain ⟨q, cap, rfl, _, hc⟩ := reads_strs hu
  have hn : ps.length ≤ 1048576 := by unfold bulkS at hb; omega
  have hsz : ∀ t ∈ ps, t.size ≤ 1048576 := fun t ht => by
    have : t.size ≤ (ps.map ByteArray.size).sum := List.single_le_sum_natC ht
    unfold bulkS at hb; omega
  have hb2 : ∀ A R, Below w.heap.size w ((w.alloc A).alloc R) := fun A R => ((Below.refl _ _).alloc (Nat.le_refl _) _).alloc (by simp) _
  have HB0 := two_boxes (w := w) (.cells #[.int .i64 a, .int .i64 b, .int .i64 c, .slice q ps.length cap] 30 (0, 0)) (.cells #[.int .i64 0, .int .i64 0, .int .i64 0, .slice none 0 0] 30 (0, 0))
  clear hu hb
  go_enter Tryz.func107, Tryz.ntmps107
  go_wp2_with fail
  go_loopw [3, 9] (fun vx vi wr => ∃ (k : Nat) (vo : Value), k ≤ ps.length ∧ vi = .int .i64 (k : Int) ∧ vx = vo ∧ wr.ownsRow w.heap.size 9 1 vo k (strsV (ps.take k)) ∧ Hid (wr.heap[w.heap.size]? = some (.cells #[.int .i64 a, .int .i64 b, .int .i64 c, .slice q ps.length cap] 30 (0, 0)) ∧ wr.heap[w.heap.size + 1]? = some (.cells #[.int .i64 0, .int .i64 0, .int .i64 0, .slice none 0 0] 30 (0, 0))) ∧ Below w.heap.size w wr) (fun _ vi _ => ps.length - (intOf vi).toNat)
  case atStart => exact ⟨0, _, Nat.zero_le _, rfl, rfl, (by rw [List.take_zero]; exact World.ownsRow_nil _ _ _ _), HB0, hb2 _ _⟩
  case round =>
    clear HB0
    obtain ⟨k, vo, hk, rfl, rfl, hown, hbx, hbr⟩ := hrel
    by_cases hlt' : k < ps.length
    · rcases hc with rfl | ⟨b0, off, rfl, hlt, hc⟩
      · simp at hlt'
      have e0 : wr.cell? ⟨b0, off + k, none⟩ = some (.string ps[k]) := (hbr.cell (by simpa using hlt)).trans (hc k hlt')
      have hsk := hsz ps[k] (List.getElem_mem hlt')
      have HT : Hid (strsV (ps.take k) ++ strsV [ps[k]] = strsV (ps.take (k + 1))) := by show _ = _; rw [strs_append, List.take_succ_eq_append_getElem hlt']
      obtain ⟨t, ht⟩ : ∃ t, t = ps[k] := ⟨_, rfl⟩
      rw [← ht] at e0 hsk HT
      have hki : (k : Int) < (ps.length : Int) := by omega
      clear hc ht hsz
      go_wp2_with (first
        | (go_at_call 116; refine (clone_c t _ hsk).mono ?_; rintro e w2 ⟨rfl, b2⟩
           have hown2 := owns_of_below hown b2)
        | (at_builtin; refine wpList_append_own _ rfl _ _ 28 rfl w.heap.size 9 i0 (.string ⟨#[]⟩) 1 16 Tryz.underlying28 hi hz0 hz1 hz2 rfl (by decide) _ k (strsV (ps.take k)) rfl (hown2.alloc _) ⟨w2.heap.size, 0, none⟩ 1 1 (strsV [t]) rfl rfl (cell_one_new _ _ _) (fun u hu => by simp [strsV] at hu; subst hu; rfl) (by unfold maxLen; omega) (by omega) (by have h1 := hbr.size; have h2 := b2.size; simp; omega) ?_))
      intro v3 w3 o3 gr3 _
      rw [HT.out] at o3
      have hbw2 := hbr.trans (b2.mono hbr.size)
      have hb3 : Below w.heap.size w w3 := Below.grown (hbw2.alloc hbw2.size _) gr3 (by have := hbw2.size; simp; omega) (fun j hj => (hown2.lt _ hj).1)
      have kA : Below w2.heap.size w2 (w2.alloc (.cells #[.string t] 9)) := (Below.refl _ _).alloc (Nat.le_refl _) _
      have hA1 := box_below (box_below hbx.out.1 b2) kA
      have hR1 := box_below (box_below hbx.out.2 b2) kA
      have hown4 := hown2.alloc (.cells #[.string t] 9)
      have HX := hidden (And.intro (box_grown hA1 gr3 (row_box hown4 hA1 (by decide))) (box_grown hR1 gr3 (row_box hown4 hR1 (by decide))))
      clear hA1 hR1 kA hbx hown4
      go_wp2_with fail
      go_roundw
      case rel => exact ⟨k + 1, _, by omega, by go_num, rfl, o3, HX, hb3⟩
      case measure => simp [intOf]; omega
    · have he : k = ps.length := by omega
      subst he
      rw [List.take_length] at hown
      obtain ⟨hA, hR⟩ := hbx.out
      obtain ⟨qo, co, hvo⟩ := owns_sliceP hown
      subst hvo
      have hA2 := heap_setCell_same wr w.heap.size 3 _ _ (.slice qo ps.length co) hA
      have hR2 := (Below.heap_setCell wr ⟨w.heap.size, 3, none⟩ (.slice qo ps.length co) (w.heap.size + 1) (by simp)).trans hR
      have HO : Hid (∀ c0 c1 c2 c3, (((((wr.setCell ⟨w.heap.size, 3, none⟩ (.slice qo ps.length co)).setCell ⟨w.heap.size + 1, 0, none⟩ c0).setCell ⟨w.heap.size + 1, 1, none⟩ c1).setCell ⟨w.heap.size + 1, 2, none⟩ c2).setCell ⟨w.heap.size + 1, 3, none⟩ c3).ownsRow w.heap.size 9 1 (.slice qo ps.length co) ps.length (strsV ps)) := fun c0 c1 c2 c3 =>
        owns_kept (S := fun b => b ≠ w.heap.size ∧ b ≠ w.heap.size + 1) ((((((Kp.set (by simp)).trans (Kp.set (by simp))).trans (Kp.set (by simp))).trans (Kp.set (by simp))).trans (Kp.set (by simp)))) (fun b hb' => ⟨by rintro rfl; exact row_box hown hA (by decide) hb', by rintro rfl; exact row_box hown hR (by decide) hb'⟩) hown
      have a0 := vblk_cell hA 0
      have a1 := vblk_cell hA 1
      have a2 := vblk_cell hA 2
      have a3 := vblk_cell hA 3
      have fa := vblk_frozen hA
      have r0 := vblk_cell hR 0
      have r1 := vblk_cell hR 1
      have r2 := vblk_cell hR 2
      have r3 := vblk_cell hR 3
      have fr := vblk_frozen hR
      simp only [List.getElem?_toArray, List.getElem?_cons_succ, List.getElem?_cons_zero] at a0 a1 a2 a3 r0 r1 r2 r3
      clear hc hsz hA hR hA2 hR2 hbx
      go_wp2_with fail
      refine bodyPost_ret (v := .agg #[.int .i64 a, .int .i64 b, .int .i64 c, .slice qo ps.length co]) (by simp [results, Tryz.results107, go_sem, a0, a1, a2, a3, r0, r1, r2, r3]) rfl ⟨_, rfl, HO.out _ _ _ _, ?_⟩
      (repeat (refine Below.setCell ?_ (by simp) _))
      exact hbr

end Go.Proofs.YtlfmefojcmpfeaaGreatDoor
