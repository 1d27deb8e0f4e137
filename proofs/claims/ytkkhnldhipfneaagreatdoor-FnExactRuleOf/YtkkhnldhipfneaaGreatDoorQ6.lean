/-
  Contracts for the walks, several texts in one: each part says what it proves, and under which conditions.
-/
import Derived.Handy
import Derived.Deep.RegionHeld
import Derived.Test.YtkkhnldhipfneaaGreatDoorQ2
import Derived.Test.YtkkhnldhipfneaaGreatDoorQ5
import Derived.Test.YtkkhnldhipfneaaGreatDoorQ3
import Derived.Test.YtkkhnldhipfneaaGreatDoorQ1
import Derived.Test.YtkkhnldhipfneaaGreatDoorQ4

/-! Whether rules are right, as the program asks it: contracts for the walks; conditions: they lie in memory, and hold at most 2 to the 20. -/
namespace Go.Proofs.YtkkhnldhipfneaaGreatDoor
open Go.RowKit
set_option linter.unusedSimpArgs false
set_option linter.unusedVariables false

set_option maxHeartbeats 2000000 in
set_option maxRecDepth 100000 in
theorem idxFew_c (p : ByteArray → Bool) (ptr v : Value) (ss : List ByteArray) (w : World) (hv : Reads w v (strsV ss)) (hs : saneP ss) (hF : ∀ t ∈ ss, ∀ w1, Below w.heap.size w w1 → Calls Tryz.prog 231 #[.string t, ptr] w1 fun e w' => e = .returned (.bool (!p t)) ∧ Below w1.heap.size w1 w') :
    Calls Tryz.prog 152 #[v, .func (.func 231) #[] #[ptr]] w fun e w' => e = .returned (.int .i64 (firstI (fun s => !p s) ss)) ∧ Below w.heap.size w w' := by
  obtain ⟨a, cap, rfl, _, ha⟩ := reads_strs hv
  obtain ⟨hl, hsz⟩ := hs
  clear hv
  have hl' := hl
  unfold maxLen at hl
  obtain ⟨R, hR⟩ : ∃ R, R = firstI (fun s => !p s) ss := ⟨_, rfl⟩
  rw [← hR]
  have HR := hidden hR
  clear hR
  go_enter Tryz.func152, Tryz.ntmps152
  go_wp2_with fail
  go_loopw [8] (fun vi wr => ∃ k : Nat, k ≤ ss.length ∧ vi = .int .i64 (k : Int) ∧ Hid (∀ j (hj : j < ss.length), j < k → (!p ss[j]) = false) ∧ Below w.heap.size w wr) (fun vi _ => ss.length - (intOf vi).toNat)
  case atStart => exact ⟨0, Nat.zero_le _, rfl, (fun j hj h => by omega), Below.refl _ _⟩
  case round =>
    obtain ⟨k, hk, rfl, hno, hbr⟩ := hrel
    by_cases hlt' : k < ss.length
    · rcases ha with rfl | ⟨b, off, rfl, hlt, ha⟩
      · simp at hlt'
      have e0 : wr.cell? ⟨b, off + k, none⟩ = some (.string ss[k]) := (hbr.cell (by simpa using hlt)).trans (ha k hlt')
      have hsk := hsz ss[k] (List.getElem_mem hlt')
      have HT : Hid ((!p ss[k]) = true → R = (k : Int)) := fun h => HR.out.trans (firstI_here hlt' h hno.out)
      have HN : Hid ((!p ss[k]) = false → ∀ j (hj : j < ss.length), j < k + 1 → (!p ss[j]) = false) := fun h j hj hjk => by
        by_cases e : j = k
        · subst e; exact h
        · exact hno.out j hj (by omega)
      have hFk := hF ss[k] (List.getElem_mem hlt') wr hbr
      obtain ⟨t, ht⟩ : ∃ t, t = ss[k] := ⟨_, rfl⟩
      rw [← ht] at e0 hsk HT HN hFk
      have HC : Calls Tryz.prog 231 #[.string t, ptr] wr fun e w' => e = .returned (.bool ((!p t))) ∧ Below wr.heap.size wr w' := hFk
      obtain ⟨r, hr⟩ : ∃ r, r = (!p t) := ⟨_, rfl⟩
      rw [← hr] at HC HT HN
      have HC2 := hidden HC
      have hki : (k : Int) < (ss.length : Int) := by omega
      clear ha ht hno HC hr hsz hsk hF hFk
      cases r with
      | true =>
        have HT2 := hidden (HT.out rfl)
        clear HT HN
        go_wp2_with (go_at_call 231; refine HC2.out.mono ?_; rintro e w1 ⟨rfl, b1⟩)
        go_ret
        exact ⟨by rw [HT2.out]; rfl, hbr.trans (b1.mono hbr.size)⟩
      | false =>
        have HN2 := hidden (HN.out rfl)
        clear HT HN
        go_wp2_with (go_at_call 231; refine HC2.out.mono ?_; rintro e w1 ⟨rfl, b1⟩)
        go_roundw
        case rel => exact ⟨k + 1, by omega, by go_num, HN2.out, hbr.trans (b1.mono hbr.size)⟩
        case measure => simp [intOf]; omega
    · have he : k = ss.length := by omega
      subst he
      have HE : Hid (R = -1) := HR.out.trans (firstI_none (fun j hj => hno.out j hj hj))
      clear ha hno HR hsz hF
      go_wp2_with fail
      go_ret
      exact ⟨by rw [HE.out]; rfl, hbr⟩
set_option maxHeartbeats 1000000 in
theorem anyFew_c (p : ByteArray → Bool) (ptr v : Value) (ss : List ByteArray) (w : World) (hv : Reads w v (strsV ss)) (hs : saneP ss) (hF : ∀ t ∈ ss, ∀ w1, Below w.heap.size w w1 → Calls Tryz.prog 231 #[.string t, ptr] w1 fun e w' => e = .returned (.bool (!p t)) ∧ Below w1.heap.size w1 w') :
    Calls Tryz.prog 83 #[v, .func (.func 231) #[] #[ptr]] w fun e w' => e = .returned (.bool (ss.any (fun s => !p s))) ∧ Below w.heap.size w w' := by
  have HF := idxFew_c p ptr v ss w hv hs hF
  have hA := firstI_any (fun s => !p s) ss
  obtain ⟨R, hR⟩ : ∃ R, R = firstI (fun s => !p s) ss := ⟨_, rfl⟩
  rw [← hR] at HF hA
  rw [← hA]
  have HF2 := hidden HF
  obtain ⟨a, cap, rfl, _, _⟩ := reads_strs hv
  clear hv hR hA HF hF
  by_cases h0 : 0 ≤ R
  · rw [decide_eq_true h0]
    have h1 : decide (0 ≤ R) = true := decide_eq_true h0
    go_enter Tryz.func83, Tryz.ntmps83
    go_wp2_with (go_at_call 152; refine HF2.out.mono ?_; rintro e w1 ⟨rfl, b1⟩)
    go_ret
    exact ⟨by first | rfl | simp [h0] | (simp; omega), b1⟩
  · rw [decide_eq_false h0]
    have h1 : decide (0 ≤ R) = false := decide_eq_false h0
    go_enter Tryz.func83, Tryz.ntmps83
    go_wp2_with (go_at_call 152; refine HF2.out.mono ?_; rintro e w1 ⟨rfl, b1⟩)
    go_ret
    exact ⟨by first | rfl | simp [h0] | (simp; omega), b1⟩

set_option maxHeartbeats 2000000 in
set_option maxRecDepth 100000 in
theorem fewOn_c (s : ByteArray) (hs : s.size ≤ 1048576) (w : World) (b : Nat) (hc : w.cell? ⟨b, 0, none⟩ = some (.func (.func 183) #[] #[])) :
    Calls Tryz.prog 231 #[.string s, .pointer (some ⟨b, 0, none⟩)] w fun e w' => e = .returned (.bool (!onB s)) ∧ Below w.heap.size w w' := by
  have HC : Hid (Calls Tryz.prog 183 #[.string s] w fun e w' => e = .returned (.bool (onB s)) ∧ Below w.heap.size w w') := implOn_c s w hs
  generalize onB s = r at *
  clear hs
  go_enter Tryz.func231, Tryz.ntmps231
  go_wp2_with fail
  go_at_call 183
  refine HC.out.mono ?_
  rintro e w1 ⟨rfl, b1⟩
  go_wp2_with fail
  go_ret
  exact ⟨rfl, b1⟩

set_option maxHeartbeats 2000000 in
set_option maxRecDepth 100000 in
theorem inTOk_c (s : ByteArray) (hs : s.size ≤ 1048576) (w : World) :
    Calls Tryz.prog 184 #[.string s] w fun e w' => e = .returned (.bool (inTB s)) ∧ Below w.heap.size w w' := by
  have HC := hidden (implGlob_c s w hs)
  unfold inTB
  generalize globB s = r at *
  by_cases h : s.size ≤ 60
  · have h' : (s.size : Int) ≤ 60 := by omega
    rw [decide_eq_true h]
    clear h
    go_enter Tryz.func184, Tryz.ntmps184
    go_wp2_with (go_at_call 232; refine HC.out.mono ?_; rintro e w1 ⟨rfl, b1⟩)
    go_ret
    exact ⟨rfl, b1⟩
  · have h' : ¬ (s.size : Int) ≤ 60 := by omega
    rw [decide_eq_false h]
    clear h
    go_enter Tryz.func184, Tryz.ntmps184
    go_wp2_with fail
    go_ret
    exact ⟨rfl, Below.refl _ _⟩

set_option maxHeartbeats 2000000 in
set_option maxRecDepth 100000 in
theorem fewIn_c (s : ByteArray) (hs : s.size ≤ 1048576) (w : World) (b : Nat) (hc : w.cell? ⟨b, 0, none⟩ = some (.func (.func 184) #[] #[])) :
    Calls Tryz.prog 231 #[.string s, .pointer (some ⟨b, 0, none⟩)] w fun e w' => e = .returned (.bool (!inTB s)) ∧ Below w.heap.size w w' := by
  have HC : Hid (Calls Tryz.prog 184 #[.string s] w fun e w' => e = .returned (.bool (inTB s)) ∧ Below w.heap.size w w') := inTOk_c s hs w
  generalize inTB s = r at *
  clear hs
  go_enter Tryz.func231, Tryz.ntmps231
  go_wp2_with fail
  go_at_call 184
  refine HC.out.mono ?_
  rintro e w1 ⟨rfl, b1⟩
  go_wp2_with fail
  go_ret
  exact ⟨rfl, b1⟩

set_option maxHeartbeats 2000000 in
set_option maxRecDepth 100000 in
theorem fewEnv_c (s : ByteArray) (hs : s.size ≤ 1048576) (w : World) (b : Nat) (hc : w.cell? ⟨b, 0, none⟩ = some (.func (.func 72) #[] #[])) :
    Calls Tryz.prog 231 #[.string s, .pointer (some ⟨b, 0, none⟩)] w fun e w' => e = .returned (.bool (!nameB s)) ∧ Below w.heap.size w w' := by
  have HC : Hid (Calls Tryz.prog 72 #[.string s] w fun e w' => e = .returned (.bool (nameB s)) ∧ Below w.heap.size w w') := (implName_c s (by unfold maxLen; omega) w).mono fun e w' ⟨h1, h2⟩ => ⟨h1, by subst h2; exact Below.refl _ _⟩
  generalize nameB s = r at *
  clear hs
  go_enter Tryz.func231, Tryz.ntmps231
  go_wp2_with fail
  go_at_call 72
  refine HC.out.mono ?_
  rintro e w1 ⟨rfl, b1⟩
  go_wp2_with fail
  go_ret
  exact ⟨rfl, b1⟩

set_option maxHeartbeats 2000000 in
set_option maxRecDepth 100000 in
theorem fewTexts_c (p : ByteArray → Bool) (n : Nat) (fn : Fn) (v : Value) (ss : List ByteArray) (w : World) (hn : n ≤ 4) (hv : Reads w v (strsV ss)) (hs : saneP ss)
    (hF : ∀ t ∈ ss, ∀ (b : Nat) (w1 : World), w1.cell? ⟨b, 0, none⟩ = some (.func fn #[] #[]) → Calls Tryz.prog 231 #[.string t, .pointer (some ⟨b, 0, none⟩)] w1 fun e w' => e = .returned (.bool (!p t)) ∧ Below w1.heap.size w1 w') :
    Calls Tryz.prog 182 #[v, .int .i64 (n : Int), .func fn #[] #[]] w fun e w' => e = .returned (.bool (fewB p n ss)) ∧ Below w.heap.size w w' := by
  have hmf : ∀ (fn : Fn) (first cap : Array Value) (w : World), (Instr.makeFunc fn first cap).run Tryz.prog w = .ok (.func fn first cap) w := fun _ _ _ _ => rfl
  have hbx : ∀ o, Below w.heap.size w (w.alloc o) := fun o => (Below.refl _ _).alloc (Nat.le_refl _) _
  have HA : Hid (∀ T, Calls Tryz.prog 83 #[v, .func (.func 231) #[] #[.pointer (some ⟨w.heap.size, 0, none⟩)]] (w.alloc (.cells #[.func fn #[] #[]] T)) fun e w' => e = .returned (.bool (ss.any (fun s => !p s))) ∧ Below (w.alloc (.cells #[.func fn #[] #[]] T)).heap.size (w.alloc (.cells #[.func fn #[] #[]] T)) w') := fun T =>
    anyFew_c p _ v ss _ (hv.below (hbx _)) hs (fun t ht w1 h => hF t ht _ w1 ((h.cell (by simp)).trans ((vblk_cell (vheap_new w (.cells #[.func fn #[] #[]] T)) 0).trans rfl)))
  have e1 : fewB p n ss = (decide (ss.length ≤ n) && !(ss.any fun s => !p s)) := by rw [fewB, not_any_r]
  rw [e1]
  obtain ⟨a, cap, rfl, _, _⟩ := reads_strs hv
  have hl := hs.1
  unfold maxLen at hl
  generalize (ss.any fun s => !p s) = q at *
  clear hv hs hF e1
  by_cases h : ss.length ≤ n
  · have h' : (ss.length : Int) ≤ (n : Int) := by omega
    rw [decide_eq_true h]
    clear h
    go_enter Tryz.func182, Tryz.ntmps182
    go_wp2_with fail
    go_at_call 83
    refine (HA.out _).mono ?_
    rintro e w1 ⟨rfl, b1⟩
    go_wp2_with fail
    go_ret
    exact ⟨rfl, (hbx _).trans (b1.mono (hbx _).size)⟩
  · have h' : ¬ (ss.length : Int) ≤ (n : Int) := by omega
    rw [decide_eq_false h]
    clear h HA
    go_enter Tryz.func182, Tryz.ntmps182
    go_wp2_with fail
    go_ret
    exact ⟨rfl, hbx _⟩

set_option maxHeartbeats 2000000 in
set_option maxRecDepth 100000 in
theorem wrongRule_c (S : Nat → Prop) (d : RuleD) (cs : List Value) (w : World) (hd : shRule.lies S w cs d) (hB : ∀ b, S b → b < w.heap.size) (hw : smallR d) :
    Calls Tryz.prog 123 #[.agg cs.toArray] w fun e w' => e = .returned (.bool (!ruleB d)) ∧ Below w.heap.size w w' := by
  obtain ⟨u0, u1, u2, rfl, s_task, r0, p0, r1, p1, r2, p2⟩ := hd
  have hbx : ∀ o, Below w.heap.size w (w.alloc o) := fun o => (Below.refl _ _).alloc (Nat.le_refl _) _
  have hrd : ∀ {u ss}, RdB S w u (strsV ss) → ∀ w1, Below w.heap.size w w1 → Reads w1 u (strsV ss) := fun r w1 h => (r.keep (.of h hB)).reads (fun b hb => Nat.lt_of_lt_of_le (hB b hb) h.size)
  have HN := fun w1 => implName_c d.task s_task w1
  have H0 : ∀ w1, Below w.heap.size w w1 → Calls Tryz.prog 182 #[u0, .int .i64 4, .func (.func 183) #[] #[]] w1 fun e w' => e = .returned (.bool (fewB onB 4 d.on)) ∧ Below w1.heap.size w1 w' := fun w1 h => fewTexts_c onB 4 _ u0 d.on w1 (by omega) (hrd r0 w1 h) p0 (fun t ht b w2 hc => fewOn_c t (hw.1 t ht) w2 b hc)
  have H1 : ∀ w1, Below w.heap.size w w1 → Calls Tryz.prog 182 #[u1, .int .i64 4, .func (.func 184) #[] #[]] w1 fun e w' => e = .returned (.bool (fewB inTB 4 d.ins)) ∧ Below w1.heap.size w1 w' := fun w1 h => fewTexts_c inTB 4 _ u1 d.ins w1 (by omega) (hrd r1 w1 h) p1 (fun t ht b w2 hc => fewIn_c t (hw.2.1 t ht) w2 b hc)
  have H2 : ∀ w1, Below w.heap.size w w1 → Calls Tryz.prog 182 #[u2, .int .i64 3, .func (.func 72) #[] #[]] w1 fun e w' => e = .returned (.bool (fewB nameB 3 d.envs)) ∧ Below w1.heap.size w1 w' := fun w1 h => fewTexts_c nameB 3 _ u2 d.envs w1 (by omega) (hrd r2 w1 h) p2 (fun t ht b w2 hc => fewEnv_c t (hw.2.2 t ht) w2 b hc)
  unfold ruleB
  obtain ⟨n, hn⟩ : ∃ p, p = nameB d.task := ⟨_, rfl⟩
  obtain ⟨p, hp⟩ : ∃ p, p = fewB onB 4 d.on := ⟨_, rfl⟩
  obtain ⟨q, hq⟩ : ∃ p, p = fewB inTB 4 d.ins := ⟨_, rfl⟩
  obtain ⟨r, hr⟩ : ∃ p, p = fewB nameB 3 d.envs := ⟨_, rfl⟩
  simp only [← hn] at HN ⊢
  simp only [← hp] at H0 ⊢
  simp only [← hq] at H1 ⊢
  simp only [← hr] at H2 ⊢
  replace HN := hidden HN
  replace H0 := hidden H0
  replace H1 := hidden H1
  replace H2 := hidden H2
  obtain ⟨a0, c0, e0, _⟩ := id r0
  rw [length_strsV] at e0
  subst e0
  obtain ⟨a1, c1, e1, _⟩ := id r1
  rw [length_strsV] at e1
  subst e1
  obtain ⟨a2, c2, e2, _⟩ := id r2
  rw [length_strsV] at e2
  subst e2
  clear r0 r1 r2 p0 p1 p2 hrd hn hp hq hr hw s_task
  cases n with
  | false =>
    go_enter Tryz.func123, Tryz.ntmps123
    go_wp2_with fail
    go_at_call 72
    refine (HN.out _).mono ?_
    rintro e w' ⟨rfl, rfl⟩
    go_wp2_with fail
    go_ret
    exact ⟨rfl, hbx _⟩
  | true =>
    cases p with
    | false =>
      go_enter Tryz.func123, Tryz.ntmps123
      go_wp2_with fail
      go_at_call 72
      refine (HN.out _).mono ?_
      rintro e w' ⟨rfl, rfl⟩
      go_wp2_with fail
      go_at_call 182
      refine (H0.out _ (hbx _)).mono ?_
      rintro e w1 ⟨rfl, b1⟩
      have k1 : Below w.heap.size w w1 := (hbx _).trans (b1.mono (hbx _).size)
      have hx1 := boxAt b1
      have x0 := vblk_cell hx1 0
      have x1 := vblk_cell hx1 1
      have x2 := vblk_cell hx1 2
      have x3 := vblk_cell hx1 3
      have x4 := vblk_cell hx1 4
      simp only [List.getElem?_toArray, List.getElem?_cons_succ, List.getElem?_cons_zero] at x0 x1 x2 x3 x4
      go_wp2_with fail
      go_ret
      exact ⟨rfl, k1⟩
    | true =>
      cases q with
      | false =>
        go_enter Tryz.func123, Tryz.ntmps123
        go_wp2_with fail
        go_at_call 72
        refine (HN.out _).mono ?_
        rintro e w' ⟨rfl, rfl⟩
        go_wp2_with fail
        go_at_call 182
        refine (H0.out _ (hbx _)).mono ?_
        rintro e w1 ⟨rfl, b1⟩
        have k1 : Below w.heap.size w w1 := (hbx _).trans (b1.mono (hbx _).size)
        have hx1 := boxAt b1
        have x0 := vblk_cell hx1 0
        have x1 := vblk_cell hx1 1
        have x2 := vblk_cell hx1 2
        have x3 := vblk_cell hx1 3
        have x4 := vblk_cell hx1 4
        simp only [List.getElem?_toArray, List.getElem?_cons_succ, List.getElem?_cons_zero] at x0 x1 x2 x3 x4
        go_wp2_with fail
        go_at_call 182
        refine (H1.out _ k1).mono ?_
        rintro e w2 ⟨rfl, b2⟩
        have k2 := below_nextR k1 b2
        have hx2 := (b2.block _ (Array.getElem?_eq_some_iff.1 hx1).1).trans hx1
        have x0 := vblk_cell hx2 0
        have x1 := vblk_cell hx2 1
        have x2 := vblk_cell hx2 2
        have x3 := vblk_cell hx2 3
        have x4 := vblk_cell hx2 4
        simp only [List.getElem?_toArray, List.getElem?_cons_succ, List.getElem?_cons_zero] at x0 x1 x2 x3 x4
        go_wp2_with fail
        go_ret
        exact ⟨rfl, k2⟩
      | true =>
        go_enter Tryz.func123, Tryz.ntmps123
        go_wp2_with fail
        go_at_call 72
        refine (HN.out _).mono ?_
        rintro e w' ⟨rfl, rfl⟩
        go_wp2_with fail
        go_at_call 182
        refine (H0.out _ (hbx _)).mono ?_
        rintro e w1 ⟨rfl, b1⟩
        have k1 : Below w.heap.size w w1 := (hbx _).trans (b1.mono (hbx _).size)
        have hx1 := boxAt b1
        have x0 := vblk_cell hx1 0
        have x1 := vblk_cell hx1 1
        have x2 := vblk_cell hx1 2
        have x3 := vblk_cell hx1 3
        have x4 := vblk_cell hx1 4
        simp only [List.getElem?_toArray, List.getElem?_cons_succ, List.getElem?_cons_zero] at x0 x1 x2 x3 x4
        go_wp2_with fail
        go_at_call 182
        refine (H1.out _ k1).mono ?_
        rintro e w2 ⟨rfl, b2⟩
        have k2 := below_nextR k1 b2
        have hx2 := (b2.block _ (Array.getElem?_eq_some_iff.1 hx1).1).trans hx1
        have x0 := vblk_cell hx2 0
        have x1 := vblk_cell hx2 1
        have x2 := vblk_cell hx2 2
        have x3 := vblk_cell hx2 3
        have x4 := vblk_cell hx2 4
        simp only [List.getElem?_toArray, List.getElem?_cons_succ, List.getElem?_cons_zero] at x0 x1 x2 x3 x4
        go_wp2_with fail
        go_at_call 182
        refine (H2.out _ k2).mono ?_
        rintro e w3 ⟨rfl, b3⟩
        have k3 := below_nextR k2 b3
        go_wp2_with fail
        go_ret
        exact ⟨by cases r <;> rfl, k3⟩

set_option maxHeartbeats 2000000 in
set_option maxRecDepth 100000 in
theorem taskOf_c (a : ByteArray) (b c d : Value) (k : Bool) (w : World) :
    Calls Tryz.prog 361 #[.agg #[.string a, b, c, d, .bool k]] w fun e w' => e = .returned (.string a) ∧ Below w.heap.size w w' := by
  have kb : ∀ o, Below w.heap.size w (w.alloc o) := fun o => (Below.refl w.heap.size w).alloc (Nat.le_refl _) o
  go_enter Tryz.func361, Tryz.ntmps361
  go_wp2_with fail
  go_ret
  exact ⟨rfl, kb _⟩
set_option maxHeartbeats 1000000 in
set_option maxRecDepth 100000 in
theorem txtRule_c (S : Nat → Prop) (d : RuleD) (cs : List Value) (w : World) (hd : shRule.lies S w cs d) :
    Calls Tryz.prog 180 #[.agg cs.toArray] w fun e w' => e = .returned (.string d.task) ∧ Below w.heap.size w w' := by
  obtain ⟨u0, u1, u2, rfl, s_task, r0, p0, r1, p1, r2, p2⟩ := hd
  have kb : ∀ o, Below w.heap.size w (w.alloc o) := fun o => (Below.refl w.heap.size w).alloc (Nat.le_refl _) o
  clear r0 r1 r2 p0 p1 p2
  go_enter Tryz.func180, Tryz.ntmps180
  go_wp2_with (go_at_call 361; refine (taskOf_c _ _ _ _ _ _).mono ?_; rintro e w1 ⟨rfl, b1⟩; have k1 := (kb _).trans (b1.mono (kb _).size))
  go_ret
  exact ⟨rfl, k1⟩

set_option maxHeartbeats 8000000 in
set_option maxRecDepth 100000 in
theorem ascRule_c (S : Nat → Prop) (v : Value) (xs : List RuleD) (w : World) (hv : RowIn shRule S w v xs) (hB : ∀ b, S b → b < w.heap.size) :
    Calls Tryz.prog 179 #[v, .func (.func 180) #[] #[]] w fun e w' => e = .returned (.bool (ascB (xs.map RuleD.task))) ∧ Below w.heap.size w w' := by
  obtain ⟨a, cap, rfl, hl, hc, ha⟩ := hv
  unfold maxLen at hl
  obtain ⟨R, hR⟩ : ∃ R, R = ascB (xs.map RuleD.task) := ⟨_, rfl⟩
  rw [← hR]
  have HR := hidden hR
  clear hR
  go_enter Tryz.func179, Tryz.ntmps179
  go_wp2_with fail
  go_loopw [5] (fun vi wr => ∃ k : Nat, 1 ≤ k ∧ (k ≤ xs.length ∨ k = 1) ∧ vi = .int .i64 (k : Int) ∧ Hid (rowUpto (fun _ => true) id (xs.map RuleD.task) k = true) ∧ Below w.heap.size w wr) (fun vi _ => xs.length - (intOf vi).toNat)
  case atStart => exact ⟨1, Nat.le_refl _, .inr rfl, rfl, asc_one _, Below.refl _ _⟩
  case round =>
    obtain ⟨k, hk1, hk, rfl, hh, hbr⟩ := hrel
    by_cases hlt' : k < xs.length
    · rcases ha with rfl | ⟨b, off, rfl, hlt, ha⟩
      · simp at hlt'
      obtain ⟨j, rfl⟩ : ∃ j, k = j + 1 := ⟨k - 1, by omega⟩
      have hj' : j < xs.length := by omega
      obtain ⟨ycs, yL, hcelly⟩ := ha j hj'
      obtain ⟨xcs, xL, hcellx⟩ := ha (j + 1) hlt'
      have hbb : b < wr.heap.size := Nat.lt_of_lt_of_le (hB b hlt) hbr.size
      replace hcelly := hcelly.keep (.of hbr hB) hlt
      replace hcellx := hcellx.keep (.of hbr hB) hlt
      have HC1 : Hid (∀ w1, Below wr.heap.size wr w1 → Calls Tryz.prog 180 #[.agg ycs.toArray] w1 fun e w' => e = .returned (.string xs[j].task) ∧ Below w1.heap.size w1 w') := fun w1 h => txtRule_c S xs[j] ycs w1 (shRule.keep (.of (hbr.trans (h.mono hbr.size)) hB) yL)
      have HC2 : Hid (∀ w1, Below wr.heap.size wr w1 → Calls Tryz.prog 180 #[.agg xcs.toArray] w1 fun e w' => e = .returned (.string xs[j + 1].task) ∧ Below w1.heap.size w1 w') := fun w1 h => txtRule_c S xs[j + 1] xcs w1 (shRule.keep (.of (hbr.trans (h.mono hbr.size)) hB) xL)
      have hpre : preX (xs.map RuleD.task) (j + 1) = some xs[j].task := by simp [preX, hj']
      have hat : (xs.map RuleD.task)[j + 1]'(by simpa using hlt') = xs[j + 1].task := by simp
      have HBD : Hid (Op.bytesLess xs[j].task.toList xs[j + 1].task.toList = false → R = false) := fun h => HR.out.trans (rowUpto_bad (by simpa using hlt') (by rw [hpre, hat]; exact rowOk_less h) _ (by simpa using hlt'))
      have HGD : Hid (Op.bytesLess xs[j].task.toList xs[j + 1].task.toList = true → rowUpto (fun _ => true) id (xs.map RuleD.task) (j + 1 + 1) = true) := fun h => rowUpto_step (by simpa using hlt') hh.out (by rw [hpre, hat, rowOk_some rfl]; exact h)
      obtain ⟨c, hc0⟩ : ∃ c, c = xs[j] := ⟨_, rfl⟩
      obtain ⟨d, hd0'⟩ : ∃ d, d = xs[j + 1] := ⟨_, rfl⟩
      rw [← hc0] at yL HC1 HBD HGD
      rw [← hd0'] at xL HC2 HBD HGD
      clear ha hpre hat hc0 hd0' hh
      obtain ⟨yu0, yu1, yu2, rfl, ys_task, yr0, yp0, yr1, yp1, yr2, yp2⟩ := yL
      obtain ⟨ya0, yc0, ye0, _⟩ := id yr0
      rw [length_strsV] at ye0
      subst ye0
      obtain ⟨ya1, yc1, ye1, _⟩ := id yr1
      rw [length_strsV] at ye1
      subst ye1
      obtain ⟨ya2, yc2, ye2, _⟩ := id yr2
      rw [length_strsV] at ye2
      subst ye2
      obtain ⟨xu0, xu1, xu2, rfl, xs_task, xr0, xp0, xr1, xp1, xr2, xp2⟩ := xL
      obtain ⟨xa0, xc0, xe0, _⟩ := id xr0
      rw [length_strsV] at xe0
      subst xe0
      obtain ⟨xa1, xc1, xe1, _⟩ := id xr1
      rw [length_strsV] at xe1
      subst xe1
      obtain ⟨xa2, xc2, xe2, _⟩ := id xr2
      rw [length_strsV] at xe2
      subst xe2
      have yv0 : wr.cell? ⟨b, off + j * 5, none⟩ = some (.string c.task) := hcelly 0 (by simp)
      have yv1 : wr.cell? ⟨b, off + j * 5 + 1, none⟩ = some (.slice ya0 c.on.length yc0) := hcelly 1 (by simp)
      have yv2 : wr.cell? ⟨b, off + j * 5 + 2, none⟩ = some (.slice ya1 c.ins.length yc1) := hcelly 2 (by simp)
      have yv3 : wr.cell? ⟨b, off + j * 5 + 3, none⟩ = some (.slice ya2 c.envs.length yc2) := hcelly 3 (by simp)
      have yv4 : wr.cell? ⟨b, off + j * 5 + 4, none⟩ = some (.bool c.keep) := hcelly 4 (by simp)
      have xv0 : wr.cell? ⟨b, off + (j + 1) * 5, none⟩ = some (.string d.task) := hcellx 0 (by simp)
      have xv1 : wr.cell? ⟨b, off + (j + 1) * 5 + 1, none⟩ = some (.slice xa0 d.on.length xc0) := hcellx 1 (by simp)
      have xv2 : wr.cell? ⟨b, off + (j + 1) * 5 + 2, none⟩ = some (.slice xa1 d.ins.length xc1) := hcellx 2 (by simp)
      have xv3 : wr.cell? ⟨b, off + (j + 1) * 5 + 3, none⟩ = some (.slice xa2 d.envs.length xc2) := hcellx 3 (by simp)
      have xv4 : wr.cell? ⟨b, off + (j + 1) * 5 + 4, none⟩ = some (.bool d.keep) := hcellx 4 (by simp)
      have hj0 : (0 : Int) ≤ (j : Int) + 1 := by omega
      have hj2 : (j : Int) + 1 < (xs.length : Int) := by omega
      have hj3 : (j : Int) < (xs.length : Int) := by omega
      have hjw : IntKind.i64.wrap (j : Int) = (j : Int) := IntWalk.i64_in _ ⟨by omega, by omega⟩
      have hd0 : Below wr.heap.size wr wr.drew := (Below.refl _ _).drew
      have KEEP : Hid (∀ w1, Below wr.heap.size wr w1 → w1.cell? ⟨b, off + j * 5, none⟩ = some (.string c.task) ∧ w1.cell? ⟨b, off + j * 5 + 1, none⟩ = some (.slice ya0 c.on.length yc0) ∧ w1.cell? ⟨b, off + j * 5 + 2, none⟩ = some (.slice ya1 c.ins.length yc1) ∧ w1.cell? ⟨b, off + j * 5 + 3, none⟩ = some (.slice ya2 c.envs.length yc2) ∧ w1.cell? ⟨b, off + j * 5 + 4, none⟩ = some (.bool c.keep) ∧ w1.cell? ⟨b, off + (j + 1) * 5, none⟩ = some (.string d.task) ∧ w1.cell? ⟨b, off + (j + 1) * 5 + 1, none⟩ = some (.slice xa0 d.on.length xc0) ∧ w1.cell? ⟨b, off + (j + 1) * 5 + 2, none⟩ = some (.slice xa1 d.ins.length xc1) ∧ w1.cell? ⟨b, off + (j + 1) * 5 + 3, none⟩ = some (.slice xa2 d.envs.length xc2) ∧ w1.cell? ⟨b, off + (j + 1) * 5 + 4, none⟩ = some (.bool d.keep)) := fun w1 h => ⟨(h.cell (by simpa using hbb)).trans yv0, (h.cell (by simpa using hbb)).trans yv1, (h.cell (by simpa using hbb)).trans yv2, (h.cell (by simpa using hbb)).trans yv3, (h.cell (by simpa using hbb)).trans yv4, (h.cell (by simpa using hbb)).trans xv0, (h.cell (by simpa using hbb)).trans xv1, (h.cell (by simpa using hbb)).trans xv2, (h.cell (by simpa using hbb)).trans xv3, (h.cell (by simpa using hbb)).trans xv4⟩
      clear hcelly hcellx yv0 yv1 yv2 yv3 yv4 xv0 xv1 xv2 xv3 xv4 yr0 yr1 yr2 xr0 xr1 xr2
      go_wp2_with fail
      refine wp_region_held_drew (S := (fun w' => w'.cell? ⟨b, off + j * 5, none⟩ = some (.string c.task) ∧ w'.cell? ⟨b, off + j * 5 + 1, none⟩ = some (.slice ya0 c.on.length yc0) ∧ w'.cell? ⟨b, off + j * 5 + 2, none⟩ = some (.slice ya1 c.ins.length yc1) ∧ w'.cell? ⟨b, off + j * 5 + 3, none⟩ = some (.slice ya2 c.envs.length yc2) ∧ w'.cell? ⟨b, off + j * 5 + 4, none⟩ = some (.bool c.keep) ∧ w'.cell? ⟨b, off + (j + 1) * 5, none⟩ = some (.string d.task) ∧ w'.cell? ⟨b, off + (j + 1) * 5 + 1, none⟩ = some (.slice xa0 d.on.length xc0) ∧ w'.cell? ⟨b, off + (j + 1) * 5 + 2, none⟩ = some (.slice xa1 d.ins.length xc1) ∧ w'.cell? ⟨b, off + (j + 1) * 5 + 3, none⟩ = some (.slice xa2 d.envs.length xc2) ∧ w'.cell? ⟨b, off + (j + 1) * 5 + 4, none⟩ = some (.bool d.keep))) (by kernel_rfl) ?SR10 (fun hHeld => ?_)
      case SR10 => (first | (with_reducible exact KEEP.out _ hd2) | (with_reducible exact KEEP.out _ hd1) | (with_reducible exact KEEP.out _ hd0))
      refine wpAnyH_take (i := 0) (oi := _) (v := ?vR10) rfl (by kernel_rfl) (by kernel_rfl) (by kernel_rfl) (fun _ _ _ h => h) (Or.inl ⟨by rfl, ?yR10⟩) hHeld ?_
      case yR10 => (intro w hSw; (try dsimp only at hSw); go_simp <;> with_reducible rfl)
      try simp only [Act.put, List.getElem_toArray, List.getElem_cons_zero, List.getElem_cons_succ, List.setIfInBounds_toArray, List.set_cons_zero, List.set_cons_succ]
      refine wpAnyH_take (i := 1) (oi := _) (v := ?vR11) rfl (by kernel_rfl) (by kernel_rfl) (by kernel_rfl) (fun _ _ _ h => h) (Or.inl ⟨by rfl, ?yR11⟩) hHeld ?_
      case yR11 => (intro w hSw; (try dsimp only at hSw); go_simp <;> with_reducible rfl)
      try simp only [Act.put, List.getElem_toArray, List.getElem_cons_zero, List.getElem_cons_succ, List.setIfInBounds_toArray, List.set_cons_zero, List.set_cons_succ]
      refine wpAnyH_take (i := 2) (oi := _) (v := ?vR12) rfl (by kernel_rfl) (by kernel_rfl) (by kernel_rfl) (fun _ _ _ h => h) (Or.inl ⟨by rfl, ?yR12⟩) hHeld ?_
      case yR12 => (intro w hSw; (try dsimp only at hSw); go_simp <;> with_reducible rfl)
      try simp only [Act.put, List.getElem_toArray, List.getElem_cons_zero, List.getElem_cons_succ, List.setIfInBounds_toArray, List.set_cons_zero, List.set_cons_succ]
      refine wpAnyH_take (i := 3) (oi := _) (v := ?vR13) rfl (by kernel_rfl) (by kernel_rfl) (by kernel_rfl) (fun _ _ _ h => h) (Or.inl ⟨by rfl, ?yR13⟩) hHeld ?_
      case yR13 => (intro w hSw; (try dsimp only at hSw); go_simp <;> with_reducible rfl)
      try simp only [Act.put, List.getElem_toArray, List.getElem_cons_zero, List.getElem_cons_succ, List.setIfInBounds_toArray, List.set_cons_zero, List.set_cons_succ]
      refine wpAnyH_take (i := 4) (oi := _) (v := ?vR14) rfl (by kernel_rfl) (by kernel_rfl) (by kernel_rfl) (fun _ _ _ h => h) (Or.inl ⟨by rfl, ?yR14⟩) hHeld ?_
      case yR14 => (intro w hSw; (try dsimp only at hSw); go_simp <;> with_reducible rfl)
      try simp only [Act.put, List.getElem_toArray, List.getElem_cons_zero, List.getElem_cons_succ, List.setIfInBounds_toArray, List.set_cons_zero, List.set_cons_succ]
      refine wpAnyH_take (i := 5) (oi := _) (v := ?vR15) rfl (by kernel_rfl) (by kernel_rfl) (by kernel_rfl) (fun _ _ _ h => h) (Or.inl ⟨by rfl, ?yR15⟩) hHeld ?_
      case yR15 => (intro w hSw; (try dsimp only at hSw); go_simp <;> with_reducible rfl)
      try simp only [Act.put, List.getElem_toArray, List.getElem_cons_zero, List.getElem_cons_succ, List.setIfInBounds_toArray, List.set_cons_zero, List.set_cons_succ]
      refine wpAnyH_take (i := 7) (oi := _) (v := ?vR16) rfl (by kernel_rfl) (by kernel_rfl) (by kernel_rfl) (fun _ _ _ h => h) (Or.inl ⟨by rfl, ?yR16⟩) hHeld ?_
      case yR16 => (intro w hSw; (try dsimp only at hSw); go_simp <;> with_reducible rfl)
      try simp only [Act.put, List.getElem_toArray, List.getElem_cons_zero, List.getElem_cons_succ, List.setIfInBounds_toArray, List.set_cons_zero, List.set_cons_succ]
      refine wpAnyH_take (i := 8) (oi := _) (v := ?vR17) rfl (by kernel_rfl) (by kernel_rfl) (by kernel_rfl) (fun _ _ _ h => h) (Or.inl ⟨by rfl, ?yR17⟩) hHeld ?_
      case yR17 => (intro w hSw; (try dsimp only at hSw); go_simp <;> with_reducible rfl)
      try simp only [Act.put, List.getElem_toArray, List.getElem_cons_zero, List.getElem_cons_succ, List.setIfInBounds_toArray, List.set_cons_zero, List.set_cons_succ]
      refine wpAnyH_take (i := 9) (oi := _) (v := ?vR18) rfl (by kernel_rfl) (by kernel_rfl) (by kernel_rfl) (fun _ _ _ h => h) (Or.inl ⟨by rfl, ?yR18⟩) hHeld ?_
      case yR18 => (intro w hSw; (try dsimp only at hSw); go_simp <;> with_reducible rfl)
      try simp only [Act.put, List.getElem_toArray, List.getElem_cons_zero, List.getElem_cons_succ, List.setIfInBounds_toArray, List.set_cons_zero, List.set_cons_succ]
      refine wpAnyH_take (i := 10) (oi := _) (v := ?vR19) rfl (by kernel_rfl) (by kernel_rfl) (by kernel_rfl) (fun _ _ _ h => h) (Or.inl ⟨by rfl, ?yR19⟩) hHeld ?_
      case yR19 => (intro w hSw; (try dsimp only at hSw); go_simp <;> with_reducible rfl)
      try simp only [Act.put, List.getElem_toArray, List.getElem_cons_zero, List.getElem_cons_succ, List.setIfInBounds_toArray, List.set_cons_zero, List.set_cons_succ]
      refine wpAnyH_take (i := 11) (oi := _) (v := ?vR110) rfl (by kernel_rfl) (by kernel_rfl) (by kernel_rfl) (fun _ _ _ h => h) (Or.inl ⟨by rfl, ?yR110⟩) hHeld ?_
      case yR110 => (intro w hSw; (try dsimp only at hSw); go_simp <;> with_reducible rfl)
      try simp only [Act.put, List.getElem_toArray, List.getElem_cons_zero, List.getElem_cons_succ, List.setIfInBounds_toArray, List.set_cons_zero, List.set_cons_succ]
      refine wpAnyH_ready (rs := [6]) (by kernel_rfl) (by simp) ?_
      refine AllReadyH.cons rfl (fun K hK => ?_) AllReadyH.nil
      go_simp
      go_wp2_with (go_at_call 180; refine (HC1.out _ (by first | exact hd0 | exact hd1)).mono ?_; rintro e w1 ⟨rfl, b1⟩; have hd1 : Below wr.heap.size wr w1 := hd0.trans (b1.mono hd0.size))
      clear hHeld
      refine hK.out _ _ ?SR112 (fun hHeld => ?_)
      case SR112 => ((try dsimp only); first | (with_reducible exact KEEP.out _ hd2) | (with_reducible exact KEEP.out _ hd1) | (with_reducible exact KEEP.out _ hd0))
      clear hK K
      refine wpAnyH_ready (rs := [12]) (by kernel_rfl) (by simp) ?_
      refine AllReadyH.cons rfl (fun K hK => ?_) AllReadyH.nil
      go_simp
      go_wp2_with (go_at_call 180; refine (HC2.out _ hd1).mono ?_; rintro e w2 ⟨rfl, b2⟩; have hd2 : Below wr.heap.size wr w2 := hd1.trans (b2.mono hd1.size))
      clear hHeld
      refine hK.out _ _ ?SR113 (fun hHeld => ?_)
      case SR113 => ((try dsimp only); first | (with_reducible exact KEEP.out _ hd2) | (with_reducible exact KEEP.out _ hd1) | (with_reducible exact KEEP.out _ hd0))
      clear hK K
      refine wpAnyH_take (i := 13) (oi := _) (v := ?vR113) rfl (by kernel_rfl) (by kernel_rfl) (by kernel_rfl) (fun _ _ _ h => h) (Or.inl ⟨by rfl, ?yR113⟩) hHeld ?_
      case yR113 => (intro w hSw; (try dsimp only at hSw); go_simp <;> with_reducible rfl)
      try simp only [Act.put, List.getElem_toArray, List.getElem_cons_zero, List.getElem_cons_succ, List.setIfInBounds_toArray, List.set_cons_zero, List.set_cons_succ]
      refine wpAnyH_done (by kernel_rfl) ?_ _
      go_wp2_with fail
      · have hlx : (!Op.bytesLess c.task.toList d.task.toList) = true := by assumption
        go_ret
        exact ⟨by rw [HBD.out (by simpa using hlx)]; rfl, hbr.trans (hd2.mono hbr.size)⟩
      · have hlx : (!Op.bytesLess c.task.toList d.task.toList) = false := by assumption
        go_roundw
        case rel => exact ⟨j + 1 + 1, by omega, .inl (by omega), by go_num, HGD.out (by simpa using hlx), hbr.trans (hd2.mono hbr.size)⟩
        case measure => simp [intOf]; omega
    · have HE : Hid (R = true) := HR.out.trans (asc_end hk1 (by simpa using hlt') (by simpa using hk) hh.out)
      clear ha hh
      go_wp2_with fail
      go_ret
      exact ⟨by rw [HE.out]; rfl, hbr⟩

set_option maxHeartbeats 2000000 in
set_option maxRecDepth 100000 in
theorem idxRule_c (S : Nat → Prop) (v : Value) (xs : List RuleD) (w : World) (hv : RowIn shRule S w v xs) (hB : ∀ b, S b → b < w.heap.size) (hw : ∀ d ∈ xs, smallR d) :
    Calls Tryz.prog 181 #[v, .func (.func 123) #[] #[]] w fun e w' => e = .returned (.int .i64 (firstI (fun d => !ruleB d) xs)) ∧ Below w.heap.size w w' := by
  obtain ⟨a, cap, rfl, hl, hc, ha⟩ := hv
  unfold maxLen at hl
  obtain ⟨R, hR⟩ : ∃ R, R = firstI (fun d => !ruleB d) xs := ⟨_, rfl⟩
  rw [← hR]
  have HR := hidden hR
  clear hR
  go_enter Tryz.func181, Tryz.ntmps181
  go_wp2_with fail
  go_loopw [8] (fun vi wr => ∃ k : Nat, k ≤ xs.length ∧ vi = .int .i64 (k : Int) ∧ Hid (∀ j (hj : j < xs.length), j < k → (fun d => !ruleB d) xs[j] = false) ∧ Below w.heap.size w wr) (fun vi _ => xs.length - (intOf vi).toNat)
  case atStart => exact ⟨0, Nat.zero_le _, rfl, (fun j hj h => by omega), Below.refl _ _⟩
  case round =>
    obtain ⟨k, hk, rfl, hno, hbr⟩ := hrel
    by_cases hlt' : k < xs.length
    · rcases ha with rfl | ⟨b, off, rfl, hlt, ha⟩
      · simp at hlt'
      obtain ⟨cs, hL, hcell⟩ := ha k hlt'
      have hL2 := shRule.keep (.of hbr hB) hL
      have hcell2 := hcell.keep (.of hbr hB) hlt
      have hBr : ∀ b, S b → b < wr.heap.size := fun b h => Nat.lt_of_lt_of_le (hB b h) hbr.size
      have HT : Hid ((fun d => !ruleB d) xs[k] = true → R = (k : Int)) := fun h => HR.out.trans (firstI_here hlt' h hno.out)
      have HN : Hid ((fun d => !ruleB d) xs[k] = false → ∀ j (hj : j < xs.length), j < k + 1 → (fun d => !ruleB d) xs[j] = false) := fun h j hj hjk => by
        by_cases e : j = k
        · subst e; exact h
        · exact hno.out j hj (by omega)
      have HC : Calls Tryz.prog 123 #[.agg cs.toArray] wr fun e w' => e = .returned (.bool ((fun d => !ruleB d) xs[k])) ∧ Below wr.heap.size wr w' := wrongRule_c S xs[k] cs wr hL2 hBr (hw _ (List.getElem_mem hlt'))
      obtain ⟨d, hd⟩ : ∃ d, d = xs[k] := ⟨_, rfl⟩
      rw [← hd] at hL2 HT HN HC
      obtain ⟨r, hr⟩ : ∃ r, r = (fun d => !ruleB d) d := ⟨_, rfl⟩
      rw [← hr] at HT HN HC
      clear ha hL hcell hd hr hno
      obtain ⟨u0, u1, u2, rfl, s_task, r0, p0, r1, p1, r2, p2⟩ := hL2
      obtain ⟨a0, c0, e0, _⟩ := id r0
      rw [length_strsV] at e0
      subst e0
      obtain ⟨a1, c1, e1, _⟩ := id r1
      rw [length_strsV] at e1
      subst e1
      obtain ⟨a2, c2, e2, _⟩ := id r2
      rw [length_strsV] at e2
      subst e2
      have e0 : wr.cell? ⟨b, off + k * 5, none⟩ = some (.string d.task) := hcell2 0 (by simp)
      have e1 : wr.cell? ⟨b, off + k * 5 + 1, none⟩ = some (.slice a0 d.on.length c0) := hcell2 1 (by simp)
      have e2 : wr.cell? ⟨b, off + k * 5 + 2, none⟩ = some (.slice a1 d.ins.length c1) := hcell2 2 (by simp)
      have e3 : wr.cell? ⟨b, off + k * 5 + 3, none⟩ = some (.slice a2 d.envs.length c2) := hcell2 3 (by simp)
      have e4 : wr.cell? ⟨b, off + k * 5 + 4, none⟩ = some (.bool d.keep) := hcell2 4 (by simp)
      have HC2 := hidden HC
      have hki : (k : Int) < (xs.length : Int) := by omega
      clear hcell2 HC r0 r1 r2
      cases r with
      | true =>
        have HT2 := hidden (HT.out rfl)
        clear HT HN
        go_wp2_with (go_at_call 123; refine HC2.out.mono ?_; rintro e w1 ⟨rfl, b1⟩)
        go_ret
        exact ⟨by rw [HT2.out]; rfl, hbr.trans (b1.mono hbr.size)⟩
      | false =>
        have HN2 := hidden (HN.out rfl)
        clear HT HN
        go_wp2_with (go_at_call 123; refine HC2.out.mono ?_; rintro e w1 ⟨rfl, b1⟩)
        go_roundw
        case rel => exact ⟨k + 1, by omega, by go_num, HN2.out, hbr.trans (b1.mono hbr.size)⟩
        case measure => simp [intOf]; omega
    · have he : k = xs.length := by omega
      subst he
      have HE : Hid (R = -1) := HR.out.trans (firstI_none (fun j hj => hno.out j hj hj))
      clear ha hno HR
      go_wp2_with fail
      go_ret
      exact ⟨by rw [HE.out]; rfl, hbr⟩
set_option maxHeartbeats 1000000 in
theorem anyRule_c (S : Nat → Prop) (v : Value) (xs : List RuleD) (w : World) (hv : RowIn shRule S w v xs) (hB : ∀ b, S b → b < w.heap.size) (hw : ∀ d ∈ xs, smallR d) :
    Calls Tryz.prog 122 #[v, .func (.func 123) #[] #[]] w fun e w' => e = .returned (.bool (xs.any (fun d => !ruleB d))) ∧ Below w.heap.size w w' := by
  have HF := idxRule_c S v xs w hv hB hw
  have hA := firstI_any (fun d => !ruleB d) xs
  obtain ⟨R, hR⟩ : ∃ R, R = firstI (fun d => !ruleB d) xs := ⟨_, rfl⟩
  rw [← hR] at HF hA
  rw [← hA]
  have HF2 := hidden HF
  obtain ⟨a, cap, rfl⟩ := hv.slice
  clear hv hR hA HF
  by_cases h0 : 0 ≤ R
  · rw [decide_eq_true h0]
    go_enter Tryz.func122, Tryz.ntmps122
    go_wp2_with (go_at_call 181; refine HF2.out.mono ?_; rintro e w1 ⟨rfl, b1⟩)
    go_ret
    exact ⟨by first | rfl | simp [h0] | (simp; omega), b1⟩
  · rw [decide_eq_false h0]
    go_enter Tryz.func122, Tryz.ntmps122
    go_wp2_with (go_at_call 181; refine HF2.out.mono ?_; rintro e w1 ⟨rfl, b1⟩)
    go_ret
    exact ⟨by first | rfl | simp [h0] | (simp; omega), b1⟩

set_option maxHeartbeats 2000000 in
set_option maxRecDepth 100000 in
theorem ascRules_c (S : Nat → Prop) (v : Value) (xs : List RuleD) (w : World) (hv : RowIn shRule S w v xs) (hB : ∀ b, S b → b < w.heap.size) :
    Calls Tryz.prog 121 #[v] w fun e w' => e = .returned (.bool (ascB (xs.map RuleD.task))) ∧ Below w.heap.size w w' := by
  have HC := hidden (ascRule_c S v xs w hv hB)
  generalize ascB (xs.map RuleD.task) = r at *
  obtain ⟨a, cap, rfl⟩ := hv.slice
  clear hv
  go_enter Tryz.func121, Tryz.ntmps121
  go_wp2_with (go_at_call 179; refine HC.out.mono ?_; rintro e w1 ⟨rfl, b1⟩)
  go_ret
  exact ⟨rfl, b1⟩
set_option maxHeartbeats 2000000 in
set_option maxRecDepth 100000 in
theorem implRules_c (S : Nat → Prop) (v : Value) (xs : List RuleD) (w : World) (hv : RowIn shRule S w v xs) (hB : ∀ b, S b → b < w.heap.size) (hw : ∀ d ∈ xs, smallR d) :
    Calls Tryz.prog 53 #[v] w fun e w' => e = .returned (.bool (rulesB xs)) ∧ Below w.heap.size w w' := by
  rw [rulesB_eq]
  have HA : ∀ w1, Below w.heap.size w w1 → Calls Tryz.prog 121 #[v] w1 fun e w' => e = .returned (.bool (ascB (xs.map RuleD.task))) ∧ Below w1.heap.size w1 w' := fun w1 h => ascRules_c S v xs w1 (hv.keep (.of h hB)) (fun b hb => Nat.lt_of_lt_of_le (hB b hb) h.size)
  have HC : ∀ w1, Below w.heap.size w w1 → Calls Tryz.prog 122 #[v, .func (.func 123) #[] #[]] w1 fun e w' => e = .returned (.bool (xs.any (fun d => !ruleB d))) ∧ Below w1.heap.size w1 w' := fun w1 h => anyRule_c S v xs w1 (hv.keep (.of h hB)) (fun b hb => Nat.lt_of_lt_of_le (hB b hb) h.size) hw
  obtain ⟨a, cap, rfl⟩ := hv.slice
  generalize ascB (xs.map RuleD.task) = p at *
  generalize (xs.any (fun d => !ruleB d)) = q at *
  replace HA := hidden HA
  replace HC := hidden HC
  clear hv
  by_cases h : xs.length ≤ 5
  · have h' : (xs.length : Int) ≤ 5 := by omega
    rw [decide_eq_true h]
    clear h
    cases p with
    | false =>
      go_enter Tryz.func53, Tryz.ntmps53
      go_wp2_with (go_at_call 121; refine (HA.out _ (Below.refl _ _)).mono ?_; rintro e w1 ⟨rfl, b1⟩)
      go_ret
      exact ⟨rfl, b1⟩
    | true =>
      go_enter Tryz.func53, Tryz.ntmps53
      go_wp2_with fail
      go_at_call 121
      refine (HA.out _ (Below.refl _ _)).mono ?_
      rintro e w1 ⟨rfl, b1⟩
      go_wp2_with fail
      go_at_call 122
      refine (HC.out _ b1).mono ?_
      rintro e w2 ⟨rfl, b2⟩
      go_wp2_with fail
      go_ret
      exact ⟨rfl, below_nextR b1 b2⟩
  · have h' : ¬ (xs.length : Int) ≤ 5 := by omega
    rw [decide_eq_false h]
    clear h
    go_enter Tryz.func53, Tryz.ntmps53
    go_wp2_with fail
    go_ret
    exact ⟨rfl, Below.refl _ _⟩
end Go.Proofs.YtkkhnldhipfneaaGreatDoor

/-! Marks put into a tree of values that may be written, as the law puts them: contracts for the walks; conditions: no two rows are the same, and there are at most 2 to the 32 marks. -/
namespace Go.Proofs.YtkkhnldhipfneaaGreatDoor
open Go.RowKit
set_option linter.unusedSimpArgs false
set_option linter.unusedVariables false

def MarkC (l : List Tree) : Prop := ∀ (S : Nat → Prop) (v : Value) (w : World) (k : Nat), OwnL w S v l → (∀ b, S b → b < w.heap.size) → 1 ≤ k → k + cntL l ≤ 4294967296 →
  Calls Tryz.prog 96 #[v, .int .i64 (k : Int)] w fun e w' => e = .returned (.int .i64 ((k + cntL l : Nat) : Int)) ∧ MarkL w' S k v l ∧ Chg S w w'

/-- What is done, and what is left, when the elements below i bear their marks. -/
structure MInv (w : World) (l : List Tree) (k : Nat) (C U : Nat → Value) (B K : Nat → Nat → Prop) (ys : List Value) (i : Nat) : Prop where
  at34 : ∀ j, j < l.length → ys[j * 5 + 3]? = some (C j) ∧ ys[j * 5 + 4]? = some (U j)
  at012 : ∀ j, j < l.length → i ≤ j → ∃ c0 c1 c2, ys[j * 5]? = some c0 ∧ ys[j * 5 + 1]? = some c1 ∧ ys[j * 5 + 2]? = some c2
  done : ∀ j, j < l.length → j < i → ys[j * 5]? = some (.int .i64 ((k + cntL (l.take j) : Nat) : Int)) ∧ ys[j * 5 + 1]? = some (.int .i64 ((k + cntL (l.take j) + 1 : Nat) : Int)) ∧ ys[j * 5 + 2]? = some (.string (markStr (k + cntL (l.take j) + 2)))
  doneC : ∀ j (h : j < l.length), j < i → MarkL w (B j) (k + cntL (l.take j) + 3) (C j) l[j].kids
  doneU : ∀ j (h : j < l.length), j < i → RdB (K j) w (U j) (strsV (marksS (k + cntL (l.take j) + 3 + cntL l[j].kids) l[j].keys.length))
  leftC : ∀ j (h : j < l.length), i ≤ j → OwnL w (B j) (C j) l[j].kids
  leftU : ∀ j (h : j < l.length), i ≤ j → ∃ xs, w.ownsRow 0 9 1 (U j) l[j].keys.length xs ∧ ∀ g, (U j).ownBlock = some g → K j g

theorem Chg.set {S : Nat → Prop} {w : World} {g j : Nat} {v : Value} (h : S g) : Chg S w (w.setCell ⟨g, j, none⟩ v) :=
  ⟨rfl, rfl, rfl, by simp [World.setCell], fun b hb hn => Below.heap_setCell w ⟨g, j, none⟩ v b (fun e => by have e' : b = g := e; subst e'; exact hn h)⟩
theorem Chg.grown {S : Nat → Prop} {w w' : World} {r : Option Nat} (h : w.grownBy w' r) (hr : ∀ g, r = some g → S g) : Chg S w w' :=
  ⟨h.os, h.tape, h.output, h.size, fun b hb hn => h.block b hb (fun e => hn (hr b e.symm))⟩
theorem rdB_in {S : Nat → Prop} {w : World} {lo : Nat} {e : TypeId} {v : Value} {n : Nat} {xs : List Value} (h : w.ownsRow lo e 1 v n xs) (hs : ∀ g, v.ownBlock = some g → S g) : RdB S w v xs := by
  obtain ⟨a, cap, hv, hc, hx⟩ := reads_of_owns h
  refine ⟨a, cap, hv, hc, ?_⟩
  rcases hx with hx | ⟨b, off, rfl, hlt, hx⟩
  · exact .inl hx
  · exact .inr ⟨b, off, rfl, hs b (by rw [hv]; rfl), hx⟩
theorem owns_sl {w : World} {lo : Nat} {e : TypeId} {sz n : Nat} {v : Value} {xs : List Value} (hg : w.ownsRow lo e sz v n xs) : ∃ q cap, v = .slice q n cap := by
  rcases hg.2 with ⟨h1, h2⟩ | ⟨g, cap, cur, h1, _⟩
  · exact ⟨none, 0, by rw [h1, h2]⟩
  · exact ⟨_, _, h1⟩
def put3 (ys : List Value) (i : Nat) (a b c : Value) : List Value := ((ys.set (i * 5) a).set (i * 5 + 1) b).set (i * 5 + 2) c
theorem put3_other {ys : List Value} {i j : Nat} {a b c : Value} (h : j < i * 5 ∨ i * 5 + 2 < j) : (put3 ys i a b c)[j]? = ys[j]? := by
  unfold put3
  rw [List.getElem?_set_ne (by omega), List.getElem?_set_ne (by omega), List.getElem?_set_ne (by omega)]
theorem put3_same {ys : List Value} {i : Nat} {a b c : Value} (h : i * 5 + 2 < ys.length) : (put3 ys i a b c)[i * 5]? = some a ∧ (put3 ys i a b c)[i * 5 + 1]? = some b ∧ (put3 ys i a b c)[i * 5 + 2]? = some c := by
  simp [put3, List.getElem?_set, h, show i * 5 < ys.length by omega, show i * 5 + 1 < ys.length by omega]

set_option maxHeartbeats 1000000 in
theorem MInv.step {w w' : World} {l : List Tree} {k m : Nat} {C U : Nat → Value} {B K : Nat → Nat → Prop} {ys : List Value} {i : Nat} (h : MInv w l k C U B K ys i) (hi : i < l.length) (hm : m = k + cntL (l.take i)) (hy : i * 5 + 2 < ys.length)
    (hK : ∀ R : Nat → Prop, (∀ j, j ≠ i → (∀ b, R b → B j b) ∨ (∀ b, R b → K j b) → Kp R w w'))
    (hC : MarkL w' (B i) (m + 3) (C i) l[i].kids) (hU : RdB (K i) w' (U i) (strsV (marksS (m + 3 + cntL l[i].kids) l[i].keys.length))) :
    MInv w' l k C U B K (put3 ys i (.int .i64 (m : Int)) (.int .i64 ((m : Int) + 1)) (.string (markStr (m + 2)))) (i + 1) := by
  subst hm
  refine ⟨fun j hj => ?_, fun j hj hij => ?_, fun j hj hij => ?_, fun j hj hij => ?_, fun j hj hij => ?_, fun j hj hij => ?_, fun j hj hij => ?_⟩
  · have := h.at34 j hj
    by_cases e : j = i
    · subst e; rw [put3_other (by omega), put3_other (by omega)]; exact this
    · by_cases e2 : j < i
      · rw [put3_other (by omega), put3_other (by omega)]; exact this
      · rw [put3_other (by omega), put3_other (by omega)]; exact this
  · obtain ⟨c0, c1, c2, h0, h1, h2⟩ := h.at012 j hj (by omega)
    exact ⟨c0, c1, c2, by rw [put3_other (by omega)]; exact h0, by rw [put3_other (by omega)]; exact h1, by rw [put3_other (by omega)]; exact h2⟩
  · by_cases e : j = i
    · subst e
      obtain ⟨a, b, c⟩ := put3_same (a := (.int .i64 ((k + cntL (l.take j) : Nat) : Int))) (b := (.int .i64 (((k + cntL (l.take j) : Nat) : Int) + 1))) (c := (.string (markStr (k + cntL (l.take j) + 2)))) hy
      exact ⟨a, by rw [b]; simp, c⟩
    · have := h.done j hj (by omega)
      rw [put3_other (by omega), put3_other (by omega), put3_other (by omega)]; exact this
  · by_cases e : j = i
    · subst e; exact hC
    · exact (h.doneC j hj (by omega)).keep (hK _ j e (.inl fun b hb => hb))
  · by_cases e : j = i
    · subst e; exact hU
    · exact (h.doneU j hj (by omega)).keep (hK _ j e (.inr fun b hb => hb))
  · exact (h.leftC j hj (by omega)).keep (hK _ j (by omega) (.inl fun b hb => hb))
  · obtain ⟨xs, a, b⟩ := h.leftU j hj (by omega)
    exact ⟨xs, owns_kept (hK _ j (by omega) (.inr fun b hb => hb)) b a, b⟩

set_option maxHeartbeats 4000000 in
set_option maxRecDepth 100000 in
theorem markValS_step (l : List Tree) (ih : ∀ U ∈ l, MarkC U.kids) : MarkC l := by
  intro S v w k h hS h1 h2
  cases h with
  | mk _ _ _ ys0 C U B K hrow hg hc hB hK hBB hBK hKK hC hU =>
  rcases id hrow.2 with ⟨rfl, hn0⟩ | ⟨g, cap, cur, rfl, _, hgb, hcap, hmax, _⟩
  · have hl0 : l = [] := List.eq_nil_of_length_eq_zero hn0
    subst hl0
    have HM : Hid (MarkL w S k (.slice none 0 0) []) := .mk k _ [] ys0 C U hrow (fun g h => (hg g h).1) (fun i hi => by simp at hi) (fun i hi => by simp at hi) (fun i hi => by simp at hi)
    clear hC hU hc ih hrow hg hB hK hBB hBK hKK
    go_enter Tryz.func96, Tryz.ntmps96
    go_wp2_with fail
    go_loopw [1, 5] (fun vk vi wr => vk = .int .i64 (k : Int) ∧ vi = .int .i64 0 ∧ wr = w) (fun _ _ _ => 0)
    case atStart => exact ⟨rfl, rfl, rfl⟩
    case round =>
      obtain ⟨rfl, rfl, rfl⟩ := hrel
      go_wp2_with fail
      go_ret
      exact ⟨by simp [cntL], HM.out, Chg.refl _ _⟩
  · have hSg := (hg g rfl).1
    have hNg := (hg g rfl).2
    unfold maxLen at hmax
    have HI : Hid (MInv w l k C U B K ys0 0) := ⟨fun j hj => (hc j hj).2, fun j hj _ => (hc j hj).1, fun j hj h => by omega, fun j hj h => by omega, fun j hj h => by omega, fun j hj _ => hC j hj, fun j hj _ => hU j hj⟩
    clear hC hU hc hg hgb
    go_enter Tryz.func96, Tryz.ntmps96
    go_wp2_with fail
    go_loopw [1, 5] (fun vk vi wr => ∃ (i m : Nat) (ys : List Value), i ≤ l.length ∧ vi = .int .i64 (i : Int) ∧ vk = .int .i64 (m : Int) ∧ Hid (m = k + cntL (l.take i)) ∧ wr.ownsRow 0 56 5 (.slice (some ⟨g, 0, none⟩) l.length cap) l.length ys ∧ Hid (MInv wr l k C U B K ys i) ∧ Chg S w wr) (fun _ vi _ => l.length - (intOf vi).toNat)
    case atStart => exact ⟨0, k, ys0, Nat.zero_le _, rfl, rfl, by show _ = _; simp [cntL], hrow, HI.out, Chg.refl _ _⟩
    case round =>
      obtain ⟨i, m, ys, hi, rfl, rfl, hm, hown, hinv, hchg⟩ := hrel
      by_cases hlt : i < l.length
      · have hlen := hown.1
        obtain ⟨c0, c1, c2, y0, y1, y2⟩ := hinv.out.at012 i hlt (Nat.le_refl _)
        obtain ⟨y3, y4⟩ := hinv.out.at34 i hlt
        have hcl : cntL (l.take i) + l[i].cnt ≤ cntL l := by rw [← cntL_take l i hlt]; exact cntL_take_le _ _
        have hce := cnt_eq l[i]
        have hm2 : m + 3 ≤ 4294967296 := by have := hm.out; omega
        have hm1 : 1 ≤ m := by have := hm.out; omega
        have d0 := (hown.cellAt (i * 5) (by omega)).trans y0
        have d1 := (hown.cellAt (i * 5 + 1) (by omega)).trans y1
        have fz := hown.frozenAt
        have hki : (i : Int) < (l.length : Int) := by omega
        have HO := hidden hown
        have HCL : Hid (cntL (l.take i) + l[i].cnt ≤ cntL l ∧ l[i].cnt = 3 + cntL l[i].kids + l[i].keys.length) := ⟨hcl, hce⟩
        have HY : Hid (ys[i * 5 + 2]? = some c2 ∧ ys[i * 5 + 3]? = some (C i) ∧ ys[i * 5 + 4]? = some (U i)) := ⟨y2, y3, y4⟩
        clear hcl hce y0 y1 y2 y3 y4 hown HI hrow
        go_wp2_with fail
        have HMT : Hid (∀ w1, Calls Tryz.prog 104 #[.int .i64 ((m : Int) + 1 + 1)] w1 fun e w' => e = .returned (.string (markStr (m + 2))) ∧ Below w1.heap.size w1 w') := fun w1 => by
          have := markText_c (m + 2) w1 (by omega) (by omega)
          rw [show ((m + 2 : Nat) : Int) = (m : Int) + 1 + 1 by omega] at this
          exact this
        go_at_call 104
        refine (HMT.out _).mono ?_
        rintro e w1 ⟨rfl, b1⟩
        clear HMT d0 d1 fz
        have r0 := ((HO.out.stored (i * 5) (.int .i64 (m : Int))).1.stored (i * 5 + 1) (.int .i64 ((m : Int) + 1))).1
        have r1 := r0.kept (grown_of_below b1 none) (by simp [Value.ownBlock])
        have d2 : w1.cell? ⟨g, i * 5 + 2, none⟩ = some c2 := (r1.cellAt (i * 5 + 2) (by omega)).trans (by rw [List.getElem?_set_ne (by omega), List.getElem?_set_ne (by omega)]; exact HY.out.1)
        have d3 : w1.cell? ⟨g, i * 5 + 3, none⟩ = some (C i) := (r1.cellAt (i * 5 + 3) (by omega)).trans (by rw [List.getElem?_set_ne (by omega), List.getElem?_set_ne (by omega)]; exact HY.out.2.1)
        have f1 := r1.frozenAt
        have r2 := (r1.stored (i * 5 + 2) (.string (markStr (m + 2)))).1
        have OC := hinv.out.leftC i hlt (Nat.le_refl _)
        obtain ⟨qc, cc, ec⟩ := OC.slice
        obtain ⟨xu, OU, hku⟩ := hinv.out.leftU i hlt (Nat.le_refl _)
        obtain ⟨qu, cu, eu⟩ := owns_sl OU
        have hgw : g < wr.heap.size := Nat.lt_of_lt_of_le (hS g hSg) hchg.size
        obtain ⟨W2, hW2⟩ : ∃ W, W = w1.setCell ⟨g, i * 5 + 2, none⟩ (.string (markStr (m + 2))) := ⟨_, rfl⟩
        have hs0 : ((wr.setCell ⟨g, i * 5, none⟩ (.int .i64 (m : Int))).setCell ⟨g, i * 5 + 1, none⟩ (.int .i64 ((m : Int) + 1))).heap.size = wr.heap.size := by simp [World.setCell]
        have hs1 : wr.heap.size ≤ w1.heap.size := by have := b1.size; rw [hs0] at this; exact this
        have hs2 : W2.heap.size = w1.heap.size := by rw [hW2]; simp [World.setCell]
        have hK2 : ∀ R : Nat → Prop, (∀ b, R b → S b ∧ b ≠ g) → Kp R wr W2 := fun R hR => by
          rw [hW2]
          have hn : ¬ R g := fun h => (hR g h).2 rfl
          exact (((Kp.set hn).trans (Kp.set hn)).trans (Kp.of b1 (fun b hb => by rw [hs0]; exact Nat.lt_of_lt_of_le (hS b (hR b hb).1) hchg.size))).trans (Kp.set hn)
        have hC2 : Chg S wr W2 := by
          rw [hW2]
          exact (((Chg.set hSg).trans (Chg.set hSg)).trans (Chg.of b1)).trans (Chg.set hSg)
        have OC2 := OC.keep (hK2 (B i) (fun b hb => ⟨hB i b hb, fun e => (hNg i).1 (e ▸ hb)⟩))
        have OU2 := owns_kept (hK2 (K i) (fun b hb => ⟨hK i b hb, fun e => (hNg i).2 (e ▸ hb)⟩)) hku OU
        have hBs : ∀ b, B i b → b < W2.heap.size := fun b hb => by rw [hs2]; exact Nat.lt_of_lt_of_le (Nat.lt_of_lt_of_le (hS b (hB i b hb)) hchg.size) hs1
        have hKs : ∀ b, K i b → b < W2.heap.size := fun b hb => by rw [hs2]; exact Nat.lt_of_lt_of_le (Nat.lt_of_lt_of_le (hS b (hK i b hb)) hchg.size) hs1
        have hgs : g < W2.heap.size := by rw [hs2]; exact Nat.lt_of_lt_of_le hgw hs1
        have HC := ih l[i] (List.getElem_mem hlt) (B i) (C i) W2 (m + 3) OC2 hBs (by omega) (by have := HCL.out; have := hm.out; omega)
        rw [show ((m + 3 : Nat) : Int) = (m : Int) + 1 + 1 + 1 by omega] at HC
        rw [hW2] at HC
        rw [ec] at HC d3
        obtain ⟨p, hp⟩ : ∃ p, p = m + 3 + cntL l[i].kids := ⟨_, rfl⟩
        rw [← hp] at HC
        have HP := hidden hp
        have HEC := hidden ec
        have HEU := hidden eu
        have hsz : ∀ b, S b → b < W2.heap.size := fun b hb => by rw [hs2]; exact Nat.lt_of_lt_of_le (Nat.lt_of_lt_of_le (hS b hb) hchg.size) hs1
        have HC2 := hidden HC
        clear hp ec eu
        have HB1 := hidden b1
        have r2' : W2.ownsRow 0 56 5 (.slice (some ⟨g, 0, none⟩) l.length cap) l.length (put3 ys i (.int .i64 (m : Int)) (.int .i64 ((m : Int) + 1)) (.string (markStr (m + 2)))) := by rw [hW2]; exact r2
        have HK2 := hidden hK2
        have HCH2 := hidden hC2
        have HR2 := hidden r2'
        have HW2 := hidden hW2
        have HOU2 := hidden OU2
        clear HC b1 r0 r1 r2 r2' hK2 hC2 OC OC2 OU OU2 hW2 hs0 hs2
        go_wp2_with fail
        go_at_call 96
        refine HC2.out.mono ?_
        rintro e w3 ⟨rfl, MK, ch3'⟩
        have ch3 : Chg (B i) W2 w3 := by rw [HW2.out]; exact ch3'
        have r3 := owns_kept (S := fun b => b = g) (ch3.kp (fun b hb => ⟨hb ▸ hgs, hb ▸ (hNg i).1⟩)) (fun g' h => by simp [Value.ownBlock] at h; exact h.symm) HR2.out
        have d4 : w3.cell? ⟨g, i * 5 + 4, none⟩ = some (.slice qu l[i].keys.length cu) := (r3.cellAt (i * 5 + 4) (by omega)).trans (by rw [put3_other (by omega), ← HEU.out]; exact HY.out.2.2)
        have OU3 := owns_kept (ch3.kp (fun b hb => ⟨hKs b hb, fun h => hBK i i b h hb⟩)) hku HOU2.out
        have HMS := markStrs_c (U i) 0 l[i].keys.length xu p w3 OU3 (by have := HP.out; omega) (by have := HP.out; have := HCL.out; have := hm.out; omega) (by have := HCL.out; omega) (Nat.zero_le _)
        rw [HEU.out] at HMS
        have HMS2 := hidden HMS
        have HR3 := hidden r3
        have hpb : p ≤ 4294967296 := by have := HP.out; have := HCL.out; have := hm.out; omega
        have hkb : l[i].keys.length ≤ 4294967296 := by have := HCL.out; omega
        clear HMS ch3' OU3 HC2 d2 d3 f1 r3
        go_wp2_with fail
        go_at_call 41
        refine HMS2.out.mono ?_
        rintro e w4 ⟨rfl, r4u, gr4⟩
        clear HMS2 d4
        go_wp2_with fail
        rw [← HEU.out] at r4u gr4
        have ch4 := Chg.grown (S := K i) gr4 hku
        have hsz3 : ∀ b, S b → b < w3.heap.size := fun b hb => Nat.lt_of_lt_of_le (hsz b hb) ch3.size
        have r4 := owns_kept (S := fun b => b = g) (ch4.kp (fun b hb => ⟨hb ▸ hsz3 g hSg, hb ▸ (hNg i).2⟩)) (fun g' h => by simp [Value.ownBlock] at h; exact h.symm) HR3.out
        have hK4 : ∀ R : Nat → Prop, (∀ j, j ≠ i → (∀ b, R b → B j b) ∨ (∀ b, R b → K j b) → Kp R wr w4) := fun R j hj h => by
          have hR : ∀ b, R b → S b ∧ b ≠ g ∧ ¬ B i b ∧ ¬ K i b := by
            intro b hb
            rcases h with h | h
            · exact ⟨hB j b (h b hb), fun e => (hNg j).1 (e ▸ h b hb), fun k => hBB j i b hj (h b hb) k, fun k => hBK j i b (h b hb) k⟩
            · exact ⟨hK j b (h b hb), fun e => (hNg j).2 (e ▸ h b hb), fun k => hBK i j b k (h b hb), fun k => hKK j i b hj (h b hb) k⟩
          exact ((HK2.out R (fun b hb => ⟨(hR b hb).1, (hR b hb).2.1⟩)).trans (ch3.kp (fun b hb => ⟨hsz b (hR b hb).1, (hR b hb).2.2.1⟩))).trans (ch4.kp (fun b hb => ⟨hsz3 b (hR b hb).1, (hR b hb).2.2.2⟩))
        have MK4 : MarkL w4 (B i) (m + 3) (C i) l[i].kids := by
          rw [HEC.out]
          exact MK.keep (ch4.kp (fun b hb => ⟨hsz3 b (hB i b hb), hBK i i b hb⟩))
        have RU4 : RdB (K i) w4 (U i) (strsV (marksS (m + 3 + cntL l[i].kids) l[i].keys.length)) := by
          rw [← HP.out]; exact rdB_in r4u hku
        have INV := hinv.out.step hlt hm.out (by omega) hK4 MK4 RU4
        have CHG := hchg.trans (HCH2.out.trans ((ch3.mono (hB i)).trans (ch4.mono (hK i))))
        have HPM : p + l[i].keys.length = k + cntL (l.take (i + 1)) := by rw [cntL_take l i hlt, HP.out, hm.out]; have := HCL.out.2; omega
        go_roundw
        case rel => exact ⟨i + 1, p + l[i].keys.length, _, by omega, by go_num, by simp, HPM, r4, INV, CHG⟩
        case measure => simp [intOf]; omega
      · have he : i = l.length := by omega
        subst he
        have hmm : m = k + cntL l := by have := hm.out; rw [List.take_length] at this; exact this
        have HML : Hid (MarkL wr S k (.slice (some ⟨g, 0, none⟩) l.length cap) l) := .mk k _ l ys C U hown (fun g' h => by simp [Value.ownBlock] at h; exact h ▸ hSg) (fun i hi => by obtain ⟨a, b, c⟩ := hinv.out.done i hi hi; obtain ⟨d, e⟩ := hinv.out.at34 i hi; exact ⟨a, b, c, d, e⟩) (fun i h => (hinv.out.doneC i h h).mono (hB i)) (fun i h => (hinv.out.doneU i h h).mono (hK i))
        have HMM := hidden hmm
        clear hown hinv hmm HI hrow
        go_wp2_with fail
        go_ret
        exact ⟨by rw [← HMM.out]; rfl, HML.out, hchg⟩
theorem markValS_all : ∀ T : Tree, MarkC T.kids := by
  refine Tree.ind (fun k n s l ks ih => ?_)
  exact markValS_step l ih
theorem markValS_c (l : List Tree) : MarkC l := markValS_step l (fun U _ => markValS_all U)
end Go.Proofs.YtkkhnldhipfneaaGreatDoor

/-! A list of texts in blocks of its own, and what a walk leaves of it: laws for the walks; no condition. -/
namespace Go.Proofs.YtkkhnldhipfneaaGreatDoor
open Go.RowKit
set_option linter.unusedSimpArgs false
set_option linter.unusedVariables false

/-- A list of texts in blocks from lo up to hi. -/
def StrR (lo hi : Nat) (W : World) (u : Value) (ss : List ByteArray) : Prop := StrsOwn (Ow lo hi) W u ss ∧ hi ≤ W.heap.size
theorem StrR.chg {lo hi : Nat} {W W' : World} {u : Value} {ss : List ByteArray} {S : Nat → Prop} (h : StrR lo hi W u ss) (k : Chg S W W') (n : ∀ b, Ow lo hi b → ¬ S b) : StrR lo hi W' u ss :=
  ⟨h.1.keep (fun b hb => k.block b (Nat.lt_of_lt_of_le hb.2 h.2) (n b hb)), Nat.le_trans h.2 k.size⟩
theorem StrR.below {lo hi : Nat} {W W' : World} {u : Value} {ss : List ByteArray} (h : StrR lo hi W u ss) (k : Below W.heap.size W W') : StrR lo hi W' u ss := h.chg (Chg.of (S := fun _ => False) k) (fun _ _ => id)
theorem strR_of {lo : Nat} {W : World} {u : Value} {ss : List ByteArray} (h : W.ownsRow lo 9 1 u ss.length (strsV ss)) : StrR lo W.heap.size W u ss := ⟨⟨owns_lo (Nat.zero_le _) h, fun g hg => owns_in h g hg⟩, Nat.le_refl _⟩
theorem below_chgW {B : Nat} {S : Nat → Prop} {w W W' : World} (h : Below B w W) (k : Chg S W W') (hs : ∀ b, S b → B ≤ b) (hB : B ≤ W.heap.size) : Below B w W' :=
  ⟨k.os.trans h.os, k.tape.trans h.tape, k.output.trans h.output, Nat.le_trans h.size k.size, fun b hb => (k.block b (Nat.lt_of_lt_of_le hb hB) (fun hS => by have := hs b hS; omega)).trans (h.block b hb)⟩
end Go.Proofs.YtkkhnldhipfneaaGreatDoor

/-! Copies of packs, and of rows of them, in memory of their own, as the law makes them: contracts for the walks; condition: what is copied holds at most 2 to the 20. -/
namespace Go.Proofs.YtkkhnldhipfneaaGreatDoor
open Go.RowKit
set_option linter.unusedSimpArgs false
set_option linter.unusedVariables false

set_option maxHeartbeats 2000000 in
set_option maxRecDepth 100000 in
theorem toPack_c (S : Nat → Prop) (d : PackD) (cs : List Value) (w : World) (hd : shPack.lies S w cs d) (hB : ∀ b, S b → b < w.heap.size) (hw : wtPack d ≤ 1048576) :
    Calls Tryz.prog 100 #[.agg cs.toArray] w fun e w' => ∃ cs', e = .returned (.agg cs'.toArray) ∧ shPackO.lies (Ow w.heap.size w'.heap.size) w' cs' d ∧ Below w.heap.size w w' := by
  obtain ⟨u0, u1, u2, rfl, s_name, r0, p0, r1, r2⟩ := hd
  have hb3 : ∀ A R O, Below w.heap.size w (((w.alloc A).alloc R).alloc O) := fun A R O => (((Below.refl _ _).alloc (Nat.le_refl _) _).alloc (by simp) _).alloc (by simp; omega) _
  unfold wtPack at hw
  have HS0 : Hid (∀ w1, Below w.heap.size w w1 → Calls Tryz.prog 34 #[u0] w1 fun e w' => ∃ g, e = .returned (.slice (some ⟨g, 0, none⟩) d.uses.length d.uses.length) ∧ StrsOwn (Ow w1.heap.size w'.heap.size) w' (.slice (some ⟨g, 0, none⟩) d.uses.length d.uses.length) d.uses ∧ Below w1.heap.size w1 w') := fun w1 hb =>
    (toStrs_c u0 d.uses w1 ((r0.keep (.of hb hB)).reads (fun b h => Nat.lt_of_lt_of_le (hB b h) hb.size)) (by unfold bulkS at hw; omega)).mono fun e w' ⟨g, h1, h2, h3⟩ => ⟨g, h1, ⟨owns_lo (Nat.zero_le _) h2, owns_in h2⟩, h3⟩
  obtain ⟨a0, cap0, eu0, _⟩ := id r0
  rw [length_strsV] at eu0
  have HS1 : Hid (∀ w1, Below w.heap.size w w1 → Calls Tryz.prog 166 #[u1] w1 fun e w' => ∃ g, e = .returned (.slice (some ⟨g, 0, none⟩) d.needs.length d.needs.length) ∧ RowOwn shNeed 211 (Ow w1.heap.size w'.heap.size) w' (.slice (some ⟨g, 0, none⟩) d.needs.length d.needs.length) d.needs ∧ Below w1.heap.size w1 w') := fun w1 hb =>
    toNeedS_c S u1 d.needs w1 (r1.keep (.of hb hB)) (fun b h => Nat.lt_of_lt_of_le (hB b h) hb.size) (by omega)
  obtain ⟨a1, cap1, eu1, _⟩ := id r1
  have HS2 : Hid (∀ w1, Below w.heap.size w w1 → Calls Tryz.prog 167 #[u2] w1 fun e w' => ∃ g, e = .returned (.slice (some ⟨g, 0, none⟩) d.cmds.length d.cmds.length) ∧ RowOwn shCmdO 170 (Ow w1.heap.size w'.heap.size) w' (.slice (some ⟨g, 0, none⟩) d.cmds.length d.cmds.length) d.cmds ∧ Below w1.heap.size w1 w') := fun w1 hb =>
    toCmdS_c S u2 d.cmds w1 (r2.keep (.of hb hB)) (fun b h => Nat.lt_of_lt_of_le (hB b h) hb.size) (by omega)
  obtain ⟨a2, cap2, eu2, _⟩ := id r2
  subst eu0
  clear r0
  subst eu1
  clear r1
  subst eu2
  clear r2
  go_enter Tryz.func100, Tryz.ntmps100
  go_wp2_with fail
  go_at_call 34
  refine (HS0.out _ (hb3 _ _ _)).mono ?_
  rintro e w1 ⟨g1, rfl, R0, b1⟩
  obtain ⟨hA1, hR1, hO1⟩ := vthree b1
  have s3 : ∀ A R O, (((w.alloc A).alloc R).alloc O).heap.size = w.heap.size + 1 + 1 + 1 := fun A R O => by simp
  rw [s3] at b1 R0
  have m1 : w.heap.size + 3 ≤ w1.heap.size := by have := b1.size; rw [s3] at this; omega
  have kw1 : Below w.heap.size w w1 := (hb3 _ _ _).trans (b1.mono (by omega))
  replace R0 := R0.mono (S' := Ow (w.heap.size + 3) w1.heap.size) (Ow.mono (by omega) (Nat.le_refl _))
  have m1' : w.heap.size + 3 ≤ w1.heap.size := by omega
  have o0 := vblk_cell hO1 0
  have q0 := vblk_cell hR1 0
  have y0 := vblk_cell hA1 0
  have o1 := vblk_cell hO1 1
  have q1 := vblk_cell hR1 1
  have y1 := vblk_cell hA1 1
  have o2 := vblk_cell hO1 2
  have q2 := vblk_cell hR1 2
  have y2 := vblk_cell hA1 2
  have o3 := vblk_cell hO1 3
  have q3 := vblk_cell hR1 3
  have y3 := vblk_cell hA1 3
  have fo := vblk_frozen hO1
  have fr := vblk_frozen hR1
  simp only [List.getElem?_toArray, List.getElem?_cons_succ, List.getElem?_cons_zero, List.setIfInBounds_toArray, List.set_cons_succ, List.set_cons_zero] at o0 q0 y0 o1 q1 y1 o2 q2 y2 o3 q3 y3
  have k1 : Below w.heap.size w (w1.setCell ⟨w.heap.size + 1 + 1, 1, none⟩ (.slice (some ⟨g1, 0, none⟩) d.uses.length d.uses.length)) := Below.setCell kw1 (by simp; omega) _
  go_wp2_with fail
  go_at_call 166
  refine (HS1.out _ k1).mono ?_
  rintro e w2 ⟨g2, rfl, R1, b2⟩
  have hA2 := (b2.block w.heap.size (by simp [World.setCell]; omega)).trans ((Below.heap_setCell _ _ _ _ (by simp <;> omega)).trans hA1)
  have hR2 := (b2.block (w.heap.size + 1) (by simp [World.setCell]; omega)).trans ((Below.heap_setCell _ _ _ _ (by simp <;> omega)).trans hR1)
  have hO2 := (b2.block (w.heap.size + 1 + 1) (by simp [World.setCell]; omega)).trans (heap_setCell_same _ _ _ _ _ _ hO1)
  have m2 : w1.heap.size ≤ w2.heap.size := by have := b2.size; simpa [World.setCell] using this
  have kw2 : Below w.heap.size w w2 := k1.trans (b2.mono k1.size)
  replace R1 := R1.mono (S' := Ow (w.heap.size + 3) w2.heap.size) (Ow.mono (by simp [World.setCell]; omega) (Nat.le_refl _))
  replace R0 := (R0.keep ((Kp.set (Ow.not (by omega))).trans (Kp.of b2 (fun b h => by have := h.2; simp [World.setCell]; omega)))).mono (S' := Ow (w.heap.size + 3) w2.heap.size) (Ow.mono (Nat.le_refl _) (by omega))
  have m2' : w.heap.size + 3 ≤ w2.heap.size := by omega
  have o0 := vblk_cell hO2 0
  have q0 := vblk_cell hR2 0
  have y0 := vblk_cell hA2 0
  have o1 := vblk_cell hO2 1
  have q1 := vblk_cell hR2 1
  have y1 := vblk_cell hA2 1
  have o2 := vblk_cell hO2 2
  have q2 := vblk_cell hR2 2
  have y2 := vblk_cell hA2 2
  have o3 := vblk_cell hO2 3
  have q3 := vblk_cell hR2 3
  have y3 := vblk_cell hA2 3
  have fo := vblk_frozen hO2
  have fr := vblk_frozen hR2
  simp only [List.getElem?_toArray, List.getElem?_cons_succ, List.getElem?_cons_zero, List.setIfInBounds_toArray, List.set_cons_succ, List.set_cons_zero] at o0 q0 y0 o1 q1 y1 o2 q2 y2 o3 q3 y3
  have k2 : Below w.heap.size w (w2.setCell ⟨w.heap.size + 1 + 1, 2, none⟩ (.slice (some ⟨g2, 0, none⟩) d.needs.length d.needs.length)) := Below.setCell kw2 (by simp; omega) _
  go_wp2_with fail
  go_at_call 167
  refine (HS2.out _ k2).mono ?_
  rintro e w3 ⟨g3, rfl, R2, b3⟩
  have hA3 := (b3.block w.heap.size (by simp [World.setCell]; omega)).trans ((Below.heap_setCell _ _ _ _ (by simp <;> omega)).trans hA2)
  have hR3 := (b3.block (w.heap.size + 1) (by simp [World.setCell]; omega)).trans ((Below.heap_setCell _ _ _ _ (by simp <;> omega)).trans hR2)
  have hO3 := (b3.block (w.heap.size + 1 + 1) (by simp [World.setCell]; omega)).trans (heap_setCell_same _ _ _ _ _ _ hO2)
  have m3 : w2.heap.size ≤ w3.heap.size := by have := b3.size; simpa [World.setCell] using this
  have kw3 : Below w.heap.size w w3 := k2.trans (b3.mono k2.size)
  replace R2 := R2.mono (S' := Ow (w.heap.size + 3) w3.heap.size) (Ow.mono (by simp [World.setCell]; omega) (Nat.le_refl _))
  replace R0 := (R0.keep ((Kp.set (Ow.not (by omega))).trans (Kp.of b3 (fun b h => by have := h.2; simp [World.setCell]; omega)))).mono (S' := Ow (w.heap.size + 3) w3.heap.size) (Ow.mono (Nat.le_refl _) (by omega))
  replace R1 := (R1.keep ((Kp.set (Ow.not (by omega))).trans (Kp.of b3 (fun b h => by have := h.2; simp [World.setCell]; omega)))).mono (S' := Ow (w.heap.size + 3) w3.heap.size) (Ow.mono (Nat.le_refl _) (by omega))
  have m3' : w.heap.size + 3 ≤ w3.heap.size := by omega
  have o0 := vblk_cell hO3 0
  have q0 := vblk_cell hR3 0
  have y0 := vblk_cell hA3 0
  have o1 := vblk_cell hO3 1
  have q1 := vblk_cell hR3 1
  have y1 := vblk_cell hA3 1
  have o2 := vblk_cell hO3 2
  have q2 := vblk_cell hR3 2
  have y2 := vblk_cell hA3 2
  have o3 := vblk_cell hO3 3
  have q3 := vblk_cell hR3 3
  have y3 := vblk_cell hA3 3
  have fo := vblk_frozen hO3
  have fr := vblk_frozen hR3
  simp only [List.getElem?_toArray, List.getElem?_cons_succ, List.getElem?_cons_zero, List.setIfInBounds_toArray, List.set_cons_succ, List.set_cons_zero] at o0 q0 y0 o1 q1 y1 o2 q2 y2 o3 q3 y3
  go_wp2_with fail
  refine bodyPost_ret (v := .agg #[.string d.name, .slice (some ⟨g1, 0, none⟩) d.uses.length d.uses.length, .slice (some ⟨g2, 0, none⟩) d.needs.length d.needs.length, .slice (some ⟨g3, 0, none⟩) d.cmds.length d.cmds.length]) (by simp [results, Tryz.results100, go_sem, o0, q0, o1, q1, o2, q2, o3, q3]) rfl ⟨[.string d.name, .slice (some ⟨g1, 0, none⟩) d.uses.length d.uses.length, .slice (some ⟨g2, 0, none⟩) d.needs.length d.needs.length, .slice (some ⟨g3, 0, none⟩) d.cmds.length d.cmds.length], rfl, ?_, ?_⟩
  · have hS : ∀ {W : World}, w3.heap.size ≤ W.heap.size → ∀ b, Ow (w.heap.size + 3) w3.heap.size b → Ow w.heap.size W.heap.size b := fun h => Ow.mono (by omega) h
    refine ⟨_, _, _, rfl, s_name, (R0.keep ?_).mono (hS ?_), p0, (R1.keep ?_).mono (hS ?_), (R2.keep ?_).mono (hS ?_)⟩
    all_goals first
      | (simp [World.setCell]; done)
      | ((repeat (refine Kp.trans ?_ (Kp.set (Ow.not (by omega))))); exact fun b hb => rfl)
  · refine ?_
    (repeat (refine Below.setCell ?_ (by simp <;> omega) _))
    exact kw3

set_option maxHeartbeats 2000000 in
set_option maxRecDepth 100000 in
theorem infoPack : (Tryz.prog.info? 140).map (fun i => (i.zero, i.size, i.bytes)) = some (some (.agg #[.string ⟨#[]⟩, .slice none 0 0, .slice none 0 0, .slice none 0 0]), 4, 88) := by kernel_rfl
set_option maxHeartbeats 2000000 in
set_option maxRecDepth 100000 in
theorem toPackS_c (S : Nat → Prop) (v : Value) (xs : List PackD) (w : World) (hv : RowIn shPack S w v xs) (hB : ∀ b, S b → b < w.heap.size) (hw : wtRow wtPack xs ≤ 1048576) :
    Calls Tryz.prog 32 #[v] w fun e w' => ∃ g, e = .returned (.slice (some ⟨g, 0, none⟩) xs.length xs.length) ∧ RowOwn shPackO 140 (Ow w.heap.size w'.heap.size) w' (.slice (some ⟨g, 0, none⟩) xs.length xs.length) xs ∧ Below w.heap.size w w' := by
  obtain ⟨a, cap, rfl, hl, hc, ha⟩ := hv
  have hn := len_wtRow wtPack xs
  have hlm : xs.length ≤ maxLen := hl
  unfold maxLen at hl
  obtain ⟨i0, hi, hz0, hz1, hz2⟩ := info_parts infoPack
  go_enter Tryz.func32, Tryz.ntmps32
  go_wp2_with (first
    | (at_make; refine wpList_make_full _ rfl _ _ 24 rfl w.heap.size 140 i0 _ 4 Tryz.underlying24 hi hz0 hz1 _ _ _ _ xs.length rfl rfl rfl rfl (by rw [hz2]; omega) (by unfold maxLen; omega) (Nat.le_refl _) ?_))
  intro w1 hown hgrow
  have hb1 := below_of_grown hgrow
  have hs1 : w.heap.size + 1 ≤ w1.heap.size := by
    rcases hown.2 with ⟨h, _⟩ | ⟨g, cap, cur, h, _, hg, _⟩
    · simp at h
    · simp at h
      have := (Array.getElem?_eq_some_iff.1 hg).1
      omega
  obtain ⟨ys1, hown1⟩ : ∃ ys, w1.ownsRow w.heap.size 140 4 (.slice (some ⟨w.heap.size, 0, none⟩) xs.length xs.length) xs.length ys := ⟨_, hown⟩
  clear hgrow hown
  go_wp2_with fail
  go_loopw [4] (fun vi wr => ∃ (k : Nat) (ys : List Value), k ≤ xs.length ∧ vi = .int .i64 (k : Int) ∧ wr.ownsRow w.heap.size 140 4 (.slice (some ⟨w.heap.size, 0, none⟩) xs.length xs.length) xs.length ys ∧ Hid (Laid shPackO (Ow (w.heap.size + 1) wr.heap.size) wr ys xs k) ∧ Below w.heap.size w wr ∧ w.heap.size + 1 ≤ wr.heap.size) (fun vi _ => xs.length - (intOf vi).toNat)
  case atStart => exact ⟨0, ys1, Nat.zero_le _, rfl, hown1, (fun i h h0 => by omega), hb1, hs1⟩
  case round =>
    obtain ⟨k, ys, hk, rfl, hownr, hy, hbr, hsr⟩ := hrel
    by_cases hlt' : k < xs.length
    · rcases ha with rfl | ⟨b, off, rfl, hlt, ha⟩
      · simp at hlt'
      obtain ⟨cs, hL, hcell⟩ := ha k hlt'
      have hL2 := shPack.keep (.of hbr hB) hL
      have hcell2 := hcell.keep (.of hbr hB) hlt
      have hBr : ∀ b, S b → b < wr.heap.size := fun b h => Nat.lt_of_lt_of_le (hB b h) hbr.size
      have hwt : wtPack xs[k] ≤ 1048576 := by have := wt_wtRow wtPack (List.getElem_mem hlt'); omega
      have hown2 : ∀ w2, Below wr.heap.size wr w2 → w2.ownsRow w.heap.size 140 4 (.slice (some ⟨w.heap.size, 0, none⟩) xs.length xs.length) xs.length ys := fun w2 h2 => hownr.kept (grown_of_below h2 none) (by simp [Value.ownBlock])
      have hlen := hownr.1
      have HC : Hid (∀ w2, Below wr.heap.size wr w2 → ∀ j, j < 4 → ∃ x, w2.cell? ⟨w.heap.size, k * 4 + j, none⟩ = some x) := fun w2 h2 j hj => ⟨ys.getD (k * 4 + j) undef, by rw [(hown2 w2 h2).cellAt _ (by omega)]; simp [List.getD_eq_getElem?_getD, show k * 4 + j < ys.length by omega]⟩
      have HF : Hid (∀ w2, Below wr.heap.size wr w2 → ∀ j, w2.frozen? ⟨w.heap.size, j, none⟩ = false) := fun w2 h2 j => (hown2 w2 h2).frozenAt j
      have HO : Hid (∀ w2, Below wr.heap.size wr w2 → w2.ownsRow w.heap.size 140 4 (.slice (some ⟨w.heap.size, 0, none⟩) xs.length xs.length) xs.length ys) := hown2
      have HST : Hid (∀ w2 cs, Below wr.heap.size wr w2 → cs.length = 4 → shPackO.lies (Ow (w.heap.size + 1) w2.heap.size) w2 cs xs[k] → Laid shPackO (Ow (w.heap.size + 1) (setW w2 w.heap.size (k * 4) cs).heap.size) (setW w2 w.heap.size (k * 4) cs) (putL ys (k * 4) cs) xs (k + 1)) := fun w2 cs h2 hc hr => hy.out.step (sh := shPackO) hlt' hlen h2 (by omega) hc hr
      obtain ⟨d, hd⟩ : ∃ d, d = xs[k] := ⟨_, rfl⟩
      rw [← hd] at hL2 hwt HST
      have HC1 := toPack_c S d cs wr hL2 hBr hwt
      clear ha hL hcell hd hown2 hi hz0 hz1 hz2 hown1 hb1 hlen hwt
      obtain ⟨u0, u1, u2, rfl, s_name, r0, p0, r1, r2⟩ := hL2
      clear s_name p0
      obtain ⟨a0, cap0, eu0, _⟩ := id r0
      rw [length_strsV] at eu0
      subst eu0
      clear r0
      obtain ⟨a1, cap1, eu1, _⟩ := id r1
      subst eu1
      clear r1
      obtain ⟨a2, cap2, eu2, _⟩ := id r2
      subst eu2
      clear r2
      have e0 : wr.cell? ⟨b, off + k * 4, none⟩ = some (.string d.name) := hcell2 0 (by simp)
      have e1 : wr.cell? ⟨b, off + k * 4 + 1, none⟩ = some (.slice a0 d.uses.length cap0) := hcell2 1 (by simp)
      have e2 : wr.cell? ⟨b, off + k * 4 + 2, none⟩ = some (.slice a1 d.needs.length cap1) := hcell2 2 (by simp)
      have e3 : wr.cell? ⟨b, off + k * 4 + 3, none⟩ = some (.slice a2 d.cmds.length cap2) := hcell2 3 (by simp)
      have HC2 := hidden HC1
      have hki : (k : Int) < (xs.length : Int) := by omega
      clear hcell2 HC1
      go_wp2_with (go_at_call 100; refine HC2.out.mono ?_; rintro e w2 ⟨cs, rfl, hX, hb2⟩; have HX := hidden (HST.out w2 cs hb2 (by have h := hX; obtain ⟨u0, u1, u2, h9, s_name, r0, p0, r1, r2⟩ := h; rw [h9]; rfl) (shPackO.mono (Ow.mono hsr (Nat.le_refl _)) hX)); obtain ⟨u0, u1, u2, rfl, s_name, z0, p0, z1, z2⟩ := hX; obtain ⟨b0, bap0, ev0⟩ := z0.slice; subst ev0; obtain ⟨b1, bap1, ev1⟩ := z1.slice; subst ev1; obtain ⟨b2, bap2, ev2⟩ := z2.slice; subst ev2; obtain ⟨y0, d0⟩ := HC.out w2 hb2 0 (by omega); obtain ⟨y1, d1⟩ := HC.out w2 hb2 1 (by omega); obtain ⟨y2, d2⟩ := HC.out w2 hb2 2 (by omega); obtain ⟨y3, d3⟩ := HC.out w2 hb2 3 (by omega); rw [Nat.add_zero] at d0; have f9 := HF.out w2 hb2)
      go_roundw
      case rel =>
        refine ⟨k + 1, _, by omega, by go_num, setW_owns [.string d.name, .slice b0 d.uses.length bap0, .slice b1 d.needs.length bap1, .slice b2 d.cmds.length bap2] w2 ys (k * 4) (HO.out w2 hb2), HX.out, setW_below (Nat.le_refl _) [.string d.name, .slice b0 d.uses.length bap0, .slice b1 d.needs.length bap1, .slice b2 d.cmds.length bap2] w2 w (k * 4) (hbr.trans (hb2.mono hbr.size)), ?_⟩
        have h9 := setW_size [.string d.name, .slice b0 d.uses.length bap0, .slice b1 d.needs.length bap1, .slice b2 d.cmds.length bap2] w2 w.heap.size (k * 4)
        have := hb2.size
        exact Nat.le_trans (show w.heap.size + 1 ≤ w2.heap.size by omega) (Nat.le_of_eq h9.symm)
      case measure => simp [intOf]; omega
    · have he : k = xs.length := by omega
      subst he
      clear ha
      go_wp2_with fail
      go_ret
      exact ⟨_, rfl, rowOwn_of hownr hlm hy.out, hbr⟩

end Go.Proofs.YtkkhnldhipfneaaGreatDoor

/-! Marks put into a pack that may be written, as the law puts them: contracts for the walks; conditions: its rows lie in memory and may be written, and there are at most 2 to the 32 marks. -/
namespace Go.Proofs.YtkkhnldhipfneaaGreatDoor
open Go.RowKit
set_option linter.unusedSimpArgs false
set_option linter.unusedVariables false

/-- A row that may be written stays one where another row is written over, be it the same. -/
theorem owns_over {w w' : World} {lo lo' sz n n' : Nat} {e : TypeId} {v v' : Value} {xs xs' ys : List Value} (h : w.ownsRow lo e sz v n xs) (h0 : w.ownsRow lo' e sz v' n' xs') (h1 : w'.ownsRow lo' e sz v' n' ys) (hg : w.grownBy w' v'.ownBlock) (hs : 0 < sz) : ∃ zs, w'.ownsRow lo e sz v n zs := by
  by_cases hne : v.ownBlock = none ∨ v.ownBlock ≠ v'.ownBlock
  · exact ⟨xs, h.kept hg hne⟩
  · have he : v.ownBlock = v'.ownBlock := by
      by_cases k : v.ownBlock = v'.ownBlock
      · exact k
      · exact absurd (.inr k) hne
    have hn : v.ownBlock ≠ none := fun k => hne (.inl k)
    rcases h.2 with ⟨rfl, _⟩ | ⟨g, cap, cur, rfl, hlo, hgb, hc, hm, hz, ht⟩
    · exact absurd rfl hn
    rcases h0.2 with ⟨rfl, _⟩ | ⟨g0, cap0, cur0, rfl, _, hgb0, hc0, hm0, hz0, _⟩
    · exact absurd he (by simp [Value.ownBlock])
    simp [Value.ownBlock] at he
    subst he
    rcases h1.2 with ⟨hx, _⟩ | ⟨g1, cap1, cur1, hx, _, hgb1, hc1, hm1, hz1, _⟩
    · simp at hx
    · simp only [Value.slice.injEq, Option.some.injEq, Addr.mk.injEq, and_true, true_and] at hx
      obtain ⟨rfl, rfl⟩ := hx
      rw [hgb] at hgb0
      have hcur : cur = cur0 := by simpa using hgb0
      subst hcur
      have hcap : cap = cap0 := by
        have : cap * sz = cap0 * sz := by omega
        exact Nat.eq_of_mul_eq_mul_right hs this
      subst hcap
      refine ⟨cur1.toList.take (n * sz), ?_, .inr ⟨g, cap, cur1, rfl, hlo, hgb1, hc, hm, hz1, rfl⟩⟩
      have hle : n * sz ≤ cap * sz := Nat.mul_le_mul_right _ hc
      rw [List.length_take, Array.length_toList, hz1]
      exact Nat.min_eq_left hle

set_option maxHeartbeats 2000000 in
set_option maxRecDepth 100000 in
theorem markNeedS_c (S : Nat → Prop) (v : Value) (n k : Nat) (xs : List Value) (w : World) (hv : w.ownsRow 0 211 2 v n xs) (hg : ∀ g, v.ownBlock = some g → S g) (h1 : 1 ≤ k) (h2 : k + n * 2 ≤ 4294967296) :
    Calls Tryz.prog 105 #[v, .int .i64 (k : Int)] w fun e w' => e = .returned (.int .i64 ((k + n * 2 : Nat) : Int)) ∧ Chg S w w' := by
  rcases id hv.2 with ⟨rfl, rfl⟩ | ⟨g, cap, cur, rfl, _, hgb, hcap, hmax, _⟩
  · clear hv hg
    go_enter Tryz.func105, Tryz.ntmps105
    go_wp2_with fail
    go_loopw [1, 5] (fun vk vi wr => vk = .int .i64 (k : Int) ∧ vi = .int .i64 0 ∧ wr = w) (fun _ _ _ => 0)
    case atStart => exact ⟨rfl, rfl, rfl⟩
    case round =>
      obtain ⟨rfl, rfl, rfl⟩ := hrel
      go_wp2_with fail
      go_ret
      exact ⟨by simp, Chg.refl _ _⟩
  · have hSg := hg g rfl
    unfold maxLen at hmax
    clear hgb hg
    go_enter Tryz.func105, Tryz.ntmps105
    go_wp2_with fail
    go_loopw [1, 5] (fun vk vi wr => ∃ (i m : Nat) (ys : List Value), i ≤ n ∧ vi = .int .i64 (i : Int) ∧ vk = .int .i64 (m : Int) ∧ Hid (m = k + i * 2) ∧ wr.ownsRow 0 211 2 (.slice (some ⟨g, 0, none⟩) n cap) n ys ∧ Chg S w wr) (fun _ vi _ => n - (intOf vi).toNat)
    case atStart => exact ⟨0, k, xs, Nat.zero_le _, rfl, rfl, by show _ = _; omega, hv, Chg.refl _ _⟩
    case round =>
      obtain ⟨i, m, ys, hi, rfl, rfl, hm, hown, hchg⟩ := hrel
      by_cases hlt : i < n
      · have hlen := hown.1
        have hm2 : m + 2 ≤ 4294967296 := by have := hm.out; omega
        have hm1 : 1 ≤ m := by have := hm.out; omega
        have hki : (i : Int) < (n : Int) := by omega
        have HO := hidden hown
        have HM1 := hidden (fun w1 => markText_c m w1 (by omega) (by omega))
        have HM2 : Hid (∀ w1, Calls Tryz.prog 104 #[.int .i64 ((m : Int) + 1)] w1 fun e w' => e = .returned (.string (markStr (m + 1))) ∧ Below w1.heap.size w1 w') := fun w1 => by
          have := markText_c (m + 1) w1 (by omega) (by omega)
          rw [show ((m + 1 : Nat) : Int) = (m : Int) + 1 by omega] at this
          exact this
        clear hown hv
        go_wp2_with fail
        go_at_call 104
        refine (HM1.out _).mono ?_
        rintro e w1 ⟨rfl, b1⟩
        have r1 := HO.out.kept (grown_of_below b1 none) (by simp [Value.ownBlock])
        have d0 : ∃ x, w1.cell? ⟨g, i * 2, none⟩ = some x := ⟨ys.getD (i * 2) undef, by rw [r1.cellAt _ (by omega)]; simp [List.getD_eq_getElem?_getD, show i * 2 < ys.length by omega]⟩
        obtain ⟨x0, d0⟩ := d0
        have f1 := r1.frozenAt
        have r2 := (r1.stored (i * 2) (.string (markStr m))).1
        have HR2 := hidden r2
        clear r1 r2
        go_wp2_with fail
        go_at_call 104
        refine (HM2.out _).mono ?_
        rintro e w2 ⟨rfl, b2⟩
        have r3 := HR2.out.kept (grown_of_below b2 none) (by simp [Value.ownBlock])
        have hl3 := r3.1
        have d1 : ∃ x, w2.cell? ⟨g, i * 2 + 1, none⟩ = some x := ⟨(ys.set (i * 2) (.string (markStr m))).getD (i * 2 + 1) undef, by rw [r3.cellAt _ (by omega)]; simp [List.getD_eq_getElem?_getD, show i * 2 + 1 < ys.length by omega]⟩
        obtain ⟨x1, d1⟩ := d1
        have f2 := r3.frozenAt
        have r4 := (r3.stored (i * 2 + 1) (.string (markStr (m + 1)))).1
        have HR4 := hidden r4
        have CH : Chg S wr (w2.setCell ⟨g, i * 2 + 1, none⟩ (.string (markStr (m + 1)))) := (Chg.of b1).trans ((Chg.set hSg).trans ((Chg.of b2).trans (Chg.set hSg)))
        have HCH := hidden CH
        clear r3 r4 CH
        go_wp2_with fail
        go_roundw
        case rel => exact ⟨i + 1, m + 2, _, by omega, by go_num, by simp; omega, (by show _ = _; have := hm.out; omega), HR4.out, hchg.trans HCH.out⟩
        case measure => simp [intOf]; omega
      · have he : i = n := by omega
        subst he
        have HMM := hidden hm.out
        clear hown hv
        go_wp2_with fail
        go_ret
        exact ⟨by rw [← HMM.out]; rfl, hchg⟩

/-- The rows of a row of commands: each may be written. -/
def CmdRows (w : World) (S : Nat → Prop) (ys : List Value) (ns : List Nat) : Prop := ∀ i (h : i < ns.length), ∃ u xs, ys[i * 2 + 1]? = some u ∧ w.ownsRow 0 9 1 u ns[i] xs ∧ ∀ g, u.ownBlock = some g → S g
theorem CmdRows.set0 {w : World} {S : Nat → Prop} {ys : List Value} {ns : List Nat} (h : CmdRows w S ys ns) (i : Nat) (v : Value) : CmdRows w S (ys.set (i * 2) v) ns := fun j hj => by
  obtain ⟨u, xs, h1, h2, h3⟩ := h j hj
  exact ⟨u, xs, by rw [List.getElem?_set_ne (by omega)]; exact h1, h2, h3⟩
theorem CmdRows.below {w w' : World} {S : Nat → Prop} {ys : List Value} {ns : List Nat} (h : CmdRows w S ys ns) (hb : Below w.heap.size w w') : CmdRows w' S ys ns := fun j hj => by
  obtain ⟨u, xs, h1, h2, h3⟩ := h j hj
  exact ⟨u, xs, h1, owns_kept (S := fun b => b < w.heap.size) (.of hb (fun b h => h)) (fun g h => (owns_in h2 g h).2) h2, h3⟩
/-- A store into a row of commands touches no row of texts. -/
theorem CmdRows.store {w : World} {S : Nat → Prop} {ys : List Value} {ns : List Nat} {g j n cap : Nat} {zs : List Value} {x : Value} (h : CmdRows w S ys ns) (hg : w.ownsRow 0 170 2 (.slice (some ⟨g, 0, none⟩) n cap) n zs) : CmdRows (w.setCell ⟨g, j, none⟩ x) S ys ns := fun i hi => by
  obtain ⟨u, xs, h1, h2, h3⟩ := h i hi
  refine ⟨u, xs, h1, owns_kept (S := fun b => b ≠ g) (Kp.set (fun k => k rfl)) (fun g' hg' => ?_) h2, h3⟩
  rintro rfl
  rcases h2.2 with ⟨rfl, _⟩ | ⟨g2, c2, cur2, rfl, _, hb2, _⟩
  · simp [Value.ownBlock] at hg'
  · simp [Value.ownBlock] at hg'
    subst hg'
    rcases hg.2 with ⟨hx, _⟩ | ⟨g3, c3, cur3, hx, _, hb3, _⟩
    · simp at hx
    · simp only [Value.slice.injEq, Option.some.injEq, Addr.mk.injEq, and_true, true_and] at hx
      obtain ⟨rfl, rfl⟩ := hx
      rw [hb2] at hb3
      simp at hb3

set_option maxHeartbeats 2000000 in
set_option maxRecDepth 100000 in
theorem markCmdS_c (S : Nat → Prop) (v : Value) (ns : List Nat) (k : Nat) (xs : List Value) (w : World) (hv : w.ownsRow 0 170 2 v ns.length xs) (hg : ∀ g, v.ownBlock = some g → S g) (hr : CmdRows w S xs ns) (h1 : 1 ≤ k) (h2 : k + (ns.length + ns.sum) ≤ 4294967296) :
    Calls Tryz.prog 106 #[v, .int .i64 (k : Int)] w fun e w' => e = .returned (.int .i64 ((k + (ns.length + ns.sum) : Nat) : Int)) ∧ Chg S w w' := by
  rcases id hv.2 with ⟨rfl, hn0⟩ | ⟨g, cap, cur, rfl, _, hgb, hcap, hmax, _⟩
  · have hns : ns = [] := List.eq_nil_of_length_eq_zero hn0
    subst hns
    clear hv hg hr
    go_enter Tryz.func106, Tryz.ntmps106
    go_wp2_with fail
    go_loopw [1, 5] (fun vk vi wr => vk = .int .i64 (k : Int) ∧ vi = .int .i64 0 ∧ wr = w) (fun _ _ _ => 0)
    case atStart => exact ⟨rfl, rfl, rfl⟩
    case round =>
      obtain ⟨rfl, rfl, rfl⟩ := hrel
      go_wp2_with fail
      go_ret
      exact ⟨by simp, Chg.refl _ _⟩
  · have hSg := hg g rfl
    unfold maxLen at hmax
    clear hgb hg
    go_enter Tryz.func106, Tryz.ntmps106
    go_wp2_with fail
    go_loopw [1, 5] (fun vk vi wr => ∃ (i m : Nat) (ys : List Value), i ≤ ns.length ∧ vi = .int .i64 (i : Int) ∧ vk = .int .i64 (m : Int) ∧ Hid (m = k + (i + (ns.take i).sum)) ∧ wr.ownsRow 0 170 2 (.slice (some ⟨g, 0, none⟩) ns.length cap) ns.length ys ∧ Hid (CmdRows wr S ys ns) ∧ Chg S w wr) (fun _ vi _ => ns.length - (intOf vi).toNat)
    case atStart => exact ⟨0, k, xs, Nat.zero_le _, rfl, rfl, by show _ = _; simp, hv, hr, Chg.refl _ _⟩
    case round =>
      obtain ⟨i, m, ys, hi, rfl, rfl, hm, hown, hrr, hchg⟩ := hrel
      by_cases hlt : i < ns.length
      · have hlen := hown.1
        have hts : (ns.take (i + 1)).sum = (ns.take i).sum + ns[i] := by rw [List.take_succ_eq_append_getElem hlt, List.sum_append]; simp
        have htl : (ns.take (i + 1)).sum ≤ ns.sum := by
          conv => rhs; rw [← List.take_append_drop (i + 1) ns, List.sum_append]
          omega
        have HTS : Hid ((ns.take (i + 1)).sum = (ns.take i).sum + ns[i] ∧ (ns.take (i + 1)).sum ≤ ns.sum) := ⟨hts, htl⟩
        have hm2 : m + 1 + ns[i] ≤ 4294967296 := by have := hm.out; omega
        have hm1 : 1 ≤ m := by have := hm.out; omega
        have hki : (i : Int) < (ns.length : Int) := by omega
        have HO := hidden hown
        have HM1 := hidden (fun w1 => markText_c m w1 (by omega) (by omega))
        clear hown hv hr hts htl
        go_wp2_with fail
        go_at_call 104
        refine (HM1.out _).mono ?_
        rintro e w1 ⟨rfl, b1⟩
        have r1 := HO.out.kept (grown_of_below b1 none) (by simp [Value.ownBlock])
        have d0 : ∃ x, w1.cell? ⟨g, i * 2, none⟩ = some x := ⟨ys.getD (i * 2) undef, by rw [r1.cellAt _ (by omega)]; simp [List.getD_eq_getElem?_getD, show i * 2 < ys.length by omega]⟩
        obtain ⟨x0, d0⟩ := d0
        have f1 := r1.frozenAt
        have q2 := ((hrr.out.below b1).store (j := i * 2) (x := .string (markStr m)) r1).set0 i (.string (markStr m))
        have r2 := (r1.stored (i * 2) (.string (markStr m))).1
        obtain ⟨u, zs, hu1, hu2, hu3⟩ := q2 i hlt
        have d1 : w1.cell? ⟨g, i * 2 + 1, none⟩ = some u := by
          rw [r1.cellAt _ (by omega)]
          rw [List.getElem?_set_ne (by omega)] at hu1
          exact hu1
        obtain ⟨qu, cu, eu⟩ := owns_sl hu2
        have HMS := markStrs_c u 0 ns[i] zs (m + 1) _ hu2 (by omega) (by omega) (by omega) (Nat.zero_le _)
        rw [show ((m + 1 : Nat) : Int) = (m : Int) + 1 by omega] at HMS
        subst eu
        have HMS2 := hidden HMS
        have HR2 := hidden r2
        have HQ2 := hidden q2
        have HU2 := hidden hu2
        have hnb : ns[i] ≤ 4294967296 := by omega
        have CH1 : Chg S wr (w1.setCell ⟨g, i * 2, none⟩ (.string (markStr m))) := (Chg.of b1).trans (Chg.set hSg)
        have HCH1 := hidden CH1
        clear r1 r2 q2 HMS hu2 hu1 CH1
        go_wp2_with fail
        go_at_call 41
        refine HMS2.out.mono ?_
        rintro e w2 ⟨rfl, u2, g2⟩
        have r3 := HR2.out.kept g2 (by
          right
          intro e
          rcases HU2.out.2 with ⟨hx, _⟩ | ⟨g9, c9, cur9, hx, _, hb9, _⟩
          · rw [hx] at e; simp [Value.ownBlock] at e
          · rw [hx] at e
            simp [Value.ownBlock] at e
            subst e
            rcases HR2.out.2 with ⟨hy, _⟩ | ⟨g8, c8, cur8, hy, _, hb8, _⟩
            · simp at hy
            · simp only [Value.slice.injEq, Option.some.injEq, Addr.mk.injEq, and_true, true_and] at hy
              obtain ⟨rfl, rfl⟩ := hy
              rw [hb9] at hb8
              simp at hb8)
        have q3 : CmdRows w2 S (ys.set (i * 2) (.string (markStr m))) ns := fun j hj => by
          obtain ⟨u', xs', a1, a2, a3⟩ := HQ2.out j hj
          obtain ⟨zs', a4⟩ := owns_over a2 HU2.out u2 g2 (by omega)
          exact ⟨u', zs', a1, a4, a3⟩
        have HQ3 := hidden q3
        have HR3 := hidden r3
        have CH : Chg S wr w2 := HCH1.out.trans (Chg.grown g2 hu3)
        have HCH := hidden CH
        clear r3 q3 CH
        go_wp2_with fail
        go_roundw
        case rel => exact ⟨i + 1, m + 1 + ns[i], _, by omega, by go_num, by simp, (by show _ = _; have := hm.out; have := HTS.out; omega), HR3.out, HQ3.out, hchg.trans HCH.out⟩
        case measure => simp [intOf]; omega
      · have he : i = ns.length := by omega
        subst he
        have hmm : m = k + (ns.length + ns.sum) := by have := hm.out; rw [List.take_length] at this; exact this
        have HMM := hidden hmm
        clear hown hv hr hrr hmm
        go_wp2_with fail
        go_ret
        exact ⟨by rw [← HMM.out]; rfl, hchg⟩

theorem owns_apart {w : World} {lo lo' sz sz' n n' : Nat} {e e' : TypeId} {v v' : Value} {xs xs' : List Value} (h : w.ownsRow lo e sz v n xs) (h' : w.ownsRow lo' e' sz' v' n' xs') (hne : e ≠ e') : v.ownBlock = none ∨ v.ownBlock ≠ v'.ownBlock := by
  rcases h.2 with ⟨rfl, _⟩ | ⟨g, c, cur, rfl, _, hb, _⟩
  · exact .inl rfl
  · right
    intro k
    rcases h'.2 with ⟨rfl, _⟩ | ⟨g', c', cur', rfl, _, hb', _⟩
    · simp [Value.ownBlock] at k
    · simp [Value.ownBlock] at k
      subst k
      rw [hb] at hb'
      simp at hb'
      exact hne hb'.2
theorem cmdRows_of {S : Nat → Prop} {w : World} {ys : List Value} {xs : List CmdD} (h : Laid shCmdO S w ys xs xs.length) : CmdRows w S ys (xs.map fun c => c.acts.length) := fun i hi => by
  have hi' : i < xs.length := by simpa using hi
  obtain ⟨cs, h1, ⟨u, rfl, _, h2, _⟩, h3⟩ := h i hi' hi'
  exact ⟨u, _, h3 1 (by simp), by simpa using h2.1, h2.2⟩
theorem cmds_sum (xs : List CmdD) : (xs.map fun c => c.acts.length).length + (xs.map fun c => c.acts.length).sum ≤ wtRow wtCmd xs := by
  induction xs with
  | nil => simp [wtRow]
  | cons x xs ih =>
    have e : wtRow wtCmd (x :: xs) = (1 + wtCmd x) + wtRow wtCmd xs := by simp [wtRow]
    rw [e]
    simp only [List.map_cons, List.length_cons, List.sum_cons]
    have : x.acts.length ≤ wtCmd x := by unfold wtCmd bulkS; omega
    omega

end Go.Proofs.YtkkhnldhipfneaaGreatDoor

/-! Marks put into rows of needs, and found again, as the law does it: contracts for the walks; conditions: the rows lie in memory, may be written, and there are at most 2 to the 32 marks. -/
namespace Go.Proofs.YtkkhnldhipfneaaGreatDoor
open Go.RowKit
set_option linter.unusedSimpArgs false
set_option linter.unusedVariables false

set_option maxHeartbeats 2000000 in
set_option maxRecDepth 100000 in
theorem markNeedV_c (v : Value) (base n k : Nat) (xs : List Value) (w : World) (hv : w.ownsRow base 211 2 v n xs) (h1 : 1 ≤ k) (h2 : k + n * 2 ≤ 4294967296) :
    Calls Tryz.prog 105 #[v, .int .i64 (k : Int)] w fun e w' => e = .returned (.int .i64 ((k + n * 2 : Nat) : Int)) ∧ w'.ownsRow base 211 2 v n (strsV (marksS k (n * 2))) ∧ w.grownBy w' v.ownBlock := by
  rcases id hv.2 with ⟨rfl, rfl⟩ | ⟨g, cap, cur, rfl, _, hgb, hcap, hmax, _⟩
  · have hx : xs = [] := List.eq_nil_of_length_eq_zero (by simpa using hv.1)
    subst hx
    have HV := hidden hv
    clear hv
    go_enter Tryz.func105, Tryz.ntmps105
    go_wp2_with fail
    go_loopw [1, 5] (fun vk vi wr => vk = .int .i64 (k : Int) ∧ vi = .int .i64 0 ∧ wr = w) (fun _ _ _ => 0)
    case atStart => exact ⟨rfl, rfl, rfl⟩
    case round =>
      obtain ⟨rfl, rfl, rfl⟩ := hrel
      go_wp2_with fail
      go_ret
      exact ⟨by simp, HV.out, World.grownBy.refl _ _⟩
  · unfold maxLen at hmax
    have hl := hv.1
    clear hgb
    go_enter Tryz.func105, Tryz.ntmps105
    go_wp2_with fail
    go_loopw [1, 5] (fun vk vi wr => ∃ (i m : Nat) (ys : List Value), i ≤ n ∧ vi = .int .i64 (i : Int) ∧ vk = .int .i64 (m : Int) ∧ Hid (m = k + i * 2) ∧ wr.ownsRow base 211 2 (.slice (some ⟨g, 0, none⟩) n cap) n ys ∧ Hid (ys.length = n * 2 ∧ ∀ j, j < i * 2 → ys[j]? = (strsV (marksS k (n * 2)))[j]?) ∧ Hid (w.grownBy wr (some g))) (fun _ vi _ => n - (intOf vi).toNat)
    case atStart => exact ⟨0, k, xs, Nat.zero_le _, rfl, rfl, by show _ = _; omega, hv, ⟨hl, fun j hj => by omega⟩, World.grownBy.refl _ _⟩
    case round =>
      obtain ⟨i, m, ys, hi, rfl, rfl, hm, hown, hy, hgr⟩ := hrel
      by_cases hlt : i < n
      · have hlen := hown.1
        have hm2 : m + 2 ≤ 4294967296 := by have := hm.out; omega
        have hm1 : 1 ≤ m := by have := hm.out; omega
        have hki : (i : Int) < (n : Int) := by omega
        have HO := hidden hown
        have HM1 := hidden (fun w1 => markText_c m w1 (by omega) (by omega))
        have HM2 : Hid (∀ w1, Calls Tryz.prog 104 #[.int .i64 ((m : Int) + 1)] w1 fun e w' => e = .returned (.string (markStr (m + 1))) ∧ Below w1.heap.size w1 w') := fun w1 => by
          have := markText_c (m + 1) w1 (by omega) (by omega)
          rw [show ((m + 1 : Nat) : Int) = (m : Int) + 1 by omega] at this
          exact this
        have HY1 : Hid ((ys.set (i * 2) (.string (markStr m))).length = n * 2 ∧ ∀ j, j < i * 2 + 1 → (ys.set (i * 2) (.string (markStr m)))[j]? = (strsV (marksS k (n * 2)))[j]?) := set_step (by omega) hy.out (by rw [marksS_at _ _ _ (by omega), hm.out])
        have HY2 : Hid (((ys.set (i * 2) (.string (markStr m))).set (i * 2 + 1) (.string (markStr (m + 1)))).length = n * 2 ∧ ∀ j, j < i * 2 + 1 + 1 → ((ys.set (i * 2) (.string (markStr m))).set (i * 2 + 1) (.string (markStr (m + 1))))[j]? = (strsV (marksS k (n * 2)))[j]?) := set_step (by omega) HY1.out (by rw [marksS_at _ _ _ (by omega), hm.out]; congr 3)
        clear hown hv hy HY1
        go_wp2_with fail
        go_at_call 104
        refine (HM1.out _).mono ?_
        rintro e w1 ⟨rfl, b1⟩
        have r1 := HO.out.kept (grown_of_below b1 none) (by simp [Value.ownBlock])
        have d0 : ∃ x, w1.cell? ⟨g, i * 2, none⟩ = some x := ⟨ys.getD (i * 2) undef, by rw [r1.cellAt _ (by omega)]; simp [List.getD_eq_getElem?_getD, show i * 2 < ys.length by omega]⟩
        obtain ⟨x0, d0⟩ := d0
        have f1 := r1.frozenAt
        have r2 := r1.stored (i * 2) (.string (markStr m))
        have HR2 := hidden r2
        clear r1 r2
        go_wp2_with fail
        go_at_call 104
        refine (HM2.out _).mono ?_
        rintro e w2 ⟨rfl, b2⟩
        have r3 := HR2.out.1.kept (grown_of_below b2 none) (by simp [Value.ownBlock])
        have hl3 := r3.1
        have d1 : ∃ x, w2.cell? ⟨g, i * 2 + 1, none⟩ = some x := ⟨(ys.set (i * 2) (.string (markStr m))).getD (i * 2 + 1) undef, by rw [r3.cellAt _ (by omega)]; simp [List.getD_eq_getElem?_getD, show i * 2 + 1 < ys.length by omega]⟩
        obtain ⟨x1, d1⟩ := d1
        have f2 := r3.frozenAt
        have r4 := r3.stored (i * 2 + 1) (.string (markStr (m + 1)))
        have HR4 := hidden r4
        have HG := hidden (grown_trans (grown_trans (grown_trans (grown_trans hgr.out (grown_of_below b1 _)) HR2.out.2) (grown_of_below b2 _)) r4.2)
        clear r3 r4
        go_wp2_with fail
        go_roundw
        case rel => exact ⟨i + 1, m + 2, _, by omega, by go_num, by simp; omega, (by show _ = _; have := hm.out; omega), HR4.out.1, ⟨HY2.out.1, fun j hj => HY2.out.2 j (by omega)⟩, HG⟩
        case measure => simp [intOf]; omega
      · have he : i = n := by omega
        subst he
        have HMM := hidden hm.out
        have e : ys = strsV (marksS k (i * 2)) := list_done hy.out.1 (by simp) hy.out.2
        have HE := hidden e
        have HO := hidden hown
        clear hown hv e
        go_wp2_with fail
        go_ret
        refine ⟨by rw [← HMM.out]; rfl, ?_, hgr.out⟩
        rw [← HE.out]
        exact HO.out

end Go.Proofs.YtkkhnldhipfneaaGreatDoor

/-! Marks put into rows of packs, as the law puts them: a contract for the walks; conditions: the rows lie in memory, may be written, and there are at most 2 to the 32 marks. -/
namespace Go.Proofs.YtkkhnldhipfneaaGreatDoor
open Go.RowKit
set_option linter.unusedSimpArgs false
set_option linter.unusedVariables false

/-- What stays where marks are put into texts, and into rows of commands. -/
structure InvC (I : World → Prop) : Prop where
  below : ∀ w w', I w → Below w.heap.size w w' → I w'
  cmd : ∀ w g i n cap zs x, I w → w.ownsRow 0 170 2 (.slice (some ⟨g, 0, none⟩) n cap) n zs → I (w.setCell ⟨g, i * 2, none⟩ (.string x))
  strs : ∀ w w' u n z z', I w → w.ownsRow 0 9 1 u n z → w'.ownsRow 0 9 1 u n z' → w.grownBy w' u.ownBlock → I w'

set_option maxHeartbeats 2000000 in
set_option maxRecDepth 100000 in
theorem markCmdSI_c (I : World → Prop) (hC : InvC I) (S : Nat → Prop) (v : Value) (ns : List Nat) (k : Nat) (xs : List Value) (w : World) (hv : w.ownsRow 0 170 2 v ns.length xs) (hg : ∀ g, v.ownBlock = some g → S g) (hr : CmdRows w S xs ns) (hI : I w) (h1 : 1 ≤ k) (h2 : k + (ns.length + ns.sum) ≤ 4294967296) :
    Calls Tryz.prog 106 #[v, .int .i64 (k : Int)] w fun e w' => e = .returned (.int .i64 ((k + (ns.length + ns.sum) : Nat) : Int)) ∧ Chg S w w' ∧ I w' := by
  rcases id hv.2 with ⟨rfl, hn0⟩ | ⟨g, cap, cur, rfl, _, hgb, hcap, hmax, _⟩
  · have hns : ns = [] := List.eq_nil_of_length_eq_zero hn0
    subst hns
    have HII := hidden hI
    clear hv hg hr hI
    go_enter Tryz.func106, Tryz.ntmps106
    go_wp2_with fail
    go_loopw [1, 5] (fun vk vi wr => vk = .int .i64 (k : Int) ∧ vi = .int .i64 0 ∧ wr = w) (fun _ _ _ => 0)
    case atStart => exact ⟨rfl, rfl, rfl⟩
    case round =>
      obtain ⟨rfl, rfl, rfl⟩ := hrel
      go_wp2_with fail
      go_ret
      exact ⟨by simp, Chg.refl _ _, HII.out⟩
  · have hSg := hg g rfl
    unfold maxLen at hmax
    have HII := hidden hI
    clear hgb hg hI
    go_enter Tryz.func106, Tryz.ntmps106
    go_wp2_with fail
    go_loopw [1, 5] (fun vk vi wr => ∃ (i m : Nat) (ys : List Value), i ≤ ns.length ∧ vi = .int .i64 (i : Int) ∧ vk = .int .i64 (m : Int) ∧ Hid (m = k + (i + (ns.take i).sum)) ∧ wr.ownsRow 0 170 2 (.slice (some ⟨g, 0, none⟩) ns.length cap) ns.length ys ∧ Hid (CmdRows wr S ys ns) ∧ Hid (I wr) ∧ Chg S w wr) (fun _ vi _ => ns.length - (intOf vi).toNat)
    case atStart => exact ⟨0, k, xs, Nat.zero_le _, rfl, rfl, by show _ = _; simp, hv, hr, HII, Chg.refl _ _⟩
    case round =>
      obtain ⟨i, m, ys, hi, rfl, rfl, hm, hown, hrr, hII, hchg⟩ := hrel
      by_cases hlt : i < ns.length
      · have hlen := hown.1
        have hts : (ns.take (i + 1)).sum = (ns.take i).sum + ns[i] := by rw [List.take_succ_eq_append_getElem hlt, List.sum_append]; simp
        have htl : (ns.take (i + 1)).sum ≤ ns.sum := by
          conv => rhs; rw [← List.take_append_drop (i + 1) ns, List.sum_append]
          omega
        have HTS : Hid ((ns.take (i + 1)).sum = (ns.take i).sum + ns[i] ∧ (ns.take (i + 1)).sum ≤ ns.sum) := ⟨hts, htl⟩
        have hm2 : m + 1 + ns[i] ≤ 4294967296 := by have := hm.out; omega
        have hm1 : 1 ≤ m := by have := hm.out; omega
        have hki : (i : Int) < (ns.length : Int) := by omega
        have HO := hidden hown
        have HM1 := hidden (fun w1 => markText_c m w1 (by omega) (by omega))
        clear hown hv hr hts htl
        go_wp2_with fail
        go_at_call 104
        refine (HM1.out _).mono ?_
        rintro e w1 ⟨rfl, b1⟩
        have r1 := HO.out.kept (grown_of_below b1 none) (by simp [Value.ownBlock])
        have d0 : ∃ x, w1.cell? ⟨g, i * 2, none⟩ = some x := ⟨ys.getD (i * 2) undef, by rw [r1.cellAt _ (by omega)]; simp [List.getD_eq_getElem?_getD, show i * 2 < ys.length by omega]⟩
        obtain ⟨x0, d0⟩ := d0
        have f1 := r1.frozenAt
        have q2 := ((hrr.out.below b1).store (j := i * 2) (x := .string (markStr m)) r1).set0 i (.string (markStr m))
        have r2 := (r1.stored (i * 2) (.string (markStr m))).1
        have HJ2 := hidden (hC.cmd _ _ i _ _ _ (markStr m) (hC.below _ _ hII.out b1) r1)
        obtain ⟨u, zs, hu1, hu2, hu3⟩ := q2 i hlt
        have d1 : w1.cell? ⟨g, i * 2 + 1, none⟩ = some u := by
          rw [r1.cellAt _ (by omega)]
          rw [List.getElem?_set_ne (by omega)] at hu1
          exact hu1
        obtain ⟨qu, cu, eu⟩ := owns_sl hu2
        have HMS := markStrs_c u 0 ns[i] zs (m + 1) _ hu2 (by omega) (by omega) (by omega) (Nat.zero_le _)
        rw [show ((m + 1 : Nat) : Int) = (m : Int) + 1 by omega] at HMS
        subst eu
        have HMS2 := hidden HMS
        have HR2 := hidden r2
        have HQ2 := hidden q2
        have HU2 := hidden hu2
        have hnb : ns[i] ≤ 4294967296 := by omega
        have CH1 : Chg S wr (w1.setCell ⟨g, i * 2, none⟩ (.string (markStr m))) := (Chg.of b1).trans (Chg.set hSg)
        have HCH1 := hidden CH1
        clear r1 r2 q2 HMS hu2 hu1 CH1
        go_wp2_with fail
        go_at_call 41
        refine HMS2.out.mono ?_
        rintro e w2 ⟨rfl, u2, g2⟩
        have r3 := HR2.out.kept g2 (by
          right
          intro e
          rcases HU2.out.2 with ⟨hx, _⟩ | ⟨g9, c9, cur9, hx, _, hb9, _⟩
          · rw [hx] at e; simp [Value.ownBlock] at e
          · rw [hx] at e
            simp [Value.ownBlock] at e
            subst e
            rcases HR2.out.2 with ⟨hy, _⟩ | ⟨g8, c8, cur8, hy, _, hb8, _⟩
            · simp at hy
            · simp only [Value.slice.injEq, Option.some.injEq, Addr.mk.injEq, and_true, true_and] at hy
              obtain ⟨rfl, rfl⟩ := hy
              rw [hb9] at hb8
              simp at hb8)
        have q3 : CmdRows w2 S (ys.set (i * 2) (.string (markStr m))) ns := fun j hj => by
          obtain ⟨u', xs', a1, a2, a3⟩ := HQ2.out j hj
          obtain ⟨zs', a4⟩ := owns_over a2 HU2.out u2 g2 (by omega)
          exact ⟨u', zs', a1, a4, a3⟩
        have HQ3 := hidden q3
        have HJ3 := hidden (hC.strs _ _ _ _ _ _ HJ2.out HU2.out u2 g2)
        have HR3 := hidden r3
        have CH : Chg S wr w2 := HCH1.out.trans (Chg.grown g2 hu3)
        have HCH := hidden CH
        clear r3 q3 CH
        go_wp2_with fail
        go_roundw
        case rel => exact ⟨i + 1, m + 1 + ns[i], _, by omega, by go_num, by simp, (by show _ = _; have := hm.out; have := HTS.out; omega), HR3.out, HQ3.out, HJ3, hchg.trans HCH.out⟩
        case measure => simp [intOf]; omega
      · have he : i = ns.length := by omega
        subst he
        have hmm : m = k + (ns.length + ns.sum) := by have := hm.out; rw [List.take_length] at this; exact this
        have HMM := hidden hmm
        clear hown hv hr hrr hmm
        go_wp2_with fail
        go_ret
        exact ⟨by rw [← HMM.out]; rfl, hchg, hII.out⟩

theorem own_putP {w : World} {lo lo' sz sz' n n' g j cap : Nat} {e e' : TypeId} {u x : Value} {zs ys : List Value} (h : w.ownsRow lo e sz u n zs) (hg : w.ownsRow lo' e' sz' (.slice (some ⟨g, 0, none⟩) n' cap) n' ys) (hne : e ≠ e') : (w.setCell ⟨g, j, none⟩ x).ownsRow lo e sz u n zs := by
  refine owns_kept (S := fun b => b ≠ g) (Kp.set (fun k => k rfl)) (fun g' hg' => ?_) h
  rintro rfl
  rcases owns_apart h hg hne with k | k
  · rw [k] at hg'; cases hg'
  · exact k (by rw [hg']; rfl)
theorem owns_setAny {w : World} {lo sz n : Nat} {e : TypeId} {u : Value} {zs : List Value} (h : w.ownsRow lo e sz u n zs) (g j : Nat) (x : Value) : ∃ zs', (w.setCell ⟨g, j, none⟩ x).ownsRow lo e sz u n zs' ∧ (zs' = zs ∨ zs' = zs.set j x) := by
  by_cases hg : u.ownBlock = some g
  · rcases id h.2 with ⟨rfl, _⟩ | ⟨g2, c2, cur2, rfl, _⟩
    · simp [Value.ownBlock] at hg
    · simp [Value.ownBlock] at hg
      subst hg
      exact ⟨_, (h.stored j x).1, .inr rfl⟩
  · exact ⟨zs, owns_kept (S := fun b => b ≠ g) (Kp.set (fun k => k rfl)) (fun g' hg' => by rintro rfl; exact hg hg') h, .inl rfl⟩
theorem CmdRows.put {w : World} {S : Nat → Prop} {ys : List Value} {ns : List Nat} {lo' sz' n' g j cap : Nat} {e' : TypeId} {zs : List Value} {x : Value} (h : CmdRows w S ys ns) (hg : w.ownsRow lo' e' sz' (.slice (some ⟨g, 0, none⟩) n' cap) n' zs) (hne : 9 ≠ e') : CmdRows (w.setCell ⟨g, j, none⟩ x) S ys ns := fun i hi => by
  obtain ⟨u, xs, h1, h2, h3⟩ := h i hi
  exact ⟨u, xs, h1, own_putP h2 hg hne, h3⟩
theorem CmdRows.overS {w w' : World} {S : Nat → Prop} {ys : List Value} {ns : List Nat} {u : Value} {n : Nat} {z z' : List Value} (h : CmdRows w S ys ns) (h0 : w.ownsRow 0 9 1 u n z) (h1 : w'.ownsRow 0 9 1 u n z') (hg : w.grownBy w' u.ownBlock) : CmdRows w' S ys ns := fun i hi => by
  obtain ⟨u', xs', a1, a2, a3⟩ := h i hi
  obtain ⟨zs', a4⟩ := owns_over a2 h0 h1 hg (by omega)
  exact ⟨u', zs', a1, a4, a3⟩
theorem CmdRows.overN {w w' : World} {S : Nat → Prop} {ys : List Value} {ns : List Nat} {u : Value} {n : Nat} {z : List Value} (h : CmdRows w S ys ns) (h0 : w.ownsRow 0 211 2 u n z) (hg : w.grownBy w' u.ownBlock) : CmdRows w' S ys ns := fun i hi => by
  obtain ⟨u', xs', a1, a2, a3⟩ := h i hi
  exact ⟨u', xs', a1, a2.kept hg (owns_apart a2 h0 (by decide)), a3⟩
/-- The rows of a row of packs: each may be written. -/
def PackRows (w : World) (S : Nat → Prop) (ys : List Value) (xs : List PackD) : Prop := ∀ i (h : i < xs.length), ∃ u0 u1 u2 z0 z1 z2, ys[i * 4 + 1]? = some u0 ∧ ys[i * 4 + 2]? = some u1 ∧ ys[i * 4 + 3]? = some u2 ∧ w.ownsRow 0 9 1 u0 xs[i].uses.length z0 ∧ (∀ g, u0.ownBlock = some g → S g) ∧ w.ownsRow 0 211 2 u1 xs[i].needs.length z1 ∧ (∀ g, u1.ownBlock = some g → S g) ∧ w.ownsRow 0 170 2 u2 xs[i].cmds.length z2 ∧ (∀ g, u2.ownBlock = some g → S g) ∧ CmdRows w S z2 (xs[i].cmds.map fun c => c.acts.length)
theorem PackRows.set {w : World} {S : Nat → Prop} {ys : List Value} {xs : List PackD} (h : PackRows w S ys xs) (i : Nat) (v : Value) : PackRows w S (ys.set (i * 4) v) xs := fun j hj => by
  obtain ⟨u0, u1, u2, z0, z1, z2, h1, h2, h3, h4⟩ := h j hj
  exact ⟨u0, u1, u2, z0, z1, z2, by rw [List.getElem?_set_ne (by omega)]; exact h1, by rw [List.getElem?_set_ne (by omega)]; exact h2, by rw [List.getElem?_set_ne (by omega)]; exact h3, h4⟩
theorem owns_belowP {w w' : World} {lo sz n : Nat} {e : TypeId} {u : Value} {zs : List Value} (h : w.ownsRow lo e sz u n zs) (hb : Below w.heap.size w w') : w'.ownsRow lo e sz u n zs := owns_kept (S := fun b => b < w.heap.size) (.of hb (fun b h => h)) (fun g hg => (owns_in h g hg).2) h
theorem PackRows.below {w w' : World} {S : Nat → Prop} {ys : List Value} {xs : List PackD} (h : PackRows w S ys xs) (hb : Below w.heap.size w w') : PackRows w' S ys xs := fun j hj => by
  obtain ⟨u0, u1, u2, z0, z1, z2, h1, h2, h3, a0, i0, a1, i1, a2, i2, c⟩ := h j hj
  exact ⟨u0, u1, u2, z0, z1, z2, h1, h2, h3, owns_belowP a0 hb, i0, owns_belowP a1 hb, i1, owns_belowP a2 hb, i2, c.below hb⟩
theorem PackRows.store {w : World} {S : Nat → Prop} {ys : List Value} {xs : List PackD} {g j n cap : Nat} {zs : List Value} {x : Value} (h : PackRows w S ys xs) (hg : w.ownsRow 0 140 4 (.slice (some ⟨g, 0, none⟩) n cap) n zs) : PackRows (w.setCell ⟨g, j, none⟩ x) S ys xs := fun i hi => by
  obtain ⟨u0, u1, u2, z0, z1, z2, h1, h2, h3, a0, i0, a1, i1, a2, i2, c⟩ := h i hi
  exact ⟨u0, u1, u2, z0, z1, z2, h1, h2, h3, own_putP a0 hg (by decide), i0, own_putP a1 hg (by decide), i1, own_putP a2 hg (by decide), i2, c.put hg (by decide)⟩
theorem PackRows.cmd {w : World} {S : Nat → Prop} {ys : List Value} {xs : List PackD} {g i n cap : Nat} {zs : List Value} {x : ByteArray} (h : PackRows w S ys xs) (hg : w.ownsRow 0 170 2 (.slice (some ⟨g, 0, none⟩) n cap) n zs) : PackRows (w.setCell ⟨g, i * 2, none⟩ (.string x)) S ys xs := fun j hj => by
  obtain ⟨u0, u1, u2, z0, z1, z2, h1, h2, h3, a0, i0, a1, i1, a2, i2, c⟩ := h j hj
  obtain ⟨z3, a3, hz⟩ := owns_setAny a2 g (i * 2) (.string x)
  refine ⟨u0, u1, u2, z0, z1, z3, h1, h2, h3, own_putP a0 hg (by decide), i0, own_putP a1 hg (by decide), i1, a3, i2, ?_⟩
  rcases hz with rfl | rfl
  · exact c.store hg
  · exact (c.store hg).set0 i _
theorem PackRows.overS {w w' : World} {S : Nat → Prop} {ys : List Value} {xs : List PackD} {u : Value} {n : Nat} {z z' : List Value} (h : PackRows w S ys xs) (h0 : w.ownsRow 0 9 1 u n z) (h1 : w'.ownsRow 0 9 1 u n z') (hg : w.grownBy w' u.ownBlock) : PackRows w' S ys xs := fun i hi => by
  obtain ⟨u0, u1, u2, z0, z1, z2, e1, e2, e3, a0, i0, a1, i1, a2, i2, c⟩ := h i hi
  obtain ⟨z9, a9⟩ := owns_over a0 h0 h1 hg (by omega)
  exact ⟨u0, u1, u2, z9, z1, z2, e1, e2, e3, a9, i0, a1.kept hg (owns_apart a1 h0 (by decide)), i1, a2.kept hg (owns_apart a2 h0 (by decide)), i2, c.overS h0 h1 hg⟩
theorem PackRows.overN {w w' : World} {S : Nat → Prop} {ys : List Value} {xs : List PackD} {u : Value} {n : Nat} {z z' : List Value} (h : PackRows w S ys xs) (h0 : w.ownsRow 0 211 2 u n z) (h1 : w'.ownsRow 0 211 2 u n z') (hg : w.grownBy w' u.ownBlock) : PackRows w' S ys xs := fun i hi => by
  obtain ⟨u0, u1, u2, z0, z1, z2, e1, e2, e3, a0, i0, a1, i1, a2, i2, c⟩ := h i hi
  obtain ⟨z9, a9⟩ := owns_over a1 h0 h1 hg (by omega)
  exact ⟨u0, u1, u2, z0, z9, z2, e1, e2, e3, a0.kept hg (owns_apart a0 h0 (by decide)), i0, a9, i1, a2.kept hg (owns_apart a2 h0 (by decide)), i2, c.overN h0 hg⟩
theorem packRows_of {S : Nat → Prop} {w : World} {ys : List Value} {xs : List PackD} (h : Laid shPackO S w ys xs xs.length) : PackRows w S ys xs := fun i hi => by
  obtain ⟨cs, h1, ⟨u0, u1, u2, rfl, _, r0, _, r1, r2⟩, h4⟩ := h i hi hi
  obtain ⟨_, y1, o1, in1, _⟩ := r1
  obtain ⟨_, y2, o2, in2, la2⟩ := r2
  exact ⟨u0, u1, u2, _, _, _, h4 1 (by simp), h4 2 (by simp), h4 3 (by simp), r0.1, r0.2, o1, in1, o2, in2, cmdRows_of la2⟩
/-- A row of packs, and the rows in it. -/
def InPack (S : Nat → Prop) (v : Value) (ys : List Value) (xs : List PackD) (w : World) : Prop := w.ownsRow 0 140 4 v xs.length ys ∧ PackRows w S ys xs
theorem inPack_inv (S : Nat → Prop) (v : Value) (ys : List Value) (xs : List PackD) : InvC (InPack S v ys xs) where
  below w w' h hb := ⟨owns_belowP h.1 hb, h.2.below hb⟩
  cmd w g i n cap zs x h hg := ⟨own_putP h.1 hg (by decide), h.2.cmd hg⟩
  strs w w' u n z z' h h0 h1 hg := ⟨h.1.kept hg (owns_apart h.1 h0 (by decide)), h.2.overS h0 h1 hg⟩
def cntK (d : PackD) : Nat := 1 + d.uses.length + d.needs.length * 2 + ((d.cmds.map fun c => c.acts.length).length + (d.cmds.map fun c => c.acts.length).sum)
def cntKs (xs : List PackD) : Nat := (xs.map cntK).sum
theorem cntKs_take (xs : List PackD) (i : Nat) (h : i < xs.length) : cntKs (xs.take (i + 1)) = cntKs (xs.take i) + cntK xs[i] := by
  unfold cntKs
  rw [List.take_succ_eq_append_getElem h, List.map_append, List.sum_append]; simp
theorem cntKs_le (xs : List PackD) (i : Nat) : cntKs (xs.take i) ≤ cntKs xs := by
  unfold cntKs
  conv => rhs; rw [← List.take_append_drop i xs, List.map_append, List.sum_append]
  omega
theorem cntK_wt (d : PackD) : cntK d ≤ 4 * (1 + wtPack d) := by
  have h1 := len_wtRow wtNeed d.needs
  have h2 := cmds_sum d.cmds
  unfold cntK wtPack bulkS
  omega
theorem cntKs_wt : ∀ xs : List PackD, cntKs xs ≤ 4 * wtRow wtPack xs
  | [] => by simp [cntKs]
  | d :: xs => by
    have h1 := cntKs_wt xs
    have h2 := cntK_wt d
    have e1 : cntKs (d :: xs) = cntK d + cntKs xs := by simp [cntKs]
    have e2 : wtRow wtPack (d :: xs) = (1 + wtPack d) + wtRow wtPack xs := by simp [wtRow]
    omega

set_option maxHeartbeats 8000000 in
set_option maxRecDepth 100000 in
theorem markPackS_c (S : Nat → Prop) (v : Value) (xs : List PackD) (k : Nat) (w : World) (hv : RowOwn shPackO 140 S w v xs) (h1 : 1 ≤ k) (h2 : k + cntKs xs ≤ 4294967296) :
    Calls Tryz.prog 39 #[v, .int .i64 (k : Int)] w fun e w' => e = .returned (.int .i64 ((k + cntKs xs : Nat) : Int)) ∧ Chg S w w' := by
  obtain ⟨_, zs, hv, hg, hld⟩ := hv
  have hr := packRows_of hld
  clear hld
  have hv : w.ownsRow 0 140 4 v xs.length zs := hv
  rcases id hv.2 with ⟨rfl, hn0⟩ | ⟨g, cap, cur, rfl, _, hgb, hcap, hmax, _⟩
  · have hns : xs = [] := List.eq_nil_of_length_eq_zero hn0
    subst hns
    clear hv hg hr
    go_enter Tryz.func39, Tryz.ntmps39
    go_wp2_with fail
    go_loopw [1, 5] (fun vk vi wr => vk = .int .i64 (k : Int) ∧ vi = .int .i64 0 ∧ wr = w) (fun _ _ _ => 0)
    case atStart => exact ⟨rfl, rfl, rfl⟩
    case round =>
      obtain ⟨rfl, rfl, rfl⟩ := hrel
      go_wp2_with fail
      go_ret
      exact ⟨by simp [cntKs], Chg.refl _ _⟩
  · have hSg := hg g rfl
    unfold maxLen at hmax
    clear hgb hg
    go_enter Tryz.func39, Tryz.ntmps39
    go_wp2_with fail
    go_loopw [1, 5] (fun vk vi wr => ∃ (i m : Nat) (ys : List Value), i ≤ xs.length ∧ vi = .int .i64 (i : Int) ∧ vk = .int .i64 (m : Int) ∧ Hid (m = k + cntKs (xs.take i)) ∧ wr.ownsRow 0 140 4 (.slice (some ⟨g, 0, none⟩) xs.length cap) xs.length ys ∧ Hid (PackRows wr S ys xs) ∧ Chg S w wr) (fun _ vi _ => xs.length - (intOf vi).toNat)
    case atStart => exact ⟨0, k, zs, Nat.zero_le _, rfl, rfl, by show _ = _; simp [cntKs], hv, hr, Chg.refl _ _⟩
    case round =>
      obtain ⟨i, m, ys, hi, rfl, rfl, hm, hown, hrr, hchg⟩ := hrel
      by_cases hlt : i < xs.length
      · have hlen := hown.1
        obtain ⟨NS, hNS⟩ : ∃ l : List Nat, l = xs[i].cmds.map fun c => c.acts.length := ⟨_, rfl⟩
        have hNL : NS.length = xs[i].cmds.length := by rw [hNS]; simp
        have HNS := hidden (And.intro hNS hNL)
        obtain ⟨P, hP⟩ : ∃ P, P = xs[i].uses.length := ⟨_, rfl⟩
        obtain ⟨Q, hQ⟩ : ∃ Q, Q = xs[i].needs.length := ⟨_, rfl⟩
        obtain ⟨R, hR⟩ : ∃ R, R = NS.length + NS.sum := ⟨_, rfl⟩
        have HTS : Hid (cntKs (xs.take (i + 1)) = cntKs (xs.take i) + (1 + P + Q * 2 + R) ∧ cntKs (xs.take (i + 1)) ≤ cntKs xs) := ⟨by rw [cntKs_take xs i hlt, hP, hQ, hR, hNS]; rfl, cntKs_le xs (i + 1)⟩
        have HP := hidden hP
        have HQ := hidden hQ
        have HR := hidden hR
        have hm2 : m + 1 + P + Q * 2 + R ≤ 4294967296 := by have := hm.out; have := HTS.out; omega
        have hm1 : 1 ≤ m := by have := hm.out; omega
        have hki : (i : Int) < (xs.length : Int) := by omega
        have HO := hidden hown
        have HM1 := hidden (fun w1 => markText_c m w1 (by omega) (by omega))
        clear hown hv hr hP hQ hR hNS hNL
        go_wp2_with fail
        go_at_call 104
        refine (HM1.out _).mono ?_
        rintro e w1 ⟨rfl, b1⟩
        have r1 := HO.out.kept (grown_of_below b1 none) (by simp [Value.ownBlock])
        have f1 := r1.frozenAt
        have d0 : ∃ x, w1.cell? ⟨g, i * 4, none⟩ = some x := ⟨ys.getD (i * 4) undef, by rw [r1.cellAt _ (by omega)]; simp [List.getD_eq_getElem?_getD, show i * 4 < ys.length by omega]⟩
        obtain ⟨c0, d0⟩ := d0
        have q1 := hrr.out.below b1
        have s0 := r1.stored (i * 4) (.string (markStr m))
        have q2 := (q1.store (j := i * 4) (x := .string (markStr m)) r1).set i (.string (markStr m))
        obtain ⟨u0, u1, u2, z0, z1, z2, hu1, hu2, hu3, a0, i0, a1, i1, a2, i2, cc⟩ := q2 i hlt
        rw [← HP.out] at a0
        have d1 : w1.cell? ⟨g, i * 4 + 1, none⟩ = some u0 := by
          rw [r1.cellAt _ (by omega)]
          rw [List.getElem?_set_ne (by omega)] at hu1
          exact hu1
        obtain ⟨qu, cu, eu⟩ := owns_sl a0
        have HMS := markStrs_c u0 0 P z0 (m + 1) _ a0 (by omega) (by omega) (by omega) (Nat.zero_le _)
        rw [show ((m + 1 : Nat) : Int) = (m : Int) + 1 by omega] at HMS
        subst eu
        have CH1 : Chg S wr (w1.setCell ⟨g, i * 4, none⟩ (.string (markStr m))) := (Chg.of b1).trans (Chg.set hSg)
        have HMS2 := hidden HMS
        have HR2 := hidden s0.1
        have HQ2 := hidden q2
        have HU2 := hidden a0
        have HCH1 := hidden CH1
        clear r1 s0 q1 q2 HMS hu1 hu2 hu3 a0 a1 i1 a2 i2 cc CH1
        go_wp2_with fail
        go_at_call 41
        refine HMS2.out.mono ?_
        rintro e w2 ⟨rfl, y2, g2⟩
        have r3 := HR2.out.kept g2 (owns_apart HR2.out HU2.out (by decide))
        have q6 := HQ2.out.overS HU2.out y2 g2
        obtain ⟨t0, t1, t2, x0, x1, x2, hv1, hv2, hv3, e0, j0, e1, j1, e2, j2, cc⟩ := q6 i hlt
        rw [← HQ.out] at e1
        have hl3 := r3.1
        have d2 : w2.cell? ⟨g, i * 4 + 2, none⟩ = some t1 := by
          rw [r3.cellAt _ (by omega)]
          exact hv2
        obtain ⟨qt, ct, et⟩ := owns_sl e1
        have HMN := markNeedV_c t1 0 Q (m + 1 + P) x1 _ e1 (by omega) (by omega)
        rw [show ((m + 1 + P : Nat) : Int) = (m : Int) + 1 + (P : Int) by omega] at HMN
        subst et
        have HMN2 := hidden HMN
        have HR3 := hidden r3
        have HQ3 := hidden q6
        have HU3 := hidden e1
        have HCH2 := hidden (HCH1.out.trans (Chg.grown g2 i0))
        clear r3 q6 HMN hv1 hv2 hv3 e0 j0 e1 e2 j2 y2 cc
        go_wp2_with fail
        go_at_call 105
        refine HMN2.out.mono ?_
        rintro e w3 ⟨rfl, y3, g3⟩
        have r4 := HR3.out.kept g3 (owns_apart HR3.out HU3.out (by decide))
        have q7 := HQ3.out.overN HU3.out y3 g3
        obtain ⟨t0', t1', t2, x0', x1', x2, hv1, hv2, hv3, e0, j0, e1, j1', e2, j2, cc⟩ := q7 i hlt
        rw [← HNS.out.2] at e2
        rw [← HNS.out.1] at cc
        have hl4 := r4.1
        have d3 : w3.cell? ⟨g, i * 4 + 3, none⟩ = some t2 := by
          rw [r4.cellAt _ (by omega)]
          exact hv3
        obtain ⟨qt2, ct2, et2⟩ := owns_sl e2
        have hRo := HR.out
        have HMC := markCmdSI_c (InPack S (.slice (some ⟨g, 0, none⟩) xs.length cap) _ xs) (inPack_inv _ _ _ _) S t2 NS (m + 1 + P + Q * 2) x2 w3 e2 j2 cc ⟨r4, q7⟩ (by omega) (by omega)
        rw [show ((m + 1 + P + Q * 2 : Nat) : Int) = (m : Int) + 1 + (P : Int) + ((Q * 2 : Nat) : Int) by omega, ← hRo] at HMC
        rw [show ((m + 1 + P + Q * 2 + R : Nat) : Int) = (((m + 1 + P + Q * 2 + R : Nat)) : Int) from rfl] at HMC
        subst et2
        have HMC2 := hidden HMC
        have HCH3 := hidden (HCH2.out.trans (Chg.grown g3 j1))
        clear r4 q7 HMC hv1 hv2 hv3 e0 j0 e1 e2 cc y3 hRo
        go_wp2_with fail
        go_at_call 106
        refine HMC2.out.mono ?_
        rintro e w4 ⟨rfl, ch4, i4⟩
        have HI4 := hidden i4
        have HCH4 := hidden (HCH3.out.trans ch4)
        clear i4 ch4
        go_wp2_with fail
        go_roundw
        case rel => exact ⟨i + 1, m + 1 + P + Q * 2 + R, _, by omega, by go_num, by first | rfl | (simp; done) | (simp; omega), (by show _ = _; have := hm.out; have := HTS.out; omega), HI4.out.1, HI4.out.2, hchg.trans HCH4.out⟩
        case measure => simp [intOf]; omega
      · have he : i = xs.length := by omega
        subst he
        have hmm : m = k + cntKs xs := by have := hm.out; rw [List.take_length] at this; exact this
        have HMM := hidden hmm
        clear hown hv hr hrr hmm
        go_wp2_with fail
        go_ret
        exact ⟨by rw [← HMM.out]; rfl, hchg⟩
end Go.Proofs.YtkkhnldhipfneaaGreatDoor
