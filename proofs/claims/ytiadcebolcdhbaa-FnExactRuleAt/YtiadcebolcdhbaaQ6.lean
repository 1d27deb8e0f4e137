/-
  Contracts for the walks, several texts in one: each part says what it proves, and under which conditions.
-/
import Derived.Laws.AppendOwnNone
import Derived.Test.YtiadcebolcdhbaaQ3
import Derived.Test.YtiadcebolcdhbaaQ5
import Derived.Test.YtiadcebolcdhbaaQ1

/-! The rule of a task, as the program finds it, and its copy: contracts for the walks; conditions: the rules lie in memory, and hold at most 2 to the 20. -/
namespace Go.Proofs.Ytiadcebolcdhbaa
open Go.RowKit
set_option linter.unusedSimpArgs false
set_option linter.unusedVariables false

/-- The first rule of a task, or one of this task alone. -/
def isAt (t : ByteArray) (d : RuleD) : Bool := decide (d.task = t)
def atR (xs : List RuleD) (t : ByteArray) : RuleD := (xs.find? (isAt t)).getD ⟨t, [], [], [], false⟩
def atOk (xs : List RuleD) (t : ByteArray) : Bool := (xs.find? (isAt t)).isSome
theorem findAt {xs : List RuleD} {t : ByteArray} {k : Nat} (h : k < xs.length) (hy : isAt t xs[k] = true) (hn : ∀ j (hj : j < xs.length), j < k → isAt t xs[j] = false) : xs.find? (isAt t) = some xs[k] := by
  rw [List.find?_eq_some_iff_getElem]
  exact ⟨hy, k, h, rfl, fun j hj => by simpa using hn j (by omega) hj⟩
theorem findNone {xs : List RuleD} {t : ByteArray} (hn : ∀ j (hj : j < xs.length), isAt t xs[j] = false) : xs.find? (isAt t) = none := by
  rw [List.find?_eq_none]
  intro x hx
  obtain ⟨j, hj, rfl⟩ := List.mem_iff_getElem.1 hx
  simp [hn j hj]
theorem firstI_find (xs : List RuleD) (t : ByteArray) : (firstI (isAt t) xs = -1 ∧ xs.find? (isAt t) = none) ∨ ∃ k : Nat, ∃ h : k < xs.length, firstI (isAt t) xs = (k : Int) ∧ xs.find? (isAt t) = some xs[k] := by
  by_cases h : xs.findIdx (isAt t) < xs.length
  · refine .inr ⟨_, h, by unfold firstI; rw [if_pos h], findAt h (List.findIdx_getElem) (fun j hj hlt => by simpa using List.not_of_lt_findIdx hlt)⟩
  · refine .inl ⟨by unfold firstI; rw [if_neg h], findNone fun j hj => by simpa using List.not_of_lt_findIdx (p := isAt t) (by omega : j < xs.findIdx (isAt t))⟩
/-- What a rule that was answered is worth. -/
theorem atR_small {xs : List RuleD} {t : ByteArray} (hx : wtRow wtRule xs ≤ 1048576) (ht : t.size ≤ 1048576) : wtRule (atR xs t) ≤ 1048576 := by
  unfold atR
  cases h : xs.find? (isAt t) with
  | none => show wtRule ⟨t, [], [], [], false⟩ ≤ _; unfold wtRule bulkS; simp; exact ht
  | some d => have := wt_wtRow wtRule (List.mem_of_find?_eq_some h); show wtRule d ≤ _; omega
theorem rec3_nil {lo : Nat} {W : World} {t : ByteArray} (ht : t.size ≤ maxLen) : Rec3 lo W.heap.size W (.slice none 0 0) (.slice none 0 0) (.slice none 0 0) ⟨t, [], [], [], false⟩ := by
  have h : StrR lo W.heap.size W (.slice none 0 0) [] := ⟨⟨World.ownsRow_nil _ _ _ _, fun g hg => by simp [Value.ownBlock] at hg⟩, Nat.le_refl _⟩
  have hs : saneP [] := ⟨Nat.zero_le _, fun s hs => by cases hs⟩
  exact ⟨h, h, h, Ap.nil, Ap.nil, Ap.nil, ht, hs, hs, hs⟩
set_option maxHeartbeats 2000000 in
set_option maxRecDepth 100000 in
theorem copyTexts_c (u : Value) (ps : List ByteArray) (w : World) (hu : Reads w u (strsV ps)) (hn : ps.length ≤ 1048576) (hsz : ∀ t ∈ ps, t.size ≤ 1048576) :
    Calls Try.prog 109 #[u] w fun e w' => ∃ u', e = .returned u' ∧ w'.ownsRow w.heap.size 9 1 u' ps.length (strsV ps) ∧ Below w.heap.size w w' := by
  obtain ⟨i0, hi, hz0, hz1, hz2⟩ := info_parts infoS
  obtain ⟨q, cap, rfl, _, hc⟩ := reads_strs hu
  clear hu
  go_enter Try.func109, Try.ntmps109
  go_wp2_with fail
  go_loopw [3, 8] (fun vx vi wr => ∃ (k : Nat) (vo : Value), k ≤ ps.length ∧ vi = .int .i64 (k : Int) ∧ vx = vo ∧ wr.ownsRow w.heap.size 9 1 vo k (strsV (ps.take k)) ∧ Below w.heap.size w wr) (fun _ vi _ => ps.length - (intOf vi).toNat)
  case atStart => exact ⟨0, _, Nat.zero_le _, rfl, rfl, (by rw [List.take_zero]; exact World.ownsRow_nil _ _ _ _), Below.refl _ _⟩
  case round =>
    obtain ⟨k, vo, hk, rfl, rfl, hown, hbr⟩ := hrel
    by_cases hlt' : k < ps.length
    · rcases hc with rfl | ⟨b0, off, rfl, hlt, hc⟩
      · simp at hlt'
      have e0 : wr.cell? ⟨b0, off + k, none⟩ = some (.string ps[k]) := (hbr.cell (by simpa using hlt)).trans (hc k hlt')
      have hsk := hsz ps[k] (List.getElem_mem hlt')
      have HT : Hid (strsV (ps.take k) ++ strsV [ps[k]] = strsV (ps.take (k + 1))) := by show _ = _; rw [strs_append, List.take_succ_eq_append_getElem hlt']
      obtain ⟨t, ht⟩ : ∃ t, t = ps[k] := ⟨_, rfl⟩
      rw [← ht] at e0 hsk HT
      have hki : (k : Int) < (ps.length : Int) := by omega
      clear hc ht hsz
      go_wp2_with (first
        | (go_at_call 74; refine (clone_c t _ hsk).mono ?_; rintro e w2 ⟨rfl, b2⟩
           have hown2 := owns_of_below hown b2)
        | (at_builtin; refine wpList_append_own _ rfl _ _ 26 rfl w.heap.size 9 i0 (.string ⟨#[]⟩) 1 16 Try.underlying26 hi hz0 hz1 hz2 rfl (by decide) _ k (strsV (ps.take k)) rfl (hown2.alloc _) ⟨w2.heap.size, 0, none⟩ 1 1 (strsV [t]) rfl rfl (cell_one_new _ _ _) (fun u hu => by simp [strsV] at hu; subst hu; rfl) (by unfold maxLen; omega) (by omega) (by have h1 := hbr.size; have h2 := b2.size; simp; omega) ?_))
      intro v3 w3 o3 gr3 _
      rw [HT.out] at o3
      have hbw2 := hbr.trans (b2.mono hbr.size)
      have hb3 : Below w.heap.size w w3 := Below.grown (hbw2.alloc hbw2.size _) gr3 (by have := hbw2.size; simp; omega) (fun j hj => (hown2.lt _ hj).1)
      clear gr3 hown2 hbw2
      go_wp2_with fail
      go_roundw
      case rel => exact ⟨k + 1, _, by omega, by go_num, rfl, o3, hb3⟩
      case measure => simp [intOf]; omega
    · have he : k = ps.length := by omega
      subst he
      rw [List.take_length] at hown
      clear hc hsz
      go_wp2_with fail
      go_ret
      exact ⟨_, rfl, hown, hbr⟩

set_option maxHeartbeats 8000000 in
set_option maxRecDepth 100000 in
theorem copyRule_c (S : Nat → Prop) (d : RuleD) (cs : List Value) (w : World) (hd : shRule.lies S w cs d) (hB : ∀ b, S b → b < w.heap.size) (hw : wtRule d ≤ 1048576) :
    Calls Try.prog 75 #[.agg cs.toArray] w fun e w' => ∃ u0 u1 u2, e = .returned (.agg #[.string d.task, u0, u1, u2, .bool d.keep]) ∧ Rec3 w.heap.size w'.heap.size w' u0 u1 u2 d ∧ Below w.heap.size w w' := by
  obtain ⟨hs0, hs1, hs2⟩ := smallR_of hw
  obtain ⟨hl0, hl1, hl2⟩ := lens_wt hw
  have hts : d.task.size ≤ 1048576 := by unfold wtRule at hw; omega
  obtain ⟨u0, u1, u2, rfl, s_task, r0, p0, r1, p1, r2, p2⟩ := hd
  have hb2 : ∀ A R, Below w.heap.size w ((w.alloc A).alloc R) := fun A R => ((Below.refl _ _).alloc (Nat.le_refl _) _).alloc (by simp) _
  have hrd : ∀ {u ss}, RdB S w u (strsV ss) → ∀ w1, Below w.heap.size w w1 → Reads w1 u (strsV ss) := fun r w1 h => (r.keep (.of h hB)).reads (fun b hb => Nat.lt_of_lt_of_le (hB b hb) h.size)
  have HN := hidden (fun w1 => clone_c d.task w1 hts)
  have HA' : ∀ w1, Below w.heap.size w w1 → Calls Try.prog 109 #[u0] w1 fun e w' => ∃ u', e = .returned u' ∧ w'.ownsRow w1.heap.size 9 1 u' d.on.length (strsV d.on) ∧ Below w1.heap.size w1 w' := fun w1 h => copyTexts_c u0 d.on w1 (hrd r0 w1 h) hl0 hs0
  have HB' : ∀ w1, Below w.heap.size w w1 → Calls Try.prog 109 #[u1] w1 fun e w' => ∃ u', e = .returned u' ∧ w'.ownsRow w1.heap.size 9 1 u' d.ins.length (strsV d.ins) ∧ Below w1.heap.size w1 w' := fun w1 h => copyTexts_c u1 d.ins w1 (hrd r1 w1 h) hl1 hs1
  have HC' : ∀ w1, Below w.heap.size w w1 → Calls Try.prog 109 #[u2] w1 fun e w' => ∃ u', e = .returned u' ∧ w'.ownsRow w1.heap.size 9 1 u' d.envs.length (strsV d.envs) ∧ Below w1.heap.size w1 w' := fun w1 h => copyTexts_c u2 d.envs w1 (hrd r2 w1 h) hl2 hs2
  obtain ⟨a0, c0, e0, _⟩ := id r0
  rw [length_strsV] at e0
  subst e0
  obtain ⟨a1, c1, e1, _⟩ := id r1
  rw [length_strsV] at e1
  subst e1
  obtain ⟨a2, c2, e2, _⟩ := id r2
  rw [length_strsV] at e2
  subst e2
  obtain ⟨hAz, hRz⟩ := two_boxes (w := w) (.cells #[.string d.task, .slice a0 d.on.length c0, .slice a1 d.ins.length c1, .slice a2 d.envs.length c2, .bool d.keep] 52 (0, 0)) (.cells #[.string ⟨#[]⟩, .slice none 0 0, .slice none 0 0, .slice none 0 0, .bool false] 52 (0, 0))
  have hwz := hb2 (.cells #[.string d.task, .slice a0 d.on.length c0, .slice a1 d.ins.length c1, .slice a2 d.envs.length c2, .bool d.keep] 52 (0, 0)) (.cells #[.string ⟨#[]⟩, .slice none 0 0, .slice none 0 0, .slice none 0 0, .bool false] 52 (0, 0))
  have hsz : ((w.alloc (.cells #[.string d.task, .slice a0 d.on.length c0, .slice a1 d.ins.length c1, .slice a2 d.envs.length c2, .bool d.keep] 52 (0, 0))).alloc (.cells #[.string ⟨#[]⟩, .slice none 0 0, .slice none 0 0, .slice none 0 0, .bool false] 52 (0, 0))).heap.size = w.heap.size + 2 := by simp
  have HSN := hidden (And.intro s_task (And.intro p0 (And.intro p1 p2)))
  clear r0 r1 r2 hrd hs0 hs1 hs2 s_task p0 p1 p2 hw hts hl0 hl1 hl2 hb2
  go_enter Try.func75, Try.ntmps75
  go_wp2_with fail
  obtain ⟨wz, hW⟩ : ∃ wz, wz = (w.alloc (.cells #[.string d.task, .slice a0 d.on.length c0, .slice a1 d.ins.length c1, .slice a2 d.envs.length c2, .bool d.keep] 52 (0, 0))).alloc (.cells #[.string ⟨#[]⟩, .slice none 0 0, .slice none 0 0, .slice none 0 0, .bool false] 52 (0, 0)) := ⟨_, rfl⟩
  rw [← hW] at hAz hRz hwz hsz
  rw [← hW]
  clear hW
  have HA := hidden (fun w1 (h : Below wz.heap.size wz w1) => HA' w1 (hwz.trans (h.mono (by omega))))
  have HB := hidden (fun w1 (h : Below wz.heap.size wz w1) => HB' w1 (hwz.trans (h.mono (by omega))))
  have HC := hidden (fun w1 (h : Below wz.heap.size wz w1) => HC' w1 (hwz.trans (h.mono (by omega))))
  have h0 : Below wz.heap.size wz wz.drew := (Below.refl _ _).drew
  have KEEP : Hid (∀ w1, Below wz.heap.size wz w1 → w1.cell? ⟨w.heap.size, 0, none⟩ = some (.string d.task) ∧ w1.cell? ⟨w.heap.size, 1, none⟩ = some (.slice a0 d.on.length c0) ∧ w1.cell? ⟨w.heap.size, 2, none⟩ = some (.slice a1 d.ins.length c1) ∧ w1.cell? ⟨w.heap.size, 3, none⟩ = some (.slice a2 d.envs.length c2) ∧ w1.cell? ⟨w.heap.size, 4, none⟩ = some (.bool d.keep)) := fun w1 h => by
    have hA := (h.block w.heap.size (by omega)).trans hAz
    exact ⟨vblk_cell hA 0, vblk_cell hA 1, vblk_cell hA 2, vblk_cell hA 3, vblk_cell hA 4⟩
  clear HA' HB' HC'
  refine wp_region_held_drew (S := (fun w1 => w1.cell? ⟨w.heap.size, 0, none⟩ = some (.string d.task) ∧ w1.cell? ⟨w.heap.size, 1, none⟩ = some (.slice a0 d.on.length c0) ∧ w1.cell? ⟨w.heap.size, 2, none⟩ = some (.slice a1 d.ins.length c1) ∧ w1.cell? ⟨w.heap.size, 3, none⟩ = some (.slice a2 d.envs.length c2) ∧ w1.cell? ⟨w.heap.size, 4, none⟩ = some (.bool d.keep))) (by kernel_rfl) ?SR10 (fun hHeld => ?_)
  case SR10 => (first | (with_reducible exact KEEP.out _ h4) | (with_reducible exact KEEP.out _ h3) | (with_reducible exact KEEP.out _ h2) | (with_reducible exact KEEP.out _ h1) | (with_reducible exact KEEP.out _ h0))
  refine wpAnyH_take (i := 0) (oi := _) (v := ?vR10) rfl (by kernel_rfl) (by kernel_rfl) (by kernel_rfl) (fun _ _ _ h => h) (Or.inl ⟨by rfl, ?yR10⟩) hHeld ?_
  case yR10 => (intro w hSw; (try dsimp only at hSw); go_simp <;> with_reducible rfl)
  try simp only [Act.put, List.getElem_toArray, List.getElem_cons_zero, List.getElem_cons_succ, List.setIfInBounds_toArray, List.set_cons_zero, List.set_cons_succ]
  refine wpAnyH_take (i := 1) (oi := _) (v := ?vR11) rfl (by kernel_rfl) (by kernel_rfl) (by kernel_rfl) (fun _ _ _ h => h) (Or.inl ⟨by rfl, ?yR11⟩) hHeld ?_
  case yR11 => (intro w hSw; (try dsimp only at hSw); go_simp <;> with_reducible rfl)
  try simp only [Act.put, List.getElem_toArray, List.getElem_cons_zero, List.getElem_cons_succ, List.setIfInBounds_toArray, List.set_cons_zero, List.set_cons_succ]
  refine wpAnyH_take (i := 3) (oi := _) (v := ?vR12) rfl (by kernel_rfl) (by kernel_rfl) (by kernel_rfl) (fun _ _ _ h => h) (Or.inl ⟨by rfl, ?yR12⟩) hHeld ?_
  case yR12 => (intro w hSw; (try dsimp only at hSw); go_simp <;> with_reducible rfl)
  try simp only [Act.put, List.getElem_toArray, List.getElem_cons_zero, List.getElem_cons_succ, List.setIfInBounds_toArray, List.set_cons_zero, List.set_cons_succ]
  refine wpAnyH_take (i := 4) (oi := _) (v := ?vR13) rfl (by kernel_rfl) (by kernel_rfl) (by kernel_rfl) (fun _ _ _ h => h) (Or.inl ⟨by rfl, ?yR13⟩) hHeld ?_
  case yR13 => (intro w hSw; (try dsimp only at hSw); go_simp <;> with_reducible rfl)
  try simp only [Act.put, List.getElem_toArray, List.getElem_cons_zero, List.getElem_cons_succ, List.setIfInBounds_toArray, List.set_cons_zero, List.set_cons_succ]
  refine wpAnyH_take (i := 6) (oi := _) (v := ?vR14) rfl (by kernel_rfl) (by kernel_rfl) (by kernel_rfl) (fun _ _ _ h => h) (Or.inl ⟨by rfl, ?yR14⟩) hHeld ?_
  case yR14 => (intro w hSw; (try dsimp only at hSw); go_simp <;> with_reducible rfl)
  try simp only [Act.put, List.getElem_toArray, List.getElem_cons_zero, List.getElem_cons_succ, List.setIfInBounds_toArray, List.set_cons_zero, List.set_cons_succ]
  refine wpAnyH_take (i := 7) (oi := _) (v := ?vR15) rfl (by kernel_rfl) (by kernel_rfl) (by kernel_rfl) (fun _ _ _ h => h) (Or.inl ⟨by rfl, ?yR15⟩) hHeld ?_
  case yR15 => (intro w hSw; (try dsimp only at hSw); go_simp <;> with_reducible rfl)
  try simp only [Act.put, List.getElem_toArray, List.getElem_cons_zero, List.getElem_cons_succ, List.setIfInBounds_toArray, List.set_cons_zero, List.set_cons_succ]
  refine wpAnyH_take (i := 9) (oi := _) (v := ?vR16) rfl (by kernel_rfl) (by kernel_rfl) (by kernel_rfl) (fun _ _ _ h => h) (Or.inl ⟨by rfl, ?yR16⟩) hHeld ?_
  case yR16 => (intro w hSw; (try dsimp only at hSw); go_simp <;> with_reducible rfl)
  try simp only [Act.put, List.getElem_toArray, List.getElem_cons_zero, List.getElem_cons_succ, List.setIfInBounds_toArray, List.set_cons_zero, List.set_cons_succ]
  refine wpAnyH_take (i := 10) (oi := _) (v := ?vR17) rfl (by kernel_rfl) (by kernel_rfl) (by kernel_rfl) (fun _ _ _ h => h) (Or.inl ⟨by rfl, ?yR17⟩) hHeld ?_
  case yR17 => (intro w hSw; (try dsimp only at hSw); go_simp <;> with_reducible rfl)
  try simp only [Act.put, List.getElem_toArray, List.getElem_cons_zero, List.getElem_cons_succ, List.setIfInBounds_toArray, List.set_cons_zero, List.set_cons_succ]
  refine wpAnyH_take (i := 12) (oi := _) (v := ?vR18) rfl (by kernel_rfl) (by kernel_rfl) (by kernel_rfl) (fun _ _ _ h => h) (Or.inl ⟨by rfl, ?yR18⟩) hHeld ?_
  case yR18 => (intro w hSw; (try dsimp only at hSw); go_simp <;> with_reducible rfl)
  try simp only [Act.put, List.getElem_toArray, List.getElem_cons_zero, List.getElem_cons_succ, List.setIfInBounds_toArray, List.set_cons_zero, List.set_cons_succ]
  refine wpAnyH_take (i := 13) (oi := _) (v := ?vR19) rfl (by kernel_rfl) (by kernel_rfl) (by kernel_rfl) (fun _ _ _ h => h) (Or.inl ⟨by rfl, ?yR19⟩) hHeld ?_
  case yR19 => (intro w hSw; (try dsimp only at hSw); go_simp <;> with_reducible rfl)
  try simp only [Act.put, List.getElem_toArray, List.getElem_cons_zero, List.getElem_cons_succ, List.setIfInBounds_toArray, List.set_cons_zero, List.set_cons_succ]
  refine wpAnyH_ready (rs := [2]) (by kernel_rfl) (by simp) ?_
  refine AllReadyH.cons rfl (fun K hK => ?_) AllReadyH.nil
  go_simp
  go_wp2_with (go_at_call 74; refine (HN.out _).mono ?_; rintro e w1 ⟨rfl, b1⟩; have h1 : Below wz.heap.size wz w1 := h0.trans (b1.mono h0.size))
  clear hHeld
  refine hK.out _ _ ?SR111 (fun hHeld => ?_)
  case SR111 => ((try dsimp only); first | (with_reducible exact KEEP.out _ h4) | (with_reducible exact KEEP.out _ h3) | (with_reducible exact KEEP.out _ h2) | (with_reducible exact KEEP.out _ h1) | (with_reducible exact KEEP.out _ h0))
  clear hK K
  refine wpAnyH_ready (rs := [5]) (by kernel_rfl) (by simp) ?_
  refine AllReadyH.cons rfl (fun K hK => ?_) AllReadyH.nil
  go_simp
  go_wp2_with (go_at_call 109; refine (HA.out _ h1).mono ?_; rintro e w2 ⟨v0, rfl, o0, b2⟩; have h2 : Below wz.heap.size wz w2 := h1.trans (b2.mono h1.size); obtain ⟨q0, k0, ev0⟩ := owns_sliceP o0; subst ev0)
  clear hHeld
  refine hK.out _ _ ?SR112 (fun hHeld => ?_)
  case SR112 => ((try dsimp only); first | (with_reducible exact KEEP.out _ h4) | (with_reducible exact KEEP.out _ h3) | (with_reducible exact KEEP.out _ h2) | (with_reducible exact KEEP.out _ h1) | (with_reducible exact KEEP.out _ h0))
  clear hK K
  refine wpAnyH_ready (rs := [8]) (by kernel_rfl) (by simp) ?_
  refine AllReadyH.cons rfl (fun K hK => ?_) AllReadyH.nil
  go_simp
  go_wp2_with (go_at_call 109; refine (HB.out _ h2).mono ?_; rintro e w3 ⟨v1, rfl, o1, b3⟩; have h3 : Below wz.heap.size wz w3 := h2.trans (b3.mono h2.size); obtain ⟨q1, k1, ev1⟩ := owns_sliceP o1; subst ev1)
  clear hHeld
  refine hK.out _ _ ?SR113 (fun hHeld => ?_)
  case SR113 => ((try dsimp only); first | (with_reducible exact KEEP.out _ h4) | (with_reducible exact KEEP.out _ h3) | (with_reducible exact KEEP.out _ h2) | (with_reducible exact KEEP.out _ h1) | (with_reducible exact KEEP.out _ h0))
  clear hK K
  refine wpAnyH_ready (rs := [11]) (by kernel_rfl) (by simp) ?_
  refine AllReadyH.cons rfl (fun K hK => ?_) AllReadyH.nil
  go_simp
  go_wp2_with (go_at_call 109; refine (HC.out _ h3).mono ?_; rintro e w4 ⟨v2, rfl, o2, b4⟩; have h4 : Below wz.heap.size wz w4 := h3.trans (b4.mono h3.size); obtain ⟨q2, k2, ev2⟩ := owns_sliceP o2; subst ev2)
  clear hHeld
  refine hK.out _ _ ?SR114 (fun hHeld => ?_)
  case SR114 => ((try dsimp only); first | (with_reducible exact KEEP.out _ h4) | (with_reducible exact KEEP.out _ h3) | (with_reducible exact KEEP.out _ h2) | (with_reducible exact KEEP.out _ h1) | (with_reducible exact KEEP.out _ h0))
  clear hK K
  refine wpAnyH_take (i := 14) (oi := _) (v := ?vR114) rfl (by kernel_rfl) (by kernel_rfl) (by kernel_rfl) (fun _ _ _ h => h) (Or.inl ⟨by rfl, ?yR114⟩) hHeld ?_
  case yR114 => (intro w hSw; (try dsimp only at hSw); go_simp <;> with_reducible rfl)
  try simp only [Act.put, List.getElem_toArray, List.getElem_cons_zero, List.getElem_cons_succ, List.setIfInBounds_toArray, List.set_cons_zero, List.set_cons_succ]
  have hR4 := (h4.block (w.heap.size + 1) (by omega)).trans hRz
  have fy := vblk_frozen hR4
  have y0 := vblk_cell hR4 0
  have y1 := vblk_cell hR4 1
  have y2 := vblk_cell hR4 2
  have y3 := vblk_cell hR4 3
  have y4 := vblk_cell hR4 4
  simp only [List.getElem?_toArray, List.getElem?_cons_succ, List.getElem?_cons_zero] at y0 y1 y2 y3 y4
  refine wpAnyH_ready (rs := [15]) (by kernel_rfl) (by simp) ?_
  refine AllReadyH.cons rfl (fun K hK => ?_) AllReadyH.nil
  go_simp
  clear hHeld
  refine hK.out _ _ ?UR1_15 (fun hHeld => ?_)
  case UR1_15 => (have hA3 := (h4.block w.heap.size (by omega)).trans hAz; exact ⟨vblk_cell (cells_put (cells_put (cells_put (cells_put (cells_put hA3 (by omega) _ _) (by omega) _ _) (by omega) _ _) (by omega) _ _) (by omega) _ _) 0, vblk_cell (cells_put (cells_put (cells_put (cells_put (cells_put hA3 (by omega) _ _) (by omega) _ _) (by omega) _ _) (by omega) _ _) (by omega) _ _) 1, vblk_cell (cells_put (cells_put (cells_put (cells_put (cells_put hA3 (by omega) _ _) (by omega) _ _) (by omega) _ _) (by omega) _ _) (by omega) _ _) 2, vblk_cell (cells_put (cells_put (cells_put (cells_put (cells_put hA3 (by omega) _ _) (by omega) _ _) (by omega) _ _) (by omega) _ _) (by omega) _ _) 3, vblk_cell (cells_put (cells_put (cells_put (cells_put (cells_put hA3 (by omega) _ _) (by omega) _ _) (by omega) _ _) (by omega) _ _) (by omega) _ _) 4⟩)
  clear hK K
  try simp only [Act.put, List.getElem_toArray, List.getElem_cons_zero, List.getElem_cons_succ, List.setIfInBounds_toArray, List.set_cons_zero, List.set_cons_succ]
  refine wpAnyH_done (by kernel_rfl) ?_ _
  have hs4 := h4.size
  have hs1 := h1.size
  have hs2 := h2.size
  have hs3 := h3.size
  have HO : Hid (∀ W : World, W.heap.size = w4.heap.size → Kp (fun b => b ≠ w.heap.size + 1) w4 W → Rec3 w.heap.size W.heap.size W (.slice q0 d.on.length k0) (.slice q1 d.ins.length k1) (.slice q2 d.envs.length k2) d) := fun W hWs hk => by
    have hsz0 : wz.heap.size = w.heap.size + 2 := hsz
    have j0 := owns_in o0
    have j1 := owns_in o1
    have j2 := owns_in o2
    have m3 := b3.size
    have m4 := b4.size
    have o0b := owns_of_belowN (owns_of_belowN o0 b3) b4
    have o1b := owns_of_belowN o1 b4
    have mk : ∀ {u : Value} {n lo' hi' : Nat} {ss : List ByteArray}, w4.ownsRow lo' 9 1 u ss.length (strsV ss) → (∀ g, u.ownBlock = some g → Ow lo' hi' g) → wz.heap.size ≤ lo' → hi' ≤ w4.heap.size → StrR w.heap.size W.heap.size W u ss := fun o j h1 h2 =>
      ⟨⟨owns_kept hk (fun g hg => by have := (j g hg).1; show g ≠ _; omega) (owns_lo (Nat.zero_le _) o), fun g hg => ⟨by have := (j g hg).1; omega, by have := (j g hg).2; omega⟩⟩, Nat.le_refl _⟩
    exact ⟨mk (n := 0) o0b j0 (by omega) (by omega), mk (n := 0) o1b j1 (by omega) (by omega), mk (n := 0) o2 j2 (by omega) (Nat.le_refl _), Ap.lo j0 j1 (by omega), Ap.lo j0 j2 (by omega), Ap.lo j1 j2 (by omega), HSN.out⟩
  clear HA HB HC HN KEEP o0 o1 o2 b1 b2 b3 b4 h0 h1 h2 h3 hAz hRz hHeld
  go_wp2_with fail
  refine bodyPost_ret (v := .agg #[.string d.task, .slice q0 d.on.length k0, .slice q1 d.ins.length k1, .slice q2 d.envs.length k2, .bool d.keep]) (by simp [results, Try.results75, go_sem, y0, y1, y2, y3, y4]) rfl ⟨_, _, _, rfl, HO.out _ (by simp [World.setCell]) ?_, ?_⟩
  · (repeat (refine Kp.trans ?_ (Kp.set (by simp))))
    exact fun b hb => rfl
  · (repeat (refine Below.setCell ?_ (by simp) _))
    exact hwz.trans (h4.mono (by omega))

set_option maxHeartbeats 2000000 in
set_option maxRecDepth 100000 in
theorem placeF_c (S : Nat → Prop) (d : RuleD) (cs : List Value) (t : ByteArray) (b : Nat) (w : World) (hd : shRule.lies S w cs d) (hc : w.cell? ⟨b, 0, none⟩ = some (.string t)) (hb : b < w.heap.size) :
    Calls Try.prog 107 #[.agg cs.toArray, .pointer (some ⟨b, 0, none⟩)] w fun e w' => e = .returned (.bool (isAt t d)) ∧ Below w.heap.size w w' := by
  obtain ⟨u0, u1, u2, rfl, s_task, r0, p0, r1, p1, r2, p2⟩ := hd
  have hal : (d.task.toList == t.toList) = isAt t d := text_alike d.task t
  have HB := vheap_new w (.cells #[.string d.task, u0, u1, u2, .bool d.keep] 52)
  obtain ⟨a0, c0, e0, _⟩ := id r0
  rw [length_strsV] at e0
  subst e0
  obtain ⟨a1, c1, e1, _⟩ := id r1
  rw [length_strsV] at e1
  subst e1
  obtain ⟨a2, c2, e2, _⟩ := id r2
  rw [length_strsV] at e2
  subst e2
  obtain ⟨r, hr⟩ : ∃ r, r = isAt t d := ⟨_, rfl⟩
  rw [← hr] at hal ⊢
  have kb : Below w.heap.size w (w.alloc (.cells #[.string d.task, .slice a0 d.on.length c0, .slice a1 d.ins.length c1, .slice a2 d.envs.length c2, .bool d.keep] 52 (0, 0))) := (Below.refl w.heap.size w).alloc (Nat.le_refl _) _
  have hc1 := (kb.cell (p := ⟨b, 0, none⟩) hb).trans hc
  clear r0 r1 r2 p0 p1 p2 s_task hr hc
  go_enter Try.func107, Try.ntmps107
  go_wp2_with fail
  obtain ⟨wz, hW⟩ : ∃ wz, wz = w.alloc (.cells #[.string d.task, .slice a0 d.on.length c0, .slice a1 d.ins.length c1, .slice a2 d.envs.length c2, .bool d.keep] 52 (0, 0)) := ⟨_, rfl⟩
  rw [← hW] at HB kb hc1
  rw [← hW]
  clear hW
  have h0 : Below wz.heap.size wz wz.drew := (Below.refl _ _).drew
  have hzb : w.heap.size < wz.heap.size := (Array.getElem?_eq_some_iff.1 HB).1
  have KEEP : Hid (∀ w1, Below wz.heap.size wz w1 → w1.cell? ⟨w.heap.size, 0, none⟩ = some (.string d.task) ∧ w1.cell? ⟨w.heap.size, 1, none⟩ = some (.slice a0 d.on.length c0) ∧ w1.cell? ⟨w.heap.size, 2, none⟩ = some (.slice a1 d.ins.length c1) ∧ w1.cell? ⟨w.heap.size, 3, none⟩ = some (.slice a2 d.envs.length c2) ∧ w1.cell? ⟨w.heap.size, 4, none⟩ = some (.bool d.keep) ∧ w1.cell? ⟨b, 0, none⟩ = some (.string t)) := fun w1 h => by
    have hA := (h.block w.heap.size hzb).trans HB
    exact ⟨vblk_cell hA 0, vblk_cell hA 1, vblk_cell hA 2, vblk_cell hA 3, vblk_cell hA 4, (h.cell (p := ⟨b, 0, none⟩) (by show b < _; omega)).trans hc1⟩
  refine wp_region_held_drew (S := (fun w1 => w1.cell? ⟨w.heap.size, 0, none⟩ = some (.string d.task) ∧ w1.cell? ⟨w.heap.size, 1, none⟩ = some (.slice a0 d.on.length c0) ∧ w1.cell? ⟨w.heap.size, 2, none⟩ = some (.slice a1 d.ins.length c1) ∧ w1.cell? ⟨w.heap.size, 3, none⟩ = some (.slice a2 d.envs.length c2) ∧ w1.cell? ⟨w.heap.size, 4, none⟩ = some (.bool d.keep) ∧ w1.cell? ⟨b, 0, none⟩ = some (.string t))) (by kernel_rfl) ?SR20 (fun hHeld => ?_)
  case SR20 => (first | (with_reducible exact KEEP.out _ h1) | (with_reducible exact KEEP.out _ h0))
  refine wpAnyH_take (i := 0) (oi := _) (v := ?vR20) rfl (by kernel_rfl) (by kernel_rfl) (by kernel_rfl) (fun _ _ _ h => h) (Or.inl ⟨by rfl, ?yR20⟩) hHeld ?_
  case yR20 => (intro w hSw; (try dsimp only at hSw); go_simp <;> with_reducible rfl)
  try simp only [Act.put, List.getElem_toArray, List.getElem_cons_zero, List.getElem_cons_succ, List.setIfInBounds_toArray, List.set_cons_zero, List.set_cons_succ]
  refine wpAnyH_take (i := 1) (oi := _) (v := ?vR21) rfl (by kernel_rfl) (by kernel_rfl) (by kernel_rfl) (fun _ _ _ h => h) (Or.inl ⟨by rfl, ?yR21⟩) hHeld ?_
  case yR21 => (intro w hSw; (try dsimp only at hSw); go_simp <;> with_reducible rfl)
  try simp only [Act.put, List.getElem_toArray, List.getElem_cons_zero, List.getElem_cons_succ, List.setIfInBounds_toArray, List.set_cons_zero, List.set_cons_succ]
  refine wpAnyH_take (i := 3) (oi := _) (v := ?vR22) rfl (by kernel_rfl) (by kernel_rfl) (by kernel_rfl) (fun _ _ _ h => h) (Or.inl ⟨by rfl, ?yR22⟩) hHeld ?_
  case yR22 => (intro w hSw; (try dsimp only at hSw); go_simp <;> with_reducible rfl)
  try simp only [Act.put, List.getElem_toArray, List.getElem_cons_zero, List.getElem_cons_succ, List.setIfInBounds_toArray, List.set_cons_zero, List.set_cons_succ]
  refine wpAnyH_ready (rs := [2]) (by kernel_rfl) (by simp) ?_
  refine AllReadyH.cons rfl (fun K hK => ?_) AllReadyH.nil
  go_simp
  go_wp2_with (go_at_call 174; refine (taskOf_c _ _ _ _ _ _).mono ?_; rintro e w1 ⟨rfl, b1⟩; have h1 : Below wz.heap.size wz w1 := h0.trans (b1.mono h0.size))
  clear hHeld
  refine hK.out _ _ ?SR24 (fun hHeld => ?_)
  case SR24 => ((try dsimp only); first | (with_reducible exact KEEP.out _ h1) | (with_reducible exact KEEP.out _ h0))
  clear hK K
  refine wpAnyH_take (i := 4) (oi := _) (v := ?vR24) rfl (by kernel_rfl) (by kernel_rfl) (by kernel_rfl) (fun _ _ _ h => h) (Or.inl ⟨by rfl, ?yR24⟩) hHeld ?_
  case yR24 => (intro w hSw; (try dsimp only at hSw); go_simp <;> with_reducible rfl)
  try simp only [Act.put, List.getElem_toArray, List.getElem_cons_zero, List.getElem_cons_succ, List.setIfInBounds_toArray, List.set_cons_zero, List.set_cons_succ]
  refine wpAnyH_take (i := 5) (oi := _) (v := ?vR25) rfl (by kernel_rfl) (by kernel_rfl) (by kernel_rfl) (fun _ _ _ h => h) (Or.inl ⟨by rfl, ?yR25⟩) hHeld ?_
  case yR25 => (intro w hSw; (try dsimp only at hSw); go_simp <;> with_reducible rfl)
  try simp only [Act.put, List.getElem_toArray, List.getElem_cons_zero, List.getElem_cons_succ, List.setIfInBounds_toArray, List.set_cons_zero, List.set_cons_succ]
  refine wpAnyH_done (by kernel_rfl) ?_ _
  have hE : Below w.heap.size w w1 := kb.trans (h1.mono kb.size)
  clear KEEP HB hc1 h0 h1 b1 hHeld
  go_wp2_with fail
  go_ret
  exact ⟨by first | rfl | (rw [hal]; rfl), hE⟩

set_option maxHeartbeats 2000000 in
set_option maxRecDepth 100000 in
theorem idxAt_c (t : ByteArray) (bp : Nat) (S : Nat → Prop) (v : Value) (xs : List RuleD) (w : World) (hv : RowIn shRule S w v xs) (hB : ∀ b, S b → b < w.heap.size) (hcp : w.cell? ⟨bp, 0, none⟩ = some (.string t)) (hbp : bp < w.heap.size) :
    Calls Try.prog 106 #[v, .func (.func 107) #[] #[.pointer (some ⟨bp, 0, none⟩)]] w fun e w' => e = .returned (.int .i64 (firstI (isAt t) xs)) ∧ Below w.heap.size w w' := by
  obtain ⟨a, cap, rfl, hl, hc, ha⟩ := hv
  unfold maxLen at hl
  obtain ⟨R, hR⟩ : ∃ R, R = firstI (isAt t) xs := ⟨_, rfl⟩
  rw [← hR]
  have HR := hidden hR
  clear hR
  go_enter Try.func106, Try.ntmps106
  go_wp2_with fail
  go_loopw [8] (fun vi wr => ∃ k : Nat, k ≤ xs.length ∧ vi = .int .i64 (k : Int) ∧ Hid (∀ j (hj : j < xs.length), j < k → isAt t xs[j] = false) ∧ Below w.heap.size w wr) (fun vi _ => xs.length - (intOf vi).toNat)
  case atStart => exact ⟨0, Nat.zero_le _, rfl, (fun j hj h => by omega), Below.refl _ _⟩
  case round =>
    obtain ⟨k, hk, rfl, hno, hbr⟩ := hrel
    by_cases hlt' : k < xs.length
    · rcases ha with rfl | ⟨b, off, rfl, hlt, ha⟩
      · simp at hlt'
      obtain ⟨cs, hL, hcell⟩ := ha k hlt'
      have hL2 := shRule.keep (.of hbr hB) hL
      have hcell2 := hcell.keep (.of hbr hB) hlt
      have hBr : ∀ b, S b → b < wr.heap.size := fun b h => Nat.lt_of_lt_of_le (hB b h) hbr.size
      have HT : Hid (isAt t xs[k] = true → R = (k : Int)) := fun h => HR.out.trans (firstI_here hlt' h hno.out)
      have HN : Hid (isAt t xs[k] = false → ∀ j (hj : j < xs.length), j < k + 1 → isAt t xs[j] = false) := fun h j hj hjk => by
        by_cases e : j = k
        · subst e; exact h
        · exact hno.out j hj (by omega)
      have HC : Calls Try.prog 107 #[.agg cs.toArray, .pointer (some ⟨bp, 0, none⟩)] wr fun e w' => e = .returned (.bool (isAt t xs[k])) ∧ Below wr.heap.size wr w' := placeF_c S xs[k] cs t bp wr hL2 (hbr.cell (by simpa using hbp) |>.trans hcp) (Nat.lt_of_lt_of_le hbp hbr.size)
      obtain ⟨d, hd⟩ : ∃ d, d = xs[k] := ⟨_, rfl⟩
      rw [← hd] at hL2 HT HN HC
      obtain ⟨r, hr⟩ : ∃ r, r = isAt t d := ⟨_, rfl⟩
      rw [← hr] at HT HN HC
      clear ha hL hcell hd hr hno
      obtain ⟨u0, u1, u2, rfl, s_task, r0, p0, r1, p1, r2, p2⟩ := hL2
      obtain ⟨a0, c0, e0, _⟩ := id r0
      rw [length_strsV] at e0
      subst e0
      obtain ⟨a1, c1, e1, _⟩ := id r1
      rw [length_strsV] at e1
      subst e1
      obtain ⟨a2, c2, e2, _⟩ := id r2
      rw [length_strsV] at e2
      subst e2
      have e0 : wr.cell? ⟨b, off + k * 5, none⟩ = some (.string d.task) := hcell2 0 (by simp)
      have e1 : wr.cell? ⟨b, off + k * 5 + 1, none⟩ = some (.slice a0 d.on.length c0) := hcell2 1 (by simp)
      have e2 : wr.cell? ⟨b, off + k * 5 + 2, none⟩ = some (.slice a1 d.ins.length c1) := hcell2 2 (by simp)
      have e3 : wr.cell? ⟨b, off + k * 5 + 3, none⟩ = some (.slice a2 d.envs.length c2) := hcell2 3 (by simp)
      have e4 : wr.cell? ⟨b, off + k * 5 + 4, none⟩ = some (.bool d.keep) := hcell2 4 (by simp)
      have HC2 := hidden HC
      have hki : (k : Int) < (xs.length : Int) := by omega
      clear hcell2 HC r0 r1 r2
      cases r with
      | true =>
        have HT2 := hidden (HT.out rfl)
        clear HT HN
        go_wp2_with (go_at_call 107; refine HC2.out.mono ?_; rintro e w1 ⟨rfl, b1⟩)
        go_ret
        exact ⟨by rw [HT2.out]; rfl, hbr.trans (b1.mono hbr.size)⟩
      | false =>
        have HN2 := hidden (HN.out rfl)
        clear HT HN
        go_wp2_with (go_at_call 107; refine HC2.out.mono ?_; rintro e w1 ⟨rfl, b1⟩)
        go_roundw
        case rel => exact ⟨k + 1, by omega, by go_num, HN2.out, hbr.trans (b1.mono hbr.size)⟩
        case measure => simp [intOf]; omega
    · have he : k = xs.length := by omega
      subst he
      have HE : Hid (R = -1) := HR.out.trans (firstI_none (fun j hj => hno.out j hj hj))
      clear ha hno HR
      go_wp2_with fail
      go_ret
      exact ⟨by rw [HE.out]; rfl, hbr⟩
set_option maxHeartbeats 2000000 in
set_option maxRecDepth 100000 in
theorem place_c (S : Nat → Prop) (v : Value) (xs : List RuleD) (t : ByteArray) (w : World) (hv : RowIn shRule S w v xs) (hB : ∀ b, S b → b < w.heap.size) :
    Calls Try.prog 73 #[v, .string t] w fun e w' => e = .returned (.int .i64 (firstI (isAt t) xs)) ∧ Below w.heap.size w w' := by
  have hmf : ∀ (fn : Fn) (first cap : Array Value) (w : World), (Instr.makeFunc fn first cap).run Try.prog w = .ok (.func fn first cap) w := fun _ _ _ _ => rfl
  have hbx : ∀ o, Below w.heap.size w (w.alloc o) := fun o => (Below.refl _ _).alloc (Nat.le_refl _) _
  have HI : Hid (∀ T, Calls Try.prog 106 #[v, .func (.func 107) #[] #[.pointer (some ⟨w.heap.size, 0, none⟩)]] (w.alloc (.cells #[.string t] T)) fun e w' => e = .returned (.int .i64 (firstI (isAt t) xs)) ∧ Below (w.alloc (.cells #[.string t] T)).heap.size (w.alloc (.cells #[.string t] T)) w') := fun T =>
    idxAt_c t w.heap.size S v xs _ (hv.keep (.of (hbx _) hB)) (fun b hb => Nat.lt_of_lt_of_le (hB b hb) (hbx _).size) ((vblk_cell (vheap_new w (.cells #[.string t] T)) 0).trans rfl) (by simp)
  obtain ⟨R, hR⟩ : ∃ R, R = firstI (isAt t) xs := ⟨_, rfl⟩
  rw [← hR] at HI ⊢
  obtain ⟨a, cap, rfl⟩ := hv.slice
  clear hv hR
  go_enter Try.func73, Try.ntmps73
  go_wp2_with fail
  go_at_call 106
  refine (HI.out _).mono ?_
  rintro e w1 ⟨rfl, b1⟩
  go_wp2_with fail
  go_ret
  exact ⟨rfl, (hbx _).trans (b1.mono (hbx _).size)⟩

set_option maxHeartbeats 8000000 in
set_option maxRecDepth 100000 in
theorem implAt_c (S : Nat → Prop) (v : Value) (xs : List RuleD) (t : ByteArray) (w : World) (hv : RowIn shRule S w v xs) (hB : ∀ b, S b → b < w.heap.size) (hw : wtRow wtRule xs ≤ 1048576) (ht : t.size ≤ 1048576) :
    Calls Try.prog 34 #[v, .string t] w fun e w' => ∃ u0 u1 u2, e = .returned (.tuple #[.agg #[.string (atR xs t).task, u0, u1, u2, .bool (atR xs t).keep], .bool (atOk xs t)]) ∧ Rec3 w.heap.size w'.heap.size w' u0 u1 u2 (atR xs t) ∧ Below w.heap.size w w' := by
  have hbx : Below w.heap.size w (w.alloc (.cells #[.string ⟨#[]⟩, .slice none 0 0, .slice none 0 0, .slice none 0 0, .bool false] 52 (0, 0))) := (Below.refl _ _).alloc (Nat.le_refl _) _
  have hbz : (w.alloc (.cells #[.string ⟨#[]⟩, .slice none 0 0, .slice none 0 0, .slice none 0 0, .bool false] 52 (0, 0))).heap[w.heap.size]? = some (.cells #[.string ⟨#[]⟩, .slice none 0 0, .slice none 0 0, .slice none 0 0, .bool false] 52 (0, 0)) := vheap_new _ _
  have HP : Hid (∀ w1, Below w.heap.size w w1 → Calls Try.prog 73 #[v, .string t] w1 fun e w' => e = .returned (.int .i64 (firstI (isAt t) xs)) ∧ Below w1.heap.size w1 w') := fun w1 h => place_c S v xs t w1 (hv.keep (.of h hB)) (fun b hb => Nat.lt_of_lt_of_le (hB b hb) h.size)
  rcases firstI_find xs t with ⟨hf, he⟩ | ⟨k, hk, hf, he⟩
  · rw [hf] at HP
    have e1 : atR xs t = ⟨t, [], [], [], false⟩ := by unfold atR; rw [he]; rfl
    have e2 : atOk xs t = false := by unfold atOk; rw [he]; rfl
    rw [e1, e2]
    have HCL := hidden (fun w1 => clone_c t w1 ht)
    obtain ⟨a, cap, rfl⟩ := hv.slice
    have htm : t.size ≤ maxLen := by unfold maxLen; omega
    clear hv hf he e1 e2
    go_enter Try.func34, Try.ntmps34
    go_wp2_with fail
    go_at_call 73
    refine (HP.out _ hbx).mono ?_
    rintro e w1 ⟨rfl, b1⟩
    have k1 := hbx.trans (b1.mono hbx.size)
    have hR1 := box_below hbz b1
    clear hbz b1
    go_wp2_with fail
    go_at_call 74
    refine (HCL.out _).mono ?_
    rintro e w2 ⟨rfl, b2⟩
    have k2 := k1.trans (b2.mono k1.size)
    have hR2 := box_below hR1 b2
    have fy := vblk_frozen hR2
    have y0 := vblk_cell hR2 0
    have y1 := vblk_cell hR2 1
    have y2 := vblk_cell hR2 2
    have y3 := vblk_cell hR2 3
    have y4 := vblk_cell hR2 4
    simp only [List.getElem?_toArray, List.getElem?_cons_succ, List.getElem?_cons_zero] at y0 y1 y2 y3 y4
    clear hR1 hR2 b2 HP HCL
    go_wp2_with fail
    refine bodyPost_ret (v := .tuple #[.agg #[.string t, .slice none 0 0, .slice none 0 0, .slice none 0 0, .bool false], .bool false]) (by simp [results, Try.results34, go_sem, y0, y1, y2, y3, y4]) rfl ⟨_, _, _, rfl, rec3_nil htm, ?_⟩
    (repeat (refine Below.setCell ?_ (by simp) _))
    exact k2
  · rw [hf] at HP
    have e1 : atR xs t = xs[k] := by unfold atR; rw [he]; rfl
    have e2 : atOk xs t = true := by unfold atOk; rw [he]; rfl
    rw [e1, e2]
    have hwd : wtRule xs[k] ≤ 1048576 := by have := wt_wtRow wtRule (List.getElem_mem hk); omega
    obtain ⟨a, cap, rfl, hl, hcc, ha⟩ := hv
    unfold maxLen at hl
    rcases ha with rfl | ⟨b, off, rfl, hlt, ha⟩
    · simp at hk
    obtain ⟨cs, hL, hcell⟩ := ha k hk
    have HC : Hid (∀ w1, Below w.heap.size w w1 → Calls Try.prog 75 #[.agg cs.toArray] w1 fun e w' => ∃ u0 u1 u2, e = .returned (.agg #[.string xs[k].task, u0, u1, u2, .bool xs[k].keep]) ∧ Rec3 w1.heap.size w'.heap.size w' u0 u1 u2 xs[k] ∧ Below w1.heap.size w1 w') := fun w1 h => copyRule_c S xs[k] cs w1 (shRule.keep (.of h hB) hL) (fun b hb => Nat.lt_of_lt_of_le (hB b hb) h.size) hwd
    obtain ⟨d, hd⟩ : ∃ d, d = xs[k] := ⟨_, rfl⟩
    rw [← hd] at hL HC ⊢
    obtain ⟨u0, u1, u2, rfl, s_task, r0, p0, r1, p1, r2, p2⟩ := hL
    obtain ⟨a0, c0, e0, _⟩ := id r0
    rw [length_strsV] at e0
    subst e0
    obtain ⟨a1, c1, e1, _⟩ := id r1
    rw [length_strsV] at e1
    subst e1
    obtain ⟨a2, c2, e2, _⟩ := id r2
    rw [length_strsV] at e2
    subst e2
    have HCELL : Hid (∀ w1, Below w.heap.size w w1 → w1.cell? ⟨b, off + k * 5, none⟩ = some (.string d.task) ∧ w1.cell? ⟨b, off + k * 5 + 1, none⟩ = some (.slice a0 d.on.length c0) ∧ w1.cell? ⟨b, off + k * 5 + 2, none⟩ = some (.slice a1 d.ins.length c1) ∧ w1.cell? ⟨b, off + k * 5 + 3, none⟩ = some (.slice a2 d.envs.length c2) ∧ w1.cell? ⟨b, off + k * 5 + 4, none⟩ = some (.bool d.keep)) := fun w1 h => by
      have hc2 := hcell.keep (.of h hB) hlt
      exact ⟨hc2 0 (by simp), hc2 1 (by simp), hc2 2 (by simp), hc2 3 (by simp), hc2 4 (by simp)⟩
    have hki : (k : Int) < (xs.length : Int) := by omega
    have hk0 : ¬ (k : Int) < 0 := by omega
    clear ha hcell hf he e1 e2 hd s_task r0 p0 r1 p1 r2 p2 hwd
    go_enter Try.func34, Try.ntmps34
    go_wp2_with fail
    go_at_call 73
    refine (HP.out _ hbx).mono ?_
    rintro e w1 ⟨rfl, b1⟩
    have k1 := hbx.trans (b1.mono hbx.size)
    have hR1 := box_below hbz b1
    obtain ⟨z0, z1, z2, z3, z4⟩ := HCELL.out _ k1
    clear hbz b1 HP HCELL
    go_wp2_with fail
    go_at_call 75
    refine (HC.out _ k1).mono ?_
    rintro e w2 ⟨v0, v1, v2, rfl, R3, b2⟩
    have k2 := k1.trans (b2.mono k1.size)
    have hR2 := box_below hR1 b2
    have fy := vblk_frozen hR2
    have y0 := vblk_cell hR2 0
    have y1 := vblk_cell hR2 1
    have y2 := vblk_cell hR2 2
    have y3 := vblk_cell hR2 3
    have y4 := vblk_cell hR2 4
    simp only [List.getElem?_toArray, List.getElem?_cons_succ, List.getElem?_cons_zero] at y0 y1 y2 y3 y4
    have HR3 := hidden R3
    have hm1 : w.heap.size + 1 ≤ w1.heap.size := (Array.getElem?_eq_some_iff.1 hR1).1
    obtain ⟨g0, j0, g1, j1, g2, j2, ev0, ev1, ev2⟩ := R3.slices
    have HO : Hid (∀ W : World, W.heap.size = w2.heap.size → Kp (fun b => b ≠ w.heap.size) w2 W → Rec3 w.heap.size W.heap.size W v0 v1 v2 d) := fun W hWs hk2 => by
      have mk : ∀ {u : Value} {ss : List ByteArray}, StrR w1.heap.size w2.heap.size w2 u ss → StrR w.heap.size W.heap.size W u ss := fun {u ss} o =>
        ⟨⟨owns_kept hk2 (fun g hg => by have := (o.1.2 g hg).1; show g ≠ _; omega) o.1.1, fun g hg => ⟨by have := (o.1.2 g hg).1; omega, by have := (o.1.2 g hg).2; omega⟩⟩, Nat.le_refl _⟩
      exact ⟨mk HR3.out.a0, mk HR3.out.a1, mk HR3.out.a2, HR3.out.s01, HR3.out.s02, HR3.out.s12, HR3.out.sn⟩
    subst ev0 ev1 ev2
    clear hR1 hR2 b2 HC z0 z1 z2 z3 z4 R3 HR3
    go_wp2_with fail
    refine bodyPost_ret (v := .tuple #[.agg #[.string d.task, .slice g0 d.on.length j0, .slice g1 d.ins.length j1, .slice g2 d.envs.length j2, .bool d.keep], .bool true]) (by simp [results, Try.results34, go_sem, y0, y1, y2, y3, y4]) rfl ⟨_, _, _, rfl, HO.out _ (by simp [World.setCell]) ?_, ?_⟩
    · (repeat (refine Kp.trans ?_ (Kp.set (by simp))))
      exact fun b hb => rfl
    · (repeat (refine Below.setCell ?_ (by simp) _))
      exact k2
end Go.Proofs.Ytiadcebolcdhbaa

/-! Where the list lies that an append to a list of the call's own hands on, and an append of a list that may be nil; conditions as the library's law asks them. -/
namespace Go.Proofs.Ytiadcebolcdhbaa
open Go.RowKit
set_option linter.unusedSimpArgs false
set_option linter.unusedVariables false

theorem append_blkL {P : Program} (w : World) (base : Nat) (t ty e : TypeId) (i : TypeInfo) (z : Value) (size bytes : Nat) (ht : P.underlying t = some (.slice e)) (hi : P.info? e = some i) (hz : i.zero = some z)
    (hsize : i.size = size) (hby : i.bytes = bytes) (hzs : z.cells.size = size) (hsz : 0 < size)
    (g n cap : Nat) (xs : List Value) (hown : w.ownsRow base e size (.slice (some ⟨g, 0, none⟩) n cap) n xs)
    (a : Addr) (m c : Nat) (news : List Value) (hl : news.length = m * size) (hnews : ∀ j u, news[j]? = some u → w.cell? (a.add j) = some u) (h1 : ∀ u ∈ news, u.oneCell' = true)
    (h63 : n + m ≤ maxLen) (hbytes : (n + m) * bytes ≤ 140737488355328) (v' : Value) (w' : World)
    (hr : (Builtin.append_ #[t, t] ty #[.slice (some ⟨g, 0, none⟩) n cap, .slice (some a) m c]).run P w = .ok v' w') : v'.ownBlock = some g ∨ v'.ownBlock = some w.heap.size := by
  subst hsize
  subst hby
  have hsmall : n + m ≤ 9223372036854775807 := by simp only [maxLen] at h63; omega
  rcases id hown.2 with ⟨h, _⟩ | ⟨g', cap', cur, hv, hbg, hg, hnc, hcm, hcs, htake⟩
  · cases h
  · injection hv with e1 e2 e3
    obtain rfl : g = g' := by injection Option.some.inj e1
    subst e3
    by_cases hroom : n + m ≤ cap
    · have hfit : n * i.size + news.length ≤ cur.size := by rw [hl, hcs, ← Nat.add_mul]; exact Nat.mul_le_mul_right _ hroom
      have h := run_append_room (P := P) w t ty e i ht hi g n cap cur hg a m c news hl hnews h1 hroom hfit
      rw [hr] at h
      obtain ⟨rfl, _⟩ := (Result.ok.injEq ..).mp h
      exact .inl rfl
    · have h := run_append_grow (P := P) w t ty e i z ht hi hz ⟨g, 0, none⟩ n cap xs hown.1 (hown.cells (g := g) rfl) a m c news hl hnews (by omega) (by omega) (growslice_fits (by omega) hbytes)
      rw [hr] at h
      obtain ⟨rfl, _⟩ := (Result.ok.injEq ..).mp h
      exact .inr rfl
theorem addr_addZL (g j : Nat) : (⟨g, 0, none⟩ : Addr).add j = ⟨g, j, none⟩ := by unfold Addr.add; split <;> simp_all
/-- An append, told with where the new row lies: where the old one was, or in a new block. -/
theorem append_locL {P : Program} (w : World) (base : Nat) (t ty e : TypeId) (i : TypeInfo) (z : Value) (size bytes : Nat) (ht : P.underlying t = some (.slice e)) (hi : P.info? e = some i) (hz : i.zero = some z)
    (hsize : i.size = size) (hby : i.bytes = bytes) (hzs : z.cells.size = size) (hsz : 0 < size) (v : Value) (n : Nat) (xs : List Value) (hown : w.ownsRow base e size v n xs)
    (a : Addr) (m c : Nat) (news : List Value) (hl : news.length = m * size) (hnews : ∀ j u, news[j]? = some u → w.cell? (a.add j) = some u) (h1 : ∀ u ∈ news, u.oneCell' = true)
    (h63 : n + m ≤ maxLen) (hbytes : (n + m) * bytes ≤ 140737488355328) (v' : Value) (w' : World)
    (hr : (Builtin.append_ #[t, t] ty #[v, .slice (some a) m c]).run P w = .ok v' w') : ∀ g, v'.ownBlock = some g → v.ownBlock = some g ∨ w.heap.size ≤ g := by
  intro g hg
  rcases id hown.2 with ⟨rfl, rfl⟩ | ⟨g', cap', cur, rfl, _⟩
  · have hx : xs = [] := List.eq_nil_of_length_eq_zero (by rw [hown.1]; omega)
    subst hx
    obtain ⟨v2, w2, hr2, ho2, _, _⟩ := run_append_own (P := P) w w.heap.size t ty e i z size bytes ht hi hz hsize hby hzs hsz _ 0 [] (World.ownsRow_nil w _ e size) a m c news hl hnews h1 h63 hbytes (Nat.le_refl _)
    rw [hr] at hr2
    obtain ⟨rfl, rfl⟩ := (Result.ok.injEq ..).mp hr2
    exact .inr (ho2.lt g hg).1
  · rcases append_blkL w base t ty e i z size bytes ht hi hz hsize hby hzs hsz g' n cap' xs hown a m c news hl hnews h1 h63 hbytes v' w' hr with h | h
    · rw [h] at hg; exact .inl (by rw [← hg]; rfl)
    · rw [h] at hg; exact .inr (by have := Option.some.inj hg; omega)
/-- The same, at an operation that comes up. -/
theorem wp_append_locL {P : Program} {w : World} {o : Oper} {a : Act} {K : Act → World → Prop} {Q : Exit → Act → World → Prop} (s x : Operand) (t : TypeId)
    (ho : o.op = .call { callee := .builtin .append, args := #[s, x], argTypes := #[t, t] })
    (base : Nat) (e : TypeId) (i : TypeInfo) (z : Value) (size bytes : Nat) (ht : P.underlying t = some (.slice e)) (hi : P.info? e = some i) (hz : i.zero = some z)
    (hsize : i.size = size) (hby : i.bytes = bytes) (hzs : z.cells.size = size) (hsz : 0 < size)
    (v : Value) (n : Nat) (xs : List Value) (hs : a.eval s = v) (hown : w.ownsRow base e size v n xs)
    (ad : Addr) (m c : Nat) (news : List Value) (hx : a.eval x = .slice (some ad) m c) (hl : news.length = m * size) (hnews : ∀ j u, news[j]? = some u → w.cell? (ad.add j) = some u) (h1 : ∀ u ∈ news, u.oneCell' = true)
    (h63 : n + m ≤ maxLen) (hbytes : (n + m) * bytes ≤ 140737488355328) (hbase : base ≤ w.heap.size)
    (h : ∀ v' w', w'.ownsRow base e size v' (n + m) (xs ++ news) → w.grownBy w' v.ownBlock → (∀ g, v'.ownBlock = some g → v.ownBlock = some g ∨ w.heap.size ≤ g) → K (a.put o.dst v') w') : o.wp P a w K Q := by
  obtain ⟨v', w', hr, h2, h3, _⟩ := run_append_own (P := P) w base t o.type e i z size bytes ht hi hz hsize hby hzs hsz v n xs hown ad m c news hl hnews h1 h63 hbytes hbase
  have h4 := append_locL w base t o.type e i z size bytes ht hi hz hsize hby hzs hsz v n xs hown ad m c news hl hnews h1 h63 hbytes v' w' hr
  unfold Oper.wp execOp
  simp only [ho, resolve, invoke, builtin, Sem.run_bind, Sem.run_pure, Result.andThen_ok, List.map_toArray, List.map_cons, List.map_nil, hs, hx, hr]
  exact h v' w' h2 h3 h4

/-- An append of a row that may be nil, told with where the new row lies. -/
theorem wp_append_srcL {P : Program} {w : World} {o : Oper} {a : Act} {K : Act → World → Prop} {Q : Exit → Act → World → Prop} (s x : Operand) (t : TypeId)
    (ho : o.op = .call { callee := .builtin .append, args := #[s, x], argTypes := #[t, t] })
    (base : Nat) (e : TypeId) (i : TypeInfo) (z : Value) (size bytes : Nat) (ht : P.underlying t = some (.slice e)) (hi : P.info? e = some i) (hz : i.zero = some z)
    (hsize : i.size = size) (hby : i.bytes = bytes) (hzs : z.cells.size = size) (hsz : 0 < size)
    (v : Value) (n : Nat) (xs : List Value) (hs : a.eval s = v) (hown : w.ownsRow base e size v n xs)
    (u : Value) (m lo : Nat) (news : List Value) (hx : a.eval x = u) (hsrc : w.ownsRow lo e size u m news) (h1 : ∀ u ∈ news, u.oneCell' = true)
    (h63 : n + m ≤ maxLen) (hbytes : (n + m) * bytes ≤ 140737488355328) (hbase : base ≤ w.heap.size)
    (h : ∀ v' w', w'.ownsRow base e size v' (n + m) (xs ++ news) → w.grownBy w' v.ownBlock → (∀ g, v'.ownBlock = some g → v.ownBlock = some g ∨ w.heap.size ≤ g) → K (a.put o.dst v') w') : o.wp P a w K Q := by
  rcases id hsrc.2 with ⟨rfl, rfl⟩ | ⟨gs, caps, cur, rfl, hgl, hgb, hcap, hmax, _⟩
  · have hn : news = [] := List.eq_nil_of_length_eq_zero (by rw [hsrc.1]; omega)
    subst hn
    have hrun := run_append_owned_none (P := P) (w := w) base t o.type e i size ht hi _ n xs hown
    unfold Oper.wp
    simp [execOp, ho, resolve, invoke, builtin, hs, hx, hrun, Result.andThen]
    refine h _ w ?_ (World.grownBy.refl _ _) (fun g hg => .inl hg)
    rw [Nat.add_zero, List.append_nil]
    exact hown
  · refine wp_append_locL s x t ho base e i z size bytes ht hi hz hsize hby hzs hsz v n xs hs hown ⟨gs, 0, none⟩ m caps news hx hsrc.1 (fun j u hu => ?_) h1 h63 hbytes hbase h
    rw [addr_addZL, hsrc.cellAt j (by rw [← hsrc.1]; exact (List.getElem?_eq_some_iff.1 hu).1)]
    exact hu
end Go.Proofs.Ytiadcebolcdhbaa

/-! The rule of a task, as the specification finds it, and its copy: contracts for the walks; conditions: the rules lie in memory, and hold at most 2 to the 20. -/
namespace Go.Proofs.Ytiadcebolcdhbaa
open Go.RowKit
set_option linter.unusedSimpArgs false
set_option linter.unusedVariables false

theorem wpAny_atL {P : Program} {md : Region.Mode} {ops : Array Oper} {Q : Exit → Act → World → Prop} {S : World → Prop} {f f' : Nat} {l l' : Array Bool} {a : Act} {w : World} (h : wpAnyH P md ops Q S f' l' a w) (hf : f' = f) (hl : l' = l) : wpAnyH P md ops Q S f l a w := by
  subst hf; subst hl; exact h
theorem as_phiL {P : Program} {md : Region.Mode} {ops : Array Oper} {Q : Exit → Act → World → Prop} {S : World → Prop} {f : Nat} {l : Array Bool} {a : Act} {w : World} (h : ∀ Φ, Φ = wpAnyH P md ops Q S → wpAnyH P md ops Q S f l a w) : wpAnyH P md ops Q S f l a w := h _ rfl
theorem Ap.fresh {w : World} {lo sz n k c : Nat} {e : TypeId} {v : Value} {xs : List Value} (h : w.ownsRow lo e sz v n xs) : Ap (.slice (some ⟨w.heap.size, 0, none⟩) k c) v := fun g hg he => by
  simp [Value.ownBlock] at hg
  have := (owns_in h g he).2
  omega
theorem Ap.app {u v v' : Value} {N : Nat} (h : Ap v u) (l : ∀ g, v'.ownBlock = some g → v.ownBlock = some g ∨ N ≤ g) (hu : ∀ g, u.ownBlock = some g → g < N) : Ap v' u := fun g hg he => by
  rcases l g hg with h1 | h1
  · exact h g h1 he
  · have := hu g he; omega
theorem strs_oneL {ss : List ByteArray} : ∀ u ∈ strsV ss, u.oneCell' = true := fun u hu => by
  simp only [strsV, List.mem_map] at hu
  obtain ⟨s, _, rfl⟩ := hu
  rfl

set_option maxHeartbeats 16000000 in
set_option maxRecDepth 100000 in
theorem specCopy_c (S : Nat → Prop) (d : RuleD) (cs : List Value) (w : World) (hd : shRuleO.lies S w cs d) (hB : ∀ b, S b → b < w.heap.size) (hw : wtRule d ≤ 1048576) :
    Calls Try.prog 72 #[.agg cs.toArray] w fun e w' => ∃ u0 u1 u2, e = .returned (.agg #[.string d.task, u0, u1, u2, .bool d.keep]) ∧ Rec3 w.heap.size w'.heap.size w' u0 u1 u2 d ∧ Below w.heap.size w w' := by
  obtain ⟨i0, hi, hz0, hz1, hz2⟩ := info_parts infoS
  obtain ⟨hl0, hl1, hl2⟩ := lens_wt hw
  obtain ⟨u0, u1, u2, rfl, s_task, r0, p0, r1, p1, r2, p2⟩ := hd
  have hb2 : ∀ A R, Below w.heap.size w ((w.alloc A).alloc R) := fun A R => ((Below.refl _ _).alloc (Nat.le_refl _) _).alloc (by simp) _
  have SR0' : ∀ W, Below w.heap.size w W → W.ownsRow 0 9 1 u0 d.on.length (strsV d.on) := fun W h => owns_of_belowN r0.1 h
  have SR1' : ∀ W, Below w.heap.size w W → W.ownsRow 0 9 1 u1 d.ins.length (strsV d.ins) := fun W h => owns_of_belowN r1.1 h
  have SR2' : ∀ W, Below w.heap.size w W → W.ownsRow 0 9 1 u2 d.envs.length (strsV d.envs) := fun W h => owns_of_belowN r2.1 h
  obtain ⟨a0, c0, e0⟩ := r0.slice
  obtain ⟨a1, c1, e1⟩ := r1.slice
  obtain ⟨a2, c2, e2⟩ := r2.slice
  subst e0 e1 e2
  have HSN := hidden (And.intro s_task (And.intro p0 (And.intro p1 p2)))
  obtain ⟨hAz, hRz⟩ := two_boxes (w := w) (.cells #[.string d.task, .slice a0 d.on.length c0, .slice a1 d.ins.length c1, .slice a2 d.envs.length c2, .bool d.keep] 52 (0, 0)) (.cells #[.string ⟨#[]⟩, .slice none 0 0, .slice none 0 0, .slice none 0 0, .bool false] 52 (0, 0))
  have hwz := hb2 (.cells #[.string d.task, .slice a0 d.on.length c0, .slice a1 d.ins.length c1, .slice a2 d.envs.length c2, .bool d.keep] 52 (0, 0)) (.cells #[.string ⟨#[]⟩, .slice none 0 0, .slice none 0 0, .slice none 0 0, .bool false] 52 (0, 0))
  have hsz : ((w.alloc (.cells #[.string d.task, .slice a0 d.on.length c0, .slice a1 d.ins.length c1, .slice a2 d.envs.length c2, .bool d.keep] 52 (0, 0))).alloc (.cells #[.string ⟨#[]⟩, .slice none 0 0, .slice none 0 0, .slice none 0 0, .bool false] 52 (0, 0))).heap.size = w.heap.size + 2 := by simp
  clear r0 r1 r2 s_task p0 p1 p2 hw hb2
  go_enter Try.func72, Try.ntmps72
  go_wp2_with fail
  obtain ⟨wz, hW⟩ : ∃ wz, wz = (w.alloc (.cells #[.string d.task, .slice a0 d.on.length c0, .slice a1 d.ins.length c1, .slice a2 d.envs.length c2, .bool d.keep] 52 (0, 0))).alloc (.cells #[.string ⟨#[]⟩, .slice none 0 0, .slice none 0 0, .slice none 0 0, .bool false] 52 (0, 0)) := ⟨_, rfl⟩
  rw [← hW] at hAz hRz hwz hsz
  rw [← hW]
  clear hW
  have SR0 := hidden (fun W (h : Below wz.heap.size wz W) => SR0' W (hwz.trans (h.mono (by omega))))
  have SR1 := hidden (fun W (h : Below wz.heap.size wz W) => SR1' W (hwz.trans (h.mono (by omega))))
  have SR2 := hidden (fun W (h : Below wz.heap.size wz W) => SR2' W (hwz.trans (h.mono (by omega))))
  have hd0 : Below wz.heap.size wz wz.drew := (Below.refl _ _).drew
  have KEEP : Hid (∀ w1, Below wz.heap.size wz w1 → w1.cell? ⟨w.heap.size, 0, none⟩ = some (.string d.task) ∧ w1.cell? ⟨w.heap.size, 1, none⟩ = some (.slice a0 d.on.length c0) ∧ w1.cell? ⟨w.heap.size, 2, none⟩ = some (.slice a1 d.ins.length c1) ∧ w1.cell? ⟨w.heap.size, 3, none⟩ = some (.slice a2 d.envs.length c2) ∧ w1.cell? ⟨w.heap.size, 4, none⟩ = some (.bool d.keep)) := fun w1 h => by
    have hA := (h.block w.heap.size (by omega)).trans hAz
    exact ⟨vblk_cell hA 0, vblk_cell hA 1, vblk_cell hA 2, vblk_cell hA 3, vblk_cell hA 4⟩
  clear SR0' SR1' SR2'
  refine wp_region_held_drew (S := (fun w1 => w1.cell? ⟨w.heap.size, 0, none⟩ = some (.string d.task) ∧ w1.cell? ⟨w.heap.size, 1, none⟩ = some (.slice a0 d.on.length c0) ∧ w1.cell? ⟨w.heap.size, 2, none⟩ = some (.slice a1 d.ins.length c1) ∧ w1.cell? ⟨w.heap.size, 3, none⟩ = some (.slice a2 d.envs.length c2) ∧ w1.cell? ⟨w.heap.size, 4, none⟩ = some (.bool d.keep))) (by kernel_rfl) ?SZ0 (fun hHeld => ?_)
  case SZ0 => (exact KEEP.out _ hd0)
  refine wpAnyH_take (i := 0) (oi := _) (v := ?vT1) rfl (by kernel_rfl) (by kernel_rfl) (by kernel_rfl) (fun _ _ _ h => h) (Or.inl ⟨by rfl, ?yT1⟩) hHeld ?_
  case yT1 => (intro w hSw; (try dsimp only at hSw); go_simp <;> with_reducible rfl)
  try simp only [Act.put, List.getElem_toArray, List.getElem_cons_zero, List.getElem_cons_succ, List.setIfInBounds_toArray, List.set_cons_zero, List.set_cons_succ]
  refine wpAnyH_take (i := 1) (oi := _) (v := ?vT2) rfl (by kernel_rfl) (by kernel_rfl) (by kernel_rfl) (fun _ _ _ h => h) (Or.inl ⟨by rfl, ?yT2⟩) hHeld ?_
  case yT2 => (intro w hSw; (try dsimp only at hSw); go_simp <;> with_reducible rfl)
  try simp only [Act.put, List.getElem_toArray, List.getElem_cons_zero, List.getElem_cons_succ, List.setIfInBounds_toArray, List.set_cons_zero, List.set_cons_succ]
  refine wpAnyH_take (i := 3) (oi := _) (v := ?vT3) rfl (by kernel_rfl) (by kernel_rfl) (by kernel_rfl) (fun _ _ _ h => h) (Or.inl ⟨by rfl, ?yT3⟩) hHeld ?_
  case yT3 => (intro w hSw; (try dsimp only at hSw); go_simp <;> with_reducible rfl)
  try simp only [Act.put, List.getElem_toArray, List.getElem_cons_zero, List.getElem_cons_succ, List.setIfInBounds_toArray, List.set_cons_zero, List.set_cons_succ]
  refine wpAnyH_take (i := 4) (oi := _) (v := ?vT4) rfl (by kernel_rfl) (by kernel_rfl) (by kernel_rfl) (fun _ _ _ h => h) (Or.inl ⟨by rfl, ?yT4⟩) hHeld ?_
  case yT4 => (intro w hSw; (try dsimp only at hSw); go_simp <;> with_reducible rfl)
  try simp only [Act.put, List.getElem_toArray, List.getElem_cons_zero, List.getElem_cons_succ, List.setIfInBounds_toArray, List.set_cons_zero, List.set_cons_succ]
  refine wpAnyH_take (i := 7) (oi := _) (v := ?vT5) rfl (by kernel_rfl) (by kernel_rfl) (by kernel_rfl) (fun _ _ _ h => h) (Or.inl ⟨by rfl, ?yT5⟩) hHeld ?_
  case yT5 => (intro w hSw; (try dsimp only at hSw); go_simp <;> with_reducible rfl)
  try simp only [Act.put, List.getElem_toArray, List.getElem_cons_zero, List.getElem_cons_succ, List.setIfInBounds_toArray, List.set_cons_zero, List.set_cons_succ]
  refine wpAnyH_take (i := 8) (oi := _) (v := ?vT6) rfl (by kernel_rfl) (by kernel_rfl) (by kernel_rfl) (fun _ _ _ h => h) (Or.inl ⟨by rfl, ?yT6⟩) hHeld ?_
  case yT6 => (intro w hSw; (try dsimp only at hSw); go_simp <;> with_reducible rfl)
  try simp only [Act.put, List.getElem_toArray, List.getElem_cons_zero, List.getElem_cons_succ, List.setIfInBounds_toArray, List.set_cons_zero, List.set_cons_succ]
  refine wpAnyH_take (i := 11) (oi := _) (v := ?vT7) rfl (by kernel_rfl) (by kernel_rfl) (by kernel_rfl) (fun _ _ _ h => h) (Or.inl ⟨by rfl, ?yT7⟩) hHeld ?_
  case yT7 => (intro w hSw; (try dsimp only at hSw); go_simp <;> with_reducible rfl)
  try simp only [Act.put, List.getElem_toArray, List.getElem_cons_zero, List.getElem_cons_succ, List.setIfInBounds_toArray, List.set_cons_zero, List.set_cons_succ]
  refine wpAnyH_take (i := 12) (oi := _) (v := ?vT8) rfl (by kernel_rfl) (by kernel_rfl) (by kernel_rfl) (fun _ _ _ h => h) (Or.inl ⟨by rfl, ?yT8⟩) hHeld ?_
  case yT8 => (intro w hSw; (try dsimp only at hSw); go_simp <;> with_reducible rfl)
  try simp only [Act.put, List.getElem_toArray, List.getElem_cons_zero, List.getElem_cons_succ, List.setIfInBounds_toArray, List.set_cons_zero, List.set_cons_succ]
  refine wpAnyH_take (i := 14) (oi := _) (v := ?vT9) rfl (by kernel_rfl) (by kernel_rfl) (by kernel_rfl) (fun _ _ _ h => h) (Or.inl ⟨by rfl, ?yT9⟩) hHeld ?_
  case yT9 => (intro w hSw; (try dsimp only at hSw); go_simp <;> with_reducible rfl)
  try simp only [Act.put, List.getElem_toArray, List.getElem_cons_zero, List.getElem_cons_succ, List.setIfInBounds_toArray, List.set_cons_zero, List.set_cons_succ]
  refine wpAnyH_take (i := 15) (oi := _) (v := ?vT10) rfl (by kernel_rfl) (by kernel_rfl) (by kernel_rfl) (fun _ _ _ h => h) (Or.inl ⟨by rfl, ?yT10⟩) hHeld ?_
  case yT10 => (intro w hSw; (try dsimp only at hSw); go_simp <;> with_reducible rfl)
  try simp only [Act.put, List.getElem_toArray, List.getElem_cons_zero, List.getElem_cons_succ, List.setIfInBounds_toArray, List.set_cons_zero, List.set_cons_succ]
  refine as_phiL (fun Φ hΦ => ?_)
  have N222 : Hid (∀ (W : World) (h : Below wz.heap.size wz W) (l0 : Value) (v0 : Value) (h0 : W.ownsRow wz.heap.size 9 1 v0 d.on.length (strsV d.on)) (l1 : Value) (v1 : Value) (h1 : W.ownsRow wz.heap.size 9 1 v1 d.ins.length (strsV d.ins)) (l2 : Value) (v2 : Value) (h2 : W.ownsRow wz.heap.size 9 1 v2 d.envs.length (strsV d.envs)) (ap01 : Ap v0 v1) (ap02 : Ap v0 v2) (ap12 : Ap v1 v2), Φ 2 #[true, true, true, true, true, true, true, true, true, true, true, true, true, true, true, true, false, false] { tmps := #[.agg #[.string d.task, .slice a0 d.on.length c0, .slice a1 d.ins.length c1, .slice a2 d.envs.length c2, .bool d.keep], .pointer (some ⟨w.heap.size, 0, none⟩), .pointer (some ⟨w.heap.size + 1, 0, none⟩), .pointer (some ⟨w.heap.size, 0, none⟩), .string d.task, l0, .pointer (some ⟨w.heap.size, 1, none⟩), .slice a0 d.on.length c0, v0, l1, .pointer (some ⟨w.heap.size, 2, none⟩), .slice a1 d.ins.length c1, v1, l2, .pointer (some ⟨w.heap.size, 3, none⟩), .slice a2 d.envs.length c2, v2, .pointer (some ⟨w.heap.size, 4, none⟩), .bool d.keep, undef], defers := [] } W) := by
    intro W h l0 v0 h0 l1 v1 h1 l2 v2 h2 ap01 ap02 ap12
    rw [hΦ]
    have hHeld := KEEP.out W h
    obtain ⟨q0, k0, ev0⟩ := owns_sliceP h0
    subst ev0
    obtain ⟨q1, k1, ev1⟩ := owns_sliceP h1
    subst ev1
    obtain ⟨q2, k2, ev2⟩ := owns_sliceP h2
    subst ev2
    refine wpAnyH_take (i := 16) (oi := _) (v := ?vT11) rfl (by kernel_rfl) (by kernel_rfl) (by kernel_rfl) (fun _ _ _ h => h) (Or.inl ⟨by rfl, ?yT11⟩) hHeld ?_
    case yT11 => (intro w hSw; (try dsimp only at hSw); go_simp <;> with_reducible rfl)
    try simp only [Act.put, List.getElem_toArray, List.getElem_cons_zero, List.getElem_cons_succ, List.setIfInBounds_toArray, List.set_cons_zero, List.set_cons_succ]
    have hR4 := (h.block (w.heap.size + 1) (by omega)).trans hRz
    have fy := vblk_frozen hR4
    have y0 := vblk_cell hR4 0
    have y1 := vblk_cell hR4 1
    have y2 := vblk_cell hR4 2
    have y3 := vblk_cell hR4 3
    have y4 := vblk_cell hR4 4
    simp only [List.getElem?_toArray, List.getElem?_cons_succ, List.getElem?_cons_zero] at y0 y1 y2 y3 y4
    refine wpAnyH_ready (rs := [17]) (by kernel_rfl) (by simp) ?_
    refine AllReadyH.cons rfl (fun K hK => ?_) AllReadyH.nil
    go_simp
    clear hHeld
    refine hK.out _ _ ?U12 (fun hHeld => ?_)
    case U12 => (have hA3 := (h.block w.heap.size (by omega)).trans hAz; exact ⟨vblk_cell (cells_put (cells_put (cells_put (cells_put (cells_put hA3 (by omega) _ _) (by omega) _ _) (by omega) _ _) (by omega) _ _) (by omega) _ _) 0, vblk_cell (cells_put (cells_put (cells_put (cells_put (cells_put hA3 (by omega) _ _) (by omega) _ _) (by omega) _ _) (by omega) _ _) (by omega) _ _) 1, vblk_cell (cells_put (cells_put (cells_put (cells_put (cells_put hA3 (by omega) _ _) (by omega) _ _) (by omega) _ _) (by omega) _ _) (by omega) _ _) 2, vblk_cell (cells_put (cells_put (cells_put (cells_put (cells_put hA3 (by omega) _ _) (by omega) _ _) (by omega) _ _) (by omega) _ _) (by omega) _ _) 3, vblk_cell (cells_put (cells_put (cells_put (cells_put (cells_put hA3 (by omega) _ _) (by omega) _ _) (by omega) _ _) (by omega) _ _) (by omega) _ _) 4⟩)
    clear hK K
    try simp only [Act.put, List.getElem_toArray, List.getElem_cons_zero, List.getElem_cons_succ, List.setIfInBounds_toArray, List.set_cons_zero, List.set_cons_succ]
    refine wpAnyH_done (by kernel_rfl) ?_ _
    clear hHeld
    have hm := h.size
    have HO : Hid (∀ W' : World, W'.heap.size = W.heap.size → Kp (fun b => b ≠ w.heap.size + 1) W W' → Rec3 w.heap.size W'.heap.size W' (.slice q0 d.on.length k0) (.slice q1 d.ins.length k1) (.slice q2 d.envs.length k2) d) := fun W' hWs hk => by
      have mk : ∀ {u : Value} {ss : List ByteArray}, W.ownsRow wz.heap.size 9 1 u ss.length (strsV ss) → StrR w.heap.size W'.heap.size W' u ss := fun o =>
        ⟨⟨owns_kept hk (fun g hg => by have := (owns_in o g hg).1; show g ≠ _; omega) (owns_lo (Nat.zero_le _) o), fun g hg => ⟨by have := (owns_in o g hg).1; omega, by have := (owns_in o g hg).2; omega⟩⟩, Nat.le_refl _⟩
      exact ⟨mk h0, mk h1, mk h2, ap01, ap02, ap12, HSN.out⟩
    clear h0 h1 h2 hAz hRz KEEP hR4
    go_wp2_with fail
    refine bodyPost_ret (v := .agg #[.string d.task, .slice q0 d.on.length k0, .slice q1 d.ins.length k1, .slice q2 d.envs.length k2, .bool d.keep]) (by simp [results, Try.results72, go_sem, y0, y1, y2, y3, y4]) rfl ⟨_, _, _, rfl, HO.out _ (by simp [World.setCell]) ?_, ?_⟩
    · (repeat (refine Kp.trans ?_ (Kp.set (by simp))))
      exact fun b hb => rfl
    · (repeat (refine Below.setCell ?_ (by simp) _))
      exact hwz.trans (h.mono (by omega))
  have N221 : Hid (∀ (W : World) (h : Below wz.heap.size wz W) (l0 : Value) (v0 : Value) (h0 : W.ownsRow wz.heap.size 9 1 v0 d.on.length (strsV d.on)) (l1 : Value) (v1 : Value) (h1 : W.ownsRow wz.heap.size 9 1 v1 d.ins.length (strsV d.ins)) (l2 : Value) (h2 : W.ownsRow wz.heap.size 9 1 l2 0 []) (ap01 : Ap v0 v1) (ap02 : Ap v0 l2) (ap12 : Ap v1 l2), Φ 3 #[true, true, true, true, true, true, true, true, true, true, true, true, true, false, true, true, false, false] { tmps := #[.agg #[.string d.task, .slice a0 d.on.length c0, .slice a1 d.ins.length c1, .slice a2 d.envs.length c2, .bool d.keep], .pointer (some ⟨w.heap.size, 0, none⟩), .pointer (some ⟨w.heap.size + 1, 0, none⟩), .pointer (some ⟨w.heap.size, 0, none⟩), .string d.task, l0, .pointer (some ⟨w.heap.size, 1, none⟩), .slice a0 d.on.length c0, v0, l1, .pointer (some ⟨w.heap.size, 2, none⟩), .slice a1 d.ins.length c1, v1, l2, .pointer (some ⟨w.heap.size, 3, none⟩), .slice a2 d.envs.length c2, undef, .pointer (some ⟨w.heap.size, 4, none⟩), .bool d.keep, undef], defers := [] } W) := by
    intro W h l0 v0 h0 l1 v1 h1 l2 h2 ap01 ap02 ap12
    rw [hΦ]
    have hHeld := KEEP.out W h
    refine wpAnyH_ready (rs := [13]) (by kernel_rfl) (by simp) ?_
    refine AllReadyH.cons rfl (fun K hK => ?_) AllReadyH.nil
    rw [if_pos (by rfl)]
    refine wp_append_srcL _ _ 26 rfl wz.heap.size 9 i0 (.string ⟨#[]⟩) 1 16 Try.underlying26 hi hz0 hz1 hz2 rfl (by decide) l2 0 [] rfl h2 (.slice a2 d.envs.length c2) d.envs.length 0 (strsV d.envs) rfl (SR2.out W h) strs_oneL (by unfold maxLen; omega) (by omega) h.size ?_
    intro v2 W2 o2 gr2 loc2
    rw [Nat.zero_add, List.nil_append] at o2
    have hb2 : Below wz.heap.size wz W2 := Below.grown h gr2 h.size (fun j hj => (h2.lt _ hj).1)
    have hq0 := h0.kept gr2 (ap02.symm).ne
    replace ap02 := (Ap.app ap02.symm loc2 (fun g hg => (h0.lt g hg).2)).symm
    have hq1 := h1.kept gr2 (ap12.symm).ne
    replace ap12 := (Ap.app ap12.symm loc2 (fun g hg => (h1.lt g hg).2)).symm
    clear hHeld
    refine hK.out _ _ ?G13 (fun hHeld => ?_)
    case G13 => exact KEEP.out _ hb2
    clear hK K
    try simp only [Act.put, List.getElem_toArray, List.getElem_cons_zero, List.getElem_cons_succ, List.setIfInBounds_toArray, List.set_cons_zero, List.set_cons_succ]
    replace h := hb2
    replace h2 := o2
    replace h0 := hq0
    replace h1 := hq1
    have hN := N222.out W2 h l0 v0 h0 l1 v1 h1 l2 v2 h2 ap01 ap02 ap12
    rw [hΦ] at hN
    exact wpAny_atL hN (by kernel_rfl) (by kernel_rfl)
  have N211 : Hid (∀ (W : World) (h : Below wz.heap.size wz W) (l0 : Value) (v0 : Value) (h0 : W.ownsRow wz.heap.size 9 1 v0 d.on.length (strsV d.on)) (l1 : Value) (h1 : W.ownsRow wz.heap.size 9 1 l1 0 []) (l2 : Value) (h2 : W.ownsRow wz.heap.size 9 1 l2 0 []) (ap01 : Ap v0 l1) (ap02 : Ap v0 l2) (ap12 : Ap l1 l2), Φ 4 #[true, true, true, true, true, true, true, true, true, false, true, true, true, false, true, true, false, false] { tmps := #[.agg #[.string d.task, .slice a0 d.on.length c0, .slice a1 d.ins.length c1, .slice a2 d.envs.length c2, .bool d.keep], .pointer (some ⟨w.heap.size, 0, none⟩), .pointer (some ⟨w.heap.size + 1, 0, none⟩), .pointer (some ⟨w.heap.size, 0, none⟩), .string d.task, l0, .pointer (some ⟨w.heap.size, 1, none⟩), .slice a0 d.on.length c0, v0, l1, .pointer (some ⟨w.heap.size, 2, none⟩), .slice a1 d.ins.length c1, undef, l2, .pointer (some ⟨w.heap.size, 3, none⟩), .slice a2 d.envs.length c2, undef, .pointer (some ⟨w.heap.size, 4, none⟩), .bool d.keep, undef], defers := [] } W) := by
    intro W h l0 v0 h0 l1 h1 l2 h2 ap01 ap02 ap12
    rw [hΦ]
    have hHeld := KEEP.out W h
    refine wpAnyH_ready (rs := [9]) (by kernel_rfl) (by simp) ?_
    refine AllReadyH.cons rfl (fun K hK => ?_) AllReadyH.nil
    rw [if_pos (by rfl)]
    refine wp_append_srcL _ _ 26 rfl wz.heap.size 9 i0 (.string ⟨#[]⟩) 1 16 Try.underlying26 hi hz0 hz1 hz2 rfl (by decide) l1 0 [] rfl h1 (.slice a1 d.ins.length c1) d.ins.length 0 (strsV d.ins) rfl (SR1.out W h) strs_oneL (by unfold maxLen; omega) (by omega) h.size ?_
    intro v1 W2 o2 gr2 loc2
    rw [Nat.zero_add, List.nil_append] at o2
    have hb2 : Below wz.heap.size wz W2 := Below.grown h gr2 h.size (fun j hj => (h1.lt _ hj).1)
    have hq0 := h0.kept gr2 (ap01.symm).ne
    replace ap01 := (Ap.app ap01.symm loc2 (fun g hg => (h0.lt g hg).2)).symm
    have hq2 := h2.kept gr2 (ap12).ne
    replace ap12 := (Ap.app ap12 loc2 (fun g hg => (h2.lt g hg).2))
    clear hHeld
    refine hK.out _ _ ?G14 (fun hHeld => ?_)
    case G14 => exact KEEP.out _ hb2
    clear hK K
    try simp only [Act.put, List.getElem_toArray, List.getElem_cons_zero, List.getElem_cons_succ, List.setIfInBounds_toArray, List.set_cons_zero, List.set_cons_succ]
    replace h := hb2
    replace h1 := o2
    replace h0 := hq0
    replace h2 := hq2
    have hN := N221.out W2 h l0 v0 h0 l1 v1 h1 l2 h2 ap01 ap02 ap12
    rw [hΦ] at hN
    exact wpAny_atL hN (by kernel_rfl) (by kernel_rfl)
  have N220 : Hid (∀ (W : World) (h : Below wz.heap.size wz W) (l0 : Value) (v0 : Value) (h0 : W.ownsRow wz.heap.size 9 1 v0 d.on.length (strsV d.on)) (l1 : Value) (v1 : Value) (h1 : W.ownsRow wz.heap.size 9 1 v1 d.ins.length (strsV d.ins)) (ap01 : Ap v0 v1), Φ 4 #[true, true, true, true, true, true, true, true, true, true, false, true, true, false, true, true, false, false] { tmps := #[.agg #[.string d.task, .slice a0 d.on.length c0, .slice a1 d.ins.length c1, .slice a2 d.envs.length c2, .bool d.keep], .pointer (some ⟨w.heap.size, 0, none⟩), .pointer (some ⟨w.heap.size + 1, 0, none⟩), .pointer (some ⟨w.heap.size, 0, none⟩), .string d.task, l0, .pointer (some ⟨w.heap.size, 1, none⟩), .slice a0 d.on.length c0, v0, l1, .pointer (some ⟨w.heap.size, 2, none⟩), .slice a1 d.ins.length c1, v1, undef, .pointer (some ⟨w.heap.size, 3, none⟩), .slice a2 d.envs.length c2, undef, .pointer (some ⟨w.heap.size, 4, none⟩), .bool d.keep, undef], defers := [] } W) := by
    intro W h l0 v0 h0 l1 v1 h1 ap01
    rw [hΦ]
    have hHeld := KEEP.out W h
    refine wpAnyH_ready (rs := [10]) (by kernel_rfl) (by simp) ?_
    refine AllReadyH.cons rfl (fun K hK => ?_) AllReadyH.nil
    go_simp
    have ka : Below W.heap.size W (W.alloc (.cells #[] 9)) := (Below.refl _ _).alloc (Nat.le_refl _) _
    have hb2 : Below wz.heap.size wz (W.alloc (.cells #[] 9)) := h.trans (ka.mono h.size)
    have h2 : (W.alloc (.cells #[] 9)).ownsRow wz.heap.size 9 1 (.slice (some ⟨W.heap.size, 0, none⟩) 0 0) 0 [] := World.ownsRow_lit W #[] 0 h.size (by unfold maxLen; omega) rfl
    have ap02 : Ap v0 (.slice (some ⟨W.heap.size, 0, none⟩) 0 0) := (Ap.fresh h0).symm
    have ap12 : Ap v1 (.slice (some ⟨W.heap.size, 0, none⟩) 0 0) := (Ap.fresh h1).symm
    replace h0 := owns_of_belowN h0 ka
    replace h1 := owns_of_belowN h1 ka
    clear hHeld
    refine hK.out _ (W.alloc (.cells #[] 9)) ?G15 (fun hHeld => ?_)
    case G15 => exact KEEP.out _ hb2
    clear hK K
    try simp only [Act.put, List.getElem_toArray, List.getElem_cons_zero, List.getElem_cons_succ, List.setIfInBounds_toArray, List.set_cons_zero, List.set_cons_succ]
    obtain ⟨l2, hl2⟩ : ∃ l : Value, l = .slice (some ⟨W.heap.size, 0, none⟩) 0 0 := ⟨_, rfl⟩
    rw [← hl2] at h2 ap02 ap12
    try rw [← hl2]
    obtain ⟨W2, hW2⟩ : ∃ W2, W2 = W.alloc (.cells #[] 9) := ⟨_, rfl⟩
    rw [← hW2] at hb2 h2 h0 h1
    rw [← hW2]
    replace h := hb2
    clear hl2 hW2 ka hb2
    have hN := N221.out W2 h l0 v0 h0 l1 v1 h1 l2 h2 ap01 ap02 ap12
    rw [hΦ] at hN
    exact wpAny_atL hN (by kernel_rfl) (by kernel_rfl)
  have N111 : Hid (∀ (W : World) (h : Below wz.heap.size wz W) (l0 : Value) (h0 : W.ownsRow wz.heap.size 9 1 l0 0 []) (l1 : Value) (h1 : W.ownsRow wz.heap.size 9 1 l1 0 []) (l2 : Value) (h2 : W.ownsRow wz.heap.size 9 1 l2 0 []) (ap01 : Ap l0 l1) (ap02 : Ap l0 l2) (ap12 : Ap l1 l2), Φ 5 #[true, true, true, true, true, false, true, true, true, false, true, true, true, false, true, true, false, false] { tmps := #[.agg #[.string d.task, .slice a0 d.on.length c0, .slice a1 d.ins.length c1, .slice a2 d.envs.length c2, .bool d.keep], .pointer (some ⟨w.heap.size, 0, none⟩), .pointer (some ⟨w.heap.size + 1, 0, none⟩), .pointer (some ⟨w.heap.size, 0, none⟩), .string d.task, l0, .pointer (some ⟨w.heap.size, 1, none⟩), .slice a0 d.on.length c0, undef, l1, .pointer (some ⟨w.heap.size, 2, none⟩), .slice a1 d.ins.length c1, undef, l2, .pointer (some ⟨w.heap.size, 3, none⟩), .slice a2 d.envs.length c2, undef, .pointer (some ⟨w.heap.size, 4, none⟩), .bool d.keep, undef], defers := [] } W) := by
    intro W h l0 h0 l1 h1 l2 h2 ap01 ap02 ap12
    rw [hΦ]
    have hHeld := KEEP.out W h
    refine wpAnyH_ready (rs := [5]) (by kernel_rfl) (by simp) ?_
    refine AllReadyH.cons rfl (fun K hK => ?_) AllReadyH.nil
    rw [if_pos (by rfl)]
    refine wp_append_srcL _ _ 26 rfl wz.heap.size 9 i0 (.string ⟨#[]⟩) 1 16 Try.underlying26 hi hz0 hz1 hz2 rfl (by decide) l0 0 [] rfl h0 (.slice a0 d.on.length c0) d.on.length 0 (strsV d.on) rfl (SR0.out W h) strs_oneL (by unfold maxLen; omega) (by omega) h.size ?_
    intro v0 W2 o2 gr2 loc2
    rw [Nat.zero_add, List.nil_append] at o2
    have hb2 : Below wz.heap.size wz W2 := Below.grown h gr2 h.size (fun j hj => (h0.lt _ hj).1)
    have hq1 := h1.kept gr2 (ap01).ne
    replace ap01 := (Ap.app ap01 loc2 (fun g hg => (h1.lt g hg).2))
    have hq2 := h2.kept gr2 (ap02).ne
    replace ap02 := (Ap.app ap02 loc2 (fun g hg => (h2.lt g hg).2))
    clear hHeld
    refine hK.out _ _ ?G16 (fun hHeld => ?_)
    case G16 => exact KEEP.out _ hb2
    clear hK K
    try simp only [Act.put, List.getElem_toArray, List.getElem_cons_zero, List.getElem_cons_succ, List.setIfInBounds_toArray, List.set_cons_zero, List.set_cons_succ]
    replace h := hb2
    replace h0 := o2
    replace h1 := hq1
    replace h2 := hq2
    have hN := N211.out W2 h l0 v0 h0 l1 h1 l2 h2 ap01 ap02 ap12
    rw [hΦ] at hN
    exact wpAny_atL hN (by kernel_rfl) (by kernel_rfl)
  have N201 : Hid (∀ (W : World) (h : Below wz.heap.size wz W) (l0 : Value) (v0 : Value) (h0 : W.ownsRow wz.heap.size 9 1 v0 d.on.length (strsV d.on)) (l2 : Value) (h2 : W.ownsRow wz.heap.size 9 1 l2 0 []) (ap02 : Ap v0 l2), Φ 5 #[true, true, true, true, true, true, false, true, true, false, true, true, true, false, true, true, false, false] { tmps := #[.agg #[.string d.task, .slice a0 d.on.length c0, .slice a1 d.ins.length c1, .slice a2 d.envs.length c2, .bool d.keep], .pointer (some ⟨w.heap.size, 0, none⟩), .pointer (some ⟨w.heap.size + 1, 0, none⟩), .pointer (some ⟨w.heap.size, 0, none⟩), .string d.task, l0, .pointer (some ⟨w.heap.size, 1, none⟩), .slice a0 d.on.length c0, v0, undef, .pointer (some ⟨w.heap.size, 2, none⟩), .slice a1 d.ins.length c1, undef, l2, .pointer (some ⟨w.heap.size, 3, none⟩), .slice a2 d.envs.length c2, undef, .pointer (some ⟨w.heap.size, 4, none⟩), .bool d.keep, undef], defers := [] } W) := by
    intro W h l0 v0 h0 l2 h2 ap02
    rw [hΦ]
    have hHeld := KEEP.out W h
    refine wpAnyH_ready (rs := [6]) (by kernel_rfl) (by simp) ?_
    refine AllReadyH.cons rfl (fun K hK => ?_) AllReadyH.nil
    go_simp
    have ka : Below W.heap.size W (W.alloc (.cells #[] 9)) := (Below.refl _ _).alloc (Nat.le_refl _) _
    have hb2 : Below wz.heap.size wz (W.alloc (.cells #[] 9)) := h.trans (ka.mono h.size)
    have h1 : (W.alloc (.cells #[] 9)).ownsRow wz.heap.size 9 1 (.slice (some ⟨W.heap.size, 0, none⟩) 0 0) 0 [] := World.ownsRow_lit W #[] 0 h.size (by unfold maxLen; omega) rfl
    have ap01 : Ap v0 (.slice (some ⟨W.heap.size, 0, none⟩) 0 0) := (Ap.fresh h0).symm
    have ap12 : Ap (.slice (some ⟨W.heap.size, 0, none⟩) 0 0) l2 := Ap.fresh h2
    replace h0 := owns_of_belowN h0 ka
    replace h2 := owns_of_belowN h2 ka
    clear hHeld
    refine hK.out _ (W.alloc (.cells #[] 9)) ?G17 (fun hHeld => ?_)
    case G17 => exact KEEP.out _ hb2
    clear hK K
    try simp only [Act.put, List.getElem_toArray, List.getElem_cons_zero, List.getElem_cons_succ, List.setIfInBounds_toArray, List.set_cons_zero, List.set_cons_succ]
    obtain ⟨l1, hl1⟩ : ∃ l : Value, l = .slice (some ⟨W.heap.size, 0, none⟩) 0 0 := ⟨_, rfl⟩
    rw [← hl1] at h1 ap01 ap12
    try rw [← hl1]
    obtain ⟨W2, hW2⟩ : ∃ W2, W2 = W.alloc (.cells #[] 9) := ⟨_, rfl⟩
    rw [← hW2] at hb2 h1 h0 h2
    rw [← hW2]
    replace h := hb2
    clear hl1 hW2 ka hb2
    have hN := N211.out W2 h l0 v0 h0 l1 h1 l2 h2 ap01 ap02 ap12
    rw [hΦ] at hN
    exact wpAny_atL hN (by kernel_rfl) (by kernel_rfl)
  have N210 : Hid (∀ (W : World) (h : Below wz.heap.size wz W) (l0 : Value) (v0 : Value) (h0 : W.ownsRow wz.heap.size 9 1 v0 d.on.length (strsV d.on)) (l1 : Value) (h1 : W.ownsRow wz.heap.size 9 1 l1 0 []) (ap01 : Ap v0 l1), Φ 5 #[true, true, true, true, true, true, true, true, true, false, false, true, true, false, true, true, false, false] { tmps := #[.agg #[.string d.task, .slice a0 d.on.length c0, .slice a1 d.ins.length c1, .slice a2 d.envs.length c2, .bool d.keep], .pointer (some ⟨w.heap.size, 0, none⟩), .pointer (some ⟨w.heap.size + 1, 0, none⟩), .pointer (some ⟨w.heap.size, 0, none⟩), .string d.task, l0, .pointer (some ⟨w.heap.size, 1, none⟩), .slice a0 d.on.length c0, v0, l1, .pointer (some ⟨w.heap.size, 2, none⟩), .slice a1 d.ins.length c1, undef, undef, .pointer (some ⟨w.heap.size, 3, none⟩), .slice a2 d.envs.length c2, undef, .pointer (some ⟨w.heap.size, 4, none⟩), .bool d.keep, undef], defers := [] } W) := by
    intro W h l0 v0 h0 l1 h1 ap01
    rw [hΦ]
    have hHeld := KEEP.out W h
    refine wpAnyH_ready (rs := [9, 10]) (by kernel_rfl) (by simp) ?_
    refine AllReadyH.cons rfl (fun K hK => ?_) (AllReadyH.cons rfl (fun K hK => ?_) AllReadyH.nil)
    · rw [if_pos (by rfl)]
      refine wp_append_srcL _ _ 26 rfl wz.heap.size 9 i0 (.string ⟨#[]⟩) 1 16 Try.underlying26 hi hz0 hz1 hz2 rfl (by decide) l1 0 [] rfl h1 (.slice a1 d.ins.length c1) d.ins.length 0 (strsV d.ins) rfl (SR1.out W h) strs_oneL (by unfold maxLen; omega) (by omega) h.size ?_
      intro v1 W2 o2 gr2 loc2
      rw [Nat.zero_add, List.nil_append] at o2
      have hb2 : Below wz.heap.size wz W2 := Below.grown h gr2 h.size (fun j hj => (h1.lt _ hj).1)
      have hq0 := h0.kept gr2 (ap01.symm).ne
      replace ap01 := (Ap.app ap01.symm loc2 (fun g hg => (h0.lt g hg).2)).symm
      clear hHeld
      refine hK.out _ _ ?G18 (fun hHeld => ?_)
      case G18 => exact KEEP.out _ hb2
      clear hK K
      try simp only [Act.put, List.getElem_toArray, List.getElem_cons_zero, List.getElem_cons_succ, List.setIfInBounds_toArray, List.set_cons_zero, List.set_cons_succ]
      replace h := hb2
      replace h1 := o2
      replace h0 := hq0
      have hN := N220.out W2 h l0 v0 h0 l1 v1 h1 ap01
      rw [hΦ] at hN
      exact wpAny_atL hN (by kernel_rfl) (by kernel_rfl)
    · go_simp
      have ka : Below W.heap.size W (W.alloc (.cells #[] 9)) := (Below.refl _ _).alloc (Nat.le_refl _) _
      have hb2 : Below wz.heap.size wz (W.alloc (.cells #[] 9)) := h.trans (ka.mono h.size)
      have h2 : (W.alloc (.cells #[] 9)).ownsRow wz.heap.size 9 1 (.slice (some ⟨W.heap.size, 0, none⟩) 0 0) 0 [] := World.ownsRow_lit W #[] 0 h.size (by unfold maxLen; omega) rfl
      have ap02 : Ap v0 (.slice (some ⟨W.heap.size, 0, none⟩) 0 0) := (Ap.fresh h0).symm
      have ap12 : Ap l1 (.slice (some ⟨W.heap.size, 0, none⟩) 0 0) := (Ap.fresh h1).symm
      replace h0 := owns_of_belowN h0 ka
      replace h1 := owns_of_belowN h1 ka
      clear hHeld
      refine hK.out _ (W.alloc (.cells #[] 9)) ?G19 (fun hHeld => ?_)
      case G19 => exact KEEP.out _ hb2
      clear hK K
      try simp only [Act.put, List.getElem_toArray, List.getElem_cons_zero, List.getElem_cons_succ, List.setIfInBounds_toArray, List.set_cons_zero, List.set_cons_succ]
      obtain ⟨l2, hl2⟩ : ∃ l : Value, l = .slice (some ⟨W.heap.size, 0, none⟩) 0 0 := ⟨_, rfl⟩
      rw [← hl2] at h2 ap02 ap12
      try rw [← hl2]
      obtain ⟨W2, hW2⟩ : ∃ W2, W2 = W.alloc (.cells #[] 9) := ⟨_, rfl⟩
      rw [← hW2] at hb2 h2 h0 h1
      rw [← hW2]
      replace h := hb2
      clear hl2 hW2 ka hb2
      have hN := N211.out W2 h l0 v0 h0 l1 h1 l2 h2 ap01 ap02 ap12
      rw [hΦ] at hN
      exact wpAny_atL hN (by kernel_rfl) (by kernel_rfl)
  have N011 : Hid (∀ (W : World) (h : Below wz.heap.size wz W) (l1 : Value) (h1 : W.ownsRow wz.heap.size 9 1 l1 0 []) (l2 : Value) (h2 : W.ownsRow wz.heap.size 9 1 l2 0 []) (ap12 : Ap l1 l2), Φ 6 #[true, true, false, true, true, false, true, true, true, false, true, true, true, false, true, true, false, false] { tmps := #[.agg #[.string d.task, .slice a0 d.on.length c0, .slice a1 d.ins.length c1, .slice a2 d.envs.length c2, .bool d.keep], .pointer (some ⟨w.heap.size, 0, none⟩), .pointer (some ⟨w.heap.size + 1, 0, none⟩), .pointer (some ⟨w.heap.size, 0, none⟩), .string d.task, undef, .pointer (some ⟨w.heap.size, 1, none⟩), .slice a0 d.on.length c0, undef, l1, .pointer (some ⟨w.heap.size, 2, none⟩), .slice a1 d.ins.length c1, undef, l2, .pointer (some ⟨w.heap.size, 3, none⟩), .slice a2 d.envs.length c2, undef, .pointer (some ⟨w.heap.size, 4, none⟩), .bool d.keep, undef], defers := [] } W) := by
    intro W h l1 h1 l2 h2 ap12
    rw [hΦ]
    have hHeld := KEEP.out W h
    refine wpAnyH_ready (rs := [2]) (by kernel_rfl) (by simp) ?_
    refine AllReadyH.cons rfl (fun K hK => ?_) AllReadyH.nil
    go_simp
    have ka : Below W.heap.size W (W.alloc (.cells #[] 9)) := (Below.refl _ _).alloc (Nat.le_refl _) _
    have hb2 : Below wz.heap.size wz (W.alloc (.cells #[] 9)) := h.trans (ka.mono h.size)
    have h0 : (W.alloc (.cells #[] 9)).ownsRow wz.heap.size 9 1 (.slice (some ⟨W.heap.size, 0, none⟩) 0 0) 0 [] := World.ownsRow_lit W #[] 0 h.size (by unfold maxLen; omega) rfl
    have ap01 : Ap (.slice (some ⟨W.heap.size, 0, none⟩) 0 0) l1 := Ap.fresh h1
    have ap02 : Ap (.slice (some ⟨W.heap.size, 0, none⟩) 0 0) l2 := Ap.fresh h2
    replace h1 := owns_of_belowN h1 ka
    replace h2 := owns_of_belowN h2 ka
    clear hHeld
    refine hK.out _ (W.alloc (.cells #[] 9)) ?G20 (fun hHeld => ?_)
    case G20 => exact KEEP.out _ hb2
    clear hK K
    try simp only [Act.put, List.getElem_toArray, List.getElem_cons_zero, List.getElem_cons_succ, List.setIfInBounds_toArray, List.set_cons_zero, List.set_cons_succ]
    obtain ⟨l0, hl0⟩ : ∃ l : Value, l = .slice (some ⟨W.heap.size, 0, none⟩) 0 0 := ⟨_, rfl⟩
    rw [← hl0] at h0 ap01 ap02
    try rw [← hl0]
    obtain ⟨W2, hW2⟩ : ∃ W2, W2 = W.alloc (.cells #[] 9) := ⟨_, rfl⟩
    rw [← hW2] at hb2 h0 h1 h2
    rw [← hW2]
    replace h := hb2
    clear hl0 hW2 ka hb2
    have hN := N111.out W2 h l0 h0 l1 h1 l2 h2 ap01 ap02 ap12
    rw [hΦ] at hN
    exact wpAny_atL hN (by kernel_rfl) (by kernel_rfl)
  have N101 : Hid (∀ (W : World) (h : Below wz.heap.size wz W) (l0 : Value) (h0 : W.ownsRow wz.heap.size 9 1 l0 0 []) (l2 : Value) (h2 : W.ownsRow wz.heap.size 9 1 l2 0 []) (ap02 : Ap l0 l2), Φ 6 #[true, true, true, true, true, false, false, true, true, false, true, true, true, false, true, true, false, false] { tmps := #[.agg #[.string d.task, .slice a0 d.on.length c0, .slice a1 d.ins.length c1, .slice a2 d.envs.length c2, .bool d.keep], .pointer (some ⟨w.heap.size, 0, none⟩), .pointer (some ⟨w.heap.size + 1, 0, none⟩), .pointer (some ⟨w.heap.size, 0, none⟩), .string d.task, l0, .pointer (some ⟨w.heap.size, 1, none⟩), .slice a0 d.on.length c0, undef, undef, .pointer (some ⟨w.heap.size, 2, none⟩), .slice a1 d.ins.length c1, undef, l2, .pointer (some ⟨w.heap.size, 3, none⟩), .slice a2 d.envs.length c2, undef, .pointer (some ⟨w.heap.size, 4, none⟩), .bool d.keep, undef], defers := [] } W) := by
    intro W h l0 h0 l2 h2 ap02
    rw [hΦ]
    have hHeld := KEEP.out W h
    refine wpAnyH_ready (rs := [5, 6]) (by kernel_rfl) (by simp) ?_
    refine AllReadyH.cons rfl (fun K hK => ?_) (AllReadyH.cons rfl (fun K hK => ?_) AllReadyH.nil)
    · rw [if_pos (by rfl)]
      refine wp_append_srcL _ _ 26 rfl wz.heap.size 9 i0 (.string ⟨#[]⟩) 1 16 Try.underlying26 hi hz0 hz1 hz2 rfl (by decide) l0 0 [] rfl h0 (.slice a0 d.on.length c0) d.on.length 0 (strsV d.on) rfl (SR0.out W h) strs_oneL (by unfold maxLen; omega) (by omega) h.size ?_
      intro v0 W2 o2 gr2 loc2
      rw [Nat.zero_add, List.nil_append] at o2
      have hb2 : Below wz.heap.size wz W2 := Below.grown h gr2 h.size (fun j hj => (h0.lt _ hj).1)
      have hq2 := h2.kept gr2 (ap02).ne
      replace ap02 := (Ap.app ap02 loc2 (fun g hg => (h2.lt g hg).2))
      clear hHeld
      refine hK.out _ _ ?G21 (fun hHeld => ?_)
      case G21 => exact KEEP.out _ hb2
      clear hK K
      try simp only [Act.put, List.getElem_toArray, List.getElem_cons_zero, List.getElem_cons_succ, List.setIfInBounds_toArray, List.set_cons_zero, List.set_cons_succ]
      replace h := hb2
      replace h0 := o2
      replace h2 := hq2
      have hN := N201.out W2 h l0 v0 h0 l2 h2 ap02
      rw [hΦ] at hN
      exact wpAny_atL hN (by kernel_rfl) (by kernel_rfl)
    · go_simp
      have ka : Below W.heap.size W (W.alloc (.cells #[] 9)) := (Below.refl _ _).alloc (Nat.le_refl _) _
      have hb2 : Below wz.heap.size wz (W.alloc (.cells #[] 9)) := h.trans (ka.mono h.size)
      have h1 : (W.alloc (.cells #[] 9)).ownsRow wz.heap.size 9 1 (.slice (some ⟨W.heap.size, 0, none⟩) 0 0) 0 [] := World.ownsRow_lit W #[] 0 h.size (by unfold maxLen; omega) rfl
      have ap01 : Ap l0 (.slice (some ⟨W.heap.size, 0, none⟩) 0 0) := (Ap.fresh h0).symm
      have ap12 : Ap (.slice (some ⟨W.heap.size, 0, none⟩) 0 0) l2 := Ap.fresh h2
      replace h0 := owns_of_belowN h0 ka
      replace h2 := owns_of_belowN h2 ka
      clear hHeld
      refine hK.out _ (W.alloc (.cells #[] 9)) ?G22 (fun hHeld => ?_)
      case G22 => exact KEEP.out _ hb2
      clear hK K
      try simp only [Act.put, List.getElem_toArray, List.getElem_cons_zero, List.getElem_cons_succ, List.setIfInBounds_toArray, List.set_cons_zero, List.set_cons_succ]
      obtain ⟨l1, hl1⟩ : ∃ l : Value, l = .slice (some ⟨W.heap.size, 0, none⟩) 0 0 := ⟨_, rfl⟩
      rw [← hl1] at h1 ap01 ap12
      try rw [← hl1]
      obtain ⟨W2, hW2⟩ : ∃ W2, W2 = W.alloc (.cells #[] 9) := ⟨_, rfl⟩
      rw [← hW2] at hb2 h1 h0 h2
      rw [← hW2]
      replace h := hb2
      clear hl1 hW2 ka hb2
      have hN := N111.out W2 h l0 h0 l1 h1 l2 h2 ap01 ap02 ap12
      rw [hΦ] at hN
      exact wpAny_atL hN (by kernel_rfl) (by kernel_rfl)
  have N110 : Hid (∀ (W : World) (h : Below wz.heap.size wz W) (l0 : Value) (h0 : W.ownsRow wz.heap.size 9 1 l0 0 []) (l1 : Value) (h1 : W.ownsRow wz.heap.size 9 1 l1 0 []) (ap01 : Ap l0 l1), Φ 6 #[true, true, true, true, true, false, true, true, true, false, false, true, true, false, true, true, false, false] { tmps := #[.agg #[.string d.task, .slice a0 d.on.length c0, .slice a1 d.ins.length c1, .slice a2 d.envs.length c2, .bool d.keep], .pointer (some ⟨w.heap.size, 0, none⟩), .pointer (some ⟨w.heap.size + 1, 0, none⟩), .pointer (some ⟨w.heap.size, 0, none⟩), .string d.task, l0, .pointer (some ⟨w.heap.size, 1, none⟩), .slice a0 d.on.length c0, undef, l1, .pointer (some ⟨w.heap.size, 2, none⟩), .slice a1 d.ins.length c1, undef, undef, .pointer (some ⟨w.heap.size, 3, none⟩), .slice a2 d.envs.length c2, undef, .pointer (some ⟨w.heap.size, 4, none⟩), .bool d.keep, undef], defers := [] } W) := by
    intro W h l0 h0 l1 h1 ap01
    rw [hΦ]
    have hHeld := KEEP.out W h
    refine wpAnyH_ready (rs := [5, 10]) (by kernel_rfl) (by simp) ?_
    refine AllReadyH.cons rfl (fun K hK => ?_) (AllReadyH.cons rfl (fun K hK => ?_) AllReadyH.nil)
    · rw [if_pos (by rfl)]
      refine wp_append_srcL _ _ 26 rfl wz.heap.size 9 i0 (.string ⟨#[]⟩) 1 16 Try.underlying26 hi hz0 hz1 hz2 rfl (by decide) l0 0 [] rfl h0 (.slice a0 d.on.length c0) d.on.length 0 (strsV d.on) rfl (SR0.out W h) strs_oneL (by unfold maxLen; omega) (by omega) h.size ?_
      intro v0 W2 o2 gr2 loc2
      rw [Nat.zero_add, List.nil_append] at o2
      have hb2 : Below wz.heap.size wz W2 := Below.grown h gr2 h.size (fun j hj => (h0.lt _ hj).1)
      have hq1 := h1.kept gr2 (ap01).ne
      replace ap01 := (Ap.app ap01 loc2 (fun g hg => (h1.lt g hg).2))
      clear hHeld
      refine hK.out _ _ ?G23 (fun hHeld => ?_)
      case G23 => exact KEEP.out _ hb2
      clear hK K
      try simp only [Act.put, List.getElem_toArray, List.getElem_cons_zero, List.getElem_cons_succ, List.setIfInBounds_toArray, List.set_cons_zero, List.set_cons_succ]
      replace h := hb2
      replace h0 := o2
      replace h1 := hq1
      have hN := N210.out W2 h l0 v0 h0 l1 h1 ap01
      rw [hΦ] at hN
      exact wpAny_atL hN (by kernel_rfl) (by kernel_rfl)
    · go_simp
      have ka : Below W.heap.size W (W.alloc (.cells #[] 9)) := (Below.refl _ _).alloc (Nat.le_refl _) _
      have hb2 : Below wz.heap.size wz (W.alloc (.cells #[] 9)) := h.trans (ka.mono h.size)
      have h2 : (W.alloc (.cells #[] 9)).ownsRow wz.heap.size 9 1 (.slice (some ⟨W.heap.size, 0, none⟩) 0 0) 0 [] := World.ownsRow_lit W #[] 0 h.size (by unfold maxLen; omega) rfl
      have ap02 : Ap l0 (.slice (some ⟨W.heap.size, 0, none⟩) 0 0) := (Ap.fresh h0).symm
      have ap12 : Ap l1 (.slice (some ⟨W.heap.size, 0, none⟩) 0 0) := (Ap.fresh h1).symm
      replace h0 := owns_of_belowN h0 ka
      replace h1 := owns_of_belowN h1 ka
      clear hHeld
      refine hK.out _ (W.alloc (.cells #[] 9)) ?G24 (fun hHeld => ?_)
      case G24 => exact KEEP.out _ hb2
      clear hK K
      try simp only [Act.put, List.getElem_toArray, List.getElem_cons_zero, List.getElem_cons_succ, List.setIfInBounds_toArray, List.set_cons_zero, List.set_cons_succ]
      obtain ⟨l2, hl2⟩ : ∃ l : Value, l = .slice (some ⟨W.heap.size, 0, none⟩) 0 0 := ⟨_, rfl⟩
      rw [← hl2] at h2 ap02 ap12
      try rw [← hl2]
      obtain ⟨W2, hW2⟩ : ∃ W2, W2 = W.alloc (.cells #[] 9) := ⟨_, rfl⟩
      rw [← hW2] at hb2 h2 h0 h1
      rw [← hW2]
      replace h := hb2
      clear hl2 hW2 ka hb2
      have hN := N111.out W2 h l0 h0 l1 h1 l2 h2 ap01 ap02 ap12
      rw [hΦ] at hN
      exact wpAny_atL hN (by kernel_rfl) (by kernel_rfl)
  have N200 : Hid (∀ (W : World) (h : Below wz.heap.size wz W) (l0 : Value) (v0 : Value) (h0 : W.ownsRow wz.heap.size 9 1 v0 d.on.length (strsV d.on)), Φ 6 #[true, true, true, true, true, true, false, true, true, false, false, true, true, false, true, true, false, false] { tmps := #[.agg #[.string d.task, .slice a0 d.on.length c0, .slice a1 d.ins.length c1, .slice a2 d.envs.length c2, .bool d.keep], .pointer (some ⟨w.heap.size, 0, none⟩), .pointer (some ⟨w.heap.size + 1, 0, none⟩), .pointer (some ⟨w.heap.size, 0, none⟩), .string d.task, l0, .pointer (some ⟨w.heap.size, 1, none⟩), .slice a0 d.on.length c0, v0, undef, .pointer (some ⟨w.heap.size, 2, none⟩), .slice a1 d.ins.length c1, undef, undef, .pointer (some ⟨w.heap.size, 3, none⟩), .slice a2 d.envs.length c2, undef, .pointer (some ⟨w.heap.size, 4, none⟩), .bool d.keep, undef], defers := [] } W) := by
    intro W h l0 v0 h0
    rw [hΦ]
    have hHeld := KEEP.out W h
    refine wpAnyH_ready (rs := [6, 10]) (by kernel_rfl) (by simp) ?_
    refine AllReadyH.cons rfl (fun K hK => ?_) (AllReadyH.cons rfl (fun K hK => ?_) AllReadyH.nil)
    · go_simp
      have ka : Below W.heap.size W (W.alloc (.cells #[] 9)) := (Below.refl _ _).alloc (Nat.le_refl _) _
      have hb2 : Below wz.heap.size wz (W.alloc (.cells #[] 9)) := h.trans (ka.mono h.size)
      have h1 : (W.alloc (.cells #[] 9)).ownsRow wz.heap.size 9 1 (.slice (some ⟨W.heap.size, 0, none⟩) 0 0) 0 [] := World.ownsRow_lit W #[] 0 h.size (by unfold maxLen; omega) rfl
      have ap01 : Ap v0 (.slice (some ⟨W.heap.size, 0, none⟩) 0 0) := (Ap.fresh h0).symm
      replace h0 := owns_of_belowN h0 ka
      clear hHeld
      refine hK.out _ (W.alloc (.cells #[] 9)) ?G25 (fun hHeld => ?_)
      case G25 => exact KEEP.out _ hb2
      clear hK K
      try simp only [Act.put, List.getElem_toArray, List.getElem_cons_zero, List.getElem_cons_succ, List.setIfInBounds_toArray, List.set_cons_zero, List.set_cons_succ]
      obtain ⟨l1, hl1⟩ : ∃ l : Value, l = .slice (some ⟨W.heap.size, 0, none⟩) 0 0 := ⟨_, rfl⟩
      rw [← hl1] at h1 ap01
      try rw [← hl1]
      obtain ⟨W2, hW2⟩ : ∃ W2, W2 = W.alloc (.cells #[] 9) := ⟨_, rfl⟩
      rw [← hW2] at hb2 h1 h0
      rw [← hW2]
      replace h := hb2
      clear hl1 hW2 ka hb2
      have hN := N210.out W2 h l0 v0 h0 l1 h1 ap01
      rw [hΦ] at hN
      exact wpAny_atL hN (by kernel_rfl) (by kernel_rfl)
    · go_simp
      have ka : Below W.heap.size W (W.alloc (.cells #[] 9)) := (Below.refl _ _).alloc (Nat.le_refl _) _
      have hb2 : Below wz.heap.size wz (W.alloc (.cells #[] 9)) := h.trans (ka.mono h.size)
      have h2 : (W.alloc (.cells #[] 9)).ownsRow wz.heap.size 9 1 (.slice (some ⟨W.heap.size, 0, none⟩) 0 0) 0 [] := World.ownsRow_lit W #[] 0 h.size (by unfold maxLen; omega) rfl
      have ap02 : Ap v0 (.slice (some ⟨W.heap.size, 0, none⟩) 0 0) := (Ap.fresh h0).symm
      replace h0 := owns_of_belowN h0 ka
      clear hHeld
      refine hK.out _ (W.alloc (.cells #[] 9)) ?G26 (fun hHeld => ?_)
      case G26 => exact KEEP.out _ hb2
      clear hK K
      try simp only [Act.put, List.getElem_toArray, List.getElem_cons_zero, List.getElem_cons_succ, List.setIfInBounds_toArray, List.set_cons_zero, List.set_cons_succ]
      obtain ⟨l2, hl2⟩ : ∃ l : Value, l = .slice (some ⟨W.heap.size, 0, none⟩) 0 0 := ⟨_, rfl⟩
      rw [← hl2] at h2 ap02
      try rw [← hl2]
      obtain ⟨W2, hW2⟩ : ∃ W2, W2 = W.alloc (.cells #[] 9) := ⟨_, rfl⟩
      rw [← hW2] at hb2 h2 h0
      rw [← hW2]
      replace h := hb2
      clear hl2 hW2 ka hb2
      have hN := N201.out W2 h l0 v0 h0 l2 h2 ap02
      rw [hΦ] at hN
      exact wpAny_atL hN (by kernel_rfl) (by kernel_rfl)
  have N001 : Hid (∀ (W : World) (h : Below wz.heap.size wz W) (l2 : Value) (h2 : W.ownsRow wz.heap.size 9 1 l2 0 []), Φ 7 #[true, true, false, true, true, false, false, true, true, false, true, true, true, false, true, true, false, false] { tmps := #[.agg #[.string d.task, .slice a0 d.on.length c0, .slice a1 d.ins.length c1, .slice a2 d.envs.length c2, .bool d.keep], .pointer (some ⟨w.heap.size, 0, none⟩), .pointer (some ⟨w.heap.size + 1, 0, none⟩), .pointer (some ⟨w.heap.size, 0, none⟩), .string d.task, undef, .pointer (some ⟨w.heap.size, 1, none⟩), .slice a0 d.on.length c0, undef, undef, .pointer (some ⟨w.heap.size, 2, none⟩), .slice a1 d.ins.length c1, undef, l2, .pointer (some ⟨w.heap.size, 3, none⟩), .slice a2 d.envs.length c2, undef, .pointer (some ⟨w.heap.size, 4, none⟩), .bool d.keep, undef], defers := [] } W) := by
    intro W h l2 h2
    rw [hΦ]
    have hHeld := KEEP.out W h
    refine wpAnyH_ready (rs := [2, 6]) (by kernel_rfl) (by simp) ?_
    refine AllReadyH.cons rfl (fun K hK => ?_) (AllReadyH.cons rfl (fun K hK => ?_) AllReadyH.nil)
    · go_simp
      have ka : Below W.heap.size W (W.alloc (.cells #[] 9)) := (Below.refl _ _).alloc (Nat.le_refl _) _
      have hb2 : Below wz.heap.size wz (W.alloc (.cells #[] 9)) := h.trans (ka.mono h.size)
      have h0 : (W.alloc (.cells #[] 9)).ownsRow wz.heap.size 9 1 (.slice (some ⟨W.heap.size, 0, none⟩) 0 0) 0 [] := World.ownsRow_lit W #[] 0 h.size (by unfold maxLen; omega) rfl
      have ap02 : Ap (.slice (some ⟨W.heap.size, 0, none⟩) 0 0) l2 := Ap.fresh h2
      replace h2 := owns_of_belowN h2 ka
      clear hHeld
      refine hK.out _ (W.alloc (.cells #[] 9)) ?G27 (fun hHeld => ?_)
      case G27 => exact KEEP.out _ hb2
      clear hK K
      try simp only [Act.put, List.getElem_toArray, List.getElem_cons_zero, List.getElem_cons_succ, List.setIfInBounds_toArray, List.set_cons_zero, List.set_cons_succ]
      obtain ⟨l0, hl0⟩ : ∃ l : Value, l = .slice (some ⟨W.heap.size, 0, none⟩) 0 0 := ⟨_, rfl⟩
      rw [← hl0] at h0 ap02
      try rw [← hl0]
      obtain ⟨W2, hW2⟩ : ∃ W2, W2 = W.alloc (.cells #[] 9) := ⟨_, rfl⟩
      rw [← hW2] at hb2 h0 h2
      rw [← hW2]
      replace h := hb2
      clear hl0 hW2 ka hb2
      have hN := N101.out W2 h l0 h0 l2 h2 ap02
      rw [hΦ] at hN
      exact wpAny_atL hN (by kernel_rfl) (by kernel_rfl)
    · go_simp
      have ka : Below W.heap.size W (W.alloc (.cells #[] 9)) := (Below.refl _ _).alloc (Nat.le_refl _) _
      have hb2 : Below wz.heap.size wz (W.alloc (.cells #[] 9)) := h.trans (ka.mono h.size)
      have h1 : (W.alloc (.cells #[] 9)).ownsRow wz.heap.size 9 1 (.slice (some ⟨W.heap.size, 0, none⟩) 0 0) 0 [] := World.ownsRow_lit W #[] 0 h.size (by unfold maxLen; omega) rfl
      have ap12 : Ap (.slice (some ⟨W.heap.size, 0, none⟩) 0 0) l2 := Ap.fresh h2
      replace h2 := owns_of_belowN h2 ka
      clear hHeld
      refine hK.out _ (W.alloc (.cells #[] 9)) ?G28 (fun hHeld => ?_)
      case G28 => exact KEEP.out _ hb2
      clear hK K
      try simp only [Act.put, List.getElem_toArray, List.getElem_cons_zero, List.getElem_cons_succ, List.setIfInBounds_toArray, List.set_cons_zero, List.set_cons_succ]
      obtain ⟨l1, hl1⟩ : ∃ l : Value, l = .slice (some ⟨W.heap.size, 0, none⟩) 0 0 := ⟨_, rfl⟩
      rw [← hl1] at h1 ap12
      try rw [← hl1]
      obtain ⟨W2, hW2⟩ : ∃ W2, W2 = W.alloc (.cells #[] 9) := ⟨_, rfl⟩
      rw [← hW2] at hb2 h1 h2
      rw [← hW2]
      replace h := hb2
      clear hl1 hW2 ka hb2
      have hN := N011.out W2 h l1 h1 l2 h2 ap12
      rw [hΦ] at hN
      exact wpAny_atL hN (by kernel_rfl) (by kernel_rfl)
  have N010 : Hid (∀ (W : World) (h : Below wz.heap.size wz W) (l1 : Value) (h1 : W.ownsRow wz.heap.size 9 1 l1 0 []), Φ 7 #[true, true, false, true, true, false, true, true, true, false, false, true, true, false, true, true, false, false] { tmps := #[.agg #[.string d.task, .slice a0 d.on.length c0, .slice a1 d.ins.length c1, .slice a2 d.envs.length c2, .bool d.keep], .pointer (some ⟨w.heap.size, 0, none⟩), .pointer (some ⟨w.heap.size + 1, 0, none⟩), .pointer (some ⟨w.heap.size, 0, none⟩), .string d.task, undef, .pointer (some ⟨w.heap.size, 1, none⟩), .slice a0 d.on.length c0, undef, l1, .pointer (some ⟨w.heap.size, 2, none⟩), .slice a1 d.ins.length c1, undef, undef, .pointer (some ⟨w.heap.size, 3, none⟩), .slice a2 d.envs.length c2, undef, .pointer (some ⟨w.heap.size, 4, none⟩), .bool d.keep, undef], defers := [] } W) := by
    intro W h l1 h1
    rw [hΦ]
    have hHeld := KEEP.out W h
    refine wpAnyH_ready (rs := [2, 10]) (by kernel_rfl) (by simp) ?_
    refine AllReadyH.cons rfl (fun K hK => ?_) (AllReadyH.cons rfl (fun K hK => ?_) AllReadyH.nil)
    · go_simp
      have ka : Below W.heap.size W (W.alloc (.cells #[] 9)) := (Below.refl _ _).alloc (Nat.le_refl _) _
      have hb2 : Below wz.heap.size wz (W.alloc (.cells #[] 9)) := h.trans (ka.mono h.size)
      have h0 : (W.alloc (.cells #[] 9)).ownsRow wz.heap.size 9 1 (.slice (some ⟨W.heap.size, 0, none⟩) 0 0) 0 [] := World.ownsRow_lit W #[] 0 h.size (by unfold maxLen; omega) rfl
      have ap01 : Ap (.slice (some ⟨W.heap.size, 0, none⟩) 0 0) l1 := Ap.fresh h1
      replace h1 := owns_of_belowN h1 ka
      clear hHeld
      refine hK.out _ (W.alloc (.cells #[] 9)) ?G29 (fun hHeld => ?_)
      case G29 => exact KEEP.out _ hb2
      clear hK K
      try simp only [Act.put, List.getElem_toArray, List.getElem_cons_zero, List.getElem_cons_succ, List.setIfInBounds_toArray, List.set_cons_zero, List.set_cons_succ]
      obtain ⟨l0, hl0⟩ : ∃ l : Value, l = .slice (some ⟨W.heap.size, 0, none⟩) 0 0 := ⟨_, rfl⟩
      rw [← hl0] at h0 ap01
      try rw [← hl0]
      obtain ⟨W2, hW2⟩ : ∃ W2, W2 = W.alloc (.cells #[] 9) := ⟨_, rfl⟩
      rw [← hW2] at hb2 h0 h1
      rw [← hW2]
      replace h := hb2
      clear hl0 hW2 ka hb2
      have hN := N110.out W2 h l0 h0 l1 h1 ap01
      rw [hΦ] at hN
      exact wpAny_atL hN (by kernel_rfl) (by kernel_rfl)
    · go_simp
      have ka : Below W.heap.size W (W.alloc (.cells #[] 9)) := (Below.refl _ _).alloc (Nat.le_refl _) _
      have hb2 : Below wz.heap.size wz (W.alloc (.cells #[] 9)) := h.trans (ka.mono h.size)
      have h2 : (W.alloc (.cells #[] 9)).ownsRow wz.heap.size 9 1 (.slice (some ⟨W.heap.size, 0, none⟩) 0 0) 0 [] := World.ownsRow_lit W #[] 0 h.size (by unfold maxLen; omega) rfl
      have ap12 : Ap l1 (.slice (some ⟨W.heap.size, 0, none⟩) 0 0) := (Ap.fresh h1).symm
      replace h1 := owns_of_belowN h1 ka
      clear hHeld
      refine hK.out _ (W.alloc (.cells #[] 9)) ?G30 (fun hHeld => ?_)
      case G30 => exact KEEP.out _ hb2
      clear hK K
      try simp only [Act.put, List.getElem_toArray, List.getElem_cons_zero, List.getElem_cons_succ, List.setIfInBounds_toArray, List.set_cons_zero, List.set_cons_succ]
      obtain ⟨l2, hl2⟩ : ∃ l : Value, l = .slice (some ⟨W.heap.size, 0, none⟩) 0 0 := ⟨_, rfl⟩
      rw [← hl2] at h2 ap12
      try rw [← hl2]
      obtain ⟨W2, hW2⟩ : ∃ W2, W2 = W.alloc (.cells #[] 9) := ⟨_, rfl⟩
      rw [← hW2] at hb2 h2 h1
      rw [← hW2]
      replace h := hb2
      clear hl2 hW2 ka hb2
      have hN := N011.out W2 h l1 h1 l2 h2 ap12
      rw [hΦ] at hN
      exact wpAny_atL hN (by kernel_rfl) (by kernel_rfl)
  have N100 : Hid (∀ (W : World) (h : Below wz.heap.size wz W) (l0 : Value) (h0 : W.ownsRow wz.heap.size 9 1 l0 0 []), Φ 7 #[true, true, true, true, true, false, false, true, true, false, false, true, true, false, true, true, false, false] { tmps := #[.agg #[.string d.task, .slice a0 d.on.length c0, .slice a1 d.ins.length c1, .slice a2 d.envs.length c2, .bool d.keep], .pointer (some ⟨w.heap.size, 0, none⟩), .pointer (some ⟨w.heap.size + 1, 0, none⟩), .pointer (some ⟨w.heap.size, 0, none⟩), .string d.task, l0, .pointer (some ⟨w.heap.size, 1, none⟩), .slice a0 d.on.length c0, undef, undef, .pointer (some ⟨w.heap.size, 2, none⟩), .slice a1 d.ins.length c1, undef, undef, .pointer (some ⟨w.heap.size, 3, none⟩), .slice a2 d.envs.length c2, undef, .pointer (some ⟨w.heap.size, 4, none⟩), .bool d.keep, undef], defers := [] } W) := by
    intro W h l0 h0
    rw [hΦ]
    have hHeld := KEEP.out W h
    refine wpAnyH_ready (rs := [5, 6, 10]) (by kernel_rfl) (by simp) ?_
    refine AllReadyH.cons rfl (fun K hK => ?_) (AllReadyH.cons rfl (fun K hK => ?_) (AllReadyH.cons rfl (fun K hK => ?_) AllReadyH.nil))
    · rw [if_pos (by rfl)]
      refine wp_append_srcL _ _ 26 rfl wz.heap.size 9 i0 (.string ⟨#[]⟩) 1 16 Try.underlying26 hi hz0 hz1 hz2 rfl (by decide) l0 0 [] rfl h0 (.slice a0 d.on.length c0) d.on.length 0 (strsV d.on) rfl (SR0.out W h) strs_oneL (by unfold maxLen; omega) (by omega) h.size ?_
      intro v0 W2 o2 gr2 loc2
      rw [Nat.zero_add, List.nil_append] at o2
      have hb2 : Below wz.heap.size wz W2 := Below.grown h gr2 h.size (fun j hj => (h0.lt _ hj).1)
      clear hHeld
      refine hK.out _ _ ?G31 (fun hHeld => ?_)
      case G31 => exact KEEP.out _ hb2
      clear hK K
      try simp only [Act.put, List.getElem_toArray, List.getElem_cons_zero, List.getElem_cons_succ, List.setIfInBounds_toArray, List.set_cons_zero, List.set_cons_succ]
      replace h := hb2
      replace h0 := o2
      have hN := N200.out W2 h l0 v0 h0
      rw [hΦ] at hN
      exact wpAny_atL hN (by kernel_rfl) (by kernel_rfl)
    · go_simp
      have ka : Below W.heap.size W (W.alloc (.cells #[] 9)) := (Below.refl _ _).alloc (Nat.le_refl _) _
      have hb2 : Below wz.heap.size wz (W.alloc (.cells #[] 9)) := h.trans (ka.mono h.size)
      have h1 : (W.alloc (.cells #[] 9)).ownsRow wz.heap.size 9 1 (.slice (some ⟨W.heap.size, 0, none⟩) 0 0) 0 [] := World.ownsRow_lit W #[] 0 h.size (by unfold maxLen; omega) rfl
      have ap01 : Ap l0 (.slice (some ⟨W.heap.size, 0, none⟩) 0 0) := (Ap.fresh h0).symm
      replace h0 := owns_of_belowN h0 ka
      clear hHeld
      refine hK.out _ (W.alloc (.cells #[] 9)) ?G32 (fun hHeld => ?_)
      case G32 => exact KEEP.out _ hb2
      clear hK K
      try simp only [Act.put, List.getElem_toArray, List.getElem_cons_zero, List.getElem_cons_succ, List.setIfInBounds_toArray, List.set_cons_zero, List.set_cons_succ]
      obtain ⟨l1, hl1⟩ : ∃ l : Value, l = .slice (some ⟨W.heap.size, 0, none⟩) 0 0 := ⟨_, rfl⟩
      rw [← hl1] at h1 ap01
      try rw [← hl1]
      obtain ⟨W2, hW2⟩ : ∃ W2, W2 = W.alloc (.cells #[] 9) := ⟨_, rfl⟩
      rw [← hW2] at hb2 h1 h0
      rw [← hW2]
      replace h := hb2
      clear hl1 hW2 ka hb2
      have hN := N110.out W2 h l0 h0 l1 h1 ap01
      rw [hΦ] at hN
      exact wpAny_atL hN (by kernel_rfl) (by kernel_rfl)
    · go_simp
      have ka : Below W.heap.size W (W.alloc (.cells #[] 9)) := (Below.refl _ _).alloc (Nat.le_refl _) _
      have hb2 : Below wz.heap.size wz (W.alloc (.cells #[] 9)) := h.trans (ka.mono h.size)
      have h2 : (W.alloc (.cells #[] 9)).ownsRow wz.heap.size 9 1 (.slice (some ⟨W.heap.size, 0, none⟩) 0 0) 0 [] := World.ownsRow_lit W #[] 0 h.size (by unfold maxLen; omega) rfl
      have ap02 : Ap l0 (.slice (some ⟨W.heap.size, 0, none⟩) 0 0) := (Ap.fresh h0).symm
      replace h0 := owns_of_belowN h0 ka
      clear hHeld
      refine hK.out _ (W.alloc (.cells #[] 9)) ?G33 (fun hHeld => ?_)
      case G33 => exact KEEP.out _ hb2
      clear hK K
      try simp only [Act.put, List.getElem_toArray, List.getElem_cons_zero, List.getElem_cons_succ, List.setIfInBounds_toArray, List.set_cons_zero, List.set_cons_succ]
      obtain ⟨l2, hl2⟩ : ∃ l : Value, l = .slice (some ⟨W.heap.size, 0, none⟩) 0 0 := ⟨_, rfl⟩
      rw [← hl2] at h2 ap02
      try rw [← hl2]
      obtain ⟨W2, hW2⟩ : ∃ W2, W2 = W.alloc (.cells #[] 9) := ⟨_, rfl⟩
      rw [← hW2] at hb2 h2 h0
      rw [← hW2]
      replace h := hb2
      clear hl2 hW2 ka hb2
      have hN := N101.out W2 h l0 h0 l2 h2 ap02
      rw [hΦ] at hN
      exact wpAny_atL hN (by kernel_rfl) (by kernel_rfl)
  have N000 : Hid (∀ (W : World) (h : Below wz.heap.size wz W), Φ 8 #[true, true, false, true, true, false, false, true, true, false, false, true, true, false, true, true, false, false] { tmps := #[.agg #[.string d.task, .slice a0 d.on.length c0, .slice a1 d.ins.length c1, .slice a2 d.envs.length c2, .bool d.keep], .pointer (some ⟨w.heap.size, 0, none⟩), .pointer (some ⟨w.heap.size + 1, 0, none⟩), .pointer (some ⟨w.heap.size, 0, none⟩), .string d.task, undef, .pointer (some ⟨w.heap.size, 1, none⟩), .slice a0 d.on.length c0, undef, undef, .pointer (some ⟨w.heap.size, 2, none⟩), .slice a1 d.ins.length c1, undef, undef, .pointer (some ⟨w.heap.size, 3, none⟩), .slice a2 d.envs.length c2, undef, .pointer (some ⟨w.heap.size, 4, none⟩), .bool d.keep, undef], defers := [] } W) := by
    intro W h
    rw [hΦ]
    have hHeld := KEEP.out W h
    refine wpAnyH_ready (rs := [2, 6, 10]) (by kernel_rfl) (by simp) ?_
    refine AllReadyH.cons rfl (fun K hK => ?_) (AllReadyH.cons rfl (fun K hK => ?_) (AllReadyH.cons rfl (fun K hK => ?_) AllReadyH.nil))
    · go_simp
      have ka : Below W.heap.size W (W.alloc (.cells #[] 9)) := (Below.refl _ _).alloc (Nat.le_refl _) _
      have hb2 : Below wz.heap.size wz (W.alloc (.cells #[] 9)) := h.trans (ka.mono h.size)
      have h0 : (W.alloc (.cells #[] 9)).ownsRow wz.heap.size 9 1 (.slice (some ⟨W.heap.size, 0, none⟩) 0 0) 0 [] := World.ownsRow_lit W #[] 0 h.size (by unfold maxLen; omega) rfl
      clear hHeld
      refine hK.out _ (W.alloc (.cells #[] 9)) ?G34 (fun hHeld => ?_)
      case G34 => exact KEEP.out _ hb2
      clear hK K
      try simp only [Act.put, List.getElem_toArray, List.getElem_cons_zero, List.getElem_cons_succ, List.setIfInBounds_toArray, List.set_cons_zero, List.set_cons_succ]
      obtain ⟨l0, hl0⟩ : ∃ l : Value, l = .slice (some ⟨W.heap.size, 0, none⟩) 0 0 := ⟨_, rfl⟩
      rw [← hl0] at h0 
      try rw [← hl0]
      obtain ⟨W2, hW2⟩ : ∃ W2, W2 = W.alloc (.cells #[] 9) := ⟨_, rfl⟩
      rw [← hW2] at hb2 h0 
      rw [← hW2]
      replace h := hb2
      clear hl0 hW2 ka hb2
      have hN := N100.out W2 h l0 h0
      rw [hΦ] at hN
      exact wpAny_atL hN (by kernel_rfl) (by kernel_rfl)
    · go_simp
      have ka : Below W.heap.size W (W.alloc (.cells #[] 9)) := (Below.refl _ _).alloc (Nat.le_refl _) _
      have hb2 : Below wz.heap.size wz (W.alloc (.cells #[] 9)) := h.trans (ka.mono h.size)
      have h1 : (W.alloc (.cells #[] 9)).ownsRow wz.heap.size 9 1 (.slice (some ⟨W.heap.size, 0, none⟩) 0 0) 0 [] := World.ownsRow_lit W #[] 0 h.size (by unfold maxLen; omega) rfl
      clear hHeld
      refine hK.out _ (W.alloc (.cells #[] 9)) ?G35 (fun hHeld => ?_)
      case G35 => exact KEEP.out _ hb2
      clear hK K
      try simp only [Act.put, List.getElem_toArray, List.getElem_cons_zero, List.getElem_cons_succ, List.setIfInBounds_toArray, List.set_cons_zero, List.set_cons_succ]
      obtain ⟨l1, hl1⟩ : ∃ l : Value, l = .slice (some ⟨W.heap.size, 0, none⟩) 0 0 := ⟨_, rfl⟩
      rw [← hl1] at h1 
      try rw [← hl1]
      obtain ⟨W2, hW2⟩ : ∃ W2, W2 = W.alloc (.cells #[] 9) := ⟨_, rfl⟩
      rw [← hW2] at hb2 h1 
      rw [← hW2]
      replace h := hb2
      clear hl1 hW2 ka hb2
      have hN := N010.out W2 h l1 h1
      rw [hΦ] at hN
      exact wpAny_atL hN (by kernel_rfl) (by kernel_rfl)
    · go_simp
      have ka : Below W.heap.size W (W.alloc (.cells #[] 9)) := (Below.refl _ _).alloc (Nat.le_refl _) _
      have hb2 : Below wz.heap.size wz (W.alloc (.cells #[] 9)) := h.trans (ka.mono h.size)
      have h2 : (W.alloc (.cells #[] 9)).ownsRow wz.heap.size 9 1 (.slice (some ⟨W.heap.size, 0, none⟩) 0 0) 0 [] := World.ownsRow_lit W #[] 0 h.size (by unfold maxLen; omega) rfl
      clear hHeld
      refine hK.out _ (W.alloc (.cells #[] 9)) ?G36 (fun hHeld => ?_)
      case G36 => exact KEEP.out _ hb2
      clear hK K
      try simp only [Act.put, List.getElem_toArray, List.getElem_cons_zero, List.getElem_cons_succ, List.setIfInBounds_toArray, List.set_cons_zero, List.set_cons_succ]
      obtain ⟨l2, hl2⟩ : ∃ l : Value, l = .slice (some ⟨W.heap.size, 0, none⟩) 0 0 := ⟨_, rfl⟩
      rw [← hl2] at h2 
      try rw [← hl2]
      obtain ⟨W2, hW2⟩ : ∃ W2, W2 = W.alloc (.cells #[] 9) := ⟨_, rfl⟩
      rw [← hW2] at hb2 h2 
      rw [← hW2]
      replace h := hb2
      clear hl2 hW2 ka hb2
      have hN := N001.out W2 h l2 h2
      rw [hΦ] at hN
      exact wpAny_atL hN (by kernel_rfl) (by kernel_rfl)
  obtain ⟨Wd, hWd⟩ : ∃ W, W = wz.drew := ⟨_, rfl⟩
  rw [← hWd] at hd0
  rw [← hWd]
  have hN := N000.out Wd hd0
  rw [hΦ] at hN
  exact wpAny_atL hN (by kernel_rfl) (by kernel_rfl)

set_option maxHeartbeats 8000000 in
set_option maxRecDepth 100000 in
theorem specAt_c (S : Nat → Prop) (v : Value) (xs : List RuleD) (t : ByteArray) (w : World) (hv : RowIn shRuleO S w v xs) (hB : ∀ b, S b → b < w.heap.size) (hw : wtRow wtRule xs ≤ 1048576) (ht : t.size ≤ 1048576) :
    Calls Try.prog 33 #[v, .string t] w fun e w' => ∃ u0 u1 u2, e = .returned (.tuple #[.agg #[.string (atR xs t).task, u0, u1, u2, .bool (atR xs t).keep], .bool (atOk xs t)]) ∧ Rec3 w.heap.size w'.heap.size w' u0 u1 u2 (atR xs t) ∧ Below w.heap.size w w' := by
  have hbx : Below w.heap.size w (w.alloc (.cells #[.string ⟨#[]⟩, .slice none 0 0, .slice none 0 0, .slice none 0 0, .bool false] 52 (0, 0))) := (Below.refl _ _).alloc (Nat.le_refl _) _
  have hbz : (w.alloc (.cells #[.string ⟨#[]⟩, .slice none 0 0, .slice none 0 0, .slice none 0 0, .bool false] 52 (0, 0))).heap[w.heap.size]? = some (.cells #[.string ⟨#[]⟩, .slice none 0 0, .slice none 0 0, .slice none 0 0, .bool false] 52 (0, 0)) := vheap_new _ _
  obtain ⟨a, cap, rfl, hl, hcc, ha⟩ := hv
  unfold maxLen at hl
  have HNO : Hid ((∀ j (hj : j < xs.length), isAt t xs[j] = false) → atR xs t = ⟨t, [], [], [], false⟩ ∧ atOk xs t = false) := fun h => by
    have he := findNone h
    unfold atR atOk
    rw [he]
    exact ⟨rfl, rfl⟩
  have HYES : Hid (∀ k (hk : k < xs.length), isAt t xs[k] = true → (∀ j (hj : j < xs.length), j < k → isAt t xs[j] = false) → atR xs t = xs[k] ∧ atOk xs t = true) := fun k hk h1 h2 => by
    have he := findAt hk h1 h2
    unfold atR atOk
    rw [he]
    exact ⟨rfl, rfl⟩
  obtain ⟨R, hR⟩ : ∃ R, R = atR xs t := ⟨_, rfl⟩
  obtain ⟨ok, hok⟩ : ∃ R, R = atOk xs t := ⟨_, rfl⟩
  rw [← hR, ← hok] at HNO HYES
  rw [← hR, ← hok]
  have htm : t.size ≤ maxLen := by unfold maxLen; omega
  clear hR hok
  go_enter Try.func33, Try.ntmps33
  go_wp2_with fail
  go_loopw [6] (fun vi wr => ∃ k : Nat, k ≤ xs.length ∧ vi = .int .i64 (k : Int) ∧ Hid (∀ j (hj : j < xs.length), j < k → isAt t xs[j] = false) ∧ wr.heap[w.heap.size]? = some (.cells #[.string ⟨#[]⟩, .slice none 0 0, .slice none 0 0, .slice none 0 0, .bool false] 52 (0, 0)) ∧ Below w.heap.size w wr) (fun vi _ => xs.length - (intOf vi).toNat)
  case atStart => exact ⟨0, Nat.zero_le _, rfl, (fun j hj h => by omega), hbz, hbx⟩
  case round =>
    obtain ⟨k, hk, rfl, hno, hR1, hbr⟩ := hrel
    clear hbz hbx
    by_cases hlt' : k < xs.length
    · rcases ha with rfl | ⟨b, off, rfl, hlt, ha⟩
      · simp at hlt'
      obtain ⟨cs, hL, hcell⟩ := ha k hlt'
      have hL2 := shRuleO.keep (.of hbr hB) hL
      have hcell2 := hcell.keep (.of hbr hB) hlt
      have hBr : ∀ b, S b → b < wr.heap.size := fun b h => Nat.lt_of_lt_of_le (hB b h) hbr.size
      have hwd : wtRule xs[k] ≤ 1048576 := by have := wt_wtRow wtRule (List.getElem_mem hlt'); omega
      have HC := hidden (specCopy_c S xs[k] cs wr hL2 hBr hwd)
      have hal := text_alike xs[k].task t
      have HY := hidden (fun h => HYES.out k hlt' h hno.out)
      have HN : Hid (isAt t xs[k] = false → ∀ j (hj : j < xs.length), j < k + 1 → isAt t xs[j] = false) := fun h j hj hjk => by
        by_cases e : j = k
        · subst e; exact h
        · exact hno.out j hj (by omega)
      have hia : isAt t xs[k] = decide (xs[k].task = t) := rfl
      obtain ⟨d, hd⟩ : ∃ d, d = xs[k] := ⟨_, rfl⟩
      rw [← hd] at hL2 HC hal HY HN hia
      obtain ⟨r, hr⟩ : ∃ r, r = isAt t d := ⟨_, rfl⟩
      rw [← hia, ← hr] at hal
      rw [← hr] at HY HN
      clear ha hL hcell hwd hd hr hia hno HNO HYES
      obtain ⟨u0, u1, u2, rfl, s_task, r0, p0, r1, p1, r2, p2⟩ := hL2
      obtain ⟨a0, c0, e0⟩ := r0.slice
      obtain ⟨a1, c1, e1⟩ := r1.slice
      obtain ⟨a2, c2, e2⟩ := r2.slice
      subst e0 e1 e2
      have z0 : wr.cell? ⟨b, off + k * 5, none⟩ = some (.string d.task) := hcell2 0 (by simp)
      have z1 : wr.cell? ⟨b, off + k * 5 + 1, none⟩ = some (.slice a0 d.on.length c0) := hcell2 1 (by simp)
      have z2 : wr.cell? ⟨b, off + k * 5 + 2, none⟩ = some (.slice a1 d.ins.length c1) := hcell2 2 (by simp)
      have z3 : wr.cell? ⟨b, off + k * 5 + 3, none⟩ = some (.slice a2 d.envs.length c2) := hcell2 3 (by simp)
      have z4 : wr.cell? ⟨b, off + k * 5 + 4, none⟩ = some (.bool d.keep) := hcell2 4 (by simp)
      have hki : (k : Int) < (xs.length : Int) := by omega
      have HR1 := hidden hR1
      clear hcell2 s_task r0 p0 r1 p1 r2 p2 hR1
      cases r with
      | true =>
        have hm0 : w.heap.size + 1 ≤ wr.heap.size := (Array.getElem?_eq_some_iff.1 HR1.out).1
        obtain ⟨eR, eok⟩ := HY.out rfl
        subst eR eok
        clear HY HN
        go_wp2_with fail
        go_at_call 72
        refine HC.out.mono ?_
        rintro e w2 ⟨v0, v1, v2, rfl, R3, b2⟩
        have k2 := hbr.trans (b2.mono hbr.size)
        have hR2 := box_below HR1.out b2
        have fy := vblk_frozen hR2
        have y0 := vblk_cell hR2 0
        have y1 := vblk_cell hR2 1
        have y2 := vblk_cell hR2 2
        have y3 := vblk_cell hR2 3
        have y4 := vblk_cell hR2 4
        simp only [List.getElem?_toArray, List.getElem?_cons_succ, List.getElem?_cons_zero] at y0 y1 y2 y3 y4
        have HR3 := hidden R3
        obtain ⟨g0, j0, g1, j1, g2, j2, ev0, ev1, ev2⟩ := R3.slices
        have HO : Hid (∀ W : World, W.heap.size = w2.heap.size → Kp (fun b => b ≠ w.heap.size) w2 W → Rec3 w.heap.size W.heap.size W v0 v1 v2 R) := fun W hWs hk2 => by
          have mk : ∀ {u : Value} {ss : List ByteArray}, StrR wr.heap.size w2.heap.size w2 u ss → StrR w.heap.size W.heap.size W u ss := fun {u ss} o =>
            ⟨⟨owns_kept hk2 (fun g hg => by have := (o.1.2 g hg).1; show g ≠ _; omega) o.1.1, fun g hg => ⟨by have := (o.1.2 g hg).1; omega, by have := (o.1.2 g hg).2; omega⟩⟩, Nat.le_refl _⟩
          exact ⟨mk HR3.out.a0, mk HR3.out.a1, mk HR3.out.a2, HR3.out.s01, HR3.out.s02, HR3.out.s12, HR3.out.sn⟩
        subst ev0 ev1 ev2
        clear hR2 b2 HC z0 z1 z2 z3 z4 R3 HR3 HR1
        go_wp2_with fail
        refine bodyPost_ret (v := .tuple #[.agg #[.string R.task, .slice g0 R.on.length j0, .slice g1 R.ins.length j1, .slice g2 R.envs.length j2, .bool R.keep], .bool true]) (by simp [results, Try.results33, go_sem, y0, y1, y2, y3, y4]) rfl ⟨_, _, _, rfl, HO.out _ (by simp [World.setCell]) ?_, ?_⟩
        · (repeat (refine Kp.trans ?_ (Kp.set (by simp))))
          exact fun b hb => rfl
        · (repeat (refine Below.setCell ?_ (by simp) _))
          exact k2
      | false =>
        have HN2 := hidden (HN.out rfl)
        clear HY HN HC
        go_wp2_with fail
        go_roundw
        case rel => exact ⟨k + 1, by omega, by go_num, HN2.out, HR1.out, hbr⟩
        case measure => simp [intOf]; omega
    · have he : k = xs.length := by omega
      subst he
      obtain ⟨eR, eok⟩ := HNO.out (fun j hj => hno.out j hj hj)
      subst eR eok
      have fy := vblk_frozen hR1
      have y0 := vblk_cell hR1 0
      have y1 := vblk_cell hR1 1
      have y2 := vblk_cell hR1 2
      have y3 := vblk_cell hR1 3
      have y4 := vblk_cell hR1 4
      simp only [List.getElem?_toArray, List.getElem?_cons_succ, List.getElem?_cons_zero] at y0 y1 y2 y3 y4
      clear ha hno HNO HYES hR1
      go_wp2_with fail
      refine bodyPost_ret (v := .tuple #[.agg #[.string t, .slice none 0 0, .slice none 0 0, .slice none 0 0, .bool false], .bool false]) (by simp [results, Try.results33, go_sem, y0, y1, y2, y3, y4]) rfl ⟨_, _, _, rfl, rec3_nil htm, ?_⟩
      (repeat (refine Below.setCell ?_ (by simp) _))
      exact hbr
end Go.Proofs.Ytiadcebolcdhbaa
