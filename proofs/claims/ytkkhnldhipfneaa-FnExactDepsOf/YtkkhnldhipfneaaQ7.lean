/-
  Contracts for the walks, several texts in one: each part says what it proves, and under which conditions.
-/
import Derived.Deep.RegionHeld
import Derived.SliceStrings
import Derived.ChangeArms
import Derived.ChangeOld
import Derived.ChangeAt
import Derived.OpenShut
import Derived.ShutString
import Derived.Test.YtkkhnldhipfneaaQ6
import Derived.Test.YtkkhnldhipfneaaQ4
import Derived.Test.YtkkhnldhipfneaaQ5
import Derived.Test.YtkkhnldhipfneaaQ1

/-! A rule that was answered, in memory of its own, and marks put into it: contracts for the walks; conditions: it holds at most 2 to the 20. -/
namespace Go.Proofs.Ytkkhnldhipfneaa
open Go.RowKit
set_option linter.unusedSimpArgs false
set_option linter.unusedVariables false

/-- Two lists do not share a block. -/
def Ap (a b : Value) : Prop := ∀ g, a.ownBlock = some g → b.ownBlock ≠ some g
theorem Ap.symm {a b : Value} (h : Ap a b) : Ap b a := fun g hg k => h g k hg
theorem Ap.ne {a b : Value} (h : Ap a b) : b.ownBlock = none ∨ b.ownBlock ≠ a.ownBlock := by
  cases hb : b.ownBlock with
  | none => exact .inl rfl
  | some g => exact .inr fun k => h g k.symm hb
theorem Ap.lo {lo hi lo' hi' : Nat} {a b : Value} (ha : ∀ g, a.ownBlock = some g → Ow lo hi g) (hb : ∀ g, b.ownBlock = some g → Ow lo' hi' g) (h : hi ≤ lo') : Ap a b := fun g h1 h2 => by
  have := (ha g h1).2; have := (hb g h2).1; omega
theorem Ap.nil {b : Value} : Ap (.slice none 0 0) b := fun g h => by simp [Value.ownBlock] at h
/-- The lists of a rule that was answered. -/
structure Rec3 (lo hi : Nat) (W : World) (u0 u1 u2 : Value) (d : RuleD) : Prop where
  a0 : StrR lo hi W u0 d.on
  a1 : StrR lo hi W u1 d.ins
  a2 : StrR lo hi W u2 d.envs
  s01 : Ap u0 u1
  s02 : Ap u0 u2
  s12 : Ap u1 u2
  sn : d.task.size ≤ maxLen ∧ saneP d.on ∧ saneP d.ins ∧ saneP d.envs
theorem Rec3.below {lo hi : Nat} {W W' : World} {u0 u1 u2 : Value} {d : RuleD} (h : Rec3 lo hi W u0 u1 u2 d) (k : Below W.heap.size W W') : Rec3 lo hi W' u0 u1 u2 d := ⟨h.a0.below k, h.a1.below k, h.a2.below k, h.s01, h.s02, h.s12, h.sn⟩
theorem Rec3.chg {lo hi : Nat} {W W' : World} {u0 u1 u2 : Value} {d : RuleD} {S : Nat → Prop} (h : Rec3 lo hi W u0 u1 u2 d) (k : Chg S W W') (n : ∀ b, Ow lo hi b → ¬ S b) : Rec3 lo hi W' u0 u1 u2 d := ⟨h.a0.chg k n, h.a1.chg k n, h.a2.chg k n, h.s01, h.s02, h.s12, h.sn⟩
theorem Rec3.lies {lo hi : Nat} {W : World} {u0 u1 u2 : Value} {d : RuleD} (h : Rec3 lo hi W u0 u1 u2 d) : shRule.lies (Ow lo hi) W [.string d.task, u0, u1, u2, .bool d.keep] d := ⟨u0, u1, u2, rfl, h.sn.1, h.a0.1.plain, h.sn.2.1, h.a1.1.plain, h.sn.2.2.1, h.a2.1.plain, h.sn.2.2.2⟩
theorem Rec3.slices {lo hi : Nat} {W : World} {u0 u1 u2 : Value} {d : RuleD} (h : Rec3 lo hi W u0 u1 u2 d) : ∃ q0 c0 q1 c1 q2 c2, u0 = .slice q0 d.on.length c0 ∧ u1 = .slice q1 d.ins.length c1 ∧ u2 = .slice q2 d.envs.length c2 := by
  obtain ⟨q0, c0, e0⟩ := h.a0.1.slice
  obtain ⟨q1, c1, e1⟩ := h.a1.1.slice
  obtain ⟨q2, c2, e2⟩ := h.a2.1.slice
  exact ⟨q0, c0, q1, c1, q2, c2, e0, e1, e2⟩
/-- The marks that were put into it. -/
structure RecM (D : Nat → Prop) (W : World) (u0 u1 u2 : Value) (d : RuleD) : Prop where
  m0 : W.ownsRow 0 9 1 u0 d.on.length (strsV (marksS 1 d.on.length))
  m1 : W.ownsRow 0 9 1 u1 d.ins.length (strsV (marksS (1 + d.on.length) d.ins.length))
  m2 : W.ownsRow 0 9 1 u2 d.envs.length (strsV (marksS (1 + d.on.length + d.ins.length) d.envs.length))
  b0 : ∀ g, u0.ownBlock = some g → D g
  b1 : ∀ g, u1.ownBlock = some g → D g
  b2 : ∀ g, u2.ownBlock = some g → D g
theorem RecM.keep {D : Nat → Prop} {W W' : World} {u0 u1 u2 : Value} {d : RuleD} (h : RecM D W u0 u1 u2 d) (k : Kp D W W') : RecM D W' u0 u1 u2 d := ⟨owns_kept k h.b0 h.m0, owns_kept k h.b1 h.m1, owns_kept k h.b2 h.m2, h.b0, h.b1, h.b2⟩
theorem lens_wt {d : RuleD} (h : wtRule d ≤ 1048576) : d.on.length ≤ 1048576 ∧ d.ins.length ≤ 1048576 ∧ d.envs.length ≤ 1048576 := by
  unfold wtRule bulkS at h; omega

end Go.Proofs.Ytkkhnldhipfneaa

/-! The rule of a task, as the program finds it, and its copy: contracts for the walks; conditions: the rules lie in memory, and hold at most 2 to the 20. -/
namespace Go.Proofs.Ytkkhnldhipfneaa
open Go.RowKit
set_option linter.unusedSimpArgs false
set_option linter.unusedVariables false

/-- The first rule of a task, or one of this task alone. -/
def isAt (t : ByteArray) (d : RuleD) : Bool := decide (d.task = t)
def atR (xs : List RuleD) (t : ByteArray) : RuleD := (xs.find? (isAt t)).getD ⟨t, [], [], [], false⟩
def atOk (xs : List RuleD) (t : ByteArray) : Bool := (xs.find? (isAt t)).isSome
theorem findAt {xs : List RuleD} {t : ByteArray} {k : Nat} (h : k < xs.length) (hy : isAt t xs[k] = true) (hn : ∀ j (hj : j < xs.length), j < k → isAt t xs[j] = false) : xs.find? (isAt t) = some xs[k] := by
  rw [List.find?_eq_some_iff_getElem]
  exact ⟨hy, k, h, rfl, fun j hj => by simpa using hn j (by omega) hj⟩
theorem findNone {xs : List RuleD} {t : ByteArray} (hn : ∀ j (hj : j < xs.length), isAt t xs[j] = false) : xs.find? (isAt t) = none := by
  rw [List.find?_eq_none]
  intro x hx
  obtain ⟨j, hj, rfl⟩ := List.mem_iff_getElem.1 hx
  simp [hn j hj]
theorem firstI_find (xs : List RuleD) (t : ByteArray) : (firstI (isAt t) xs = -1 ∧ xs.find? (isAt t) = none) ∨ ∃ k : Nat, ∃ h : k < xs.length, firstI (isAt t) xs = (k : Int) ∧ xs.find? (isAt t) = some xs[k] := by
  by_cases h : xs.findIdx (isAt t) < xs.length
  · refine .inr ⟨_, h, by unfold firstI; rw [if_pos h], findAt h (List.findIdx_getElem) (fun j hj hlt => by simpa using List.not_of_lt_findIdx hlt)⟩
  · refine .inl ⟨by unfold firstI; rw [if_neg h], findNone fun j hj => by simpa using List.not_of_lt_findIdx (p := isAt t) (by omega : j < xs.findIdx (isAt t))⟩
/-- What a rule that was answered is worth. -/
theorem atR_small {xs : List RuleD} {t : ByteArray} (hx : wtRow wtRule xs ≤ 1048576) (ht : t.size ≤ 1048576) : wtRule (atR xs t) ≤ 1048576 := by
  unfold atR
  cases h : xs.find? (isAt t) with
  | none => show wtRule ⟨t, [], [], [], false⟩ ≤ _; unfold wtRule bulkS; simp; exact ht
  | some d => have := wt_wtRow wtRule (List.mem_of_find?_eq_some h); show wtRule d ≤ _; omega
theorem rec3_nil {lo : Nat} {W : World} {t : ByteArray} (ht : t.size ≤ maxLen) : Rec3 lo W.heap.size W (.slice none 0 0) (.slice none 0 0) (.slice none 0 0) ⟨t, [], [], [], false⟩ := by
  have h : StrR lo W.heap.size W (.slice none 0 0) [] := ⟨⟨World.ownsRow_nil _ _ _ _, fun g hg => by simp [Value.ownBlock] at hg⟩, Nat.le_refl _⟩
  have hs : saneP [] := ⟨Nat.zero_le _, fun s hs => by cases hs⟩
  exact ⟨h, h, h, Ap.nil, Ap.nil, Ap.nil, ht, hs, hs, hs⟩
set_option maxHeartbeats 2000000 in
set_option maxRecDepth 100000 in
theorem copyTexts_c (u : Value) (ps : List ByteArray) (w : World) (hu : Reads w u (strsV ps)) (hn : ps.length ≤ 1048576) (hsz : ∀ t ∈ ps, t.size ≤ 1048576) :
    Calls Try.prog 66 #[u] w fun e w' => ∃ u', e = .returned u' ∧ w'.ownsRow w.heap.size 9 1 u' ps.length (strsV ps) ∧ Below w.heap.size w w' := by
  obtain ⟨i0, hi, hz0, hz1, hz2⟩ := info_parts infoS
  obtain ⟨q, cap, rfl, _, hc⟩ := reads_strs hu
  clear hu
  go_enter Try.func66, Try.ntmps66
  go_wp2_with fail
  go_loopw [3, 8] (fun vx vi wr => ∃ (k : Nat) (vo : Value), k ≤ ps.length ∧ vi = .int .i64 (k : Int) ∧ vx = vo ∧ wr.ownsRow w.heap.size 9 1 vo k (strsV (ps.take k)) ∧ Below w.heap.size w wr) (fun _ vi _ => ps.length - (intOf vi).toNat)
  case atStart => exact ⟨0, _, Nat.zero_le _, rfl, rfl, (by rw [List.take_zero]; exact World.ownsRow_nil _ _ _ _), Below.refl _ _⟩
  case round =>
    obtain ⟨k, vo, hk, rfl, rfl, hown, hbr⟩ := hrel
    by_cases hlt' : k < ps.length
    · rcases hc with rfl | ⟨b0, off, rfl, hlt, hc⟩
      · simp at hlt'
      have e0 : wr.cell? ⟨b0, off + k, none⟩ = some (.string ps[k]) := (hbr.cell (by simpa using hlt)).trans (hc k hlt')
      have hsk := hsz ps[k] (List.getElem_mem hlt')
      have HT : Hid (strsV (ps.take k) ++ strsV [ps[k]] = strsV (ps.take (k + 1))) := by show _ = _; rw [strs_append, List.take_succ_eq_append_getElem hlt']
      obtain ⟨t, ht⟩ : ∃ t, t = ps[k] := ⟨_, rfl⟩
      rw [← ht] at e0 hsk HT
      have hki : (k : Int) < (ps.length : Int) := by omega
      clear hc ht hsz
      go_wp2_with (first
        | (go_at_call 50; refine (clone_c t _ hsk).mono ?_; rintro e w2 ⟨rfl, b2⟩
           have hown2 := owns_of_below hown b2)
        | (at_builtin; refine wpList_append_own _ rfl _ _ 26 rfl w.heap.size 9 i0 (.string ⟨#[]⟩) 1 16 Try.underlying26 hi hz0 hz1 hz2 rfl (by decide) _ k (strsV (ps.take k)) rfl (hown2.alloc _) ⟨w2.heap.size, 0, none⟩ 1 1 (strsV [t]) rfl rfl (cell_one_new _ _ _) (fun u hu => by simp [strsV] at hu; subst hu; rfl) (by unfold maxLen; omega) (by omega) (by have h1 := hbr.size; have h2 := b2.size; simp; omega) ?_))
      intro v3 w3 o3 gr3 _
      rw [HT.out] at o3
      have hbw2 := hbr.trans (b2.mono hbr.size)
      have hb3 : Below w.heap.size w w3 := Below.grown (hbw2.alloc hbw2.size _) gr3 (by have := hbw2.size; simp; omega) (fun j hj => (hown2.lt _ hj).1)
      clear gr3 hown2 hbw2
      go_wp2_with fail
      go_roundw
      case rel => exact ⟨k + 1, _, by omega, by go_num, rfl, o3, hb3⟩
      case measure => simp [intOf]; omega
    · have he : k = ps.length := by omega
      subst he
      rw [List.take_length] at hown
      clear hc hsz
      go_wp2_with fail
      go_ret
      exact ⟨_, rfl, hown, hbr⟩

end Go.Proofs.Ytkkhnldhipfneaa

/-! The graph of a plan, as the specification makes it, and what both sides answer of the Deps of a task: contracts for the walks; conditions: the plan lies in memory, and holds at most 2 to the 20. -/
namespace Go.Proofs.Ytkkhnldhipfneaa
open Go.RowKit
set_option linter.unusedSimpArgs false
set_option linter.unusedVariables false

set_option maxHeartbeats 16000000 in
set_option maxRecDepth 100000 in
theorem l13Graph_c (S : Nat → Prop) (d : PlanD) (cs : List Value) (w : World) (hd : shPlanO.lies S w cs d) (hB : ∀ b, S b → b < w.heap.size) (hw : wtPlan d ≤ 1048576) :
    Calls Try.prog 65 #[.agg cs.toArray] w fun e w' => ∃ vn vx, e = .returned (.agg #[vn, vx]) ∧ GrIn (Ow w.heap.size w'.heap.size) w' vn vx (d.tasks.take (min d.tasks.length d.deps.length)) (d.deps.take (min d.tasks.length d.deps.length)) ∧ Below w.heap.size w w' := by
  obtain ⟨iS, hiS, hzS0, hzS1, hzS2⟩ := info_parts infoS
  obtain ⟨iT, hiT, hzT0, hzT1, hzT2⟩ := info_parts infoSs
  obtain ⟨u0, u1, rfl, r0, p0, r1⟩ := hd
  unfold wtPlan at hw
  have hl1 : d.tasks.length ≤ 1048576 := by have : d.tasks.length ≤ bulkS d.tasks := (by unfold bulkS; omega); omega
  have hl2 : d.deps.length ≤ 1048576 := by have := len_wtRow wtStringS d.deps; omega
  have hwe : ∀ l ∈ d.deps, l.length ≤ 1048576 := fun l hl => by
    have h1 : wtStringS l ≤ wtRow wtStringS d.deps := wt_wtRow wtStringS hl
    have h2 : l.length ≤ wtStringS l := by unfold wtStringS bulkS; omega
    omega
  obtain ⟨m, hm⟩ : ∃ m, m = min d.tasks.length d.deps.length := ⟨_, rfl⟩
  rw [← hm]
  obtain ⟨ns, hns⟩ : ∃ ns, ns = d.tasks.take m := ⟨_, rfl⟩
  obtain ⟨nx, hnx⟩ : ∃ ns, ns = d.deps.take m := ⟨_, rfl⟩
  have HLN : Hid (ns.length = m) := by show _ = _; rw [hns, List.length_take]; omega
  have HLX : Hid (nx.length = m) := by show _ = _; rw [hnx, List.length_take]; omega
  have HWE : Hid (∀ ss ∈ nx, ss.length ≤ 1048576) := fun ss hs => hwe ss (by rw [hnx] at hs; exact List.mem_of_mem_take hs)
  have HNK : Hid (∀ k (h : k < ns.length), ∃ h2 : k < d.tasks.length, ns[k] = d.tasks[k]) := fun k h => ⟨by have := HLN.out; omega, by subst hns; exact List.getElem_take⟩
  have HXK : Hid (∀ k (h : k < nx.length), ∃ h2 : k < d.deps.length, nx[k] = d.deps[k]) := fun k h => ⟨by have := HLX.out; omega, by subst hnx; exact List.getElem_take⟩
  have hRd : RdB S w u0 (strsV d.tasks) := r0.plain
  obtain ⟨pt, ct, rfl, hct, hat⟩ := reads_strs (hRd.reads hB)
  obtain ⟨pd, cd, epd, hmd, hcd, had⟩ := id r1.plain
  subst epd
  obtain ⟨n1, hn1⟩ : ∃ n, n = d.tasks.length := ⟨_, rfl⟩
  obtain ⟨n2, hn2⟩ : ∃ n, n = d.deps.length := ⟨_, rfl⟩
  rw [← hns, ← hnx]
  have hAT : Hid (∀ k, k < m → ∃ bt ot tn, pt = some ⟨bt, ot, none⟩ ∧ (∀ h : k < ns.length, ns[k] = tn) ∧ ∀ W, Below w.heap.size w W → W.cell? ⟨bt, ot + k, none⟩ = some (.string tn)) := fun k hk => by
    obtain ⟨h2, e2⟩ := HNK.out k (by have := HLN.out; omega)
    rcases hat with hat | ⟨b, off, e, hlt, hat⟩
    · rw [hat] at h2; simp at h2
    · exact ⟨b, off, _, e, fun _ => e2, fun W h => (h.cell (by simpa using hlt)).trans (hat k h2)⟩
  have hAD : Hid (∀ k, k < m → ∃ bd od a0 td c0, pd = some ⟨bd, od, none⟩ ∧ (∀ h : k < nx.length, nx[k] = td) ∧ td.length ≤ 1048576 ∧ (∀ W, Below w.heap.size w W → W.cell? ⟨bd, od + k, none⟩ = some (.slice a0 td.length c0)) ∧ ∀ W, Below w.heap.size w W → W.ownsRow 0 9 1 (.slice a0 td.length c0) td.length (strsV td)) := fun k hk => by
    obtain ⟨h2, e2⟩ := HXK.out k (by have := HLX.out; omega)
    rcases had with had | ⟨b, off, e, hlt, had⟩
    · rw [had] at h2; simp at h2
    · obtain ⟨cs, ⟨u, rfl, ru, pu⟩, hcell⟩ := had k h2
      obtain ⟨a0, c0, rfl⟩ := owns_slG ru.1
      exact ⟨b, off, a0, _, c0, e, fun _ => e2, hwe _ (List.getElem_mem h2), fun W h => (h.cell (by simpa using hB b hlt)).trans (by have h9 := hcell 0 (by simp); simpa [shStringSO] using h9), fun W h => owns_of_belowN ru.1 h⟩
  have hmn1 : m ≤ n1 := by omega
  have hmn2 : m ≤ n2 := by omega
  have hmm : m = n1 ∨ m = n2 := by omega
  have hn1b : n1 ≤ 1048576 := by omega
  have hn2b : n2 ≤ 1048576 := by omega
  rw [← hn1, ← hn2]
  clear hm hns hnx hat had hRd r0 r1 p0 hl1 hl2 hwe hw hct hmd hcd hn1 hn2 HNK HXK
  have HW0 : Hid (∀ W, W = ((w.alloc (.cells #[.slice pt n1 ct, .slice pd n2 cd] 47)).alloc (.cells #[.slice none 0 0, .slice none 0 0] 87)).alloc (.cells #[.slice none 0 0, .slice none 0 0] 87) → GsC (w.heap.size + 3) W (.slice none 0 0) (.slice none 0 0) [] [] [] ∧ W.heap[w.heap.size + 2]? = some (.cells #[.slice none 0 0, .slice none 0 0] 87 (0, 0)) ∧ W.heap[w.heap.size + 1]? = some (.cells #[.slice none 0 0, .slice none 0 0] 87 (0, 0)) ∧ W.heap[w.heap.size]? = some (.cells #[.slice pt n1 ct, .slice pd n2 cd] 47 (0, 0)) ∧ Below w.heap.size w W) := by
    intro W hW
    subst hW
    have z1 : ((w.alloc (.cells #[.slice pt n1 ct, .slice pd n2 cd] 47)).alloc (.cells #[.slice none 0 0, .slice none 0 0] 87)).heap.size = w.heap.size + 2 := by simp
    have z0 : (w.alloc (.cells #[.slice pt n1 ct, .slice pd n2 cd] 47)).heap.size = w.heap.size + 1 := by simp
    refine ⟨⟨World.ownsRow_nil _ _ _ _, World.ownsRow_nil _ _ _ _, fun i u h => (by simp at h), fun i g u h => (by simp at h)⟩, ?_, ?_, ?_, ?_⟩
    · have := vheap_new ((w.alloc (.cells #[.slice pt n1 ct, .slice pd n2 cd] 47)).alloc (.cells #[.slice none 0 0, .slice none 0 0] 87)) (.cells #[.slice none 0 0, .slice none 0 0] 87)
      rw [z1] at this
      exact this
    · have := vheap_new (w.alloc (.cells #[.slice pt n1 ct, .slice pd n2 cd] 47)) (.cells #[.slice none 0 0, .slice none 0 0] 87)
      rw [z0] at this
      rw [vheap_old _ _ (by rw [z1]; omega)]
      exact this
    · rw [vheap_old _ _ (by rw [z1]; omega), vheap_old _ _ (by rw [z0]; omega), vheap_new]
    · exact ((((Below.refl _ _).alloc (Nat.le_refl _) _).alloc (by simp) _).alloc (by rw [z1]; omega) _)
  go_enter Try.func65, Try.ntmps65
  go_wp2_with fail
  go_loopw [4] (fun vi wr => ∃ (k : Nat) (vn vx : Value) (vs : List Value), k ≤ m ∧ vi = .int .i64 (k : Int) ∧ Hid (GsC (w.heap.size + 3) wr vn vx vs (ns.take k) (nx.take k)) ∧ Hid (wr.heap[w.heap.size + 2]? = some (.cells #[vn, vx] 87 (0, 0))) ∧ Hid (wr.heap[w.heap.size + 1]? = some (.cells #[.slice none 0 0, .slice none 0 0] 87 (0, 0))) ∧ Hid (wr.heap[w.heap.size]? = some (.cells #[.slice pt n1 ct, .slice pd n2 cd] 47 (0, 0))) ∧ Below w.heap.size w wr) (fun vi _ => m - (intOf vi).toNat)
  case atStart => exact ⟨0, _, _, [], Nat.zero_le _, rfl, (HW0.out _ rfl).1, (HW0.out _ rfl).2.1, (HW0.out _ rfl).2.2.1, (HW0.out _ rfl).2.2.2.1, (HW0.out _ rfl).2.2.2.2⟩
  case round =>
    clear HW0
    obtain ⟨k, vn, vx, vs, hk, rfl, HC, HX, HR, HP, hbr⟩ := hrel
    obtain ⟨qn, xn, en⟩ := owns_slG HC.out.names
    obtain ⟨qx, xx, ex⟩ := owns_slG HC.out.next
    have lk1 : (ns.take k).length = k := by rw [List.length_take, HLN.out]; omega
    have lk2 : (nx.take k).length = k := by rw [List.length_take, HLX.out]; omega
    rw [lk1] at en
    rw [lk2] at ex
    subst en ex
    obtain ⟨pb0, pb1⟩ := cells2P HP.out
    by_cases hlt' : k < m
    · obtain ⟨bt, ot, tn, ept, etn, hE0⟩ := hAT.out k hlt'
      obtain ⟨bd, od, a0, td, c0, epd, etd, hul, hE1, hU0⟩ := hAD.out k hlt'
      have HT1 : Hid (ns.take (k + 1) = ns.take k ++ [tn]) := by show _ = _; rw [List.take_succ_eq_append_getElem (by have := HLN.out; omega), etn]
      have HT2 : Hid (nx.take (k + 1) = nx.take k ++ [td]) := by show _ = _; rw [List.take_succ_eq_append_getElem (by have := HLX.out; omega), etd]
      have HE0 := hidden hE0
      have HE1 := hidden hE1
      have HU0 := hidden hU0
      subst ept epd
      have hki1 : (k : Int) < (n1 : Int) := by omega
      have hki2 : (k : Int) < (n2 : Int) := by omega
      clear etn etd hE0 hE1 hU0 lk1 lk2
      go_wp2_with fail
      clear pb0 pb1
      have HK5 : Hid (∀ W : World, W.heap[w.heap.size + 2]? = some (.cells #[.slice qn k xn, .slice qx k xx] 87 (0, 0)) → W.heap[w.heap.size]? = some (.cells #[.slice (some ⟨bt, ot, none⟩) n1 ct, .slice (some ⟨bd, od, none⟩) n2 cd] 47 (0, 0)) → Below w.heap.size w W → (fun W => W.cell? ⟨w.heap.size + 2, 0, none⟩ = some (.slice qn k xn) ∧ W.cell? ⟨w.heap.size, 0, none⟩ = some (.slice (some ⟨bt, ot, none⟩) n1 ct) ∧ W.cell? ⟨bt, ot + k, none⟩ = some (.string tn)) W) := fun W hW hP hb => ⟨vblk_cell hW 0, vblk_cell hP 0, HE0.out W hb⟩
      refine till_region (fun W => W.cell? ⟨w.heap.size + 2, 0, none⟩ = some (.slice qn k xn) ∧ W.cell? ⟨w.heap.size, 0, none⟩ = some (.slice (some ⟨bt, ot, none⟩) n1 ct) ∧ W.cell? ⟨bt, ot + k, none⟩ = some (.string tn)) 10 (by kernel_rfl) (HK5.out _ HX.out HP.out hbr.drew) (fun hHeld => ?_)
      have D0 : GsC (w.heap.size + 3) wr.drew (.slice qn k xn) (.slice qx k xx) vs _ _ := HC.out.new (r := none) (grown_of_below (Below.refl _ _).drew none) (fun q e => by cases e)
      have X0 : wr.drew.heap[w.heap.size + 2]? = some (.cells #[.slice qn k xn, .slice qx k xx] 87 (0, 0)) := HX.out
      have R0 : wr.drew.heap[w.heap.size + 1]? = some (.cells #[.slice none 0 0, .slice none 0 0] 87 (0, 0)) := HR.out
      have P0 : wr.drew.heap[w.heap.size]? = some (.cells #[.slice (some ⟨bt, ot, none⟩) n1 ct, .slice (some ⟨bd, od, none⟩) n2 cd] 47 (0, 0)) := HP.out
      have B0 : Below w.heap.size w wr.drew := hbr.drew
      clear HC HX HR HP hbr
      generalize wr.drew = W at hHeld D0 X0 R0 P0 B0 ⊢
      refine till_at (k' := 11) (l' := #[false, false, false, false, false, false, false, false, false, false, false]) ?_ (by kernel_rfl) (by kernel_rfl)
      refine tv 0 hHeld (h := ?_)
      refine tu 1 hHeld (h := ?_)
      refine tv 2 hHeld (h := ?_)
      refine tu 3 hHeld (h := ?_)
      refine tv 4 hHeld (h := ?_)
      refine tv 5 hHeld (h := ?_)
      refine tu 6 hHeld (h := ?_)
      have hlW := D0.names.lt
      have hsW : w.heap.size + 3 ≤ W.heap.size := by have := (Array.getElem?_eq_some_iff.1 X0).1; omega
      refine till_ready (rs := [7]) (by kernel_rfl) (by simp) ?_
      refine AllTill.cons rfl rfl (fun K hK => ?_) AllTill.nil
      go_simp
      have B1 : Below w.heap.size w (W.alloc (.cells #[.string tn] 9)) := B0.alloc (by omega) _
      have X1 : (W.alloc (.cells #[.string tn] 9)).heap[w.heap.size + 2]? = some (.cells #[.slice qn k xn, .slice qx k xx] 87 (0, 0)) := (vheap_old W _ (by omega)).trans X0
      have R1 : (W.alloc (.cells #[.string tn] 9)).heap[w.heap.size + 1]? = some (.cells #[.slice none 0 0, .slice none 0 0] 87 (0, 0)) := (vheap_old W _ (by omega)).trans R0
      have P1 : (W.alloc (.cells #[.string tn] 9)).heap[w.heap.size]? = some (.cells #[.slice (some ⟨bt, ot, none⟩) n1 ct, .slice (some ⟨bd, od, none⟩) n2 cd] 47 (0, 0)) := (vheap_old W _ (by omega)).trans P0
      have D1 := D0.new (World.grownBy_alloc W (.cells #[.string tn] 9) none) (fun q e => by cases e)
      have A1 : (W.alloc (.cells #[.string tn] 9)).ownsRow (w.heap.size + 3) 9 1 (.slice (some ⟨W.heap.size, 0, none⟩) 1 1) 1 (strsV [tn]) := World.ownsRow_lit W #[.string tn] 1 hsW (by unfold maxLen; omega) rfl
      have hs1 : w.heap.size + 3 ≤ (W.alloc (.cells #[.string tn] 9)).heap.size := by simp; omega
      refine hK.out _ _ (fun _ => HK5.out _ X1 P1 B1) ?_
      clear hK K D0 X0 R0 P0 B0 hHeld
      generalize W.heap.size = q1 at A1 ⊢
      generalize W.alloc (.cells #[.string tn] 9) = W1 at B1 X1 R1 P1 D1 A1 hs1 ⊢
      clear hlW hsW
      refine till_ready (rs := [8]) (by kernel_rfl) (by simp) ?_
      refine AllTill.cons rfl rfl (fun K hK => ?_) AllTill.nil
      rw [if_pos (by rfl)]
      refine wp_append_loc _ _ 26 rfl (w.heap.size + 3) 9 iS (.string ⟨#[]⟩) 1 16 Try.underlying26 hiS hzS0 hzS1 hzS2 rfl (by decide) _ _ _ rfl D1.names ⟨q1, 0, none⟩ 1 1 (strsV [tn]) rfl rfl (A1.cells rfl) (fun u hu => by simp [strsV] at hu; subst hu; rfl) (by rw [List.length_take, HLN.out]; unfold maxLen; omega) (by rw [List.length_take, HLN.out]; omega) hs1 ?_
      intro v2 W2 o2 gr2 lc2
      have D2 := D1.addN o2 gr2 lc2
      have B2 : Below w.heap.size w W2 := Below.grown B1 gr2 (by omega) (fun j hj => by have := (D1.names.lt j hj).1; omega)
      have X2 := (gr2.block (w.heap.size + 2) (by omega) (fun e => by have := (D1.names.lt _ e.symm).1; omega)).trans X1
      have R2 := (gr2.block (w.heap.size + 1) (by omega) (fun e => by have := (D1.names.lt _ e.symm).1; omega)).trans R1
      have P2 := (gr2.block w.heap.size (by omega) (fun e => by have := (D1.names.lt _ e.symm).1; omega)).trans P1
      obtain ⟨y2, c2, e2⟩ := owns_slG D2.names
      rw [List.length_append, List.length_singleton, List.length_take, HLN.out, Nat.min_eq_left hk] at e2
      subst e2
      refine hK.out _ _ (fun _ => HK5.out _ X2 P2 B2) ?_
      clear hK K D1 X1 R1 P1 B1 A1 o2 gr2 lc2
      refine till_ready (rs := [9]) (by kernel_rfl) (by simp) ?_
      refine AllTill.cons rfl rfl (fun K hK => ?_) AllTill.nil
      go_simp
      refine hK.out _ _ (fun _ => HK5.out _ X2 P2 B2) ?_
      clear hK K
      refine till_ready (rs := [10]) (by kernel_rfl) (by simp) ?_
      refine AllTill.cons rfl rfl (fun K hK => ?_) AllTill.nil
      have x10 := vblk_cell X2 0
      have f10 := vblk_frozen X2 0
      simp only [List.getElem?_toArray, List.getElem?_cons_succ, List.getElem?_cons_zero] at x10
      go_simp
      have X3 : (W2.setCell ⟨w.heap.size + 2, 0, none⟩ (.slice y2 (k + 1) c2)).heap[w.heap.size + 2]? = some (.cells #[(.slice y2 (k + 1) c2), .slice qx k xx] 87 (0, 0)) := heap_setCell_same W2 (w.heap.size + 2) 0 _ _ (.slice y2 (k + 1) c2) X2
      have D3 := D2.new (grown_set W2 (w.heap.size + 2) 0 (.slice y2 (k + 1) c2)) (fun q e => .inr (by have := Option.some.inj e; omega))
      have R3 := ((grown_set W2 (w.heap.size + 2) 0 (.slice y2 (k + 1) c2)).block (w.heap.size + 1) (Array.getElem?_eq_some_iff.1 R2).1 (fun e => by have := Option.some.inj e; omega)).trans R2
      have P3 := ((grown_set W2 (w.heap.size + 2) 0 (.slice y2 (k + 1) c2)).block w.heap.size (Array.getElem?_eq_some_iff.1 P2).1 (fun e => by have := Option.some.inj e; omega)).trans P2
      have B3 : Below w.heap.size w (W2.setCell ⟨w.heap.size + 2, 0, none⟩ (.slice y2 (k + 1) c2)) := Below.setCell B2 (by show _ ≤ w.heap.size + 2; omega) _
      refine hK.out _ _ (fun h => nomatch (show true = false from h)) ?_
      generalize W2.setCell ⟨w.heap.size + 2, 0, none⟩ (.slice y2 (k + 1) c2) = W3 at X3 D3 R3 P3 B3 ⊢
      clear x10 f10 hK K D2 X2 R2 P2 B2 HK5
      refine till_done (by kernel_rfl) ?_ _
      go_wp2_with fail
      have HK6 : Hid (∀ W : World, W.heap[w.heap.size + 2]? = some (.cells #[(.slice y2 (k + 1) c2), .slice qx k xx] 87 (0, 0)) → W.heap[w.heap.size]? = some (.cells #[.slice (some ⟨bt, ot, none⟩) n1 ct, .slice (some ⟨bd, od, none⟩) n2 cd] 47 (0, 0)) → Below w.heap.size w W → (fun W => W.cell? ⟨w.heap.size + 2, 1, none⟩ = some (.slice qx k xx) ∧ W.cell? ⟨w.heap.size, 1, none⟩ = some (.slice (some ⟨bd, od, none⟩) n2 cd) ∧ W.cell? ⟨bd, od + k, none⟩ = some (.slice a0 td.length c0)) W) := fun W hW hP hb => ⟨vblk_cell hW 1, vblk_cell hP 1, HE1.out W hb⟩
      refine till_region (fun W => W.cell? ⟨w.heap.size + 2, 1, none⟩ = some (.slice qx k xx) ∧ W.cell? ⟨w.heap.size, 1, none⟩ = some (.slice (some ⟨bd, od, none⟩) n2 cd) ∧ W.cell? ⟨bd, od + k, none⟩ = some (.slice a0 td.length c0)) 12 (by kernel_rfl) (HK6.out _ X3 P3 B3.drew) (fun hHeld => ?_)
      have D0 : GsC (w.heap.size + 3) W3.drew (.slice y2 (k + 1) c2) (.slice qx k xx) vs _ _ := D3.new (r := none) (grown_of_below (Below.refl _ _).drew none) (fun q e => by cases e)
      have X0 : W3.drew.heap[w.heap.size + 2]? = some (.cells #[(.slice y2 (k + 1) c2), .slice qx k xx] 87 (0, 0)) := X3
      have R0 : W3.drew.heap[w.heap.size + 1]? = some (.cells #[.slice none 0 0, .slice none 0 0] 87 (0, 0)) := R3
      have P0 : W3.drew.heap[w.heap.size]? = some (.cells #[.slice (some ⟨bt, ot, none⟩) n1 ct, .slice (some ⟨bd, od, none⟩) n2 cd] 47 (0, 0)) := P3
      have B0 : Below w.heap.size w W3.drew := B3.drew
      clear D3 X3 R3 P3 B3
      generalize W3.drew = W at hHeld D0 X0 R0 P0 B0 ⊢
      refine till_at (k' := 13) (l' := #[false, false, false, false, false, false, false, false, false, false, false, false, false]) ?_ (by kernel_rfl) (by kernel_rfl)
      refine tv 0 hHeld (h := ?_)
      refine tu 1 hHeld (h := ?_)
      refine tv 3 hHeld (h := ?_)
      refine tu 4 hHeld (h := ?_)
      refine tv 5 hHeld (h := ?_)
      refine tv 6 hHeld (h := ?_)
      refine tu 7 hHeld (h := ?_)
      have hsW : w.heap.size + 3 ≤ W.heap.size := by have := (Array.getElem?_eq_some_iff.1 X0).1; omega
      refine till_ready (rs := [2]) (by kernel_rfl) (by simp) ?_
      refine AllTill.cons rfl rfl (fun K hK => ?_) AllTill.nil
      go_simp
      have B1 : Below w.heap.size w (W.alloc (.cells #[] 9)) := B0.alloc (by omega) _
      have X1 : (W.alloc (.cells #[] 9)).heap[w.heap.size + 2]? = some (.cells #[(.slice y2 (k + 1) c2), .slice qx k xx] 87 (0, 0)) := (vheap_old W _ (by omega)).trans X0
      have R1 : (W.alloc (.cells #[] 9)).heap[w.heap.size + 1]? = some (.cells #[.slice none 0 0, .slice none 0 0] 87 (0, 0)) := (vheap_old W _ (by omega)).trans R0
      have P1 : (W.alloc (.cells #[] 9)).heap[w.heap.size]? = some (.cells #[.slice (some ⟨bt, ot, none⟩) n1 ct, .slice (some ⟨bd, od, none⟩) n2 cd] 47 (0, 0)) := (vheap_old W _ (by omega)).trans P0
      have D1 := D0.new (World.grownBy_alloc W (.cells #[] 9) none) (fun q e => by cases e)
      have A1 : (W.alloc (.cells #[] 9)).ownsRow (w.heap.size + 3) 9 1 (.slice (some ⟨W.heap.size, 0, none⟩) 0 0) 0 [] := World.ownsRow_lit W #[] 0 hsW (by unfold maxLen; omega) rfl
      have hs1 : w.heap.size + 3 ≤ (W.alloc (.cells #[] 9)).heap.size := by simp; omega
      have nq1 : Value.ownBlock (.slice y2 (k + 1) c2) ≠ some W.heap.size := fun e => by have := (D0.names.lt _ e).2; omega
      have NE1' : ∀ (i : Nat) (u : Value), vs[i]? = some u → u.ownBlock ≠ some W.heap.size := fun i u hu e => by obtain ⟨ss, h2, h3⟩ := D0.each i u hu; have := (h3.lt _ e).2; omega
      refine hK.out _ _ (fun _ => HK6.out _ X1 P1 B1) ?_
      clear hK K D0 X0 R0 P0 B0 hHeld hsW
      generalize W.heap.size = q1 at A1 nq1 NE1' ⊢
      have NE1 := hidden NE1'
      clear NE1'
      generalize W.alloc (.cells #[] 9) = W1 at B1 X1 R1 P1 D1 A1 hs1 ⊢
      refine till_ready (rs := [8]) (by kernel_rfl) (by simp) ?_
      refine AllTill.cons rfl rfl (fun K hK => ?_) AllTill.nil
      rw [if_pos (by rfl)]
      refine wp_append_src _ _ 26 rfl (w.heap.size + 3) 9 iS (.string ⟨#[]⟩) 1 16 Try.underlying26 hiS hzS0 hzS1 hzS2 rfl (by decide) _ 0 [] rfl A1 (.slice a0 td.length c0) td.length 0 (strsV td) rfl (HU0.out _ B1) (strs_oneCell td) (by unfold maxLen; omega) (by omega) hs1 ?_
      intro v3 W2 o3 gr3 lc3
      rw [Nat.zero_add, List.nil_append] at o3
      have D2 : GsC (w.heap.size + 3) W2 (.slice y2 (k + 1) c2) (.slice qx k xx) vs _ _ := ⟨D1.names.kept gr3 (.inr nq1), D1.next.kept gr3 (apart_r D1.next A1 (by decide)), fun i u hu => (by obtain ⟨ss, h2, h3⟩ := D1.each i u hu; exact ⟨ss, h2, h3.kept gr3 (.inr (fun e => NE1.out i u hu e))⟩), D1.apart⟩
      have B2 : Below w.heap.size w W2 := Below.grown B1 gr3 (by omega) (fun j hj => by have := (A1.lt j hj).1; omega)
      have X2 := (gr3.block (w.heap.size + 2) (by omega) (fun e => by have := (A1.lt _ e.symm).1; omega)).trans X1
      have R2 := (gr3.block (w.heap.size + 1) (by omega) (fun e => by have := (A1.lt _ e.symm).1; omega)).trans R1
      have P2 := (gr3.block w.heap.size (by omega) (fun e => by have := (A1.lt _ e.symm).1; omega)).trans P1
      have nv3 : ∀ g, v3.ownBlock = some g → Value.ownBlock (.slice y2 (k + 1) c2) ≠ some g := fun g hg he => by
        rcases lc3 g hg with h9 | h9
        · obtain rfl : q1 = g := Option.some.inj h9
          exact nq1 he
        · have := (D1.names.lt g he).2; omega
      obtain ⟨y3, c3, e3⟩ := owns_slG o3
      subst e3
      refine hK.out _ _ (fun _ => HK6.out _ X2 P2 B2) ?_
      clear hK K D1 X1 R1 P1 B1 A1 gr3 lc3 nq1 NE1 hs1
      have hsW2 : w.heap.size + 3 ≤ W2.heap.size := by have := (Array.getElem?_eq_some_iff.1 X2).1; omega
      refine till_ready (rs := [9]) (by kernel_rfl) (by simp) ?_
      refine AllTill.cons rfl rfl (fun K hK => ?_) AllTill.nil
      go_simp
      have B4 : Below w.heap.size w (W2.alloc (.cells #[.slice y3 td.length c3] 26)) := B2.alloc (by omega) _
      have X4 : (W2.alloc (.cells #[.slice y3 td.length c3] 26)).heap[w.heap.size + 2]? = some (.cells #[(.slice y2 (k + 1) c2), .slice qx k xx] 87 (0, 0)) := (vheap_old W2 _ (by omega)).trans X2
      have R4 : (W2.alloc (.cells #[.slice y3 td.length c3] 26)).heap[w.heap.size + 1]? = some (.cells #[.slice none 0 0, .slice none 0 0] 87 (0, 0)) := (vheap_old W2 _ (by omega)).trans R2
      have P4 : (W2.alloc (.cells #[.slice y3 td.length c3] 26)).heap[w.heap.size]? = some (.cells #[.slice (some ⟨bt, ot, none⟩) n1 ct, .slice (some ⟨bd, od, none⟩) n2 cd] 47 (0, 0)) := (vheap_old W2 _ (by omega)).trans P2
      have D4 := D2.new (World.grownBy_alloc W2 (.cells #[.slice y3 td.length c3] 26) none) (fun q e => by cases e)
      have o4 := o3.alloc (.cells #[.slice y3 td.length c3] 26)
      have A4 : (W2.alloc (.cells #[.slice y3 td.length c3] 26)).ownsRow (w.heap.size + 3) 26 1 (.slice (some ⟨W2.heap.size, 0, none⟩) 1 1) 1 [.slice y3 td.length c3] := World.ownsRow_lit W2 #[.slice y3 td.length c3] 1 hsW2 (by unfold maxLen; omega) rfl
      have hs4 : w.heap.size + 3 ≤ (W2.alloc (.cells #[.slice y3 td.length c3] 26)).heap.size := by simp; omega
      refine hK.out _ _ (fun _ => HK6.out _ X4 P4 B4) ?_
      clear hK K D2 X2 R2 P2 B2 o3
      generalize W2.heap.size = q4 at A4 ⊢
      generalize W2.alloc (.cells #[.slice y3 td.length c3] 26) = W4 at B4 X4 R4 P4 D4 A4 o4 hs4 ⊢
      refine till_ready (rs := [10]) (by kernel_rfl) (by simp) ?_
      refine AllTill.cons rfl rfl (fun K hK => ?_) AllTill.nil
      rw [if_pos (by rfl)]
      refine wp_append_loc _ _ 42 rfl (w.heap.size + 3) 26 iT (.slice none 0 0) 1 24 Try.underlying42 hiT hzT0 hzT1 hzT2 rfl (by decide) _ _ _ rfl D4.next ⟨q4, 0, none⟩ 1 1 [.slice y3 td.length c3] rfl rfl (A4.cells rfl) (fun u hu => by simp at hu; subst hu; rfl) (by rw [List.length_take, HLX.out]; unfold maxLen; omega) (by rw [List.length_take, HLX.out]; omega) hs4 ?_
      intro v5 W5 o5 gr5 lc5
      have D5 := D4.addX o4 nv3 o5 gr5
      have B5 : Below w.heap.size w W5 := Below.grown B4 gr5 (by omega) (fun j hj => by have := (D4.next.lt j hj).1; omega)
      have X5 := (gr5.block (w.heap.size + 2) (by omega) (fun e => by have := (D4.next.lt _ e.symm).1; omega)).trans X4
      have R5 := (gr5.block (w.heap.size + 1) (by omega) (fun e => by have := (D4.next.lt _ e.symm).1; omega)).trans R4
      have P5 := (gr5.block w.heap.size (by omega) (fun e => by have := (D4.next.lt _ e.symm).1; omega)).trans P4
      obtain ⟨y5, c5, e5⟩ := owns_slG D5.next
      rw [List.length_append, List.length_singleton, List.length_take, HLX.out, Nat.min_eq_left hk] at e5
      subst e5
      refine hK.out _ _ (fun _ => HK6.out _ X5 P5 B5) ?_
      clear hK K D4 X4 R4 P4 B4 A4 o4 o5 gr5 lc5 nv3
      refine till_ready (rs := [11]) (by kernel_rfl) (by simp) ?_
      refine AllTill.cons rfl rfl (fun K hK => ?_) AllTill.nil
      go_simp
      refine hK.out _ _ (fun _ => HK6.out _ X5 P5 B5) ?_
      clear hK K
      refine till_ready (rs := [12]) (by kernel_rfl) (by simp) ?_
      refine AllTill.cons rfl rfl (fun K hK => ?_) AllTill.nil
      have x10 := vblk_cell X5 1
      have f10 := vblk_frozen X5 1
      simp only [List.getElem?_toArray, List.getElem?_cons_succ, List.getElem?_cons_zero] at x10
      go_simp
      have X6 : (W5.setCell ⟨w.heap.size + 2, 1, none⟩ (.slice y5 (k + 1) c5)).heap[w.heap.size + 2]? = some (.cells #[(.slice y2 (k + 1) c2), (.slice y5 (k + 1) c5)] 87 (0, 0)) := heap_setCell_same W5 (w.heap.size + 2) 1 _ _ (.slice y5 (k + 1) c5) X5
      have D6 := D5.new (grown_set W5 (w.heap.size + 2) 1 (.slice y5 (k + 1) c5)) (fun q e => .inr (by have := Option.some.inj e; omega))
      have R6 := ((grown_set W5 (w.heap.size + 2) 1 (.slice y5 (k + 1) c5)).block (w.heap.size + 1) (Array.getElem?_eq_some_iff.1 R5).1 (fun e => by have := Option.some.inj e; omega)).trans R5
      have P6 := ((grown_set W5 (w.heap.size + 2) 1 (.slice y5 (k + 1) c5)).block w.heap.size (Array.getElem?_eq_some_iff.1 P5).1 (fun e => by have := Option.some.inj e; omega)).trans P5
      have B6 : Below w.heap.size w (W5.setCell ⟨w.heap.size + 2, 1, none⟩ (.slice y5 (k + 1) c5)) := Below.setCell B5 (by show _ ≤ w.heap.size + 2; omega) _
      refine hK.out _ _ (fun h => nomatch (show true = false from h)) ?_
      generalize W5.setCell ⟨w.heap.size + 2, 1, none⟩ (.slice y5 (k + 1) c5) = W6 at X6 D6 R6 P6 B6 ⊢
      clear x10 f10 hK K D5 X5 R5 P5 B5 HK6
      rw [← HT1.out, ← HT2.out] at D6
      have HD6 := hidden D6
      have HX6 := hidden X6
      have HR6 := hidden R6
      have HP6 := hidden P6
      clear D6 X6 R6 P6
      refine till_done (by kernel_rfl) ?_ _
      go_wp2_with fail
      go_roundw
      case rel => exact ⟨k + 1, _, _, _, by omega, by go_num, HD6, HX6, HR6, HP6, B6⟩
      case measure => simp [intOf]; omega
    · have he : k = m := by omega
      subst he
      by_cases hkt : (k : Int) < (n1 : Int)
      · have hkd : ¬ (k : Int) < (n2 : Int) := by omega
        have hx := HX.out
        have hr := HR.out
        have c0 : wr.cell? ⟨w.heap.size + 2, 0, none⟩ = some (.slice qn k xn) := vblk_cell hx 0
        have c1 : wr.cell? ⟨w.heap.size + 2, 1, none⟩ = some (.slice qx k xx) := vblk_cell hx 1
        have r0 : wr.cell? ⟨w.heap.size + 1, 0, none⟩ = some (.slice none 0 0) := vblk_cell hr 0
        have r1 : wr.cell? ⟨w.heap.size + 1, 1, none⟩ = some (.slice none 0 0) := vblk_cell hr 1
        have fz := vblk_frozen hr
        have HD : Hid (GsC (w.heap.size + 3) ((wr.setCell ⟨w.heap.size + 1, 0, none⟩ (.slice qn k xn)).setCell ⟨w.heap.size + 1, 1, none⟩ (.slice qx k xx)) (.slice qn k xn) (.slice qx k xx) vs ns nx) := by
          have h1 := HC.out
          rw [show ns.take k = ns by rw [← HLN.out, List.take_length], show nx.take k = nx by rw [← HLX.out, List.take_length]] at h1
          exact (h1.new (grown_set wr (w.heap.size + 1) 0 _) (fun q e => .inr (by have := Option.some.inj e; omega))).new (grown_set _ (w.heap.size + 1) 1 _) (fun q e => .inr (by have := Option.some.inj e; omega))
        have HB2 : Hid (Below w.heap.size w ((wr.setCell ⟨w.heap.size + 1, 0, none⟩ (.slice qn k xn)).setCell ⟨w.heap.size + 1, 1, none⟩ (.slice qx k xx))) := Below.setCell (Below.setCell hbr (by show _ ≤ w.heap.size + 1; omega) _) (by show _ ≤ w.heap.size + 1; omega) _
        have HX2 : Hid (((wr.setCell ⟨w.heap.size + 1, 0, none⟩ (.slice qn k xn)).setCell ⟨w.heap.size + 1, 1, none⟩ (.slice qx k xx)).heap[w.heap.size + 1]? = some (.cells #[.slice qn k xn, .slice qx k xx] 87 (0, 0))) := heap_setCell_same _ (w.heap.size + 1) 1 _ _ _ (heap_setCell_same wr (w.heap.size + 1) 0 _ _ _ hr)
        clear HC HX HR HP hbr hx hr
        go_wp2_with fail
        have F1 := HD.out
        have F2 := HB2.out
        have F3 := HX2.out
        generalize ((wr.setCell ⟨w.heap.size + 1, 0, none⟩ (.slice qn k xn)).setCell ⟨w.heap.size + 1, 1, none⟩ (.slice qx k xx)) = W9 at F1 F2 F3 ⊢
        have o0 := vblk_cell F3 0
        have o1 := vblk_cell F3 1
        simp only [List.getElem?_toArray, List.getElem?_cons_succ, List.getElem?_cons_zero] at o0 o1
        clear HD HB2 HX2 c0 c1 r0 r1 fz
        have HI : Hid (GrIn (Ow w.heap.size W9.heap.size) W9 (.slice qn k xn) (.slice qx k xx) ns nx) := (F1.grIn (by rw [HLN.out, HLX.out]) (by rw [HLN.out]; omega) HWE.out).mono (Ow.mono (by omega) (Nat.le_refl _))
        refine bodyPost_ret (v := .agg #[.slice qn k xn, .slice qx k xx]) (by simp [results, Try.results65, go_sem, o0, o1]) rfl ⟨_, _, rfl, HI.out, F2⟩
      · skip
        have hx := HX.out
        have hr := HR.out
        have c0 : wr.cell? ⟨w.heap.size + 2, 0, none⟩ = some (.slice qn k xn) := vblk_cell hx 0
        have c1 : wr.cell? ⟨w.heap.size + 2, 1, none⟩ = some (.slice qx k xx) := vblk_cell hx 1
        have r0 : wr.cell? ⟨w.heap.size + 1, 0, none⟩ = some (.slice none 0 0) := vblk_cell hr 0
        have r1 : wr.cell? ⟨w.heap.size + 1, 1, none⟩ = some (.slice none 0 0) := vblk_cell hr 1
        have fz := vblk_frozen hr
        have HD : Hid (GsC (w.heap.size + 3) ((wr.setCell ⟨w.heap.size + 1, 0, none⟩ (.slice qn k xn)).setCell ⟨w.heap.size + 1, 1, none⟩ (.slice qx k xx)) (.slice qn k xn) (.slice qx k xx) vs ns nx) := by
          have h1 := HC.out
          rw [show ns.take k = ns by rw [← HLN.out, List.take_length], show nx.take k = nx by rw [← HLX.out, List.take_length]] at h1
          exact (h1.new (grown_set wr (w.heap.size + 1) 0 _) (fun q e => .inr (by have := Option.some.inj e; omega))).new (grown_set _ (w.heap.size + 1) 1 _) (fun q e => .inr (by have := Option.some.inj e; omega))
        have HB2 : Hid (Below w.heap.size w ((wr.setCell ⟨w.heap.size + 1, 0, none⟩ (.slice qn k xn)).setCell ⟨w.heap.size + 1, 1, none⟩ (.slice qx k xx))) := Below.setCell (Below.setCell hbr (by show _ ≤ w.heap.size + 1; omega) _) (by show _ ≤ w.heap.size + 1; omega) _
        have HX2 : Hid (((wr.setCell ⟨w.heap.size + 1, 0, none⟩ (.slice qn k xn)).setCell ⟨w.heap.size + 1, 1, none⟩ (.slice qx k xx)).heap[w.heap.size + 1]? = some (.cells #[.slice qn k xn, .slice qx k xx] 87 (0, 0))) := heap_setCell_same _ (w.heap.size + 1) 1 _ _ _ (heap_setCell_same wr (w.heap.size + 1) 0 _ _ _ hr)
        clear HC HX HR HP hbr hx hr
        go_wp2_with fail
        have F1 := HD.out
        have F2 := HB2.out
        have F3 := HX2.out
        generalize ((wr.setCell ⟨w.heap.size + 1, 0, none⟩ (.slice qn k xn)).setCell ⟨w.heap.size + 1, 1, none⟩ (.slice qx k xx)) = W9 at F1 F2 F3 ⊢
        have o0 := vblk_cell F3 0
        have o1 := vblk_cell F3 1
        simp only [List.getElem?_toArray, List.getElem?_cons_succ, List.getElem?_cons_zero] at o0 o1
        clear HD HB2 HX2 c0 c1 r0 r1 fz
        have HI : Hid (GrIn (Ow w.heap.size W9.heap.size) W9 (.slice qn k xn) (.slice qx k xx) ns nx) := (F1.grIn (by rw [HLN.out, HLX.out]) (by rw [HLN.out]; omega) HWE.out).mono (Ow.mono (by omega) (Nat.le_refl _))
        refine bodyPost_ret (v := .agg #[.slice qn k xn, .slice qx k xx]) (by simp [results, Try.results65, go_sem, o0, o1]) rfl ⟨_, _, rfl, HI.out, F2⟩

end Go.Proofs.Ytkkhnldhipfneaa

/-! Whether a code is too long for a law: contracts for the walks; no condition. -/
namespace Go.Proofs.Ytkkhnldhipfneaa
open Go.RowKit
set_option linter.unusedSimpArgs false
set_option linter.unusedVariables false

theorem bigYes_c (v : Value) (zs : List Int) (w : World) (hr : Reads w v (bytesV zs)) (h : (1048576 : Int) < (zs.length : Int)) :
    Calls Try.prog 8 #[v] w fun e w' => e = .returned (.bool true) ∧ w = w' := by
  obtain ⟨a, cap, rfl, _, _⟩ := reads_bytes hr
  clear hr
  go_enter Try.func8, Try.ntmps8
  go_wp2
  go_ret
  exact ⟨by simp [h], rfl⟩
theorem bigNo_c (v : Value) (zs : List Int) (w : World) (hr : Reads w v (bytesV zs)) (h : ¬ (1048576 : Int) < (zs.length : Int)) :
    Calls Try.prog 8 #[v] w fun e w' => e = .returned (.bool false) ∧ w = w' := by
  obtain ⟨a, cap, rfl, _, _⟩ := reads_bytes hr
  clear hr
  go_enter Try.func8, Try.ntmps8
  go_wp2
  go_ret
  exact ⟨by simp [h], rfl⟩
end Go.Proofs.Ytkkhnldhipfneaa

/-! What both sides answer of the Deps of a task of a plan: the same texts; contracts for the walks; conditions: the plan lies in memory, and holds at most 2 to the 20. -/
namespace Go.Proofs.Ytkkhnldhipfneaa
open Go.RowKit
set_option linter.unusedSimpArgs false
set_option linter.unusedVariables false

/-- The Deps of a task, where it has some. -/
def depsD (d : PlanD) (t : ByteArray) : List ByteArray := nextS (d.tasks.take (min d.tasks.length d.deps.length)) (d.deps.take (min d.tasks.length d.deps.length)) t
theorem firstI_idx (ns : List ByteArray) (t : ByteArray) : firstI (fun u => decide (t = u)) ns = idxS ns t := by
  have e : (fun u : ByteArray => decide (t = u)) = fun u => decide (u = t) := by funext u; exact decide_eq_decide.2 ⟨fun h => h.symm, fun h => h.symm⟩
  rw [firstI, idxS, e]
theorem idxS_take_lt {ns : List ByteArray} {t : ByteArray} {k m : Nat} (h : idxS ns t = (k : Int)) (hk : k < ns.length) (hm : k < m) : idxS (ns.take m) t = (k : Int) := by
  unfold idxS at h
  split at h
  · rename_i hlt
    have hk2 : ns.findIdx (fun d => decide (d = t)) = k := by omega
    rw [List.findIdx_eq hk] at hk2
    refine idxS_here (by rw [List.length_take]; omega) ?_ (fun j hj hjk => ?_)
    · rw [List.getElem_take]; simpa using hk2.1
    · rw [List.getElem_take]; simpa using hk2.2 j hjk
  · omega
theorem idxS_take_ge {ns : List ByteArray} {t : ByteArray} {m : Nat} (h : ∀ k : Nat, idxS ns t = (k : Int) → m ≤ k) : idxS (ns.take m) t = -1 := by
  refine idxS_none (fun j hj => ?_)
  rw [List.length_take] at hj
  rw [List.getElem_take]
  intro e
  rcases idxS_cases ns t with h1 | ⟨k, hk, h1⟩
  · unfold idxS at h1
    split at h1
    · omega
    · rename_i hlt
      have h2 : ns.findIdx (fun d => decide (d = t)) = ns.length := by have := List.findIdx_le_length (p := fun d : ByteArray => decide (d = t)) (xs := ns); omega
      rw [List.findIdx_eq_length] at h2
      have h3 := h2 _ (List.getElem_mem (show j < ns.length by omega))
      simp [e] at h3
  · have h2 := h k h1
    unfold idxS at h1
    split at h1
    · have h4 : ns.findIdx (fun d => decide (d = t)) = k := by omega
      rw [List.findIdx_eq hk] at h4
      have h5 := h4.2 j (by omega)
      simp [e] at h5
    · omega
theorem depsD_in (d : PlanD) (t : ByteArray) : depsD d t = [] ∨ ∃ l ∈ d.deps, depsD d t = l := by
  unfold depsD nextS
  split
  · exact .inl rfl
  · cases h : (d.deps.take (min d.tasks.length d.deps.length))[(idxS (d.tasks.take (min d.tasks.length d.deps.length)) t).toNat]? with
    | none => exact .inl rfl
    | some l => exact .inr ⟨l, List.mem_of_mem_take (List.mem_of_getElem? h), rfl⟩
/-- As the program finds them. -/
theorem depsD_none {d : PlanD} {t : ByteArray} (h : idxS d.tasks t = -1) : depsD d t = [] := by
  unfold depsD nextS
  rw [idxS_take_ge (fun k hk => by omega), if_pos (by omega)]
theorem depsD_out {d : PlanD} {t : ByteArray} {k : Nat} (h : idxS d.tasks t = (k : Int)) (hk : d.deps.length ≤ k) : depsD d t = [] := by
  unfold depsD nextS
  rw [idxS_take_ge (fun j hj => by omega), if_pos (by omega)]
theorem depsD_at {d : PlanD} {t : ByteArray} {k : Nat} (h : idxS d.tasks t = (k : Int)) (h1 : k < d.tasks.length) (h2 : k < d.deps.length) : depsD d t = d.deps[k] := by
  unfold depsD nextS
  rw [idxS_take_lt h h1 (by omega), if_neg (by omega)]
  have : (d.deps.take (min d.tasks.length d.deps.length))[((k : Nat) : Int).toNat]? = some d.deps[k] := by
    rw [Int.toNat_natCast, List.getElem?_take, if_pos (by omega), List.getElem?_eq_getElem h2]
  rw [this]; rfl

theorem strR_wide {lo lo' hi : Nat} {W : World} {u : Value} {ss : List ByteArray} (h : StrR lo hi W u ss) (h1 : lo' ≤ lo) : StrR lo' hi W u ss := ⟨⟨h.1.1, fun g hg => ⟨Nat.le_trans h1 (h.1.2 g hg).1, (h.1.2 g hg).2⟩⟩, h.2⟩

set_option maxHeartbeats 4000000 in
set_option maxRecDepth 100000 in
theorem specDeps_c (S : Nat → Prop) (d : PlanD) (cs : List Value) (t : ByteArray) (w : World) (hd : shPlanO.lies S w cs d) (hB : ∀ b, S b → b < w.heap.size) (hw : wtPlan d ≤ 1048576) :
    Calls Try.prog 26 #[.agg cs.toArray, .string t] w fun e w' => ∃ u, e = .returned u ∧ StrR w.heap.size w'.heap.size w' u (depsD d t) ∧ (depsD d t).length ≤ 1048576 ∧ Below w.heap.size w w' := by
  obtain ⟨i0, hi0, hz0, hz1, hz2⟩ := info_parts infoS
  obtain ⟨pt, ct, pd, cd, rfl⟩ := plan_cells (liesPlan_plain hd)
  have k1 : Below w.heap.size w (w.alloc (.cells #[.slice pt d.tasks.length ct, .slice pd d.deps.length cd] 47 (0, 0))) := (Below.refl _ _).alloc (Nat.le_refl _) _
  obtain ⟨A0, hA0⟩ : ∃ A, A = (w.alloc (.cells #[.slice pt d.tasks.length ct, .slice pd d.deps.length cd] 47 (0, 0))).alloc (.cells #[] 9 (0, 0)) := ⟨_, rfl⟩
  have z1 : (w.alloc (.cells #[.slice pt d.tasks.length ct, .slice pd d.deps.length cd] 47 (0, 0))).heap.size = w.heap.size + 1 := by simp
  have kA : Below w.heap.size w A0 := by rw [hA0]; exact k1.alloc (by rw [z1]; omega) _
  have zA : A0.heap.size = w.heap.size + 2 := by rw [hA0]; simp
  have oA : A0.ownsRow (w.heap.size + 1) 9 1 (.slice (some ⟨w.heap.size + 1, 0, none⟩) 0 0) 0 [] := by
    have h9 := World.ownsRow_lit (base := w.heap.size + 1) (e := 9) (size := 1) (w.alloc (.cells #[.slice pt d.tasks.length ct, .slice pd d.deps.length cd] 47 (0, 0))) #[] 0 (by rw [z1]; omega) (by unfold maxLen; omega) rfl
    rw [z1, ← hA0] at h9
    exact h9
  have hx0 : A0.heap[w.heap.size]? = some (.cells #[.slice pt d.tasks.length ct, .slice pd d.deps.length cd] 47 (0, 0)) := by rw [hA0, vheap_old _ _ (by rw [z1]; omega)]; exact vheap_new _ _
  obtain ⟨x0, x1⟩ := cells2P hx0
  have HG := hidden (l13Graph_c S d _ A0 (shPlanO.keep (.of kA hB) hd) (fun b hb => by have := hB b hb; omega) hw)
  have HN : Hid (∀ vn vx w1, GrIn (Ow A0.heap.size w1.heap.size) w1 vn vx (d.tasks.take (min d.tasks.length d.deps.length)) (d.deps.take (min d.tasks.length d.deps.length)) → Calls Try.prog 64 #[.agg #[vn, vx], .string t] w1 fun e w' => ∃ u, e = .returned u ∧ w'.ownsRow 0 9 1 u (depsD d t).length (strsV (depsD d t)) ∧ (depsD d t).length ≤ 1048576 ∧ Below w1.heap.size w1 w') := fun vn vx w1 h => by
    refine (l11Next_c _ vn vx _ _ t w1 h (fun b hb => hb.2)).mono ?_
    rintro e w' ⟨u, rfl, hu, hl, kb⟩
    exact ⟨u, rfl, hu.1, hl, kb⟩
  obtain ⟨NN, hNN⟩ : ∃ N, N = depsD d t := ⟨_, rfl⟩
  rw [← hNN] at HN ⊢
  obtain ⟨n1, hn1⟩ : ∃ n, n = d.tasks.length := ⟨_, rfl⟩
  obtain ⟨n2, hn2⟩ : ∃ n, n = d.deps.length := ⟨_, rfl⟩
  have HA : Hid ((w.alloc (.cells #[.slice pt n1 ct, .slice pd n2 cd] 47 (0, 0))).alloc (.cells #[] 9 (0, 0)) = A0) := by show _ = _; rw [hA0, hn1, hn2]
  rw [← hn1] at x0
  rw [← hn2] at x1
  simp only [← hn1, ← hn2] at HG HN ⊢
  have HZA := hidden zA
  clear hNN hA0 hx0 k1 z1 hd hw hn1 hn2 zA
  go_enter Try.func26, Try.ntmps26
  go_wp2_with fail
  rw [HA.out]
  go_at_call 65
  refine HG.out.mono ?_
  rintro e w1 ⟨vn, vx, rfl, hg, b1⟩
  have HN1 := hidden (HN.out vn vx w1 hg)
  have o1 := owns_of_belowN oA b1
  have k1 : Below w.heap.size w w1 := kA.trans (b1.mono kA.size)
  have hs1 : w.heap.size + 2 ≤ w1.heap.size := by have := b1.size; have := HZA.out; omega
  clear hg b1 HN HG oA kA HA x0 x1
  go_wp2_with fail
  go_at_call 64
  refine HN1.out.mono ?_
  rintro e w2 ⟨u, rfl, hu, hl, b2⟩
  have o2 := owns_of_belowN o1 b2
  have k2 : Below w.heap.size w w2 := k1.trans (b2.mono k1.size)
  have hz2' : w.heap.size + 2 ≤ w2.heap.size := by have := b2.size; omega
  obtain ⟨qu, cu, eu⟩ := owns_slG hu
  subst eu
  clear b2 HN1 o1 k1
  go_wp2_with (at_builtin; refine apR rfl _ _ 26 rfl (w.heap.size + 1) 9 i0 (.string ⟨#[]⟩) 1 16 Try.underlying26 hi0 hz0 hz1 hz2 rfl (by decide) (w.heap.size + 1) 0 0 [] rfl o2 _ _ 0 (strsV NN) rfl hu (strs_oneCell _) (by unfold maxLen; omega) (by omega) (by omega) ?_)
  intro v3 w3 o3 gr3 hl3
  have k3 : Below w.heap.size w w3 := Below.grown k2 gr3 (by omega) (fun j hj => by have := Option.some.inj hj; omega)
  have HR : Hid (StrR w.heap.size w3.heap.size w3 v3 NN) := strR_wide (strR_of o3) (by omega)
  have HK3 := hidden k3
  obtain ⟨q3, c3, e3⟩ := owns_slG o3
  subst e3
  clear o3 gr3 hl3 k3 k2 o2 hu
  go_wp2_with fail
  go_ret
  exact ⟨_, rfl, HR.out, hl, HK3.out⟩

set_option maxHeartbeats 4000000 in
set_option maxRecDepth 100000 in
theorem depsAt_c (S : Nat → Prop) (d : PlanD) (cs : List Value) (r : Int) (t : ByteArray) (w : World) (hd : shPlan.lies S w cs d) (hB : ∀ b, S b → b < w.heap.size) (hw : wtPlan d ≤ 1048576) (hr : r = idxS d.tasks t) :
    Calls Try.prog 67 #[.agg cs.toArray, .int .i64 r] w fun e w' => ∃ u, e = .returned u ∧ Reads w' u (strsV (depsD d t)) ∧ Below w.heap.size w w' := by
  obtain ⟨u0, u1, rfl, r0, p0, r1⟩ := hd
  have hbx : ∀ o, Below w.heap.size w (w.alloc o) := fun o => (Below.refl _ _).alloc (Nat.le_refl _) _
  obtain ⟨pt, ct, rfl, _, _⟩ := reads_strs (r0.reads hB)
  obtain ⟨pd, cd, epd, hmd, hcd, had⟩ := id r1
  subst epd
  unfold maxLen at hmd
  have hnil : ∀ W : World, Reads W (.slice none 0 0) (strsV []) := fun W => ⟨none, 0, rfl, Nat.le_refl _, .inl rfl⟩
  have hcs := idxS_cases d.tasks t
  rw [← hr] at hcs
  rcases hcs with rfl | ⟨k, hk, rfl⟩
  · rw [depsD_none hr.symm]
    clear hr r0 p0 r1 had hw
    go_enter Try.func67, Try.ntmps67
    go_wp2_with fail
    go_ret
    exact ⟨_, rfl, hnil _, hbx _⟩
  · by_cases hkd : k < d.deps.length
    · rw [depsD_at hr.symm hk hkd]
      rcases had with had | ⟨b, off, rfl, hlt, had⟩
      · rw [had] at hkd; simp at hkd
      obtain ⟨cs, ⟨u, rfl, ru, pu⟩, hcell⟩ := had k hkd
      have hlt2 := hB b hlt
      have hcu : ∀ W, Below w.heap.size w W → W.cell? ⟨b, off + k, none⟩ = some u := fun W h => (h.cell (by simpa using hlt2)).trans (by have h9 := hcell 0 (by simp); simpa [shStringS] using h9)
      have hru : ∀ W, Below w.heap.size w W → Reads W u (strsV d.deps[k]) := fun W h => (ru.reads hB).below h
      have HCU := hidden hcu
      have HRU := hidden hru
      obtain ⟨L, hL⟩ : ∃ L, L = d.deps[k] := ⟨_, rfl⟩
      rw [← hL] at HRU ⊢
      obtain ⟨au, cu, eu, _⟩ := reads_strs (HRU.out w (Below.refl _ _))
      subst eu
      have hki : (k : Int) < (d.deps.length : Int) := by omega
      have hkn : ¬ (k : Int) < 0 := by omega
      obtain ⟨n1, hn1⟩ : ∃ n, n = d.tasks.length := ⟨_, rfl⟩
      obtain ⟨n2, hn2⟩ : ∃ n, n = d.deps.length := ⟨_, rfl⟩
      rw [← hn2] at hki hmd
      rw [← hn1, ← hn2]
      have x9 := HCU.out (w.alloc (.cells #[.slice pt n1 ct, .slice (some ⟨b, off, none⟩) n2 cd] 47 (0, 0))) (hbx _)
      have hq := HRU.out (w.alloc (.cells #[.slice pt n1 ct, .slice (some ⟨b, off, none⟩) n2 cd] 47 (0, 0))) (hbx _)
      have HQ := hidden hq
      clear hcu hru hL hr r0 p0 r1 had hw ru pu hcell hk hkd hn1 hn2 hq HRU
      go_enter Try.func67, Try.ntmps67
      go_wp2_with fail
      go_ret
      exact ⟨_, rfl, HQ.out, hbx _⟩
    · rw [depsD_out hr.symm (by omega)]
      have hki : ¬ (k : Int) < (d.deps.length : Int) := by omega
      have hki2 : (d.deps.length : Int) ≤ (k : Int) := by omega
      have hkn : ¬ (k : Int) < 0 := by omega
      clear hr r0 p0 r1 had hw hkd hk
      go_enter Try.func67, Try.ntmps67
      go_wp2_with fail
      go_ret
      exact ⟨_, rfl, hnil _, hbx _⟩

set_option maxHeartbeats 4000000 in
set_option maxRecDepth 100000 in
theorem implDeps_c (S : Nat → Prop) (d : PlanD) (cs : List Value) (t : ByteArray) (w : World) (hd : shPlan.lies S w cs d) (hB : ∀ b, S b → b < w.heap.size) (hw : wtPlan d ≤ 1048576) :
    Calls Try.prog 27 #[.agg cs.toArray, .string t] w fun e w' => ∃ u, e = .returned u ∧ StrR w.heap.size w'.heap.size w' u (depsD d t) ∧ Below w.heap.size w w' := by
  obtain ⟨pt, ct, pd, cd, rfl⟩ := plan_cells hd
  obtain ⟨A0, hA0⟩ : ∃ A, A = w.alloc (.cells #[.slice pt d.tasks.length ct, .slice pd d.deps.length cd] 47 (0, 0)) := ⟨_, rfl⟩
  have kA : Below w.heap.size w A0 := by rw [hA0]; exact (Below.refl _ _).alloc (Nat.le_refl _) _
  have hx0 : A0.heap[w.heap.size]? = some (.cells #[.slice pt d.tasks.length ct, .slice pd d.deps.length cd] 47 (0, 0)) := by rw [hA0]; exact vheap_new _ _
  have hdA : ∀ W, Below A0.heap.size A0 W → shPlan.lies S W [.slice pt d.tasks.length ct, .slice pd d.deps.length cd] d := fun W h => shPlan.keep (.of (kA.trans (h.mono kA.size)) hB) hd
  have hBA : ∀ W, Below A0.heap.size A0 W → ∀ b, S b → b < W.heap.size := fun W h b hb => Nat.lt_of_lt_of_le (hB b hb) (kA.trans (h.mono kA.size)).size
  have hw0 := hw
  unfold wtPlan at hw0
  obtain ⟨q0, q1, q2⟩ := sane_wt (ss := d.tasks) (by omega)
  have HI : Hid (∀ W, Below A0.heap.size A0 W → Calls Try.prog 68 #[.slice pt d.tasks.length ct, .string t] W fun e w' => e = .returned (.int .i64 (idxS d.tasks t)) ∧ Below W.heap.size W w') := fun W h => by
    obtain ⟨v0, v1, he, r0, p0, r1⟩ := hdA W h
    simp only [List.cons.injEq, and_true] at he
    obtain ⟨rfl, rfl⟩ := he
    have h9 := indexStr_c _ d.tasks t W (r0.reads (hBA W h)) q0
    rwa [firstI_idx] at h9
  have HD : Hid (∀ W, Below A0.heap.size A0 W → Calls Try.prog 67 #[.agg #[.slice pt d.tasks.length ct, .slice pd d.deps.length cd], .int .i64 (idxS d.tasks t)] W fun e w' => ∃ u, e = .returned u ∧ Reads w' u (strsV (depsD d t)) ∧ Below W.heap.size W w') := fun W h => depsAt_c S d _ _ t W (hdA W h) (hBA W h) hw rfl
  have hsd : ∀ x ∈ depsD d t, x.size ≤ 1048576 := fun x hx => by
    rcases depsD_in d t with h | ⟨l, hl, h⟩
    · rw [h] at hx; cases hx
    · rw [h] at hx
      have h1 : wtStringS l ≤ wtRow wtStringS d.deps := wt_wtRow wtStringS hl
      have h2 : wtStringS l = bulkS l := rfl
      have h3 := bulk_mem hx
      omega
  have hld : (depsD d t).length ≤ 1048576 := by
    rcases depsD_in d t with h | ⟨l, hl, h⟩
    · rw [h]; simp
    · rw [h]
      have h1 : wtStringS l ≤ wtRow wtStringS d.deps := wt_wtRow wtStringS hl
      have h2 : wtStringS l = bulkS l := rfl
      unfold bulkS at h2
      omega
  have HC : Hid (∀ W u, Reads W u (strsV (depsD d t)) → Calls Try.prog 66 #[u] W fun e w' => ∃ u', e = .returned u' ∧ w'.ownsRow W.heap.size 9 1 u' (depsD d t).length (strsV (depsD d t)) ∧ Below W.heap.size W w') := fun W u h => copyTexts_c u _ W h hld hsd
  obtain ⟨NN, hNN⟩ : ∃ N, N = depsD d t := ⟨_, rfl⟩
  obtain ⟨II, hII⟩ : ∃ N, N = idxS d.tasks t := ⟨_, rfl⟩
  rw [← hNN] at HC HD ⊢
  rw [← hII] at HI HD
  obtain ⟨n1, hn1⟩ : ∃ n, n = d.tasks.length := ⟨_, rfl⟩
  obtain ⟨n2, hn2⟩ : ∃ n, n = d.deps.length := ⟨_, rfl⟩
  rw [← hn1, ← hn2] at hx0 hA0
  rw [← hn1] at HI
  rw [← hn1, ← hn2] at HD
  rw [← hn1, ← hn2]
  have HA : Hid (w.alloc (.cells #[.slice pt n1 ct, .slice pd n2 cd] 47 (0, 0)) = A0) := hA0.symm
  have h0 : Below A0.heap.size A0 A0.drew := (Below.refl _ _).drew
  have KEEP : Hid (∀ W, Below A0.heap.size A0 W → W.cell? ⟨w.heap.size, 0, none⟩ = some (.slice pt n1 ct) ∧ W.cell? ⟨w.heap.size, 1, none⟩ = some (.slice pd n2 cd)) := fun W h => cells2P (box_staysP hx0 h)
  have hsz : w.heap.size ≤ A0.heap.size := kA.size
  clear hNN hII hdA hBA hA0 hx0 hd hw hw0 q0 q1 q2 hsd hld hn1 hn2
  go_enter Try.func27, Try.ntmps27
  go_wp2_with fail
  rw [HA.out]
  refine wp_region_held_drew (S := (fun W => W.cell? ⟨w.heap.size, 0, none⟩ = some (.slice pt n1 ct) ∧ W.cell? ⟨w.heap.size, 1, none⟩ = some (.slice pd n2 cd))) (by kernel_rfl) ?SR10 (fun hHeld => ?_)
  case SR10 => (first | (with_reducible exact KEEP.out _ h3) | (with_reducible exact KEEP.out _ h2) | (with_reducible exact KEEP.out _ h1) | (with_reducible exact KEEP.out _ h0))
  refine wpAnyH_take (i := 0) (oi := _) (v := ?vR10) rfl (by kernel_rfl) (by kernel_rfl) (by kernel_rfl) (fun _ _ _ h => h) (Or.inl ⟨by rfl, ?yR10⟩) hHeld ?_
  case yR10 => (intro w hSw; (try dsimp only at hSw); go_simp <;> with_reducible rfl)
  try simp only [Act.put, List.getElem_toArray, List.getElem_cons_zero, List.getElem_cons_succ, List.setIfInBounds_toArray, List.set_cons_zero, List.set_cons_succ]
  refine wpAnyH_take (i := 1) (oi := _) (v := ?vR11) rfl (by kernel_rfl) (by kernel_rfl) (by kernel_rfl) (fun _ _ _ h => h) (Or.inl ⟨by rfl, ?yR11⟩) hHeld ?_
  case yR11 => (intro w hSw; (try dsimp only at hSw); go_simp <;> with_reducible rfl)
  try simp only [Act.put, List.getElem_toArray, List.getElem_cons_zero, List.getElem_cons_succ, List.setIfInBounds_toArray, List.set_cons_zero, List.set_cons_succ]
  refine wpAnyH_take (i := 2) (oi := _) (v := ?vR12) rfl (by kernel_rfl) (by kernel_rfl) (by kernel_rfl) (fun _ _ _ h => h) (Or.inl ⟨by rfl, ?yR12⟩) hHeld ?_
  case yR12 => (intro w hSw; (try dsimp only at hSw); go_simp <;> with_reducible rfl)
  try simp only [Act.put, List.getElem_toArray, List.getElem_cons_zero, List.getElem_cons_succ, List.setIfInBounds_toArray, List.set_cons_zero, List.set_cons_succ]
  refine wpAnyH_take (i := 3) (oi := _) (v := ?vR13) rfl (by kernel_rfl) (by kernel_rfl) (by kernel_rfl) (fun _ _ _ h => h) (Or.inl ⟨by rfl, ?yR13⟩) hHeld ?_
  case yR13 => (intro w hSw; (try dsimp only at hSw); go_simp <;> with_reducible rfl)
  try simp only [Act.put, List.getElem_toArray, List.getElem_cons_zero, List.getElem_cons_succ, List.setIfInBounds_toArray, List.set_cons_zero, List.set_cons_succ]
  refine wpAnyH_ready (rs := [4]) (by kernel_rfl) (by simp) ?_
  refine AllReadyH.cons rfl (fun K hK => ?_) AllReadyH.nil
  go_simp
  go_wp2_with (go_at_call 68; refine (HI.out _ h0).mono ?_; rintro e w1 ⟨rfl, b1⟩; have h1 : Below A0.heap.size A0 w1 := h0.trans (b1.mono h0.size))
  clear hHeld
  refine hK.out _ _ ?SR15 (fun hHeld => ?_)
  case SR15 => ((try dsimp only); first | (with_reducible exact KEEP.out _ h3) | (with_reducible exact KEEP.out _ h2) | (with_reducible exact KEEP.out _ h1) | (with_reducible exact KEEP.out _ h0))
  clear hK K
  refine wpAnyH_ready (rs := [5]) (by kernel_rfl) (by simp) ?_
  refine AllReadyH.cons rfl (fun K hK => ?_) AllReadyH.nil
  go_simp
  go_wp2_with (go_at_call 67; refine (HD.out _ h1).mono ?_; rintro e w2 ⟨u, rfl, hu, b2⟩; have h2 : Below A0.heap.size A0 w2 := h1.trans (b2.mono h1.size); have HUR := hidden hu; obtain ⟨au, cu, eu, _⟩ := reads_strs hu; subst eu; clear hu)
  clear hHeld
  refine hK.out _ _ ?SR16 (fun hHeld => ?_)
  case SR16 => ((try dsimp only); first | (with_reducible exact KEEP.out _ h3) | (with_reducible exact KEEP.out _ h2) | (with_reducible exact KEEP.out _ h1) | (with_reducible exact KEEP.out _ h0))
  clear hK K
  refine wpAnyH_ready (rs := [6]) (by kernel_rfl) (by simp) ?_
  refine AllReadyH.cons rfl (fun K hK => ?_) AllReadyH.nil
  go_simp
  go_wp2_with (go_at_call 66; refine (HC.out _ _ HUR.out).mono ?_; rintro e w3 ⟨v, rfl, hv, b3⟩; have h3 : Below A0.heap.size A0 w3 := h2.trans (b3.mono h2.size))
  clear hHeld
  refine hK.out _ _ ?SR17 (fun hHeld => ?_)
  case SR17 => ((try dsimp only); first | (with_reducible exact KEEP.out _ h3) | (with_reducible exact KEEP.out _ h2) | (with_reducible exact KEEP.out _ h1) | (with_reducible exact KEEP.out _ h0))
  clear hK K
  refine wpAnyH_take (i := 7) (oi := _) (v := ?vR17) rfl (by kernel_rfl) (by kernel_rfl) (by kernel_rfl) (fun _ _ _ h => h) (Or.inl ⟨by rfl, ?yR17⟩) hHeld ?_
  case yR17 => (intro w hSw; (try dsimp only at hSw); go_simp <;> with_reducible rfl)
  try simp only [Act.put, List.getElem_toArray, List.getElem_cons_zero, List.getElem_cons_succ, List.setIfInBounds_toArray, List.set_cons_zero, List.set_cons_succ]
  refine wpAnyH_done (by kernel_rfl) ?_ _
  obtain ⟨qv, cv, ev⟩ := owns_slG hv
  subst ev
  have HR : Hid (StrR w.heap.size w3.heap.size w3 (.slice qv NN.length cv) NN) := strR_wide (strR_of hv) (by have := h2.size; omega)
  have HK : Hid (Below w.heap.size w w3) := kA.trans (h3.mono kA.size)
  clear hv h0 h1 h2 h3 b1 b2 b3
  go_wp2_with fail
  go_ret
  exact ⟨_, rfl, HR.out, HK.out⟩
end Go.Proofs.Ytkkhnldhipfneaa

/-! The law on DepsOf, walked: whatever plan and task come in, the program and the specification answer alike, nothing is written into an argument, and the answer owns its memory; condition: what comes in lies in memory. -/
namespace Go.Proofs.Ytkkhnldhipfneaa
open Go.RowKit
set_option linter.unusedSimpArgs false
set_option linter.unusedVariables false

set_option maxHeartbeats 8000000 in
set_option maxRecDepth 100000 in
theorem depsOf_walk (b0 : List Value) (d : PlanD) (a1 : ByteArray) (hs1 : a1.size ≤ maxLen) (w : World) (r0 : shPlan.lies (· < w.heap.size) w b0 d) :
    Calls Try.prog 7 #[.agg b0.toArray, .string a1] w fun e w' => e = .returned (.bool true) ∧ Below w.heap.size w w' := by
  unfold maxLen at hs1
  by_cases hbig1 : 1048576 < a1.size
  · have hb : (1048576 : Int) < (a1.size : Int) := by omega
    obtain ⟨x0, y0, x1, y1, rfl⟩ := plan_cells r0
    clear r0
    go_enter Try.func7, Try.ntmps7
    go_wp2_with fail
    go_ret
    exact ⟨rfl, (Below.refl _ _).alloc (Nat.le_refl _) _⟩
  have hb1' : ¬ (1048576 : Int) < (a1.size : Int) := by omega
  obtain ⟨x0, y0, x1, y1, rfl⟩ := plan_cells r0
  have hin : ∀ w1, Below w.heap.size w w1 → shPlan.lies (· < w.heap.size) w1 [.slice x0 d.tasks.length y0, .slice x1 d.deps.length y1] d := fun w1 h => shPlan.keep (Kp.of h (fun b h => h)) r0
  have hbx : Below w.heap.size w (w.alloc (.cells #[.slice x0 d.tasks.length y0, .slice x1 d.deps.length y1] 44 (0, 0))) := (Below.refl _ _).alloc (Nat.le_refl _) _
  have hA0 : (w.alloc (.cells #[.slice x0 d.tasks.length y0, .slice x1 d.deps.length y1] 44 (0, 0))).heap[w.heap.size]? = some (.cells #[.slice x0 d.tasks.length y0, .slice x1 d.deps.length y1] 44 (0, 0)) := vheap_new _ _
  have HZ : Hid (∀ w1, Below w.heap.size w w1 → Calls Try.prog 21 #[.agg #[.slice x0 d.tasks.length y0, .slice x1 d.deps.length y1], .int .i64 1048576] w1 fun e w' => e = .returned (.int .i64 (leftW (wtPlan d) 1048576)) ∧ Below w1.heap.size w1 w') := fun w1 h => szPlan_c _ d _ _ (by omega) (by omega) w1 (hin w1 h) (fun b hb => Nat.lt_of_lt_of_le hb h.size)
  by_cases hbig : 1048576 < wtPlan d
  · have e1 : leftW (wtPlan d) 1048576 = -1 := leftW_bad (by omega)
    rw [e1] at HZ
    clear e1 hin r0
    go_enter Try.func7, Try.ntmps7
    go_wp2_with (go_at_call 21; refine (HZ.out _ hbx).mono ?_; rintro e w1 ⟨rfl, hb1⟩)
    go_ret
    exact ⟨rfl, hbx.trans (hb1.mono hbx.size)⟩
  have hwt : wtPlan d ≤ 1048576 := by omega
  obtain ⟨p, hp⟩ : ∃ p, p = leftW (wtPlan d) 1048576 := ⟨_, rfl⟩
  rw [← hp] at HZ
  have hp0 : 0 ≤ p := by rw [hp, leftW_good (by omega)]; omega
  clear hp
  have HT : Hid (∀ w1, Below w.heap.size w w1 → Calls Try.prog 23 #[.agg #[.slice x0 d.tasks.length y0, .slice x1 d.deps.length y1]] w1 fun e w' => ∃ p q r t, e = .returned (.agg #[.slice p d.tasks.length q, .slice r d.deps.length t]) ∧ PlanL w1.heap.size w'.heap.size w' p q r t d ∧ Below w1.heap.size w1 w') := fun w1 h => toPlanL _ _ _ _ _ d w1 (hin w1 h) (fun b hb => Nat.lt_of_lt_of_le hb h.size) hwt
  obtain ⟨NN, hNN⟩ : ∃ R, R = depsD d a1 := ⟨_, rfl⟩
  have HSP : Hid (∀ w1 lo hi p q r t, PlanL lo hi w1 p q r t d → Calls Try.prog 26 #[.agg #[.slice p d.tasks.length q, .slice r d.deps.length t], .string a1] w1 fun e w' => ∃ u, e = .returned u ∧ StrR w1.heap.size w'.heap.size w' u NN ∧ NN.length ≤ 1048576 ∧ Below w1.heap.size w1 w') := fun w1 lo hi p q r t h => by
    rw [hNN]; exact specDeps_c _ d _ a1 w1 h.1 h.lt hwt
  have HIM : Hid (∀ w1 lo hi p q r t, PlanL lo hi w1 p q r t d → Calls Try.prog 27 #[.agg #[.slice p d.tasks.length q, .slice r d.deps.length t], .string a1] w1 fun e w' => ∃ u, e = .returned u ∧ StrR w1.heap.size w'.heap.size w' u NN ∧ Below w1.heap.size w1 w') := fun w1 lo hi p q r t h => by
    rw [hNN]; exact implDeps_c _ d _ a1 w1 (liesPlan_plain h.1) h.lt hwt
  have HEP : Hid (∀ w1 lo hi p q r t lo' hi' p' q' r' t', PlanL lo hi w1 p q r t d → PlanL lo' hi' w1 p' q' r' t' d → Calls Try.prog 25 #[.agg #[.slice p d.tasks.length q, .slice r d.deps.length t], .agg #[.slice p' d.tasks.length q', .slice r' d.deps.length t']] w1 fun e w' => e = .returned (.bool true) ∧ Below w1.heap.size w1 w') := fun w1 lo hi p q r t lo' hi' p' q' r' t' h h' => eqPlanL w1 h h' hwt
  have HMP : Hid (∀ w1 lo hi p q r t, PlanL lo hi w1 p q r t d → Calls Try.prog 29 #[.agg #[.slice p d.tasks.length q, .slice r d.deps.length t], .int .i64 1] w1 fun e w' => ∃ q : Nat, e = .returned (.int .i64 (q : Int)) ∧ Chg (Ow lo hi) w1 w') := fun w1 lo hi p q r t h => markPlanL w1 h hwt
  have HEV : Hid (NN.length ≤ 1048576 → ∀ W l h l' h' u u', StrR l h W u NN → StrR l' h' W u' NN → Calls Try.prog 28 #[u, u'] W fun e w' => e = .returned (.bool true) ∧ Below W.heap.size W w') := fun hl W l h l' h' u u' a b => by
    have h9 := eqStrs_c u u' NN NN W (reads_of_owns a.1.1) (reads_of_owns b.1.1) (by omega)
    simpa using h9
  obtain ⟨M1, hM1⟩ : ∃ K, K = 1 + NN.length := ⟨_, rfl⟩
  have hM1n : ¬ (M1 : Int) < 0 := by omega
  have hMi : ((1 : Nat) : Int) + (NN.length : Int) = (M1 : Int) := by omega
  have HMV : Hid (NN.length ≤ 1048576 → ∀ W l h u, StrR l h W u NN → Calls Try.prog 30 #[u, .int .i64 1] W fun e w' => e = .returned (.int .i64 (M1 : Int)) ∧ w'.ownsRow 0 9 1 u NN.length (strsV (marksS 1 NN.length)) ∧ Chg (Ow l h) W w') := fun hl W l h u a => by
    have h9 := markStrs_c u 0 NN.length (strsV NN) 1 W a.1.1 (Nat.le_refl _) (by omega) (by omega) (Nat.zero_le _)
    rw [hMi] at h9
    refine h9.mono ?_
    rintro e w' ⟨he, hn, hg⟩
    exact ⟨he, hn, Chg.grown hg a.1.2⟩
  have HHV : Hid (NN.length ≤ 1048576 → ∀ W u, W.ownsRow 0 9 1 u NN.length (strsV (marksS 1 NN.length)) → Calls Try.prog 31 #[u, .int .i64 1] W fun e w' => e = .returned (.int .i64 (M1 : Int)) ∧ Below W.heap.size W w') := fun hl W u a => by
    have h9 := heldStrs_c u NN.length 1 W (reads_of_owns a) (Nat.le_refl _) (by omega) (by omega)
    rw [hMi] at h9
    exact h9
  clear hNN hin r0 hbig hwt hM1 hMi hbig1 hs1
  go_enter Try.func7, Try.ntmps7
  go_wp2_with fail
  go_at_call 21
  refine (HZ.out _ hbx).mono ?_
  rintro e w1 ⟨rfl, b1⟩
  have hA1 := box_staysP hA0 b1
  have k1 := hbx.trans (b1.mono hbx.size)
  clear HZ b1 hA0 hbx
  obtain ⟨a0, a1z⟩ := cells2P hA1
  go_wp2_with fail
  go_at_call 23
  refine (HT.out _ k1).mono ?_
  rintro e w2 ⟨p2, q2, r2, t2, rfl, P2, b2⟩
  have hA2 := box_staysP hA1 b2
  have k2 := k1.trans (b2.mono k1.size)
  clear hA1 b2 a0 a1z
  go_wp2_with fail
  go_at_call 26
  refine (HSP.out _ _ _ _ _ _ _ P2).mono ?_
  rintro e w3 ⟨u6, rfl, o6, hlN, b3⟩
  have hA3 := box_staysP hA2 b3
  have k3 := k2.trans (b3.mono k2.size)
  have m3 := b3.size
  have HL := hidden hlN
  obtain ⟨a0, a1z⟩ := cells2P hA3
  have hA3' := hA3
  clear hA2 b3 P2 HSP hlN
  go_wp2_with fail
  go_at_call 23
  refine (HT.out _ k3).mono ?_
  rintro e w4 ⟨p4, q4, r4, t4, rfl, P4, b4⟩
  have k4 := k3.trans (b4.mono k3.size)
  have hA4 := box_staysP hA3 b4
  have m4 := b4.size
  replace o6 := o6.below b4
  clear hA3 b4 a0 a1z
  have x4 : Below w4.heap.size w4 (w4.alloc (.cells #[.slice p4 d.tasks.length q4, .slice r4 d.deps.length t4] 47 (0, 0))) := (Below.refl _ _).alloc (Nat.le_refl _) _
  have h5 : (w4.alloc (.cells #[.slice p4 d.tasks.length q4, .slice r4 d.deps.length t4] 47 (0, 0))).heap[w4.heap.size]? = some (.cells #[.slice p4 d.tasks.length q4, .slice r4 d.deps.length t4] 47 (0, 0)) := vheap_new _ _
  have s4 : (w4.alloc (.cells #[.slice p4 d.tasks.length q4, .slice r4 d.deps.length t4] 47 (0, 0))).heap.size = w4.heap.size + 1 := by simp
  go_wp2_with fail
  obtain ⟨wb, hwb⟩ : ∃ wb, wb = w4.alloc (.cells #[.slice p4 d.tasks.length q4, .slice r4 d.deps.length t4] 47 (0, 0)) := ⟨_, rfl⟩
  rw [← hwb] at x4 h5 s4
  rw [← hwb]
  clear hwb
  have kb := k4.trans (x4.mono k4.size)
  have hAb := box_staysP hA4 x4
  have Pb := P4.below x4
  replace o6 := o6.below x4
  clear hA4 P4 x4
  go_at_call 27
  refine (HIM.out _ _ _ _ _ _ _ Pb).mono ?_
  rintro e w5 ⟨u9, rfl, o9, b5⟩
  have k5 := kb.trans (b5.mono kb.size)
  have hA5 := box_staysP hAb b5
  have h55 := box_staysP h5 b5
  have P5 := Pb.below b5
  have m5 := b5.size
  replace o6 := o6.below b5
  clear hAb h5 Pb b5
  go_wp2_with fail
  go_at_call 28
  refine (HEV.out HL.out _ _ _ _ _ _ _ o9 o6).mono ?_
  rintro e w8 ⟨rfl, b8⟩
  have k8 := k5.trans (b8.mono k5.size)
  have hA8 := box_staysP hA5 b8
  have h58 := box_staysP h55 b8
  have P8 := P5.below b8
  have m8 := b8.size
  replace o6 := o6.below b8
  replace o9 := o9.below b8
  clear hA5 h55 P5 b8
  obtain ⟨a0, a2⟩ := cells2P hA8
  obtain ⟨c0, c1⟩ := cells2P h58
  have h0 : Below w8.heap.size w8 w8.drew := (Below.refl _ _).drew
  have KEEP : Hid (∀ W, Below w8.heap.size w8 W → W.cell? ⟨w4.heap.size, 0, none⟩ = some (.slice p4 d.tasks.length q4) ∧ W.cell? ⟨w4.heap.size, 1, none⟩ = some (.slice r4 d.deps.length t4) ∧ W.cell? ⟨w.heap.size, 0, none⟩ = some (.slice x0 d.tasks.length y0) ∧ W.cell? ⟨w.heap.size, 1, none⟩ = some (.slice x1 d.deps.length y1)) := fun W h => by
    obtain ⟨i0, i1⟩ := cells2P (box_staysP h58 h)
    obtain ⟨j0, j1⟩ := cells2P (box_staysP hA8 h)
    exact ⟨i0, i1, j0, j1⟩
  go_wp2_with fail
  refine wp_region_held_drew (S := (fun W => W.cell? ⟨w4.heap.size, 0, none⟩ = some (.slice p4 d.tasks.length q4) ∧ W.cell? ⟨w4.heap.size, 1, none⟩ = some (.slice r4 d.deps.length t4) ∧ W.cell? ⟨w.heap.size, 0, none⟩ = some (.slice x0 d.tasks.length y0) ∧ W.cell? ⟨w.heap.size, 1, none⟩ = some (.slice x1 d.deps.length y1))) (by kernel_rfl) ?SR30 (fun hHeld => ?_)
  case SR30 => (first | (with_reducible exact KEEP.out _ h2) | (with_reducible exact KEEP.out _ h1) | (with_reducible exact KEEP.out _ h0))
  refine wpAnyH_take (i := 0) (oi := _) (v := ?vR30) rfl (by kernel_rfl) (by kernel_rfl) (by kernel_rfl) (fun _ _ _ h => h) (Or.inl ⟨by rfl, ?yR30⟩) hHeld ?_
  case yR30 => (intro w hSw; (try dsimp only at hSw); go_simp <;> with_reducible rfl)
  try simp only [Act.put, List.getElem_toArray, List.getElem_cons_zero, List.getElem_cons_succ, List.setIfInBounds_toArray, List.set_cons_zero, List.set_cons_succ]
  refine wpAnyH_take (i := 1) (oi := _) (v := ?vR31) rfl (by kernel_rfl) (by kernel_rfl) (by kernel_rfl) (fun _ _ _ h => h) (Or.inl ⟨by rfl, ?yR31⟩) hHeld ?_
  case yR31 => (intro w hSw; (try dsimp only at hSw); go_simp <;> with_reducible rfl)
  try simp only [Act.put, List.getElem_toArray, List.getElem_cons_zero, List.getElem_cons_succ, List.setIfInBounds_toArray, List.set_cons_zero, List.set_cons_succ]
  refine wpAnyH_ready (rs := [2]) (by kernel_rfl) (by simp) ?_
  refine AllReadyH.cons rfl (fun K hK => ?_) AllReadyH.nil
  go_simp
  go_wp2_with (go_at_call 23; refine (HT.out _ (k8.trans (h0.mono k8.size))).mono ?_; rintro e w6 ⟨p6, q6, r6, t6, rfl, P6, b6⟩; have h1 : Below w8.heap.size w8 w6 := h0.trans (b6.mono h0.size); have P56 := P8.below h1)
  clear hHeld
  refine hK.out _ _ ?SR33 (fun hHeld => ?_)
  case SR33 => ((try dsimp only); first | (with_reducible exact KEEP.out _ h2) | (with_reducible exact KEEP.out _ h1) | (with_reducible exact KEEP.out _ h0))
  clear hK K
  refine wpAnyH_ready (rs := [3]) (by kernel_rfl) (by simp) ?_
  refine AllReadyH.cons rfl (fun K hK => ?_) AllReadyH.nil
  go_simp
  go_wp2_with (go_at_call 25; refine (HEP.out _ _ _ _ _ _ _ _ _ _ _ _ _ P56 P6).mono ?_; rintro e w7 ⟨rfl, b7⟩; have h2 : Below w8.heap.size w8 w7 := h1.trans (b7.mono h1.size))
  clear hHeld
  refine hK.out _ _ ?SR34 (fun hHeld => ?_)
  case SR34 => ((try dsimp only); first | (with_reducible exact KEEP.out _ h2) | (with_reducible exact KEEP.out _ h1) | (with_reducible exact KEEP.out _ h0))
  clear hK K
  refine wpAnyH_take (i := 4) (oi := _) (v := ?vR34) rfl (by kernel_rfl) (by kernel_rfl) (by kernel_rfl) (fun _ _ _ h => h) (Or.inl ⟨by rfl, ?yR34⟩) hHeld ?_
  case yR34 => (intro w hSw; (try dsimp only at hSw); go_simp <;> with_reducible rfl)
  try simp only [Act.put, List.getElem_toArray, List.getElem_cons_zero, List.getElem_cons_succ, List.setIfInBounds_toArray, List.set_cons_zero, List.set_cons_succ]
  refine wpAnyH_done (by kernel_rfl) ?_ _
  have kz := k8.trans (h2.mono k8.size)
  have hA9 := box_staysP hA8 h2
  have h59 := box_staysP h58 h2
  have P9 := P8.below h2
  have m9 := h2.size
  replace o6 := o6.below h2
  replace o9 := o9.below h2
  clear hA8 h58 P8 P56 P6 b6 b7 h0 h1 KEEP HEP c0 c1 a0 a2 h2
  obtain ⟨c0, c1⟩ := cells2P h59
  go_wp2_with fail
  go_at_call 29
  refine (HMP.out _ _ _ _ _ _ _ P9).mono ?_
  rintro e w10 ⟨kq, rfl, ch⟩
  have hkq : ¬ (kq : Int) < 0 := by omega
  have k10 := below_chgW kz ch (fun b hb => by have := hb.1; have := k3.size; omega) kz.size
  have m10 := ch.size
  have hA10 := (ch.block _ (Array.getElem?_eq_some_iff.1 hA9).1 (fun h => by have h1 := h.1; have := (Array.getElem?_eq_some_iff.1 hA3').1; omega)).trans hA9
  replace o6 := o6.chg ch (fun b hb h => by have := hb.2; have := h.1; omega)
  replace o9 := o9.chg ch (fun b hb h => by have := hb.1; have := h.2; omega)
  clear P9 ch HMP c0 c1 h59 hA9
  go_wp2_with fail
  go_at_call 28
  refine (HEV.out HL.out _ _ _ _ _ _ _ o9 o6).mono ?_
  rintro e w11 ⟨rfl, b11⟩
  have k11 := k10.trans (b11.mono k10.size)
  have hA11 := box_staysP hA10 b11
  have m11 := b11.size
  replace o6 := o6.below b11
  replace o9 := o9.below b11
  clear hA10 b11
  go_wp2_with fail
  go_at_call 30
  refine (HMV.out HL.out _ _ _ _ o9).mono ?_
  rintro e w12 ⟨rfl, n12, ch⟩
  have k12 := below_chgW k11 ch (fun b hb => by have := hb.1; have := k3.size; omega) k11.size
  have m12 := ch.size
  have hA12 := (ch.block _ (Array.getElem?_eq_some_iff.1 hA11).1 (fun h => by have h1 := h.1; have := (Array.getElem?_eq_some_iff.1 hA3').1; omega)).trans hA11
  replace o6 := o6.chg ch (fun b hb h => by have := hb.2; have := h.1; omega)
  clear ch HMV hA11 o9
  go_wp2_with fail
  go_at_call 31
  refine (HHV.out HL.out _ _ n12).mono ?_
  rintro e w13 ⟨rfl, b13⟩
  have k13 := k12.trans (b13.mono k12.size)
  have hA13 := box_staysP hA12 b13
  replace n12 := owns_of_belowN n12 b13
  replace o6 := o6.below b13
  clear b13 hA12
  obtain ⟨a0, a2⟩ := cells2P hA13
  go_wp2_with fail
  go_at_call 23
  refine (HT.out _ k13).mono ?_
  rintro e w14 ⟨p14, q14, r14, t14, rfl, P14, b14⟩
  have k14 := k13.trans (b14.mono k13.size)
  replace n12 := owns_of_belowN n12 b14
  replace o6 := o6.below b14
  clear b14 hA13 a0 a2
  go_wp2_with fail
  go_at_call 27
  refine (HIM.out _ _ _ _ _ _ _ P14).mono ?_
  rintro e w15 ⟨u15, rfl, o15, b15⟩
  have k15 := k14.trans (b15.mono k14.size)
  replace n12 := owns_of_belowN n12 b15
  replace o6 := o6.below b15
  clear b15 P14
  go_wp2_with fail
  go_at_call 28
  refine (HEV.out HL.out _ _ _ _ _ _ _ o15 o6).mono ?_
  rintro e w16 ⟨rfl, b16⟩
  have k16 := k15.trans (b16.mono k15.size)
  replace n12 := owns_of_belowN n12 b16
  clear b16 o15 o6
  go_wp2_with fail
  go_at_call 31
  refine (HHV.out HL.out _ _ n12).mono ?_
  rintro e w17 ⟨rfl, b17⟩
  have k17 := k16.trans (b17.mono k16.size)
  go_wp2_with fail
  go_ret
  exact ⟨rfl, k17⟩
end Go.Proofs.Ytkkhnldhipfneaa

/-! What comes in as a version of the laws' own type: three numbers, and a list of texts that lies in memory: no condition. -/
namespace Go.Proofs.Ytkkhnldhipfneaa
open Go.ChangeShapes Go.WideShapes Go.ChangeAt Go.RowKit
set_option linter.unusedSimpArgs false
set_option linter.unusedVariables false

theorem vaddr_add (b off i : Nat) : ((⟨b, off, none⟩ : Addr).add i) = ⟨b, off + i, none⟩ := by unfold Addr.add; split <;> simp_all
theorem list4 {cs : List Value} (h : cs.length = 4) : ∃ c0 c1 c2 c3, cs = [c0, c1, c2, c3] := by
  match cs, h with
  | [c0, c1, c2, c3], _ => exact ⟨c0, c1, c2, c3, rfl⟩

theorem vreads_open {H : Type} {enc : TypeId × Value → H} {w : World} {spare : Nat → Bool} {held : Bool} {fuel : Nat} {c : Value} {x : DataW H × List MemPlace}
    (hf : DataW.trod enc Try.prog w 0 spare held fuel 26 [c] = some x) : ∃ ks, Reads w c (strsV ks) ∧ saneP ks := by
  rcases open_strings Try.underlying26 Try.underlying9 (by kernel_rfl) hf with ⟨hcs, _⟩ | ⟨x, l, cap, zs, hcs, _, hl, hm, hz, _, hcell, hwz⟩
  · simp at hcs
    subst hcs
    exact ⟨[], ⟨none, 0, rfl, Nat.le_refl _, .inl rfl⟩, by simp [saneP]⟩
  · simp at hcs
    subst hcs
    have hz' : l ≤ zs.length := by rw [hz]; split <;> omega
    have hlen : (zs.take l).length = l := by simp; omega
    refine ⟨zs.take l, ?_, by rw [hlen]; omega, fun s hs => hwz s (List.mem_of_mem_take hs)⟩
    by_cases h0 : l = 0
    · subst h0
      exact ⟨some x, cap, by simp [strsV], by simp [strsV], .inl (by simp [strsV])⟩
    · obtain ⟨b, off, spot⟩ := x
      have hc0 := hcell 0 (by omega)
      have hspot : spot = none := by simpa [Addr.add] using World.cell?_spot hc0
      subst hspot
      refine ⟨some ⟨b, off, none⟩, cap, by simp [strsV]; omega, by simp [strsV]; omega, .inr ⟨b, off, rfl, ?_, fun i hi => ?_⟩⟩
      · rw [vaddr_add] at hc0; exact World.block_lt_of_cell? w _ hc0
      · have hi' : i < l := by simp [strsV] at hi; omega
        have := hcell i (by omega)
        rw [vaddr_add] at this
        rw [this]
        simp [strsV, List.getD_eq_getElem?_getD, show i < zs.length by omega]

end Go.Proofs.Ytkkhnldhipfneaa

/-! What comes in as packs of the laws' own type: packs that lie in memory: no condition. -/
namespace Go.Proofs.Ytkkhnldhipfneaa
open Go.ChangeShapes Go.WideShapes Go.ChangeAt Go.RowKit
set_option linter.unusedSimpArgs false
set_option linter.unusedVariables false

theorem olist2 {cs : List Value} (h : cs.length = 2) : ∃ c0 c1, cs = [c0, c1] := by
  match cs, h with
  | [c0, c1], _ => exact ⟨c0, c1, rfl⟩
theorem olist4 {cs : List Value} (h : cs.length = 4) : ∃ c0 c1 c2 c3, cs = [c0, c1, c2, c3] := by
  match cs, h with
  | [c0, c1, c2, c3], _ => exact ⟨c0, c1, c2, c3, rfl⟩
theorem olist_of {α : Type} {P : Nat → α → Prop} : ∀ n, (∀ i, i < n → ∃ a, P i a) → ∃ l : List α, l.length = n ∧ ∀ i (h : i < l.length), P i l[i]
  | 0, _ => ⟨[], rfl, fun i h => by simp at h⟩
  | n + 1, h => by
    obtain ⟨l, hl, hp⟩ := olist_of n (fun i hi => h i (by omega))
    obtain ⟨a, ha⟩ := h n (by omega)
    refine ⟨l ++ [a], by simp [hl], fun i hi => ?_⟩
    by_cases h1 : i < l.length
    · rw [List.getElem_append_left h1]; exact hp i h1
    · have : i = n := by simp at hi; omega
      subst this
      rw [List.getElem_append_right (by omega)]
      simpa using ha

/-- A row that comes in, out of what its elements are. -/
theorem rows_of_trod {α H : Type} {P : Program} {enc : TypeId × Value → H} {w : World} {spare : Nat → Bool} {held : Bool} (sh : Sh α) {ts te : TypeId} (hu : P.underlying ts = some (.slice te)) (hn : P.cellsOf te = sh.n) (hpos : 0 < sh.n)
    (helem : ∀ n cs y, DataW.trod enc P w 0 spare held n te cs = some y → ∃ a, sh.lies (· < w.heap.size) w cs a) (fuel : Nat) (c : Value) (x : DataW H × List MemPlace)
    (h : DataW.trod enc P w 0 spare held fuel ts [c] = some x) : ∃ xs, RowIn sh (· < w.heap.size) w c xs := by
  rcases DataW.trod_slice hu h with ⟨hcs, _⟩ | ⟨a, len, cap, elems, rest, n', hn', hcs, _, _, hl, hcm, hel, hat, _, _⟩
  · simp at hcs
    subst hcs
    exact ⟨[], none, 0, rfl, by simp, Nat.le_refl _, .inl rfl⟩
  · simp at hcs
    subst hcs
    rw [hn] at hat
    have heach : ∀ i, i < len → ∃ q : α, ∃ cs, cs.length = sh.n ∧ sh.lies (· < w.heap.size) w cs q ∧ ∀ j (hj : j < cs.length), w.cell? ((a.add (i * sh.n)).add j) = some cs[j] := fun i hi => by
      have hb := hat i hi
      rw [List.getElem?_eq_getElem (by omega)] at hb
      obtain ⟨cs', hc1, hc2⟩ := Option.bind_eq_some_iff.1 hb
      obtain ⟨q, hq⟩ := helem _ cs' _ hc2
      obtain ⟨hb1, hl5, hcell⟩ := World.cells?_some hc1
      exact ⟨q, cs', hl5, hq, fun j hj => (hcell j (by omega)).trans (List.getElem?_eq_getElem hj)⟩
    obtain ⟨q, hq, hqp⟩ := olist_of len heach
    refine ⟨q, some a, cap, by rw [hq], by rw [hq]; omega, by rw [hq]; omega, ?_⟩
    by_cases h0 : len = 0
    · left; exact List.eq_nil_of_length_eq_zero (by omega)
    · right
      obtain ⟨b, off, spot⟩ := a
      obtain ⟨cs0, hl0, _, hc0⟩ := hqp 0 (by omega)
      have hc0 := hc0 0 (by omega)
      have hspot : spot = none := by
        have := World.cell?_spot hc0
        simpa [Addr.add] using this
      subst hspot
      refine ⟨b, off, rfl, ?_, fun i hi => ?_⟩
      · rw [vaddr_add, vaddr_add] at hc0; exact World.block_lt_of_cell? w _ hc0
      · obtain ⟨cs, h1, h2, h3⟩ := hqp i hi
        refine ⟨cs, h2, fun j hj => ?_⟩
        have := h3 j hj
        rw [vaddr_add, vaddr_add] at this
        exact this

end Go.Proofs.Ytkkhnldhipfneaa

/-! What comes in of the laws' own type lies in memory: no condition. -/
namespace Go.Proofs.Ytkkhnldhipfneaa
open Go.ChangeShapes Go.WideShapes Go.ChangeAt Go.RowKit
set_option linter.unusedSimpArgs false
set_option linter.unusedVariables false

set_option maxRecDepth 100000 in
theorem stringSs_of_trod {H : Type} {enc : TypeId × Value → H} {w : World} {spare : Nat → Bool} {held : Bool} (fuel : Nat) (c : Value) (x : DataW H × List MemPlace)
    (h : DataW.trod enc Try.prog w 0 spare held fuel 42 [c] = some x) : ∃ xs, RowIn shStringS (· < w.heap.size) w c xs :=
  rows_of_trod shStringS Try.underlying42 (by kernel_rfl) (by decide) (fun n cs y hh => by
    have hN : Try.prog.cellsOf 26 = 1 := by kernel_rfl
    obtain ⟨u, rfl⟩ : ∃ u, cs = [u] := by
      rcases DataW.trod_slice Try.underlying26 hh with ⟨hcs, _⟩ | ⟨_, _, _, _, _, _, _, hcs, _⟩
      · exact ⟨_, hcs⟩
      · exact ⟨_, hcs⟩
    obtain ⟨t1, hr1, hs1⟩ := vreads_open hh
    exact ⟨t1, _, rfl, RdB.of hr1, hs1⟩) fuel c x h

set_option maxRecDepth 100000 in
theorem plan_of_trod {H : Type} {enc : TypeId × Value → H} {w : World} {spare : Nat → Bool} {held : Bool} (fuel : Nat) (cs : List Value) (x : DataW H × List MemPlace)
    (h : DataW.trod enc Try.prog w 0 spare held fuel 44 cs = some x) : ∃ d : PlanD, shPlan.lies (· < w.heap.size) w cs d := by
  obtain ⟨xs, n, rfl, _, hlen, hxl, hf⟩ := DataW.trod_struct Try.underlying44 h
  have hN : Try.prog.cellsOf 44 = 2 := by kernel_rfl
  obtain ⟨c0, c1, rfl⟩ := olist2 (hlen.trans hN)
  have hx : ∀ i, i < 2 → ∃ y, xs[i]? = some y := fun i hi => ⟨xs[i]'(by rw [hxl]; exact hi), by rw [List.getElem?_eq_getElem]⟩
  obtain ⟨y0, e0⟩ := hx 0 (by omega)
  have k0 : Try.prog.cellsOf 26 = 1 := by kernel_rfl
  have f0 : DataW.trod enc Try.prog w 0 spare held n 26 [c0] = some y0 := by
    have h : DataW.trod enc Try.prog w 0 spare held n 26 ((([c0, c1] : List Value).drop 0).take (Try.prog.cellsOf 26)) = some y0 := (hf 0 _ rfl).trans e0
    rw [k0] at h; exact h
  obtain ⟨y1, e1⟩ := hx 1 (by omega)
  have k1 : Try.prog.cellsOf 42 = 1 := by kernel_rfl
  have f1 : DataW.trod enc Try.prog w 0 spare held n 42 [c1] = some y1 := by
    have h : DataW.trod enc Try.prog w 0 spare held n 42 ((([c0, c1] : List Value).drop 1).take (Try.prog.cellsOf 42)) = some y1 := (hf 1 _ rfl).trans e1
    rw [k1] at h; exact h
  obtain ⟨t0, hr0, hs0⟩ := vreads_open f0
  obtain ⟨t1, hr1⟩ := stringSs_of_trod n _ _ f1
  exact ⟨⟨t0, t1⟩, _, _, rfl, RdB.of hr0, hs0, hr1⟩
end Go.Proofs.Ytkkhnldhipfneaa
