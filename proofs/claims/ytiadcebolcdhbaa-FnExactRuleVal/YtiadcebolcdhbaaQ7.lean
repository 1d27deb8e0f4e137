/-
  Contracts for the walks, several texts in one: each part says what it proves, and under which conditions.
-/
import Derived.Test.YtiadcebolcdhbaaQ6

/-! The value of a rule, as the specification makes it: a contract for the walks; conditions: the rule lies in memory, and holds at most 2 to the 20. -/
namespace Go.Proofs.Ytiadcebolcdhbaa
open Go.RowKit
set_option linter.unusedSimpArgs false
set_option linter.unusedVariables false

theorem owns_belowQ {w w' : World} {lo sz n : Nat} {e : TypeId} {v : Value} {xs : List Value} (h : w.ownsRow lo e sz v n xs) (hb : Below w.heap.size w w') : w'.ownsRow lo e sz v n xs := owns_kept (S := fun b => b < w.heap.size) (.of hb (fun b h => h)) (fun g hg => (owns_in h g hg).2) h
/-- The ranges of the four parts' blocks. -/
def rgs (lE hE lI hI lO hO : Nat) : Nat → Nat × Nat | 0 => (lE, hE) | 1 => (lI, hI) | 3 => (lO, hO) | _ => (0, 0)
theorem rgs_low {lE hE lI hI lO hO z i b : Nat} (z1 : z ≤ lE) (z2 : z ≤ lI) (z3 : z ≤ lO) (h1 : (rgs lE hE lI hI lO hO i).1 ≤ b) (h2 : b < (rgs lE hE lI hI lO hO i).2) : z ≤ b := by
  unfold rgs at h1 h2
  split at h1 <;> simp_all <;> omega
def kidC (cE cI cO : Value) : Nat → Value | 0 => cE | 1 => cI | 3 => cO | _ => .slice none 0 0
theorem rule_mk {W : World} {cE cI cO : Value} {E I O : List Tree} {kp : Bool} {gv gk lE hE lI hI lO hO : Nat}
    (hv : W.ownsRow 0 50 5 (.slice (some ⟨gv, 0, none⟩) 4 4) 4 [.int .i64 4, .int .i64 0, .string ⟨#[]⟩, cE, .slice none 0 0, .int .i64 4, .int .i64 0, .string ⟨#[]⟩, cI, .slice none 0 0, .int .i64 1, .int .i64 (if kp then 1 else 0), .string ⟨#[]⟩, .slice none 0 0, .slice none 0 0, .int .i64 4, .int .i64 0, .string ⟨#[]⟩, cO, .slice none 0 0])
    (hk : W.ownsRow 0 9 1 (.slice (some ⟨gk, 0, none⟩) 4 4) 4 (strsV ruleKeys))
    (pE : Part W (fun b => lE ≤ b ∧ b < hE) (fun _ => False) cE (.slice none 0 0) E []) (pI : Part W (fun b => lI ≤ b ∧ b < hI) (fun _ => False) cI (.slice none 0 0) I []) (pO : Part W (fun b => lO ≤ b ∧ b < hO) (fun _ => False) cO (.slice none 0 0) O [])
    (e1 : lE ≤ hE) (e2 : lE ≤ lI) (i1 : lI ≤ hI) (i2 : hE ≤ lI) (o1 : lO ≤ hO) (o2 : hI ≤ lO) (o3 : hO ≤ W.heap.size)
    (vO : gv < lO ∨ hO ≤ gv) (vE : hE ≤ gv) (vI : hI ≤ gv) (kE : gk < lE ∨ hE ≤ gk) (kI : gk < lI ∨ hI ≤ gk) (kO : gk < lO ∨ hO ≤ gk) :
    Mk W (fun b => (∃ i : Nat, (rgs lE hE lI hI lO hO i).1 ≤ b ∧ b < (rgs lE hE lI hI lO hO i).2) ∨ (Value.slice (some ⟨gv, 0, none⟩) 4 4).ownBlock = some b ∨ (Value.slice (some ⟨gk, 0, none⟩) 4 4).ownBlock = some b) (.slice (some ⟨gv, 0, none⟩) 4 4) (.slice (some ⟨gk, 0, none⟩) 4 4) [.mk 4 0 ⟨#[]⟩ E [], .mk 4 0 ⟨#[]⟩ I [], .mk 1 (if kp then 1 else 0) ⟨#[]⟩ [] [], .mk 4 0 ⟨#[]⟩ O []] ruleKeys := by
  have rg : ∀ {i b}, (rgs lE hE lI hI lO hO i).1 ≤ b → b < (rgs lE hE lI hI lO hO i).2 → (i = 0 ∧ lE ≤ b ∧ b < hE) ∨ (i = 1 ∧ lI ≤ b ∧ b < hI) ∨ (i = 3 ∧ lO ≤ b ∧ b < hO) := fun {i b} h1 h2 => by
    match i, h1, h2 with
    | 0, h1, h2 => exact .inl ⟨rfl, h1, h2⟩
    | 1, h1, h2 => exact .inr (.inl ⟨rfl, h1, h2⟩)
    | 2, h1, h2 => exact absurd h2 (Nat.not_lt_zero _)
    | 3, h1, h2 => exact .inr (.inr ⟨rfl, h1, h2⟩)
    | n + 4, h1, h2 => exact absurd h2 (Nat.not_lt_zero _)
  refine mk_rows (C := kidC cE cI cO) (U := fun _ => .slice none 0 0) (B := fun i b => (rgs lE hE lI hI lO hO i).1 ≤ b ∧ b < (rgs lE hE lI hI lO hO i).2) (K := fun _ _ => False) (S := fun i b => (rgs lE hE lI hI lO hO i).1 ≤ b ∧ b < (rgs lE hE lI hI lO hO i).2) rfl hv hk ?_ ?_ ?_ (fun i b h => h) (fun i b h => h.elim) ?_ (fun i b _ h => h) ?_ ?_ ?_
  · intro i hi
    match i, hi with
    | 0, _ => exact ⟨rfl, rfl, rfl, rfl, rfl⟩
    | 1, _ => exact ⟨rfl, rfl, rfl, rfl, rfl⟩
    | 2, _ => exact ⟨rfl, rfl, rfl, rfl, rfl⟩
    | 3, _ => exact ⟨rfl, rfl, rfl, rfl, rfl⟩
  · intro i hi
    match i, hi with
    | 0, _ => exact ⟨Nat.zero_le _, saneNil⟩
    | 1, _ => exact ⟨Nat.zero_le _, saneNil⟩
    | 2, _ => exact ⟨Nat.zero_le _, saneNil⟩
    | 3, _ => exact ⟨Nat.zero_le _, saneNil⟩
  · intro i hi
    match i, hi with
    | 0, _ => exact pE
    | 1, _ => exact pI
    | 2, _ => exact ⟨OwnL.mono (nil_own W _).1 (fun b hb => hb), (nil_own W _).2, ⟨rfl, .inl ⟨rfl, rfl⟩⟩, fun g h => by simp [Value.ownBlock] at h, fun _ _ h => h⟩
    | 3, _ => exact pO
  · intro i j b hij h k
    rcases rg h.1 h.2 with ⟨rfl, h1, h2⟩ | ⟨rfl, h1, h2⟩ | ⟨rfl, h1, h2⟩ <;> rcases rg k.1 k.2 with ⟨rfl, k1, k2⟩ | ⟨rfl, k1, k2⟩ | ⟨rfl, k1, k2⟩ <;> first | exact hij rfl | omega
  · intro g hg i h
    have e : gv = g := by simpa [Value.ownBlock] using hg
    rcases rg h.1 h.2 with ⟨rfl, h1, h2⟩ | ⟨rfl, h1, h2⟩ | ⟨rfl, h1, h2⟩ <;> omega
  · intro g hg i h
    have e : gk = g := by simpa [Value.ownBlock] using hg
    rcases rg h.1 h.2 with ⟨rfl, h1, h2⟩ | ⟨rfl, h1, h2⟩ | ⟨rfl, h1, h2⟩ <;> omega
  · intro i b h
    rcases rg h.1 h.2 with ⟨rfl, h1, h2⟩ | ⟨rfl, h1, h2⟩ | ⟨rfl, h1, h2⟩ <;> omega
theorem texts_partQ (v : Value) (ss : List ByteArray) (w : World) (hv : Reads w v (strsV ss)) (hs : bulkS ss ≤ 1048576) (hp : saneP ss) :
    Calls Try.prog 61 #[v] w fun e w' => ∃ n q c, e = .returned (.agg #[.int .i64 4, .int .i64 0, .string ⟨#[]⟩, .slice q n c, .slice none 0 0]) ∧ Part w' (fun b => w.heap.size ≤ b ∧ b < w'.heap.size) (fun _ => False) (.slice q n c) (.slice none 0 0) (ss.map textT) [] ∧ Below w.heap.size w w' := by
  refine (listVal_c v ss w hv hs).mono ?_
  rintro e w' ⟨c, rfl, hrow, hb⟩
  have hl : ss.length ≤ 1048576 := by unfold bulkS at hs; omega
  have h := texts_own hrow (by unfold maxLen; omega) (fun s hs => hp.2 s hs)
  have p : Part w' (fun b => w.heap.size ≤ b ∧ b < w'.heap.size) (fun _ => False) c (.slice none 0 0) (ss.map textT) [] := ⟨OwnL.mono h.1 (fun b hb => owns_in hrow b hb), h.2.mono (fun b hb => owns_in hrow b hb), ⟨rfl, .inl ⟨rfl, rfl⟩⟩, fun g h => by simp [Value.ownBlock] at h, fun _ _ h => h⟩
  obtain ⟨q, cap, ec⟩ := p.own.slice
  subst ec
  exact ⟨_, q, cap, rfl, p, hb⟩

set_option maxHeartbeats 16000000 in
set_option maxRecDepth 100000 in
theorem specRuleVal_c (S : Nat → Prop) (cs : List Value) (d : RuleD) (w : World) (hL : shRule.lies S w cs d) (hB : ∀ b, S b → b < w.heap.size) (hw : wtRule d ≤ 1048576) :
    Calls Try.prog 25 #[.agg cs.toArray] w fun e w' => ∃ c u, e = .returned (.agg #[.int .i64 5, .int .i64 0, .string ⟨#[]⟩, c, u]) ∧ Mk w' (fun b => w.heap.size ≤ b ∧ b < w'.heap.size) c u (ruleKids d) ruleKeys ∧ Below w.heap.size w w' := by
  obtain ⟨u0, u1, u2, rfl, s_task, r0, p0, r1, p1, r2, p2⟩ := hL
  have hw' : bulkS d.on ≤ 1048576 ∧ bulkS d.ins ≤ 1048576 ∧ bulkS d.envs ≤ 1048576 := by unfold wtRule at hw; omega
  have hrd : ∀ {u ss}, RdB S w u (strsV ss) → ∀ w1, Below w.heap.size w w1 → Reads w1 u (strsV ss) := fun r w1 h => (r.keep (.of h hB)).reads (fun b hb => Nat.lt_of_lt_of_le (hB b hb) h.size)
  have T0 := hidden (fun w1 h => texts_partQ u0 d.on w1 (hrd r0 w1 h) hw'.1 p0)
  have T1 := hidden (fun w1 h => texts_partQ u1 d.ins w1 (hrd r1 w1 h) hw'.2.1 p1)
  have T2 := hidden (fun w1 h => texts_partQ u2 d.envs w1 (hrd r2 w1 h) hw'.2.2 p2)
  obtain ⟨a0, c0, e0, _⟩ := id r0
  rw [length_strsV] at e0
  subst e0
  obtain ⟨a1, c1, e1, _⟩ := id r1
  rw [length_strsV] at e1
  subst e1
  obtain ⟨a2, c2, e2, _⟩ := id r2
  rw [length_strsV] at e2
  subst e2
  clear r0 r1 r2 hrd s_task p0 p1 p2 hw hw'
  obtain ⟨kp, hkp⟩ : ∃ b, b = d.keep := ⟨_, rfl⟩
  rw [← hkp]
  cases kp with
  | true =>
    have KPE : boolT d.keep = .mk 1 (if true then 1 else 0) ⟨#[]⟩ [] [] := by rw [← hkp]; rfl
    clear hkp
    go_enter Try.func25, Try.ntmps25
    have hPz : (((w.alloc (.cells #[.string d.task, .slice a0 d.on.length c0, .slice a1 d.ins.length c1, .slice a2 d.envs.length c2, .bool true] 52 (0, 0))).alloc (.cells #[.int .i64 0, .int .i64 0, .string ⟨#[]⟩, .slice none 0 0, .slice none 0 0] 50 (0, 0))).alloc (.cells #[.int .i64 1, .int .i64 1, .string ⟨#[]⟩, .slice none 0 0, .slice none 0 0] 50 (0, 0))).heap[w.heap.size]? = some (.cells #[.string d.task, .slice a0 d.on.length c0, .slice a1 d.ins.length c1, .slice a2 d.envs.length c2, .bool true] 52 (0, 0)) := by rw [vheap_old _ _ (by simp; try omega), vheap_old _ _ (by simp; try omega), vheap_new]
    have hRz : (((w.alloc (.cells #[.string d.task, .slice a0 d.on.length c0, .slice a1 d.ins.length c1, .slice a2 d.envs.length c2, .bool true] 52 (0, 0))).alloc (.cells #[.int .i64 0, .int .i64 0, .string ⟨#[]⟩, .slice none 0 0, .slice none 0 0] 50 (0, 0))).alloc (.cells #[.int .i64 1, .int .i64 1, .string ⟨#[]⟩, .slice none 0 0, .slice none 0 0] 50 (0, 0))).heap[w.heap.size + 1]? = some boxZ := by rw [vheap_old _ _ (by simp; try omega)]; exact heap_at (by simp)
    have hKz : (((w.alloc (.cells #[.string d.task, .slice a0 d.on.length c0, .slice a1 d.ins.length c1, .slice a2 d.envs.length c2, .bool true] 52 (0, 0))).alloc (.cells #[.int .i64 0, .int .i64 0, .string ⟨#[]⟩, .slice none 0 0, .slice none 0 0] 50 (0, 0))).alloc (.cells #[.int .i64 1, .int .i64 1, .string ⟨#[]⟩, .slice none 0 0, .slice none 0 0] 50 (0, 0))).heap[w.heap.size + 1 + 1]? = some (.cells #[.int .i64 1, .int .i64 1, .string ⟨#[]⟩, .slice none 0 0, .slice none 0 0] 50 (0, 0)) := heap_at (by simp)
    have hwz : Below w.heap.size w (((w.alloc (.cells #[.string d.task, .slice a0 d.on.length c0, .slice a1 d.ins.length c1, .slice a2 d.envs.length c2, .bool true] 52 (0, 0))).alloc (.cells #[.int .i64 0, .int .i64 0, .string ⟨#[]⟩, .slice none 0 0, .slice none 0 0] 50 (0, 0))).alloc (.cells #[.int .i64 1, .int .i64 1, .string ⟨#[]⟩, .slice none 0 0, .slice none 0 0] 50 (0, 0))) := (((Below.refl _ _).alloc (Nat.le_refl _) _).alloc (by simp) _).alloc (by simp; omega) _
    have hsz : (((w.alloc (.cells #[.string d.task, .slice a0 d.on.length c0, .slice a1 d.ins.length c1, .slice a2 d.envs.length c2, .bool true] 52 (0, 0))).alloc (.cells #[.int .i64 0, .int .i64 0, .string ⟨#[]⟩, .slice none 0 0, .slice none 0 0] 50 (0, 0))).alloc (.cells #[.int .i64 1, .int .i64 1, .string ⟨#[]⟩, .slice none 0 0, .slice none 0 0] 50 (0, 0))).heap.size = w.heap.size + 3 := by simp
    go_wp2_with fail
    obtain ⟨wz, hW⟩ : ∃ wz, wz = ((w.alloc (.cells #[.string d.task, .slice a0 d.on.length c0, .slice a1 d.ins.length c1, .slice a2 d.envs.length c2, .bool true] 52 (0, 0))).alloc (.cells #[.int .i64 0, .int .i64 0, .string ⟨#[]⟩, .slice none 0 0, .slice none 0 0] 50 (0, 0))).alloc (.cells #[.int .i64 1, .int .i64 1, .string ⟨#[]⟩, .slice none 0 0, .slice none 0 0] 50 (0, 0)) := ⟨_, rfl⟩
    rw [← hW] at hPz hRz hKz hwz hsz
    rw [← hW]
    clear hW
    have KEEP : Hid (∀ W, Below wz.heap.size wz W → W.cell? ⟨w.heap.size, 0, none⟩ = some (.string d.task) ∧ W.cell? ⟨w.heap.size, 1, none⟩ = some (.slice a0 d.on.length c0) ∧ W.cell? ⟨w.heap.size, 2, none⟩ = some (.slice a1 d.ins.length c1) ∧ W.cell? ⟨w.heap.size, 3, none⟩ = some (.slice a2 d.envs.length c2) ∧ W.cell? ⟨w.heap.size, 4, none⟩ = some (.bool true) ∧ W.cell? ⟨w.heap.size + 1 + 1, 0, none⟩ = some (.int .i64 1) ∧ W.cell? ⟨w.heap.size + 1 + 1, 1, none⟩ = some (.int .i64 1) ∧ W.cell? ⟨w.heap.size + 1 + 1, 2, none⟩ = some (.string ⟨#[]⟩) ∧ W.cell? ⟨w.heap.size + 1 + 1, 3, none⟩ = some (.slice none 0 0) ∧ W.cell? ⟨w.heap.size + 1 + 1, 4, none⟩ = some (.slice none 0 0)) := fun W h => by
      have hA := (h.block w.heap.size (by omega)).trans hPz
      have hB := (h.block (w.heap.size + 1 + 1) (by omega)).trans hKz
      exact ⟨vblk_cell hA 0, vblk_cell hA 1, vblk_cell hA 2, vblk_cell hA 3, vblk_cell hA 4, vblk_cell hB 0, vblk_cell hB 1, vblk_cell hB 2, vblk_cell hB 3, vblk_cell hB 4⟩
    have KEEPP : Hid (∀ W a b, Below wz.heap.size wz W → (put5 W (w.heap.size + 1) a b).cell? ⟨w.heap.size, 0, none⟩ = some (.string d.task) ∧ (put5 W (w.heap.size + 1) a b).cell? ⟨w.heap.size, 1, none⟩ = some (.slice a0 d.on.length c0) ∧ (put5 W (w.heap.size + 1) a b).cell? ⟨w.heap.size, 2, none⟩ = some (.slice a1 d.ins.length c1) ∧ (put5 W (w.heap.size + 1) a b).cell? ⟨w.heap.size, 3, none⟩ = some (.slice a2 d.envs.length c2) ∧ (put5 W (w.heap.size + 1) a b).cell? ⟨w.heap.size, 4, none⟩ = some (.bool true) ∧ (put5 W (w.heap.size + 1) a b).cell? ⟨w.heap.size + 1 + 1, 0, none⟩ = some (.int .i64 1) ∧ (put5 W (w.heap.size + 1) a b).cell? ⟨w.heap.size + 1 + 1, 1, none⟩ = some (.int .i64 1) ∧ (put5 W (w.heap.size + 1) a b).cell? ⟨w.heap.size + 1 + 1, 2, none⟩ = some (.string ⟨#[]⟩) ∧ (put5 W (w.heap.size + 1) a b).cell? ⟨w.heap.size + 1 + 1, 3, none⟩ = some (.slice none 0 0) ∧ (put5 W (w.heap.size + 1) a b).cell? ⟨w.heap.size + 1 + 1, 4, none⟩ = some (.slice none 0 0)) := fun W a b h => by
      have hA := (put5_other (W := W) (c := a) (u := b) (show w.heap.size ≠ w.heap.size + 1 by omega)).trans ((h.block w.heap.size (by omega)).trans hPz)
      have hB := (put5_other (W := W) (c := a) (u := b) (show w.heap.size + 1 + 1 ≠ w.heap.size + 1 by omega)).trans ((h.block (w.heap.size + 1 + 1) (by omega)).trans hKz)
      exact ⟨vblk_cell hA 0, vblk_cell hA 1, vblk_cell hA 2, vblk_cell hA 3, vblk_cell hA 4, vblk_cell hB 0, vblk_cell hB 1, vblk_cell hB 2, vblk_cell hB 3, vblk_cell hB 4⟩
    have hd0 : Below wz.heap.size wz wz.drew := (Below.refl _ _).drew
    refine wp_region_held_drew (S := (fun W => W.cell? ⟨w.heap.size, 0, none⟩ = some (.string d.task) ∧ W.cell? ⟨w.heap.size, 1, none⟩ = some (.slice a0 d.on.length c0) ∧ W.cell? ⟨w.heap.size, 2, none⟩ = some (.slice a1 d.ins.length c1) ∧ W.cell? ⟨w.heap.size, 3, none⟩ = some (.slice a2 d.envs.length c2) ∧ W.cell? ⟨w.heap.size, 4, none⟩ = some (.bool true) ∧ W.cell? ⟨w.heap.size + 1 + 1, 0, none⟩ = some (.int .i64 1) ∧ W.cell? ⟨w.heap.size + 1 + 1, 1, none⟩ = some (.int .i64 1) ∧ W.cell? ⟨w.heap.size + 1 + 1, 2, none⟩ = some (.string ⟨#[]⟩) ∧ W.cell? ⟨w.heap.size + 1 + 1, 3, none⟩ = some (.slice none 0 0) ∧ W.cell? ⟨w.heap.size + 1 + 1, 4, none⟩ = some (.slice none 0 0))) (by kernel_rfl) ?SQtrue (fun hHeld => ?_)
    case SQtrue => (exact KEEP.out _ hd0)
    refine wpAnyH_take (i := 1) (oi := _) (v := ?vTQ1) rfl (by kernel_rfl) (by kernel_rfl) (by kernel_rfl) (fun _ _ _ h => h) (Or.inl ⟨by rfl, ?yTQ1⟩) hHeld ?_
    case yTQ1 => (intro w hSw; (try dsimp only at hSw); go_simp <;> with_reducible rfl)
    try simp only [Act.put, List.getElem_toArray, List.getElem_cons_zero, List.getElem_cons_succ, List.setIfInBounds_toArray, List.set_cons_zero, List.set_cons_succ]
    refine wpAnyH_take (i := 2) (oi := _) (v := ?vTQ2) rfl (by kernel_rfl) (by kernel_rfl) (by kernel_rfl) (fun _ _ _ h => h) (Or.inl ⟨by rfl, ?yTQ2⟩) hHeld ?_
    case yTQ2 => (intro w hSw; (try dsimp only at hSw); go_simp <;> with_reducible rfl)
    try simp only [Act.put, List.getElem_toArray, List.getElem_cons_zero, List.getElem_cons_succ, List.setIfInBounds_toArray, List.set_cons_zero, List.set_cons_succ]
    refine wpAnyH_take (i := 4) (oi := _) (v := ?vTQ3) rfl (by kernel_rfl) (by kernel_rfl) (by kernel_rfl) (fun _ _ _ h => h) (Or.inl ⟨by rfl, ?yTQ3⟩) hHeld ?_
    case yTQ3 => (intro w hSw; (try dsimp only at hSw); go_simp <;> with_reducible rfl)
    try simp only [Act.put, List.getElem_toArray, List.getElem_cons_zero, List.getElem_cons_succ, List.setIfInBounds_toArray, List.set_cons_zero, List.set_cons_succ]
    refine wpAnyH_take (i := 5) (oi := _) (v := ?vTQ4) rfl (by kernel_rfl) (by kernel_rfl) (by kernel_rfl) (fun _ _ _ h => h) (Or.inl ⟨by rfl, ?yTQ4⟩) hHeld ?_
    case yTQ4 => (intro w hSw; (try dsimp only at hSw); go_simp <;> with_reducible rfl)
    try simp only [Act.put, List.getElem_toArray, List.getElem_cons_zero, List.getElem_cons_succ, List.setIfInBounds_toArray, List.set_cons_zero, List.set_cons_succ]
    refine wpAnyH_take (i := 7) (oi := _) (v := ?vTQ5) rfl (by kernel_rfl) (by kernel_rfl) (by kernel_rfl) (fun _ _ _ h => h) (Or.inl ⟨by rfl, ?yTQ5⟩) hHeld ?_
    case yTQ5 => (intro w hSw; (try dsimp only at hSw); go_simp <;> with_reducible rfl)
    try simp only [Act.put, List.getElem_toArray, List.getElem_cons_zero, List.getElem_cons_succ, List.setIfInBounds_toArray, List.set_cons_zero, List.set_cons_succ]
    refine wpAnyH_take (i := 8) (oi := _) (v := ?vTQ6) rfl (by kernel_rfl) (by kernel_rfl) (by kernel_rfl) (fun _ _ _ h => h) (Or.inl ⟨by rfl, ?yTQ6⟩) hHeld ?_
    case yTQ6 => (intro w hSw; (try dsimp only at hSw); go_simp <;> with_reducible rfl)
    try simp only [Act.put, List.getElem_toArray, List.getElem_cons_zero, List.getElem_cons_succ, List.setIfInBounds_toArray, List.set_cons_zero, List.set_cons_succ]
    refine wpAnyH_take (i := 9) (oi := _) (v := ?vTQ7) rfl (by kernel_rfl) (by kernel_rfl) (by kernel_rfl) (fun _ _ _ h => h) (Or.inl ⟨by rfl, ?yTQ7⟩) hHeld ?_
    case yTQ7 => (intro w hSw; (try dsimp only at hSw); go_simp <;> with_reducible rfl)
    try simp only [Act.put, List.getElem_toArray, List.getElem_cons_zero, List.getElem_cons_succ, List.setIfInBounds_toArray, List.set_cons_zero, List.set_cons_succ]
    refine as_phi2 (fun Φ hΦ => ?_)
    have N14 : Hid (∀ (W : World) (h : Below wz.heap.size wz W) (gk : Nat) (hk : W.ownsRow 0 9 1 (.slice (some ⟨gk, 0, none⟩) 4 4) 4 (strsV ruleKeys)) (zk : wz.heap.size ≤ gk) (nE : Nat) (qE : Option Addr) (cE : Nat) (lE : Nat) (hE : Nat) (pE : Part W (fun b => lE ≤ b ∧ b < hE) (fun _ => False) (.slice qE nE cE) (.slice none 0 0) (d.envs.map textT) []) (zE : wz.heap.size ≤ lE) (wE : lE ≤ hE ∧ hE ≤ W.heap.size) (kE : gk < lE ∨ hE ≤ gk) (nI : Nat) (qI : Option Addr) (cI : Nat) (lI : Nat) (hI : Nat) (pI : Part W (fun b => lI ≤ b ∧ b < hI) (fun _ => False) (.slice qI nI cI) (.slice none 0 0) (d.ins.map textT) []) (zI : hE ≤ lI) (wI : lI ≤ hI ∧ hI ≤ W.heap.size) (kI : gk < lI ∨ hI ≤ gk) (nO : Nat) (qO : Option Addr) (cO : Nat) (lO : Nat) (hO : Nat) (pO : Part W (fun b => lO ≤ b ∧ b < hO) (fun _ => False) (.slice qO nO cO) (.slice none 0 0) (d.on.map textT) []) (zO : hI ≤ lO) (wO : lO ≤ hO ∧ hO ≤ W.heap.size) (kO : gk < lO ∨ hO ≤ gk) (gv : Nat) (hv : W.ownsRow 0 50 5 (.slice (some ⟨gv, 0, none⟩) 4 4) 4 [.int .i64 4, .int .i64 0, .string ⟨#[]⟩, .slice qE nE cE, .slice none 0 0, .int .i64 4, .int .i64 0, .string ⟨#[]⟩, .slice qI nI cI, .slice none 0 0, .int .i64 1, .int .i64 1, .string ⟨#[]⟩, .slice none 0 0, .slice none 0 0, .int .i64 4, .int .i64 0, .string ⟨#[]⟩, .slice qO nO cO, .slice none 0 0]) (zv : hO ≤ gv), Φ 2 #[true, true, true, true, true, true, true, true, true, true, true, true, false, false] { tmps := #[.agg #[.string d.task, .slice a0 d.on.length c0, .slice a1 d.ins.length c1, .slice a2 d.envs.length c2, .bool true], .pointer (some ⟨w.heap.size, 0, none⟩), .pointer (some ⟨w.heap.size + 1, 0, none⟩), .pointer (some ⟨w.heap.size + 1 + 1, 0, none⟩), .agg #[.int .i64 1, .int .i64 0, .string ⟨#[]⟩, .slice none 0 0, .slice none 0 0], .pointer (some ⟨w.heap.size, 4, none⟩), .bool true, .pointer (some ⟨w.heap.size + 1 + 1, 1, none⟩), .slice (some ⟨gk, 0, none⟩) 4 4, .pointer (some ⟨w.heap.size, 3, none⟩), .slice a2 d.envs.length c2, .agg #[.int .i64 4, .int .i64 0, .string ⟨#[]⟩, .slice qE nE cE, .slice none 0 0], .pointer (some ⟨w.heap.size, 2, none⟩), .slice a1 d.ins.length c1, .agg #[.int .i64 4, .int .i64 0, .string ⟨#[]⟩, .slice qI nI cI, .slice none 0 0], .agg #[.int .i64 1, .int .i64 1, .string ⟨#[]⟩, .slice none 0 0, .slice none 0 0], .pointer (some ⟨w.heap.size, 1, none⟩), .slice a0 d.on.length c0, .agg #[.int .i64 4, .int .i64 0, .string ⟨#[]⟩, .slice qO nO cO, .slice none 0 0], .slice (some ⟨gv, 0, none⟩) 4 4, undef], defers := [] } W) := by
      intro W h gk hk zk nE qE cE lE hE pE zE wE kE nI qI cI lI hI pI zI wI kI nO qO cO lO hO pO zO wO kO gv hv zv
      rw [hΦ]
      have hHeld := KEEP.out W h
      refine wpAnyH_take (i := 12) (oi := _) (v := ?vTQ8) rfl (by kernel_rfl) (by kernel_rfl) (by kernel_rfl) (fun _ _ _ h => h) (Or.inl ⟨by rfl, ?yTQ8⟩) hHeld ?_
      case yTQ8 => (intro w hSw; (try dsimp only at hSw); go_simp <;> with_reducible rfl)
      try simp only [Act.put, List.getElem_toArray, List.getElem_cons_zero, List.getElem_cons_succ, List.setIfInBounds_toArray, List.set_cons_zero, List.set_cons_succ]
      have hmk : Mk W (fun b => (∃ i : Nat, (rgs lE hE lI hI lO hO i).1 ≤ b ∧ b < (rgs lE hE lI hI lO hO i).2) ∨ (Value.slice (some ⟨gv, 0, none⟩) 4 4).ownBlock = some b ∨ (Value.slice (some ⟨gk, 0, none⟩) 4 4).ownBlock = some b) (.slice (some ⟨gv, 0, none⟩) 4 4) (.slice (some ⟨gk, 0, none⟩) 4 4) (ruleKids d) ruleKeys := by
        rw [ruleKids, KPE]
        exact rule_mk (kp := true) hv hk pE pI pO wE.1 (Nat.le_trans wE.1 zI) wI.1 zI wO.1 zO wO.2 (.inr zv) (by omega) (by omega) kE kI kO
      have hmw := h.size
      have hR := (h.block (w.heap.size + 1) (by omega)).trans hRz
      have bW := hwz.trans (h.mono (by omega))
      have low : ∀ b, ((∃ i : Nat, (rgs lE hE lI hI lO hO i).1 ≤ b ∧ b < (rgs lE hE lI hI lO hO i).2) ∨ (Value.slice (some ⟨gv, 0, none⟩) 4 4).ownBlock = some b ∨ (Value.slice (some ⟨gk, 0, none⟩) 4 4).ownBlock = some b) → wz.heap.size ≤ b := by
        rintro b (⟨i, h1, h2⟩ | h1 | h1)
        · exact rgs_low zE (by omega) (by omega) h1 h2
        · have e : gv = b := by simpa [Value.ownBlock] using h1
          omega
        · have e : gk = b := by simpa [Value.ownBlock] using h1
          omega
      have HM := hidden (And.intro hmk (And.intro low bW))
      have HRB := hidden hR
      clear hmk low pE pI pO hv hk
      unfold boxZ at hR
      have y0 := vblk_cell hR 0
      have y1 := vblk_cell hR 1
      have y2 := vblk_cell hR 2
      have y3 := vblk_cell hR 3
      have y4 := vblk_cell hR 4
      have fx := vblk_frozen hR
      simp only [List.getElem?_toArray, List.getElem?_cons_succ, List.getElem?_cons_zero] at y0 y1 y2 y3 y4
      refine wpAnyH_ready (rs := [13]) (by kernel_rfl) (by simp) ?_
      refine AllReadyH.cons rfl (fun K hK => ?_) AllReadyH.nil
      go_simp
      clear hHeld
      refine hK.out _ (put5 W (w.heap.size + 1) (.slice (some ⟨gv, 0, none⟩) 4 4) (.slice (some ⟨gk, 0, none⟩) 4 4)) ?UQ8 (fun hHeld => ?_)
      case UQ8 => exact KEEPP.out _ _ _ h
      clear hK K
      try simp only [Act.put, List.getElem_toArray, List.getElem_cons_zero, List.getElem_cons_succ, List.setIfInBounds_toArray, List.set_cons_zero, List.set_cons_succ]
      refine wpAnyH_done (by kernel_rfl) ?_ _
      clear hHeld y0 y1 y2 y3 y4 fx hR
      have hR := put5_zero (c := .slice (some ⟨gv, 0, none⟩) 4 4) (u := .slice (some ⟨gk, 0, none⟩) 4 4) HRB.out
      have mkE := HM.out.1.put (g := w.heap.size + 1) (a := .slice (some ⟨gv, 0, none⟩) 4 4) (b := .slice (some ⟨gk, 0, none⟩) 4 4) (fun k => by have := HM.out.2.1 _ k; omega)
      have bE : Below w.heap.size w (put5 W (w.heap.size + 1) (.slice (some ⟨gv, 0, none⟩) 4 4) (.slice (some ⟨gk, 0, none⟩) 4 4)) := put5_below HM.out.2.2 (by omega)
      obtain ⟨w9, hWn⟩ : ∃ X, X = put5 W (w.heap.size + 1) (.slice (some ⟨gv, 0, none⟩) 4 4) (.slice (some ⟨gk, 0, none⟩) 4 4) := ⟨_, rfl⟩
      rw [← hWn] at hR mkE bE
      rw [← hWn]
      have HF := hidden (mkE.mono (S' := fun b => w.heap.size ≤ b ∧ b < w9.heap.size) (fun b hb => ⟨by have := HM.out.2.1 b hb; omega, mkE.low b hb⟩) (fun b hb => hb.2))
      unfold boxM at hR
      have y0 := vblk_cell hR 0
      have y1 := vblk_cell hR 1
      have y2 := vblk_cell hR 2
      have y3 := vblk_cell hR 3
      have y4 := vblk_cell hR 4
      simp only [List.getElem?_toArray, List.getElem?_cons_succ, List.getElem?_cons_zero] at y0 y1 y2 y3 y4
      clear hWn hR mkE HM HRB
      go_wp2_with fail
      exact bodyPost_ret (v := .agg #[.int .i64 5, .int .i64 0, .string ⟨#[]⟩, .slice (some ⟨gv, 0, none⟩) 4 4, .slice (some ⟨gk, 0, none⟩) 4 4]) (by simp [results, Try.results25, go_sem, y0, y1, y2, y3, y4]) rfl ⟨_, _, rfl, HF.out, bE⟩
    have N04 : Hid (∀ (W : World) (h : Below wz.heap.size wz W) (nE : Nat) (qE : Option Addr) (cE : Nat) (lE : Nat) (hE : Nat) (pE : Part W (fun b => lE ≤ b ∧ b < hE) (fun _ => False) (.slice qE nE cE) (.slice none 0 0) (d.envs.map textT) []) (zE : wz.heap.size ≤ lE) (wE : lE ≤ hE ∧ hE ≤ W.heap.size) (nI : Nat) (qI : Option Addr) (cI : Nat) (lI : Nat) (hI : Nat) (pI : Part W (fun b => lI ≤ b ∧ b < hI) (fun _ => False) (.slice qI nI cI) (.slice none 0 0) (d.ins.map textT) []) (zI : hE ≤ lI) (wI : lI ≤ hI ∧ hI ≤ W.heap.size) (nO : Nat) (qO : Option Addr) (cO : Nat) (lO : Nat) (hO : Nat) (pO : Part W (fun b => lO ≤ b ∧ b < hO) (fun _ => False) (.slice qO nO cO) (.slice none 0 0) (d.on.map textT) []) (zO : hI ≤ lO) (wO : lO ≤ hO ∧ hO ≤ W.heap.size) (gv : Nat) (hv : W.ownsRow 0 50 5 (.slice (some ⟨gv, 0, none⟩) 4 4) 4 [.int .i64 4, .int .i64 0, .string ⟨#[]⟩, .slice qE nE cE, .slice none 0 0, .int .i64 4, .int .i64 0, .string ⟨#[]⟩, .slice qI nI cI, .slice none 0 0, .int .i64 1, .int .i64 1, .string ⟨#[]⟩, .slice none 0 0, .slice none 0 0, .int .i64 4, .int .i64 0, .string ⟨#[]⟩, .slice qO nO cO, .slice none 0 0]) (zv : hO ≤ gv), Φ 3 #[false, true, true, true, true, true, true, true, true, true, true, true, false, false] { tmps := #[.agg #[.string d.task, .slice a0 d.on.length c0, .slice a1 d.ins.length c1, .slice a2 d.envs.length c2, .bool true], .pointer (some ⟨w.heap.size, 0, none⟩), .pointer (some ⟨w.heap.size + 1, 0, none⟩), .pointer (some ⟨w.heap.size + 1 + 1, 0, none⟩), .agg #[.int .i64 1, .int .i64 0, .string ⟨#[]⟩, .slice none 0 0, .slice none 0 0], .pointer (some ⟨w.heap.size, 4, none⟩), .bool true, .pointer (some ⟨w.heap.size + 1 + 1, 1, none⟩), undef, .pointer (some ⟨w.heap.size, 3, none⟩), .slice a2 d.envs.length c2, .agg #[.int .i64 4, .int .i64 0, .string ⟨#[]⟩, .slice qE nE cE, .slice none 0 0], .pointer (some ⟨w.heap.size, 2, none⟩), .slice a1 d.ins.length c1, .agg #[.int .i64 4, .int .i64 0, .string ⟨#[]⟩, .slice qI nI cI, .slice none 0 0], .agg #[.int .i64 1, .int .i64 1, .string ⟨#[]⟩, .slice none 0 0, .slice none 0 0], .pointer (some ⟨w.heap.size, 1, none⟩), .slice a0 d.on.length c0, .agg #[.int .i64 4, .int .i64 0, .string ⟨#[]⟩, .slice qO nO cO, .slice none 0 0], .slice (some ⟨gv, 0, none⟩) 4 4, undef], defers := [] } W) := by
      intro W h nE qE cE lE hE pE zE wE nI qI cI lI hI pI zI wI nO qO cO lO hO pO zO wO gv hv zv
      rw [hΦ]
      have hHeld := KEEP.out W h
      refine wpAnyH_ready (rs := [0]) (by kernel_rfl) (by simp) ?_
      refine AllReadyH.cons rfl (fun K hK => ?_) AllReadyH.nil
      go_simp
      have ka : Below W.heap.size W (W.alloc (.cells #[.string ⟨#[101, 110, 118]⟩, .string ⟨#[105, 110]⟩, .string ⟨#[107, 101, 101, 112]⟩, .string ⟨#[111, 110]⟩] 9)) := (Below.refl _ _).alloc (Nat.le_refl _) _
      have hb2 : Below wz.heap.size wz (W.alloc (.cells #[.string ⟨#[101, 110, 118]⟩, .string ⟨#[105, 110]⟩, .string ⟨#[107, 101, 101, 112]⟩, .string ⟨#[111, 110]⟩] 9)) := h.trans (ka.mono h.size)
      replace pE := pE.keep (Kp.of ka (fun b hb => by rcases hb with hb | hb; exact Nat.lt_of_lt_of_le hb.2 wE.2; exact hb.elim))
      have wE_ := wE; replace wE := And.intro wE.1 (Nat.le_trans wE.2 ka.size)
      replace pI := pI.keep (Kp.of ka (fun b hb => by rcases hb with hb | hb; exact Nat.lt_of_lt_of_le hb.2 wI.2; exact hb.elim))
      have wI_ := wI; replace wI := And.intro wI.1 (Nat.le_trans wI.2 ka.size)
      replace pO := pO.keep (Kp.of ka (fun b hb => by rcases hb with hb | hb; exact Nat.lt_of_lt_of_le hb.2 wO.2; exact hb.elim))
      have wO_ := wO; replace wO := And.intro wO.1 (Nat.le_trans wO.2 ka.size)
      replace hv := owns_belowQ hv ka
      have hk : (W.alloc (.cells #[.string ⟨#[101, 110, 118]⟩, .string ⟨#[105, 110]⟩, .string ⟨#[107, 101, 101, 112]⟩, .string ⟨#[111, 110]⟩] 9)).ownsRow 0 9 1 (.slice (some ⟨W.heap.size, 0, none⟩) 4 4) 4 (strsV ruleKeys) := owns_lo (Nat.zero_le _) (World.ownsRow_lit W (strsV ruleKeys).toArray 4 (Nat.le_refl _) (by unfold maxLen; omega) rfl)
      clear hHeld
      refine hK.out _ (W.alloc (.cells #[.string ⟨#[101, 110, 118]⟩, .string ⟨#[105, 110]⟩, .string ⟨#[107, 101, 101, 112]⟩, .string ⟨#[111, 110]⟩] 9)) ?GQ9 (fun hHeld => ?_)
      case GQ9 => exact KEEP.out _ hb2
      clear hK K
      try simp only [Act.put, List.getElem_toArray, List.getElem_cons_zero, List.getElem_cons_succ, List.setIfInBounds_toArray, List.set_cons_zero, List.set_cons_succ]
      have zk := h.size
      replace h := hb2
      have kE : W.heap.size < lE ∨ hE ≤ W.heap.size := .inr (by have := wE_.2; omega)
      have kI : W.heap.size < lI ∨ hI ≤ W.heap.size := .inr (by have := wI_.2; omega)
      have kO : W.heap.size < lO ∨ hO ≤ W.heap.size := .inr (by have := wO_.2; omega)
      obtain ⟨gk, hgk⟩ : ∃ g, g = W.heap.size := ⟨_, rfl⟩
      rw [← hgk] at hk zk kE kI kO
      try rw [← hgk]
      obtain ⟨W2, hW2⟩ : ∃ W2, W2 = W.alloc (.cells #[.string ⟨#[101, 110, 118]⟩, .string ⟨#[105, 110]⟩, .string ⟨#[107, 101, 101, 112]⟩, .string ⟨#[111, 110]⟩] 9) := ⟨_, rfl⟩
      rw [← hW2] at h hk pE wE pI wI pO wO hv
      rw [← hW2]
      clear hW2 hgk ka hb2
      have hN := N14.out W2 h gk hk zk nE qE cE lE hE pE zE wE kE nI qI cI lI hI pI zI wI kI nO qO cO lO hO pO zO wO kO gv hv zv
      rw [hΦ] at hN
      exact wpAny_at2 hN (by kernel_rfl) (by kernel_rfl)
    have N13 : Hid (∀ (W : World) (h : Below wz.heap.size wz W) (gk : Nat) (hk : W.ownsRow 0 9 1 (.slice (some ⟨gk, 0, none⟩) 4 4) 4 (strsV ruleKeys)) (zk : wz.heap.size ≤ gk) (nE : Nat) (qE : Option Addr) (cE : Nat) (lE : Nat) (hE : Nat) (pE : Part W (fun b => lE ≤ b ∧ b < hE) (fun _ => False) (.slice qE nE cE) (.slice none 0 0) (d.envs.map textT) []) (zE : wz.heap.size ≤ lE) (wE : lE ≤ hE ∧ hE ≤ W.heap.size) (kE : gk < lE ∨ hE ≤ gk) (nI : Nat) (qI : Option Addr) (cI : Nat) (lI : Nat) (hI : Nat) (pI : Part W (fun b => lI ≤ b ∧ b < hI) (fun _ => False) (.slice qI nI cI) (.slice none 0 0) (d.ins.map textT) []) (zI : hE ≤ lI) (wI : lI ≤ hI ∧ hI ≤ W.heap.size) (kI : gk < lI ∨ hI ≤ gk) (nO : Nat) (qO : Option Addr) (cO : Nat) (lO : Nat) (hO : Nat) (pO : Part W (fun b => lO ≤ b ∧ b < hO) (fun _ => False) (.slice qO nO cO) (.slice none 0 0) (d.on.map textT) []) (zO : hI ≤ lO) (wO : lO ≤ hO ∧ hO ≤ W.heap.size) (kO : gk < lO ∨ hO ≤ gk), Φ 3 #[true, true, true, true, true, true, true, true, true, true, true, false, false, false] { tmps := #[.agg #[.string d.task, .slice a0 d.on.length c0, .slice a1 d.ins.length c1, .slice a2 d.envs.length c2, .bool true], .pointer (some ⟨w.heap.size, 0, none⟩), .pointer (some ⟨w.heap.size + 1, 0, none⟩), .pointer (some ⟨w.heap.size + 1 + 1, 0, none⟩), .agg #[.int .i64 1, .int .i64 0, .string ⟨#[]⟩, .slice none 0 0, .slice none 0 0], .pointer (some ⟨w.heap.size, 4, none⟩), .bool true, .pointer (some ⟨w.heap.size + 1 + 1, 1, none⟩), .slice (some ⟨gk, 0, none⟩) 4 4, .pointer (some ⟨w.heap.size, 3, none⟩), .slice a2 d.envs.length c2, .agg #[.int .i64 4, .int .i64 0, .string ⟨#[]⟩, .slice qE nE cE, .slice none 0 0], .pointer (some ⟨w.heap.size, 2, none⟩), .slice a1 d.ins.length c1, .agg #[.int .i64 4, .int .i64 0, .string ⟨#[]⟩, .slice qI nI cI, .slice none 0 0], .agg #[.int .i64 1, .int .i64 1, .string ⟨#[]⟩, .slice none 0 0, .slice none 0 0], .pointer (some ⟨w.heap.size, 1, none⟩), .slice a0 d.on.length c0, .agg #[.int .i64 4, .int .i64 0, .string ⟨#[]⟩, .slice qO nO cO, .slice none 0 0], undef, undef], defers := [] } W) := by
      intro W h gk hk zk nE qE cE lE hE pE zE wE kE nI qI cI lI hI pI zI wI kI nO qO cO lO hO pO zO wO kO
      rw [hΦ]
      have hHeld := KEEP.out W h
      refine wpAnyH_ready (rs := [11]) (by kernel_rfl) (by simp) ?_
      refine AllReadyH.cons rfl (fun K hK => ?_) AllReadyH.nil
      go_simp
      have ka : Below W.heap.size W (W.alloc (.cells #[.int .i64 4, .int .i64 0, .string ⟨#[]⟩, .slice qE nE cE, .slice none 0 0, .int .i64 4, .int .i64 0, .string ⟨#[]⟩, .slice qI nI cI, .slice none 0 0, .int .i64 1, .int .i64 1, .string ⟨#[]⟩, .slice none 0 0, .slice none 0 0, .int .i64 4, .int .i64 0, .string ⟨#[]⟩, .slice qO nO cO, .slice none 0 0] 50)) := (Below.refl _ _).alloc (Nat.le_refl _) _
      have hb2 : Below wz.heap.size wz (W.alloc (.cells #[.int .i64 4, .int .i64 0, .string ⟨#[]⟩, .slice qE nE cE, .slice none 0 0, .int .i64 4, .int .i64 0, .string ⟨#[]⟩, .slice qI nI cI, .slice none 0 0, .int .i64 1, .int .i64 1, .string ⟨#[]⟩, .slice none 0 0, .slice none 0 0, .int .i64 4, .int .i64 0, .string ⟨#[]⟩, .slice qO nO cO, .slice none 0 0] 50)) := h.trans (ka.mono h.size)
      have zv := wO.2
      replace hk := owns_belowQ hk ka
      replace pE := pE.keep (Kp.of ka (fun b hb => by rcases hb with hb | hb; exact Nat.lt_of_lt_of_le hb.2 wE.2; exact hb.elim))
      replace wE := And.intro wE.1 (Nat.le_trans wE.2 ka.size)
      replace pI := pI.keep (Kp.of ka (fun b hb => by rcases hb with hb | hb; exact Nat.lt_of_lt_of_le hb.2 wI.2; exact hb.elim))
      replace wI := And.intro wI.1 (Nat.le_trans wI.2 ka.size)
      replace pO := pO.keep (Kp.of ka (fun b hb => by rcases hb with hb | hb; exact Nat.lt_of_lt_of_le hb.2 wO.2; exact hb.elim))
      replace wO := And.intro wO.1 (Nat.le_trans wO.2 ka.size)
      have hv : (W.alloc (.cells #[.int .i64 4, .int .i64 0, .string ⟨#[]⟩, .slice qE nE cE, .slice none 0 0, .int .i64 4, .int .i64 0, .string ⟨#[]⟩, .slice qI nI cI, .slice none 0 0, .int .i64 1, .int .i64 1, .string ⟨#[]⟩, .slice none 0 0, .slice none 0 0, .int .i64 4, .int .i64 0, .string ⟨#[]⟩, .slice qO nO cO, .slice none 0 0] 50)).ownsRow 0 50 5 (.slice (some ⟨W.heap.size, 0, none⟩) 4 4) 4 [.int .i64 4, .int .i64 0, .string ⟨#[]⟩, .slice qE nE cE, .slice none 0 0, .int .i64 4, .int .i64 0, .string ⟨#[]⟩, .slice qI nI cI, .slice none 0 0, .int .i64 1, .int .i64 1, .string ⟨#[]⟩, .slice none 0 0, .slice none 0 0, .int .i64 4, .int .i64 0, .string ⟨#[]⟩, .slice qO nO cO, .slice none 0 0] := owns_lo (Nat.zero_le _) (World.ownsRow_lit W ([.int .i64 4, .int .i64 0, .string ⟨#[]⟩, .slice qE nE cE, .slice none 0 0, .int .i64 4, .int .i64 0, .string ⟨#[]⟩, .slice qI nI cI, .slice none 0 0, .int .i64 1, .int .i64 1, .string ⟨#[]⟩, .slice none 0 0, .slice none 0 0, .int .i64 4, .int .i64 0, .string ⟨#[]⟩, .slice qO nO cO, .slice none 0 0] : List Value).toArray 4 (Nat.le_refl _) (by unfold maxLen; omega) rfl)
      clear hHeld
      refine hK.out _ (W.alloc (.cells #[.int .i64 4, .int .i64 0, .string ⟨#[]⟩, .slice qE nE cE, .slice none 0 0, .int .i64 4, .int .i64 0, .string ⟨#[]⟩, .slice qI nI cI, .slice none 0 0, .int .i64 1, .int .i64 1, .string ⟨#[]⟩, .slice none 0 0, .slice none 0 0, .int .i64 4, .int .i64 0, .string ⟨#[]⟩, .slice qO nO cO, .slice none 0 0] 50)) ?GQ10 (fun hHeld => ?_)
      case GQ10 => exact KEEP.out _ hb2
      clear hK K
      try simp only [Act.put, List.getElem_toArray, List.getElem_cons_zero, List.getElem_cons_succ, List.setIfInBounds_toArray, List.set_cons_zero, List.set_cons_succ]
      replace h := hb2
      obtain ⟨gv, hgv⟩ : ∃ g, g = W.heap.size := ⟨_, rfl⟩
      rw [← hgv] at hv zv
      try rw [← hgv]
      obtain ⟨W2, hW2⟩ : ∃ W2, W2 = W.alloc (.cells #[.int .i64 4, .int .i64 0, .string ⟨#[]⟩, .slice qE nE cE, .slice none 0 0, .int .i64 4, .int .i64 0, .string ⟨#[]⟩, .slice qI nI cI, .slice none 0 0, .int .i64 1, .int .i64 1, .string ⟨#[]⟩, .slice none 0 0, .slice none 0 0, .int .i64 4, .int .i64 0, .string ⟨#[]⟩, .slice qO nO cO, .slice none 0 0] 50) := ⟨_, rfl⟩
      rw [← hW2] at h hv pE wE pI wI pO wO hk
      rw [← hW2]
      clear hW2 hgv ka hb2
      have hN := N14.out W2 h gk hk zk nE qE cE lE hE pE zE wE kE nI qI cI lI hI pI zI wI kI nO qO cO lO hO pO zO wO kO gv hv zv
      rw [hΦ] at hN
      exact wpAny_at2 hN (by kernel_rfl) (by kernel_rfl)
    have N03 : Hid (∀ (W : World) (h : Below wz.heap.size wz W) (nE : Nat) (qE : Option Addr) (cE : Nat) (lE : Nat) (hE : Nat) (pE : Part W (fun b => lE ≤ b ∧ b < hE) (fun _ => False) (.slice qE nE cE) (.slice none 0 0) (d.envs.map textT) []) (zE : wz.heap.size ≤ lE) (wE : lE ≤ hE ∧ hE ≤ W.heap.size) (nI : Nat) (qI : Option Addr) (cI : Nat) (lI : Nat) (hI : Nat) (pI : Part W (fun b => lI ≤ b ∧ b < hI) (fun _ => False) (.slice qI nI cI) (.slice none 0 0) (d.ins.map textT) []) (zI : hE ≤ lI) (wI : lI ≤ hI ∧ hI ≤ W.heap.size) (nO : Nat) (qO : Option Addr) (cO : Nat) (lO : Nat) (hO : Nat) (pO : Part W (fun b => lO ≤ b ∧ b < hO) (fun _ => False) (.slice qO nO cO) (.slice none 0 0) (d.on.map textT) []) (zO : hI ≤ lO) (wO : lO ≤ hO ∧ hO ≤ W.heap.size), Φ 4 #[false, true, true, true, true, true, true, true, true, true, true, false, false, false] { tmps := #[.agg #[.string d.task, .slice a0 d.on.length c0, .slice a1 d.ins.length c1, .slice a2 d.envs.length c2, .bool true], .pointer (some ⟨w.heap.size, 0, none⟩), .pointer (some ⟨w.heap.size + 1, 0, none⟩), .pointer (some ⟨w.heap.size + 1 + 1, 0, none⟩), .agg #[.int .i64 1, .int .i64 0, .string ⟨#[]⟩, .slice none 0 0, .slice none 0 0], .pointer (some ⟨w.heap.size, 4, none⟩), .bool true, .pointer (some ⟨w.heap.size + 1 + 1, 1, none⟩), undef, .pointer (some ⟨w.heap.size, 3, none⟩), .slice a2 d.envs.length c2, .agg #[.int .i64 4, .int .i64 0, .string ⟨#[]⟩, .slice qE nE cE, .slice none 0 0], .pointer (some ⟨w.heap.size, 2, none⟩), .slice a1 d.ins.length c1, .agg #[.int .i64 4, .int .i64 0, .string ⟨#[]⟩, .slice qI nI cI, .slice none 0 0], .agg #[.int .i64 1, .int .i64 1, .string ⟨#[]⟩, .slice none 0 0, .slice none 0 0], .pointer (some ⟨w.heap.size, 1, none⟩), .slice a0 d.on.length c0, .agg #[.int .i64 4, .int .i64 0, .string ⟨#[]⟩, .slice qO nO cO, .slice none 0 0], undef, undef], defers := [] } W) := by
      intro W h nE qE cE lE hE pE zE wE nI qI cI lI hI pI zI wI nO qO cO lO hO pO zO wO
      rw [hΦ]
      have hHeld := KEEP.out W h
      refine wpAnyH_ready (rs := [0, 11]) (by kernel_rfl) (by simp) ?_
      refine AllReadyH.cons rfl (fun K hK => ?_) (AllReadyH.cons rfl (fun K hK => ?_) AllReadyH.nil)
      · go_simp
        have ka : Below W.heap.size W (W.alloc (.cells #[.string ⟨#[101, 110, 118]⟩, .string ⟨#[105, 110]⟩, .string ⟨#[107, 101, 101, 112]⟩, .string ⟨#[111, 110]⟩] 9)) := (Below.refl _ _).alloc (Nat.le_refl _) _
        have hb2 : Below wz.heap.size wz (W.alloc (.cells #[.string ⟨#[101, 110, 118]⟩, .string ⟨#[105, 110]⟩, .string ⟨#[107, 101, 101, 112]⟩, .string ⟨#[111, 110]⟩] 9)) := h.trans (ka.mono h.size)
        replace pE := pE.keep (Kp.of ka (fun b hb => by rcases hb with hb | hb; exact Nat.lt_of_lt_of_le hb.2 wE.2; exact hb.elim))
        have wE_ := wE; replace wE := And.intro wE.1 (Nat.le_trans wE.2 ka.size)
        replace pI := pI.keep (Kp.of ka (fun b hb => by rcases hb with hb | hb; exact Nat.lt_of_lt_of_le hb.2 wI.2; exact hb.elim))
        have wI_ := wI; replace wI := And.intro wI.1 (Nat.le_trans wI.2 ka.size)
        replace pO := pO.keep (Kp.of ka (fun b hb => by rcases hb with hb | hb; exact Nat.lt_of_lt_of_le hb.2 wO.2; exact hb.elim))
        have wO_ := wO; replace wO := And.intro wO.1 (Nat.le_trans wO.2 ka.size)
        have hk : (W.alloc (.cells #[.string ⟨#[101, 110, 118]⟩, .string ⟨#[105, 110]⟩, .string ⟨#[107, 101, 101, 112]⟩, .string ⟨#[111, 110]⟩] 9)).ownsRow 0 9 1 (.slice (some ⟨W.heap.size, 0, none⟩) 4 4) 4 (strsV ruleKeys) := owns_lo (Nat.zero_le _) (World.ownsRow_lit W (strsV ruleKeys).toArray 4 (Nat.le_refl _) (by unfold maxLen; omega) rfl)
        clear hHeld
        refine hK.out _ (W.alloc (.cells #[.string ⟨#[101, 110, 118]⟩, .string ⟨#[105, 110]⟩, .string ⟨#[107, 101, 101, 112]⟩, .string ⟨#[111, 110]⟩] 9)) ?GQ11 (fun hHeld => ?_)
        case GQ11 => exact KEEP.out _ hb2
        clear hK K
        try simp only [Act.put, List.getElem_toArray, List.getElem_cons_zero, List.getElem_cons_succ, List.setIfInBounds_toArray, List.set_cons_zero, List.set_cons_succ]
        have zk := h.size
        replace h := hb2
        have kE : W.heap.size < lE ∨ hE ≤ W.heap.size := .inr (by have := wE_.2; omega)
        have kI : W.heap.size < lI ∨ hI ≤ W.heap.size := .inr (by have := wI_.2; omega)
        have kO : W.heap.size < lO ∨ hO ≤ W.heap.size := .inr (by have := wO_.2; omega)
        obtain ⟨gk, hgk⟩ : ∃ g, g = W.heap.size := ⟨_, rfl⟩
        rw [← hgk] at hk zk kE kI kO
        try rw [← hgk]
        obtain ⟨W2, hW2⟩ : ∃ W2, W2 = W.alloc (.cells #[.string ⟨#[101, 110, 118]⟩, .string ⟨#[105, 110]⟩, .string ⟨#[107, 101, 101, 112]⟩, .string ⟨#[111, 110]⟩] 9) := ⟨_, rfl⟩
        rw [← hW2] at h hk pE wE pI wI pO wO
        rw [← hW2]
        clear hW2 hgk ka hb2
        have hN := N13.out W2 h gk hk zk nE qE cE lE hE pE zE wE kE nI qI cI lI hI pI zI wI kI nO qO cO lO hO pO zO wO kO
        rw [hΦ] at hN
        exact wpAny_at2 hN (by kernel_rfl) (by kernel_rfl)
      · go_simp
        have ka : Below W.heap.size W (W.alloc (.cells #[.int .i64 4, .int .i64 0, .string ⟨#[]⟩, .slice qE nE cE, .slice none 0 0, .int .i64 4, .int .i64 0, .string ⟨#[]⟩, .slice qI nI cI, .slice none 0 0, .int .i64 1, .int .i64 1, .string ⟨#[]⟩, .slice none 0 0, .slice none 0 0, .int .i64 4, .int .i64 0, .string ⟨#[]⟩, .slice qO nO cO, .slice none 0 0] 50)) := (Below.refl _ _).alloc (Nat.le_refl _) _
        have hb2 : Below wz.heap.size wz (W.alloc (.cells #[.int .i64 4, .int .i64 0, .string ⟨#[]⟩, .slice qE nE cE, .slice none 0 0, .int .i64 4, .int .i64 0, .string ⟨#[]⟩, .slice qI nI cI, .slice none 0 0, .int .i64 1, .int .i64 1, .string ⟨#[]⟩, .slice none 0 0, .slice none 0 0, .int .i64 4, .int .i64 0, .string ⟨#[]⟩, .slice qO nO cO, .slice none 0 0] 50)) := h.trans (ka.mono h.size)
        have zv := wO.2
        replace pE := pE.keep (Kp.of ka (fun b hb => by rcases hb with hb | hb; exact Nat.lt_of_lt_of_le hb.2 wE.2; exact hb.elim))
        replace wE := And.intro wE.1 (Nat.le_trans wE.2 ka.size)
        replace pI := pI.keep (Kp.of ka (fun b hb => by rcases hb with hb | hb; exact Nat.lt_of_lt_of_le hb.2 wI.2; exact hb.elim))
        replace wI := And.intro wI.1 (Nat.le_trans wI.2 ka.size)
        replace pO := pO.keep (Kp.of ka (fun b hb => by rcases hb with hb | hb; exact Nat.lt_of_lt_of_le hb.2 wO.2; exact hb.elim))
        replace wO := And.intro wO.1 (Nat.le_trans wO.2 ka.size)
        have hv : (W.alloc (.cells #[.int .i64 4, .int .i64 0, .string ⟨#[]⟩, .slice qE nE cE, .slice none 0 0, .int .i64 4, .int .i64 0, .string ⟨#[]⟩, .slice qI nI cI, .slice none 0 0, .int .i64 1, .int .i64 1, .string ⟨#[]⟩, .slice none 0 0, .slice none 0 0, .int .i64 4, .int .i64 0, .string ⟨#[]⟩, .slice qO nO cO, .slice none 0 0] 50)).ownsRow 0 50 5 (.slice (some ⟨W.heap.size, 0, none⟩) 4 4) 4 [.int .i64 4, .int .i64 0, .string ⟨#[]⟩, .slice qE nE cE, .slice none 0 0, .int .i64 4, .int .i64 0, .string ⟨#[]⟩, .slice qI nI cI, .slice none 0 0, .int .i64 1, .int .i64 1, .string ⟨#[]⟩, .slice none 0 0, .slice none 0 0, .int .i64 4, .int .i64 0, .string ⟨#[]⟩, .slice qO nO cO, .slice none 0 0] := owns_lo (Nat.zero_le _) (World.ownsRow_lit W ([.int .i64 4, .int .i64 0, .string ⟨#[]⟩, .slice qE nE cE, .slice none 0 0, .int .i64 4, .int .i64 0, .string ⟨#[]⟩, .slice qI nI cI, .slice none 0 0, .int .i64 1, .int .i64 1, .string ⟨#[]⟩, .slice none 0 0, .slice none 0 0, .int .i64 4, .int .i64 0, .string ⟨#[]⟩, .slice qO nO cO, .slice none 0 0] : List Value).toArray 4 (Nat.le_refl _) (by unfold maxLen; omega) rfl)
        clear hHeld
        refine hK.out _ (W.alloc (.cells #[.int .i64 4, .int .i64 0, .string ⟨#[]⟩, .slice qE nE cE, .slice none 0 0, .int .i64 4, .int .i64 0, .string ⟨#[]⟩, .slice qI nI cI, .slice none 0 0, .int .i64 1, .int .i64 1, .string ⟨#[]⟩, .slice none 0 0, .slice none 0 0, .int .i64 4, .int .i64 0, .string ⟨#[]⟩, .slice qO nO cO, .slice none 0 0] 50)) ?GQ12 (fun hHeld => ?_)
        case GQ12 => exact KEEP.out _ hb2
        clear hK K
        try simp only [Act.put, List.getElem_toArray, List.getElem_cons_zero, List.getElem_cons_succ, List.setIfInBounds_toArray, List.set_cons_zero, List.set_cons_succ]
        replace h := hb2
        obtain ⟨gv, hgv⟩ : ∃ g, g = W.heap.size := ⟨_, rfl⟩
        rw [← hgv] at hv zv
        try rw [← hgv]
        obtain ⟨W2, hW2⟩ : ∃ W2, W2 = W.alloc (.cells #[.int .i64 4, .int .i64 0, .string ⟨#[]⟩, .slice qE nE cE, .slice none 0 0, .int .i64 4, .int .i64 0, .string ⟨#[]⟩, .slice qI nI cI, .slice none 0 0, .int .i64 1, .int .i64 1, .string ⟨#[]⟩, .slice none 0 0, .slice none 0 0, .int .i64 4, .int .i64 0, .string ⟨#[]⟩, .slice qO nO cO, .slice none 0 0] 50) := ⟨_, rfl⟩
        rw [← hW2] at h hv pE wE pI wI pO wO
        rw [← hW2]
        clear hW2 hgv ka hb2
        have hN := N04.out W2 h nE qE cE lE hE pE zE wE nI qI cI lI hI pI zI wI nO qO cO lO hO pO zO wO gv hv zv
        rw [hΦ] at hN
        exact wpAny_at2 hN (by kernel_rfl) (by kernel_rfl)
    have N12 : Hid (∀ (W : World) (h : Below wz.heap.size wz W) (gk : Nat) (hk : W.ownsRow 0 9 1 (.slice (some ⟨gk, 0, none⟩) 4 4) 4 (strsV ruleKeys)) (zk : wz.heap.size ≤ gk) (nE : Nat) (qE : Option Addr) (cE : Nat) (lE : Nat) (hE : Nat) (pE : Part W (fun b => lE ≤ b ∧ b < hE) (fun _ => False) (.slice qE nE cE) (.slice none 0 0) (d.envs.map textT) []) (zE : wz.heap.size ≤ lE) (wE : lE ≤ hE ∧ hE ≤ W.heap.size) (kE : gk < lE ∨ hE ≤ gk) (nI : Nat) (qI : Option Addr) (cI : Nat) (lI : Nat) (hI : Nat) (pI : Part W (fun b => lI ≤ b ∧ b < hI) (fun _ => False) (.slice qI nI cI) (.slice none 0 0) (d.ins.map textT) []) (zI : hE ≤ lI) (wI : lI ≤ hI ∧ hI ≤ W.heap.size) (kI : gk < lI ∨ hI ≤ gk), Φ 4 #[true, true, true, true, true, true, true, true, true, true, false, false, false, false] { tmps := #[.agg #[.string d.task, .slice a0 d.on.length c0, .slice a1 d.ins.length c1, .slice a2 d.envs.length c2, .bool true], .pointer (some ⟨w.heap.size, 0, none⟩), .pointer (some ⟨w.heap.size + 1, 0, none⟩), .pointer (some ⟨w.heap.size + 1 + 1, 0, none⟩), .agg #[.int .i64 1, .int .i64 0, .string ⟨#[]⟩, .slice none 0 0, .slice none 0 0], .pointer (some ⟨w.heap.size, 4, none⟩), .bool true, .pointer (some ⟨w.heap.size + 1 + 1, 1, none⟩), .slice (some ⟨gk, 0, none⟩) 4 4, .pointer (some ⟨w.heap.size, 3, none⟩), .slice a2 d.envs.length c2, .agg #[.int .i64 4, .int .i64 0, .string ⟨#[]⟩, .slice qE nE cE, .slice none 0 0], .pointer (some ⟨w.heap.size, 2, none⟩), .slice a1 d.ins.length c1, .agg #[.int .i64 4, .int .i64 0, .string ⟨#[]⟩, .slice qI nI cI, .slice none 0 0], .agg #[.int .i64 1, .int .i64 1, .string ⟨#[]⟩, .slice none 0 0, .slice none 0 0], .pointer (some ⟨w.heap.size, 1, none⟩), .slice a0 d.on.length c0, undef, undef, undef], defers := [] } W) := by
      intro W h gk hk zk nE qE cE lE hE pE zE wE kE nI qI cI lI hI pI zI wI kI
      rw [hΦ]
      have hHeld := KEEP.out W h
      refine wpAnyH_ready (rs := [10]) (by kernel_rfl) (by simp) ?_
      refine AllReadyH.cons rfl (fun K hK => ?_) AllReadyH.nil
      go_simp
      go_wp2_with (go_at_call 61; refine (T0.out _ (hwz.trans (h.mono (by omega)))).mono ?_; rintro e W2 ⟨nO, qO, cO, rfl, pO, bx⟩)
      have hb2 : Below wz.heap.size wz W2 := h.trans (bx.mono h.size)
      have zO := wI.2
      have wO : W.heap.size ≤ W2.heap.size ∧ W2.heap.size ≤ W2.heap.size := ⟨bx.size, Nat.le_refl _⟩
      have kO : gk < W.heap.size ∨ W2.heap.size ≤ gk := .inl (owns_in hk gk rfl).2
      replace hk := owns_belowQ hk bx
      replace pE := pE.keep (Kp.of bx (fun b hb => by rcases hb with hb | hb; exact Nat.lt_of_lt_of_le hb.2 wE.2; exact hb.elim))
      replace wE := And.intro wE.1 (Nat.le_trans wE.2 bx.size)
      replace pI := pI.keep (Kp.of bx (fun b hb => by rcases hb with hb | hb; exact Nat.lt_of_lt_of_le hb.2 wI.2; exact hb.elim))
      replace wI := And.intro wI.1 (Nat.le_trans wI.2 bx.size)
      clear hHeld
      refine hK.out _ _ ?GQ13 (fun hHeld => ?_)
      case GQ13 => exact KEEP.out _ hb2
      clear hK K
      try simp only [Act.put, List.getElem_toArray, List.getElem_cons_zero, List.getElem_cons_succ, List.setIfInBounds_toArray, List.set_cons_zero, List.set_cons_succ]
      replace h := hb2
      have hN := N13.out W2 h gk hk zk nE qE cE lE hE pE zE wE kE nI qI cI lI hI pI zI wI kI nO qO cO W.heap.size W2.heap.size pO zO wO kO
      rw [hΦ] at hN
      exact wpAny_at2 hN (by kernel_rfl) (by kernel_rfl)
    have N02 : Hid (∀ (W : World) (h : Below wz.heap.size wz W) (nE : Nat) (qE : Option Addr) (cE : Nat) (lE : Nat) (hE : Nat) (pE : Part W (fun b => lE ≤ b ∧ b < hE) (fun _ => False) (.slice qE nE cE) (.slice none 0 0) (d.envs.map textT) []) (zE : wz.heap.size ≤ lE) (wE : lE ≤ hE ∧ hE ≤ W.heap.size) (nI : Nat) (qI : Option Addr) (cI : Nat) (lI : Nat) (hI : Nat) (pI : Part W (fun b => lI ≤ b ∧ b < hI) (fun _ => False) (.slice qI nI cI) (.slice none 0 0) (d.ins.map textT) []) (zI : hE ≤ lI) (wI : lI ≤ hI ∧ hI ≤ W.heap.size), Φ 5 #[false, true, true, true, true, true, true, true, true, true, false, false, false, false] { tmps := #[.agg #[.string d.task, .slice a0 d.on.length c0, .slice a1 d.ins.length c1, .slice a2 d.envs.length c2, .bool true], .pointer (some ⟨w.heap.size, 0, none⟩), .pointer (some ⟨w.heap.size + 1, 0, none⟩), .pointer (some ⟨w.heap.size + 1 + 1, 0, none⟩), .agg #[.int .i64 1, .int .i64 0, .string ⟨#[]⟩, .slice none 0 0, .slice none 0 0], .pointer (some ⟨w.heap.size, 4, none⟩), .bool true, .pointer (some ⟨w.heap.size + 1 + 1, 1, none⟩), undef, .pointer (some ⟨w.heap.size, 3, none⟩), .slice a2 d.envs.length c2, .agg #[.int .i64 4, .int .i64 0, .string ⟨#[]⟩, .slice qE nE cE, .slice none 0 0], .pointer (some ⟨w.heap.size, 2, none⟩), .slice a1 d.ins.length c1, .agg #[.int .i64 4, .int .i64 0, .string ⟨#[]⟩, .slice qI nI cI, .slice none 0 0], .agg #[.int .i64 1, .int .i64 1, .string ⟨#[]⟩, .slice none 0 0, .slice none 0 0], .pointer (some ⟨w.heap.size, 1, none⟩), .slice a0 d.on.length c0, undef, undef, undef], defers := [] } W) := by
      intro W h nE qE cE lE hE pE zE wE nI qI cI lI hI pI zI wI
      rw [hΦ]
      have hHeld := KEEP.out W h
      refine wpAnyH_ready (rs := [0, 10]) (by kernel_rfl) (by simp) ?_
      refine AllReadyH.cons rfl (fun K hK => ?_) (AllReadyH.cons rfl (fun K hK => ?_) AllReadyH.nil)
      · go_simp
        have ka : Below W.heap.size W (W.alloc (.cells #[.string ⟨#[101, 110, 118]⟩, .string ⟨#[105, 110]⟩, .string ⟨#[107, 101, 101, 112]⟩, .string ⟨#[111, 110]⟩] 9)) := (Below.refl _ _).alloc (Nat.le_refl _) _
        have hb2 : Below wz.heap.size wz (W.alloc (.cells #[.string ⟨#[101, 110, 118]⟩, .string ⟨#[105, 110]⟩, .string ⟨#[107, 101, 101, 112]⟩, .string ⟨#[111, 110]⟩] 9)) := h.trans (ka.mono h.size)
        replace pE := pE.keep (Kp.of ka (fun b hb => by rcases hb with hb | hb; exact Nat.lt_of_lt_of_le hb.2 wE.2; exact hb.elim))
        have wE_ := wE; replace wE := And.intro wE.1 (Nat.le_trans wE.2 ka.size)
        replace pI := pI.keep (Kp.of ka (fun b hb => by rcases hb with hb | hb; exact Nat.lt_of_lt_of_le hb.2 wI.2; exact hb.elim))
        have wI_ := wI; replace wI := And.intro wI.1 (Nat.le_trans wI.2 ka.size)
        have hk : (W.alloc (.cells #[.string ⟨#[101, 110, 118]⟩, .string ⟨#[105, 110]⟩, .string ⟨#[107, 101, 101, 112]⟩, .string ⟨#[111, 110]⟩] 9)).ownsRow 0 9 1 (.slice (some ⟨W.heap.size, 0, none⟩) 4 4) 4 (strsV ruleKeys) := owns_lo (Nat.zero_le _) (World.ownsRow_lit W (strsV ruleKeys).toArray 4 (Nat.le_refl _) (by unfold maxLen; omega) rfl)
        clear hHeld
        refine hK.out _ (W.alloc (.cells #[.string ⟨#[101, 110, 118]⟩, .string ⟨#[105, 110]⟩, .string ⟨#[107, 101, 101, 112]⟩, .string ⟨#[111, 110]⟩] 9)) ?GQ14 (fun hHeld => ?_)
        case GQ14 => exact KEEP.out _ hb2
        clear hK K
        try simp only [Act.put, List.getElem_toArray, List.getElem_cons_zero, List.getElem_cons_succ, List.setIfInBounds_toArray, List.set_cons_zero, List.set_cons_succ]
        have zk := h.size
        replace h := hb2
        have kE : W.heap.size < lE ∨ hE ≤ W.heap.size := .inr (by have := wE_.2; omega)
        have kI : W.heap.size < lI ∨ hI ≤ W.heap.size := .inr (by have := wI_.2; omega)
        obtain ⟨gk, hgk⟩ : ∃ g, g = W.heap.size := ⟨_, rfl⟩
        rw [← hgk] at hk zk kE kI
        try rw [← hgk]
        obtain ⟨W2, hW2⟩ : ∃ W2, W2 = W.alloc (.cells #[.string ⟨#[101, 110, 118]⟩, .string ⟨#[105, 110]⟩, .string ⟨#[107, 101, 101, 112]⟩, .string ⟨#[111, 110]⟩] 9) := ⟨_, rfl⟩
        rw [← hW2] at h hk pE wE pI wI
        rw [← hW2]
        clear hW2 hgk ka hb2
        have hN := N12.out W2 h gk hk zk nE qE cE lE hE pE zE wE kE nI qI cI lI hI pI zI wI kI
        rw [hΦ] at hN
        exact wpAny_at2 hN (by kernel_rfl) (by kernel_rfl)
      · go_simp
        go_wp2_with (go_at_call 61; refine (T0.out _ (hwz.trans (h.mono (by omega)))).mono ?_; rintro e W2 ⟨nO, qO, cO, rfl, pO, bx⟩)
        have hb2 : Below wz.heap.size wz W2 := h.trans (bx.mono h.size)
        have zO := wI.2
        have wO : W.heap.size ≤ W2.heap.size ∧ W2.heap.size ≤ W2.heap.size := ⟨bx.size, Nat.le_refl _⟩
        replace pE := pE.keep (Kp.of bx (fun b hb => by rcases hb with hb | hb; exact Nat.lt_of_lt_of_le hb.2 wE.2; exact hb.elim))
        replace wE := And.intro wE.1 (Nat.le_trans wE.2 bx.size)
        replace pI := pI.keep (Kp.of bx (fun b hb => by rcases hb with hb | hb; exact Nat.lt_of_lt_of_le hb.2 wI.2; exact hb.elim))
        replace wI := And.intro wI.1 (Nat.le_trans wI.2 bx.size)
        clear hHeld
        refine hK.out _ _ ?GQ15 (fun hHeld => ?_)
        case GQ15 => exact KEEP.out _ hb2
        clear hK K
        try simp only [Act.put, List.getElem_toArray, List.getElem_cons_zero, List.getElem_cons_succ, List.setIfInBounds_toArray, List.set_cons_zero, List.set_cons_succ]
        replace h := hb2
        have hN := N03.out W2 h nE qE cE lE hE pE zE wE nI qI cI lI hI pI zI wI nO qO cO W.heap.size W2.heap.size pO zO wO
        rw [hΦ] at hN
        exact wpAny_at2 hN (by kernel_rfl) (by kernel_rfl)
    have N11 : Hid (∀ (W : World) (h : Below wz.heap.size wz W) (gk : Nat) (hk : W.ownsRow 0 9 1 (.slice (some ⟨gk, 0, none⟩) 4 4) 4 (strsV ruleKeys)) (zk : wz.heap.size ≤ gk) (nE : Nat) (qE : Option Addr) (cE : Nat) (lE : Nat) (hE : Nat) (pE : Part W (fun b => lE ≤ b ∧ b < hE) (fun _ => False) (.slice qE nE cE) (.slice none 0 0) (d.envs.map textT) []) (zE : wz.heap.size ≤ lE) (wE : lE ≤ hE ∧ hE ≤ W.heap.size) (kE : gk < lE ∨ hE ≤ gk), Φ 5 #[true, true, true, true, true, true, false, true, true, true, false, false, false, false] { tmps := #[.agg #[.string d.task, .slice a0 d.on.length c0, .slice a1 d.ins.length c1, .slice a2 d.envs.length c2, .bool true], .pointer (some ⟨w.heap.size, 0, none⟩), .pointer (some ⟨w.heap.size + 1, 0, none⟩), .pointer (some ⟨w.heap.size + 1 + 1, 0, none⟩), .agg #[.int .i64 1, .int .i64 0, .string ⟨#[]⟩, .slice none 0 0, .slice none 0 0], .pointer (some ⟨w.heap.size, 4, none⟩), .bool true, .pointer (some ⟨w.heap.size + 1 + 1, 1, none⟩), .slice (some ⟨gk, 0, none⟩) 4 4, .pointer (some ⟨w.heap.size, 3, none⟩), .slice a2 d.envs.length c2, .agg #[.int .i64 4, .int .i64 0, .string ⟨#[]⟩, .slice qE nE cE, .slice none 0 0], .pointer (some ⟨w.heap.size, 2, none⟩), .slice a1 d.ins.length c1, undef, .agg #[.int .i64 1, .int .i64 1, .string ⟨#[]⟩, .slice none 0 0, .slice none 0 0], .pointer (some ⟨w.heap.size, 1, none⟩), .slice a0 d.on.length c0, undef, undef, undef], defers := [] } W) := by
      intro W h gk hk zk nE qE cE lE hE pE zE wE kE
      rw [hΦ]
      have hHeld := KEEP.out W h
      refine wpAnyH_ready (rs := [6]) (by kernel_rfl) (by simp) ?_
      refine AllReadyH.cons rfl (fun K hK => ?_) AllReadyH.nil
      go_simp
      go_wp2_with (go_at_call 61; refine (T1.out _ (hwz.trans (h.mono (by omega)))).mono ?_; rintro e W2 ⟨nI, qI, cI, rfl, pI, bx⟩)
      have hb2 : Below wz.heap.size wz W2 := h.trans (bx.mono h.size)
      have zI := wE.2
      have wI : W.heap.size ≤ W2.heap.size ∧ W2.heap.size ≤ W2.heap.size := ⟨bx.size, Nat.le_refl _⟩
      have kI : gk < W.heap.size ∨ W2.heap.size ≤ gk := .inl (owns_in hk gk rfl).2
      replace hk := owns_belowQ hk bx
      replace pE := pE.keep (Kp.of bx (fun b hb => by rcases hb with hb | hb; exact Nat.lt_of_lt_of_le hb.2 wE.2; exact hb.elim))
      replace wE := And.intro wE.1 (Nat.le_trans wE.2 bx.size)
      clear hHeld
      refine hK.out _ _ ?GQ16 (fun hHeld => ?_)
      case GQ16 => exact KEEP.out _ hb2
      clear hK K
      try simp only [Act.put, List.getElem_toArray, List.getElem_cons_zero, List.getElem_cons_succ, List.setIfInBounds_toArray, List.set_cons_zero, List.set_cons_succ]
      replace h := hb2
      have hN := N12.out W2 h gk hk zk nE qE cE lE hE pE zE wE kE nI qI cI W.heap.size W2.heap.size pI zI wI kI
      rw [hΦ] at hN
      exact wpAny_at2 hN (by kernel_rfl) (by kernel_rfl)
    have N01 : Hid (∀ (W : World) (h : Below wz.heap.size wz W) (nE : Nat) (qE : Option Addr) (cE : Nat) (lE : Nat) (hE : Nat) (pE : Part W (fun b => lE ≤ b ∧ b < hE) (fun _ => False) (.slice qE nE cE) (.slice none 0 0) (d.envs.map textT) []) (zE : wz.heap.size ≤ lE) (wE : lE ≤ hE ∧ hE ≤ W.heap.size), Φ 6 #[false, true, true, true, true, true, false, true, true, true, false, false, false, false] { tmps := #[.agg #[.string d.task, .slice a0 d.on.length c0, .slice a1 d.ins.length c1, .slice a2 d.envs.length c2, .bool true], .pointer (some ⟨w.heap.size, 0, none⟩), .pointer (some ⟨w.heap.size + 1, 0, none⟩), .pointer (some ⟨w.heap.size + 1 + 1, 0, none⟩), .agg #[.int .i64 1, .int .i64 0, .string ⟨#[]⟩, .slice none 0 0, .slice none 0 0], .pointer (some ⟨w.heap.size, 4, none⟩), .bool true, .pointer (some ⟨w.heap.size + 1 + 1, 1, none⟩), undef, .pointer (some ⟨w.heap.size, 3, none⟩), .slice a2 d.envs.length c2, .agg #[.int .i64 4, .int .i64 0, .string ⟨#[]⟩, .slice qE nE cE, .slice none 0 0], .pointer (some ⟨w.heap.size, 2, none⟩), .slice a1 d.ins.length c1, undef, .agg #[.int .i64 1, .int .i64 1, .string ⟨#[]⟩, .slice none 0 0, .slice none 0 0], .pointer (some ⟨w.heap.size, 1, none⟩), .slice a0 d.on.length c0, undef, undef, undef], defers := [] } W) := by
      intro W h nE qE cE lE hE pE zE wE
      rw [hΦ]
      have hHeld := KEEP.out W h
      refine wpAnyH_ready (rs := [0, 6]) (by kernel_rfl) (by simp) ?_
      refine AllReadyH.cons rfl (fun K hK => ?_) (AllReadyH.cons rfl (fun K hK => ?_) AllReadyH.nil)
      · go_simp
        have ka : Below W.heap.size W (W.alloc (.cells #[.string ⟨#[101, 110, 118]⟩, .string ⟨#[105, 110]⟩, .string ⟨#[107, 101, 101, 112]⟩, .string ⟨#[111, 110]⟩] 9)) := (Below.refl _ _).alloc (Nat.le_refl _) _
        have hb2 : Below wz.heap.size wz (W.alloc (.cells #[.string ⟨#[101, 110, 118]⟩, .string ⟨#[105, 110]⟩, .string ⟨#[107, 101, 101, 112]⟩, .string ⟨#[111, 110]⟩] 9)) := h.trans (ka.mono h.size)
        replace pE := pE.keep (Kp.of ka (fun b hb => by rcases hb with hb | hb; exact Nat.lt_of_lt_of_le hb.2 wE.2; exact hb.elim))
        have wE_ := wE; replace wE := And.intro wE.1 (Nat.le_trans wE.2 ka.size)
        have hk : (W.alloc (.cells #[.string ⟨#[101, 110, 118]⟩, .string ⟨#[105, 110]⟩, .string ⟨#[107, 101, 101, 112]⟩, .string ⟨#[111, 110]⟩] 9)).ownsRow 0 9 1 (.slice (some ⟨W.heap.size, 0, none⟩) 4 4) 4 (strsV ruleKeys) := owns_lo (Nat.zero_le _) (World.ownsRow_lit W (strsV ruleKeys).toArray 4 (Nat.le_refl _) (by unfold maxLen; omega) rfl)
        clear hHeld
        refine hK.out _ (W.alloc (.cells #[.string ⟨#[101, 110, 118]⟩, .string ⟨#[105, 110]⟩, .string ⟨#[107, 101, 101, 112]⟩, .string ⟨#[111, 110]⟩] 9)) ?GQ17 (fun hHeld => ?_)
        case GQ17 => exact KEEP.out _ hb2
        clear hK K
        try simp only [Act.put, List.getElem_toArray, List.getElem_cons_zero, List.getElem_cons_succ, List.setIfInBounds_toArray, List.set_cons_zero, List.set_cons_succ]
        have zk := h.size
        replace h := hb2
        have kE : W.heap.size < lE ∨ hE ≤ W.heap.size := .inr (by have := wE_.2; omega)
        obtain ⟨gk, hgk⟩ : ∃ g, g = W.heap.size := ⟨_, rfl⟩
        rw [← hgk] at hk zk kE
        try rw [← hgk]
        obtain ⟨W2, hW2⟩ : ∃ W2, W2 = W.alloc (.cells #[.string ⟨#[101, 110, 118]⟩, .string ⟨#[105, 110]⟩, .string ⟨#[107, 101, 101, 112]⟩, .string ⟨#[111, 110]⟩] 9) := ⟨_, rfl⟩
        rw [← hW2] at h hk pE wE
        rw [← hW2]
        clear hW2 hgk ka hb2
        have hN := N11.out W2 h gk hk zk nE qE cE lE hE pE zE wE kE
        rw [hΦ] at hN
        exact wpAny_at2 hN (by kernel_rfl) (by kernel_rfl)
      · go_simp
        go_wp2_with (go_at_call 61; refine (T1.out _ (hwz.trans (h.mono (by omega)))).mono ?_; rintro e W2 ⟨nI, qI, cI, rfl, pI, bx⟩)
        have hb2 : Below wz.heap.size wz W2 := h.trans (bx.mono h.size)
        have zI := wE.2
        have wI : W.heap.size ≤ W2.heap.size ∧ W2.heap.size ≤ W2.heap.size := ⟨bx.size, Nat.le_refl _⟩
        replace pE := pE.keep (Kp.of bx (fun b hb => by rcases hb with hb | hb; exact Nat.lt_of_lt_of_le hb.2 wE.2; exact hb.elim))
        replace wE := And.intro wE.1 (Nat.le_trans wE.2 bx.size)
        clear hHeld
        refine hK.out _ _ ?GQ18 (fun hHeld => ?_)
        case GQ18 => exact KEEP.out _ hb2
        clear hK K
        try simp only [Act.put, List.getElem_toArray, List.getElem_cons_zero, List.getElem_cons_succ, List.setIfInBounds_toArray, List.set_cons_zero, List.set_cons_succ]
        replace h := hb2
        have hN := N02.out W2 h nE qE cE lE hE pE zE wE nI qI cI W.heap.size W2.heap.size pI zI wI
        rw [hΦ] at hN
        exact wpAny_at2 hN (by kernel_rfl) (by kernel_rfl)
    have N10 : Hid (∀ (W : World) (h : Below wz.heap.size wz W) (gk : Nat) (hk : W.ownsRow 0 9 1 (.slice (some ⟨gk, 0, none⟩) 4 4) 4 (strsV ruleKeys)) (zk : wz.heap.size ≤ gk), Φ 6 #[true, true, true, false, true, true, false, true, true, true, false, false, false, false] { tmps := #[.agg #[.string d.task, .slice a0 d.on.length c0, .slice a1 d.ins.length c1, .slice a2 d.envs.length c2, .bool true], .pointer (some ⟨w.heap.size, 0, none⟩), .pointer (some ⟨w.heap.size + 1, 0, none⟩), .pointer (some ⟨w.heap.size + 1 + 1, 0, none⟩), .agg #[.int .i64 1, .int .i64 0, .string ⟨#[]⟩, .slice none 0 0, .slice none 0 0], .pointer (some ⟨w.heap.size, 4, none⟩), .bool true, .pointer (some ⟨w.heap.size + 1 + 1, 1, none⟩), .slice (some ⟨gk, 0, none⟩) 4 4, .pointer (some ⟨w.heap.size, 3, none⟩), .slice a2 d.envs.length c2, undef, .pointer (some ⟨w.heap.size, 2, none⟩), .slice a1 d.ins.length c1, undef, .agg #[.int .i64 1, .int .i64 1, .string ⟨#[]⟩, .slice none 0 0, .slice none 0 0], .pointer (some ⟨w.heap.size, 1, none⟩), .slice a0 d.on.length c0, undef, undef, undef], defers := [] } W) := by
      intro W h gk hk zk
      rw [hΦ]
      have hHeld := KEEP.out W h
      refine wpAnyH_ready (rs := [3]) (by kernel_rfl) (by simp) ?_
      refine AllReadyH.cons rfl (fun K hK => ?_) AllReadyH.nil
      go_simp
      go_wp2_with (go_at_call 61; refine (T2.out _ (hwz.trans (h.mono (by omega)))).mono ?_; rintro e W2 ⟨nE, qE, cE, rfl, pE, bx⟩)
      have hb2 : Below wz.heap.size wz W2 := h.trans (bx.mono h.size)
      have zE := h.size
      have wE : W.heap.size ≤ W2.heap.size ∧ W2.heap.size ≤ W2.heap.size := ⟨bx.size, Nat.le_refl _⟩
      have kE : gk < W.heap.size ∨ W2.heap.size ≤ gk := .inl (owns_in hk gk rfl).2
      replace hk := owns_belowQ hk bx
      clear hHeld
      refine hK.out _ _ ?GQ19 (fun hHeld => ?_)
      case GQ19 => exact KEEP.out _ hb2
      clear hK K
      try simp only [Act.put, List.getElem_toArray, List.getElem_cons_zero, List.getElem_cons_succ, List.setIfInBounds_toArray, List.set_cons_zero, List.set_cons_succ]
      replace h := hb2
      have hN := N11.out W2 h gk hk zk nE qE cE W.heap.size W2.heap.size pE zE wE kE
      rw [hΦ] at hN
      exact wpAny_at2 hN (by kernel_rfl) (by kernel_rfl)
    have N00 : Hid (∀ (W : World) (h : Below wz.heap.size wz W), Φ 7 #[false, true, true, false, true, true, false, true, true, true, false, false, false, false] { tmps := #[.agg #[.string d.task, .slice a0 d.on.length c0, .slice a1 d.ins.length c1, .slice a2 d.envs.length c2, .bool true], .pointer (some ⟨w.heap.size, 0, none⟩), .pointer (some ⟨w.heap.size + 1, 0, none⟩), .pointer (some ⟨w.heap.size + 1 + 1, 0, none⟩), .agg #[.int .i64 1, .int .i64 0, .string ⟨#[]⟩, .slice none 0 0, .slice none 0 0], .pointer (some ⟨w.heap.size, 4, none⟩), .bool true, .pointer (some ⟨w.heap.size + 1 + 1, 1, none⟩), undef, .pointer (some ⟨w.heap.size, 3, none⟩), .slice a2 d.envs.length c2, undef, .pointer (some ⟨w.heap.size, 2, none⟩), .slice a1 d.ins.length c1, undef, .agg #[.int .i64 1, .int .i64 1, .string ⟨#[]⟩, .slice none 0 0, .slice none 0 0], .pointer (some ⟨w.heap.size, 1, none⟩), .slice a0 d.on.length c0, undef, undef, undef], defers := [] } W) := by
      intro W h
      rw [hΦ]
      have hHeld := KEEP.out W h
      refine wpAnyH_ready (rs := [0, 3]) (by kernel_rfl) (by simp) ?_
      refine AllReadyH.cons rfl (fun K hK => ?_) (AllReadyH.cons rfl (fun K hK => ?_) AllReadyH.nil)
      · go_simp
        have ka : Below W.heap.size W (W.alloc (.cells #[.string ⟨#[101, 110, 118]⟩, .string ⟨#[105, 110]⟩, .string ⟨#[107, 101, 101, 112]⟩, .string ⟨#[111, 110]⟩] 9)) := (Below.refl _ _).alloc (Nat.le_refl _) _
        have hb2 : Below wz.heap.size wz (W.alloc (.cells #[.string ⟨#[101, 110, 118]⟩, .string ⟨#[105, 110]⟩, .string ⟨#[107, 101, 101, 112]⟩, .string ⟨#[111, 110]⟩] 9)) := h.trans (ka.mono h.size)
        have hk : (W.alloc (.cells #[.string ⟨#[101, 110, 118]⟩, .string ⟨#[105, 110]⟩, .string ⟨#[107, 101, 101, 112]⟩, .string ⟨#[111, 110]⟩] 9)).ownsRow 0 9 1 (.slice (some ⟨W.heap.size, 0, none⟩) 4 4) 4 (strsV ruleKeys) := owns_lo (Nat.zero_le _) (World.ownsRow_lit W (strsV ruleKeys).toArray 4 (Nat.le_refl _) (by unfold maxLen; omega) rfl)
        clear hHeld
        refine hK.out _ (W.alloc (.cells #[.string ⟨#[101, 110, 118]⟩, .string ⟨#[105, 110]⟩, .string ⟨#[107, 101, 101, 112]⟩, .string ⟨#[111, 110]⟩] 9)) ?GQ20 (fun hHeld => ?_)
        case GQ20 => exact KEEP.out _ hb2
        clear hK K
        try simp only [Act.put, List.getElem_toArray, List.getElem_cons_zero, List.getElem_cons_succ, List.setIfInBounds_toArray, List.set_cons_zero, List.set_cons_succ]
        have zk := h.size
        replace h := hb2
        obtain ⟨gk, hgk⟩ : ∃ g, g = W.heap.size := ⟨_, rfl⟩
        rw [← hgk] at hk zk
        try rw [← hgk]
        obtain ⟨W2, hW2⟩ : ∃ W2, W2 = W.alloc (.cells #[.string ⟨#[101, 110, 118]⟩, .string ⟨#[105, 110]⟩, .string ⟨#[107, 101, 101, 112]⟩, .string ⟨#[111, 110]⟩] 9) := ⟨_, rfl⟩
        rw [← hW2] at h hk
        rw [← hW2]
        clear hW2 hgk ka hb2
        have hN := N10.out W2 h gk hk zk
        rw [hΦ] at hN
        exact wpAny_at2 hN (by kernel_rfl) (by kernel_rfl)
      · go_simp
        go_wp2_with (go_at_call 61; refine (T2.out _ (hwz.trans (h.mono (by omega)))).mono ?_; rintro e W2 ⟨nE, qE, cE, rfl, pE, bx⟩)
        have hb2 : Below wz.heap.size wz W2 := h.trans (bx.mono h.size)
        have zE := h.size
        have wE : W.heap.size ≤ W2.heap.size ∧ W2.heap.size ≤ W2.heap.size := ⟨bx.size, Nat.le_refl _⟩
        clear hHeld
        refine hK.out _ _ ?GQ21 (fun hHeld => ?_)
        case GQ21 => exact KEEP.out _ hb2
        clear hK K
        try simp only [Act.put, List.getElem_toArray, List.getElem_cons_zero, List.getElem_cons_succ, List.setIfInBounds_toArray, List.set_cons_zero, List.set_cons_succ]
        replace h := hb2
        have hN := N01.out W2 h nE qE cE W.heap.size W2.heap.size pE zE wE
        rw [hΦ] at hN
        exact wpAny_at2 hN (by kernel_rfl) (by kernel_rfl)
    obtain ⟨Wd, hWd⟩ : ∃ W, W = wz.drew := ⟨_, rfl⟩
    rw [← hWd] at hd0
    rw [← hWd]
    have hN := N00.out Wd hd0
    rw [hΦ] at hN
    exact wpAny_at2 hN (by kernel_rfl) (by kernel_rfl)
  | false =>
    have KPE : boolT d.keep = .mk 1 (if false then 1 else 0) ⟨#[]⟩ [] [] := by rw [← hkp]; rfl
    clear hkp
    go_enter Try.func25, Try.ntmps25
    have hPz : (((w.alloc (.cells #[.string d.task, .slice a0 d.on.length c0, .slice a1 d.ins.length c1, .slice a2 d.envs.length c2, .bool false] 52 (0, 0))).alloc (.cells #[.int .i64 0, .int .i64 0, .string ⟨#[]⟩, .slice none 0 0, .slice none 0 0] 50 (0, 0))).alloc (.cells #[.int .i64 1, .int .i64 0, .string ⟨#[]⟩, .slice none 0 0, .slice none 0 0] 50 (0, 0))).heap[w.heap.size]? = some (.cells #[.string d.task, .slice a0 d.on.length c0, .slice a1 d.ins.length c1, .slice a2 d.envs.length c2, .bool false] 52 (0, 0)) := by rw [vheap_old _ _ (by simp; try omega), vheap_old _ _ (by simp; try omega), vheap_new]
    have hRz : (((w.alloc (.cells #[.string d.task, .slice a0 d.on.length c0, .slice a1 d.ins.length c1, .slice a2 d.envs.length c2, .bool false] 52 (0, 0))).alloc (.cells #[.int .i64 0, .int .i64 0, .string ⟨#[]⟩, .slice none 0 0, .slice none 0 0] 50 (0, 0))).alloc (.cells #[.int .i64 1, .int .i64 0, .string ⟨#[]⟩, .slice none 0 0, .slice none 0 0] 50 (0, 0))).heap[w.heap.size + 1]? = some boxZ := by rw [vheap_old _ _ (by simp; try omega)]; exact heap_at (by simp)
    have hKz : (((w.alloc (.cells #[.string d.task, .slice a0 d.on.length c0, .slice a1 d.ins.length c1, .slice a2 d.envs.length c2, .bool false] 52 (0, 0))).alloc (.cells #[.int .i64 0, .int .i64 0, .string ⟨#[]⟩, .slice none 0 0, .slice none 0 0] 50 (0, 0))).alloc (.cells #[.int .i64 1, .int .i64 0, .string ⟨#[]⟩, .slice none 0 0, .slice none 0 0] 50 (0, 0))).heap[w.heap.size + 1 + 1]? = some (.cells #[.int .i64 1, .int .i64 0, .string ⟨#[]⟩, .slice none 0 0, .slice none 0 0] 50 (0, 0)) := heap_at (by simp)
    have hwz : Below w.heap.size w (((w.alloc (.cells #[.string d.task, .slice a0 d.on.length c0, .slice a1 d.ins.length c1, .slice a2 d.envs.length c2, .bool false] 52 (0, 0))).alloc (.cells #[.int .i64 0, .int .i64 0, .string ⟨#[]⟩, .slice none 0 0, .slice none 0 0] 50 (0, 0))).alloc (.cells #[.int .i64 1, .int .i64 0, .string ⟨#[]⟩, .slice none 0 0, .slice none 0 0] 50 (0, 0))) := (((Below.refl _ _).alloc (Nat.le_refl _) _).alloc (by simp) _).alloc (by simp; omega) _
    have hsz : (((w.alloc (.cells #[.string d.task, .slice a0 d.on.length c0, .slice a1 d.ins.length c1, .slice a2 d.envs.length c2, .bool false] 52 (0, 0))).alloc (.cells #[.int .i64 0, .int .i64 0, .string ⟨#[]⟩, .slice none 0 0, .slice none 0 0] 50 (0, 0))).alloc (.cells #[.int .i64 1, .int .i64 0, .string ⟨#[]⟩, .slice none 0 0, .slice none 0 0] 50 (0, 0))).heap.size = w.heap.size + 3 := by simp
    go_wp2_with fail
    obtain ⟨wz, hW⟩ : ∃ wz, wz = ((w.alloc (.cells #[.string d.task, .slice a0 d.on.length c0, .slice a1 d.ins.length c1, .slice a2 d.envs.length c2, .bool false] 52 (0, 0))).alloc (.cells #[.int .i64 0, .int .i64 0, .string ⟨#[]⟩, .slice none 0 0, .slice none 0 0] 50 (0, 0))).alloc (.cells #[.int .i64 1, .int .i64 0, .string ⟨#[]⟩, .slice none 0 0, .slice none 0 0] 50 (0, 0)) := ⟨_, rfl⟩
    rw [← hW] at hPz hRz hKz hwz hsz
    rw [← hW]
    clear hW
    have KEEP : Hid (∀ W, Below wz.heap.size wz W → W.cell? ⟨w.heap.size, 0, none⟩ = some (.string d.task) ∧ W.cell? ⟨w.heap.size, 1, none⟩ = some (.slice a0 d.on.length c0) ∧ W.cell? ⟨w.heap.size, 2, none⟩ = some (.slice a1 d.ins.length c1) ∧ W.cell? ⟨w.heap.size, 3, none⟩ = some (.slice a2 d.envs.length c2) ∧ W.cell? ⟨w.heap.size, 4, none⟩ = some (.bool false) ∧ W.cell? ⟨w.heap.size + 1 + 1, 0, none⟩ = some (.int .i64 1) ∧ W.cell? ⟨w.heap.size + 1 + 1, 1, none⟩ = some (.int .i64 0) ∧ W.cell? ⟨w.heap.size + 1 + 1, 2, none⟩ = some (.string ⟨#[]⟩) ∧ W.cell? ⟨w.heap.size + 1 + 1, 3, none⟩ = some (.slice none 0 0) ∧ W.cell? ⟨w.heap.size + 1 + 1, 4, none⟩ = some (.slice none 0 0)) := fun W h => by
      have hA := (h.block w.heap.size (by omega)).trans hPz
      have hB := (h.block (w.heap.size + 1 + 1) (by omega)).trans hKz
      exact ⟨vblk_cell hA 0, vblk_cell hA 1, vblk_cell hA 2, vblk_cell hA 3, vblk_cell hA 4, vblk_cell hB 0, vblk_cell hB 1, vblk_cell hB 2, vblk_cell hB 3, vblk_cell hB 4⟩
    have KEEPP : Hid (∀ W a b, Below wz.heap.size wz W → (put5 W (w.heap.size + 1) a b).cell? ⟨w.heap.size, 0, none⟩ = some (.string d.task) ∧ (put5 W (w.heap.size + 1) a b).cell? ⟨w.heap.size, 1, none⟩ = some (.slice a0 d.on.length c0) ∧ (put5 W (w.heap.size + 1) a b).cell? ⟨w.heap.size, 2, none⟩ = some (.slice a1 d.ins.length c1) ∧ (put5 W (w.heap.size + 1) a b).cell? ⟨w.heap.size, 3, none⟩ = some (.slice a2 d.envs.length c2) ∧ (put5 W (w.heap.size + 1) a b).cell? ⟨w.heap.size, 4, none⟩ = some (.bool false) ∧ (put5 W (w.heap.size + 1) a b).cell? ⟨w.heap.size + 1 + 1, 0, none⟩ = some (.int .i64 1) ∧ (put5 W (w.heap.size + 1) a b).cell? ⟨w.heap.size + 1 + 1, 1, none⟩ = some (.int .i64 0) ∧ (put5 W (w.heap.size + 1) a b).cell? ⟨w.heap.size + 1 + 1, 2, none⟩ = some (.string ⟨#[]⟩) ∧ (put5 W (w.heap.size + 1) a b).cell? ⟨w.heap.size + 1 + 1, 3, none⟩ = some (.slice none 0 0) ∧ (put5 W (w.heap.size + 1) a b).cell? ⟨w.heap.size + 1 + 1, 4, none⟩ = some (.slice none 0 0)) := fun W a b h => by
      have hA := (put5_other (W := W) (c := a) (u := b) (show w.heap.size ≠ w.heap.size + 1 by omega)).trans ((h.block w.heap.size (by omega)).trans hPz)
      have hB := (put5_other (W := W) (c := a) (u := b) (show w.heap.size + 1 + 1 ≠ w.heap.size + 1 by omega)).trans ((h.block (w.heap.size + 1 + 1) (by omega)).trans hKz)
      exact ⟨vblk_cell hA 0, vblk_cell hA 1, vblk_cell hA 2, vblk_cell hA 3, vblk_cell hA 4, vblk_cell hB 0, vblk_cell hB 1, vblk_cell hB 2, vblk_cell hB 3, vblk_cell hB 4⟩
    have hd0 : Below wz.heap.size wz wz.drew := (Below.refl _ _).drew
    refine wp_region_held_drew (S := (fun W => W.cell? ⟨w.heap.size, 0, none⟩ = some (.string d.task) ∧ W.cell? ⟨w.heap.size, 1, none⟩ = some (.slice a0 d.on.length c0) ∧ W.cell? ⟨w.heap.size, 2, none⟩ = some (.slice a1 d.ins.length c1) ∧ W.cell? ⟨w.heap.size, 3, none⟩ = some (.slice a2 d.envs.length c2) ∧ W.cell? ⟨w.heap.size, 4, none⟩ = some (.bool false) ∧ W.cell? ⟨w.heap.size + 1 + 1, 0, none⟩ = some (.int .i64 1) ∧ W.cell? ⟨w.heap.size + 1 + 1, 1, none⟩ = some (.int .i64 0) ∧ W.cell? ⟨w.heap.size + 1 + 1, 2, none⟩ = some (.string ⟨#[]⟩) ∧ W.cell? ⟨w.heap.size + 1 + 1, 3, none⟩ = some (.slice none 0 0) ∧ W.cell? ⟨w.heap.size + 1 + 1, 4, none⟩ = some (.slice none 0 0))) (by kernel_rfl) ?SQfalse (fun hHeld => ?_)
    case SQfalse => (exact KEEP.out _ hd0)
    refine wpAnyH_take (i := 1) (oi := _) (v := ?vTQ22) rfl (by kernel_rfl) (by kernel_rfl) (by kernel_rfl) (fun _ _ _ h => h) (Or.inl ⟨by rfl, ?yTQ22⟩) hHeld ?_
    case yTQ22 => (intro w hSw; (try dsimp only at hSw); go_simp <;> with_reducible rfl)
    try simp only [Act.put, List.getElem_toArray, List.getElem_cons_zero, List.getElem_cons_succ, List.setIfInBounds_toArray, List.set_cons_zero, List.set_cons_succ]
    refine wpAnyH_take (i := 2) (oi := _) (v := ?vTQ23) rfl (by kernel_rfl) (by kernel_rfl) (by kernel_rfl) (fun _ _ _ h => h) (Or.inl ⟨by rfl, ?yTQ23⟩) hHeld ?_
    case yTQ23 => (intro w hSw; (try dsimp only at hSw); go_simp <;> with_reducible rfl)
    try simp only [Act.put, List.getElem_toArray, List.getElem_cons_zero, List.getElem_cons_succ, List.setIfInBounds_toArray, List.set_cons_zero, List.set_cons_succ]
    refine wpAnyH_take (i := 4) (oi := _) (v := ?vTQ24) rfl (by kernel_rfl) (by kernel_rfl) (by kernel_rfl) (fun _ _ _ h => h) (Or.inl ⟨by rfl, ?yTQ24⟩) hHeld ?_
    case yTQ24 => (intro w hSw; (try dsimp only at hSw); go_simp <;> with_reducible rfl)
    try simp only [Act.put, List.getElem_toArray, List.getElem_cons_zero, List.getElem_cons_succ, List.setIfInBounds_toArray, List.set_cons_zero, List.set_cons_succ]
    refine wpAnyH_take (i := 5) (oi := _) (v := ?vTQ25) rfl (by kernel_rfl) (by kernel_rfl) (by kernel_rfl) (fun _ _ _ h => h) (Or.inl ⟨by rfl, ?yTQ25⟩) hHeld ?_
    case yTQ25 => (intro w hSw; (try dsimp only at hSw); go_simp <;> with_reducible rfl)
    try simp only [Act.put, List.getElem_toArray, List.getElem_cons_zero, List.getElem_cons_succ, List.setIfInBounds_toArray, List.set_cons_zero, List.set_cons_succ]
    refine wpAnyH_take (i := 7) (oi := _) (v := ?vTQ26) rfl (by kernel_rfl) (by kernel_rfl) (by kernel_rfl) (fun _ _ _ h => h) (Or.inl ⟨by rfl, ?yTQ26⟩) hHeld ?_
    case yTQ26 => (intro w hSw; (try dsimp only at hSw); go_simp <;> with_reducible rfl)
    try simp only [Act.put, List.getElem_toArray, List.getElem_cons_zero, List.getElem_cons_succ, List.setIfInBounds_toArray, List.set_cons_zero, List.set_cons_succ]
    refine wpAnyH_take (i := 8) (oi := _) (v := ?vTQ27) rfl (by kernel_rfl) (by kernel_rfl) (by kernel_rfl) (fun _ _ _ h => h) (Or.inl ⟨by rfl, ?yTQ27⟩) hHeld ?_
    case yTQ27 => (intro w hSw; (try dsimp only at hSw); go_simp <;> with_reducible rfl)
    try simp only [Act.put, List.getElem_toArray, List.getElem_cons_zero, List.getElem_cons_succ, List.setIfInBounds_toArray, List.set_cons_zero, List.set_cons_succ]
    refine wpAnyH_take (i := 9) (oi := _) (v := ?vTQ28) rfl (by kernel_rfl) (by kernel_rfl) (by kernel_rfl) (fun _ _ _ h => h) (Or.inl ⟨by rfl, ?yTQ28⟩) hHeld ?_
    case yTQ28 => (intro w hSw; (try dsimp only at hSw); go_simp <;> with_reducible rfl)
    try simp only [Act.put, List.getElem_toArray, List.getElem_cons_zero, List.getElem_cons_succ, List.setIfInBounds_toArray, List.set_cons_zero, List.set_cons_succ]
    refine as_phi2 (fun Φ hΦ => ?_)
    have N14 : Hid (∀ (W : World) (h : Below wz.heap.size wz W) (gk : Nat) (hk : W.ownsRow 0 9 1 (.slice (some ⟨gk, 0, none⟩) 4 4) 4 (strsV ruleKeys)) (zk : wz.heap.size ≤ gk) (nE : Nat) (qE : Option Addr) (cE : Nat) (lE : Nat) (hE : Nat) (pE : Part W (fun b => lE ≤ b ∧ b < hE) (fun _ => False) (.slice qE nE cE) (.slice none 0 0) (d.envs.map textT) []) (zE : wz.heap.size ≤ lE) (wE : lE ≤ hE ∧ hE ≤ W.heap.size) (kE : gk < lE ∨ hE ≤ gk) (nI : Nat) (qI : Option Addr) (cI : Nat) (lI : Nat) (hI : Nat) (pI : Part W (fun b => lI ≤ b ∧ b < hI) (fun _ => False) (.slice qI nI cI) (.slice none 0 0) (d.ins.map textT) []) (zI : hE ≤ lI) (wI : lI ≤ hI ∧ hI ≤ W.heap.size) (kI : gk < lI ∨ hI ≤ gk) (nO : Nat) (qO : Option Addr) (cO : Nat) (lO : Nat) (hO : Nat) (pO : Part W (fun b => lO ≤ b ∧ b < hO) (fun _ => False) (.slice qO nO cO) (.slice none 0 0) (d.on.map textT) []) (zO : hI ≤ lO) (wO : lO ≤ hO ∧ hO ≤ W.heap.size) (kO : gk < lO ∨ hO ≤ gk) (gv : Nat) (hv : W.ownsRow 0 50 5 (.slice (some ⟨gv, 0, none⟩) 4 4) 4 [.int .i64 4, .int .i64 0, .string ⟨#[]⟩, .slice qE nE cE, .slice none 0 0, .int .i64 4, .int .i64 0, .string ⟨#[]⟩, .slice qI nI cI, .slice none 0 0, .int .i64 1, .int .i64 0, .string ⟨#[]⟩, .slice none 0 0, .slice none 0 0, .int .i64 4, .int .i64 0, .string ⟨#[]⟩, .slice qO nO cO, .slice none 0 0]) (zv : hO ≤ gv), Φ 2 #[true, true, true, true, true, true, true, true, true, true, true, true, false, false] { tmps := #[.agg #[.string d.task, .slice a0 d.on.length c0, .slice a1 d.ins.length c1, .slice a2 d.envs.length c2, .bool false], .pointer (some ⟨w.heap.size, 0, none⟩), .pointer (some ⟨w.heap.size + 1, 0, none⟩), .pointer (some ⟨w.heap.size + 1 + 1, 0, none⟩), .agg #[.int .i64 1, .int .i64 0, .string ⟨#[]⟩, .slice none 0 0, .slice none 0 0], .pointer (some ⟨w.heap.size, 4, none⟩), .bool false, undef, .slice (some ⟨gk, 0, none⟩) 4 4, .pointer (some ⟨w.heap.size, 3, none⟩), .slice a2 d.envs.length c2, .agg #[.int .i64 4, .int .i64 0, .string ⟨#[]⟩, .slice qE nE cE, .slice none 0 0], .pointer (some ⟨w.heap.size, 2, none⟩), .slice a1 d.ins.length c1, .agg #[.int .i64 4, .int .i64 0, .string ⟨#[]⟩, .slice qI nI cI, .slice none 0 0], .agg #[.int .i64 1, .int .i64 0, .string ⟨#[]⟩, .slice none 0 0, .slice none 0 0], .pointer (some ⟨w.heap.size, 1, none⟩), .slice a0 d.on.length c0, .agg #[.int .i64 4, .int .i64 0, .string ⟨#[]⟩, .slice qO nO cO, .slice none 0 0], .slice (some ⟨gv, 0, none⟩) 4 4, undef], defers := [] } W) := by
      intro W h gk hk zk nE qE cE lE hE pE zE wE kE nI qI cI lI hI pI zI wI kI nO qO cO lO hO pO zO wO kO gv hv zv
      rw [hΦ]
      have hHeld := KEEP.out W h
      refine wpAnyH_take (i := 12) (oi := _) (v := ?vTQ29) rfl (by kernel_rfl) (by kernel_rfl) (by kernel_rfl) (fun _ _ _ h => h) (Or.inl ⟨by rfl, ?yTQ29⟩) hHeld ?_
      case yTQ29 => (intro w hSw; (try dsimp only at hSw); go_simp <;> with_reducible rfl)
      try simp only [Act.put, List.getElem_toArray, List.getElem_cons_zero, List.getElem_cons_succ, List.setIfInBounds_toArray, List.set_cons_zero, List.set_cons_succ]
      have hmk : Mk W (fun b => (∃ i : Nat, (rgs lE hE lI hI lO hO i).1 ≤ b ∧ b < (rgs lE hE lI hI lO hO i).2) ∨ (Value.slice (some ⟨gv, 0, none⟩) 4 4).ownBlock = some b ∨ (Value.slice (some ⟨gk, 0, none⟩) 4 4).ownBlock = some b) (.slice (some ⟨gv, 0, none⟩) 4 4) (.slice (some ⟨gk, 0, none⟩) 4 4) (ruleKids d) ruleKeys := by
        rw [ruleKids, KPE]
        exact rule_mk (kp := false) hv hk pE pI pO wE.1 (Nat.le_trans wE.1 zI) wI.1 zI wO.1 zO wO.2 (.inr zv) (by omega) (by omega) kE kI kO
      have hmw := h.size
      have hR := (h.block (w.heap.size + 1) (by omega)).trans hRz
      have bW := hwz.trans (h.mono (by omega))
      have low : ∀ b, ((∃ i : Nat, (rgs lE hE lI hI lO hO i).1 ≤ b ∧ b < (rgs lE hE lI hI lO hO i).2) ∨ (Value.slice (some ⟨gv, 0, none⟩) 4 4).ownBlock = some b ∨ (Value.slice (some ⟨gk, 0, none⟩) 4 4).ownBlock = some b) → wz.heap.size ≤ b := by
        rintro b (⟨i, h1, h2⟩ | h1 | h1)
        · exact rgs_low zE (by omega) (by omega) h1 h2
        · have e : gv = b := by simpa [Value.ownBlock] using h1
          omega
        · have e : gk = b := by simpa [Value.ownBlock] using h1
          omega
      have HM := hidden (And.intro hmk (And.intro low bW))
      have HRB := hidden hR
      clear hmk low pE pI pO hv hk
      unfold boxZ at hR
      have y0 := vblk_cell hR 0
      have y1 := vblk_cell hR 1
      have y2 := vblk_cell hR 2
      have y3 := vblk_cell hR 3
      have y4 := vblk_cell hR 4
      have fx := vblk_frozen hR
      simp only [List.getElem?_toArray, List.getElem?_cons_succ, List.getElem?_cons_zero] at y0 y1 y2 y3 y4
      refine wpAnyH_ready (rs := [13]) (by kernel_rfl) (by simp) ?_
      refine AllReadyH.cons rfl (fun K hK => ?_) AllReadyH.nil
      go_simp
      clear hHeld
      refine hK.out _ (put5 W (w.heap.size + 1) (.slice (some ⟨gv, 0, none⟩) 4 4) (.slice (some ⟨gk, 0, none⟩) 4 4)) ?UQ29 (fun hHeld => ?_)
      case UQ29 => exact KEEPP.out _ _ _ h
      clear hK K
      try simp only [Act.put, List.getElem_toArray, List.getElem_cons_zero, List.getElem_cons_succ, List.setIfInBounds_toArray, List.set_cons_zero, List.set_cons_succ]
      refine wpAnyH_done (by kernel_rfl) ?_ _
      clear hHeld y0 y1 y2 y3 y4 fx hR
      have hR := put5_zero (c := .slice (some ⟨gv, 0, none⟩) 4 4) (u := .slice (some ⟨gk, 0, none⟩) 4 4) HRB.out
      have mkE := HM.out.1.put (g := w.heap.size + 1) (a := .slice (some ⟨gv, 0, none⟩) 4 4) (b := .slice (some ⟨gk, 0, none⟩) 4 4) (fun k => by have := HM.out.2.1 _ k; omega)
      have bE : Below w.heap.size w (put5 W (w.heap.size + 1) (.slice (some ⟨gv, 0, none⟩) 4 4) (.slice (some ⟨gk, 0, none⟩) 4 4)) := put5_below HM.out.2.2 (by omega)
      obtain ⟨w9, hWn⟩ : ∃ X, X = put5 W (w.heap.size + 1) (.slice (some ⟨gv, 0, none⟩) 4 4) (.slice (some ⟨gk, 0, none⟩) 4 4) := ⟨_, rfl⟩
      rw [← hWn] at hR mkE bE
      rw [← hWn]
      have HF := hidden (mkE.mono (S' := fun b => w.heap.size ≤ b ∧ b < w9.heap.size) (fun b hb => ⟨by have := HM.out.2.1 b hb; omega, mkE.low b hb⟩) (fun b hb => hb.2))
      unfold boxM at hR
      have y0 := vblk_cell hR 0
      have y1 := vblk_cell hR 1
      have y2 := vblk_cell hR 2
      have y3 := vblk_cell hR 3
      have y4 := vblk_cell hR 4
      simp only [List.getElem?_toArray, List.getElem?_cons_succ, List.getElem?_cons_zero] at y0 y1 y2 y3 y4
      clear hWn hR mkE HM HRB
      go_wp2_with fail
      exact bodyPost_ret (v := .agg #[.int .i64 5, .int .i64 0, .string ⟨#[]⟩, .slice (some ⟨gv, 0, none⟩) 4 4, .slice (some ⟨gk, 0, none⟩) 4 4]) (by simp [results, Try.results25, go_sem, y0, y1, y2, y3, y4]) rfl ⟨_, _, rfl, HF.out, bE⟩
    have N04 : Hid (∀ (W : World) (h : Below wz.heap.size wz W) (nE : Nat) (qE : Option Addr) (cE : Nat) (lE : Nat) (hE : Nat) (pE : Part W (fun b => lE ≤ b ∧ b < hE) (fun _ => False) (.slice qE nE cE) (.slice none 0 0) (d.envs.map textT) []) (zE : wz.heap.size ≤ lE) (wE : lE ≤ hE ∧ hE ≤ W.heap.size) (nI : Nat) (qI : Option Addr) (cI : Nat) (lI : Nat) (hI : Nat) (pI : Part W (fun b => lI ≤ b ∧ b < hI) (fun _ => False) (.slice qI nI cI) (.slice none 0 0) (d.ins.map textT) []) (zI : hE ≤ lI) (wI : lI ≤ hI ∧ hI ≤ W.heap.size) (nO : Nat) (qO : Option Addr) (cO : Nat) (lO : Nat) (hO : Nat) (pO : Part W (fun b => lO ≤ b ∧ b < hO) (fun _ => False) (.slice qO nO cO) (.slice none 0 0) (d.on.map textT) []) (zO : hI ≤ lO) (wO : lO ≤ hO ∧ hO ≤ W.heap.size) (gv : Nat) (hv : W.ownsRow 0 50 5 (.slice (some ⟨gv, 0, none⟩) 4 4) 4 [.int .i64 4, .int .i64 0, .string ⟨#[]⟩, .slice qE nE cE, .slice none 0 0, .int .i64 4, .int .i64 0, .string ⟨#[]⟩, .slice qI nI cI, .slice none 0 0, .int .i64 1, .int .i64 0, .string ⟨#[]⟩, .slice none 0 0, .slice none 0 0, .int .i64 4, .int .i64 0, .string ⟨#[]⟩, .slice qO nO cO, .slice none 0 0]) (zv : hO ≤ gv), Φ 3 #[false, true, true, true, true, true, true, true, true, true, true, true, false, false] { tmps := #[.agg #[.string d.task, .slice a0 d.on.length c0, .slice a1 d.ins.length c1, .slice a2 d.envs.length c2, .bool false], .pointer (some ⟨w.heap.size, 0, none⟩), .pointer (some ⟨w.heap.size + 1, 0, none⟩), .pointer (some ⟨w.heap.size + 1 + 1, 0, none⟩), .agg #[.int .i64 1, .int .i64 0, .string ⟨#[]⟩, .slice none 0 0, .slice none 0 0], .pointer (some ⟨w.heap.size, 4, none⟩), .bool false, undef, undef, .pointer (some ⟨w.heap.size, 3, none⟩), .slice a2 d.envs.length c2, .agg #[.int .i64 4, .int .i64 0, .string ⟨#[]⟩, .slice qE nE cE, .slice none 0 0], .pointer (some ⟨w.heap.size, 2, none⟩), .slice a1 d.ins.length c1, .agg #[.int .i64 4, .int .i64 0, .string ⟨#[]⟩, .slice qI nI cI, .slice none 0 0], .agg #[.int .i64 1, .int .i64 0, .string ⟨#[]⟩, .slice none 0 0, .slice none 0 0], .pointer (some ⟨w.heap.size, 1, none⟩), .slice a0 d.on.length c0, .agg #[.int .i64 4, .int .i64 0, .string ⟨#[]⟩, .slice qO nO cO, .slice none 0 0], .slice (some ⟨gv, 0, none⟩) 4 4, undef], defers := [] } W) := by
      intro W h nE qE cE lE hE pE zE wE nI qI cI lI hI pI zI wI nO qO cO lO hO pO zO wO gv hv zv
      rw [hΦ]
      have hHeld := KEEP.out W h
      refine wpAnyH_ready (rs := [0]) (by kernel_rfl) (by simp) ?_
      refine AllReadyH.cons rfl (fun K hK => ?_) AllReadyH.nil
      go_simp
      have ka : Below W.heap.size W (W.alloc (.cells #[.string ⟨#[101, 110, 118]⟩, .string ⟨#[105, 110]⟩, .string ⟨#[107, 101, 101, 112]⟩, .string ⟨#[111, 110]⟩] 9)) := (Below.refl _ _).alloc (Nat.le_refl _) _
      have hb2 : Below wz.heap.size wz (W.alloc (.cells #[.string ⟨#[101, 110, 118]⟩, .string ⟨#[105, 110]⟩, .string ⟨#[107, 101, 101, 112]⟩, .string ⟨#[111, 110]⟩] 9)) := h.trans (ka.mono h.size)
      replace pE := pE.keep (Kp.of ka (fun b hb => by rcases hb with hb | hb; exact Nat.lt_of_lt_of_le hb.2 wE.2; exact hb.elim))
      have wE_ := wE; replace wE := And.intro wE.1 (Nat.le_trans wE.2 ka.size)
      replace pI := pI.keep (Kp.of ka (fun b hb => by rcases hb with hb | hb; exact Nat.lt_of_lt_of_le hb.2 wI.2; exact hb.elim))
      have wI_ := wI; replace wI := And.intro wI.1 (Nat.le_trans wI.2 ka.size)
      replace pO := pO.keep (Kp.of ka (fun b hb => by rcases hb with hb | hb; exact Nat.lt_of_lt_of_le hb.2 wO.2; exact hb.elim))
      have wO_ := wO; replace wO := And.intro wO.1 (Nat.le_trans wO.2 ka.size)
      replace hv := owns_belowQ hv ka
      have hk : (W.alloc (.cells #[.string ⟨#[101, 110, 118]⟩, .string ⟨#[105, 110]⟩, .string ⟨#[107, 101, 101, 112]⟩, .string ⟨#[111, 110]⟩] 9)).ownsRow 0 9 1 (.slice (some ⟨W.heap.size, 0, none⟩) 4 4) 4 (strsV ruleKeys) := owns_lo (Nat.zero_le _) (World.ownsRow_lit W (strsV ruleKeys).toArray 4 (Nat.le_refl _) (by unfold maxLen; omega) rfl)
      clear hHeld
      refine hK.out _ (W.alloc (.cells #[.string ⟨#[101, 110, 118]⟩, .string ⟨#[105, 110]⟩, .string ⟨#[107, 101, 101, 112]⟩, .string ⟨#[111, 110]⟩] 9)) ?GQ30 (fun hHeld => ?_)
      case GQ30 => exact KEEP.out _ hb2
      clear hK K
      try simp only [Act.put, List.getElem_toArray, List.getElem_cons_zero, List.getElem_cons_succ, List.setIfInBounds_toArray, List.set_cons_zero, List.set_cons_succ]
      have zk := h.size
      replace h := hb2
      have kE : W.heap.size < lE ∨ hE ≤ W.heap.size := .inr (by have := wE_.2; omega)
      have kI : W.heap.size < lI ∨ hI ≤ W.heap.size := .inr (by have := wI_.2; omega)
      have kO : W.heap.size < lO ∨ hO ≤ W.heap.size := .inr (by have := wO_.2; omega)
      obtain ⟨gk, hgk⟩ : ∃ g, g = W.heap.size := ⟨_, rfl⟩
      rw [← hgk] at hk zk kE kI kO
      try rw [← hgk]
      obtain ⟨W2, hW2⟩ : ∃ W2, W2 = W.alloc (.cells #[.string ⟨#[101, 110, 118]⟩, .string ⟨#[105, 110]⟩, .string ⟨#[107, 101, 101, 112]⟩, .string ⟨#[111, 110]⟩] 9) := ⟨_, rfl⟩
      rw [← hW2] at h hk pE wE pI wI pO wO hv
      rw [← hW2]
      clear hW2 hgk ka hb2
      have hN := N14.out W2 h gk hk zk nE qE cE lE hE pE zE wE kE nI qI cI lI hI pI zI wI kI nO qO cO lO hO pO zO wO kO gv hv zv
      rw [hΦ] at hN
      exact wpAny_at2 hN (by kernel_rfl) (by kernel_rfl)
    have N13 : Hid (∀ (W : World) (h : Below wz.heap.size wz W) (gk : Nat) (hk : W.ownsRow 0 9 1 (.slice (some ⟨gk, 0, none⟩) 4 4) 4 (strsV ruleKeys)) (zk : wz.heap.size ≤ gk) (nE : Nat) (qE : Option Addr) (cE : Nat) (lE : Nat) (hE : Nat) (pE : Part W (fun b => lE ≤ b ∧ b < hE) (fun _ => False) (.slice qE nE cE) (.slice none 0 0) (d.envs.map textT) []) (zE : wz.heap.size ≤ lE) (wE : lE ≤ hE ∧ hE ≤ W.heap.size) (kE : gk < lE ∨ hE ≤ gk) (nI : Nat) (qI : Option Addr) (cI : Nat) (lI : Nat) (hI : Nat) (pI : Part W (fun b => lI ≤ b ∧ b < hI) (fun _ => False) (.slice qI nI cI) (.slice none 0 0) (d.ins.map textT) []) (zI : hE ≤ lI) (wI : lI ≤ hI ∧ hI ≤ W.heap.size) (kI : gk < lI ∨ hI ≤ gk) (nO : Nat) (qO : Option Addr) (cO : Nat) (lO : Nat) (hO : Nat) (pO : Part W (fun b => lO ≤ b ∧ b < hO) (fun _ => False) (.slice qO nO cO) (.slice none 0 0) (d.on.map textT) []) (zO : hI ≤ lO) (wO : lO ≤ hO ∧ hO ≤ W.heap.size) (kO : gk < lO ∨ hO ≤ gk), Φ 3 #[true, true, true, true, true, true, true, true, true, true, true, false, false, false] { tmps := #[.agg #[.string d.task, .slice a0 d.on.length c0, .slice a1 d.ins.length c1, .slice a2 d.envs.length c2, .bool false], .pointer (some ⟨w.heap.size, 0, none⟩), .pointer (some ⟨w.heap.size + 1, 0, none⟩), .pointer (some ⟨w.heap.size + 1 + 1, 0, none⟩), .agg #[.int .i64 1, .int .i64 0, .string ⟨#[]⟩, .slice none 0 0, .slice none 0 0], .pointer (some ⟨w.heap.size, 4, none⟩), .bool false, undef, .slice (some ⟨gk, 0, none⟩) 4 4, .pointer (some ⟨w.heap.size, 3, none⟩), .slice a2 d.envs.length c2, .agg #[.int .i64 4, .int .i64 0, .string ⟨#[]⟩, .slice qE nE cE, .slice none 0 0], .pointer (some ⟨w.heap.size, 2, none⟩), .slice a1 d.ins.length c1, .agg #[.int .i64 4, .int .i64 0, .string ⟨#[]⟩, .slice qI nI cI, .slice none 0 0], .agg #[.int .i64 1, .int .i64 0, .string ⟨#[]⟩, .slice none 0 0, .slice none 0 0], .pointer (some ⟨w.heap.size, 1, none⟩), .slice a0 d.on.length c0, .agg #[.int .i64 4, .int .i64 0, .string ⟨#[]⟩, .slice qO nO cO, .slice none 0 0], undef, undef], defers := [] } W) := by
      intro W h gk hk zk nE qE cE lE hE pE zE wE kE nI qI cI lI hI pI zI wI kI nO qO cO lO hO pO zO wO kO
      rw [hΦ]
      have hHeld := KEEP.out W h
      refine wpAnyH_ready (rs := [11]) (by kernel_rfl) (by simp) ?_
      refine AllReadyH.cons rfl (fun K hK => ?_) AllReadyH.nil
      go_simp
      have ka : Below W.heap.size W (W.alloc (.cells #[.int .i64 4, .int .i64 0, .string ⟨#[]⟩, .slice qE nE cE, .slice none 0 0, .int .i64 4, .int .i64 0, .string ⟨#[]⟩, .slice qI nI cI, .slice none 0 0, .int .i64 1, .int .i64 0, .string ⟨#[]⟩, .slice none 0 0, .slice none 0 0, .int .i64 4, .int .i64 0, .string ⟨#[]⟩, .slice qO nO cO, .slice none 0 0] 50)) := (Below.refl _ _).alloc (Nat.le_refl _) _
      have hb2 : Below wz.heap.size wz (W.alloc (.cells #[.int .i64 4, .int .i64 0, .string ⟨#[]⟩, .slice qE nE cE, .slice none 0 0, .int .i64 4, .int .i64 0, .string ⟨#[]⟩, .slice qI nI cI, .slice none 0 0, .int .i64 1, .int .i64 0, .string ⟨#[]⟩, .slice none 0 0, .slice none 0 0, .int .i64 4, .int .i64 0, .string ⟨#[]⟩, .slice qO nO cO, .slice none 0 0] 50)) := h.trans (ka.mono h.size)
      have zv := wO.2
      replace hk := owns_belowQ hk ka
      replace pE := pE.keep (Kp.of ka (fun b hb => by rcases hb with hb | hb; exact Nat.lt_of_lt_of_le hb.2 wE.2; exact hb.elim))
      replace wE := And.intro wE.1 (Nat.le_trans wE.2 ka.size)
      replace pI := pI.keep (Kp.of ka (fun b hb => by rcases hb with hb | hb; exact Nat.lt_of_lt_of_le hb.2 wI.2; exact hb.elim))
      replace wI := And.intro wI.1 (Nat.le_trans wI.2 ka.size)
      replace pO := pO.keep (Kp.of ka (fun b hb => by rcases hb with hb | hb; exact Nat.lt_of_lt_of_le hb.2 wO.2; exact hb.elim))
      replace wO := And.intro wO.1 (Nat.le_trans wO.2 ka.size)
      have hv : (W.alloc (.cells #[.int .i64 4, .int .i64 0, .string ⟨#[]⟩, .slice qE nE cE, .slice none 0 0, .int .i64 4, .int .i64 0, .string ⟨#[]⟩, .slice qI nI cI, .slice none 0 0, .int .i64 1, .int .i64 0, .string ⟨#[]⟩, .slice none 0 0, .slice none 0 0, .int .i64 4, .int .i64 0, .string ⟨#[]⟩, .slice qO nO cO, .slice none 0 0] 50)).ownsRow 0 50 5 (.slice (some ⟨W.heap.size, 0, none⟩) 4 4) 4 [.int .i64 4, .int .i64 0, .string ⟨#[]⟩, .slice qE nE cE, .slice none 0 0, .int .i64 4, .int .i64 0, .string ⟨#[]⟩, .slice qI nI cI, .slice none 0 0, .int .i64 1, .int .i64 0, .string ⟨#[]⟩, .slice none 0 0, .slice none 0 0, .int .i64 4, .int .i64 0, .string ⟨#[]⟩, .slice qO nO cO, .slice none 0 0] := owns_lo (Nat.zero_le _) (World.ownsRow_lit W ([.int .i64 4, .int .i64 0, .string ⟨#[]⟩, .slice qE nE cE, .slice none 0 0, .int .i64 4, .int .i64 0, .string ⟨#[]⟩, .slice qI nI cI, .slice none 0 0, .int .i64 1, .int .i64 0, .string ⟨#[]⟩, .slice none 0 0, .slice none 0 0, .int .i64 4, .int .i64 0, .string ⟨#[]⟩, .slice qO nO cO, .slice none 0 0] : List Value).toArray 4 (Nat.le_refl _) (by unfold maxLen; omega) rfl)
      clear hHeld
      refine hK.out _ (W.alloc (.cells #[.int .i64 4, .int .i64 0, .string ⟨#[]⟩, .slice qE nE cE, .slice none 0 0, .int .i64 4, .int .i64 0, .string ⟨#[]⟩, .slice qI nI cI, .slice none 0 0, .int .i64 1, .int .i64 0, .string ⟨#[]⟩, .slice none 0 0, .slice none 0 0, .int .i64 4, .int .i64 0, .string ⟨#[]⟩, .slice qO nO cO, .slice none 0 0] 50)) ?GQ31 (fun hHeld => ?_)
      case GQ31 => exact KEEP.out _ hb2
      clear hK K
      try simp only [Act.put, List.getElem_toArray, List.getElem_cons_zero, List.getElem_cons_succ, List.setIfInBounds_toArray, List.set_cons_zero, List.set_cons_succ]
      replace h := hb2
      obtain ⟨gv, hgv⟩ : ∃ g, g = W.heap.size := ⟨_, rfl⟩
      rw [← hgv] at hv zv
      try rw [← hgv]
      obtain ⟨W2, hW2⟩ : ∃ W2, W2 = W.alloc (.cells #[.int .i64 4, .int .i64 0, .string ⟨#[]⟩, .slice qE nE cE, .slice none 0 0, .int .i64 4, .int .i64 0, .string ⟨#[]⟩, .slice qI nI cI, .slice none 0 0, .int .i64 1, .int .i64 0, .string ⟨#[]⟩, .slice none 0 0, .slice none 0 0, .int .i64 4, .int .i64 0, .string ⟨#[]⟩, .slice qO nO cO, .slice none 0 0] 50) := ⟨_, rfl⟩
      rw [← hW2] at h hv pE wE pI wI pO wO hk
      rw [← hW2]
      clear hW2 hgv ka hb2
      have hN := N14.out W2 h gk hk zk nE qE cE lE hE pE zE wE kE nI qI cI lI hI pI zI wI kI nO qO cO lO hO pO zO wO kO gv hv zv
      rw [hΦ] at hN
      exact wpAny_at2 hN (by kernel_rfl) (by kernel_rfl)
    have N03 : Hid (∀ (W : World) (h : Below wz.heap.size wz W) (nE : Nat) (qE : Option Addr) (cE : Nat) (lE : Nat) (hE : Nat) (pE : Part W (fun b => lE ≤ b ∧ b < hE) (fun _ => False) (.slice qE nE cE) (.slice none 0 0) (d.envs.map textT) []) (zE : wz.heap.size ≤ lE) (wE : lE ≤ hE ∧ hE ≤ W.heap.size) (nI : Nat) (qI : Option Addr) (cI : Nat) (lI : Nat) (hI : Nat) (pI : Part W (fun b => lI ≤ b ∧ b < hI) (fun _ => False) (.slice qI nI cI) (.slice none 0 0) (d.ins.map textT) []) (zI : hE ≤ lI) (wI : lI ≤ hI ∧ hI ≤ W.heap.size) (nO : Nat) (qO : Option Addr) (cO : Nat) (lO : Nat) (hO : Nat) (pO : Part W (fun b => lO ≤ b ∧ b < hO) (fun _ => False) (.slice qO nO cO) (.slice none 0 0) (d.on.map textT) []) (zO : hI ≤ lO) (wO : lO ≤ hO ∧ hO ≤ W.heap.size), Φ 4 #[false, true, true, true, true, true, true, true, true, true, true, false, false, false] { tmps := #[.agg #[.string d.task, .slice a0 d.on.length c0, .slice a1 d.ins.length c1, .slice a2 d.envs.length c2, .bool false], .pointer (some ⟨w.heap.size, 0, none⟩), .pointer (some ⟨w.heap.size + 1, 0, none⟩), .pointer (some ⟨w.heap.size + 1 + 1, 0, none⟩), .agg #[.int .i64 1, .int .i64 0, .string ⟨#[]⟩, .slice none 0 0, .slice none 0 0], .pointer (some ⟨w.heap.size, 4, none⟩), .bool false, undef, undef, .pointer (some ⟨w.heap.size, 3, none⟩), .slice a2 d.envs.length c2, .agg #[.int .i64 4, .int .i64 0, .string ⟨#[]⟩, .slice qE nE cE, .slice none 0 0], .pointer (some ⟨w.heap.size, 2, none⟩), .slice a1 d.ins.length c1, .agg #[.int .i64 4, .int .i64 0, .string ⟨#[]⟩, .slice qI nI cI, .slice none 0 0], .agg #[.int .i64 1, .int .i64 0, .string ⟨#[]⟩, .slice none 0 0, .slice none 0 0], .pointer (some ⟨w.heap.size, 1, none⟩), .slice a0 d.on.length c0, .agg #[.int .i64 4, .int .i64 0, .string ⟨#[]⟩, .slice qO nO cO, .slice none 0 0], undef, undef], defers := [] } W) := by
      intro W h nE qE cE lE hE pE zE wE nI qI cI lI hI pI zI wI nO qO cO lO hO pO zO wO
      rw [hΦ]
      have hHeld := KEEP.out W h
      refine wpAnyH_ready (rs := [0, 11]) (by kernel_rfl) (by simp) ?_
      refine AllReadyH.cons rfl (fun K hK => ?_) (AllReadyH.cons rfl (fun K hK => ?_) AllReadyH.nil)
      · go_simp
        have ka : Below W.heap.size W (W.alloc (.cells #[.string ⟨#[101, 110, 118]⟩, .string ⟨#[105, 110]⟩, .string ⟨#[107, 101, 101, 112]⟩, .string ⟨#[111, 110]⟩] 9)) := (Below.refl _ _).alloc (Nat.le_refl _) _
        have hb2 : Below wz.heap.size wz (W.alloc (.cells #[.string ⟨#[101, 110, 118]⟩, .string ⟨#[105, 110]⟩, .string ⟨#[107, 101, 101, 112]⟩, .string ⟨#[111, 110]⟩] 9)) := h.trans (ka.mono h.size)
        replace pE := pE.keep (Kp.of ka (fun b hb => by rcases hb with hb | hb; exact Nat.lt_of_lt_of_le hb.2 wE.2; exact hb.elim))
        have wE_ := wE; replace wE := And.intro wE.1 (Nat.le_trans wE.2 ka.size)
        replace pI := pI.keep (Kp.of ka (fun b hb => by rcases hb with hb | hb; exact Nat.lt_of_lt_of_le hb.2 wI.2; exact hb.elim))
        have wI_ := wI; replace wI := And.intro wI.1 (Nat.le_trans wI.2 ka.size)
        replace pO := pO.keep (Kp.of ka (fun b hb => by rcases hb with hb | hb; exact Nat.lt_of_lt_of_le hb.2 wO.2; exact hb.elim))
        have wO_ := wO; replace wO := And.intro wO.1 (Nat.le_trans wO.2 ka.size)
        have hk : (W.alloc (.cells #[.string ⟨#[101, 110, 118]⟩, .string ⟨#[105, 110]⟩, .string ⟨#[107, 101, 101, 112]⟩, .string ⟨#[111, 110]⟩] 9)).ownsRow 0 9 1 (.slice (some ⟨W.heap.size, 0, none⟩) 4 4) 4 (strsV ruleKeys) := owns_lo (Nat.zero_le _) (World.ownsRow_lit W (strsV ruleKeys).toArray 4 (Nat.le_refl _) (by unfold maxLen; omega) rfl)
        clear hHeld
        refine hK.out _ (W.alloc (.cells #[.string ⟨#[101, 110, 118]⟩, .string ⟨#[105, 110]⟩, .string ⟨#[107, 101, 101, 112]⟩, .string ⟨#[111, 110]⟩] 9)) ?GQ32 (fun hHeld => ?_)
        case GQ32 => exact KEEP.out _ hb2
        clear hK K
        try simp only [Act.put, List.getElem_toArray, List.getElem_cons_zero, List.getElem_cons_succ, List.setIfInBounds_toArray, List.set_cons_zero, List.set_cons_succ]
        have zk := h.size
        replace h := hb2
        have kE : W.heap.size < lE ∨ hE ≤ W.heap.size := .inr (by have := wE_.2; omega)
        have kI : W.heap.size < lI ∨ hI ≤ W.heap.size := .inr (by have := wI_.2; omega)
        have kO : W.heap.size < lO ∨ hO ≤ W.heap.size := .inr (by have := wO_.2; omega)
        obtain ⟨gk, hgk⟩ : ∃ g, g = W.heap.size := ⟨_, rfl⟩
        rw [← hgk] at hk zk kE kI kO
        try rw [← hgk]
        obtain ⟨W2, hW2⟩ : ∃ W2, W2 = W.alloc (.cells #[.string ⟨#[101, 110, 118]⟩, .string ⟨#[105, 110]⟩, .string ⟨#[107, 101, 101, 112]⟩, .string ⟨#[111, 110]⟩] 9) := ⟨_, rfl⟩
        rw [← hW2] at h hk pE wE pI wI pO wO
        rw [← hW2]
        clear hW2 hgk ka hb2
        have hN := N13.out W2 h gk hk zk nE qE cE lE hE pE zE wE kE nI qI cI lI hI pI zI wI kI nO qO cO lO hO pO zO wO kO
        rw [hΦ] at hN
        exact wpAny_at2 hN (by kernel_rfl) (by kernel_rfl)
      · go_simp
        have ka : Below W.heap.size W (W.alloc (.cells #[.int .i64 4, .int .i64 0, .string ⟨#[]⟩, .slice qE nE cE, .slice none 0 0, .int .i64 4, .int .i64 0, .string ⟨#[]⟩, .slice qI nI cI, .slice none 0 0, .int .i64 1, .int .i64 0, .string ⟨#[]⟩, .slice none 0 0, .slice none 0 0, .int .i64 4, .int .i64 0, .string ⟨#[]⟩, .slice qO nO cO, .slice none 0 0] 50)) := (Below.refl _ _).alloc (Nat.le_refl _) _
        have hb2 : Below wz.heap.size wz (W.alloc (.cells #[.int .i64 4, .int .i64 0, .string ⟨#[]⟩, .slice qE nE cE, .slice none 0 0, .int .i64 4, .int .i64 0, .string ⟨#[]⟩, .slice qI nI cI, .slice none 0 0, .int .i64 1, .int .i64 0, .string ⟨#[]⟩, .slice none 0 0, .slice none 0 0, .int .i64 4, .int .i64 0, .string ⟨#[]⟩, .slice qO nO cO, .slice none 0 0] 50)) := h.trans (ka.mono h.size)
        have zv := wO.2
        replace pE := pE.keep (Kp.of ka (fun b hb => by rcases hb with hb | hb; exact Nat.lt_of_lt_of_le hb.2 wE.2; exact hb.elim))
        replace wE := And.intro wE.1 (Nat.le_trans wE.2 ka.size)
        replace pI := pI.keep (Kp.of ka (fun b hb => by rcases hb with hb | hb; exact Nat.lt_of_lt_of_le hb.2 wI.2; exact hb.elim))
        replace wI := And.intro wI.1 (Nat.le_trans wI.2 ka.size)
        replace pO := pO.keep (Kp.of ka (fun b hb => by rcases hb with hb | hb; exact Nat.lt_of_lt_of_le hb.2 wO.2; exact hb.elim))
        replace wO := And.intro wO.1 (Nat.le_trans wO.2 ka.size)
        have hv : (W.alloc (.cells #[.int .i64 4, .int .i64 0, .string ⟨#[]⟩, .slice qE nE cE, .slice none 0 0, .int .i64 4, .int .i64 0, .string ⟨#[]⟩, .slice qI nI cI, .slice none 0 0, .int .i64 1, .int .i64 0, .string ⟨#[]⟩, .slice none 0 0, .slice none 0 0, .int .i64 4, .int .i64 0, .string ⟨#[]⟩, .slice qO nO cO, .slice none 0 0] 50)).ownsRow 0 50 5 (.slice (some ⟨W.heap.size, 0, none⟩) 4 4) 4 [.int .i64 4, .int .i64 0, .string ⟨#[]⟩, .slice qE nE cE, .slice none 0 0, .int .i64 4, .int .i64 0, .string ⟨#[]⟩, .slice qI nI cI, .slice none 0 0, .int .i64 1, .int .i64 0, .string ⟨#[]⟩, .slice none 0 0, .slice none 0 0, .int .i64 4, .int .i64 0, .string ⟨#[]⟩, .slice qO nO cO, .slice none 0 0] := owns_lo (Nat.zero_le _) (World.ownsRow_lit W ([.int .i64 4, .int .i64 0, .string ⟨#[]⟩, .slice qE nE cE, .slice none 0 0, .int .i64 4, .int .i64 0, .string ⟨#[]⟩, .slice qI nI cI, .slice none 0 0, .int .i64 1, .int .i64 0, .string ⟨#[]⟩, .slice none 0 0, .slice none 0 0, .int .i64 4, .int .i64 0, .string ⟨#[]⟩, .slice qO nO cO, .slice none 0 0] : List Value).toArray 4 (Nat.le_refl _) (by unfold maxLen; omega) rfl)
        clear hHeld
        refine hK.out _ (W.alloc (.cells #[.int .i64 4, .int .i64 0, .string ⟨#[]⟩, .slice qE nE cE, .slice none 0 0, .int .i64 4, .int .i64 0, .string ⟨#[]⟩, .slice qI nI cI, .slice none 0 0, .int .i64 1, .int .i64 0, .string ⟨#[]⟩, .slice none 0 0, .slice none 0 0, .int .i64 4, .int .i64 0, .string ⟨#[]⟩, .slice qO nO cO, .slice none 0 0] 50)) ?GQ33 (fun hHeld => ?_)
        case GQ33 => exact KEEP.out _ hb2
        clear hK K
        try simp only [Act.put, List.getElem_toArray, List.getElem_cons_zero, List.getElem_cons_succ, List.setIfInBounds_toArray, List.set_cons_zero, List.set_cons_succ]
        replace h := hb2
        obtain ⟨gv, hgv⟩ : ∃ g, g = W.heap.size := ⟨_, rfl⟩
        rw [← hgv] at hv zv
        try rw [← hgv]
        obtain ⟨W2, hW2⟩ : ∃ W2, W2 = W.alloc (.cells #[.int .i64 4, .int .i64 0, .string ⟨#[]⟩, .slice qE nE cE, .slice none 0 0, .int .i64 4, .int .i64 0, .string ⟨#[]⟩, .slice qI nI cI, .slice none 0 0, .int .i64 1, .int .i64 0, .string ⟨#[]⟩, .slice none 0 0, .slice none 0 0, .int .i64 4, .int .i64 0, .string ⟨#[]⟩, .slice qO nO cO, .slice none 0 0] 50) := ⟨_, rfl⟩
        rw [← hW2] at h hv pE wE pI wI pO wO
        rw [← hW2]
        clear hW2 hgv ka hb2
        have hN := N04.out W2 h nE qE cE lE hE pE zE wE nI qI cI lI hI pI zI wI nO qO cO lO hO pO zO wO gv hv zv
        rw [hΦ] at hN
        exact wpAny_at2 hN (by kernel_rfl) (by kernel_rfl)
    have N12 : Hid (∀ (W : World) (h : Below wz.heap.size wz W) (gk : Nat) (hk : W.ownsRow 0 9 1 (.slice (some ⟨gk, 0, none⟩) 4 4) 4 (strsV ruleKeys)) (zk : wz.heap.size ≤ gk) (nE : Nat) (qE : Option Addr) (cE : Nat) (lE : Nat) (hE : Nat) (pE : Part W (fun b => lE ≤ b ∧ b < hE) (fun _ => False) (.slice qE nE cE) (.slice none 0 0) (d.envs.map textT) []) (zE : wz.heap.size ≤ lE) (wE : lE ≤ hE ∧ hE ≤ W.heap.size) (kE : gk < lE ∨ hE ≤ gk) (nI : Nat) (qI : Option Addr) (cI : Nat) (lI : Nat) (hI : Nat) (pI : Part W (fun b => lI ≤ b ∧ b < hI) (fun _ => False) (.slice qI nI cI) (.slice none 0 0) (d.ins.map textT) []) (zI : hE ≤ lI) (wI : lI ≤ hI ∧ hI ≤ W.heap.size) (kI : gk < lI ∨ hI ≤ gk), Φ 4 #[true, true, true, true, true, true, true, true, true, true, false, false, false, false] { tmps := #[.agg #[.string d.task, .slice a0 d.on.length c0, .slice a1 d.ins.length c1, .slice a2 d.envs.length c2, .bool false], .pointer (some ⟨w.heap.size, 0, none⟩), .pointer (some ⟨w.heap.size + 1, 0, none⟩), .pointer (some ⟨w.heap.size + 1 + 1, 0, none⟩), .agg #[.int .i64 1, .int .i64 0, .string ⟨#[]⟩, .slice none 0 0, .slice none 0 0], .pointer (some ⟨w.heap.size, 4, none⟩), .bool false, undef, .slice (some ⟨gk, 0, none⟩) 4 4, .pointer (some ⟨w.heap.size, 3, none⟩), .slice a2 d.envs.length c2, .agg #[.int .i64 4, .int .i64 0, .string ⟨#[]⟩, .slice qE nE cE, .slice none 0 0], .pointer (some ⟨w.heap.size, 2, none⟩), .slice a1 d.ins.length c1, .agg #[.int .i64 4, .int .i64 0, .string ⟨#[]⟩, .slice qI nI cI, .slice none 0 0], .agg #[.int .i64 1, .int .i64 0, .string ⟨#[]⟩, .slice none 0 0, .slice none 0 0], .pointer (some ⟨w.heap.size, 1, none⟩), .slice a0 d.on.length c0, undef, undef, undef], defers := [] } W) := by
      intro W h gk hk zk nE qE cE lE hE pE zE wE kE nI qI cI lI hI pI zI wI kI
      rw [hΦ]
      have hHeld := KEEP.out W h
      refine wpAnyH_ready (rs := [10]) (by kernel_rfl) (by simp) ?_
      refine AllReadyH.cons rfl (fun K hK => ?_) AllReadyH.nil
      go_simp
      go_wp2_with (go_at_call 61; refine (T0.out _ (hwz.trans (h.mono (by omega)))).mono ?_; rintro e W2 ⟨nO, qO, cO, rfl, pO, bx⟩)
      have hb2 : Below wz.heap.size wz W2 := h.trans (bx.mono h.size)
      have zO := wI.2
      have wO : W.heap.size ≤ W2.heap.size ∧ W2.heap.size ≤ W2.heap.size := ⟨bx.size, Nat.le_refl _⟩
      have kO : gk < W.heap.size ∨ W2.heap.size ≤ gk := .inl (owns_in hk gk rfl).2
      replace hk := owns_belowQ hk bx
      replace pE := pE.keep (Kp.of bx (fun b hb => by rcases hb with hb | hb; exact Nat.lt_of_lt_of_le hb.2 wE.2; exact hb.elim))
      replace wE := And.intro wE.1 (Nat.le_trans wE.2 bx.size)
      replace pI := pI.keep (Kp.of bx (fun b hb => by rcases hb with hb | hb; exact Nat.lt_of_lt_of_le hb.2 wI.2; exact hb.elim))
      replace wI := And.intro wI.1 (Nat.le_trans wI.2 bx.size)
      clear hHeld
      refine hK.out _ _ ?GQ34 (fun hHeld => ?_)
      case GQ34 => exact KEEP.out _ hb2
      clear hK K
      try simp only [Act.put, List.getElem_toArray, List.getElem_cons_zero, List.getElem_cons_succ, List.setIfInBounds_toArray, List.set_cons_zero, List.set_cons_succ]
      replace h := hb2
      have hN := N13.out W2 h gk hk zk nE qE cE lE hE pE zE wE kE nI qI cI lI hI pI zI wI kI nO qO cO W.heap.size W2.heap.size pO zO wO kO
      rw [hΦ] at hN
      exact wpAny_at2 hN (by kernel_rfl) (by kernel_rfl)
    have N02 : Hid (∀ (W : World) (h : Below wz.heap.size wz W) (nE : Nat) (qE : Option Addr) (cE : Nat) (lE : Nat) (hE : Nat) (pE : Part W (fun b => lE ≤ b ∧ b < hE) (fun _ => False) (.slice qE nE cE) (.slice none 0 0) (d.envs.map textT) []) (zE : wz.heap.size ≤ lE) (wE : lE ≤ hE ∧ hE ≤ W.heap.size) (nI : Nat) (qI : Option Addr) (cI : Nat) (lI : Nat) (hI : Nat) (pI : Part W (fun b => lI ≤ b ∧ b < hI) (fun _ => False) (.slice qI nI cI) (.slice none 0 0) (d.ins.map textT) []) (zI : hE ≤ lI) (wI : lI ≤ hI ∧ hI ≤ W.heap.size), Φ 5 #[false, true, true, true, true, true, true, true, true, true, false, false, false, false] { tmps := #[.agg #[.string d.task, .slice a0 d.on.length c0, .slice a1 d.ins.length c1, .slice a2 d.envs.length c2, .bool false], .pointer (some ⟨w.heap.size, 0, none⟩), .pointer (some ⟨w.heap.size + 1, 0, none⟩), .pointer (some ⟨w.heap.size + 1 + 1, 0, none⟩), .agg #[.int .i64 1, .int .i64 0, .string ⟨#[]⟩, .slice none 0 0, .slice none 0 0], .pointer (some ⟨w.heap.size, 4, none⟩), .bool false, undef, undef, .pointer (some ⟨w.heap.size, 3, none⟩), .slice a2 d.envs.length c2, .agg #[.int .i64 4, .int .i64 0, .string ⟨#[]⟩, .slice qE nE cE, .slice none 0 0], .pointer (some ⟨w.heap.size, 2, none⟩), .slice a1 d.ins.length c1, .agg #[.int .i64 4, .int .i64 0, .string ⟨#[]⟩, .slice qI nI cI, .slice none 0 0], .agg #[.int .i64 1, .int .i64 0, .string ⟨#[]⟩, .slice none 0 0, .slice none 0 0], .pointer (some ⟨w.heap.size, 1, none⟩), .slice a0 d.on.length c0, undef, undef, undef], defers := [] } W) := by
      intro W h nE qE cE lE hE pE zE wE nI qI cI lI hI pI zI wI
      rw [hΦ]
      have hHeld := KEEP.out W h
      refine wpAnyH_ready (rs := [0, 10]) (by kernel_rfl) (by simp) ?_
      refine AllReadyH.cons rfl (fun K hK => ?_) (AllReadyH.cons rfl (fun K hK => ?_) AllReadyH.nil)
      · go_simp
        have ka : Below W.heap.size W (W.alloc (.cells #[.string ⟨#[101, 110, 118]⟩, .string ⟨#[105, 110]⟩, .string ⟨#[107, 101, 101, 112]⟩, .string ⟨#[111, 110]⟩] 9)) := (Below.refl _ _).alloc (Nat.le_refl _) _
        have hb2 : Below wz.heap.size wz (W.alloc (.cells #[.string ⟨#[101, 110, 118]⟩, .string ⟨#[105, 110]⟩, .string ⟨#[107, 101, 101, 112]⟩, .string ⟨#[111, 110]⟩] 9)) := h.trans (ka.mono h.size)
        replace pE := pE.keep (Kp.of ka (fun b hb => by rcases hb with hb | hb; exact Nat.lt_of_lt_of_le hb.2 wE.2; exact hb.elim))
        have wE_ := wE; replace wE := And.intro wE.1 (Nat.le_trans wE.2 ka.size)
        replace pI := pI.keep (Kp.of ka (fun b hb => by rcases hb with hb | hb; exact Nat.lt_of_lt_of_le hb.2 wI.2; exact hb.elim))
        have wI_ := wI; replace wI := And.intro wI.1 (Nat.le_trans wI.2 ka.size)
        have hk : (W.alloc (.cells #[.string ⟨#[101, 110, 118]⟩, .string ⟨#[105, 110]⟩, .string ⟨#[107, 101, 101, 112]⟩, .string ⟨#[111, 110]⟩] 9)).ownsRow 0 9 1 (.slice (some ⟨W.heap.size, 0, none⟩) 4 4) 4 (strsV ruleKeys) := owns_lo (Nat.zero_le _) (World.ownsRow_lit W (strsV ruleKeys).toArray 4 (Nat.le_refl _) (by unfold maxLen; omega) rfl)
        clear hHeld
        refine hK.out _ (W.alloc (.cells #[.string ⟨#[101, 110, 118]⟩, .string ⟨#[105, 110]⟩, .string ⟨#[107, 101, 101, 112]⟩, .string ⟨#[111, 110]⟩] 9)) ?GQ35 (fun hHeld => ?_)
        case GQ35 => exact KEEP.out _ hb2
        clear hK K
        try simp only [Act.put, List.getElem_toArray, List.getElem_cons_zero, List.getElem_cons_succ, List.setIfInBounds_toArray, List.set_cons_zero, List.set_cons_succ]
        have zk := h.size
        replace h := hb2
        have kE : W.heap.size < lE ∨ hE ≤ W.heap.size := .inr (by have := wE_.2; omega)
        have kI : W.heap.size < lI ∨ hI ≤ W.heap.size := .inr (by have := wI_.2; omega)
        obtain ⟨gk, hgk⟩ : ∃ g, g = W.heap.size := ⟨_, rfl⟩
        rw [← hgk] at hk zk kE kI
        try rw [← hgk]
        obtain ⟨W2, hW2⟩ : ∃ W2, W2 = W.alloc (.cells #[.string ⟨#[101, 110, 118]⟩, .string ⟨#[105, 110]⟩, .string ⟨#[107, 101, 101, 112]⟩, .string ⟨#[111, 110]⟩] 9) := ⟨_, rfl⟩
        rw [← hW2] at h hk pE wE pI wI
        rw [← hW2]
        clear hW2 hgk ka hb2
        have hN := N12.out W2 h gk hk zk nE qE cE lE hE pE zE wE kE nI qI cI lI hI pI zI wI kI
        rw [hΦ] at hN
        exact wpAny_at2 hN (by kernel_rfl) (by kernel_rfl)
      · go_simp
        go_wp2_with (go_at_call 61; refine (T0.out _ (hwz.trans (h.mono (by omega)))).mono ?_; rintro e W2 ⟨nO, qO, cO, rfl, pO, bx⟩)
        have hb2 : Below wz.heap.size wz W2 := h.trans (bx.mono h.size)
        have zO := wI.2
        have wO : W.heap.size ≤ W2.heap.size ∧ W2.heap.size ≤ W2.heap.size := ⟨bx.size, Nat.le_refl _⟩
        replace pE := pE.keep (Kp.of bx (fun b hb => by rcases hb with hb | hb; exact Nat.lt_of_lt_of_le hb.2 wE.2; exact hb.elim))
        replace wE := And.intro wE.1 (Nat.le_trans wE.2 bx.size)
        replace pI := pI.keep (Kp.of bx (fun b hb => by rcases hb with hb | hb; exact Nat.lt_of_lt_of_le hb.2 wI.2; exact hb.elim))
        replace wI := And.intro wI.1 (Nat.le_trans wI.2 bx.size)
        clear hHeld
        refine hK.out _ _ ?GQ36 (fun hHeld => ?_)
        case GQ36 => exact KEEP.out _ hb2
        clear hK K
        try simp only [Act.put, List.getElem_toArray, List.getElem_cons_zero, List.getElem_cons_succ, List.setIfInBounds_toArray, List.set_cons_zero, List.set_cons_succ]
        replace h := hb2
        have hN := N03.out W2 h nE qE cE lE hE pE zE wE nI qI cI lI hI pI zI wI nO qO cO W.heap.size W2.heap.size pO zO wO
        rw [hΦ] at hN
        exact wpAny_at2 hN (by kernel_rfl) (by kernel_rfl)
    have N11 : Hid (∀ (W : World) (h : Below wz.heap.size wz W) (gk : Nat) (hk : W.ownsRow 0 9 1 (.slice (some ⟨gk, 0, none⟩) 4 4) 4 (strsV ruleKeys)) (zk : wz.heap.size ≤ gk) (nE : Nat) (qE : Option Addr) (cE : Nat) (lE : Nat) (hE : Nat) (pE : Part W (fun b => lE ≤ b ∧ b < hE) (fun _ => False) (.slice qE nE cE) (.slice none 0 0) (d.envs.map textT) []) (zE : wz.heap.size ≤ lE) (wE : lE ≤ hE ∧ hE ≤ W.heap.size) (kE : gk < lE ∨ hE ≤ gk), Φ 5 #[true, true, true, true, true, true, false, true, true, true, false, false, false, false] { tmps := #[.agg #[.string d.task, .slice a0 d.on.length c0, .slice a1 d.ins.length c1, .slice a2 d.envs.length c2, .bool false], .pointer (some ⟨w.heap.size, 0, none⟩), .pointer (some ⟨w.heap.size + 1, 0, none⟩), .pointer (some ⟨w.heap.size + 1 + 1, 0, none⟩), .agg #[.int .i64 1, .int .i64 0, .string ⟨#[]⟩, .slice none 0 0, .slice none 0 0], .pointer (some ⟨w.heap.size, 4, none⟩), .bool false, undef, .slice (some ⟨gk, 0, none⟩) 4 4, .pointer (some ⟨w.heap.size, 3, none⟩), .slice a2 d.envs.length c2, .agg #[.int .i64 4, .int .i64 0, .string ⟨#[]⟩, .slice qE nE cE, .slice none 0 0], .pointer (some ⟨w.heap.size, 2, none⟩), .slice a1 d.ins.length c1, undef, .agg #[.int .i64 1, .int .i64 0, .string ⟨#[]⟩, .slice none 0 0, .slice none 0 0], .pointer (some ⟨w.heap.size, 1, none⟩), .slice a0 d.on.length c0, undef, undef, undef], defers := [] } W) := by
      intro W h gk hk zk nE qE cE lE hE pE zE wE kE
      rw [hΦ]
      have hHeld := KEEP.out W h
      refine wpAnyH_ready (rs := [6]) (by kernel_rfl) (by simp) ?_
      refine AllReadyH.cons rfl (fun K hK => ?_) AllReadyH.nil
      go_simp
      go_wp2_with (go_at_call 61; refine (T1.out _ (hwz.trans (h.mono (by omega)))).mono ?_; rintro e W2 ⟨nI, qI, cI, rfl, pI, bx⟩)
      have hb2 : Below wz.heap.size wz W2 := h.trans (bx.mono h.size)
      have zI := wE.2
      have wI : W.heap.size ≤ W2.heap.size ∧ W2.heap.size ≤ W2.heap.size := ⟨bx.size, Nat.le_refl _⟩
      have kI : gk < W.heap.size ∨ W2.heap.size ≤ gk := .inl (owns_in hk gk rfl).2
      replace hk := owns_belowQ hk bx
      replace pE := pE.keep (Kp.of bx (fun b hb => by rcases hb with hb | hb; exact Nat.lt_of_lt_of_le hb.2 wE.2; exact hb.elim))
      replace wE := And.intro wE.1 (Nat.le_trans wE.2 bx.size)
      clear hHeld
      refine hK.out _ _ ?GQ37 (fun hHeld => ?_)
      case GQ37 => exact KEEP.out _ hb2
      clear hK K
      try simp only [Act.put, List.getElem_toArray, List.getElem_cons_zero, List.getElem_cons_succ, List.setIfInBounds_toArray, List.set_cons_zero, List.set_cons_succ]
      replace h := hb2
      have hN := N12.out W2 h gk hk zk nE qE cE lE hE pE zE wE kE nI qI cI W.heap.size W2.heap.size pI zI wI kI
      rw [hΦ] at hN
      exact wpAny_at2 hN (by kernel_rfl) (by kernel_rfl)
    have N01 : Hid (∀ (W : World) (h : Below wz.heap.size wz W) (nE : Nat) (qE : Option Addr) (cE : Nat) (lE : Nat) (hE : Nat) (pE : Part W (fun b => lE ≤ b ∧ b < hE) (fun _ => False) (.slice qE nE cE) (.slice none 0 0) (d.envs.map textT) []) (zE : wz.heap.size ≤ lE) (wE : lE ≤ hE ∧ hE ≤ W.heap.size), Φ 6 #[false, true, true, true, true, true, false, true, true, true, false, false, false, false] { tmps := #[.agg #[.string d.task, .slice a0 d.on.length c0, .slice a1 d.ins.length c1, .slice a2 d.envs.length c2, .bool false], .pointer (some ⟨w.heap.size, 0, none⟩), .pointer (some ⟨w.heap.size + 1, 0, none⟩), .pointer (some ⟨w.heap.size + 1 + 1, 0, none⟩), .agg #[.int .i64 1, .int .i64 0, .string ⟨#[]⟩, .slice none 0 0, .slice none 0 0], .pointer (some ⟨w.heap.size, 4, none⟩), .bool false, undef, undef, .pointer (some ⟨w.heap.size, 3, none⟩), .slice a2 d.envs.length c2, .agg #[.int .i64 4, .int .i64 0, .string ⟨#[]⟩, .slice qE nE cE, .slice none 0 0], .pointer (some ⟨w.heap.size, 2, none⟩), .slice a1 d.ins.length c1, undef, .agg #[.int .i64 1, .int .i64 0, .string ⟨#[]⟩, .slice none 0 0, .slice none 0 0], .pointer (some ⟨w.heap.size, 1, none⟩), .slice a0 d.on.length c0, undef, undef, undef], defers := [] } W) := by
      intro W h nE qE cE lE hE pE zE wE
      rw [hΦ]
      have hHeld := KEEP.out W h
      refine wpAnyH_ready (rs := [0, 6]) (by kernel_rfl) (by simp) ?_
      refine AllReadyH.cons rfl (fun K hK => ?_) (AllReadyH.cons rfl (fun K hK => ?_) AllReadyH.nil)
      · go_simp
        have ka : Below W.heap.size W (W.alloc (.cells #[.string ⟨#[101, 110, 118]⟩, .string ⟨#[105, 110]⟩, .string ⟨#[107, 101, 101, 112]⟩, .string ⟨#[111, 110]⟩] 9)) := (Below.refl _ _).alloc (Nat.le_refl _) _
        have hb2 : Below wz.heap.size wz (W.alloc (.cells #[.string ⟨#[101, 110, 118]⟩, .string ⟨#[105, 110]⟩, .string ⟨#[107, 101, 101, 112]⟩, .string ⟨#[111, 110]⟩] 9)) := h.trans (ka.mono h.size)
        replace pE := pE.keep (Kp.of ka (fun b hb => by rcases hb with hb | hb; exact Nat.lt_of_lt_of_le hb.2 wE.2; exact hb.elim))
        have wE_ := wE; replace wE := And.intro wE.1 (Nat.le_trans wE.2 ka.size)
        have hk : (W.alloc (.cells #[.string ⟨#[101, 110, 118]⟩, .string ⟨#[105, 110]⟩, .string ⟨#[107, 101, 101, 112]⟩, .string ⟨#[111, 110]⟩] 9)).ownsRow 0 9 1 (.slice (some ⟨W.heap.size, 0, none⟩) 4 4) 4 (strsV ruleKeys) := owns_lo (Nat.zero_le _) (World.ownsRow_lit W (strsV ruleKeys).toArray 4 (Nat.le_refl _) (by unfold maxLen; omega) rfl)
        clear hHeld
        refine hK.out _ (W.alloc (.cells #[.string ⟨#[101, 110, 118]⟩, .string ⟨#[105, 110]⟩, .string ⟨#[107, 101, 101, 112]⟩, .string ⟨#[111, 110]⟩] 9)) ?GQ38 (fun hHeld => ?_)
        case GQ38 => exact KEEP.out _ hb2
        clear hK K
        try simp only [Act.put, List.getElem_toArray, List.getElem_cons_zero, List.getElem_cons_succ, List.setIfInBounds_toArray, List.set_cons_zero, List.set_cons_succ]
        have zk := h.size
        replace h := hb2
        have kE : W.heap.size < lE ∨ hE ≤ W.heap.size := .inr (by have := wE_.2; omega)
        obtain ⟨gk, hgk⟩ : ∃ g, g = W.heap.size := ⟨_, rfl⟩
        rw [← hgk] at hk zk kE
        try rw [← hgk]
        obtain ⟨W2, hW2⟩ : ∃ W2, W2 = W.alloc (.cells #[.string ⟨#[101, 110, 118]⟩, .string ⟨#[105, 110]⟩, .string ⟨#[107, 101, 101, 112]⟩, .string ⟨#[111, 110]⟩] 9) := ⟨_, rfl⟩
        rw [← hW2] at h hk pE wE
        rw [← hW2]
        clear hW2 hgk ka hb2
        have hN := N11.out W2 h gk hk zk nE qE cE lE hE pE zE wE kE
        rw [hΦ] at hN
        exact wpAny_at2 hN (by kernel_rfl) (by kernel_rfl)
      · go_simp
        go_wp2_with (go_at_call 61; refine (T1.out _ (hwz.trans (h.mono (by omega)))).mono ?_; rintro e W2 ⟨nI, qI, cI, rfl, pI, bx⟩)
        have hb2 : Below wz.heap.size wz W2 := h.trans (bx.mono h.size)
        have zI := wE.2
        have wI : W.heap.size ≤ W2.heap.size ∧ W2.heap.size ≤ W2.heap.size := ⟨bx.size, Nat.le_refl _⟩
        replace pE := pE.keep (Kp.of bx (fun b hb => by rcases hb with hb | hb; exact Nat.lt_of_lt_of_le hb.2 wE.2; exact hb.elim))
        replace wE := And.intro wE.1 (Nat.le_trans wE.2 bx.size)
        clear hHeld
        refine hK.out _ _ ?GQ39 (fun hHeld => ?_)
        case GQ39 => exact KEEP.out _ hb2
        clear hK K
        try simp only [Act.put, List.getElem_toArray, List.getElem_cons_zero, List.getElem_cons_succ, List.setIfInBounds_toArray, List.set_cons_zero, List.set_cons_succ]
        replace h := hb2
        have hN := N02.out W2 h nE qE cE lE hE pE zE wE nI qI cI W.heap.size W2.heap.size pI zI wI
        rw [hΦ] at hN
        exact wpAny_at2 hN (by kernel_rfl) (by kernel_rfl)
    have N10 : Hid (∀ (W : World) (h : Below wz.heap.size wz W) (gk : Nat) (hk : W.ownsRow 0 9 1 (.slice (some ⟨gk, 0, none⟩) 4 4) 4 (strsV ruleKeys)) (zk : wz.heap.size ≤ gk), Φ 6 #[true, true, true, false, true, true, false, true, true, true, false, false, false, false] { tmps := #[.agg #[.string d.task, .slice a0 d.on.length c0, .slice a1 d.ins.length c1, .slice a2 d.envs.length c2, .bool false], .pointer (some ⟨w.heap.size, 0, none⟩), .pointer (some ⟨w.heap.size + 1, 0, none⟩), .pointer (some ⟨w.heap.size + 1 + 1, 0, none⟩), .agg #[.int .i64 1, .int .i64 0, .string ⟨#[]⟩, .slice none 0 0, .slice none 0 0], .pointer (some ⟨w.heap.size, 4, none⟩), .bool false, undef, .slice (some ⟨gk, 0, none⟩) 4 4, .pointer (some ⟨w.heap.size, 3, none⟩), .slice a2 d.envs.length c2, undef, .pointer (some ⟨w.heap.size, 2, none⟩), .slice a1 d.ins.length c1, undef, .agg #[.int .i64 1, .int .i64 0, .string ⟨#[]⟩, .slice none 0 0, .slice none 0 0], .pointer (some ⟨w.heap.size, 1, none⟩), .slice a0 d.on.length c0, undef, undef, undef], defers := [] } W) := by
      intro W h gk hk zk
      rw [hΦ]
      have hHeld := KEEP.out W h
      refine wpAnyH_ready (rs := [3]) (by kernel_rfl) (by simp) ?_
      refine AllReadyH.cons rfl (fun K hK => ?_) AllReadyH.nil
      go_simp
      go_wp2_with (go_at_call 61; refine (T2.out _ (hwz.trans (h.mono (by omega)))).mono ?_; rintro e W2 ⟨nE, qE, cE, rfl, pE, bx⟩)
      have hb2 : Below wz.heap.size wz W2 := h.trans (bx.mono h.size)
      have zE := h.size
      have wE : W.heap.size ≤ W2.heap.size ∧ W2.heap.size ≤ W2.heap.size := ⟨bx.size, Nat.le_refl _⟩
      have kE : gk < W.heap.size ∨ W2.heap.size ≤ gk := .inl (owns_in hk gk rfl).2
      replace hk := owns_belowQ hk bx
      clear hHeld
      refine hK.out _ _ ?GQ40 (fun hHeld => ?_)
      case GQ40 => exact KEEP.out _ hb2
      clear hK K
      try simp only [Act.put, List.getElem_toArray, List.getElem_cons_zero, List.getElem_cons_succ, List.setIfInBounds_toArray, List.set_cons_zero, List.set_cons_succ]
      replace h := hb2
      have hN := N11.out W2 h gk hk zk nE qE cE W.heap.size W2.heap.size pE zE wE kE
      rw [hΦ] at hN
      exact wpAny_at2 hN (by kernel_rfl) (by kernel_rfl)
    have N00 : Hid (∀ (W : World) (h : Below wz.heap.size wz W), Φ 7 #[false, true, true, false, true, true, false, true, true, true, false, false, false, false] { tmps := #[.agg #[.string d.task, .slice a0 d.on.length c0, .slice a1 d.ins.length c1, .slice a2 d.envs.length c2, .bool false], .pointer (some ⟨w.heap.size, 0, none⟩), .pointer (some ⟨w.heap.size + 1, 0, none⟩), .pointer (some ⟨w.heap.size + 1 + 1, 0, none⟩), .agg #[.int .i64 1, .int .i64 0, .string ⟨#[]⟩, .slice none 0 0, .slice none 0 0], .pointer (some ⟨w.heap.size, 4, none⟩), .bool false, undef, undef, .pointer (some ⟨w.heap.size, 3, none⟩), .slice a2 d.envs.length c2, undef, .pointer (some ⟨w.heap.size, 2, none⟩), .slice a1 d.ins.length c1, undef, .agg #[.int .i64 1, .int .i64 0, .string ⟨#[]⟩, .slice none 0 0, .slice none 0 0], .pointer (some ⟨w.heap.size, 1, none⟩), .slice a0 d.on.length c0, undef, undef, undef], defers := [] } W) := by
      intro W h
      rw [hΦ]
      have hHeld := KEEP.out W h
      refine wpAnyH_ready (rs := [0, 3]) (by kernel_rfl) (by simp) ?_
      refine AllReadyH.cons rfl (fun K hK => ?_) (AllReadyH.cons rfl (fun K hK => ?_) AllReadyH.nil)
      · go_simp
        have ka : Below W.heap.size W (W.alloc (.cells #[.string ⟨#[101, 110, 118]⟩, .string ⟨#[105, 110]⟩, .string ⟨#[107, 101, 101, 112]⟩, .string ⟨#[111, 110]⟩] 9)) := (Below.refl _ _).alloc (Nat.le_refl _) _
        have hb2 : Below wz.heap.size wz (W.alloc (.cells #[.string ⟨#[101, 110, 118]⟩, .string ⟨#[105, 110]⟩, .string ⟨#[107, 101, 101, 112]⟩, .string ⟨#[111, 110]⟩] 9)) := h.trans (ka.mono h.size)
        have hk : (W.alloc (.cells #[.string ⟨#[101, 110, 118]⟩, .string ⟨#[105, 110]⟩, .string ⟨#[107, 101, 101, 112]⟩, .string ⟨#[111, 110]⟩] 9)).ownsRow 0 9 1 (.slice (some ⟨W.heap.size, 0, none⟩) 4 4) 4 (strsV ruleKeys) := owns_lo (Nat.zero_le _) (World.ownsRow_lit W (strsV ruleKeys).toArray 4 (Nat.le_refl _) (by unfold maxLen; omega) rfl)
        clear hHeld
        refine hK.out _ (W.alloc (.cells #[.string ⟨#[101, 110, 118]⟩, .string ⟨#[105, 110]⟩, .string ⟨#[107, 101, 101, 112]⟩, .string ⟨#[111, 110]⟩] 9)) ?GQ41 (fun hHeld => ?_)
        case GQ41 => exact KEEP.out _ hb2
        clear hK K
        try simp only [Act.put, List.getElem_toArray, List.getElem_cons_zero, List.getElem_cons_succ, List.setIfInBounds_toArray, List.set_cons_zero, List.set_cons_succ]
        have zk := h.size
        replace h := hb2
        obtain ⟨gk, hgk⟩ : ∃ g, g = W.heap.size := ⟨_, rfl⟩
        rw [← hgk] at hk zk
        try rw [← hgk]
        obtain ⟨W2, hW2⟩ : ∃ W2, W2 = W.alloc (.cells #[.string ⟨#[101, 110, 118]⟩, .string ⟨#[105, 110]⟩, .string ⟨#[107, 101, 101, 112]⟩, .string ⟨#[111, 110]⟩] 9) := ⟨_, rfl⟩
        rw [← hW2] at h hk
        rw [← hW2]
        clear hW2 hgk ka hb2
        have hN := N10.out W2 h gk hk zk
        rw [hΦ] at hN
        exact wpAny_at2 hN (by kernel_rfl) (by kernel_rfl)
      · go_simp
        go_wp2_with (go_at_call 61; refine (T2.out _ (hwz.trans (h.mono (by omega)))).mono ?_; rintro e W2 ⟨nE, qE, cE, rfl, pE, bx⟩)
        have hb2 : Below wz.heap.size wz W2 := h.trans (bx.mono h.size)
        have zE := h.size
        have wE : W.heap.size ≤ W2.heap.size ∧ W2.heap.size ≤ W2.heap.size := ⟨bx.size, Nat.le_refl _⟩
        clear hHeld
        refine hK.out _ _ ?GQ42 (fun hHeld => ?_)
        case GQ42 => exact KEEP.out _ hb2
        clear hK K
        try simp only [Act.put, List.getElem_toArray, List.getElem_cons_zero, List.getElem_cons_succ, List.setIfInBounds_toArray, List.set_cons_zero, List.set_cons_succ]
        replace h := hb2
        have hN := N01.out W2 h nE qE cE W.heap.size W2.heap.size pE zE wE
        rw [hΦ] at hN
        exact wpAny_at2 hN (by kernel_rfl) (by kernel_rfl)
    obtain ⟨Wd, hWd⟩ : ∃ W, W = wz.drew := ⟨_, rfl⟩
    rw [← hWd] at hd0
    rw [← hWd]
    have hN := N00.out Wd hd0
    rw [hΦ] at hN
    exact wpAny_at2 hN (by kernel_rfl) (by kernel_rfl)
end Go.Proofs.Ytiadcebolcdhbaa
