/-
  Contracts for the walks, several texts in one: each part says what it proves, and under which conditions.
-/
import Derived.Deep.RegionHeld
import Derived.Handy
import Derived.Test.YtiadcebolcdhbaaQ5

/-! A drawn region whose last operations write what the first ones read: what reads may be taken first where a condition on the world holds until a certain operation has come up, and that operation waits for what reads: laws for the walks; conditions as each says. -/
namespace Go.Proofs.Ytiadcebolcdhbaa
open Go.RowKit
set_option linter.unusedSimpArgs false
set_option linter.unusedVariables false

section
variable {P : Program} {ops : Array Oper} {Q : Exit → Act → World → Prop} {md : Region.Mode} {S : World → Prop} {stop : Nat}

/-- Whatever order is picked: until number 'stop' has come up, S holds behind each operation. -/
def Till (P : Program) (md : Region.Mode) (ops : Array Oper) (Q : Exit → Act → World → Prop) (S : World → Prop) (stop : Nat) : Nat → Array Bool → Act → World → Prop
  | 0, l, a, w => Region.ready md ops l = [] ∧ Q .normal a w
  | k + 1, l, a, w => (Region.ready md ops l = [] → Q .normal a w) ∧ ∀ i ∈ Region.ready md ops l, wpOp P ops Q i (fun a' w' => ((l.setIfInBounds i true).getD stop true = false → S w') ∧ Till P md ops Q S stop k (l.setIfInBounds i true) a' w') a w
theorem till_any : ∀ (k : Nat) (l : Array Bool) (a : Act) (w : World), Till P md ops Q S stop k l a w → wpAny P md ops Q k l a w
  | 0, _, _, _, h => h
  | k + 1, _, _, _, h => ⟨h.1, fun i hi => wpOp_mono (fun a' w' h' => till_any k _ a' w' h'.2) (h.2 i hi)⟩
/-- Does one operation wait for another? -/
def waitsB (md : Region.Mode) (ops : Array Oper) (j i : Nat) : Bool := (ops[j]?).all fun o => o.after.any fun e => Region.binds md e && e.on == i
theorem waits_of {i j : Nat} (h : waitsB md ops j i = true) {o : Oper} (ho : ops[j]? = some o) : ∃ e ∈ o.after, Region.binds md e = true ∧ e.on = i := by
  unfold waitsB at h
  rw [ho] at h
  simp only [Option.all_some, Array.any_eq_true] at h
  obtain ⟨n, hn, hb⟩ := h
  simp only [Bool.and_eq_true, beq_iff_eq] at hb
  exact ⟨_, Array.getElem_mem hn, hb.1, hb.2⟩
theorem till_first {i : Nat} {oi : Oper} {v : Value} (hi : ops[i]? = some oi) (hsel : ∀ (j : Nat) (o : Oper) cs b, ops[j]? = some o → o.op ≠ .select cs b) (hQ : ∀ c a w, Q (.panic c) (a.put oi.dst v) w → Q (.panic c) a w) (hne : i ≠ stop) (hwt : waitsB md ops stop i = true) :
    ∀ (k : Nat) (l : Array Bool) (a : Act) (w : World), (∀ j oj, ops[j]? = some oj → j ≠ i → l.getD j true = false → (∀ e ∈ oj.after, Region.binds md e = true → e.on ≠ i) → oi.apart ops oj = true) →
      i ∈ Region.ready md ops l → YieldsIf P ops S oi v a → l.getD stop true = false → S w → Till P md ops Q S stop k (l.setIfInBounds i true) (a.put oi.dst v) w → Till P md ops Q S stop (k + 1) l a w := by
  have none_ready : ∀ {l : Array Bool}, i ∈ Region.ready md ops l → Region.ready md ops l = [] → False := fun h e => by rw [e] at h; cases h
  intro k
  induction k with
  | zero =>
    intro l a w _ hr hy _ hS H
    refine ⟨fun e => (none_ready hr e).elim, fun j hj => ?_⟩
    by_cases e : j = i
    · subst e; exact hy.wpOp hi hS ⟨fun _ => hS, H⟩
    · have := ready_mono hj e
      rw [H.1] at this
      cases this
  | succ k ih =>
    intro l a w hap hr hy hst hS H
    refine ⟨fun e => (none_ready hr e).elim, fun j hj => ?_⟩
    by_cases e : j = i
    · subst e; exact hy.wpOp hi hS ⟨fun _ => hS, H⟩
    obtain ⟨hju, oj, hoj, hall⟩ := mem_ready.1 hj
    have hno : ∀ d ∈ oj.after, Region.binds md d = true → d.on ≠ i := fun d hd hb he => by
      have a1 := hall d hd hb
      have a0 := (mem_ready.1 hr).1
      rw [he] at a1
      by_cases hl : i < l.size
      · simp [hl] at a0 a1; rw [a0] at a1; cases a1
      · simp [Array.getElem?_eq_none (Nat.le_of_not_lt hl)] at a1
    have hjs : j ≠ stop := fun hjs => by
      subst hjs
      obtain ⟨d, hd, hb, he⟩ := waits_of hwt hoj
      exact hno d hd hb he
    have hst2 : ((l.setIfInBounds i true).setIfInBounds j true).getD stop true = false := by rw [Go.getD_set_ne true hjs, Go.getD_set_ne true hne]; exact hst
    have hst3 : (l.setIfInBounds j true).getD stop true = false := by rw [Go.getD_set_ne true hjs]; exact hst
    refine wpOp_mono (fun a' w' h3 => ?_) (wpOp_putIf hoj (hap j oj hoj e hju hno) (fun cs b => hsel i oi cs b hi) (fun cs b => hsel j oj cs b hoj) hQ hy (H.2 j (ready_mono hj e)))
    obtain ⟨h4, h5, h6⟩ := h3
    refine ⟨fun _ => h5 hst2, ih _ a' w' (fun n on hn hni hun hw => hap n on hn hni ?_ hw) (ready_mono hr (Ne.symm e)) h4 hst3 (h5 hst2) (by rw [Array.setIfInBounds_comm _ _ e]; exact h6)⟩
    by_cases hjn : j = n
    · subst hjn; exact hju
    · rw [Go.getD_set_ne true hjn] at hun; exact hun
/-- Take number i first. -/
theorem tu (i : Nat) {oi : Oper} {v : Value} {k : Nat} {l l' : Array Bool} {a a' : Act} {w : World} (hS : S w)
    (hi : ops[i]? = some oi := by rfl) (hs : Region.noSelect ops = true := by kernel_rfl) (hf : Region.free md ops l i = true := by kernel_rfl) (hr : (Region.ready md ops l).contains i = true := by kernel_rfl) (hne : i ≠ stop := by decide) (hwt : waitsB md ops stop i = true := by kernel_rfl) (hst : l.getD stop true = false := by kernel_rfl)
    (hQ : ∀ c a w, Q (.panic c) (a.put oi.dst v) w → Q (.panic c) a w := by exact fun _ _ _ h => h) (hy : YieldsIf P ops S oi v a := by exact Or.inl ⟨by rfl, by (intro w hSw; (try dsimp only at hSw); go_simp <;> with_reducible rfl)⟩)
    (hl : l.setIfInBounds i true = l' := by (try simp only [List.setIfInBounds_toArray, List.set_cons_zero, List.set_cons_succ]); with_reducible rfl)
    (ha : a.put oi.dst v = a' := by (try simp only [Act.put, List.getElem_toArray, List.getElem_cons_zero, List.getElem_cons_succ, List.setIfInBounds_toArray, List.set_cons_zero, List.set_cons_succ]); with_reducible rfl)
    (h : Till P md ops Q S stop k l' a' w) : Till P md ops Q S stop (k + 1) l a w := till_first hi (Region.noSelect_spec hs) hQ hne hwt k l a w (Region.free_spec hi hf) (by simpa using hr) hy hst hS (by rw [hl, ha]; exact h)
theorem till_firstV {i : Nat} {oi : Oper} {v : Value} (hi : ops[i]? = some oi) (hsel : ∀ (j : Nat) (o : Oper) cs b, ops[j]? = some o → o.op ≠ .select cs b) (hQ : ∀ c a w, Q (.panic c) (a.put oi.dst v) w → Q (.panic c) a w) (hne : i ≠ stop) :
    ∀ (k : Nat) (l : Array Bool) (a : Act) (w : World), (∀ j oj, ops[j]? = some oj → j ≠ i → l.getD j true = false → (∀ e ∈ oj.after, Region.binds md e = true → e.on ≠ i) → oi.apart ops oj = true) →
      i ∈ Region.ready md ops l → YieldsIf P ops (fun _ => True) oi v a → (l.getD stop true = false → S w) → Till P md ops Q S stop k (l.setIfInBounds i true) (a.put oi.dst v) w → Till P md ops Q S stop (k + 1) l a w := by
  have none_ready : ∀ {l : Array Bool}, i ∈ Region.ready md ops l → Region.ready md ops l = [] → False := fun h e => by rw [e] at h; cases h
  have hst : ∀ (l : Array Bool) (j : Nat), ((l.setIfInBounds i true).setIfInBounds j true).getD stop true = (l.setIfInBounds j true).getD stop true := fun l j => by
    by_cases e : j = i
    · subst e; simp only [Go.getD_set_ne true hne]
    · rw [Array.setIfInBounds_comm _ _ (fun e' => e e'.symm), Go.getD_set_ne true hne]
  intro k
  induction k with
  | zero =>
    intro l a w _ hr hy hS H
    refine ⟨fun e => (none_ready hr e).elim, fun j hj => ?_⟩
    by_cases e : j = i
    · subst e; exact hy.wpOp hi trivial ⟨fun h => hS (by rw [Go.getD_set_ne true hne] at h; exact h), H⟩
    · have := ready_mono hj e
      rw [H.1] at this
      cases this
  | succ k ih =>
    intro l a w hap hr hy hS H
    refine ⟨fun e => (none_ready hr e).elim, fun j hj => ?_⟩
    by_cases e : j = i
    · subst e; exact hy.wpOp hi trivial ⟨fun h => hS (by rw [Go.getD_set_ne true hne] at h; exact h), H⟩
    obtain ⟨hju, oj, hoj, hall⟩ := mem_ready.1 hj
    have hno : ∀ d ∈ oj.after, Region.binds md d = true → d.on ≠ i := fun d hd hb he => by
      have a1 := hall d hd hb
      have a0 := (mem_ready.1 hr).1
      rw [he] at a1
      by_cases hl : i < l.size
      · simp [hl] at a0 a1; rw [a0] at a1; cases a1
      · simp [Array.getElem?_eq_none (Nat.le_of_not_lt hl)] at a1
    refine wpOp_mono (fun a' w' h3 => ?_) (wpOp_putIf hoj (hap j oj hoj e hju hno) (fun cs b => hsel i oi cs b hi) (fun cs b => hsel j oj cs b hoj) hQ hy (H.2 j (ready_mono hj e)))
    obtain ⟨h4, h5, h6⟩ := h3
    rw [hst] at h5
    refine ⟨h5, ih _ a' w' (fun n on hn hni hun hw => hap n on hn hni ?_ hw) (ready_mono hr (Ne.symm e)) h4 h5 (by rw [Array.setIfInBounds_comm _ _ e]; exact h6)⟩
    by_cases hjn : j = n
    · subst hjn; exact hju
    · rw [Go.getD_set_ne true hjn] at hun; exact hun
/-- Take number i first: what it yields hangs on no world. -/
theorem tv (i : Nat) {oi : Oper} {v : Value} {k : Nat} {l l' : Array Bool} {a a' : Act} {w : World} (hS : S w)
    (hi : ops[i]? = some oi := by rfl) (hs : Region.noSelect ops = true := by kernel_rfl) (hf : Region.free md ops l i = true := by kernel_rfl) (hr : (Region.ready md ops l).contains i = true := by kernel_rfl) (hne : i ≠ stop := by decide)
    (hQ : ∀ c a w, Q (.panic c) (a.put oi.dst v) w → Q (.panic c) a w := by exact fun _ _ _ h => h) (hy : YieldsIf P ops (fun _ => True) oi v a := by exact Or.inl ⟨by rfl, by (intro w _; go_simp <;> with_reducible rfl)⟩)
    (hl : l.setIfInBounds i true = l' := by (try simp only [List.setIfInBounds_toArray, List.set_cons_zero, List.set_cons_succ]); with_reducible rfl)
    (ha : a.put oi.dst v = a' := by (try simp only [Act.put, List.getElem_toArray, List.getElem_cons_zero, List.getElem_cons_succ, List.setIfInBounds_toArray, List.set_cons_zero, List.set_cons_succ]); with_reducible rfl)
    (h : Till P md ops Q S stop k l' a' w) : Till P md ops Q S stop (k + 1) l a w := till_firstV hi (Region.noSelect_spec hs) hQ hne k l a w (Region.free_spec hi hf) (by simpa using hr) hy (fun _ => hS) (by rw [hl, ha]; exact h)
/-- One operation comes up: behind it S, where 'stop' has not come up. -/
def AllTill (P : Program) (md : Region.Mode) (ops : Array Oper) (Q : Exit → Act → World → Prop) (S : World → Prop) (stop k : Nat) (l : Array Bool) (a : Act) (w : World) (rs : List Nat) : Prop :=
  ∀ i ∈ rs, wpOp P ops Q i (fun a' w' => ((l.setIfInBounds i true).getD stop true = false → S w') ∧ Till P md ops Q S stop k (l.setIfInBounds i true) a' w') a w
theorem AllTill.nil {k : Nat} {l : Array Bool} {a : Act} {w : World} : AllTill P md ops Q S stop k l a w [] := fun _ h => by cases h
theorem AllTill.cons {k : Nat} {l l' : Array Bool} {a : Act} {w : World} {i : Nat} {o : Oper} {rs : List Nat} (ho : ops[i]? = some o) (hl : l.setIfInBounds i true = l')
    (h : ∀ K' : Act → World → Prop, Shut (∀ a w, (l'.getD stop true = false → S w) → Till P md ops Q S stop k l' a w → K' a w) → if Region.wanted o (yielded ops a.tmps) = true then Oper.wp P o a w K' Q else K' (a.put o.dst undef) w)
    (hs : AllTill P md ops Q S stop k l a w rs) : AllTill P md ops Q S stop k l a w (i :: rs) := fun j hj => by
  subst hl
  rcases List.mem_cons.1 hj with rfl | hj
  · exact wpOp_step ho (fun K' hK => h K' (fun a w hS hW => hK a w ⟨hS, hW⟩))
  · exact hs j hj
theorem till_ready {rs : List Nat} {k : Nat} {l : Array Bool} {a : Act} {w : World} (hr : Region.ready md ops l = rs) (hne : rs ≠ []) (h : AllTill P md ops Q S stop k l a w rs) : Till P md ops Q S stop (k + 1) l a w :=
  ⟨fun e => absurd (hr.symm.trans e) hne, hr ▸ h⟩
theorem till_done {l : Array Bool} {a : Act} {w : World} (hr : Region.ready md ops l = []) (h : Q .normal a w) : ∀ k, Till P md ops Q S stop k l a w
  | 0 => ⟨hr, h⟩
  | _ + 1 => ⟨fun _ => h, by rw [hr]; simp⟩
theorem till_region {id : Nat} {a : Act} {w : World} (S : World → Prop) (stop : Nat) (hm : P.follows .mixedOrders = true) (hS : S w.drew) (h : S w.drew → Till P .any ops Q S stop ops.size (Array.replicate ops.size false) a w.drew) : (Code.region id ops true).wp P Q a w :=
  wp_region_any hm (till_any _ _ _ _ (h hS))
theorem till_phi {k : Nat} {l : Array Bool} {a : Act} {w : World} (h : ∀ Φ, Φ = Till P md ops Q S stop → Till P md ops Q S stop k l a w) : Till P md ops Q S stop k l a w := h _ rfl
theorem till_at {k k' : Nat} {l l' : Array Bool} {a : Act} {w : World} (h : Till P md ops Q S stop k' l' a w) (hk : k' = k) (hl : l' = l) : Till P md ops Q S stop k l a w := by subst hk hl; exact h
end
end Go.Proofs.Ytiadcebolcdhbaa

/-! The value of a rule: what it is, the value of its flag, and a map made of four parts; contracts for the walks; conditions as each says. -/
namespace Go.Proofs.Ytiadcebolcdhbaa
open Go.RowKit
set_option linter.unusedSimpArgs false
set_option linter.unusedVariables false

def boolT (b : Bool) : Tree := .mk 1 (if b then 1 else 0) ⟨#[]⟩ [] []
def ruleKids (d : RuleD) : List Tree := [listT d.envs, listT d.ins, boolT d.keep, listT d.on]
def ruleKeys : List ByteArray := [⟨#[101, 110, 118]⟩, ⟨#[105, 110]⟩, ⟨#[107, 101, 101, 112]⟩, ⟨#[111, 110]⟩]
def ruleT (d : RuleD) : Tree := .mk 5 0 ⟨#[]⟩ (ruleKids d) ruleKeys
/-- The blocks of the walk: the rule and the answer. -/
structure RvS (w W : World) (bp : Obj) : Prop where
  P : W.heap[w.heap.size]? = some bp
  R : W.heap[w.heap.size + 1]? = some boxZ
  B : Below w.heap.size w W
theorem RvS.chg {w W W' : World} {bp : Obj} {D : Nat → Prop} (h : RvS w W bp) (hb : Chg D W W') (hD : ∀ b, D b → w.heap.size + 1 + 1 ≤ b) : RvS w W' bp := by
  have hl := (Array.getElem?_eq_some_iff.1 h.R).1
  have k : ∀ g, g < w.heap.size + 1 + 1 → W'.heap[g]? = W.heap[g]? := fun g hg => hb.block g (by omega) (fun k => by have := hD g k; omega)
  exact ⟨(k _ (by omega)).trans h.P, (k _ (by omega)).trans h.R,
    ⟨hb.os.trans h.B.os, hb.tape.trans h.B.tape, hb.output.trans h.B.output, Nat.le_trans h.B.size hb.size, fun b hlt => (k b (by omega)).trans (h.B.block b hlt)⟩⟩
theorem RvS.below {w W W' : World} {bp : Obj} (h : RvS w W bp) (hb : Below W.heap.size W W') : RvS w W' bp := h.chg (Chg.of (S := fun _ => False) hb) (fun _ h => h.elim)
theorem RvS.put {w W : World} {bp : Obj} {g : Nat} {a b : Value} (h : RvS w W bp) (hg : w.heap.size + 1 + 1 ≤ g) : RvS w (put5 W g a b) bp :=
  ⟨(put5_other (by omega)).trans h.P, (put5_other (by omega)).trans h.R, put5_below h.B (by omega)⟩
/-- A map made of parts that lie in sets of blocks of their own. -/
theorem mk_rows {W : World} {c u : Value} {l : List Tree} {ks : List ByteArray} {ys : List Value} {C U : Nat → Value} {B K S : Nat → Nat → Prop}
    (hl : l.length = ks.length) (hc : W.ownsRow 0 50 5 c l.length ys) (hu : W.ownsRow 0 9 1 u ks.length (strsV ks))
    (hy : ∀ i (h : i < l.length), ys[i * 5]? = some (.int .i64 l[i].kind) ∧ ys[i * 5 + 1]? = some (.int .i64 l[i].num) ∧ ys[i * 5 + 2]? = some (.string l[i].str) ∧ ys[i * 5 + 3]? = some (C i) ∧ ys[i * 5 + 4]? = some (U i))
    (hs : ∀ i (h : i < l.length), l[i].str.size ≤ maxLen ∧ saneS l[i].keys)
    (hp : ∀ i (h : i < l.length), Part W (B i) (K i) (C i) (U i) l[i].kids l[i].keys)
    (hB : ∀ i b, B i b → S i b) (hK : ∀ i b, K i b → S i b) (hd : ∀ i j b, i ≠ j → S i b → ¬ S j b) (ha : ∀ i b, B i b → ¬ K i b)
    (bc : ∀ g, c.ownBlock = some g → ∀ i, ¬ S i g) (bu : ∀ g, u.ownBlock = some g → ∀ i, ¬ S i g) (low : ∀ i b, S i b → b < W.heap.size) :
    Mk W (fun b => (∃ i, S i b) ∨ c.ownBlock = some b ∨ u.ownBlock = some b) c u l ks := by
  refine ⟨hl, ?_, ⟨ys, C, U, B, K, hc, fun g h => ⟨.inr (.inl h), fun i => ⟨fun k => bc g h i (hB i g k), fun k => bc g h i (hK i g k)⟩⟩, fun g h => ⟨.inr (.inr h), fun i => ⟨fun k => bu g h i (hB i g k), fun k => bu g h i (hK i g k)⟩⟩, hy, hs, fun i b h => .inl ⟨i, hB i b h⟩, fun i b h => .inl ⟨i, hK i b h⟩, fun i j b hij h k => hd i j b hij (hB i b h) (hB j b k), ?_, fun i j b hij h k => hd i j b hij (hK i b h) (hK j b k), fun i h => ⟨(hp i h).own, (hp i h).lies⟩, fun i h => ⟨(hp i h).keys, (hp i h).inK⟩⟩, hu⟩
  · rintro b (⟨i, h⟩ | h | h)
    · exact low i b h
    · exact (owns_in hc b h).2
    · exact (owns_in hu b h).2
  · intro i j b h k
    by_cases hij : i = j
    · subst hij; exact ha i b h k
    · exact hd i j b hij (hB i b h) (hK j b k)

theorem as_boolQ (y : Value) (w : World) : (Instr.typeAssert (.iface 96 y) 127 96 true).run Try.prog w = .ok (.tuple #[y, .bool true]) w := by kernel_rfl
theorem kindBool_c (b : Bool) (w : World) : Calls Try.prog 175 #[.bool b] w fun e w' => e = .returned (.int .i64 1) ∧ Below w.heap.size w w' := by
  go_enter Try.func175, Try.ntmps175
  go_wp2_with fail
  go_ret
  exact ⟨rfl, Below.refl _ _⟩
set_option maxHeartbeats 8000000 in
set_option maxRecDepth 100000 in
theorem valBool_c (b : Bool) (w : World) :
    Calls Try.prog 65 #[.iface 96 (.bool b)] w fun e w' => e = .returned (.agg #[.int .i64 1, .int .i64 (if b then 1 else 0), .string ⟨#[]⟩, .slice none 0 0, .slice none 0 0]) ∧ Below w.heap.size w w' := by
  have k1 : ∀ o, Below w.heap.size w (w.alloc o) := fun o => (Below.refl _ _).alloc (Nat.le_refl _) _
  have hta : ∀ w1, (Instr.typeAssert (.iface 96 (.bool b)) 127 96 true).run Try.prog w1 = .ok (.tuple #[.bool b, .bool true]) w1 := fun w1 => as_boolQ (.bool b) w1
  cases b
  · go_enter Try.func65, Try.ntmps65
    go_wp2_with fail
    go_at_call 175
    refine (kindBool_c _ _).mono ?_
    rintro e w1 ⟨rfl, b1⟩
    have h1 : Below w.heap.size w w1 := (k1 _).trans (b1.mono (k1 _).size)
    have hR := box_below (vheap_new w boxZ) b1
    have fR := vblk_frozen hR
    unfold boxZ at hR
    have r0 := vblk_cell hR 0
    have r1 := vblk_cell hR 1
    have r2 := vblk_cell hR 2
    have r3 := vblk_cell hR 3
    have r4 := vblk_cell hR 4
    simp only [List.getElem?_toArray, List.getElem?_cons_succ, List.getElem?_cons_zero] at r0 r1 r2 r3 r4
    have hlt : w.heap.size < w1.heap.size := (Array.getElem?_eq_some_iff.1 hR).1
    have HR := hidden hR
    clear b1 hR
    go_wp2_with fail
    obtain ⟨V, hV⟩ : ∃ V, V = (((((w1.setCell ⟨w.heap.size, 0, none⟩ (.int .i64 1)).setCell ⟨w.heap.size, 1, none⟩ (.int .i64 0)).setCell ⟨w.heap.size, 2, none⟩ (.string ⟨#[]⟩)).setCell ⟨w.heap.size, 3, none⟩ (.slice none 0 0)).setCell ⟨w.heap.size, 4, none⟩ (.slice none 0 0)).alloc (.cells #[.int .i64 1, .int .i64 0, .string ⟨#[]⟩, .slice none 0 0, .slice none 0 0] 50) := ⟨_, rfl⟩
    have hRV : V.heap[w.heap.size]? = some (.cells #[.int .i64 1, .int .i64 0, .string ⟨#[]⟩, .slice none 0 0, .slice none 0 0] 50 (0, 0)) := by
      rw [hV, vheap_old _ _ (by simp [World.setCell]; omega)]
      exact heap_setCell_same _ w.heap.size 4 _ _ _ (heap_setCell_same _ w.heap.size 3 _ _ _ (heap_setCell_same _ w.heap.size 2 _ _ _ (heap_setCell_same _ w.heap.size 1 _ _ _ (heap_setCell_same w1 w.heap.size 0 _ _ _ HR.out))))
    have hBV : Below w.heap.size w V := by
      rw [hV]
      refine Below.alloc ?_ (by simp [World.setCell]; omega) _
      exact Below.setCell (Below.setCell (Below.setCell (Below.setCell (Below.setCell h1 (p := ⟨w.heap.size, 0, none⟩) (Nat.le_refl _) _) (p := ⟨w.heap.size, 1, none⟩) (Nat.le_refl _) _) (p := ⟨w.heap.size, 2, none⟩) (Nat.le_refl _) _) (p := ⟨w.heap.size, 3, none⟩) (Nat.le_refl _) _) (p := ⟨w.heap.size, 4, none⟩) (Nat.le_refl _) _
    rw [← hV]
    clear hV HR r0 r1 r2 r3 r4 fR
    have r0 := vblk_cell hRV 0
    have r1 := vblk_cell hRV 1
    have r2 := vblk_cell hRV 2
    have r3 := vblk_cell hRV 3
    have r4 := vblk_cell hRV 4
    simp only [List.getElem?_toArray, List.getElem?_cons_succ, List.getElem?_cons_zero] at r0 r1 r2 r3 r4
    exact bodyPost_ret (v := .agg #[.int .i64 1, .int .i64 0, .string ⟨#[]⟩, .slice none 0 0, .slice none 0 0]) (by simp [results, Try.results65, go_sem, r0, r1, r2, r3, r4]) rfl ⟨rfl, hBV⟩
  · go_enter Try.func65, Try.ntmps65
    go_wp2_with fail
    go_at_call 175
    refine (kindBool_c _ _).mono ?_
    rintro e w1 ⟨rfl, b1⟩
    have h1 : Below w.heap.size w w1 := (k1 _).trans (b1.mono (k1 _).size)
    have hR := box_below (vheap_new w boxZ) b1
    have fR := vblk_frozen hR
    unfold boxZ at hR
    have r0 := vblk_cell hR 0
    have r1 := vblk_cell hR 1
    have r2 := vblk_cell hR 2
    have r3 := vblk_cell hR 3
    have r4 := vblk_cell hR 4
    simp only [List.getElem?_toArray, List.getElem?_cons_succ, List.getElem?_cons_zero] at r0 r1 r2 r3 r4
    have hlt : w.heap.size < w1.heap.size := (Array.getElem?_eq_some_iff.1 hR).1
    have HR := hidden hR
    clear b1 hR
    go_wp2_with fail
    obtain ⟨V, hV⟩ : ∃ V, V = (((((w1.setCell ⟨w.heap.size, 0, none⟩ (.int .i64 1)).setCell ⟨w.heap.size, 1, none⟩ (.int .i64 1)).setCell ⟨w.heap.size, 2, none⟩ (.string ⟨#[]⟩)).setCell ⟨w.heap.size, 3, none⟩ (.slice none 0 0)).setCell ⟨w.heap.size, 4, none⟩ (.slice none 0 0)).alloc (.cells #[.int .i64 1, .int .i64 1, .string ⟨#[]⟩, .slice none 0 0, .slice none 0 0] 50) := ⟨_, rfl⟩
    have hRV : V.heap[w.heap.size]? = some (.cells #[.int .i64 1, .int .i64 1, .string ⟨#[]⟩, .slice none 0 0, .slice none 0 0] 50 (0, 0)) := by
      rw [hV, vheap_old _ _ (by simp [World.setCell]; omega)]
      exact heap_setCell_same _ w.heap.size 4 _ _ _ (heap_setCell_same _ w.heap.size 3 _ _ _ (heap_setCell_same _ w.heap.size 2 _ _ _ (heap_setCell_same _ w.heap.size 1 _ _ _ (heap_setCell_same w1 w.heap.size 0 _ _ _ HR.out))))
    have hBV : Below w.heap.size w V := by
      rw [hV]
      refine Below.alloc ?_ (by simp [World.setCell]; omega) _
      exact Below.setCell (Below.setCell (Below.setCell (Below.setCell (Below.setCell h1 (p := ⟨w.heap.size, 0, none⟩) (Nat.le_refl _) _) (p := ⟨w.heap.size, 1, none⟩) (Nat.le_refl _) _) (p := ⟨w.heap.size, 2, none⟩) (Nat.le_refl _) _) (p := ⟨w.heap.size, 3, none⟩) (Nat.le_refl _) _) (p := ⟨w.heap.size, 4, none⟩) (Nat.le_refl _) _
    rw [← hV]
    clear hV HR r0 r1 r2 r3 r4 fR
    have r0 := vblk_cell hRV 0
    have r1 := vblk_cell hRV 1
    have r2 := vblk_cell hRV 2
    have r3 := vblk_cell hRV 3
    have r4 := vblk_cell hRV 4
    simp only [List.getElem?_toArray, List.getElem?_cons_succ, List.getElem?_cons_zero] at r0 r1 r2 r3 r4
    exact bodyPost_ret (v := .agg #[.int .i64 1, .int .i64 1, .string ⟨#[]⟩, .slice none 0 0, .slice none 0 0]) (by simp [results, Try.results65, go_sem, r0, r1, r2, r3, r4]) rfl ⟨rfl, hBV⟩
end Go.Proofs.Ytiadcebolcdhbaa

/-! The value of a rule, as the program makes it: a contract for the walks; conditions: the rule lies in memory, and holds at most 2 to the 20. -/
namespace Go.Proofs.Ytiadcebolcdhbaa
open Go.RowKit
set_option linter.unusedSimpArgs false
set_option linter.unusedVariables false

set_option maxHeartbeats 16000000 in
set_option maxRecDepth 100000 in
theorem ruleVal_c (S : Nat → Prop) (cs : List Value) (d : RuleD) (w : World) (hL : shRule.lies S w cs d) (hB : ∀ b, S b → b < w.heap.size) (hw : wtRule d ≤ 1048576) :
    Calls Try.prog 27 #[.agg cs.toArray] w fun e w' => ∃ c u, e = .returned (.agg #[.int .i64 5, .int .i64 0, .string ⟨#[]⟩, c, u]) ∧ Mk w' (fun b => w.heap.size ≤ b ∧ b < w'.heap.size) c u (ruleKids d) ruleKeys ∧ Below w.heap.size w w' := by
  obtain ⟨u0, u1, u2, rfl, s_task, r0, p0, r1, p1, r2, p2⟩ := hL
  have hw' : bulkS d.on ≤ 1048576 ∧ bulkS d.ins ≤ 1048576 ∧ bulkS d.envs ≤ 1048576 := by unfold wtRule at hw; omega
  have hrd : ∀ {u ss}, RdB S w u (strsV ss) → ∀ w1, Below w.heap.size w w1 → Reads w1 u (strsV ss) := fun r w1 h => (r.keep (.of h hB)).reads (fun b hb => Nat.lt_of_lt_of_le (hB b hb) h.size)
  have TX : ∀ (u : Value) (ss : List ByteArray), RdB S w u (strsV ss) → saneP ss → bulkS ss ≤ 1048576 → ∀ w1, Below w.heap.size w w1 → Calls Try.prog 64 #[u] w1 fun e w' => ∃ n q c, e = .returned (.agg #[.int .i64 4, .int .i64 0, .string ⟨#[]⟩, .slice q n c, .slice none 0 0]) ∧ Part w' (fun b => w1.heap.size ≤ b ∧ b < w'.heap.size) (fun _ => False) (.slice q n c) (.slice none 0 0) (ss.map textT) [] ∧ Below w1.heap.size w1 w' := fun u ss r hp hb w1 h => by
    refine (texts_part u ss w1 (hrd r w1 h) hb hp).mono ?_
    rintro e w' ⟨c, he, p, hb'⟩
    obtain ⟨q, cap, ec⟩ := p.own.slice
    subst ec
    exact ⟨_, q, cap, he, p, hb'⟩
  have T0 := hidden (TX u0 d.on r0 p0 hw'.1)
  have T1 := hidden (TX u1 d.ins r1 p1 hw'.2.1)
  have T2 := hidden (TX u2 d.envs r2 p2 hw'.2.2)
  obtain ⟨a0, c0, e0, _⟩ := id r0
  rw [length_strsV] at e0
  subst e0
  obtain ⟨a1, c1, e1, _⟩ := id r1
  rw [length_strsV] at e1
  subst e1
  obtain ⟨a2, c2, e2, _⟩ := id r2
  rw [length_strsV] at e2
  subst e2
  have hst : RvS w ((w.alloc (.cells #[.string d.task, .slice a0 d.on.length c0, .slice a1 d.ins.length c1, .slice a2 d.envs.length c2, .bool d.keep] 52 (0, 0))).alloc boxZ) (.cells #[.string d.task, .slice a0 d.on.length c0, .slice a1 d.ins.length c1, .slice a2 d.envs.length c2, .bool d.keep] 52 (0, 0)) := by
    have b2 : ∀ A B, Below w.heap.size w ((w.alloc A).alloc B) := fun A B => ((Below.refl _ _).alloc (Nat.le_refl _) _).alloc (by simp) _
    obtain ⟨h1, h2⟩ := two_boxes (w := w) (.cells #[.string d.task, .slice a0 d.on.length c0, .slice a1 d.ins.length c1, .slice a2 d.envs.length c2, .bool d.keep] 52 (0, 0)) boxZ
    exact ⟨h1, h2, b2 _ _⟩
  clear r0 r1 r2 hrd TX s_task p0 p1 p2 hw hw'
  have saneN : ∀ (k : Nat), k ≤ 4 → k ≤ 1048576 := fun k h => by omega
  have HST := hidden hst
  obtain ⟨kn, hkn⟩ : ∃ n : Int, n = (if d.keep then 1 else 0) := ⟨_, rfl⟩
  have HKB := hidden (fun w1 => valBool_c d.keep w1)
  simp only [← hkn] at HKB
  have HKN := hidden hkn
  clear hst hkn
  go_enter Try.func27, Try.ntmps27
  unfold boxZ at HST
  go_wp2_with fail
  obtain ⟨wz, hWz⟩ : ∃ wz, wz = (w.alloc (.cells #[.string d.task, .slice a0 d.on.length c0, .slice a1 d.ins.length c1, .slice a2 d.envs.length c2, .bool d.keep] 52 (0, 0))).alloc (.cells #[.int .i64 0, .int .i64 0, .string ⟨#[]⟩, .slice none 0 0, .slice none 0 0] 50 (0, 0)) := ⟨_, rfl⟩
  rw [← hWz] at HST
  rw [← hWz]
  clear hWz
  have st := HST.out
  clear HST
  go_at_call 64
  refine (T2.out _ st.B).mono ?_
  rintro e wa ⟨nE, qE, cE, rfl, pE, ba⟩
  have hz2 : w.heap.size + 1 + 1 ≤ wz.heap.size := (Array.getElem?_eq_some_iff.1 st.R).1
  have sa := st.below ba
  have m0 := Mk.nil wa
  go_wp2_with fail
  go_at_call 63
  refine (withKey_mk (fun _ => False) _ _ (.slice none 0 0) (.slice none 0 0) _ _ [] [] ⟨#[101, 110, 118]⟩ 4 0 ⟨#[]⟩ _ _ wa m0 pE (Nat.zero_le _) saneNil (fun b hb => ⟨hb.2, fun h => h⟩) (fun _ h => h.elim) (by simp) (by decide)).mono ?_
  rintro e wb ⟨c', u', rfl, mk1, ch1⟩
  have bb := Chg.none ch1
  have sb := sa.below bb
  have low1 := more_low1 (m := wb.heap.size) (lo := w.heap.size + 1 + 1) (S := fun _ => False) (a := wz.heap.size) (b := wa.heap.size) (n := wa.heap.size) hz2 (by have := ba.size; omega) (fun _ h => h.elim)
  obtain ⟨n1, qc1, cc1, qu1, cu1, hn1, ec, eu⟩ := mk1.slicesN
  subst ec eu
  have hO : (wb.alloc (boxM (.slice qc1 n1 cc1) (.slice qu1 n1 cu1))).heap[wb.heap.size]? = some (boxM (.slice qc1 n1 cc1) (.slice qu1 n1 cu1)) := vheap_new _ _
  have kO : Below wb.heap.size wb (wb.alloc (boxM (.slice qc1 n1 cc1) (.slice qu1 n1 cu1))) := (Below.refl _ _).alloc (Nat.le_refl _) _
  have sO := sb.below kO
  have mkO := mk1.keep kO.size (Kp.of kO mk1.low)
  have hgO : ∀ b, More (fun _ => False) (fun b => wz.heap.size ≤ b ∧ b < wa.heap.size) (fun _ => False) wa.heap.size wb.heap.size b → b ≠ wb.heap.size := fun b h e => by have := mk1.low b h; omega
  have HX := hidden (And.intro sO (And.intro mkO (And.intro low1 (And.intro hO hgO))))
  have hlt2 : w.heap.size + 1 + 1 ≤ wb.heap.size := by have := ba.size; have := bb.size; omega
  clear sO mkO low1 hO hgO mk1 ch1 bb sb sa pE ba m0 st hn1 kO
  go_wp2_with fail
  obtain ⟨gO, hgOe⟩ : ∃ g, g = wb.heap.size := ⟨_, rfl⟩
  obtain ⟨S1, hS1⟩ : ∃ S, S = More (fun _ => False) (fun b => wz.heap.size ≤ b ∧ b < wa.heap.size) (fun _ => False) wa.heap.size wb.heap.size := ⟨_, rfl⟩
  unfold boxM at HX
  obtain ⟨w1, hW1⟩ : ∃ w1, w1 = wb.alloc (.cells #[.int .i64 5, .int .i64 0, .string ⟨#[]⟩, .slice qc1 n1 cc1, .slice qu1 n1 cu1] 50 (0, 0)) := ⟨_, rfl⟩
  rw [← hS1, ← hgOe, ← hW1] at HX
  rw [← hgOe] at hlt2
  rw [← hW1]
  try rw [← hgOe]
  clear hgOe hS1 hW1
  obtain ⟨st1, mk1, low1, hO1, ne1⟩ := HX.out
  clear HX
  have KEEP1 : Hid (∀ W, RvS w W (.cells #[.string d.task, .slice a0 d.on.length c0, .slice a1 d.ins.length c1, .slice a2 d.envs.length c2, .bool d.keep] 52 (0, 0)) → W.heap[gO]? = some (boxM (.slice qc1 n1 cc1) (.slice qu1 n1 cu1)) → W.cell? ⟨w.heap.size, 0, none⟩ = some (.string d.task) ∧ W.cell? ⟨w.heap.size, 1, none⟩ = some (.slice a0 d.on.length c0) ∧ W.cell? ⟨w.heap.size, 2, none⟩ = some (.slice a1 d.ins.length c1) ∧ W.cell? ⟨w.heap.size, 3, none⟩ = some (.slice a2 d.envs.length c2) ∧ W.cell? ⟨w.heap.size, 4, none⟩ = some (.bool d.keep) ∧ W.cell? ⟨gO, 0, none⟩ = some (.int .i64 5) ∧ W.cell? ⟨gO, 1, none⟩ = some (.int .i64 0) ∧ W.cell? ⟨gO, 2, none⟩ = some (.string ⟨#[]⟩) ∧ W.cell? ⟨gO, 3, none⟩ = some (.slice qc1 n1 cc1) ∧ W.cell? ⟨gO, 4, none⟩ = some (.slice qu1 n1 cu1)) := fun W h g => by
    have hA := h.P
    exact ⟨vblk_cell hA 0, vblk_cell hA 1, vblk_cell hA 2, vblk_cell hA 3, vblk_cell hA 4, vblk_cell g 0, vblk_cell g 1, vblk_cell g 2, vblk_cell g 3, vblk_cell g 4⟩
  have s9 := st1.below (Below.refl _ w1).drew
  have m9 := mk1.keep (w' := w1.drew) (Nat.le_refl _) (fun _ _ => rfl)
  have g9 : w1.drew.heap[gO]? = some (boxM (.slice qc1 n1 cc1) (.slice qu1 n1 cu1)) := hO1
  refine till_region (fun W => W.cell? ⟨w.heap.size, 0, none⟩ = some (.string d.task) ∧ W.cell? ⟨w.heap.size, 1, none⟩ = some (.slice a0 d.on.length c0) ∧ W.cell? ⟨w.heap.size, 2, none⟩ = some (.slice a1 d.ins.length c1) ∧ W.cell? ⟨w.heap.size, 3, none⟩ = some (.slice a2 d.envs.length c2) ∧ W.cell? ⟨w.heap.size, 4, none⟩ = some (.bool d.keep) ∧ W.cell? ⟨gO, 0, none⟩ = some (.int .i64 5) ∧ W.cell? ⟨gO, 1, none⟩ = some (.int .i64 0) ∧ W.cell? ⟨gO, 2, none⟩ = some (.string ⟨#[]⟩) ∧ W.cell? ⟨gO, 3, none⟩ = some (.slice qc1 n1 cc1) ∧ W.cell? ⟨gO, 4, none⟩ = some (.slice qu1 n1 cu1)) 5 (by kernel_rfl) (KEEP1.out _ s9 g9) (fun hHeld => ?_)
  clear st1 mk1 hO1
  generalize w1.drew = wd at hHeld s9 m9 g9 ⊢
  refine till_at (k' := 6) (l' := #[false, false, false, false, false, false]) ?_ (by kernel_rfl) (by kernel_rfl)
  refine tu 0 hHeld (h := ?_)
  refine tv 1 hHeld (h := ?_)
  refine tu 2 hHeld (h := ?_)
  clear hHeld
  refine till_ready (rs := [3]) (by kernel_rfl) (by simp) ?_
  refine AllTill.cons rfl rfl (fun K hK => ?_) AllTill.nil
  go_simp
  go_wp2_with (go_at_call 64; refine (T1.out _ s9.B).mono ?_; rintro e we ⟨nX, qX, cX, rfl, pX, be⟩)
  have s8 := s9.below be
  have m8 := m9.keep be.size (Kp.of be m9.low)
  have g8 := box_below g9 be
  refine hK.out _ _ (fun _ => KEEP1.out _ s8 g8) ?_
  clear hK K
  refine till_ready (rs := [4]) (by kernel_rfl) (by simp) ?_
  refine AllTill.cons rfl rfl (fun K hK => ?_) AllTill.nil
  go_simp
  go_wp2_with (go_at_call 63; refine (withKey_mk S1 _ _ _ _ (.slice qX nX cX) (.slice none 0 0) _ _ ⟨#[105, 110]⟩ 4 0 ⟨#[]⟩ _ _ we m8 pX (Nat.zero_le _) saneNil (fun b hb => ⟨hb.2, fun h => by have := m9.low b h; omega⟩) (fun _ h => h.elim) (by simp) (by decide)).mono ?_; rintro e wf ⟨c', u', rfl, mkn, chn⟩)
  have lown := more_low1 (m := wf.heap.size) (lo := w.heap.size + 1 + 1) (S := S1) (a := wd.heap.size) (b := we.heap.size) (n := we.heap.size) (by have h2 := (Array.getElem?_eq_some_iff.1 g9).1; omega) (by have h1 := be.size; have h2 := (Array.getElem?_eq_some_iff.1 g9).1; omega) low1
  have s7 := s8.chg chn (fun b hb => low1 b (m8.of_two b hb))
  have g7 := (chn.block gO (Array.getElem?_eq_some_iff.1 g8).1 (fun h => ne1 gO (m8.of_two gO h) rfl)).trans g8
  obtain ⟨n2, qc2, cc2, qu2, cu2, hnn, ec, eu⟩ := mkn.slicesN
  subst ec eu
  clear hnn
  refine hK.out _ _ (fun _ => KEEP1.out _ s7 g7) ?_
  clear hK K
  have nen : ∀ b, More S1 (fun b => wd.heap.size ≤ b ∧ b < we.heap.size) (fun _ => False) we.heap.size wf.heap.size b → b ≠ gO := fun b h e => by
    rcases h with h | h | h | h
    · exact ne1 b h e
    · have := (Array.getElem?_eq_some_iff.1 g9).1; omega
    · exact h
    · have := (Array.getElem?_eq_some_iff.1 g8).1; omega
  refine till_ready (rs := [5]) (by kernel_rfl) (by simp) ?_
  refine AllTill.cons rfl rfl (fun K hK => ?_) AllTill.nil
  have y0 := vblk_cell g7 0
  have y1 := vblk_cell g7 1
  have y2 := vblk_cell g7 2
  have y3 := vblk_cell g7 3
  have y4 := vblk_cell g7 4
  have fx := vblk_frozen g7
  simp only [List.getElem?_toArray, List.getElem?_cons_succ, List.getElem?_cons_zero] at y0 y1 y2 y3 y4
  go_simp
  clear y0 y1 y2 y3 y4 fx
  refine hK.out _ (put5 wf gO (.slice qc2 n2 cc2) (.slice qu2 n2 cu2)) (fun h => nomatch (show true = false from h)) ?_
  clear hK K
  have st2 := s7.put (a := .slice qc2 n2 cc2) (b := .slice qu2 n2 cu2) hlt2
  have mk2 := mkn.put (g := gO) (a := .slice qc2 n2 cc2) (b := .slice qu2 n2 cu2) (fun k => nen gO k rfl)
  have hO2 := put5_same (c := .slice qc2 n2 cc2) (u := .slice qu2 n2 cu2) g7
  obtain ⟨S2, hSn⟩ : ∃ S, S = More S1 (fun b => wd.heap.size ≤ b ∧ b < we.heap.size) (fun _ => False) we.heap.size wf.heap.size := ⟨_, rfl⟩
  rw [← hSn] at mk2 lown nen
  obtain ⟨w2, hWn⟩ : ∃ W, W = put5 wf gO (.slice qc2 n2 cc2) (.slice qu2 n2 cu2) := ⟨_, rfl⟩
  rw [← hWn] at st2 mk2 hO2
  rw [← hWn]
  have low2 := lown
  have ne2 := nen
  clear hSn hWn lown nen s7 g7 chn s8 m8 g8 be s9 m9 g9 pX mkn KEEP1
  refine till_done (by kernel_rfl) ?_ _
  go_wp2_with fail
  have KEEP2 : Hid (∀ W, RvS w W (.cells #[.string d.task, .slice a0 d.on.length c0, .slice a1 d.ins.length c1, .slice a2 d.envs.length c2, .bool d.keep] 52 (0, 0)) → W.heap[gO]? = some (boxM (.slice qc2 n2 cc2) (.slice qu2 n2 cu2)) → W.cell? ⟨w.heap.size, 0, none⟩ = some (.string d.task) ∧ W.cell? ⟨w.heap.size, 1, none⟩ = some (.slice a0 d.on.length c0) ∧ W.cell? ⟨w.heap.size, 2, none⟩ = some (.slice a1 d.ins.length c1) ∧ W.cell? ⟨w.heap.size, 3, none⟩ = some (.slice a2 d.envs.length c2) ∧ W.cell? ⟨w.heap.size, 4, none⟩ = some (.bool d.keep) ∧ W.cell? ⟨gO, 0, none⟩ = some (.int .i64 5) ∧ W.cell? ⟨gO, 1, none⟩ = some (.int .i64 0) ∧ W.cell? ⟨gO, 2, none⟩ = some (.string ⟨#[]⟩) ∧ W.cell? ⟨gO, 3, none⟩ = some (.slice qc2 n2 cc2) ∧ W.cell? ⟨gO, 4, none⟩ = some (.slice qu2 n2 cu2)) := fun W h g => by
    have hA := h.P
    exact ⟨vblk_cell hA 0, vblk_cell hA 1, vblk_cell hA 2, vblk_cell hA 3, vblk_cell hA 4, vblk_cell g 0, vblk_cell g 1, vblk_cell g 2, vblk_cell g 3, vblk_cell g 4⟩
  have s9 := st2.below (Below.refl _ w2).drew
  have m9 := mk2.keep (w' := w2.drew) (Nat.le_refl _) (fun _ _ => rfl)
  have g9 : w2.drew.heap[gO]? = some (boxM (.slice qc2 n2 cc2) (.slice qu2 n2 cu2)) := hO2
  refine till_region (fun W => W.cell? ⟨w.heap.size, 0, none⟩ = some (.string d.task) ∧ W.cell? ⟨w.heap.size, 1, none⟩ = some (.slice a0 d.on.length c0) ∧ W.cell? ⟨w.heap.size, 2, none⟩ = some (.slice a1 d.ins.length c1) ∧ W.cell? ⟨w.heap.size, 3, none⟩ = some (.slice a2 d.envs.length c2) ∧ W.cell? ⟨w.heap.size, 4, none⟩ = some (.bool d.keep) ∧ W.cell? ⟨gO, 0, none⟩ = some (.int .i64 5) ∧ W.cell? ⟨gO, 1, none⟩ = some (.int .i64 0) ∧ W.cell? ⟨gO, 2, none⟩ = some (.string ⟨#[]⟩) ∧ W.cell? ⟨gO, 3, none⟩ = some (.slice qc2 n2 cc2) ∧ W.cell? ⟨gO, 4, none⟩ = some (.slice qu2 n2 cu2)) 6 (by kernel_rfl) (KEEP2.out _ s9 g9) (fun hHeld => ?_)
  clear st2 mk2 hO2
  generalize w2.drew = wd at hHeld s9 m9 g9 ⊢
  refine till_at (k' := 7) (l' := #[false, false, false, false, false, false, false]) ?_ (by kernel_rfl) (by kernel_rfl)
  refine tu 0 hHeld (h := ?_)
  refine tv 1 hHeld (h := ?_)
  refine tu 2 hHeld (h := ?_)
  refine tv 3 hHeld (h := ?_)
  clear hHeld
  refine till_ready (rs := [4]) (by kernel_rfl) (by simp) ?_
  refine AllTill.cons rfl rfl (fun K hK => ?_) AllTill.nil
  go_simp
  go_wp2_with (go_at_call 65; refine (HKB.out _).mono ?_; rintro e we ⟨rfl, be⟩)
  have pX := part_text we
  have s8 := s9.below be
  have m8 := m9.keep be.size (Kp.of be m9.low)
  have g8 := box_below g9 be
  refine hK.out _ _ (fun _ => KEEP2.out _ s8 g8) ?_
  clear hK K
  refine till_ready (rs := [5]) (by kernel_rfl) (by simp) ?_
  refine AllTill.cons rfl rfl (fun K hK => ?_) AllTill.nil
  go_simp
  go_wp2_with (go_at_call 63; refine (withKey_mk S2 (fun _ => False) (fun _ => False) _ _ (.slice none 0 0) (.slice none 0 0) _ _ ⟨#[107, 101, 101, 112]⟩ 1 kn ⟨#[]⟩ [] [] we m8 pX (Nat.zero_le _) saneNil (fun _ h => h.elim) (fun _ h => h.elim) (by simp) (by decide)).mono ?_; rintro e wf ⟨c', u', rfl, mkn, chn⟩)
  have lown := more_low (m := wf.heap.size) (lo := w.heap.size + 1 + 1) (n := we.heap.size) (S := S2) (by have h1 := be.size; have h2 := (Array.getElem?_eq_some_iff.1 g9).1; omega) low2
  have s7 := s8.chg chn (fun b hb => low2 b (m8.of_two b hb))
  have g7 := (chn.block gO (Array.getElem?_eq_some_iff.1 g8).1 (fun h => ne2 gO (m8.of_two gO h) rfl)).trans g8
  obtain ⟨n3, qc3, cc3, qu3, cu3, hnn, ec, eu⟩ := mkn.slicesN
  subst ec eu
  clear hnn
  refine hK.out _ _ (fun _ => KEEP2.out _ s7 g7) ?_
  clear hK K
  have nen : ∀ b, More S2 (fun _ => False) (fun _ => False) we.heap.size wf.heap.size b → b ≠ gO := fun b h e => by
    rcases h with h | h | h | h
    · exact ne2 b h e
    · exact h
    · exact h
    · have := (Array.getElem?_eq_some_iff.1 g8).1; omega
  refine till_ready (rs := [6]) (by kernel_rfl) (by simp) ?_
  refine AllTill.cons rfl rfl (fun K hK => ?_) AllTill.nil
  have y0 := vblk_cell g7 0
  have y1 := vblk_cell g7 1
  have y2 := vblk_cell g7 2
  have y3 := vblk_cell g7 3
  have y4 := vblk_cell g7 4
  have fx := vblk_frozen g7
  simp only [List.getElem?_toArray, List.getElem?_cons_succ, List.getElem?_cons_zero] at y0 y1 y2 y3 y4
  go_simp
  clear y0 y1 y2 y3 y4 fx
  refine hK.out _ (put5 wf gO (.slice qc3 n3 cc3) (.slice qu3 n3 cu3)) (fun h => nomatch (show true = false from h)) ?_
  clear hK K
  have st3 := s7.put (a := .slice qc3 n3 cc3) (b := .slice qu3 n3 cu3) hlt2
  have mk3 := mkn.put (g := gO) (a := .slice qc3 n3 cc3) (b := .slice qu3 n3 cu3) (fun k => nen gO k rfl)
  have hO3 := put5_same (c := .slice qc3 n3 cc3) (u := .slice qu3 n3 cu3) g7
  obtain ⟨S3, hSn⟩ : ∃ S, S = More S2 (fun _ => False) (fun _ => False) we.heap.size wf.heap.size := ⟨_, rfl⟩
  rw [← hSn] at mk3 lown nen
  obtain ⟨w3, hWn⟩ : ∃ W, W = put5 wf gO (.slice qc3 n3 cc3) (.slice qu3 n3 cu3) := ⟨_, rfl⟩
  rw [← hWn] at st3 mk3 hO3
  rw [← hWn]
  have low3 := lown
  have ne3 := nen
  clear hSn hWn lown nen s7 g7 chn s8 m8 g8 be s9 m9 g9 pX mkn KEEP2
  refine till_done (by kernel_rfl) ?_ _
  go_wp2_with fail
  have KEEP3 : Hid (∀ W, RvS w W (.cells #[.string d.task, .slice a0 d.on.length c0, .slice a1 d.ins.length c1, .slice a2 d.envs.length c2, .bool d.keep] 52 (0, 0)) → W.heap[gO]? = some (boxM (.slice qc3 n3 cc3) (.slice qu3 n3 cu3)) → W.cell? ⟨w.heap.size, 0, none⟩ = some (.string d.task) ∧ W.cell? ⟨w.heap.size, 1, none⟩ = some (.slice a0 d.on.length c0) ∧ W.cell? ⟨w.heap.size, 2, none⟩ = some (.slice a1 d.ins.length c1) ∧ W.cell? ⟨w.heap.size, 3, none⟩ = some (.slice a2 d.envs.length c2) ∧ W.cell? ⟨w.heap.size, 4, none⟩ = some (.bool d.keep) ∧ W.cell? ⟨gO, 0, none⟩ = some (.int .i64 5) ∧ W.cell? ⟨gO, 1, none⟩ = some (.int .i64 0) ∧ W.cell? ⟨gO, 2, none⟩ = some (.string ⟨#[]⟩) ∧ W.cell? ⟨gO, 3, none⟩ = some (.slice qc3 n3 cc3) ∧ W.cell? ⟨gO, 4, none⟩ = some (.slice qu3 n3 cu3)) := fun W h g => by
    have hA := h.P
    exact ⟨vblk_cell hA 0, vblk_cell hA 1, vblk_cell hA 2, vblk_cell hA 3, vblk_cell hA 4, vblk_cell g 0, vblk_cell g 1, vblk_cell g 2, vblk_cell g 3, vblk_cell g 4⟩
  have s9 := st3.below (Below.refl _ w3).drew
  have m9 := mk3.keep (w' := w3.drew) (Nat.le_refl _) (fun _ _ => rfl)
  have g9 : w3.drew.heap[gO]? = some (boxM (.slice qc3 n3 cc3) (.slice qu3 n3 cu3)) := hO3
  refine till_region (fun W => W.cell? ⟨w.heap.size, 0, none⟩ = some (.string d.task) ∧ W.cell? ⟨w.heap.size, 1, none⟩ = some (.slice a0 d.on.length c0) ∧ W.cell? ⟨w.heap.size, 2, none⟩ = some (.slice a1 d.ins.length c1) ∧ W.cell? ⟨w.heap.size, 3, none⟩ = some (.slice a2 d.envs.length c2) ∧ W.cell? ⟨w.heap.size, 4, none⟩ = some (.bool d.keep) ∧ W.cell? ⟨gO, 0, none⟩ = some (.int .i64 5) ∧ W.cell? ⟨gO, 1, none⟩ = some (.int .i64 0) ∧ W.cell? ⟨gO, 2, none⟩ = some (.string ⟨#[]⟩) ∧ W.cell? ⟨gO, 3, none⟩ = some (.slice qc3 n3 cc3) ∧ W.cell? ⟨gO, 4, none⟩ = some (.slice qu3 n3 cu3)) 5 (by kernel_rfl) (KEEP3.out _ s9 g9) (fun hHeld => ?_)
  clear st3 mk3 hO3
  generalize w3.drew = wd at hHeld s9 m9 g9 ⊢
  refine till_at (k' := 6) (l' := #[false, false, false, false, false, false]) ?_ (by kernel_rfl) (by kernel_rfl)
  refine tu 0 hHeld (h := ?_)
  refine tv 1 hHeld (h := ?_)
  refine tu 2 hHeld (h := ?_)
  clear hHeld
  refine till_ready (rs := [3]) (by kernel_rfl) (by simp) ?_
  refine AllTill.cons rfl rfl (fun K hK => ?_) AllTill.nil
  go_simp
  go_wp2_with (go_at_call 64; refine (T0.out _ s9.B).mono ?_; rintro e we ⟨nX, qX, cX, rfl, pX, be⟩)
  have s8 := s9.below be
  have m8 := m9.keep be.size (Kp.of be m9.low)
  have g8 := box_below g9 be
  refine hK.out _ _ (fun _ => KEEP3.out _ s8 g8) ?_
  clear hK K
  refine till_ready (rs := [4]) (by kernel_rfl) (by simp) ?_
  refine AllTill.cons rfl rfl (fun K hK => ?_) AllTill.nil
  go_simp
  go_wp2_with (go_at_call 63; refine (withKey_mk S3 _ _ _ _ (.slice qX nX cX) (.slice none 0 0) _ _ ⟨#[111, 110]⟩ 4 0 ⟨#[]⟩ _ _ we m8 pX (Nat.zero_le _) saneNil (fun b hb => ⟨hb.2, fun h => by have := m9.low b h; omega⟩) (fun _ h => h.elim) (by simp) (by decide)).mono ?_; rintro e wf ⟨c', u', rfl, mkn, chn⟩)
  have lown := more_low1 (m := wf.heap.size) (lo := w.heap.size + 1 + 1) (S := S3) (a := wd.heap.size) (b := we.heap.size) (n := we.heap.size) (by have h2 := (Array.getElem?_eq_some_iff.1 g9).1; omega) (by have h1 := be.size; have h2 := (Array.getElem?_eq_some_iff.1 g9).1; omega) low3
  have s7 := s8.chg chn (fun b hb => low3 b (m8.of_two b hb))
  have g7 := (chn.block gO (Array.getElem?_eq_some_iff.1 g8).1 (fun h => ne3 gO (m8.of_two gO h) rfl)).trans g8
  obtain ⟨n4, qc4, cc4, qu4, cu4, hnn, ec, eu⟩ := mkn.slicesN
  subst ec eu
  clear hnn
  refine hK.out _ _ (fun _ => KEEP3.out _ s7 g7) ?_
  clear hK K
  refine till_ready (rs := [5]) (by kernel_rfl) (by simp) ?_
  refine AllTill.cons rfl rfl (fun K hK => ?_) AllTill.nil
  have hR := s7.R
  unfold boxZ at hR
  have y0 := vblk_cell hR 0
  have y1 := vblk_cell hR 1
  have y2 := vblk_cell hR 2
  have y3 := vblk_cell hR 3
  have y4 := vblk_cell hR 4
  have fx := vblk_frozen hR
  simp only [List.getElem?_toArray, List.getElem?_cons_succ, List.getElem?_cons_zero] at y0 y1 y2 y3 y4
  go_simp
  clear y0 y1 y2 y3 y4 fx hR
  refine hK.out _ (put5 wf (w.heap.size + 1) (.slice qc4 n4 cc4) (.slice qu4 n4 cu4)) (fun h => nomatch (show true = false from h)) ?_
  clear hK K
  have hR := put5_zero (c := .slice qc4 n4 cc4) (u := .slice qu4 n4 cu4) s7.R
  have mkE := (mkn.put (g := w.heap.size + 1) (a := .slice qc4 n4 cc4) (b := .slice qu4 n4 cu4) (fun k => by have := lown _ k; omega))
  have bE : Below w.heap.size w (put5 wf (w.heap.size + 1) (.slice qc4 n4 cc4) (.slice qu4 n4 cu4)) := put5_below s7.B (by omega)
  obtain ⟨w9, hWn⟩ : ∃ W, W = put5 wf (w.heap.size + 1) (.slice qc4 n4 cc4) (.slice qu4 n4 cu4) := ⟨_, rfl⟩
  rw [← hWn] at hR mkE bE
  rw [← hWn]
  have HF := hidden (mkE.mono (S' := fun b => w.heap.size ≤ b ∧ b < w9.heap.size) (fun b hb => ⟨by have := lown b hb; omega, mkE.low b hb⟩) (fun b hb => hb.2))
  unfold boxM at hR
  have y0 := vblk_cell hR 0
  have y1 := vblk_cell hR 1
  have y2 := vblk_cell hR 2
  have y3 := vblk_cell hR 3
  have y4 := vblk_cell hR 4
  simp only [List.getElem?_toArray, List.getElem?_cons_succ, List.getElem?_cons_zero] at y0 y1 y2 y3 y4
  clear hWn lown s7 g7 chn s8 m8 g8 be s9 m9 g9 pX mkn KEEP3 hR mkE
  refine till_done (by kernel_rfl) ?_ _
  go_wp2_with fail
  refine bodyPost_ret (v := .agg #[.int .i64 5, .int .i64 0, .string ⟨#[]⟩, .slice qc4 n4 cc4, .slice qu4 n4 cu4]) (by simp [results, Try.results27, go_sem, y0, y1, y2, y3, y4]) rfl ⟨_, _, rfl, by have h := HF.out; rw [HKN.out] at h; exact h, bE⟩
end Go.Proofs.Ytiadcebolcdhbaa
