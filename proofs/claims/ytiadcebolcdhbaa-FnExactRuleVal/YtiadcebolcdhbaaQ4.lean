/-
  Contracts for the walks, several texts in one: each part says what it proves, and under which conditions.
-/
import Derived.Test.YtiadcebolcdhbaaQ3

/-! A key and a value put behind those of a value that is being made, by the program: a contract for the walks; conditions: its rows may be written, and hold at most 2 to the 20. -/
namespace Go.Proofs.Ytiadcebolcdhbaa
open Go.RowKit
set_option linter.unusedSimpArgs false
set_option linter.unusedVariables false

def boxM (c u : Value) : Obj := .cells #[.int .i64 5, .int .i64 0, .string ⟨#[]⟩, c, u] 50 (0, 0)
def boxZ : Obj := .cells #[.int .i64 0, .int .i64 0, .string ⟨#[]⟩, .slice none 0 0, .slice none 0 0] 50 (0, 0)
/-- The blocks of two rows. -/
def OfTwo (c u : Value) (b : Nat) : Prop := c.ownBlock = some b ∨ u.ownBlock = some b
/-- A row lies where an elder one does, or in a block that is new. -/
def NewOr (w : World) (v old : Value) : Prop := v.ownBlock = old.ownBlock ∨ ∃ g, v.ownBlock = some g ∧ w.heap.size + 3 ≤ g
theorem newOr_of {w W : World} {v old : Value} {o : Obj} (hR : W.heap[w.heap.size + 1 + 1]? = some o) (h : v.ownBlock = old.ownBlock ∨ v.ownBlock = some W.heap.size) : NewOr w v old := by
  rcases h with h | h
  · exact .inl h
  · exact .inr ⟨_, h, by have := (Array.getElem?_eq_some_iff.1 hR).1; omega⟩
theorem NewOr.ne {w : World} {v old : Value} (h : NewOr w v old) (ho : ∀ g, old.ownBlock = some g → g < w.heap.size) {g : Nat} (hg : v.ownBlock = some g) : g ≠ w.heap.size ∧ g ≠ w.heap.size + 1 + 1 := by
  rcases h with h | ⟨g', h1, h2⟩
  · have := ho g (h.symm.trans hg); omega
  · rw [hg] at h1; injection h1 with h1; omega
theorem Chg.put {S : Nat → Prop} {w W : World} {g j : Nat} {v : Value} (h : Chg S w W) (hg : w.heap.size ≤ g) : Chg S w (W.setCell ⟨g, j, none⟩ v) :=
  ⟨h.os, h.tape, h.output, by have := h.size; simpa [World.setCell] using this, fun b hb hn => (Below.heap_setCell W ⟨g, j, none⟩ v b (by simp; omega)).trans (h.block b hb hn)⟩
theorem owns_below {w w' : World} {lo sz n : Nat} {e : TypeId} {v : Value} {xs : List Value} (h : w.ownsRow lo e sz v n xs) (hb : Below w.heap.size w w') : w'.ownsRow lo e sz v n xs := h.kept (grown_of_below hb none) (by cases hq : v.ownBlock <;> simp)
theorem box_str {w : World} {lo sz n g : Nat} {e t : TypeId} {v : Value} {xs : List Value} {cs : Array Value} (h : w.ownsRow lo e sz v n xs) (hb : w.heap[g]? = some (.cells cs t (0, 0))) (he : v.ownBlock = some g) (hne : e ≠ t) : False := by
  rcases h.2 with ⟨rfl, _⟩ | ⟨g', cap, cur, rfl, _, hg, _⟩
  · simp [Value.ownBlock] at he
  · simp [Value.ownBlock] at he
    subst he
    rw [hg] at hb
    simp at hb
    exact hne hb.2
theorem lit_src {w : World} {lo sz b m c : Nat} {e : TypeId} {xs : List Value} {j : Nat} {q : Value} (h : w.ownsRow lo e sz (.slice (some ⟨b, 0, none⟩) m c) m xs) (hq : xs[j]? = some q) (hl : xs.length = m * sz) : w.cell? ((⟨b, 0, none⟩ : Addr).add j) = some q := by
  have hj := (List.getElem?_eq_some_iff.1 hq).1
  have e : ((⟨b, 0, none⟩ : Addr).add j) = ⟨b, j, none⟩ := by unfold Addr.add; split <;> simp_all
  rw [e, h.cellAt j (by omega)]; exact hq
theorem wp_append_blk {P : Program} (w : World) {o : Oper} {a : Act} {K : Act → World → Prop} {Q : Exit → Act → World → Prop} (s x : Operand) (t : TypeId)
    (ho : o.op = .call { callee := .builtin .append, args := #[s, x], argTypes := #[t, t] })
    (base : Nat) (e : TypeId) (i : TypeInfo) (z : Value) (size bytes : Nat) (ht : P.underlying t = some (.slice e)) (hi : P.info? e = some i) (hz : i.zero = some z)
    (hsize : i.size = size) (hby : i.bytes = bytes) (hzs : z.cells.size = size) (hsz : 0 < size)
    (v : Value) (n : Nat) (xs : List Value) (hs : a.eval s = v) (hown : w.ownsRow base e size v n xs)
    (ad : Addr) (m c : Nat) (news : List Value) (hx : a.eval x = .slice (some ad) m c) (hl : news.length = m * size) (hnews : ∀ j u, news[j]? = some u → w.cell? (ad.add j) = some u) (h1 : ∀ u ∈ news, u.oneCell' = true)
    (h63 : n + m ≤ maxLen) (hbytes : (n + m) * bytes ≤ 140737488355328) (hbase : base ≤ w.heap.size) (hm : 0 < m)
    (h : ∀ v' w', w'.ownsRow base e size v' (n + m) (xs ++ news) → w.grownBy w' v.ownBlock → (v'.ownBlock = v.ownBlock ∨ v'.ownBlock = some w.heap.size) → K (a.put o.dst v') w') : o.wp P a w K Q := by
  obtain ⟨v', w', hr, h2, h3, _⟩ := run_append_own (P := P) w base t o.type e i z size bytes ht hi hz hsize hby hzs hsz v n xs hown ad m c news hl hnews h1 h63 hbytes hbase
  have h4 := append_block w base t o.type e i z size bytes ht hi hz hsize hby hzs hsz v n xs hown ad m c news hl hnews h1 h63 hbytes hm v' w' hr
  unfold Oper.wp execOp
  simp only [ho, resolve, invoke, builtin, Sem.run_bind, Sem.run_pure, Result.andThen_ok, List.map_toArray, List.map_cons, List.map_nil, hs, hx, hr]
  exact h v' w' h2 h3 h4

set_option maxHeartbeats 40000000 in
set_option maxRecDepth 100000 in
theorem withKey_c (c u : Value) (n : Nat) (ys : List Value) (ks : List ByteArray) (key : ByteArray) (k0 n0 : Int) (s0 : ByteArray) (ql : Option Addr) (nl cl : Nat) (qk : Option Addr) (nk ck : Nat) (w : World) (hc : w.ownsRow 0 50 5 c n ys) (hu : w.ownsRow 0 9 1 u n (strsV ks)) (hn : n ≤ 1048576) (hkey : key.size ≤ 1048576) :
    Calls Try.prog 63 #[.agg #[.int .i64 5, .int .i64 0, .string ⟨#[]⟩, c, u], .string key, .agg #[.int .i64 k0, .int .i64 n0, .string s0, .slice ql nl cl, .slice qk nk ck]] w fun e w' => ∃ c' u', e = .returned (.agg #[.int .i64 5, .int .i64 0, .string ⟨#[]⟩, c', u']) ∧ w'.ownsRow 0 50 5 c' (n + 1) (ys ++ [.int .i64 k0, .int .i64 n0, .string s0, .slice ql nl cl, .slice qk nk ck]) ∧ w'.ownsRow 0 9 1 u' (n + 1) (strsV ks ++ [.string key]) ∧ NewOr w c' c ∧ NewOr w u' u ∧ Chg (OfTwo c u) w w' := by
  obtain ⟨qc, cc, ec⟩ := owns_sl hc
  subst ec
  obtain ⟨qu, cu, eu⟩ := owns_sl hu
  subst eu
  obtain ⟨i0, hi, hz0, hz1, hz2⟩ := info_parts infoVal
  obtain ⟨j0, hj, hy0, hy1, hy2⟩ := info_parts infoS
  have hcw : ∀ g, (Value.slice qc n cc).ownBlock = some g → g < w.heap.size := fun g h => (owns_in hc g h).2
  have huw : ∀ g, (Value.slice qu n cu).ownBlock = some g → g < w.heap.size := fun g h => (owns_in hu g h).2
  have HC := hidden (fun w1 => clone_c key w1 hkey)
  have hb3 : ∀ A R O, Below w.heap.size w (((w.alloc A).alloc R).alloc O) := fun A R O => (((Below.refl _ _).alloc (Nat.le_refl _) _).alloc (by simp) _).alloc (by simp; omega) _
  have H3 : Hid (∀ A R O, (((w.alloc A).alloc R).alloc O).heap[w.heap.size]? = some A ∧ (((w.alloc A).alloc R).alloc O).heap[w.heap.size + 1]? = some R ∧ (((w.alloc A).alloc R).alloc O).heap[w.heap.size + 1 + 1]? = some O) := fun A R O => vthree (Below.refl _ _)
  have HB3 := hidden hb3
  have HCw := hidden hc
  have HUw := hidden hu
  clear hc hu hb3
  go_enter Try.func63, Try.ntmps63
  go_wp2_with fail
  obtain ⟨hM, hV, hR⟩ := H3.out (boxM (.slice qc n cc) (.slice qu n cu)) (.cells #[.int .i64 k0, .int .i64 n0, .string s0, .slice ql nl cl, .slice qk nk ck] 50 (0, 0)) boxZ
  have hc := owns_below HCw.out (HB3.out (boxM (.slice qc n cc) (.slice qu n cu)) (.cells #[.int .i64 k0, .int .i64 n0, .string s0, .slice ql nl cl, .slice qk nk ck] 50 (0, 0)) boxZ).drew
  have hu := owns_below HUw.out (HB3.out (boxM (.slice qc n cc) (.slice qu n cu)) (.cells #[.int .i64 k0, .int .i64 n0, .string s0, .slice ql nl cl, .slice qk nk ck] 50 (0, 0)) boxZ).drew
  have hch : Chg (OfTwo (.slice qc n cc) (.slice qu n cu)) w _ := Chg.of (HB3.out (boxM (.slice qc n cc) (.slice qu n cu)) (.cells #[.int .i64 k0, .int .i64 n0, .string s0, .slice ql nl cl, .slice qk nk ck] 50 (0, 0)) boxZ).drew
  refine wp_region_held_drew (S := fun _ => True) (by kernel_rfl) True.intro (fun hHeld => ?_)
  refine wpAnyH_take (i := 0) (oi := _) (v := ?vT1) rfl (by kernel_rfl) (by kernel_rfl) (by kernel_rfl) (fun _ _ _ h => h) (Or.inl ⟨by rfl, ?yT1⟩) hHeld ?_
  case yT1 => (intro w hSw; (try dsimp only at hSw); go_simp <;> with_reducible rfl)
  try simp only [Act.put, List.getElem_toArray, List.getElem_cons_zero, List.getElem_cons_succ, List.setIfInBounds_toArray, List.set_cons_zero, List.set_cons_succ]
  refine wpAnyH_take (i := 2) (oi := _) (v := ?vT2) rfl (by kernel_rfl) (by kernel_rfl) (by kernel_rfl) (fun _ _ _ h => h) (Or.inl ⟨by rfl, ?yT2⟩) hHeld ?_
  case yT2 => (intro w hSw; (try dsimp only at hSw); go_simp <;> with_reducible rfl)
  try simp only [Act.put, List.getElem_toArray, List.getElem_cons_zero, List.getElem_cons_succ, List.setIfInBounds_toArray, List.set_cons_zero, List.set_cons_succ]
  refine wpAnyH_take (i := 6) (oi := _) (v := ?vT3) rfl (by kernel_rfl) (by kernel_rfl) (by kernel_rfl) (fun _ _ _ h => h) (Or.inl ⟨by rfl, ?yT3⟩) hHeld ?_
  case yT3 => (intro w hSw; (try dsimp only at hSw); go_simp <;> with_reducible rfl)
  try simp only [Act.put, List.getElem_toArray, List.getElem_cons_zero, List.getElem_cons_succ, List.setIfInBounds_toArray, List.set_cons_zero, List.set_cons_succ]
  refine as_phi2 (fun Φ hΦ => ?_)
  have N12121 : Hid (∀ (W : World) (hM : W.heap[w.heap.size]? = some (boxM (.slice qc n cc) (.slice qu n cu))) (hV : W.heap[w.heap.size + 1]? = some (.cells ([.int .i64 k0, .int .i64 n0, .string s0, .slice ql nl cl, .slice qk nk ck]).toArray 50 (0, 0))) (hR : W.heap[w.heap.size + 1 + 1]? = some boxZ) (hc : W.ownsRow 0 50 5 (.slice qc n cc) n ys) (hch : Chg (OfTwo (.slice qc n cc) (.slice qu n cu)) w W) (bb : Nat) (qu2 : Option Addr) (cu2 : Nat) (hu2 : W.ownsRow 0 9 1 (.slice qu2 (n + 1) cu2) (n + 1) (strsV ks ++ [.string key])) (hul : NewOr w (.slice qu2 (n + 1) cu2) (.slice qu n cu)) (bd : Nat) (hbd : W.ownsRow 0 50 5 (.slice (some ⟨bd, 0, none⟩) 1 1) 1 [.int .i64 k0, .int .i64 n0, .string s0, .slice ql nl cl, .slice qk nk ck]) (hbw : w.heap.size ≤ bd), Φ 4 #[true, true, true, true, true, true, true, true, true, true, false, true, false, false, false] { tmps := #[.agg #[.int .i64 5, .int .i64 0, .string ⟨#[]⟩, .slice qc n cc, .slice qu n cu], .string key, .agg #[.int .i64 k0, .int .i64 n0, .string s0, .slice ql nl cl, .slice qk nk ck], .pointer (some ⟨w.heap.size, 0, none⟩), undef, .pointer (some ⟨w.heap.size + 1, 0, none⟩), .pointer (some ⟨w.heap.size + 1 + 1, 0, none⟩), .pointer (some ⟨w.heap.size, 4, none⟩), .slice qu n cu, .string key, .string key, .slice (some ⟨bb, 0, none⟩) 1 1, .slice qu2 (n + 1) cu2, .pointer (some ⟨w.heap.size, 3, none⟩), .slice qc n cc, .agg #[.int .i64 k0, .int .i64 n0, .string s0, .slice ql nl cl, .slice qk nk ck], .slice (some ⟨bd, 0, none⟩) 1 1, undef, .pointer (some ⟨w.heap.size, 4, none⟩), undef, undef], defers := [] } W) := by
    intro W hM hV hR hc hch bb qu2 cu2 hu2 hul bd hbd hbw
    rw [hΦ]
    have hHeld : True := True.intro
    refine wpAnyH_ready (rs := [10]) (by kernel_rfl) (by simp) ?_
    refine AllReadyH.cons rfl (fun K hK => ?_) AllReadyH.nil
    rw [if_pos (by rfl)]
    refine wp_append_blk _ _ _ 48 rfl 0 50 i0 (.agg #[.int .i64 0, .int .i64 0, .string ⟨#[]⟩, .slice none 0 0, .slice none 0 0]) 5 80 Try.underlying48 hi hz0 hz1 hz2 rfl (by decide) (.slice qc n cc) n _ rfl hc ⟨bd, 0, none⟩ 1 1 [.int .i64 k0, .int .i64 n0, .string s0, .slice ql nl cl, .slice qk nk ck] rfl rfl (fun j q hq => lit_src hbd hq (by simp)) (by simp [Value.oneCell']) (by unfold maxLen; omega) (by omega) (Nat.zero_le _) (by omega) ?_
    intro c2 W1 hc2 g1 l1
    obtain ⟨qc2, cc2, ec2⟩ := owns_sl hc2
    subst ec2
    have hcl := newOr_of hR l1
    have hM := (g1.block _ (Array.getElem?_eq_some_iff.1 hM).1 (fun e => by have := hcw _ e.symm; omega)).trans hM
    have hV := (g1.block _ (Array.getElem?_eq_some_iff.1 hV).1 (fun e => by have := hcw _ e.symm; omega)).trans hV
    have hR := (g1.block _ (Array.getElem?_eq_some_iff.1 hR).1 (fun e => by have := hcw _ e.symm; omega)).trans hR
    have hu2 := hu2.kept g1 (owns_apart hu2 hc (by decide))
    have hch := hch.trans (Chg.grown g1 (fun g h => .inl h))
    clear hHeld
    refine hK.out _ _ True.intro (fun hHeld => ?_)
    clear hK K
    try simp only [Act.put, List.getElem_toArray, List.getElem_cons_zero, List.getElem_cons_succ, List.setIfInBounds_toArray, List.set_cons_zero, List.set_cons_succ]
    have z4 := vblk_cell hM 4
    have fz := vblk_frozen hM
    simp only [boxM, List.getElem?_toArray, List.getElem?_cons_succ, List.getElem?_cons_zero] at z4
    refine wpAnyH_ready (rs := [12]) (by kernel_rfl) (by simp) ?_
    refine AllReadyH.cons rfl (fun K hK => ?_) AllReadyH.nil
    go_simp
    clear hHeld
    refine hK.out _ _ True.intro (fun hHeld => ?_)
    clear hK K
    try simp only [Act.put, List.getElem_toArray, List.getElem_cons_zero, List.getElem_cons_succ, List.setIfInBounds_toArray, List.set_cons_zero, List.set_cons_succ]
    have hM := heap_setCell_same W1 w.heap.size 4 _ _ (.slice qu2 (n + 1) cu2) hM
    clear z4 fz
    refine wpAnyH_take (i := 13) (oi := _) (v := ?vT4) rfl (by kernel_rfl) (by kernel_rfl) (by kernel_rfl) (fun _ _ _ h => h) (Or.inl ⟨by rfl, ?yT4⟩) hHeld ?_
    case yT4 => (intro w hSw; (try dsimp only at hSw); go_simp <;> with_reducible rfl)
    try simp only [Act.put, List.getElem_toArray, List.getElem_cons_zero, List.getElem_cons_succ, List.setIfInBounds_toArray, List.set_cons_zero, List.set_cons_succ]
    have z3 := vblk_cell hM 3
    have fz := vblk_frozen hM
    simp only [List.getElem?_toArray, List.getElem?_cons_succ, List.getElem?_cons_zero, List.setIfInBounds_toArray, List.set_cons_succ, List.set_cons_zero] at z3
    refine wpAnyH_ready (rs := [14]) (by kernel_rfl) (by simp) ?_
    refine AllReadyH.cons rfl (fun K hK => ?_) AllReadyH.nil
    go_simp
    clear hHeld
    refine hK.out _ _ True.intro (fun hHeld => ?_)
    clear hK K
    try simp only [Act.put, List.getElem_toArray, List.getElem_cons_zero, List.getElem_cons_succ, List.setIfInBounds_toArray, List.set_cons_zero, List.set_cons_succ]
    refine wpAnyH_done (by kernel_rfl) ?_ _
    clear hHeld z3 fz
    have hM2 := heap_setCell_same _ w.heap.size 3 _ _ (.slice qc2 (n + 1) cc2) hM
    have hR2 := (Below.heap_setCell (W1.setCell ⟨w.heap.size, 4, none⟩ (.slice qu2 (n + 1) cu2)) ⟨w.heap.size, 3, none⟩ (.slice qc2 (n + 1) cc2) (w.heap.size + 1 + 1) (by simp; omega)).trans ((Below.heap_setCell W1 ⟨w.heap.size, 4, none⟩ (.slice qu2 (n + 1) cu2) (w.heap.size + 1 + 1) (by simp; omega)).trans hR)
    have x0 := vblk_cell hM2 0
    have x1 := vblk_cell hM2 1
    have x2 := vblk_cell hM2 2
    have x3 := vblk_cell hM2 3
    have x4 := vblk_cell hM2 4
    have y0 := vblk_cell hR2 0
    have y1 := vblk_cell hR2 1
    have y2 := vblk_cell hR2 2
    have y3 := vblk_cell hR2 3
    have y4 := vblk_cell hR2 4
    have fy := vblk_frozen hR2
    simp only [boxZ, List.getElem?_toArray, List.getElem?_cons_succ, List.getElem?_cons_zero, List.setIfInBounds_toArray, List.set_cons_succ, List.set_cons_zero] at x0 x1 x2 x3 x4 y0 y1 y2 y3 y4
    have HF := hidden (And.intro hc2 (And.intro hu2 (And.intro hcl (And.intro hul hch))))
    clear hc2 hu2 hcl hul hch hM hM2 hR hR2 hV hbd g1 l1 hc
    go_wp2_with fail
    refine bodyPost_ret (v := .agg #[.int .i64 5, .int .i64 0, .string ⟨#[]⟩, .slice qc2 (n + 1) cc2, .slice qu2 (n + 1) cu2]) (by simp [results, Try.results63, go_sem, x0, x1, x2, x3, x4, y0, y1, y2, y3, y4]) rfl ⟨_, _, rfl, ?_, ?_, HF.out.2.2.1, HF.out.2.2.2.1, ?_⟩
    · refine owns_kept (S := fun b => b ≠ w.heap.size ∧ b ≠ w.heap.size + 1 + 1) ?_ (fun g h => HF.out.2.2.1.ne hcw h) HF.out.1
      (repeat (refine Kp.trans ?_ (Kp.set (by simp))))
      exact fun b hb => rfl
    · refine owns_kept (S := fun b => b ≠ w.heap.size ∧ b ≠ w.heap.size + 1 + 1) ?_ (fun g h => HF.out.2.2.2.1.ne huw h) HF.out.2.1
      (repeat (refine Kp.trans ?_ (Kp.set (by simp))))
      exact fun b hb => rfl
    · (repeat (refine Chg.put ?_ (by omega)))
      exact HF.out.2.2.2.2
  have N12120 : Hid (∀ (W : World) (hM : W.heap[w.heap.size]? = some (boxM (.slice qc n cc) (.slice qu n cu))) (hV : W.heap[w.heap.size + 1]? = some (.cells ([.int .i64 k0, .int .i64 n0, .string s0, .slice ql nl cl, .slice qk nk ck]).toArray 50 (0, 0))) (hR : W.heap[w.heap.size + 1 + 1]? = some boxZ) (hc : W.ownsRow 0 50 5 (.slice qc n cc) n ys) (hch : Chg (OfTwo (.slice qc n cc) (.slice qu n cu)) w W) (hu : W.ownsRow 0 9 1 (.slice qu n cu) n (strsV ks)) (bb : Nat) (hbb : W.ownsRow 0 9 1 (.slice (some ⟨bb, 0, none⟩) 1 1) 1 [.string key]) (bd : Nat) (hbd : W.ownsRow 0 50 5 (.slice (some ⟨bd, 0, none⟩) 1 1) 1 [.int .i64 k0, .int .i64 n0, .string s0, .slice ql nl cl, .slice qk nk ck]) (hbw : w.heap.size ≤ bd), Φ 6 #[true, true, true, true, true, false, true, true, true, true, false, false, false, false, false] { tmps := #[.agg #[.int .i64 5, .int .i64 0, .string ⟨#[]⟩, .slice qc n cc, .slice qu n cu], .string key, .agg #[.int .i64 k0, .int .i64 n0, .string s0, .slice ql nl cl, .slice qk nk ck], .pointer (some ⟨w.heap.size, 0, none⟩), undef, .pointer (some ⟨w.heap.size + 1, 0, none⟩), .pointer (some ⟨w.heap.size + 1 + 1, 0, none⟩), .pointer (some ⟨w.heap.size, 4, none⟩), .slice qu n cu, .string key, .string key, .slice (some ⟨bb, 0, none⟩) 1 1, undef, .pointer (some ⟨w.heap.size, 3, none⟩), .slice qc n cc, .agg #[.int .i64 k0, .int .i64 n0, .string s0, .slice ql nl cl, .slice qk nk ck], .slice (some ⟨bd, 0, none⟩) 1 1, undef, undef, undef, undef], defers := [] } W) := by
    intro W hM hV hR hc hch hu bb hbb bd hbd hbw
    rw [hΦ]
    have hHeld : True := True.intro
    refine wpAnyH_ready (rs := [5]) (by kernel_rfl) (by simp) ?_
    refine AllReadyH.cons rfl (fun K hK => ?_) AllReadyH.nil
    rw [if_pos (by rfl)]
    refine wp_append_blk _ _ _ 26 rfl 0 9 j0 (.string ⟨#[]⟩) 1 16 Try.underlying26 hj hy0 hy1 hy2 rfl (by decide) (.slice qu n cu) n _ rfl hu ⟨bb, 0, none⟩ 1 1 [.string key] rfl rfl (fun j q hq => lit_src hbb hq (by simp)) (by simp [Value.oneCell']) (by unfold maxLen; omega) (by omega) (Nat.zero_le _) (by omega) ?_
    intro u2 W1 hu2 g1 l1
    obtain ⟨qu2, cu2, eu2⟩ := owns_sl hu2
    subst eu2
    have hul := newOr_of hR l1
    have hM := (g1.block _ (Array.getElem?_eq_some_iff.1 hM).1 (fun e => box_str hu hM e.symm (by decide))).trans hM
    have hV := (g1.block _ (Array.getElem?_eq_some_iff.1 hV).1 (fun e => box_str hu hV e.symm (by decide))).trans hV
    have hR := (g1.block _ (Array.getElem?_eq_some_iff.1 hR).1 (fun e => box_str hu hR e.symm (by decide))).trans hR
    have hc := hc.kept g1 (owns_apart hc hu (by decide))
    have hbd := hbd.kept g1 (owns_apart hbd hu (by decide))
    have hch := hch.trans (Chg.grown g1 (fun g h => .inr h))
    clear hHeld
    refine hK.out _ _ True.intro (fun hHeld => ?_)
    clear hK K
    try simp only [Act.put, List.getElem_toArray, List.getElem_cons_zero, List.getElem_cons_succ, List.setIfInBounds_toArray, List.set_cons_zero, List.set_cons_succ]
    refine wpAnyH_take (i := 11) (oi := _) (v := ?vT5) rfl (by kernel_rfl) (by kernel_rfl) (by kernel_rfl) (fun _ _ _ h => h) (Or.inl ⟨by rfl, ?yT5⟩) hHeld ?_
    case yT5 => (intro w hSw; (try dsimp only at hSw); go_simp <;> with_reducible rfl)
    try simp only [Act.put, List.getElem_toArray, List.getElem_cons_zero, List.getElem_cons_succ, List.setIfInBounds_toArray, List.set_cons_zero, List.set_cons_succ]
    have h := N12121.out W1 hM hV hR hc hch bb qu2 cu2 hu2 hul bd hbd hbw
    rw [hΦ] at h
    exact wpAny_at2 h (by kernel_rfl) (by kernel_rfl)
  have N12021 : Hid (∀ (W : World) (hM : W.heap[w.heap.size]? = some (boxM (.slice qc n cc) (.slice qu n cu))) (hV : W.heap[w.heap.size + 1]? = some (.cells ([.int .i64 k0, .int .i64 n0, .string s0, .slice ql nl cl, .slice qk nk ck]).toArray 50 (0, 0))) (hR : W.heap[w.heap.size + 1 + 1]? = some boxZ) (hc : W.ownsRow 0 50 5 (.slice qc n cc) n ys) (hch : Chg (OfTwo (.slice qc n cc) (.slice qu n cu)) w W) (bb : Nat) (qu2 : Option Addr) (cu2 : Nat) (hu2 : W.ownsRow 0 9 1 (.slice qu2 (n + 1) cu2) (n + 1) (strsV ks ++ [.string key])) (hul : NewOr w (.slice qu2 (n + 1) cu2) (.slice qu n cu)) (bd : Nat) (hbd : W.ownsRow 0 50 5 (.slice (some ⟨bd, 0, none⟩) 1 1) 1 [.int .i64 k0, .int .i64 n0, .string s0, .slice ql nl cl, .slice qk nk ck]) (hbw : w.heap.size ≤ bd), Φ 6 #[true, true, true, true, true, true, true, false, true, true, false, false, false, false, false] { tmps := #[.agg #[.int .i64 5, .int .i64 0, .string ⟨#[]⟩, .slice qc n cc, .slice qu n cu], .string key, .agg #[.int .i64 k0, .int .i64 n0, .string s0, .slice ql nl cl, .slice qk nk ck], .pointer (some ⟨w.heap.size, 0, none⟩), undef, .pointer (some ⟨w.heap.size + 1, 0, none⟩), .pointer (some ⟨w.heap.size + 1 + 1, 0, none⟩), .pointer (some ⟨w.heap.size, 4, none⟩), .slice qu n cu, .string key, .string key, .slice (some ⟨bb, 0, none⟩) 1 1, .slice qu2 (n + 1) cu2, .pointer (some ⟨w.heap.size, 3, none⟩), undef, .agg #[.int .i64 k0, .int .i64 n0, .string s0, .slice ql nl cl, .slice qk nk ck], .slice (some ⟨bd, 0, none⟩) 1 1, undef, undef, undef, undef], defers := [] } W) := by
    intro W hM hV hR hc hch bb qu2 cu2 hu2 hul bd hbd hbw
    rw [hΦ]
    have hHeld : True := True.intro
    refine wpAnyH_ready (rs := [7]) (by kernel_rfl) (by simp) ?_
    refine AllReadyH.cons rfl (fun K hK => ?_) AllReadyH.nil
    have z3 := vblk_cell hM 3
    simp only [boxM, List.getElem?_toArray, List.getElem?_cons_succ, List.getElem?_cons_zero] at z3
    go_simp
    clear z3
    clear hHeld
    refine hK.out _ _ True.intro (fun hHeld => ?_)
    clear hK K
    try simp only [Act.put, List.getElem_toArray, List.getElem_cons_zero, List.getElem_cons_succ, List.setIfInBounds_toArray, List.set_cons_zero, List.set_cons_succ]
    refine wpAnyH_take (i := 11) (oi := _) (v := ?vT6) rfl (by kernel_rfl) (by kernel_rfl) (by kernel_rfl) (fun _ _ _ h => h) (Or.inl ⟨by rfl, ?yT6⟩) hHeld ?_
    case yT6 => (intro w hSw; (try dsimp only at hSw); go_simp <;> with_reducible rfl)
    try simp only [Act.put, List.getElem_toArray, List.getElem_cons_zero, List.getElem_cons_succ, List.setIfInBounds_toArray, List.set_cons_zero, List.set_cons_succ]
    have h := N12121.out W hM hV hR hc hch bb qu2 cu2 hu2 hul bd hbd hbw
    rw [hΦ] at h
    exact wpAny_at2 h (by kernel_rfl) (by kernel_rfl)
  have N12111 : Hid (∀ (W : World) (hM : W.heap[w.heap.size]? = some (boxM (.slice qc n cc) (.slice qu n cu))) (hV : W.heap[w.heap.size + 1]? = some (.cells ([.int .i64 k0, .int .i64 n0, .string s0, .slice ql nl cl, .slice qk nk ck]).toArray 50 (0, 0))) (hR : W.heap[w.heap.size + 1 + 1]? = some boxZ) (hc : W.ownsRow 0 50 5 (.slice qc n cc) n ys) (hch : Chg (OfTwo (.slice qc n cc) (.slice qu n cu)) w W) (bb : Nat) (qu2 : Option Addr) (cu2 : Nat) (hu2 : W.ownsRow 0 9 1 (.slice qu2 (n + 1) cu2) (n + 1) (strsV ks ++ [.string key])) (hul : NewOr w (.slice qu2 (n + 1) cu2) (.slice qu n cu)), Φ 5 #[true, true, true, true, true, true, true, true, true, false, false, true, false, false, false] { tmps := #[.agg #[.int .i64 5, .int .i64 0, .string ⟨#[]⟩, .slice qc n cc, .slice qu n cu], .string key, .agg #[.int .i64 k0, .int .i64 n0, .string s0, .slice ql nl cl, .slice qk nk ck], .pointer (some ⟨w.heap.size, 0, none⟩), undef, .pointer (some ⟨w.heap.size + 1, 0, none⟩), .pointer (some ⟨w.heap.size + 1 + 1, 0, none⟩), .pointer (some ⟨w.heap.size, 4, none⟩), .slice qu n cu, .string key, .string key, .slice (some ⟨bb, 0, none⟩) 1 1, .slice qu2 (n + 1) cu2, .pointer (some ⟨w.heap.size, 3, none⟩), .slice qc n cc, .agg #[.int .i64 k0, .int .i64 n0, .string s0, .slice ql nl cl, .slice qk nk ck], undef, undef, .pointer (some ⟨w.heap.size, 4, none⟩), undef, undef], defers := [] } W) := by
    intro W hM hV hR hc hch bb qu2 cu2 hu2 hul
    rw [hΦ]
    have hHeld : True := True.intro
    refine wpAnyH_ready (rs := [9]) (by kernel_rfl) (by simp) ?_
    refine AllReadyH.cons rfl (fun K hK => ?_) AllReadyH.nil
    have hV0 := hV
    go_simp
    have ka : Below W.heap.size W (W.alloc (.cells ([.int .i64 k0, .int .i64 n0, .string s0, .slice ql nl cl, .slice qk nk ck]).toArray 50)) := (Below.refl _ _).alloc (Nat.le_refl _) _
    have hM := (ka.block _ (Array.getElem?_eq_some_iff.1 hM).1).trans hM
    have hV := (ka.block _ (Array.getElem?_eq_some_iff.1 hV).1).trans hV
    have hR := (ka.block _ (Array.getElem?_eq_some_iff.1 hR).1).trans hR
    have hc := owns_below hc ka
    have hu2 := owns_below hu2 ka
    have hch := hch.trans (Chg.of ka)
    have hbd : (W.alloc (.cells ([.int .i64 k0, .int .i64 n0, .string s0, .slice ql nl cl, .slice qk nk ck]).toArray 50)).ownsRow 0 50 5 (.slice (some ⟨W.heap.size, 0, none⟩) 1 1) 1 [.int .i64 k0, .int .i64 n0, .string s0, .slice ql nl cl, .slice qk nk ck] := owns_lo (Nat.zero_le _) (World.ownsRow_lit W ([.int .i64 k0, .int .i64 n0, .string s0, .slice ql nl cl, .slice qk nk ck]).toArray 1 (Nat.le_refl _) (by unfold maxLen; omega) rfl)
    obtain ⟨bd, hbe⟩ : ∃ q, q = W.heap.size := ⟨_, rfl⟩
    rw [← hbe] at hbd
    try rw [← hbe]
    have hbw : w.heap.size ≤ bd := by rw [hbe]; have := (Array.getElem?_eq_some_iff.1 hV0).1; omega
    clear hHeld
    refine hK.out _ (W.alloc (.cells ([.int .i64 k0, .int .i64 n0, .string s0, .slice ql nl cl, .slice qk nk ck]).toArray 50)) True.intro (fun hHeld => ?_)
    clear hK K
    try simp only [Act.put, List.getElem_toArray, List.getElem_cons_zero, List.getElem_cons_succ, List.setIfInBounds_toArray, List.set_cons_zero, List.set_cons_succ]
    have h := N12121.out (W.alloc (.cells ([.int .i64 k0, .int .i64 n0, .string s0, .slice ql nl cl, .slice qk nk ck]).toArray 50)) hM hV hR hc hch bb qu2 cu2 hu2 hul bd hbd hbw
    rw [hΦ] at h
    exact wpAny_at2 h (by kernel_rfl) (by kernel_rfl)
  have N02120 : Hid (∀ (W : World) (hM : W.heap[w.heap.size]? = some (boxM (.slice qc n cc) (.slice qu n cu))) (hV : W.heap[w.heap.size + 1]? = some (.cells ([.int .i64 k0, .int .i64 n0, .string s0, .slice ql nl cl, .slice qk nk ck]).toArray 50 (0, 0))) (hR : W.heap[w.heap.size + 1 + 1]? = some boxZ) (hc : W.ownsRow 0 50 5 (.slice qc n cc) n ys) (hch : Chg (OfTwo (.slice qc n cc) (.slice qu n cu)) w W) (hu : W.ownsRow 0 9 1 (.slice qu n cu) n (strsV ks)) (bb : Nat) (hbb : W.ownsRow 0 9 1 (.slice (some ⟨bb, 0, none⟩) 1 1) 1 [.string key]) (bd : Nat) (hbd : W.ownsRow 0 50 5 (.slice (some ⟨bd, 0, none⟩) 1 1) 1 [.int .i64 k0, .int .i64 n0, .string s0, .slice ql nl cl, .slice qk nk ck]) (hbw : w.heap.size ≤ bd), Φ 7 #[true, false, true, true, true, false, true, true, true, true, false, false, false, false, false] { tmps := #[.agg #[.int .i64 5, .int .i64 0, .string ⟨#[]⟩, .slice qc n cc, .slice qu n cu], .string key, .agg #[.int .i64 k0, .int .i64 n0, .string s0, .slice ql nl cl, .slice qk nk ck], .pointer (some ⟨w.heap.size, 0, none⟩), undef, .pointer (some ⟨w.heap.size + 1, 0, none⟩), .pointer (some ⟨w.heap.size + 1 + 1, 0, none⟩), .pointer (some ⟨w.heap.size, 4, none⟩), undef, .string key, .string key, .slice (some ⟨bb, 0, none⟩) 1 1, undef, .pointer (some ⟨w.heap.size, 3, none⟩), .slice qc n cc, .agg #[.int .i64 k0, .int .i64 n0, .string s0, .slice ql nl cl, .slice qk nk ck], .slice (some ⟨bd, 0, none⟩) 1 1, undef, undef, undef, undef], defers := [] } W) := by
    intro W hM hV hR hc hch hu bb hbb bd hbd hbw
    rw [hΦ]
    have hHeld : True := True.intro
    refine wpAnyH_ready (rs := [1]) (by kernel_rfl) (by simp) ?_
    refine AllReadyH.cons rfl (fun K hK => ?_) AllReadyH.nil
    have z4 := vblk_cell hM 4
    simp only [boxM, List.getElem?_toArray, List.getElem?_cons_succ, List.getElem?_cons_zero] at z4
    go_simp
    clear z4
    clear hHeld
    refine hK.out _ _ True.intro (fun hHeld => ?_)
    clear hK K
    try simp only [Act.put, List.getElem_toArray, List.getElem_cons_zero, List.getElem_cons_succ, List.setIfInBounds_toArray, List.set_cons_zero, List.set_cons_succ]
    have h := N12120.out W hM hV hR hc hch hu bb hbb bd hbd hbw
    rw [hΦ] at h
    exact wpAny_at2 h (by kernel_rfl) (by kernel_rfl)
  have N11120 : Hid (∀ (W : World) (hM : W.heap[w.heap.size]? = some (boxM (.slice qc n cc) (.slice qu n cu))) (hV : W.heap[w.heap.size + 1]? = some (.cells ([.int .i64 k0, .int .i64 n0, .string s0, .slice ql nl cl, .slice qk nk ck]).toArray 50 (0, 0))) (hR : W.heap[w.heap.size + 1 + 1]? = some boxZ) (hc : W.ownsRow 0 50 5 (.slice qc n cc) n ys) (hch : Chg (OfTwo (.slice qc n cc) (.slice qu n cu)) w W) (hu : W.ownsRow 0 9 1 (.slice qu n cu) n (strsV ks)) (bd : Nat) (hbd : W.ownsRow 0 50 5 (.slice (some ⟨bd, 0, none⟩) 1 1) 1 [.int .i64 k0, .int .i64 n0, .string s0, .slice ql nl cl, .slice qk nk ck]) (hbw : w.heap.size ≤ bd), Φ 7 #[true, true, true, true, false, false, true, true, true, true, false, false, false, false, false] { tmps := #[.agg #[.int .i64 5, .int .i64 0, .string ⟨#[]⟩, .slice qc n cc, .slice qu n cu], .string key, .agg #[.int .i64 k0, .int .i64 n0, .string s0, .slice ql nl cl, .slice qk nk ck], .pointer (some ⟨w.heap.size, 0, none⟩), undef, .pointer (some ⟨w.heap.size + 1, 0, none⟩), .pointer (some ⟨w.heap.size + 1 + 1, 0, none⟩), .pointer (some ⟨w.heap.size, 4, none⟩), .slice qu n cu, .string key, .string key, undef, undef, .pointer (some ⟨w.heap.size, 3, none⟩), .slice qc n cc, .agg #[.int .i64 k0, .int .i64 n0, .string s0, .slice ql nl cl, .slice qk nk ck], .slice (some ⟨bd, 0, none⟩) 1 1, undef, undef, undef, undef], defers := [] } W) := by
    intro W hM hV hR hc hch hu bd hbd hbw
    rw [hΦ]
    have hHeld : True := True.intro
    refine wpAnyH_ready (rs := [4]) (by kernel_rfl) (by simp) ?_
    refine AllReadyH.cons rfl (fun K hK => ?_) AllReadyH.nil
    go_simp
    have ka : Below W.heap.size W (W.alloc (.cells #[.string key] 9)) := (Below.refl _ _).alloc (Nat.le_refl _) _
    have hM := (ka.block _ (Array.getElem?_eq_some_iff.1 hM).1).trans hM
    have hV := (ka.block _ (Array.getElem?_eq_some_iff.1 hV).1).trans hV
    have hR := (ka.block _ (Array.getElem?_eq_some_iff.1 hR).1).trans hR
    have hc := owns_below hc ka
    have hu := owns_below hu ka
    have hbd := owns_below hbd ka
    have hch := hch.trans (Chg.of ka)
    have hbb : (W.alloc (.cells #[.string key] 9)).ownsRow 0 9 1 (.slice (some ⟨W.heap.size, 0, none⟩) 1 1) 1 [.string key] := owns_lo (Nat.zero_le _) (World.ownsRow_lit W ([.string key]).toArray 1 (Nat.le_refl _) (by unfold maxLen; omega) rfl)
    obtain ⟨bb, hbe⟩ : ∃ q, q = W.heap.size := ⟨_, rfl⟩
    rw [← hbe] at hbb
    try rw [← hbe]
    clear hHeld
    refine hK.out _ (W.alloc (.cells #[.string key] 9)) True.intro (fun hHeld => ?_)
    clear hK K
    try simp only [Act.put, List.getElem_toArray, List.getElem_cons_zero, List.getElem_cons_succ, List.setIfInBounds_toArray, List.set_cons_zero, List.set_cons_succ]
    have h := N12120.out (W.alloc (.cells #[.string key] 9)) hM hV hR hc hch hu bb hbb bd hbd hbw
    rw [hΦ] at h
    exact wpAny_at2 h (by kernel_rfl) (by kernel_rfl)
  have N12020 : Hid (∀ (W : World) (hM : W.heap[w.heap.size]? = some (boxM (.slice qc n cc) (.slice qu n cu))) (hV : W.heap[w.heap.size + 1]? = some (.cells ([.int .i64 k0, .int .i64 n0, .string s0, .slice ql nl cl, .slice qk nk ck]).toArray 50 (0, 0))) (hR : W.heap[w.heap.size + 1 + 1]? = some boxZ) (hc : W.ownsRow 0 50 5 (.slice qc n cc) n ys) (hch : Chg (OfTwo (.slice qc n cc) (.slice qu n cu)) w W) (hu : W.ownsRow 0 9 1 (.slice qu n cu) n (strsV ks)) (bb : Nat) (hbb : W.ownsRow 0 9 1 (.slice (some ⟨bb, 0, none⟩) 1 1) 1 [.string key]) (bd : Nat) (hbd : W.ownsRow 0 50 5 (.slice (some ⟨bd, 0, none⟩) 1 1) 1 [.int .i64 k0, .int .i64 n0, .string s0, .slice ql nl cl, .slice qk nk ck]) (hbw : w.heap.size ≤ bd), Φ 7 #[true, true, true, true, true, false, true, false, true, true, false, false, false, false, false] { tmps := #[.agg #[.int .i64 5, .int .i64 0, .string ⟨#[]⟩, .slice qc n cc, .slice qu n cu], .string key, .agg #[.int .i64 k0, .int .i64 n0, .string s0, .slice ql nl cl, .slice qk nk ck], .pointer (some ⟨w.heap.size, 0, none⟩), undef, .pointer (some ⟨w.heap.size + 1, 0, none⟩), .pointer (some ⟨w.heap.size + 1 + 1, 0, none⟩), .pointer (some ⟨w.heap.size, 4, none⟩), .slice qu n cu, .string key, .string key, .slice (some ⟨bb, 0, none⟩) 1 1, undef, .pointer (some ⟨w.heap.size, 3, none⟩), undef, .agg #[.int .i64 k0, .int .i64 n0, .string s0, .slice ql nl cl, .slice qk nk ck], .slice (some ⟨bd, 0, none⟩) 1 1, undef, undef, undef, undef], defers := [] } W) := by
    intro W hM hV hR hc hch hu bb hbb bd hbd hbw
    rw [hΦ]
    have hHeld : True := True.intro
    refine wpAnyH_ready (rs := [5, 7]) (by kernel_rfl) (by simp) ?_
    refine AllReadyH.cons rfl (fun K hK => ?_) (AllReadyH.cons rfl (fun K hK => ?_) AllReadyH.nil)
    · rw [if_pos (by rfl)]
      refine wp_append_blk _ _ _ 26 rfl 0 9 j0 (.string ⟨#[]⟩) 1 16 Try.underlying26 hj hy0 hy1 hy2 rfl (by decide) (.slice qu n cu) n _ rfl hu ⟨bb, 0, none⟩ 1 1 [.string key] rfl rfl (fun j q hq => lit_src hbb hq (by simp)) (by simp [Value.oneCell']) (by unfold maxLen; omega) (by omega) (Nat.zero_le _) (by omega) ?_
      intro u2 W1 hu2 g1 l1
      obtain ⟨qu2, cu2, eu2⟩ := owns_sl hu2
      subst eu2
      have hul := newOr_of hR l1
      have hM := (g1.block _ (Array.getElem?_eq_some_iff.1 hM).1 (fun e => box_str hu hM e.symm (by decide))).trans hM
      have hV := (g1.block _ (Array.getElem?_eq_some_iff.1 hV).1 (fun e => box_str hu hV e.symm (by decide))).trans hV
      have hR := (g1.block _ (Array.getElem?_eq_some_iff.1 hR).1 (fun e => box_str hu hR e.symm (by decide))).trans hR
      have hc := hc.kept g1 (owns_apart hc hu (by decide))
      have hbd := hbd.kept g1 (owns_apart hbd hu (by decide))
      have hch := hch.trans (Chg.grown g1 (fun g h => .inr h))
      clear hHeld
      refine hK.out _ _ True.intro (fun hHeld => ?_)
      clear hK K
      try simp only [Act.put, List.getElem_toArray, List.getElem_cons_zero, List.getElem_cons_succ, List.setIfInBounds_toArray, List.set_cons_zero, List.set_cons_succ]
      have h := N12021.out W1 hM hV hR hc hch bb qu2 cu2 hu2 hul bd hbd hbw
      rw [hΦ] at h
      exact wpAny_at2 h (by kernel_rfl) (by kernel_rfl)
    · have z3 := vblk_cell hM 3
      simp only [boxM, List.getElem?_toArray, List.getElem?_cons_succ, List.getElem?_cons_zero] at z3
      go_simp
      clear z3
      clear hHeld
      refine hK.out _ _ True.intro (fun hHeld => ?_)
      clear hK K
      try simp only [Act.put, List.getElem_toArray, List.getElem_cons_zero, List.getElem_cons_succ, List.setIfInBounds_toArray, List.set_cons_zero, List.set_cons_succ]
      have h := N12120.out W hM hV hR hc hch hu bb hbb bd hbd hbw
      rw [hΦ] at h
      exact wpAny_at2 h (by kernel_rfl) (by kernel_rfl)
  have N12110 : Hid (∀ (W : World) (hM : W.heap[w.heap.size]? = some (boxM (.slice qc n cc) (.slice qu n cu))) (hV : W.heap[w.heap.size + 1]? = some (.cells ([.int .i64 k0, .int .i64 n0, .string s0, .slice ql nl cl, .slice qk nk ck]).toArray 50 (0, 0))) (hR : W.heap[w.heap.size + 1 + 1]? = some boxZ) (hc : W.ownsRow 0 50 5 (.slice qc n cc) n ys) (hch : Chg (OfTwo (.slice qc n cc) (.slice qu n cu)) w W) (hu : W.ownsRow 0 9 1 (.slice qu n cu) n (strsV ks)) (bb : Nat) (hbb : W.ownsRow 0 9 1 (.slice (some ⟨bb, 0, none⟩) 1 1) 1 [.string key]), Φ 7 #[true, true, true, true, true, false, true, true, true, false, false, false, false, false, false] { tmps := #[.agg #[.int .i64 5, .int .i64 0, .string ⟨#[]⟩, .slice qc n cc, .slice qu n cu], .string key, .agg #[.int .i64 k0, .int .i64 n0, .string s0, .slice ql nl cl, .slice qk nk ck], .pointer (some ⟨w.heap.size, 0, none⟩), undef, .pointer (some ⟨w.heap.size + 1, 0, none⟩), .pointer (some ⟨w.heap.size + 1 + 1, 0, none⟩), .pointer (some ⟨w.heap.size, 4, none⟩), .slice qu n cu, .string key, .string key, .slice (some ⟨bb, 0, none⟩) 1 1, undef, .pointer (some ⟨w.heap.size, 3, none⟩), .slice qc n cc, .agg #[.int .i64 k0, .int .i64 n0, .string s0, .slice ql nl cl, .slice qk nk ck], undef, undef, undef, undef, undef], defers := [] } W) := by
    intro W hM hV hR hc hch hu bb hbb
    rw [hΦ]
    have hHeld : True := True.intro
    refine wpAnyH_ready (rs := [5, 9]) (by kernel_rfl) (by simp) ?_
    refine AllReadyH.cons rfl (fun K hK => ?_) (AllReadyH.cons rfl (fun K hK => ?_) AllReadyH.nil)
    · rw [if_pos (by rfl)]
      refine wp_append_blk _ _ _ 26 rfl 0 9 j0 (.string ⟨#[]⟩) 1 16 Try.underlying26 hj hy0 hy1 hy2 rfl (by decide) (.slice qu n cu) n _ rfl hu ⟨bb, 0, none⟩ 1 1 [.string key] rfl rfl (fun j q hq => lit_src hbb hq (by simp)) (by simp [Value.oneCell']) (by unfold maxLen; omega) (by omega) (Nat.zero_le _) (by omega) ?_
      intro u2 W1 hu2 g1 l1
      obtain ⟨qu2, cu2, eu2⟩ := owns_sl hu2
      subst eu2
      have hul := newOr_of hR l1
      have hM := (g1.block _ (Array.getElem?_eq_some_iff.1 hM).1 (fun e => box_str hu hM e.symm (by decide))).trans hM
      have hV := (g1.block _ (Array.getElem?_eq_some_iff.1 hV).1 (fun e => box_str hu hV e.symm (by decide))).trans hV
      have hR := (g1.block _ (Array.getElem?_eq_some_iff.1 hR).1 (fun e => box_str hu hR e.symm (by decide))).trans hR
      have hc := hc.kept g1 (owns_apart hc hu (by decide))
      have hch := hch.trans (Chg.grown g1 (fun g h => .inr h))
      clear hHeld
      refine hK.out _ _ True.intro (fun hHeld => ?_)
      clear hK K
      try simp only [Act.put, List.getElem_toArray, List.getElem_cons_zero, List.getElem_cons_succ, List.setIfInBounds_toArray, List.set_cons_zero, List.set_cons_succ]
      refine wpAnyH_take (i := 11) (oi := _) (v := ?vT7) rfl (by kernel_rfl) (by kernel_rfl) (by kernel_rfl) (fun _ _ _ h => h) (Or.inl ⟨by rfl, ?yT7⟩) hHeld ?_
      case yT7 => (intro w hSw; (try dsimp only at hSw); go_simp <;> with_reducible rfl)
      try simp only [Act.put, List.getElem_toArray, List.getElem_cons_zero, List.getElem_cons_succ, List.setIfInBounds_toArray, List.set_cons_zero, List.set_cons_succ]
      have h := N12111.out W1 hM hV hR hc hch bb qu2 cu2 hu2 hul
      rw [hΦ] at h
      exact wpAny_at2 h (by kernel_rfl) (by kernel_rfl)
    · have hV0 := hV
      go_simp
      have ka : Below W.heap.size W (W.alloc (.cells ([.int .i64 k0, .int .i64 n0, .string s0, .slice ql nl cl, .slice qk nk ck]).toArray 50)) := (Below.refl _ _).alloc (Nat.le_refl _) _
      have hM := (ka.block _ (Array.getElem?_eq_some_iff.1 hM).1).trans hM
      have hV := (ka.block _ (Array.getElem?_eq_some_iff.1 hV).1).trans hV
      have hR := (ka.block _ (Array.getElem?_eq_some_iff.1 hR).1).trans hR
      have hc := owns_below hc ka
      have hu := owns_below hu ka
      have hbb := owns_below hbb ka
      have hch := hch.trans (Chg.of ka)
      have hbd : (W.alloc (.cells ([.int .i64 k0, .int .i64 n0, .string s0, .slice ql nl cl, .slice qk nk ck]).toArray 50)).ownsRow 0 50 5 (.slice (some ⟨W.heap.size, 0, none⟩) 1 1) 1 [.int .i64 k0, .int .i64 n0, .string s0, .slice ql nl cl, .slice qk nk ck] := owns_lo (Nat.zero_le _) (World.ownsRow_lit W ([.int .i64 k0, .int .i64 n0, .string s0, .slice ql nl cl, .slice qk nk ck]).toArray 1 (Nat.le_refl _) (by unfold maxLen; omega) rfl)
      obtain ⟨bd, hbe⟩ : ∃ q, q = W.heap.size := ⟨_, rfl⟩
      rw [← hbe] at hbd
      try rw [← hbe]
      have hbw : w.heap.size ≤ bd := by rw [hbe]; have := (Array.getElem?_eq_some_iff.1 hV0).1; omega
      clear hHeld
      refine hK.out _ (W.alloc (.cells ([.int .i64 k0, .int .i64 n0, .string s0, .slice ql nl cl, .slice qk nk ck]).toArray 50)) True.intro (fun hHeld => ?_)
      clear hK K
      try simp only [Act.put, List.getElem_toArray, List.getElem_cons_zero, List.getElem_cons_succ, List.setIfInBounds_toArray, List.set_cons_zero, List.set_cons_succ]
      have h := N12120.out (W.alloc (.cells ([.int .i64 k0, .int .i64 n0, .string s0, .slice ql nl cl, .slice qk nk ck]).toArray 50)) hM hV hR hc hch hu bb hbb bd hbd hbw
      rw [hΦ] at h
      exact wpAny_at2 h (by kernel_rfl) (by kernel_rfl)
  have N12011 : Hid (∀ (W : World) (hM : W.heap[w.heap.size]? = some (boxM (.slice qc n cc) (.slice qu n cu))) (hV : W.heap[w.heap.size + 1]? = some (.cells ([.int .i64 k0, .int .i64 n0, .string s0, .slice ql nl cl, .slice qk nk ck]).toArray 50 (0, 0))) (hR : W.heap[w.heap.size + 1 + 1]? = some boxZ) (hc : W.ownsRow 0 50 5 (.slice qc n cc) n ys) (hch : Chg (OfTwo (.slice qc n cc) (.slice qu n cu)) w W) (bb : Nat) (qu2 : Option Addr) (cu2 : Nat) (hu2 : W.ownsRow 0 9 1 (.slice qu2 (n + 1) cu2) (n + 1) (strsV ks ++ [.string key])) (hul : NewOr w (.slice qu2 (n + 1) cu2) (.slice qu n cu)), Φ 7 #[true, true, true, true, true, true, true, false, true, false, false, false, false, false, false] { tmps := #[.agg #[.int .i64 5, .int .i64 0, .string ⟨#[]⟩, .slice qc n cc, .slice qu n cu], .string key, .agg #[.int .i64 k0, .int .i64 n0, .string s0, .slice ql nl cl, .slice qk nk ck], .pointer (some ⟨w.heap.size, 0, none⟩), undef, .pointer (some ⟨w.heap.size + 1, 0, none⟩), .pointer (some ⟨w.heap.size + 1 + 1, 0, none⟩), .pointer (some ⟨w.heap.size, 4, none⟩), .slice qu n cu, .string key, .string key, .slice (some ⟨bb, 0, none⟩) 1 1, .slice qu2 (n + 1) cu2, .pointer (some ⟨w.heap.size, 3, none⟩), undef, .agg #[.int .i64 k0, .int .i64 n0, .string s0, .slice ql nl cl, .slice qk nk ck], undef, undef, undef, undef, undef], defers := [] } W) := by
    intro W hM hV hR hc hch bb qu2 cu2 hu2 hul
    rw [hΦ]
    have hHeld : True := True.intro
    refine wpAnyH_ready (rs := [7, 9]) (by kernel_rfl) (by simp) ?_
    refine AllReadyH.cons rfl (fun K hK => ?_) (AllReadyH.cons rfl (fun K hK => ?_) AllReadyH.nil)
    · have z3 := vblk_cell hM 3
      simp only [boxM, List.getElem?_toArray, List.getElem?_cons_succ, List.getElem?_cons_zero] at z3
      go_simp
      clear z3
      clear hHeld
      refine hK.out _ _ True.intro (fun hHeld => ?_)
      clear hK K
      try simp only [Act.put, List.getElem_toArray, List.getElem_cons_zero, List.getElem_cons_succ, List.setIfInBounds_toArray, List.set_cons_zero, List.set_cons_succ]
      refine wpAnyH_take (i := 11) (oi := _) (v := ?vT8) rfl (by kernel_rfl) (by kernel_rfl) (by kernel_rfl) (fun _ _ _ h => h) (Or.inl ⟨by rfl, ?yT8⟩) hHeld ?_
      case yT8 => (intro w hSw; (try dsimp only at hSw); go_simp <;> with_reducible rfl)
      try simp only [Act.put, List.getElem_toArray, List.getElem_cons_zero, List.getElem_cons_succ, List.setIfInBounds_toArray, List.set_cons_zero, List.set_cons_succ]
      have h := N12111.out W hM hV hR hc hch bb qu2 cu2 hu2 hul
      rw [hΦ] at h
      exact wpAny_at2 h (by kernel_rfl) (by kernel_rfl)
    · have hV0 := hV
      go_simp
      have ka : Below W.heap.size W (W.alloc (.cells ([.int .i64 k0, .int .i64 n0, .string s0, .slice ql nl cl, .slice qk nk ck]).toArray 50)) := (Below.refl _ _).alloc (Nat.le_refl _) _
      have hM := (ka.block _ (Array.getElem?_eq_some_iff.1 hM).1).trans hM
      have hV := (ka.block _ (Array.getElem?_eq_some_iff.1 hV).1).trans hV
      have hR := (ka.block _ (Array.getElem?_eq_some_iff.1 hR).1).trans hR
      have hc := owns_below hc ka
      have hu2 := owns_below hu2 ka
      have hch := hch.trans (Chg.of ka)
      have hbd : (W.alloc (.cells ([.int .i64 k0, .int .i64 n0, .string s0, .slice ql nl cl, .slice qk nk ck]).toArray 50)).ownsRow 0 50 5 (.slice (some ⟨W.heap.size, 0, none⟩) 1 1) 1 [.int .i64 k0, .int .i64 n0, .string s0, .slice ql nl cl, .slice qk nk ck] := owns_lo (Nat.zero_le _) (World.ownsRow_lit W ([.int .i64 k0, .int .i64 n0, .string s0, .slice ql nl cl, .slice qk nk ck]).toArray 1 (Nat.le_refl _) (by unfold maxLen; omega) rfl)
      obtain ⟨bd, hbe⟩ : ∃ q, q = W.heap.size := ⟨_, rfl⟩
      rw [← hbe] at hbd
      try rw [← hbe]
      have hbw : w.heap.size ≤ bd := by rw [hbe]; have := (Array.getElem?_eq_some_iff.1 hV0).1; omega
      clear hHeld
      refine hK.out _ (W.alloc (.cells ([.int .i64 k0, .int .i64 n0, .string s0, .slice ql nl cl, .slice qk nk ck]).toArray 50)) True.intro (fun hHeld => ?_)
      clear hK K
      try simp only [Act.put, List.getElem_toArray, List.getElem_cons_zero, List.getElem_cons_succ, List.setIfInBounds_toArray, List.set_cons_zero, List.set_cons_succ]
      have h := N12021.out (W.alloc (.cells ([.int .i64 k0, .int .i64 n0, .string s0, .slice ql nl cl, .slice qk nk ck]).toArray 50)) hM hV hR hc hch bb qu2 cu2 hu2 hul bd hbd hbw
      rw [hΦ] at h
      exact wpAny_at2 h (by kernel_rfl) (by kernel_rfl)
  have N12101 : Hid (∀ (W : World) (hM : W.heap[w.heap.size]? = some (boxM (.slice qc n cc) (.slice qu n cu))) (hV : W.heap[w.heap.size + 1]? = some (.cells ([.int .i64 k0, .int .i64 n0, .string s0, .slice ql nl cl, .slice qk nk ck]).toArray 50 (0, 0))) (hR : W.heap[w.heap.size + 1 + 1]? = some boxZ) (hc : W.ownsRow 0 50 5 (.slice qc n cc) n ys) (hch : Chg (OfTwo (.slice qc n cc) (.slice qu n cu)) w W) (bb : Nat) (qu2 : Option Addr) (cu2 : Nat) (hu2 : W.ownsRow 0 9 1 (.slice qu2 (n + 1) cu2) (n + 1) (strsV ks ++ [.string key])) (hul : NewOr w (.slice qu2 (n + 1) cu2) (.slice qu n cu)), Φ 6 #[true, true, true, true, true, true, true, true, false, false, false, true, false, false, false] { tmps := #[.agg #[.int .i64 5, .int .i64 0, .string ⟨#[]⟩, .slice qc n cc, .slice qu n cu], .string key, .agg #[.int .i64 k0, .int .i64 n0, .string s0, .slice ql nl cl, .slice qk nk ck], .pointer (some ⟨w.heap.size, 0, none⟩), undef, .pointer (some ⟨w.heap.size + 1, 0, none⟩), .pointer (some ⟨w.heap.size + 1 + 1, 0, none⟩), .pointer (some ⟨w.heap.size, 4, none⟩), .slice qu n cu, .string key, .string key, .slice (some ⟨bb, 0, none⟩) 1 1, .slice qu2 (n + 1) cu2, .pointer (some ⟨w.heap.size, 3, none⟩), .slice qc n cc, undef, undef, undef, .pointer (some ⟨w.heap.size, 4, none⟩), undef, undef], defers := [] } W) := by
    intro W hM hV hR hc hch bb qu2 cu2 hu2 hul
    rw [hΦ]
    have hHeld : True := True.intro
    refine wpAnyH_ready (rs := [8]) (by kernel_rfl) (by simp) ?_
    refine AllReadyH.cons rfl (fun K hK => ?_) AllReadyH.nil
    have z0 := vblk_cell hV 0
    have z1 := vblk_cell hV 1
    have z2 := vblk_cell hV 2
    have z3 := vblk_cell hV 3
    have z4 := vblk_cell hV 4
    simp only [boxM, List.getElem?_toArray, List.getElem?_cons_succ, List.getElem?_cons_zero] at z0 z1 z2 z3 z4
    go_simp
    clear z0 z1 z2 z3 z4
    clear hHeld
    refine hK.out _ _ True.intro (fun hHeld => ?_)
    clear hK K
    try simp only [Act.put, List.getElem_toArray, List.getElem_cons_zero, List.getElem_cons_succ, List.setIfInBounds_toArray, List.set_cons_zero, List.set_cons_succ]
    have h := N12111.out W hM hV hR hc hch bb qu2 cu2 hu2 hul
    rw [hΦ] at h
    exact wpAny_at2 h (by kernel_rfl) (by kernel_rfl)
  have N01120 : Hid (∀ (W : World) (hM : W.heap[w.heap.size]? = some (boxM (.slice qc n cc) (.slice qu n cu))) (hV : W.heap[w.heap.size + 1]? = some (.cells ([.int .i64 k0, .int .i64 n0, .string s0, .slice ql nl cl, .slice qk nk ck]).toArray 50 (0, 0))) (hR : W.heap[w.heap.size + 1 + 1]? = some boxZ) (hc : W.ownsRow 0 50 5 (.slice qc n cc) n ys) (hch : Chg (OfTwo (.slice qc n cc) (.slice qu n cu)) w W) (hu : W.ownsRow 0 9 1 (.slice qu n cu) n (strsV ks)) (bd : Nat) (hbd : W.ownsRow 0 50 5 (.slice (some ⟨bd, 0, none⟩) 1 1) 1 [.int .i64 k0, .int .i64 n0, .string s0, .slice ql nl cl, .slice qk nk ck]) (hbw : w.heap.size ≤ bd), Φ 8 #[true, false, true, true, false, false, true, true, true, true, false, false, false, false, false] { tmps := #[.agg #[.int .i64 5, .int .i64 0, .string ⟨#[]⟩, .slice qc n cc, .slice qu n cu], .string key, .agg #[.int .i64 k0, .int .i64 n0, .string s0, .slice ql nl cl, .slice qk nk ck], .pointer (some ⟨w.heap.size, 0, none⟩), undef, .pointer (some ⟨w.heap.size + 1, 0, none⟩), .pointer (some ⟨w.heap.size + 1 + 1, 0, none⟩), .pointer (some ⟨w.heap.size, 4, none⟩), undef, .string key, .string key, undef, undef, .pointer (some ⟨w.heap.size, 3, none⟩), .slice qc n cc, .agg #[.int .i64 k0, .int .i64 n0, .string s0, .slice ql nl cl, .slice qk nk ck], .slice (some ⟨bd, 0, none⟩) 1 1, undef, undef, undef, undef], defers := [] } W) := by
    intro W hM hV hR hc hch hu bd hbd hbw
    rw [hΦ]
    have hHeld : True := True.intro
    refine wpAnyH_ready (rs := [1, 4]) (by kernel_rfl) (by simp) ?_
    refine AllReadyH.cons rfl (fun K hK => ?_) (AllReadyH.cons rfl (fun K hK => ?_) AllReadyH.nil)
    · have z4 := vblk_cell hM 4
      simp only [boxM, List.getElem?_toArray, List.getElem?_cons_succ, List.getElem?_cons_zero] at z4
      go_simp
      clear z4
      clear hHeld
      refine hK.out _ _ True.intro (fun hHeld => ?_)
      clear hK K
      try simp only [Act.put, List.getElem_toArray, List.getElem_cons_zero, List.getElem_cons_succ, List.setIfInBounds_toArray, List.set_cons_zero, List.set_cons_succ]
      have h := N11120.out W hM hV hR hc hch hu bd hbd hbw
      rw [hΦ] at h
      exact wpAny_at2 h (by kernel_rfl) (by kernel_rfl)
    · go_simp
      have ka : Below W.heap.size W (W.alloc (.cells #[.string key] 9)) := (Below.refl _ _).alloc (Nat.le_refl _) _
      have hM := (ka.block _ (Array.getElem?_eq_some_iff.1 hM).1).trans hM
      have hV := (ka.block _ (Array.getElem?_eq_some_iff.1 hV).1).trans hV
      have hR := (ka.block _ (Array.getElem?_eq_some_iff.1 hR).1).trans hR
      have hc := owns_below hc ka
      have hu := owns_below hu ka
      have hbd := owns_below hbd ka
      have hch := hch.trans (Chg.of ka)
      have hbb : (W.alloc (.cells #[.string key] 9)).ownsRow 0 9 1 (.slice (some ⟨W.heap.size, 0, none⟩) 1 1) 1 [.string key] := owns_lo (Nat.zero_le _) (World.ownsRow_lit W ([.string key]).toArray 1 (Nat.le_refl _) (by unfold maxLen; omega) rfl)
      obtain ⟨bb, hbe⟩ : ∃ q, q = W.heap.size := ⟨_, rfl⟩
      rw [← hbe] at hbb
      try rw [← hbe]
      clear hHeld
      refine hK.out _ (W.alloc (.cells #[.string key] 9)) True.intro (fun hHeld => ?_)
      clear hK K
      try simp only [Act.put, List.getElem_toArray, List.getElem_cons_zero, List.getElem_cons_succ, List.setIfInBounds_toArray, List.set_cons_zero, List.set_cons_succ]
      have h := N02120.out (W.alloc (.cells #[.string key] 9)) hM hV hR hc hch hu bb hbb bd hbd hbw
      rw [hΦ] at h
      exact wpAny_at2 h (by kernel_rfl) (by kernel_rfl)
  have N02020 : Hid (∀ (W : World) (hM : W.heap[w.heap.size]? = some (boxM (.slice qc n cc) (.slice qu n cu))) (hV : W.heap[w.heap.size + 1]? = some (.cells ([.int .i64 k0, .int .i64 n0, .string s0, .slice ql nl cl, .slice qk nk ck]).toArray 50 (0, 0))) (hR : W.heap[w.heap.size + 1 + 1]? = some boxZ) (hc : W.ownsRow 0 50 5 (.slice qc n cc) n ys) (hch : Chg (OfTwo (.slice qc n cc) (.slice qu n cu)) w W) (hu : W.ownsRow 0 9 1 (.slice qu n cu) n (strsV ks)) (bb : Nat) (hbb : W.ownsRow 0 9 1 (.slice (some ⟨bb, 0, none⟩) 1 1) 1 [.string key]) (bd : Nat) (hbd : W.ownsRow 0 50 5 (.slice (some ⟨bd, 0, none⟩) 1 1) 1 [.int .i64 k0, .int .i64 n0, .string s0, .slice ql nl cl, .slice qk nk ck]) (hbw : w.heap.size ≤ bd), Φ 8 #[true, false, true, true, true, false, true, false, true, true, false, false, false, false, false] { tmps := #[.agg #[.int .i64 5, .int .i64 0, .string ⟨#[]⟩, .slice qc n cc, .slice qu n cu], .string key, .agg #[.int .i64 k0, .int .i64 n0, .string s0, .slice ql nl cl, .slice qk nk ck], .pointer (some ⟨w.heap.size, 0, none⟩), undef, .pointer (some ⟨w.heap.size + 1, 0, none⟩), .pointer (some ⟨w.heap.size + 1 + 1, 0, none⟩), .pointer (some ⟨w.heap.size, 4, none⟩), undef, .string key, .string key, .slice (some ⟨bb, 0, none⟩) 1 1, undef, .pointer (some ⟨w.heap.size, 3, none⟩), undef, .agg #[.int .i64 k0, .int .i64 n0, .string s0, .slice ql nl cl, .slice qk nk ck], .slice (some ⟨bd, 0, none⟩) 1 1, undef, undef, undef, undef], defers := [] } W) := by
    intro W hM hV hR hc hch hu bb hbb bd hbd hbw
    rw [hΦ]
    have hHeld : True := True.intro
    refine wpAnyH_ready (rs := [1, 7]) (by kernel_rfl) (by simp) ?_
    refine AllReadyH.cons rfl (fun K hK => ?_) (AllReadyH.cons rfl (fun K hK => ?_) AllReadyH.nil)
    · have z4 := vblk_cell hM 4
      simp only [boxM, List.getElem?_toArray, List.getElem?_cons_succ, List.getElem?_cons_zero] at z4
      go_simp
      clear z4
      clear hHeld
      refine hK.out _ _ True.intro (fun hHeld => ?_)
      clear hK K
      try simp only [Act.put, List.getElem_toArray, List.getElem_cons_zero, List.getElem_cons_succ, List.setIfInBounds_toArray, List.set_cons_zero, List.set_cons_succ]
      have h := N12020.out W hM hV hR hc hch hu bb hbb bd hbd hbw
      rw [hΦ] at h
      exact wpAny_at2 h (by kernel_rfl) (by kernel_rfl)
    · have z3 := vblk_cell hM 3
      simp only [boxM, List.getElem?_toArray, List.getElem?_cons_succ, List.getElem?_cons_zero] at z3
      go_simp
      clear z3
      clear hHeld
      refine hK.out _ _ True.intro (fun hHeld => ?_)
      clear hK K
      try simp only [Act.put, List.getElem_toArray, List.getElem_cons_zero, List.getElem_cons_succ, List.setIfInBounds_toArray, List.set_cons_zero, List.set_cons_succ]
      have h := N02120.out W hM hV hR hc hch hu bb hbb bd hbd hbw
      rw [hΦ] at h
      exact wpAny_at2 h (by kernel_rfl) (by kernel_rfl)
  have N02110 : Hid (∀ (W : World) (hM : W.heap[w.heap.size]? = some (boxM (.slice qc n cc) (.slice qu n cu))) (hV : W.heap[w.heap.size + 1]? = some (.cells ([.int .i64 k0, .int .i64 n0, .string s0, .slice ql nl cl, .slice qk nk ck]).toArray 50 (0, 0))) (hR : W.heap[w.heap.size + 1 + 1]? = some boxZ) (hc : W.ownsRow 0 50 5 (.slice qc n cc) n ys) (hch : Chg (OfTwo (.slice qc n cc) (.slice qu n cu)) w W) (hu : W.ownsRow 0 9 1 (.slice qu n cu) n (strsV ks)) (bb : Nat) (hbb : W.ownsRow 0 9 1 (.slice (some ⟨bb, 0, none⟩) 1 1) 1 [.string key]), Φ 8 #[true, false, true, true, true, false, true, true, true, false, false, false, false, false, false] { tmps := #[.agg #[.int .i64 5, .int .i64 0, .string ⟨#[]⟩, .slice qc n cc, .slice qu n cu], .string key, .agg #[.int .i64 k0, .int .i64 n0, .string s0, .slice ql nl cl, .slice qk nk ck], .pointer (some ⟨w.heap.size, 0, none⟩), undef, .pointer (some ⟨w.heap.size + 1, 0, none⟩), .pointer (some ⟨w.heap.size + 1 + 1, 0, none⟩), .pointer (some ⟨w.heap.size, 4, none⟩), undef, .string key, .string key, .slice (some ⟨bb, 0, none⟩) 1 1, undef, .pointer (some ⟨w.heap.size, 3, none⟩), .slice qc n cc, .agg #[.int .i64 k0, .int .i64 n0, .string s0, .slice ql nl cl, .slice qk nk ck], undef, undef, undef, undef, undef], defers := [] } W) := by
    intro W hM hV hR hc hch hu bb hbb
    rw [hΦ]
    have hHeld : True := True.intro
    refine wpAnyH_ready (rs := [1, 9]) (by kernel_rfl) (by simp) ?_
    refine AllReadyH.cons rfl (fun K hK => ?_) (AllReadyH.cons rfl (fun K hK => ?_) AllReadyH.nil)
    · have z4 := vblk_cell hM 4
      simp only [boxM, List.getElem?_toArray, List.getElem?_cons_succ, List.getElem?_cons_zero] at z4
      go_simp
      clear z4
      clear hHeld
      refine hK.out _ _ True.intro (fun hHeld => ?_)
      clear hK K
      try simp only [Act.put, List.getElem_toArray, List.getElem_cons_zero, List.getElem_cons_succ, List.setIfInBounds_toArray, List.set_cons_zero, List.set_cons_succ]
      have h := N12110.out W hM hV hR hc hch hu bb hbb
      rw [hΦ] at h
      exact wpAny_at2 h (by kernel_rfl) (by kernel_rfl)
    · have hV0 := hV
      go_simp
      have ka : Below W.heap.size W (W.alloc (.cells ([.int .i64 k0, .int .i64 n0, .string s0, .slice ql nl cl, .slice qk nk ck]).toArray 50)) := (Below.refl _ _).alloc (Nat.le_refl _) _
      have hM := (ka.block _ (Array.getElem?_eq_some_iff.1 hM).1).trans hM
      have hV := (ka.block _ (Array.getElem?_eq_some_iff.1 hV).1).trans hV
      have hR := (ka.block _ (Array.getElem?_eq_some_iff.1 hR).1).trans hR
      have hc := owns_below hc ka
      have hu := owns_below hu ka
      have hbb := owns_below hbb ka
      have hch := hch.trans (Chg.of ka)
      have hbd : (W.alloc (.cells ([.int .i64 k0, .int .i64 n0, .string s0, .slice ql nl cl, .slice qk nk ck]).toArray 50)).ownsRow 0 50 5 (.slice (some ⟨W.heap.size, 0, none⟩) 1 1) 1 [.int .i64 k0, .int .i64 n0, .string s0, .slice ql nl cl, .slice qk nk ck] := owns_lo (Nat.zero_le _) (World.ownsRow_lit W ([.int .i64 k0, .int .i64 n0, .string s0, .slice ql nl cl, .slice qk nk ck]).toArray 1 (Nat.le_refl _) (by unfold maxLen; omega) rfl)
      obtain ⟨bd, hbe⟩ : ∃ q, q = W.heap.size := ⟨_, rfl⟩
      rw [← hbe] at hbd
      try rw [← hbe]
      have hbw : w.heap.size ≤ bd := by rw [hbe]; have := (Array.getElem?_eq_some_iff.1 hV0).1; omega
      clear hHeld
      refine hK.out _ (W.alloc (.cells ([.int .i64 k0, .int .i64 n0, .string s0, .slice ql nl cl, .slice qk nk ck]).toArray 50)) True.intro (fun hHeld => ?_)
      clear hK K
      try simp only [Act.put, List.getElem_toArray, List.getElem_cons_zero, List.getElem_cons_succ, List.setIfInBounds_toArray, List.set_cons_zero, List.set_cons_succ]
      have h := N02120.out (W.alloc (.cells ([.int .i64 k0, .int .i64 n0, .string s0, .slice ql nl cl, .slice qk nk ck]).toArray 50)) hM hV hR hc hch hu bb hbb bd hbd hbw
      rw [hΦ] at h
      exact wpAny_at2 h (by kernel_rfl) (by kernel_rfl)
  have N10120 : Hid (∀ (W : World) (hM : W.heap[w.heap.size]? = some (boxM (.slice qc n cc) (.slice qu n cu))) (hV : W.heap[w.heap.size + 1]? = some (.cells ([.int .i64 k0, .int .i64 n0, .string s0, .slice ql nl cl, .slice qk nk ck]).toArray 50 (0, 0))) (hR : W.heap[w.heap.size + 1 + 1]? = some boxZ) (hc : W.ownsRow 0 50 5 (.slice qc n cc) n ys) (hch : Chg (OfTwo (.slice qc n cc) (.slice qu n cu)) w W) (hu : W.ownsRow 0 9 1 (.slice qu n cu) n (strsV ks)) (bd : Nat) (hbd : W.ownsRow 0 50 5 (.slice (some ⟨bd, 0, none⟩) 1 1) 1 [.int .i64 k0, .int .i64 n0, .string s0, .slice ql nl cl, .slice qk nk ck]) (hbw : w.heap.size ≤ bd), Φ 8 #[true, true, true, false, false, false, true, true, true, true, false, false, false, false, false] { tmps := #[.agg #[.int .i64 5, .int .i64 0, .string ⟨#[]⟩, .slice qc n cc, .slice qu n cu], .string key, .agg #[.int .i64 k0, .int .i64 n0, .string s0, .slice ql nl cl, .slice qk nk ck], .pointer (some ⟨w.heap.size, 0, none⟩), undef, .pointer (some ⟨w.heap.size + 1, 0, none⟩), .pointer (some ⟨w.heap.size + 1 + 1, 0, none⟩), .pointer (some ⟨w.heap.size, 4, none⟩), .slice qu n cu, .string key, undef, undef, undef, .pointer (some ⟨w.heap.size, 3, none⟩), .slice qc n cc, .agg #[.int .i64 k0, .int .i64 n0, .string s0, .slice ql nl cl, .slice qk nk ck], .slice (some ⟨bd, 0, none⟩) 1 1, undef, undef, undef, undef], defers := [] } W) := by
    intro W hM hV hR hc hch hu bd hbd hbw
    rw [hΦ]
    have hHeld : True := True.intro
    refine wpAnyH_ready (rs := [3]) (by kernel_rfl) (by simp) ?_
    refine AllReadyH.cons rfl (fun K hK => ?_) AllReadyH.nil
    go_simp
    go_wp2_with (go_at_call 74; refine (HC.out _).mono ?_; rintro e W1 ⟨rfl, b1⟩)
    have hM := (b1.block _ (Array.getElem?_eq_some_iff.1 hM).1).trans hM
    have hV := (b1.block _ (Array.getElem?_eq_some_iff.1 hV).1).trans hV
    have hR := (b1.block _ (Array.getElem?_eq_some_iff.1 hR).1).trans hR
    have hc := owns_below hc b1
    have hu := owns_below hu b1
    have hbd := owns_below hbd b1
    have hch := hch.trans (Chg.of b1)
    clear b1
    clear hHeld
    refine hK.out _ _ True.intro (fun hHeld => ?_)
    clear hK K
    try simp only [Act.put, List.getElem_toArray, List.getElem_cons_zero, List.getElem_cons_succ, List.setIfInBounds_toArray, List.set_cons_zero, List.set_cons_succ]
    have h := N11120.out W1 hM hV hR hc hch hu bd hbd hbw
    rw [hΦ] at h
    exact wpAny_at2 h (by kernel_rfl) (by kernel_rfl)
  have N11020 : Hid (∀ (W : World) (hM : W.heap[w.heap.size]? = some (boxM (.slice qc n cc) (.slice qu n cu))) (hV : W.heap[w.heap.size + 1]? = some (.cells ([.int .i64 k0, .int .i64 n0, .string s0, .slice ql nl cl, .slice qk nk ck]).toArray 50 (0, 0))) (hR : W.heap[w.heap.size + 1 + 1]? = some boxZ) (hc : W.ownsRow 0 50 5 (.slice qc n cc) n ys) (hch : Chg (OfTwo (.slice qc n cc) (.slice qu n cu)) w W) (hu : W.ownsRow 0 9 1 (.slice qu n cu) n (strsV ks)) (bd : Nat) (hbd : W.ownsRow 0 50 5 (.slice (some ⟨bd, 0, none⟩) 1 1) 1 [.int .i64 k0, .int .i64 n0, .string s0, .slice ql nl cl, .slice qk nk ck]) (hbw : w.heap.size ≤ bd), Φ 8 #[true, true, true, true, false, false, true, false, true, true, false, false, false, false, false] { tmps := #[.agg #[.int .i64 5, .int .i64 0, .string ⟨#[]⟩, .slice qc n cc, .slice qu n cu], .string key, .agg #[.int .i64 k0, .int .i64 n0, .string s0, .slice ql nl cl, .slice qk nk ck], .pointer (some ⟨w.heap.size, 0, none⟩), undef, .pointer (some ⟨w.heap.size + 1, 0, none⟩), .pointer (some ⟨w.heap.size + 1 + 1, 0, none⟩), .pointer (some ⟨w.heap.size, 4, none⟩), .slice qu n cu, .string key, .string key, undef, undef, .pointer (some ⟨w.heap.size, 3, none⟩), undef, .agg #[.int .i64 k0, .int .i64 n0, .string s0, .slice ql nl cl, .slice qk nk ck], .slice (some ⟨bd, 0, none⟩) 1 1, undef, undef, undef, undef], defers := [] } W) := by
    intro W hM hV hR hc hch hu bd hbd hbw
    rw [hΦ]
    have hHeld : True := True.intro
    refine wpAnyH_ready (rs := [4, 7]) (by kernel_rfl) (by simp) ?_
    refine AllReadyH.cons rfl (fun K hK => ?_) (AllReadyH.cons rfl (fun K hK => ?_) AllReadyH.nil)
    · go_simp
      have ka : Below W.heap.size W (W.alloc (.cells #[.string key] 9)) := (Below.refl _ _).alloc (Nat.le_refl _) _
      have hM := (ka.block _ (Array.getElem?_eq_some_iff.1 hM).1).trans hM
      have hV := (ka.block _ (Array.getElem?_eq_some_iff.1 hV).1).trans hV
      have hR := (ka.block _ (Array.getElem?_eq_some_iff.1 hR).1).trans hR
      have hc := owns_below hc ka
      have hu := owns_below hu ka
      have hbd := owns_below hbd ka
      have hch := hch.trans (Chg.of ka)
      have hbb : (W.alloc (.cells #[.string key] 9)).ownsRow 0 9 1 (.slice (some ⟨W.heap.size, 0, none⟩) 1 1) 1 [.string key] := owns_lo (Nat.zero_le _) (World.ownsRow_lit W ([.string key]).toArray 1 (Nat.le_refl _) (by unfold maxLen; omega) rfl)
      obtain ⟨bb, hbe⟩ : ∃ q, q = W.heap.size := ⟨_, rfl⟩
      rw [← hbe] at hbb
      try rw [← hbe]
      clear hHeld
      refine hK.out _ (W.alloc (.cells #[.string key] 9)) True.intro (fun hHeld => ?_)
      clear hK K
      try simp only [Act.put, List.getElem_toArray, List.getElem_cons_zero, List.getElem_cons_succ, List.setIfInBounds_toArray, List.set_cons_zero, List.set_cons_succ]
      have h := N12020.out (W.alloc (.cells #[.string key] 9)) hM hV hR hc hch hu bb hbb bd hbd hbw
      rw [hΦ] at h
      exact wpAny_at2 h (by kernel_rfl) (by kernel_rfl)
    · have z3 := vblk_cell hM 3
      simp only [boxM, List.getElem?_toArray, List.getElem?_cons_succ, List.getElem?_cons_zero] at z3
      go_simp
      clear z3
      clear hHeld
      refine hK.out _ _ True.intro (fun hHeld => ?_)
      clear hK K
      try simp only [Act.put, List.getElem_toArray, List.getElem_cons_zero, List.getElem_cons_succ, List.setIfInBounds_toArray, List.set_cons_zero, List.set_cons_succ]
      have h := N11120.out W hM hV hR hc hch hu bd hbd hbw
      rw [hΦ] at h
      exact wpAny_at2 h (by kernel_rfl) (by kernel_rfl)
  have N11110 : Hid (∀ (W : World) (hM : W.heap[w.heap.size]? = some (boxM (.slice qc n cc) (.slice qu n cu))) (hV : W.heap[w.heap.size + 1]? = some (.cells ([.int .i64 k0, .int .i64 n0, .string s0, .slice ql nl cl, .slice qk nk ck]).toArray 50 (0, 0))) (hR : W.heap[w.heap.size + 1 + 1]? = some boxZ) (hc : W.ownsRow 0 50 5 (.slice qc n cc) n ys) (hch : Chg (OfTwo (.slice qc n cc) (.slice qu n cu)) w W) (hu : W.ownsRow 0 9 1 (.slice qu n cu) n (strsV ks)), Φ 8 #[true, true, true, true, false, false, true, true, true, false, false, false, false, false, false] { tmps := #[.agg #[.int .i64 5, .int .i64 0, .string ⟨#[]⟩, .slice qc n cc, .slice qu n cu], .string key, .agg #[.int .i64 k0, .int .i64 n0, .string s0, .slice ql nl cl, .slice qk nk ck], .pointer (some ⟨w.heap.size, 0, none⟩), undef, .pointer (some ⟨w.heap.size + 1, 0, none⟩), .pointer (some ⟨w.heap.size + 1 + 1, 0, none⟩), .pointer (some ⟨w.heap.size, 4, none⟩), .slice qu n cu, .string key, .string key, undef, undef, .pointer (some ⟨w.heap.size, 3, none⟩), .slice qc n cc, .agg #[.int .i64 k0, .int .i64 n0, .string s0, .slice ql nl cl, .slice qk nk ck], undef, undef, undef, undef, undef], defers := [] } W) := by
    intro W hM hV hR hc hch hu
    rw [hΦ]
    have hHeld : True := True.intro
    refine wpAnyH_ready (rs := [4, 9]) (by kernel_rfl) (by simp) ?_
    refine AllReadyH.cons rfl (fun K hK => ?_) (AllReadyH.cons rfl (fun K hK => ?_) AllReadyH.nil)
    · go_simp
      have ka : Below W.heap.size W (W.alloc (.cells #[.string key] 9)) := (Below.refl _ _).alloc (Nat.le_refl _) _
      have hM := (ka.block _ (Array.getElem?_eq_some_iff.1 hM).1).trans hM
      have hV := (ka.block _ (Array.getElem?_eq_some_iff.1 hV).1).trans hV
      have hR := (ka.block _ (Array.getElem?_eq_some_iff.1 hR).1).trans hR
      have hc := owns_below hc ka
      have hu := owns_below hu ka
      have hch := hch.trans (Chg.of ka)
      have hbb : (W.alloc (.cells #[.string key] 9)).ownsRow 0 9 1 (.slice (some ⟨W.heap.size, 0, none⟩) 1 1) 1 [.string key] := owns_lo (Nat.zero_le _) (World.ownsRow_lit W ([.string key]).toArray 1 (Nat.le_refl _) (by unfold maxLen; omega) rfl)
      obtain ⟨bb, hbe⟩ : ∃ q, q = W.heap.size := ⟨_, rfl⟩
      rw [← hbe] at hbb
      try rw [← hbe]
      clear hHeld
      refine hK.out _ (W.alloc (.cells #[.string key] 9)) True.intro (fun hHeld => ?_)
      clear hK K
      try simp only [Act.put, List.getElem_toArray, List.getElem_cons_zero, List.getElem_cons_succ, List.setIfInBounds_toArray, List.set_cons_zero, List.set_cons_succ]
      have h := N12110.out (W.alloc (.cells #[.string key] 9)) hM hV hR hc hch hu bb hbb
      rw [hΦ] at h
      exact wpAny_at2 h (by kernel_rfl) (by kernel_rfl)
    · have hV0 := hV
      go_simp
      have ka : Below W.heap.size W (W.alloc (.cells ([.int .i64 k0, .int .i64 n0, .string s0, .slice ql nl cl, .slice qk nk ck]).toArray 50)) := (Below.refl _ _).alloc (Nat.le_refl _) _
      have hM := (ka.block _ (Array.getElem?_eq_some_iff.1 hM).1).trans hM
      have hV := (ka.block _ (Array.getElem?_eq_some_iff.1 hV).1).trans hV
      have hR := (ka.block _ (Array.getElem?_eq_some_iff.1 hR).1).trans hR
      have hc := owns_below hc ka
      have hu := owns_below hu ka
      have hch := hch.trans (Chg.of ka)
      have hbd : (W.alloc (.cells ([.int .i64 k0, .int .i64 n0, .string s0, .slice ql nl cl, .slice qk nk ck]).toArray 50)).ownsRow 0 50 5 (.slice (some ⟨W.heap.size, 0, none⟩) 1 1) 1 [.int .i64 k0, .int .i64 n0, .string s0, .slice ql nl cl, .slice qk nk ck] := owns_lo (Nat.zero_le _) (World.ownsRow_lit W ([.int .i64 k0, .int .i64 n0, .string s0, .slice ql nl cl, .slice qk nk ck]).toArray 1 (Nat.le_refl _) (by unfold maxLen; omega) rfl)
      obtain ⟨bd, hbe⟩ : ∃ q, q = W.heap.size := ⟨_, rfl⟩
      rw [← hbe] at hbd
      try rw [← hbe]
      have hbw : w.heap.size ≤ bd := by rw [hbe]; have := (Array.getElem?_eq_some_iff.1 hV0).1; omega
      clear hHeld
      refine hK.out _ (W.alloc (.cells ([.int .i64 k0, .int .i64 n0, .string s0, .slice ql nl cl, .slice qk nk ck]).toArray 50)) True.intro (fun hHeld => ?_)
      clear hK K
      try simp only [Act.put, List.getElem_toArray, List.getElem_cons_zero, List.getElem_cons_succ, List.setIfInBounds_toArray, List.set_cons_zero, List.set_cons_succ]
      have h := N11120.out (W.alloc (.cells ([.int .i64 k0, .int .i64 n0, .string s0, .slice ql nl cl, .slice qk nk ck]).toArray 50)) hM hV hR hc hch hu bd hbd hbw
      rw [hΦ] at h
      exact wpAny_at2 h (by kernel_rfl) (by kernel_rfl)
  have N12010 : Hid (∀ (W : World) (hM : W.heap[w.heap.size]? = some (boxM (.slice qc n cc) (.slice qu n cu))) (hV : W.heap[w.heap.size + 1]? = some (.cells ([.int .i64 k0, .int .i64 n0, .string s0, .slice ql nl cl, .slice qk nk ck]).toArray 50 (0, 0))) (hR : W.heap[w.heap.size + 1 + 1]? = some boxZ) (hc : W.ownsRow 0 50 5 (.slice qc n cc) n ys) (hch : Chg (OfTwo (.slice qc n cc) (.slice qu n cu)) w W) (hu : W.ownsRow 0 9 1 (.slice qu n cu) n (strsV ks)) (bb : Nat) (hbb : W.ownsRow 0 9 1 (.slice (some ⟨bb, 0, none⟩) 1 1) 1 [.string key]), Φ 8 #[true, true, true, true, true, false, true, false, true, false, false, false, false, false, false] { tmps := #[.agg #[.int .i64 5, .int .i64 0, .string ⟨#[]⟩, .slice qc n cc, .slice qu n cu], .string key, .agg #[.int .i64 k0, .int .i64 n0, .string s0, .slice ql nl cl, .slice qk nk ck], .pointer (some ⟨w.heap.size, 0, none⟩), undef, .pointer (some ⟨w.heap.size + 1, 0, none⟩), .pointer (some ⟨w.heap.size + 1 + 1, 0, none⟩), .pointer (some ⟨w.heap.size, 4, none⟩), .slice qu n cu, .string key, .string key, .slice (some ⟨bb, 0, none⟩) 1 1, undef, .pointer (some ⟨w.heap.size, 3, none⟩), undef, .agg #[.int .i64 k0, .int .i64 n0, .string s0, .slice ql nl cl, .slice qk nk ck], undef, undef, undef, undef, undef], defers := [] } W) := by
    intro W hM hV hR hc hch hu bb hbb
    rw [hΦ]
    have hHeld : True := True.intro
    refine wpAnyH_ready (rs := [5, 7, 9]) (by kernel_rfl) (by simp) ?_
    refine AllReadyH.cons rfl (fun K hK => ?_) (AllReadyH.cons rfl (fun K hK => ?_) (AllReadyH.cons rfl (fun K hK => ?_) AllReadyH.nil))
    · rw [if_pos (by rfl)]
      refine wp_append_blk _ _ _ 26 rfl 0 9 j0 (.string ⟨#[]⟩) 1 16 Try.underlying26 hj hy0 hy1 hy2 rfl (by decide) (.slice qu n cu) n _ rfl hu ⟨bb, 0, none⟩ 1 1 [.string key] rfl rfl (fun j q hq => lit_src hbb hq (by simp)) (by simp [Value.oneCell']) (by unfold maxLen; omega) (by omega) (Nat.zero_le _) (by omega) ?_
      intro u2 W1 hu2 g1 l1
      obtain ⟨qu2, cu2, eu2⟩ := owns_sl hu2
      subst eu2
      have hul := newOr_of hR l1
      have hM := (g1.block _ (Array.getElem?_eq_some_iff.1 hM).1 (fun e => box_str hu hM e.symm (by decide))).trans hM
      have hV := (g1.block _ (Array.getElem?_eq_some_iff.1 hV).1 (fun e => box_str hu hV e.symm (by decide))).trans hV
      have hR := (g1.block _ (Array.getElem?_eq_some_iff.1 hR).1 (fun e => box_str hu hR e.symm (by decide))).trans hR
      have hc := hc.kept g1 (owns_apart hc hu (by decide))
      have hch := hch.trans (Chg.grown g1 (fun g h => .inr h))
      clear hHeld
      refine hK.out _ _ True.intro (fun hHeld => ?_)
      clear hK K
      try simp only [Act.put, List.getElem_toArray, List.getElem_cons_zero, List.getElem_cons_succ, List.setIfInBounds_toArray, List.set_cons_zero, List.set_cons_succ]
      have h := N12011.out W1 hM hV hR hc hch bb qu2 cu2 hu2 hul
      rw [hΦ] at h
      exact wpAny_at2 h (by kernel_rfl) (by kernel_rfl)
    · have z3 := vblk_cell hM 3
      simp only [boxM, List.getElem?_toArray, List.getElem?_cons_succ, List.getElem?_cons_zero] at z3
      go_simp
      clear z3
      clear hHeld
      refine hK.out _ _ True.intro (fun hHeld => ?_)
      clear hK K
      try simp only [Act.put, List.getElem_toArray, List.getElem_cons_zero, List.getElem_cons_succ, List.setIfInBounds_toArray, List.set_cons_zero, List.set_cons_succ]
      have h := N12110.out W hM hV hR hc hch hu bb hbb
      rw [hΦ] at h
      exact wpAny_at2 h (by kernel_rfl) (by kernel_rfl)
    · have hV0 := hV
      go_simp
      have ka : Below W.heap.size W (W.alloc (.cells ([.int .i64 k0, .int .i64 n0, .string s0, .slice ql nl cl, .slice qk nk ck]).toArray 50)) := (Below.refl _ _).alloc (Nat.le_refl _) _
      have hM := (ka.block _ (Array.getElem?_eq_some_iff.1 hM).1).trans hM
      have hV := (ka.block _ (Array.getElem?_eq_some_iff.1 hV).1).trans hV
      have hR := (ka.block _ (Array.getElem?_eq_some_iff.1 hR).1).trans hR
      have hc := owns_below hc ka
      have hu := owns_below hu ka
      have hbb := owns_below hbb ka
      have hch := hch.trans (Chg.of ka)
      have hbd : (W.alloc (.cells ([.int .i64 k0, .int .i64 n0, .string s0, .slice ql nl cl, .slice qk nk ck]).toArray 50)).ownsRow 0 50 5 (.slice (some ⟨W.heap.size, 0, none⟩) 1 1) 1 [.int .i64 k0, .int .i64 n0, .string s0, .slice ql nl cl, .slice qk nk ck] := owns_lo (Nat.zero_le _) (World.ownsRow_lit W ([.int .i64 k0, .int .i64 n0, .string s0, .slice ql nl cl, .slice qk nk ck]).toArray 1 (Nat.le_refl _) (by unfold maxLen; omega) rfl)
      obtain ⟨bd, hbe⟩ : ∃ q, q = W.heap.size := ⟨_, rfl⟩
      rw [← hbe] at hbd
      try rw [← hbe]
      have hbw : w.heap.size ≤ bd := by rw [hbe]; have := (Array.getElem?_eq_some_iff.1 hV0).1; omega
      clear hHeld
      refine hK.out _ (W.alloc (.cells ([.int .i64 k0, .int .i64 n0, .string s0, .slice ql nl cl, .slice qk nk ck]).toArray 50)) True.intro (fun hHeld => ?_)
      clear hK K
      try simp only [Act.put, List.getElem_toArray, List.getElem_cons_zero, List.getElem_cons_succ, List.setIfInBounds_toArray, List.set_cons_zero, List.set_cons_succ]
      have h := N12020.out (W.alloc (.cells ([.int .i64 k0, .int .i64 n0, .string s0, .slice ql nl cl, .slice qk nk ck]).toArray 50)) hM hV hR hc hch hu bb hbb bd hbd hbw
      rw [hΦ] at h
      exact wpAny_at2 h (by kernel_rfl) (by kernel_rfl)
  have N12100 : Hid (∀ (W : World) (hM : W.heap[w.heap.size]? = some (boxM (.slice qc n cc) (.slice qu n cu))) (hV : W.heap[w.heap.size + 1]? = some (.cells ([.int .i64 k0, .int .i64 n0, .string s0, .slice ql nl cl, .slice qk nk ck]).toArray 50 (0, 0))) (hR : W.heap[w.heap.size + 1 + 1]? = some boxZ) (hc : W.ownsRow 0 50 5 (.slice qc n cc) n ys) (hch : Chg (OfTwo (.slice qc n cc) (.slice qu n cu)) w W) (hu : W.ownsRow 0 9 1 (.slice qu n cu) n (strsV ks)) (bb : Nat) (hbb : W.ownsRow 0 9 1 (.slice (some ⟨bb, 0, none⟩) 1 1) 1 [.string key]), Φ 8 #[true, true, true, true, true, false, true, true, false, false, false, false, false, false, false] { tmps := #[.agg #[.int .i64 5, .int .i64 0, .string ⟨#[]⟩, .slice qc n cc, .slice qu n cu], .string key, .agg #[.int .i64 k0, .int .i64 n0, .string s0, .slice ql nl cl, .slice qk nk ck], .pointer (some ⟨w.heap.size, 0, none⟩), undef, .pointer (some ⟨w.heap.size + 1, 0, none⟩), .pointer (some ⟨w.heap.size + 1 + 1, 0, none⟩), .pointer (some ⟨w.heap.size, 4, none⟩), .slice qu n cu, .string key, .string key, .slice (some ⟨bb, 0, none⟩) 1 1, undef, .pointer (some ⟨w.heap.size, 3, none⟩), .slice qc n cc, undef, undef, undef, undef, undef, undef], defers := [] } W) := by
    intro W hM hV hR hc hch hu bb hbb
    rw [hΦ]
    have hHeld : True := True.intro
    refine wpAnyH_ready (rs := [5, 8]) (by kernel_rfl) (by simp) ?_
    refine AllReadyH.cons rfl (fun K hK => ?_) (AllReadyH.cons rfl (fun K hK => ?_) AllReadyH.nil)
    · rw [if_pos (by rfl)]
      refine wp_append_blk _ _ _ 26 rfl 0 9 j0 (.string ⟨#[]⟩) 1 16 Try.underlying26 hj hy0 hy1 hy2 rfl (by decide) (.slice qu n cu) n _ rfl hu ⟨bb, 0, none⟩ 1 1 [.string key] rfl rfl (fun j q hq => lit_src hbb hq (by simp)) (by simp [Value.oneCell']) (by unfold maxLen; omega) (by omega) (Nat.zero_le _) (by omega) ?_
      intro u2 W1 hu2 g1 l1
      obtain ⟨qu2, cu2, eu2⟩ := owns_sl hu2
      subst eu2
      have hul := newOr_of hR l1
      have hM := (g1.block _ (Array.getElem?_eq_some_iff.1 hM).1 (fun e => box_str hu hM e.symm (by decide))).trans hM
      have hV := (g1.block _ (Array.getElem?_eq_some_iff.1 hV).1 (fun e => box_str hu hV e.symm (by decide))).trans hV
      have hR := (g1.block _ (Array.getElem?_eq_some_iff.1 hR).1 (fun e => box_str hu hR e.symm (by decide))).trans hR
      have hc := hc.kept g1 (owns_apart hc hu (by decide))
      have hch := hch.trans (Chg.grown g1 (fun g h => .inr h))
      clear hHeld
      refine hK.out _ _ True.intro (fun hHeld => ?_)
      clear hK K
      try simp only [Act.put, List.getElem_toArray, List.getElem_cons_zero, List.getElem_cons_succ, List.setIfInBounds_toArray, List.set_cons_zero, List.set_cons_succ]
      refine wpAnyH_take (i := 11) (oi := _) (v := ?vT9) rfl (by kernel_rfl) (by kernel_rfl) (by kernel_rfl) (fun _ _ _ h => h) (Or.inl ⟨by rfl, ?yT9⟩) hHeld ?_
      case yT9 => (intro w hSw; (try dsimp only at hSw); go_simp <;> with_reducible rfl)
      try simp only [Act.put, List.getElem_toArray, List.getElem_cons_zero, List.getElem_cons_succ, List.setIfInBounds_toArray, List.set_cons_zero, List.set_cons_succ]
      have h := N12101.out W1 hM hV hR hc hch bb qu2 cu2 hu2 hul
      rw [hΦ] at h
      exact wpAny_at2 h (by kernel_rfl) (by kernel_rfl)
    · have z0 := vblk_cell hV 0
      have z1 := vblk_cell hV 1
      have z2 := vblk_cell hV 2
      have z3 := vblk_cell hV 3
      have z4 := vblk_cell hV 4
      simp only [boxM, List.getElem?_toArray, List.getElem?_cons_succ, List.getElem?_cons_zero] at z0 z1 z2 z3 z4
      go_simp
      clear z0 z1 z2 z3 z4
      clear hHeld
      refine hK.out _ _ True.intro (fun hHeld => ?_)
      clear hK K
      try simp only [Act.put, List.getElem_toArray, List.getElem_cons_zero, List.getElem_cons_succ, List.setIfInBounds_toArray, List.set_cons_zero, List.set_cons_succ]
      have h := N12110.out W hM hV hR hc hch hu bb hbb
      rw [hΦ] at h
      exact wpAny_at2 h (by kernel_rfl) (by kernel_rfl)
  have N12001 : Hid (∀ (W : World) (hM : W.heap[w.heap.size]? = some (boxM (.slice qc n cc) (.slice qu n cu))) (hV : W.heap[w.heap.size + 1]? = some (.cells ([.int .i64 k0, .int .i64 n0, .string s0, .slice ql nl cl, .slice qk nk ck]).toArray 50 (0, 0))) (hR : W.heap[w.heap.size + 1 + 1]? = some boxZ) (hc : W.ownsRow 0 50 5 (.slice qc n cc) n ys) (hch : Chg (OfTwo (.slice qc n cc) (.slice qu n cu)) w W) (bb : Nat) (qu2 : Option Addr) (cu2 : Nat) (hu2 : W.ownsRow 0 9 1 (.slice qu2 (n + 1) cu2) (n + 1) (strsV ks ++ [.string key])) (hul : NewOr w (.slice qu2 (n + 1) cu2) (.slice qu n cu)), Φ 8 #[true, true, true, true, true, true, true, false, false, false, false, false, false, false, false] { tmps := #[.agg #[.int .i64 5, .int .i64 0, .string ⟨#[]⟩, .slice qc n cc, .slice qu n cu], .string key, .agg #[.int .i64 k0, .int .i64 n0, .string s0, .slice ql nl cl, .slice qk nk ck], .pointer (some ⟨w.heap.size, 0, none⟩), undef, .pointer (some ⟨w.heap.size + 1, 0, none⟩), .pointer (some ⟨w.heap.size + 1 + 1, 0, none⟩), .pointer (some ⟨w.heap.size, 4, none⟩), .slice qu n cu, .string key, .string key, .slice (some ⟨bb, 0, none⟩) 1 1, .slice qu2 (n + 1) cu2, .pointer (some ⟨w.heap.size, 3, none⟩), undef, undef, undef, undef, undef, undef, undef], defers := [] } W) := by
    intro W hM hV hR hc hch bb qu2 cu2 hu2 hul
    rw [hΦ]
    have hHeld : True := True.intro
    refine wpAnyH_ready (rs := [7, 8]) (by kernel_rfl) (by simp) ?_
    refine AllReadyH.cons rfl (fun K hK => ?_) (AllReadyH.cons rfl (fun K hK => ?_) AllReadyH.nil)
    · have z3 := vblk_cell hM 3
      simp only [boxM, List.getElem?_toArray, List.getElem?_cons_succ, List.getElem?_cons_zero] at z3
      go_simp
      clear z3
      clear hHeld
      refine hK.out _ _ True.intro (fun hHeld => ?_)
      clear hK K
      try simp only [Act.put, List.getElem_toArray, List.getElem_cons_zero, List.getElem_cons_succ, List.setIfInBounds_toArray, List.set_cons_zero, List.set_cons_succ]
      refine wpAnyH_take (i := 11) (oi := _) (v := ?vT10) rfl (by kernel_rfl) (by kernel_rfl) (by kernel_rfl) (fun _ _ _ h => h) (Or.inl ⟨by rfl, ?yT10⟩) hHeld ?_
      case yT10 => (intro w hSw; (try dsimp only at hSw); go_simp <;> with_reducible rfl)
      try simp only [Act.put, List.getElem_toArray, List.getElem_cons_zero, List.getElem_cons_succ, List.setIfInBounds_toArray, List.set_cons_zero, List.set_cons_succ]
      have h := N12101.out W hM hV hR hc hch bb qu2 cu2 hu2 hul
      rw [hΦ] at h
      exact wpAny_at2 h (by kernel_rfl) (by kernel_rfl)
    · have z0 := vblk_cell hV 0
      have z1 := vblk_cell hV 1
      have z2 := vblk_cell hV 2
      have z3 := vblk_cell hV 3
      have z4 := vblk_cell hV 4
      simp only [boxM, List.getElem?_toArray, List.getElem?_cons_succ, List.getElem?_cons_zero] at z0 z1 z2 z3 z4
      go_simp
      clear z0 z1 z2 z3 z4
      clear hHeld
      refine hK.out _ _ True.intro (fun hHeld => ?_)
      clear hK K
      try simp only [Act.put, List.getElem_toArray, List.getElem_cons_zero, List.getElem_cons_succ, List.setIfInBounds_toArray, List.set_cons_zero, List.set_cons_succ]
      have h := N12011.out W hM hV hR hc hch bb qu2 cu2 hu2 hul
      rw [hΦ] at h
      exact wpAny_at2 h (by kernel_rfl) (by kernel_rfl)
  have N00120 : Hid (∀ (W : World) (hM : W.heap[w.heap.size]? = some (boxM (.slice qc n cc) (.slice qu n cu))) (hV : W.heap[w.heap.size + 1]? = some (.cells ([.int .i64 k0, .int .i64 n0, .string s0, .slice ql nl cl, .slice qk nk ck]).toArray 50 (0, 0))) (hR : W.heap[w.heap.size + 1 + 1]? = some boxZ) (hc : W.ownsRow 0 50 5 (.slice qc n cc) n ys) (hch : Chg (OfTwo (.slice qc n cc) (.slice qu n cu)) w W) (hu : W.ownsRow 0 9 1 (.slice qu n cu) n (strsV ks)) (bd : Nat) (hbd : W.ownsRow 0 50 5 (.slice (some ⟨bd, 0, none⟩) 1 1) 1 [.int .i64 k0, .int .i64 n0, .string s0, .slice ql nl cl, .slice qk nk ck]) (hbw : w.heap.size ≤ bd), Φ 9 #[true, false, true, false, false, false, true, true, true, true, false, false, false, false, false] { tmps := #[.agg #[.int .i64 5, .int .i64 0, .string ⟨#[]⟩, .slice qc n cc, .slice qu n cu], .string key, .agg #[.int .i64 k0, .int .i64 n0, .string s0, .slice ql nl cl, .slice qk nk ck], .pointer (some ⟨w.heap.size, 0, none⟩), undef, .pointer (some ⟨w.heap.size + 1, 0, none⟩), .pointer (some ⟨w.heap.size + 1 + 1, 0, none⟩), .pointer (some ⟨w.heap.size, 4, none⟩), undef, .string key, undef, undef, undef, .pointer (some ⟨w.heap.size, 3, none⟩), .slice qc n cc, .agg #[.int .i64 k0, .int .i64 n0, .string s0, .slice ql nl cl, .slice qk nk ck], .slice (some ⟨bd, 0, none⟩) 1 1, undef, undef, undef, undef], defers := [] } W) := by
    intro W hM hV hR hc hch hu bd hbd hbw
    rw [hΦ]
    have hHeld : True := True.intro
    refine wpAnyH_ready (rs := [1, 3]) (by kernel_rfl) (by simp) ?_
    refine AllReadyH.cons rfl (fun K hK => ?_) (AllReadyH.cons rfl (fun K hK => ?_) AllReadyH.nil)
    · have z4 := vblk_cell hM 4
      simp only [boxM, List.getElem?_toArray, List.getElem?_cons_succ, List.getElem?_cons_zero] at z4
      go_simp
      clear z4
      clear hHeld
      refine hK.out _ _ True.intro (fun hHeld => ?_)
      clear hK K
      try simp only [Act.put, List.getElem_toArray, List.getElem_cons_zero, List.getElem_cons_succ, List.setIfInBounds_toArray, List.set_cons_zero, List.set_cons_succ]
      have h := N10120.out W hM hV hR hc hch hu bd hbd hbw
      rw [hΦ] at h
      exact wpAny_at2 h (by kernel_rfl) (by kernel_rfl)
    · go_simp
      go_wp2_with (go_at_call 74; refine (HC.out _).mono ?_; rintro e W1 ⟨rfl, b1⟩)
      have hM := (b1.block _ (Array.getElem?_eq_some_iff.1 hM).1).trans hM
      have hV := (b1.block _ (Array.getElem?_eq_some_iff.1 hV).1).trans hV
      have hR := (b1.block _ (Array.getElem?_eq_some_iff.1 hR).1).trans hR
      have hc := owns_below hc b1
      have hu := owns_below hu b1
      have hbd := owns_below hbd b1
      have hch := hch.trans (Chg.of b1)
      clear b1
      clear hHeld
      refine hK.out _ _ True.intro (fun hHeld => ?_)
      clear hK K
      try simp only [Act.put, List.getElem_toArray, List.getElem_cons_zero, List.getElem_cons_succ, List.setIfInBounds_toArray, List.set_cons_zero, List.set_cons_succ]
      have h := N01120.out W1 hM hV hR hc hch hu bd hbd hbw
      rw [hΦ] at h
      exact wpAny_at2 h (by kernel_rfl) (by kernel_rfl)
  have N01020 : Hid (∀ (W : World) (hM : W.heap[w.heap.size]? = some (boxM (.slice qc n cc) (.slice qu n cu))) (hV : W.heap[w.heap.size + 1]? = some (.cells ([.int .i64 k0, .int .i64 n0, .string s0, .slice ql nl cl, .slice qk nk ck]).toArray 50 (0, 0))) (hR : W.heap[w.heap.size + 1 + 1]? = some boxZ) (hc : W.ownsRow 0 50 5 (.slice qc n cc) n ys) (hch : Chg (OfTwo (.slice qc n cc) (.slice qu n cu)) w W) (hu : W.ownsRow 0 9 1 (.slice qu n cu) n (strsV ks)) (bd : Nat) (hbd : W.ownsRow 0 50 5 (.slice (some ⟨bd, 0, none⟩) 1 1) 1 [.int .i64 k0, .int .i64 n0, .string s0, .slice ql nl cl, .slice qk nk ck]) (hbw : w.heap.size ≤ bd), Φ 9 #[true, false, true, true, false, false, true, false, true, true, false, false, false, false, false] { tmps := #[.agg #[.int .i64 5, .int .i64 0, .string ⟨#[]⟩, .slice qc n cc, .slice qu n cu], .string key, .agg #[.int .i64 k0, .int .i64 n0, .string s0, .slice ql nl cl, .slice qk nk ck], .pointer (some ⟨w.heap.size, 0, none⟩), undef, .pointer (some ⟨w.heap.size + 1, 0, none⟩), .pointer (some ⟨w.heap.size + 1 + 1, 0, none⟩), .pointer (some ⟨w.heap.size, 4, none⟩), undef, .string key, .string key, undef, undef, .pointer (some ⟨w.heap.size, 3, none⟩), undef, .agg #[.int .i64 k0, .int .i64 n0, .string s0, .slice ql nl cl, .slice qk nk ck], .slice (some ⟨bd, 0, none⟩) 1 1, undef, undef, undef, undef], defers := [] } W) := by
    intro W hM hV hR hc hch hu bd hbd hbw
    rw [hΦ]
    have hHeld : True := True.intro
    refine wpAnyH_ready (rs := [1, 4, 7]) (by kernel_rfl) (by simp) ?_
    refine AllReadyH.cons rfl (fun K hK => ?_) (AllReadyH.cons rfl (fun K hK => ?_) (AllReadyH.cons rfl (fun K hK => ?_) AllReadyH.nil))
    · have z4 := vblk_cell hM 4
      simp only [boxM, List.getElem?_toArray, List.getElem?_cons_succ, List.getElem?_cons_zero] at z4
      go_simp
      clear z4
      clear hHeld
      refine hK.out _ _ True.intro (fun hHeld => ?_)
      clear hK K
      try simp only [Act.put, List.getElem_toArray, List.getElem_cons_zero, List.getElem_cons_succ, List.setIfInBounds_toArray, List.set_cons_zero, List.set_cons_succ]
      have h := N11020.out W hM hV hR hc hch hu bd hbd hbw
      rw [hΦ] at h
      exact wpAny_at2 h (by kernel_rfl) (by kernel_rfl)
    · go_simp
      have ka : Below W.heap.size W (W.alloc (.cells #[.string key] 9)) := (Below.refl _ _).alloc (Nat.le_refl _) _
      have hM := (ka.block _ (Array.getElem?_eq_some_iff.1 hM).1).trans hM
      have hV := (ka.block _ (Array.getElem?_eq_some_iff.1 hV).1).trans hV
      have hR := (ka.block _ (Array.getElem?_eq_some_iff.1 hR).1).trans hR
      have hc := owns_below hc ka
      have hu := owns_below hu ka
      have hbd := owns_below hbd ka
      have hch := hch.trans (Chg.of ka)
      have hbb : (W.alloc (.cells #[.string key] 9)).ownsRow 0 9 1 (.slice (some ⟨W.heap.size, 0, none⟩) 1 1) 1 [.string key] := owns_lo (Nat.zero_le _) (World.ownsRow_lit W ([.string key]).toArray 1 (Nat.le_refl _) (by unfold maxLen; omega) rfl)
      obtain ⟨bb, hbe⟩ : ∃ q, q = W.heap.size := ⟨_, rfl⟩
      rw [← hbe] at hbb
      try rw [← hbe]
      clear hHeld
      refine hK.out _ (W.alloc (.cells #[.string key] 9)) True.intro (fun hHeld => ?_)
      clear hK K
      try simp only [Act.put, List.getElem_toArray, List.getElem_cons_zero, List.getElem_cons_succ, List.setIfInBounds_toArray, List.set_cons_zero, List.set_cons_succ]
      have h := N02020.out (W.alloc (.cells #[.string key] 9)) hM hV hR hc hch hu bb hbb bd hbd hbw
      rw [hΦ] at h
      exact wpAny_at2 h (by kernel_rfl) (by kernel_rfl)
    · have z3 := vblk_cell hM 3
      simp only [boxM, List.getElem?_toArray, List.getElem?_cons_succ, List.getElem?_cons_zero] at z3
      go_simp
      clear z3
      clear hHeld
      refine hK.out _ _ True.intro (fun hHeld => ?_)
      clear hK K
      try simp only [Act.put, List.getElem_toArray, List.getElem_cons_zero, List.getElem_cons_succ, List.setIfInBounds_toArray, List.set_cons_zero, List.set_cons_succ]
      have h := N01120.out W hM hV hR hc hch hu bd hbd hbw
      rw [hΦ] at h
      exact wpAny_at2 h (by kernel_rfl) (by kernel_rfl)
  have N01110 : Hid (∀ (W : World) (hM : W.heap[w.heap.size]? = some (boxM (.slice qc n cc) (.slice qu n cu))) (hV : W.heap[w.heap.size + 1]? = some (.cells ([.int .i64 k0, .int .i64 n0, .string s0, .slice ql nl cl, .slice qk nk ck]).toArray 50 (0, 0))) (hR : W.heap[w.heap.size + 1 + 1]? = some boxZ) (hc : W.ownsRow 0 50 5 (.slice qc n cc) n ys) (hch : Chg (OfTwo (.slice qc n cc) (.slice qu n cu)) w W) (hu : W.ownsRow 0 9 1 (.slice qu n cu) n (strsV ks)), Φ 9 #[true, false, true, true, false, false, true, true, true, false, false, false, false, false, false] { tmps := #[.agg #[.int .i64 5, .int .i64 0, .string ⟨#[]⟩, .slice qc n cc, .slice qu n cu], .string key, .agg #[.int .i64 k0, .int .i64 n0, .string s0, .slice ql nl cl, .slice qk nk ck], .pointer (some ⟨w.heap.size, 0, none⟩), undef, .pointer (some ⟨w.heap.size + 1, 0, none⟩), .pointer (some ⟨w.heap.size + 1 + 1, 0, none⟩), .pointer (some ⟨w.heap.size, 4, none⟩), undef, .string key, .string key, undef, undef, .pointer (some ⟨w.heap.size, 3, none⟩), .slice qc n cc, .agg #[.int .i64 k0, .int .i64 n0, .string s0, .slice ql nl cl, .slice qk nk ck], undef, undef, undef, undef, undef], defers := [] } W) := by
    intro W hM hV hR hc hch hu
    rw [hΦ]
    have hHeld : True := True.intro
    refine wpAnyH_ready (rs := [1, 4, 9]) (by kernel_rfl) (by simp) ?_
    refine AllReadyH.cons rfl (fun K hK => ?_) (AllReadyH.cons rfl (fun K hK => ?_) (AllReadyH.cons rfl (fun K hK => ?_) AllReadyH.nil))
    · have z4 := vblk_cell hM 4
      simp only [boxM, List.getElem?_toArray, List.getElem?_cons_succ, List.getElem?_cons_zero] at z4
      go_simp
      clear z4
      clear hHeld
      refine hK.out _ _ True.intro (fun hHeld => ?_)
      clear hK K
      try simp only [Act.put, List.getElem_toArray, List.getElem_cons_zero, List.getElem_cons_succ, List.setIfInBounds_toArray, List.set_cons_zero, List.set_cons_succ]
      have h := N11110.out W hM hV hR hc hch hu
      rw [hΦ] at h
      exact wpAny_at2 h (by kernel_rfl) (by kernel_rfl)
    · go_simp
      have ka : Below W.heap.size W (W.alloc (.cells #[.string key] 9)) := (Below.refl _ _).alloc (Nat.le_refl _) _
      have hM := (ka.block _ (Array.getElem?_eq_some_iff.1 hM).1).trans hM
      have hV := (ka.block _ (Array.getElem?_eq_some_iff.1 hV).1).trans hV
      have hR := (ka.block _ (Array.getElem?_eq_some_iff.1 hR).1).trans hR
      have hc := owns_below hc ka
      have hu := owns_below hu ka
      have hch := hch.trans (Chg.of ka)
      have hbb : (W.alloc (.cells #[.string key] 9)).ownsRow 0 9 1 (.slice (some ⟨W.heap.size, 0, none⟩) 1 1) 1 [.string key] := owns_lo (Nat.zero_le _) (World.ownsRow_lit W ([.string key]).toArray 1 (Nat.le_refl _) (by unfold maxLen; omega) rfl)
      obtain ⟨bb, hbe⟩ : ∃ q, q = W.heap.size := ⟨_, rfl⟩
      rw [← hbe] at hbb
      try rw [← hbe]
      clear hHeld
      refine hK.out _ (W.alloc (.cells #[.string key] 9)) True.intro (fun hHeld => ?_)
      clear hK K
      try simp only [Act.put, List.getElem_toArray, List.getElem_cons_zero, List.getElem_cons_succ, List.setIfInBounds_toArray, List.set_cons_zero, List.set_cons_succ]
      have h := N02110.out (W.alloc (.cells #[.string key] 9)) hM hV hR hc hch hu bb hbb
      rw [hΦ] at h
      exact wpAny_at2 h (by kernel_rfl) (by kernel_rfl)
    · have hV0 := hV
      go_simp
      have ka : Below W.heap.size W (W.alloc (.cells ([.int .i64 k0, .int .i64 n0, .string s0, .slice ql nl cl, .slice qk nk ck]).toArray 50)) := (Below.refl _ _).alloc (Nat.le_refl _) _
      have hM := (ka.block _ (Array.getElem?_eq_some_iff.1 hM).1).trans hM
      have hV := (ka.block _ (Array.getElem?_eq_some_iff.1 hV).1).trans hV
      have hR := (ka.block _ (Array.getElem?_eq_some_iff.1 hR).1).trans hR
      have hc := owns_below hc ka
      have hu := owns_below hu ka
      have hch := hch.trans (Chg.of ka)
      have hbd : (W.alloc (.cells ([.int .i64 k0, .int .i64 n0, .string s0, .slice ql nl cl, .slice qk nk ck]).toArray 50)).ownsRow 0 50 5 (.slice (some ⟨W.heap.size, 0, none⟩) 1 1) 1 [.int .i64 k0, .int .i64 n0, .string s0, .slice ql nl cl, .slice qk nk ck] := owns_lo (Nat.zero_le _) (World.ownsRow_lit W ([.int .i64 k0, .int .i64 n0, .string s0, .slice ql nl cl, .slice qk nk ck]).toArray 1 (Nat.le_refl _) (by unfold maxLen; omega) rfl)
      obtain ⟨bd, hbe⟩ : ∃ q, q = W.heap.size := ⟨_, rfl⟩
      rw [← hbe] at hbd
      try rw [← hbe]
      have hbw : w.heap.size ≤ bd := by rw [hbe]; have := (Array.getElem?_eq_some_iff.1 hV0).1; omega
      clear hHeld
      refine hK.out _ (W.alloc (.cells ([.int .i64 k0, .int .i64 n0, .string s0, .slice ql nl cl, .slice qk nk ck]).toArray 50)) True.intro (fun hHeld => ?_)
      clear hK K
      try simp only [Act.put, List.getElem_toArray, List.getElem_cons_zero, List.getElem_cons_succ, List.setIfInBounds_toArray, List.set_cons_zero, List.set_cons_succ]
      have h := N01120.out (W.alloc (.cells ([.int .i64 k0, .int .i64 n0, .string s0, .slice ql nl cl, .slice qk nk ck]).toArray 50)) hM hV hR hc hch hu bd hbd hbw
      rw [hΦ] at h
      exact wpAny_at2 h (by kernel_rfl) (by kernel_rfl)
  have N02010 : Hid (∀ (W : World) (hM : W.heap[w.heap.size]? = some (boxM (.slice qc n cc) (.slice qu n cu))) (hV : W.heap[w.heap.size + 1]? = some (.cells ([.int .i64 k0, .int .i64 n0, .string s0, .slice ql nl cl, .slice qk nk ck]).toArray 50 (0, 0))) (hR : W.heap[w.heap.size + 1 + 1]? = some boxZ) (hc : W.ownsRow 0 50 5 (.slice qc n cc) n ys) (hch : Chg (OfTwo (.slice qc n cc) (.slice qu n cu)) w W) (hu : W.ownsRow 0 9 1 (.slice qu n cu) n (strsV ks)) (bb : Nat) (hbb : W.ownsRow 0 9 1 (.slice (some ⟨bb, 0, none⟩) 1 1) 1 [.string key]), Φ 9 #[true, false, true, true, true, false, true, false, true, false, false, false, false, false, false] { tmps := #[.agg #[.int .i64 5, .int .i64 0, .string ⟨#[]⟩, .slice qc n cc, .slice qu n cu], .string key, .agg #[.int .i64 k0, .int .i64 n0, .string s0, .slice ql nl cl, .slice qk nk ck], .pointer (some ⟨w.heap.size, 0, none⟩), undef, .pointer (some ⟨w.heap.size + 1, 0, none⟩), .pointer (some ⟨w.heap.size + 1 + 1, 0, none⟩), .pointer (some ⟨w.heap.size, 4, none⟩), undef, .string key, .string key, .slice (some ⟨bb, 0, none⟩) 1 1, undef, .pointer (some ⟨w.heap.size, 3, none⟩), undef, .agg #[.int .i64 k0, .int .i64 n0, .string s0, .slice ql nl cl, .slice qk nk ck], undef, undef, undef, undef, undef], defers := [] } W) := by
    intro W hM hV hR hc hch hu bb hbb
    rw [hΦ]
    have hHeld : True := True.intro
    refine wpAnyH_ready (rs := [1, 7, 9]) (by kernel_rfl) (by simp) ?_
    refine AllReadyH.cons rfl (fun K hK => ?_) (AllReadyH.cons rfl (fun K hK => ?_) (AllReadyH.cons rfl (fun K hK => ?_) AllReadyH.nil))
    · have z4 := vblk_cell hM 4
      simp only [boxM, List.getElem?_toArray, List.getElem?_cons_succ, List.getElem?_cons_zero] at z4
      go_simp
      clear z4
      clear hHeld
      refine hK.out _ _ True.intro (fun hHeld => ?_)
      clear hK K
      try simp only [Act.put, List.getElem_toArray, List.getElem_cons_zero, List.getElem_cons_succ, List.setIfInBounds_toArray, List.set_cons_zero, List.set_cons_succ]
      have h := N12010.out W hM hV hR hc hch hu bb hbb
      rw [hΦ] at h
      exact wpAny_at2 h (by kernel_rfl) (by kernel_rfl)
    · have z3 := vblk_cell hM 3
      simp only [boxM, List.getElem?_toArray, List.getElem?_cons_succ, List.getElem?_cons_zero] at z3
      go_simp
      clear z3
      clear hHeld
      refine hK.out _ _ True.intro (fun hHeld => ?_)
      clear hK K
      try simp only [Act.put, List.getElem_toArray, List.getElem_cons_zero, List.getElem_cons_succ, List.setIfInBounds_toArray, List.set_cons_zero, List.set_cons_succ]
      have h := N02110.out W hM hV hR hc hch hu bb hbb
      rw [hΦ] at h
      exact wpAny_at2 h (by kernel_rfl) (by kernel_rfl)
    · have hV0 := hV
      go_simp
      have ka : Below W.heap.size W (W.alloc (.cells ([.int .i64 k0, .int .i64 n0, .string s0, .slice ql nl cl, .slice qk nk ck]).toArray 50)) := (Below.refl _ _).alloc (Nat.le_refl _) _
      have hM := (ka.block _ (Array.getElem?_eq_some_iff.1 hM).1).trans hM
      have hV := (ka.block _ (Array.getElem?_eq_some_iff.1 hV).1).trans hV
      have hR := (ka.block _ (Array.getElem?_eq_some_iff.1 hR).1).trans hR
      have hc := owns_below hc ka
      have hu := owns_below hu ka
      have hbb := owns_below hbb ka
      have hch := hch.trans (Chg.of ka)
      have hbd : (W.alloc (.cells ([.int .i64 k0, .int .i64 n0, .string s0, .slice ql nl cl, .slice qk nk ck]).toArray 50)).ownsRow 0 50 5 (.slice (some ⟨W.heap.size, 0, none⟩) 1 1) 1 [.int .i64 k0, .int .i64 n0, .string s0, .slice ql nl cl, .slice qk nk ck] := owns_lo (Nat.zero_le _) (World.ownsRow_lit W ([.int .i64 k0, .int .i64 n0, .string s0, .slice ql nl cl, .slice qk nk ck]).toArray 1 (Nat.le_refl _) (by unfold maxLen; omega) rfl)
      obtain ⟨bd, hbe⟩ : ∃ q, q = W.heap.size := ⟨_, rfl⟩
      rw [← hbe] at hbd
      try rw [← hbe]
      have hbw : w.heap.size ≤ bd := by rw [hbe]; have := (Array.getElem?_eq_some_iff.1 hV0).1; omega
      clear hHeld
      refine hK.out _ (W.alloc (.cells ([.int .i64 k0, .int .i64 n0, .string s0, .slice ql nl cl, .slice qk nk ck]).toArray 50)) True.intro (fun hHeld => ?_)
      clear hK K
      try simp only [Act.put, List.getElem_toArray, List.getElem_cons_zero, List.getElem_cons_succ, List.setIfInBounds_toArray, List.set_cons_zero, List.set_cons_succ]
      have h := N02020.out (W.alloc (.cells ([.int .i64 k0, .int .i64 n0, .string s0, .slice ql nl cl, .slice qk nk ck]).toArray 50)) hM hV hR hc hch hu bb hbb bd hbd hbw
      rw [hΦ] at h
      exact wpAny_at2 h (by kernel_rfl) (by kernel_rfl)
  have N02100 : Hid (∀ (W : World) (hM : W.heap[w.heap.size]? = some (boxM (.slice qc n cc) (.slice qu n cu))) (hV : W.heap[w.heap.size + 1]? = some (.cells ([.int .i64 k0, .int .i64 n0, .string s0, .slice ql nl cl, .slice qk nk ck]).toArray 50 (0, 0))) (hR : W.heap[w.heap.size + 1 + 1]? = some boxZ) (hc : W.ownsRow 0 50 5 (.slice qc n cc) n ys) (hch : Chg (OfTwo (.slice qc n cc) (.slice qu n cu)) w W) (hu : W.ownsRow 0 9 1 (.slice qu n cu) n (strsV ks)) (bb : Nat) (hbb : W.ownsRow 0 9 1 (.slice (some ⟨bb, 0, none⟩) 1 1) 1 [.string key]), Φ 9 #[true, false, true, true, true, false, true, true, false, false, false, false, false, false, false] { tmps := #[.agg #[.int .i64 5, .int .i64 0, .string ⟨#[]⟩, .slice qc n cc, .slice qu n cu], .string key, .agg #[.int .i64 k0, .int .i64 n0, .string s0, .slice ql nl cl, .slice qk nk ck], .pointer (some ⟨w.heap.size, 0, none⟩), undef, .pointer (some ⟨w.heap.size + 1, 0, none⟩), .pointer (some ⟨w.heap.size + 1 + 1, 0, none⟩), .pointer (some ⟨w.heap.size, 4, none⟩), undef, .string key, .string key, .slice (some ⟨bb, 0, none⟩) 1 1, undef, .pointer (some ⟨w.heap.size, 3, none⟩), .slice qc n cc, undef, undef, undef, undef, undef, undef], defers := [] } W) := by
    intro W hM hV hR hc hch hu bb hbb
    rw [hΦ]
    have hHeld : True := True.intro
    refine wpAnyH_ready (rs := [1, 8]) (by kernel_rfl) (by simp) ?_
    refine AllReadyH.cons rfl (fun K hK => ?_) (AllReadyH.cons rfl (fun K hK => ?_) AllReadyH.nil)
    · have z4 := vblk_cell hM 4
      simp only [boxM, List.getElem?_toArray, List.getElem?_cons_succ, List.getElem?_cons_zero] at z4
      go_simp
      clear z4
      clear hHeld
      refine hK.out _ _ True.intro (fun hHeld => ?_)
      clear hK K
      try simp only [Act.put, List.getElem_toArray, List.getElem_cons_zero, List.getElem_cons_succ, List.setIfInBounds_toArray, List.set_cons_zero, List.set_cons_succ]
      have h := N12100.out W hM hV hR hc hch hu bb hbb
      rw [hΦ] at h
      exact wpAny_at2 h (by kernel_rfl) (by kernel_rfl)
    · have z0 := vblk_cell hV 0
      have z1 := vblk_cell hV 1
      have z2 := vblk_cell hV 2
      have z3 := vblk_cell hV 3
      have z4 := vblk_cell hV 4
      simp only [boxM, List.getElem?_toArray, List.getElem?_cons_succ, List.getElem?_cons_zero] at z0 z1 z2 z3 z4
      go_simp
      clear z0 z1 z2 z3 z4
      clear hHeld
      refine hK.out _ _ True.intro (fun hHeld => ?_)
      clear hK K
      try simp only [Act.put, List.getElem_toArray, List.getElem_cons_zero, List.getElem_cons_succ, List.setIfInBounds_toArray, List.set_cons_zero, List.set_cons_succ]
      have h := N02110.out W hM hV hR hc hch hu bb hbb
      rw [hΦ] at h
      exact wpAny_at2 h (by kernel_rfl) (by kernel_rfl)
  have N10020 : Hid (∀ (W : World) (hM : W.heap[w.heap.size]? = some (boxM (.slice qc n cc) (.slice qu n cu))) (hV : W.heap[w.heap.size + 1]? = some (.cells ([.int .i64 k0, .int .i64 n0, .string s0, .slice ql nl cl, .slice qk nk ck]).toArray 50 (0, 0))) (hR : W.heap[w.heap.size + 1 + 1]? = some boxZ) (hc : W.ownsRow 0 50 5 (.slice qc n cc) n ys) (hch : Chg (OfTwo (.slice qc n cc) (.slice qu n cu)) w W) (hu : W.ownsRow 0 9 1 (.slice qu n cu) n (strsV ks)) (bd : Nat) (hbd : W.ownsRow 0 50 5 (.slice (some ⟨bd, 0, none⟩) 1 1) 1 [.int .i64 k0, .int .i64 n0, .string s0, .slice ql nl cl, .slice qk nk ck]) (hbw : w.heap.size ≤ bd), Φ 9 #[true, true, true, false, false, false, true, false, true, true, false, false, false, false, false] { tmps := #[.agg #[.int .i64 5, .int .i64 0, .string ⟨#[]⟩, .slice qc n cc, .slice qu n cu], .string key, .agg #[.int .i64 k0, .int .i64 n0, .string s0, .slice ql nl cl, .slice qk nk ck], .pointer (some ⟨w.heap.size, 0, none⟩), undef, .pointer (some ⟨w.heap.size + 1, 0, none⟩), .pointer (some ⟨w.heap.size + 1 + 1, 0, none⟩), .pointer (some ⟨w.heap.size, 4, none⟩), .slice qu n cu, .string key, undef, undef, undef, .pointer (some ⟨w.heap.size, 3, none⟩), undef, .agg #[.int .i64 k0, .int .i64 n0, .string s0, .slice ql nl cl, .slice qk nk ck], .slice (some ⟨bd, 0, none⟩) 1 1, undef, undef, undef, undef], defers := [] } W) := by
    intro W hM hV hR hc hch hu bd hbd hbw
    rw [hΦ]
    have hHeld : True := True.intro
    refine wpAnyH_ready (rs := [3, 7]) (by kernel_rfl) (by simp) ?_
    refine AllReadyH.cons rfl (fun K hK => ?_) (AllReadyH.cons rfl (fun K hK => ?_) AllReadyH.nil)
    · go_simp
      go_wp2_with (go_at_call 74; refine (HC.out _).mono ?_; rintro e W1 ⟨rfl, b1⟩)
      have hM := (b1.block _ (Array.getElem?_eq_some_iff.1 hM).1).trans hM
      have hV := (b1.block _ (Array.getElem?_eq_some_iff.1 hV).1).trans hV
      have hR := (b1.block _ (Array.getElem?_eq_some_iff.1 hR).1).trans hR
      have hc := owns_below hc b1
      have hu := owns_below hu b1
      have hbd := owns_below hbd b1
      have hch := hch.trans (Chg.of b1)
      clear b1
      clear hHeld
      refine hK.out _ _ True.intro (fun hHeld => ?_)
      clear hK K
      try simp only [Act.put, List.getElem_toArray, List.getElem_cons_zero, List.getElem_cons_succ, List.setIfInBounds_toArray, List.set_cons_zero, List.set_cons_succ]
      have h := N11020.out W1 hM hV hR hc hch hu bd hbd hbw
      rw [hΦ] at h
      exact wpAny_at2 h (by kernel_rfl) (by kernel_rfl)
    · have z3 := vblk_cell hM 3
      simp only [boxM, List.getElem?_toArray, List.getElem?_cons_succ, List.getElem?_cons_zero] at z3
      go_simp
      clear z3
      clear hHeld
      refine hK.out _ _ True.intro (fun hHeld => ?_)
      clear hK K
      try simp only [Act.put, List.getElem_toArray, List.getElem_cons_zero, List.getElem_cons_succ, List.setIfInBounds_toArray, List.set_cons_zero, List.set_cons_succ]
      have h := N10120.out W hM hV hR hc hch hu bd hbd hbw
      rw [hΦ] at h
      exact wpAny_at2 h (by kernel_rfl) (by kernel_rfl)
  have N10110 : Hid (∀ (W : World) (hM : W.heap[w.heap.size]? = some (boxM (.slice qc n cc) (.slice qu n cu))) (hV : W.heap[w.heap.size + 1]? = some (.cells ([.int .i64 k0, .int .i64 n0, .string s0, .slice ql nl cl, .slice qk nk ck]).toArray 50 (0, 0))) (hR : W.heap[w.heap.size + 1 + 1]? = some boxZ) (hc : W.ownsRow 0 50 5 (.slice qc n cc) n ys) (hch : Chg (OfTwo (.slice qc n cc) (.slice qu n cu)) w W) (hu : W.ownsRow 0 9 1 (.slice qu n cu) n (strsV ks)), Φ 9 #[true, true, true, false, false, false, true, true, true, false, false, false, false, false, false] { tmps := #[.agg #[.int .i64 5, .int .i64 0, .string ⟨#[]⟩, .slice qc n cc, .slice qu n cu], .string key, .agg #[.int .i64 k0, .int .i64 n0, .string s0, .slice ql nl cl, .slice qk nk ck], .pointer (some ⟨w.heap.size, 0, none⟩), undef, .pointer (some ⟨w.heap.size + 1, 0, none⟩), .pointer (some ⟨w.heap.size + 1 + 1, 0, none⟩), .pointer (some ⟨w.heap.size, 4, none⟩), .slice qu n cu, .string key, undef, undef, undef, .pointer (some ⟨w.heap.size, 3, none⟩), .slice qc n cc, .agg #[.int .i64 k0, .int .i64 n0, .string s0, .slice ql nl cl, .slice qk nk ck], undef, undef, undef, undef, undef], defers := [] } W) := by
    intro W hM hV hR hc hch hu
    rw [hΦ]
    have hHeld : True := True.intro
    refine wpAnyH_ready (rs := [3, 9]) (by kernel_rfl) (by simp) ?_
    refine AllReadyH.cons rfl (fun K hK => ?_) (AllReadyH.cons rfl (fun K hK => ?_) AllReadyH.nil)
    · go_simp
      go_wp2_with (go_at_call 74; refine (HC.out _).mono ?_; rintro e W1 ⟨rfl, b1⟩)
      have hM := (b1.block _ (Array.getElem?_eq_some_iff.1 hM).1).trans hM
      have hV := (b1.block _ (Array.getElem?_eq_some_iff.1 hV).1).trans hV
      have hR := (b1.block _ (Array.getElem?_eq_some_iff.1 hR).1).trans hR
      have hc := owns_below hc b1
      have hu := owns_below hu b1
      have hch := hch.trans (Chg.of b1)
      clear b1
      clear hHeld
      refine hK.out _ _ True.intro (fun hHeld => ?_)
      clear hK K
      try simp only [Act.put, List.getElem_toArray, List.getElem_cons_zero, List.getElem_cons_succ, List.setIfInBounds_toArray, List.set_cons_zero, List.set_cons_succ]
      have h := N11110.out W1 hM hV hR hc hch hu
      rw [hΦ] at h
      exact wpAny_at2 h (by kernel_rfl) (by kernel_rfl)
    · have hV0 := hV
      go_simp
      have ka : Below W.heap.size W (W.alloc (.cells ([.int .i64 k0, .int .i64 n0, .string s0, .slice ql nl cl, .slice qk nk ck]).toArray 50)) := (Below.refl _ _).alloc (Nat.le_refl _) _
      have hM := (ka.block _ (Array.getElem?_eq_some_iff.1 hM).1).trans hM
      have hV := (ka.block _ (Array.getElem?_eq_some_iff.1 hV).1).trans hV
      have hR := (ka.block _ (Array.getElem?_eq_some_iff.1 hR).1).trans hR
      have hc := owns_below hc ka
      have hu := owns_below hu ka
      have hch := hch.trans (Chg.of ka)
      have hbd : (W.alloc (.cells ([.int .i64 k0, .int .i64 n0, .string s0, .slice ql nl cl, .slice qk nk ck]).toArray 50)).ownsRow 0 50 5 (.slice (some ⟨W.heap.size, 0, none⟩) 1 1) 1 [.int .i64 k0, .int .i64 n0, .string s0, .slice ql nl cl, .slice qk nk ck] := owns_lo (Nat.zero_le _) (World.ownsRow_lit W ([.int .i64 k0, .int .i64 n0, .string s0, .slice ql nl cl, .slice qk nk ck]).toArray 1 (Nat.le_refl _) (by unfold maxLen; omega) rfl)
      obtain ⟨bd, hbe⟩ : ∃ q, q = W.heap.size := ⟨_, rfl⟩
      rw [← hbe] at hbd
      try rw [← hbe]
      have hbw : w.heap.size ≤ bd := by rw [hbe]; have := (Array.getElem?_eq_some_iff.1 hV0).1; omega
      clear hHeld
      refine hK.out _ (W.alloc (.cells ([.int .i64 k0, .int .i64 n0, .string s0, .slice ql nl cl, .slice qk nk ck]).toArray 50)) True.intro (fun hHeld => ?_)
      clear hK K
      try simp only [Act.put, List.getElem_toArray, List.getElem_cons_zero, List.getElem_cons_succ, List.setIfInBounds_toArray, List.set_cons_zero, List.set_cons_succ]
      have h := N10120.out (W.alloc (.cells ([.int .i64 k0, .int .i64 n0, .string s0, .slice ql nl cl, .slice qk nk ck]).toArray 50)) hM hV hR hc hch hu bd hbd hbw
      rw [hΦ] at h
      exact wpAny_at2 h (by kernel_rfl) (by kernel_rfl)
  have N11010 : Hid (∀ (W : World) (hM : W.heap[w.heap.size]? = some (boxM (.slice qc n cc) (.slice qu n cu))) (hV : W.heap[w.heap.size + 1]? = some (.cells ([.int .i64 k0, .int .i64 n0, .string s0, .slice ql nl cl, .slice qk nk ck]).toArray 50 (0, 0))) (hR : W.heap[w.heap.size + 1 + 1]? = some boxZ) (hc : W.ownsRow 0 50 5 (.slice qc n cc) n ys) (hch : Chg (OfTwo (.slice qc n cc) (.slice qu n cu)) w W) (hu : W.ownsRow 0 9 1 (.slice qu n cu) n (strsV ks)), Φ 9 #[true, true, true, true, false, false, true, false, true, false, false, false, false, false, false] { tmps := #[.agg #[.int .i64 5, .int .i64 0, .string ⟨#[]⟩, .slice qc n cc, .slice qu n cu], .string key, .agg #[.int .i64 k0, .int .i64 n0, .string s0, .slice ql nl cl, .slice qk nk ck], .pointer (some ⟨w.heap.size, 0, none⟩), undef, .pointer (some ⟨w.heap.size + 1, 0, none⟩), .pointer (some ⟨w.heap.size + 1 + 1, 0, none⟩), .pointer (some ⟨w.heap.size, 4, none⟩), .slice qu n cu, .string key, .string key, undef, undef, .pointer (some ⟨w.heap.size, 3, none⟩), undef, .agg #[.int .i64 k0, .int .i64 n0, .string s0, .slice ql nl cl, .slice qk nk ck], undef, undef, undef, undef, undef], defers := [] } W) := by
    intro W hM hV hR hc hch hu
    rw [hΦ]
    have hHeld : True := True.intro
    refine wpAnyH_ready (rs := [4, 7, 9]) (by kernel_rfl) (by simp) ?_
    refine AllReadyH.cons rfl (fun K hK => ?_) (AllReadyH.cons rfl (fun K hK => ?_) (AllReadyH.cons rfl (fun K hK => ?_) AllReadyH.nil))
    · go_simp
      have ka : Below W.heap.size W (W.alloc (.cells #[.string key] 9)) := (Below.refl _ _).alloc (Nat.le_refl _) _
      have hM := (ka.block _ (Array.getElem?_eq_some_iff.1 hM).1).trans hM
      have hV := (ka.block _ (Array.getElem?_eq_some_iff.1 hV).1).trans hV
      have hR := (ka.block _ (Array.getElem?_eq_some_iff.1 hR).1).trans hR
      have hc := owns_below hc ka
      have hu := owns_below hu ka
      have hch := hch.trans (Chg.of ka)
      have hbb : (W.alloc (.cells #[.string key] 9)).ownsRow 0 9 1 (.slice (some ⟨W.heap.size, 0, none⟩) 1 1) 1 [.string key] := owns_lo (Nat.zero_le _) (World.ownsRow_lit W ([.string key]).toArray 1 (Nat.le_refl _) (by unfold maxLen; omega) rfl)
      obtain ⟨bb, hbe⟩ : ∃ q, q = W.heap.size := ⟨_, rfl⟩
      rw [← hbe] at hbb
      try rw [← hbe]
      clear hHeld
      refine hK.out _ (W.alloc (.cells #[.string key] 9)) True.intro (fun hHeld => ?_)
      clear hK K
      try simp only [Act.put, List.getElem_toArray, List.getElem_cons_zero, List.getElem_cons_succ, List.setIfInBounds_toArray, List.set_cons_zero, List.set_cons_succ]
      have h := N12010.out (W.alloc (.cells #[.string key] 9)) hM hV hR hc hch hu bb hbb
      rw [hΦ] at h
      exact wpAny_at2 h (by kernel_rfl) (by kernel_rfl)
    · have z3 := vblk_cell hM 3
      simp only [boxM, List.getElem?_toArray, List.getElem?_cons_succ, List.getElem?_cons_zero] at z3
      go_simp
      clear z3
      clear hHeld
      refine hK.out _ _ True.intro (fun hHeld => ?_)
      clear hK K
      try simp only [Act.put, List.getElem_toArray, List.getElem_cons_zero, List.getElem_cons_succ, List.setIfInBounds_toArray, List.set_cons_zero, List.set_cons_succ]
      have h := N11110.out W hM hV hR hc hch hu
      rw [hΦ] at h
      exact wpAny_at2 h (by kernel_rfl) (by kernel_rfl)
    · have hV0 := hV
      go_simp
      have ka : Below W.heap.size W (W.alloc (.cells ([.int .i64 k0, .int .i64 n0, .string s0, .slice ql nl cl, .slice qk nk ck]).toArray 50)) := (Below.refl _ _).alloc (Nat.le_refl _) _
      have hM := (ka.block _ (Array.getElem?_eq_some_iff.1 hM).1).trans hM
      have hV := (ka.block _ (Array.getElem?_eq_some_iff.1 hV).1).trans hV
      have hR := (ka.block _ (Array.getElem?_eq_some_iff.1 hR).1).trans hR
      have hc := owns_below hc ka
      have hu := owns_below hu ka
      have hch := hch.trans (Chg.of ka)
      have hbd : (W.alloc (.cells ([.int .i64 k0, .int .i64 n0, .string s0, .slice ql nl cl, .slice qk nk ck]).toArray 50)).ownsRow 0 50 5 (.slice (some ⟨W.heap.size, 0, none⟩) 1 1) 1 [.int .i64 k0, .int .i64 n0, .string s0, .slice ql nl cl, .slice qk nk ck] := owns_lo (Nat.zero_le _) (World.ownsRow_lit W ([.int .i64 k0, .int .i64 n0, .string s0, .slice ql nl cl, .slice qk nk ck]).toArray 1 (Nat.le_refl _) (by unfold maxLen; omega) rfl)
      obtain ⟨bd, hbe⟩ : ∃ q, q = W.heap.size := ⟨_, rfl⟩
      rw [← hbe] at hbd
      try rw [← hbe]
      have hbw : w.heap.size ≤ bd := by rw [hbe]; have := (Array.getElem?_eq_some_iff.1 hV0).1; omega
      clear hHeld
      refine hK.out _ (W.alloc (.cells ([.int .i64 k0, .int .i64 n0, .string s0, .slice ql nl cl, .slice qk nk ck]).toArray 50)) True.intro (fun hHeld => ?_)
      clear hK K
      try simp only [Act.put, List.getElem_toArray, List.getElem_cons_zero, List.getElem_cons_succ, List.setIfInBounds_toArray, List.set_cons_zero, List.set_cons_succ]
      have h := N11020.out (W.alloc (.cells ([.int .i64 k0, .int .i64 n0, .string s0, .slice ql nl cl, .slice qk nk ck]).toArray 50)) hM hV hR hc hch hu bd hbd hbw
      rw [hΦ] at h
      exact wpAny_at2 h (by kernel_rfl) (by kernel_rfl)
  have N11100 : Hid (∀ (W : World) (hM : W.heap[w.heap.size]? = some (boxM (.slice qc n cc) (.slice qu n cu))) (hV : W.heap[w.heap.size + 1]? = some (.cells ([.int .i64 k0, .int .i64 n0, .string s0, .slice ql nl cl, .slice qk nk ck]).toArray 50 (0, 0))) (hR : W.heap[w.heap.size + 1 + 1]? = some boxZ) (hc : W.ownsRow 0 50 5 (.slice qc n cc) n ys) (hch : Chg (OfTwo (.slice qc n cc) (.slice qu n cu)) w W) (hu : W.ownsRow 0 9 1 (.slice qu n cu) n (strsV ks)), Φ 9 #[true, true, true, true, false, false, true, true, false, false, false, false, false, false, false] { tmps := #[.agg #[.int .i64 5, .int .i64 0, .string ⟨#[]⟩, .slice qc n cc, .slice qu n cu], .string key, .agg #[.int .i64 k0, .int .i64 n0, .string s0, .slice ql nl cl, .slice qk nk ck], .pointer (some ⟨w.heap.size, 0, none⟩), undef, .pointer (some ⟨w.heap.size + 1, 0, none⟩), .pointer (some ⟨w.heap.size + 1 + 1, 0, none⟩), .pointer (some ⟨w.heap.size, 4, none⟩), .slice qu n cu, .string key, .string key, undef, undef, .pointer (some ⟨w.heap.size, 3, none⟩), .slice qc n cc, undef, undef, undef, undef, undef, undef], defers := [] } W) := by
    intro W hM hV hR hc hch hu
    rw [hΦ]
    have hHeld : True := True.intro
    refine wpAnyH_ready (rs := [4, 8]) (by kernel_rfl) (by simp) ?_
    refine AllReadyH.cons rfl (fun K hK => ?_) (AllReadyH.cons rfl (fun K hK => ?_) AllReadyH.nil)
    · go_simp
      have ka : Below W.heap.size W (W.alloc (.cells #[.string key] 9)) := (Below.refl _ _).alloc (Nat.le_refl _) _
      have hM := (ka.block _ (Array.getElem?_eq_some_iff.1 hM).1).trans hM
      have hV := (ka.block _ (Array.getElem?_eq_some_iff.1 hV).1).trans hV
      have hR := (ka.block _ (Array.getElem?_eq_some_iff.1 hR).1).trans hR
      have hc := owns_below hc ka
      have hu := owns_below hu ka
      have hch := hch.trans (Chg.of ka)
      have hbb : (W.alloc (.cells #[.string key] 9)).ownsRow 0 9 1 (.slice (some ⟨W.heap.size, 0, none⟩) 1 1) 1 [.string key] := owns_lo (Nat.zero_le _) (World.ownsRow_lit W ([.string key]).toArray 1 (Nat.le_refl _) (by unfold maxLen; omega) rfl)
      obtain ⟨bb, hbe⟩ : ∃ q, q = W.heap.size := ⟨_, rfl⟩
      rw [← hbe] at hbb
      try rw [← hbe]
      clear hHeld
      refine hK.out _ (W.alloc (.cells #[.string key] 9)) True.intro (fun hHeld => ?_)
      clear hK K
      try simp only [Act.put, List.getElem_toArray, List.getElem_cons_zero, List.getElem_cons_succ, List.setIfInBounds_toArray, List.set_cons_zero, List.set_cons_succ]
      have h := N12100.out (W.alloc (.cells #[.string key] 9)) hM hV hR hc hch hu bb hbb
      rw [hΦ] at h
      exact wpAny_at2 h (by kernel_rfl) (by kernel_rfl)
    · have z0 := vblk_cell hV 0
      have z1 := vblk_cell hV 1
      have z2 := vblk_cell hV 2
      have z3 := vblk_cell hV 3
      have z4 := vblk_cell hV 4
      simp only [boxM, List.getElem?_toArray, List.getElem?_cons_succ, List.getElem?_cons_zero] at z0 z1 z2 z3 z4
      go_simp
      clear z0 z1 z2 z3 z4
      clear hHeld
      refine hK.out _ _ True.intro (fun hHeld => ?_)
      clear hK K
      try simp only [Act.put, List.getElem_toArray, List.getElem_cons_zero, List.getElem_cons_succ, List.setIfInBounds_toArray, List.set_cons_zero, List.set_cons_succ]
      have h := N11110.out W hM hV hR hc hch hu
      rw [hΦ] at h
      exact wpAny_at2 h (by kernel_rfl) (by kernel_rfl)
  have N12000 : Hid (∀ (W : World) (hM : W.heap[w.heap.size]? = some (boxM (.slice qc n cc) (.slice qu n cu))) (hV : W.heap[w.heap.size + 1]? = some (.cells ([.int .i64 k0, .int .i64 n0, .string s0, .slice ql nl cl, .slice qk nk ck]).toArray 50 (0, 0))) (hR : W.heap[w.heap.size + 1 + 1]? = some boxZ) (hc : W.ownsRow 0 50 5 (.slice qc n cc) n ys) (hch : Chg (OfTwo (.slice qc n cc) (.slice qu n cu)) w W) (hu : W.ownsRow 0 9 1 (.slice qu n cu) n (strsV ks)) (bb : Nat) (hbb : W.ownsRow 0 9 1 (.slice (some ⟨bb, 0, none⟩) 1 1) 1 [.string key]), Φ 9 #[true, true, true, true, true, false, true, false, false, false, false, false, false, false, false] { tmps := #[.agg #[.int .i64 5, .int .i64 0, .string ⟨#[]⟩, .slice qc n cc, .slice qu n cu], .string key, .agg #[.int .i64 k0, .int .i64 n0, .string s0, .slice ql nl cl, .slice qk nk ck], .pointer (some ⟨w.heap.size, 0, none⟩), undef, .pointer (some ⟨w.heap.size + 1, 0, none⟩), .pointer (some ⟨w.heap.size + 1 + 1, 0, none⟩), .pointer (some ⟨w.heap.size, 4, none⟩), .slice qu n cu, .string key, .string key, .slice (some ⟨bb, 0, none⟩) 1 1, undef, .pointer (some ⟨w.heap.size, 3, none⟩), undef, undef, undef, undef, undef, undef, undef], defers := [] } W) := by
    intro W hM hV hR hc hch hu bb hbb
    rw [hΦ]
    have hHeld : True := True.intro
    refine wpAnyH_ready (rs := [5, 7, 8]) (by kernel_rfl) (by simp) ?_
    refine AllReadyH.cons rfl (fun K hK => ?_) (AllReadyH.cons rfl (fun K hK => ?_) (AllReadyH.cons rfl (fun K hK => ?_) AllReadyH.nil))
    · rw [if_pos (by rfl)]
      refine wp_append_blk _ _ _ 26 rfl 0 9 j0 (.string ⟨#[]⟩) 1 16 Try.underlying26 hj hy0 hy1 hy2 rfl (by decide) (.slice qu n cu) n _ rfl hu ⟨bb, 0, none⟩ 1 1 [.string key] rfl rfl (fun j q hq => lit_src hbb hq (by simp)) (by simp [Value.oneCell']) (by unfold maxLen; omega) (by omega) (Nat.zero_le _) (by omega) ?_
      intro u2 W1 hu2 g1 l1
      obtain ⟨qu2, cu2, eu2⟩ := owns_sl hu2
      subst eu2
      have hul := newOr_of hR l1
      have hM := (g1.block _ (Array.getElem?_eq_some_iff.1 hM).1 (fun e => box_str hu hM e.symm (by decide))).trans hM
      have hV := (g1.block _ (Array.getElem?_eq_some_iff.1 hV).1 (fun e => box_str hu hV e.symm (by decide))).trans hV
      have hR := (g1.block _ (Array.getElem?_eq_some_iff.1 hR).1 (fun e => box_str hu hR e.symm (by decide))).trans hR
      have hc := hc.kept g1 (owns_apart hc hu (by decide))
      have hch := hch.trans (Chg.grown g1 (fun g h => .inr h))
      clear hHeld
      refine hK.out _ _ True.intro (fun hHeld => ?_)
      clear hK K
      try simp only [Act.put, List.getElem_toArray, List.getElem_cons_zero, List.getElem_cons_succ, List.setIfInBounds_toArray, List.set_cons_zero, List.set_cons_succ]
      have h := N12001.out W1 hM hV hR hc hch bb qu2 cu2 hu2 hul
      rw [hΦ] at h
      exact wpAny_at2 h (by kernel_rfl) (by kernel_rfl)
    · have z3 := vblk_cell hM 3
      simp only [boxM, List.getElem?_toArray, List.getElem?_cons_succ, List.getElem?_cons_zero] at z3
      go_simp
      clear z3
      clear hHeld
      refine hK.out _ _ True.intro (fun hHeld => ?_)
      clear hK K
      try simp only [Act.put, List.getElem_toArray, List.getElem_cons_zero, List.getElem_cons_succ, List.setIfInBounds_toArray, List.set_cons_zero, List.set_cons_succ]
      have h := N12100.out W hM hV hR hc hch hu bb hbb
      rw [hΦ] at h
      exact wpAny_at2 h (by kernel_rfl) (by kernel_rfl)
    · have z0 := vblk_cell hV 0
      have z1 := vblk_cell hV 1
      have z2 := vblk_cell hV 2
      have z3 := vblk_cell hV 3
      have z4 := vblk_cell hV 4
      simp only [boxM, List.getElem?_toArray, List.getElem?_cons_succ, List.getElem?_cons_zero] at z0 z1 z2 z3 z4
      go_simp
      clear z0 z1 z2 z3 z4
      clear hHeld
      refine hK.out _ _ True.intro (fun hHeld => ?_)
      clear hK K
      try simp only [Act.put, List.getElem_toArray, List.getElem_cons_zero, List.getElem_cons_succ, List.setIfInBounds_toArray, List.set_cons_zero, List.set_cons_succ]
      have h := N12010.out W hM hV hR hc hch hu bb hbb
      rw [hΦ] at h
      exact wpAny_at2 h (by kernel_rfl) (by kernel_rfl)
  have N00020 : Hid (∀ (W : World) (hM : W.heap[w.heap.size]? = some (boxM (.slice qc n cc) (.slice qu n cu))) (hV : W.heap[w.heap.size + 1]? = some (.cells ([.int .i64 k0, .int .i64 n0, .string s0, .slice ql nl cl, .slice qk nk ck]).toArray 50 (0, 0))) (hR : W.heap[w.heap.size + 1 + 1]? = some boxZ) (hc : W.ownsRow 0 50 5 (.slice qc n cc) n ys) (hch : Chg (OfTwo (.slice qc n cc) (.slice qu n cu)) w W) (hu : W.ownsRow 0 9 1 (.slice qu n cu) n (strsV ks)) (bd : Nat) (hbd : W.ownsRow 0 50 5 (.slice (some ⟨bd, 0, none⟩) 1 1) 1 [.int .i64 k0, .int .i64 n0, .string s0, .slice ql nl cl, .slice qk nk ck]) (hbw : w.heap.size ≤ bd), Φ 10 #[true, false, true, false, false, false, true, false, true, true, false, false, false, false, false] { tmps := #[.agg #[.int .i64 5, .int .i64 0, .string ⟨#[]⟩, .slice qc n cc, .slice qu n cu], .string key, .agg #[.int .i64 k0, .int .i64 n0, .string s0, .slice ql nl cl, .slice qk nk ck], .pointer (some ⟨w.heap.size, 0, none⟩), undef, .pointer (some ⟨w.heap.size + 1, 0, none⟩), .pointer (some ⟨w.heap.size + 1 + 1, 0, none⟩), .pointer (some ⟨w.heap.size, 4, none⟩), undef, .string key, undef, undef, undef, .pointer (some ⟨w.heap.size, 3, none⟩), undef, .agg #[.int .i64 k0, .int .i64 n0, .string s0, .slice ql nl cl, .slice qk nk ck], .slice (some ⟨bd, 0, none⟩) 1 1, undef, undef, undef, undef], defers := [] } W) := by
    intro W hM hV hR hc hch hu bd hbd hbw
    rw [hΦ]
    have hHeld : True := True.intro
    refine wpAnyH_ready (rs := [1, 3, 7]) (by kernel_rfl) (by simp) ?_
    refine AllReadyH.cons rfl (fun K hK => ?_) (AllReadyH.cons rfl (fun K hK => ?_) (AllReadyH.cons rfl (fun K hK => ?_) AllReadyH.nil))
    · have z4 := vblk_cell hM 4
      simp only [boxM, List.getElem?_toArray, List.getElem?_cons_succ, List.getElem?_cons_zero] at z4
      go_simp
      clear z4
      clear hHeld
      refine hK.out _ _ True.intro (fun hHeld => ?_)
      clear hK K
      try simp only [Act.put, List.getElem_toArray, List.getElem_cons_zero, List.getElem_cons_succ, List.setIfInBounds_toArray, List.set_cons_zero, List.set_cons_succ]
      have h := N10020.out W hM hV hR hc hch hu bd hbd hbw
      rw [hΦ] at h
      exact wpAny_at2 h (by kernel_rfl) (by kernel_rfl)
    · go_simp
      go_wp2_with (go_at_call 74; refine (HC.out _).mono ?_; rintro e W1 ⟨rfl, b1⟩)
      have hM := (b1.block _ (Array.getElem?_eq_some_iff.1 hM).1).trans hM
      have hV := (b1.block _ (Array.getElem?_eq_some_iff.1 hV).1).trans hV
      have hR := (b1.block _ (Array.getElem?_eq_some_iff.1 hR).1).trans hR
      have hc := owns_below hc b1
      have hu := owns_below hu b1
      have hbd := owns_below hbd b1
      have hch := hch.trans (Chg.of b1)
      clear b1
      clear hHeld
      refine hK.out _ _ True.intro (fun hHeld => ?_)
      clear hK K
      try simp only [Act.put, List.getElem_toArray, List.getElem_cons_zero, List.getElem_cons_succ, List.setIfInBounds_toArray, List.set_cons_zero, List.set_cons_succ]
      have h := N01020.out W1 hM hV hR hc hch hu bd hbd hbw
      rw [hΦ] at h
      exact wpAny_at2 h (by kernel_rfl) (by kernel_rfl)
    · have z3 := vblk_cell hM 3
      simp only [boxM, List.getElem?_toArray, List.getElem?_cons_succ, List.getElem?_cons_zero] at z3
      go_simp
      clear z3
      clear hHeld
      refine hK.out _ _ True.intro (fun hHeld => ?_)
      clear hK K
      try simp only [Act.put, List.getElem_toArray, List.getElem_cons_zero, List.getElem_cons_succ, List.setIfInBounds_toArray, List.set_cons_zero, List.set_cons_succ]
      have h := N00120.out W hM hV hR hc hch hu bd hbd hbw
      rw [hΦ] at h
      exact wpAny_at2 h (by kernel_rfl) (by kernel_rfl)
  have N00110 : Hid (∀ (W : World) (hM : W.heap[w.heap.size]? = some (boxM (.slice qc n cc) (.slice qu n cu))) (hV : W.heap[w.heap.size + 1]? = some (.cells ([.int .i64 k0, .int .i64 n0, .string s0, .slice ql nl cl, .slice qk nk ck]).toArray 50 (0, 0))) (hR : W.heap[w.heap.size + 1 + 1]? = some boxZ) (hc : W.ownsRow 0 50 5 (.slice qc n cc) n ys) (hch : Chg (OfTwo (.slice qc n cc) (.slice qu n cu)) w W) (hu : W.ownsRow 0 9 1 (.slice qu n cu) n (strsV ks)), Φ 10 #[true, false, true, false, false, false, true, true, true, false, false, false, false, false, false] { tmps := #[.agg #[.int .i64 5, .int .i64 0, .string ⟨#[]⟩, .slice qc n cc, .slice qu n cu], .string key, .agg #[.int .i64 k0, .int .i64 n0, .string s0, .slice ql nl cl, .slice qk nk ck], .pointer (some ⟨w.heap.size, 0, none⟩), undef, .pointer (some ⟨w.heap.size + 1, 0, none⟩), .pointer (some ⟨w.heap.size + 1 + 1, 0, none⟩), .pointer (some ⟨w.heap.size, 4, none⟩), undef, .string key, undef, undef, undef, .pointer (some ⟨w.heap.size, 3, none⟩), .slice qc n cc, .agg #[.int .i64 k0, .int .i64 n0, .string s0, .slice ql nl cl, .slice qk nk ck], undef, undef, undef, undef, undef], defers := [] } W) := by
    intro W hM hV hR hc hch hu
    rw [hΦ]
    have hHeld : True := True.intro
    refine wpAnyH_ready (rs := [1, 3, 9]) (by kernel_rfl) (by simp) ?_
    refine AllReadyH.cons rfl (fun K hK => ?_) (AllReadyH.cons rfl (fun K hK => ?_) (AllReadyH.cons rfl (fun K hK => ?_) AllReadyH.nil))
    · have z4 := vblk_cell hM 4
      simp only [boxM, List.getElem?_toArray, List.getElem?_cons_succ, List.getElem?_cons_zero] at z4
      go_simp
      clear z4
      clear hHeld
      refine hK.out _ _ True.intro (fun hHeld => ?_)
      clear hK K
      try simp only [Act.put, List.getElem_toArray, List.getElem_cons_zero, List.getElem_cons_succ, List.setIfInBounds_toArray, List.set_cons_zero, List.set_cons_succ]
      have h := N10110.out W hM hV hR hc hch hu
      rw [hΦ] at h
      exact wpAny_at2 h (by kernel_rfl) (by kernel_rfl)
    · go_simp
      go_wp2_with (go_at_call 74; refine (HC.out _).mono ?_; rintro e W1 ⟨rfl, b1⟩)
      have hM := (b1.block _ (Array.getElem?_eq_some_iff.1 hM).1).trans hM
      have hV := (b1.block _ (Array.getElem?_eq_some_iff.1 hV).1).trans hV
      have hR := (b1.block _ (Array.getElem?_eq_some_iff.1 hR).1).trans hR
      have hc := owns_below hc b1
      have hu := owns_below hu b1
      have hch := hch.trans (Chg.of b1)
      clear b1
      clear hHeld
      refine hK.out _ _ True.intro (fun hHeld => ?_)
      clear hK K
      try simp only [Act.put, List.getElem_toArray, List.getElem_cons_zero, List.getElem_cons_succ, List.setIfInBounds_toArray, List.set_cons_zero, List.set_cons_succ]
      have h := N01110.out W1 hM hV hR hc hch hu
      rw [hΦ] at h
      exact wpAny_at2 h (by kernel_rfl) (by kernel_rfl)
    · have hV0 := hV
      go_simp
      have ka : Below W.heap.size W (W.alloc (.cells ([.int .i64 k0, .int .i64 n0, .string s0, .slice ql nl cl, .slice qk nk ck]).toArray 50)) := (Below.refl _ _).alloc (Nat.le_refl _) _
      have hM := (ka.block _ (Array.getElem?_eq_some_iff.1 hM).1).trans hM
      have hV := (ka.block _ (Array.getElem?_eq_some_iff.1 hV).1).trans hV
      have hR := (ka.block _ (Array.getElem?_eq_some_iff.1 hR).1).trans hR
      have hc := owns_below hc ka
      have hu := owns_below hu ka
      have hch := hch.trans (Chg.of ka)
      have hbd : (W.alloc (.cells ([.int .i64 k0, .int .i64 n0, .string s0, .slice ql nl cl, .slice qk nk ck]).toArray 50)).ownsRow 0 50 5 (.slice (some ⟨W.heap.size, 0, none⟩) 1 1) 1 [.int .i64 k0, .int .i64 n0, .string s0, .slice ql nl cl, .slice qk nk ck] := owns_lo (Nat.zero_le _) (World.ownsRow_lit W ([.int .i64 k0, .int .i64 n0, .string s0, .slice ql nl cl, .slice qk nk ck]).toArray 1 (Nat.le_refl _) (by unfold maxLen; omega) rfl)
      obtain ⟨bd, hbe⟩ : ∃ q, q = W.heap.size := ⟨_, rfl⟩
      rw [← hbe] at hbd
      try rw [← hbe]
      have hbw : w.heap.size ≤ bd := by rw [hbe]; have := (Array.getElem?_eq_some_iff.1 hV0).1; omega
      clear hHeld
      refine hK.out _ (W.alloc (.cells ([.int .i64 k0, .int .i64 n0, .string s0, .slice ql nl cl, .slice qk nk ck]).toArray 50)) True.intro (fun hHeld => ?_)
      clear hK K
      try simp only [Act.put, List.getElem_toArray, List.getElem_cons_zero, List.getElem_cons_succ, List.setIfInBounds_toArray, List.set_cons_zero, List.set_cons_succ]
      have h := N00120.out (W.alloc (.cells ([.int .i64 k0, .int .i64 n0, .string s0, .slice ql nl cl, .slice qk nk ck]).toArray 50)) hM hV hR hc hch hu bd hbd hbw
      rw [hΦ] at h
      exact wpAny_at2 h (by kernel_rfl) (by kernel_rfl)
  have N01010 : Hid (∀ (W : World) (hM : W.heap[w.heap.size]? = some (boxM (.slice qc n cc) (.slice qu n cu))) (hV : W.heap[w.heap.size + 1]? = some (.cells ([.int .i64 k0, .int .i64 n0, .string s0, .slice ql nl cl, .slice qk nk ck]).toArray 50 (0, 0))) (hR : W.heap[w.heap.size + 1 + 1]? = some boxZ) (hc : W.ownsRow 0 50 5 (.slice qc n cc) n ys) (hch : Chg (OfTwo (.slice qc n cc) (.slice qu n cu)) w W) (hu : W.ownsRow 0 9 1 (.slice qu n cu) n (strsV ks)), Φ 10 #[true, false, true, true, false, false, true, false, true, false, false, false, false, false, false] { tmps := #[.agg #[.int .i64 5, .int .i64 0, .string ⟨#[]⟩, .slice qc n cc, .slice qu n cu], .string key, .agg #[.int .i64 k0, .int .i64 n0, .string s0, .slice ql nl cl, .slice qk nk ck], .pointer (some ⟨w.heap.size, 0, none⟩), undef, .pointer (some ⟨w.heap.size + 1, 0, none⟩), .pointer (some ⟨w.heap.size + 1 + 1, 0, none⟩), .pointer (some ⟨w.heap.size, 4, none⟩), undef, .string key, .string key, undef, undef, .pointer (some ⟨w.heap.size, 3, none⟩), undef, .agg #[.int .i64 k0, .int .i64 n0, .string s0, .slice ql nl cl, .slice qk nk ck], undef, undef, undef, undef, undef], defers := [] } W) := by
    intro W hM hV hR hc hch hu
    rw [hΦ]
    have hHeld : True := True.intro
    refine wpAnyH_ready (rs := [1, 4, 7, 9]) (by kernel_rfl) (by simp) ?_
    refine AllReadyH.cons rfl (fun K hK => ?_) (AllReadyH.cons rfl (fun K hK => ?_) (AllReadyH.cons rfl (fun K hK => ?_) (AllReadyH.cons rfl (fun K hK => ?_) AllReadyH.nil)))
    · have z4 := vblk_cell hM 4
      simp only [boxM, List.getElem?_toArray, List.getElem?_cons_succ, List.getElem?_cons_zero] at z4
      go_simp
      clear z4
      clear hHeld
      refine hK.out _ _ True.intro (fun hHeld => ?_)
      clear hK K
      try simp only [Act.put, List.getElem_toArray, List.getElem_cons_zero, List.getElem_cons_succ, List.setIfInBounds_toArray, List.set_cons_zero, List.set_cons_succ]
      have h := N11010.out W hM hV hR hc hch hu
      rw [hΦ] at h
      exact wpAny_at2 h (by kernel_rfl) (by kernel_rfl)
    · go_simp
      have ka : Below W.heap.size W (W.alloc (.cells #[.string key] 9)) := (Below.refl _ _).alloc (Nat.le_refl _) _
      have hM := (ka.block _ (Array.getElem?_eq_some_iff.1 hM).1).trans hM
      have hV := (ka.block _ (Array.getElem?_eq_some_iff.1 hV).1).trans hV
      have hR := (ka.block _ (Array.getElem?_eq_some_iff.1 hR).1).trans hR
      have hc := owns_below hc ka
      have hu := owns_below hu ka
      have hch := hch.trans (Chg.of ka)
      have hbb : (W.alloc (.cells #[.string key] 9)).ownsRow 0 9 1 (.slice (some ⟨W.heap.size, 0, none⟩) 1 1) 1 [.string key] := owns_lo (Nat.zero_le _) (World.ownsRow_lit W ([.string key]).toArray 1 (Nat.le_refl _) (by unfold maxLen; omega) rfl)
      obtain ⟨bb, hbe⟩ : ∃ q, q = W.heap.size := ⟨_, rfl⟩
      rw [← hbe] at hbb
      try rw [← hbe]
      clear hHeld
      refine hK.out _ (W.alloc (.cells #[.string key] 9)) True.intro (fun hHeld => ?_)
      clear hK K
      try simp only [Act.put, List.getElem_toArray, List.getElem_cons_zero, List.getElem_cons_succ, List.setIfInBounds_toArray, List.set_cons_zero, List.set_cons_succ]
      have h := N02010.out (W.alloc (.cells #[.string key] 9)) hM hV hR hc hch hu bb hbb
      rw [hΦ] at h
      exact wpAny_at2 h (by kernel_rfl) (by kernel_rfl)
    · have z3 := vblk_cell hM 3
      simp only [boxM, List.getElem?_toArray, List.getElem?_cons_succ, List.getElem?_cons_zero] at z3
      go_simp
      clear z3
      clear hHeld
      refine hK.out _ _ True.intro (fun hHeld => ?_)
      clear hK K
      try simp only [Act.put, List.getElem_toArray, List.getElem_cons_zero, List.getElem_cons_succ, List.setIfInBounds_toArray, List.set_cons_zero, List.set_cons_succ]
      have h := N01110.out W hM hV hR hc hch hu
      rw [hΦ] at h
      exact wpAny_at2 h (by kernel_rfl) (by kernel_rfl)
    · have hV0 := hV
      go_simp
      have ka : Below W.heap.size W (W.alloc (.cells ([.int .i64 k0, .int .i64 n0, .string s0, .slice ql nl cl, .slice qk nk ck]).toArray 50)) := (Below.refl _ _).alloc (Nat.le_refl _) _
      have hM := (ka.block _ (Array.getElem?_eq_some_iff.1 hM).1).trans hM
      have hV := (ka.block _ (Array.getElem?_eq_some_iff.1 hV).1).trans hV
      have hR := (ka.block _ (Array.getElem?_eq_some_iff.1 hR).1).trans hR
      have hc := owns_below hc ka
      have hu := owns_below hu ka
      have hch := hch.trans (Chg.of ka)
      have hbd : (W.alloc (.cells ([.int .i64 k0, .int .i64 n0, .string s0, .slice ql nl cl, .slice qk nk ck]).toArray 50)).ownsRow 0 50 5 (.slice (some ⟨W.heap.size, 0, none⟩) 1 1) 1 [.int .i64 k0, .int .i64 n0, .string s0, .slice ql nl cl, .slice qk nk ck] := owns_lo (Nat.zero_le _) (World.ownsRow_lit W ([.int .i64 k0, .int .i64 n0, .string s0, .slice ql nl cl, .slice qk nk ck]).toArray 1 (Nat.le_refl _) (by unfold maxLen; omega) rfl)
      obtain ⟨bd, hbe⟩ : ∃ q, q = W.heap.size := ⟨_, rfl⟩
      rw [← hbe] at hbd
      try rw [← hbe]
      have hbw : w.heap.size ≤ bd := by rw [hbe]; have := (Array.getElem?_eq_some_iff.1 hV0).1; omega
      clear hHeld
      refine hK.out _ (W.alloc (.cells ([.int .i64 k0, .int .i64 n0, .string s0, .slice ql nl cl, .slice qk nk ck]).toArray 50)) True.intro (fun hHeld => ?_)
      clear hK K
      try simp only [Act.put, List.getElem_toArray, List.getElem_cons_zero, List.getElem_cons_succ, List.setIfInBounds_toArray, List.set_cons_zero, List.set_cons_succ]
      have h := N01020.out (W.alloc (.cells ([.int .i64 k0, .int .i64 n0, .string s0, .slice ql nl cl, .slice qk nk ck]).toArray 50)) hM hV hR hc hch hu bd hbd hbw
      rw [hΦ] at h
      exact wpAny_at2 h (by kernel_rfl) (by kernel_rfl)
  have N01100 : Hid (∀ (W : World) (hM : W.heap[w.heap.size]? = some (boxM (.slice qc n cc) (.slice qu n cu))) (hV : W.heap[w.heap.size + 1]? = some (.cells ([.int .i64 k0, .int .i64 n0, .string s0, .slice ql nl cl, .slice qk nk ck]).toArray 50 (0, 0))) (hR : W.heap[w.heap.size + 1 + 1]? = some boxZ) (hc : W.ownsRow 0 50 5 (.slice qc n cc) n ys) (hch : Chg (OfTwo (.slice qc n cc) (.slice qu n cu)) w W) (hu : W.ownsRow 0 9 1 (.slice qu n cu) n (strsV ks)), Φ 10 #[true, false, true, true, false, false, true, true, false, false, false, false, false, false, false] { tmps := #[.agg #[.int .i64 5, .int .i64 0, .string ⟨#[]⟩, .slice qc n cc, .slice qu n cu], .string key, .agg #[.int .i64 k0, .int .i64 n0, .string s0, .slice ql nl cl, .slice qk nk ck], .pointer (some ⟨w.heap.size, 0, none⟩), undef, .pointer (some ⟨w.heap.size + 1, 0, none⟩), .pointer (some ⟨w.heap.size + 1 + 1, 0, none⟩), .pointer (some ⟨w.heap.size, 4, none⟩), undef, .string key, .string key, undef, undef, .pointer (some ⟨w.heap.size, 3, none⟩), .slice qc n cc, undef, undef, undef, undef, undef, undef], defers := [] } W) := by
    intro W hM hV hR hc hch hu
    rw [hΦ]
    have hHeld : True := True.intro
    refine wpAnyH_ready (rs := [1, 4, 8]) (by kernel_rfl) (by simp) ?_
    refine AllReadyH.cons rfl (fun K hK => ?_) (AllReadyH.cons rfl (fun K hK => ?_) (AllReadyH.cons rfl (fun K hK => ?_) AllReadyH.nil))
    · have z4 := vblk_cell hM 4
      simp only [boxM, List.getElem?_toArray, List.getElem?_cons_succ, List.getElem?_cons_zero] at z4
      go_simp
      clear z4
      clear hHeld
      refine hK.out _ _ True.intro (fun hHeld => ?_)
      clear hK K
      try simp only [Act.put, List.getElem_toArray, List.getElem_cons_zero, List.getElem_cons_succ, List.setIfInBounds_toArray, List.set_cons_zero, List.set_cons_succ]
      have h := N11100.out W hM hV hR hc hch hu
      rw [hΦ] at h
      exact wpAny_at2 h (by kernel_rfl) (by kernel_rfl)
    · go_simp
      have ka : Below W.heap.size W (W.alloc (.cells #[.string key] 9)) := (Below.refl _ _).alloc (Nat.le_refl _) _
      have hM := (ka.block _ (Array.getElem?_eq_some_iff.1 hM).1).trans hM
      have hV := (ka.block _ (Array.getElem?_eq_some_iff.1 hV).1).trans hV
      have hR := (ka.block _ (Array.getElem?_eq_some_iff.1 hR).1).trans hR
      have hc := owns_below hc ka
      have hu := owns_below hu ka
      have hch := hch.trans (Chg.of ka)
      have hbb : (W.alloc (.cells #[.string key] 9)).ownsRow 0 9 1 (.slice (some ⟨W.heap.size, 0, none⟩) 1 1) 1 [.string key] := owns_lo (Nat.zero_le _) (World.ownsRow_lit W ([.string key]).toArray 1 (Nat.le_refl _) (by unfold maxLen; omega) rfl)
      obtain ⟨bb, hbe⟩ : ∃ q, q = W.heap.size := ⟨_, rfl⟩
      rw [← hbe] at hbb
      try rw [← hbe]
      clear hHeld
      refine hK.out _ (W.alloc (.cells #[.string key] 9)) True.intro (fun hHeld => ?_)
      clear hK K
      try simp only [Act.put, List.getElem_toArray, List.getElem_cons_zero, List.getElem_cons_succ, List.setIfInBounds_toArray, List.set_cons_zero, List.set_cons_succ]
      have h := N02100.out (W.alloc (.cells #[.string key] 9)) hM hV hR hc hch hu bb hbb
      rw [hΦ] at h
      exact wpAny_at2 h (by kernel_rfl) (by kernel_rfl)
    · have z0 := vblk_cell hV 0
      have z1 := vblk_cell hV 1
      have z2 := vblk_cell hV 2
      have z3 := vblk_cell hV 3
      have z4 := vblk_cell hV 4
      simp only [boxM, List.getElem?_toArray, List.getElem?_cons_succ, List.getElem?_cons_zero] at z0 z1 z2 z3 z4
      go_simp
      clear z0 z1 z2 z3 z4
      clear hHeld
      refine hK.out _ _ True.intro (fun hHeld => ?_)
      clear hK K
      try simp only [Act.put, List.getElem_toArray, List.getElem_cons_zero, List.getElem_cons_succ, List.setIfInBounds_toArray, List.set_cons_zero, List.set_cons_succ]
      have h := N01110.out W hM hV hR hc hch hu
      rw [hΦ] at h
      exact wpAny_at2 h (by kernel_rfl) (by kernel_rfl)
  have N02000 : Hid (∀ (W : World) (hM : W.heap[w.heap.size]? = some (boxM (.slice qc n cc) (.slice qu n cu))) (hV : W.heap[w.heap.size + 1]? = some (.cells ([.int .i64 k0, .int .i64 n0, .string s0, .slice ql nl cl, .slice qk nk ck]).toArray 50 (0, 0))) (hR : W.heap[w.heap.size + 1 + 1]? = some boxZ) (hc : W.ownsRow 0 50 5 (.slice qc n cc) n ys) (hch : Chg (OfTwo (.slice qc n cc) (.slice qu n cu)) w W) (hu : W.ownsRow 0 9 1 (.slice qu n cu) n (strsV ks)) (bb : Nat) (hbb : W.ownsRow 0 9 1 (.slice (some ⟨bb, 0, none⟩) 1 1) 1 [.string key]), Φ 10 #[true, false, true, true, true, false, true, false, false, false, false, false, false, false, false] { tmps := #[.agg #[.int .i64 5, .int .i64 0, .string ⟨#[]⟩, .slice qc n cc, .slice qu n cu], .string key, .agg #[.int .i64 k0, .int .i64 n0, .string s0, .slice ql nl cl, .slice qk nk ck], .pointer (some ⟨w.heap.size, 0, none⟩), undef, .pointer (some ⟨w.heap.size + 1, 0, none⟩), .pointer (some ⟨w.heap.size + 1 + 1, 0, none⟩), .pointer (some ⟨w.heap.size, 4, none⟩), undef, .string key, .string key, .slice (some ⟨bb, 0, none⟩) 1 1, undef, .pointer (some ⟨w.heap.size, 3, none⟩), undef, undef, undef, undef, undef, undef, undef], defers := [] } W) := by
    intro W hM hV hR hc hch hu bb hbb
    rw [hΦ]
    have hHeld : True := True.intro
    refine wpAnyH_ready (rs := [1, 7, 8]) (by kernel_rfl) (by simp) ?_
    refine AllReadyH.cons rfl (fun K hK => ?_) (AllReadyH.cons rfl (fun K hK => ?_) (AllReadyH.cons rfl (fun K hK => ?_) AllReadyH.nil))
    · have z4 := vblk_cell hM 4
      simp only [boxM, List.getElem?_toArray, List.getElem?_cons_succ, List.getElem?_cons_zero] at z4
      go_simp
      clear z4
      clear hHeld
      refine hK.out _ _ True.intro (fun hHeld => ?_)
      clear hK K
      try simp only [Act.put, List.getElem_toArray, List.getElem_cons_zero, List.getElem_cons_succ, List.setIfInBounds_toArray, List.set_cons_zero, List.set_cons_succ]
      have h := N12000.out W hM hV hR hc hch hu bb hbb
      rw [hΦ] at h
      exact wpAny_at2 h (by kernel_rfl) (by kernel_rfl)
    · have z3 := vblk_cell hM 3
      simp only [boxM, List.getElem?_toArray, List.getElem?_cons_succ, List.getElem?_cons_zero] at z3
      go_simp
      clear z3
      clear hHeld
      refine hK.out _ _ True.intro (fun hHeld => ?_)
      clear hK K
      try simp only [Act.put, List.getElem_toArray, List.getElem_cons_zero, List.getElem_cons_succ, List.setIfInBounds_toArray, List.set_cons_zero, List.set_cons_succ]
      have h := N02100.out W hM hV hR hc hch hu bb hbb
      rw [hΦ] at h
      exact wpAny_at2 h (by kernel_rfl) (by kernel_rfl)
    · have z0 := vblk_cell hV 0
      have z1 := vblk_cell hV 1
      have z2 := vblk_cell hV 2
      have z3 := vblk_cell hV 3
      have z4 := vblk_cell hV 4
      simp only [boxM, List.getElem?_toArray, List.getElem?_cons_succ, List.getElem?_cons_zero] at z0 z1 z2 z3 z4
      go_simp
      clear z0 z1 z2 z3 z4
      clear hHeld
      refine hK.out _ _ True.intro (fun hHeld => ?_)
      clear hK K
      try simp only [Act.put, List.getElem_toArray, List.getElem_cons_zero, List.getElem_cons_succ, List.setIfInBounds_toArray, List.set_cons_zero, List.set_cons_succ]
      have h := N02010.out W hM hV hR hc hch hu bb hbb
      rw [hΦ] at h
      exact wpAny_at2 h (by kernel_rfl) (by kernel_rfl)
  have N10010 : Hid (∀ (W : World) (hM : W.heap[w.heap.size]? = some (boxM (.slice qc n cc) (.slice qu n cu))) (hV : W.heap[w.heap.size + 1]? = some (.cells ([.int .i64 k0, .int .i64 n0, .string s0, .slice ql nl cl, .slice qk nk ck]).toArray 50 (0, 0))) (hR : W.heap[w.heap.size + 1 + 1]? = some boxZ) (hc : W.ownsRow 0 50 5 (.slice qc n cc) n ys) (hch : Chg (OfTwo (.slice qc n cc) (.slice qu n cu)) w W) (hu : W.ownsRow 0 9 1 (.slice qu n cu) n (strsV ks)), Φ 10 #[true, true, true, false, false, false, true, false, true, false, false, false, false, false, false] { tmps := #[.agg #[.int .i64 5, .int .i64 0, .string ⟨#[]⟩, .slice qc n cc, .slice qu n cu], .string key, .agg #[.int .i64 k0, .int .i64 n0, .string s0, .slice ql nl cl, .slice qk nk ck], .pointer (some ⟨w.heap.size, 0, none⟩), undef, .pointer (some ⟨w.heap.size + 1, 0, none⟩), .pointer (some ⟨w.heap.size + 1 + 1, 0, none⟩), .pointer (some ⟨w.heap.size, 4, none⟩), .slice qu n cu, .string key, undef, undef, undef, .pointer (some ⟨w.heap.size, 3, none⟩), undef, .agg #[.int .i64 k0, .int .i64 n0, .string s0, .slice ql nl cl, .slice qk nk ck], undef, undef, undef, undef, undef], defers := [] } W) := by
    intro W hM hV hR hc hch hu
    rw [hΦ]
    have hHeld : True := True.intro
    refine wpAnyH_ready (rs := [3, 7, 9]) (by kernel_rfl) (by simp) ?_
    refine AllReadyH.cons rfl (fun K hK => ?_) (AllReadyH.cons rfl (fun K hK => ?_) (AllReadyH.cons rfl (fun K hK => ?_) AllReadyH.nil))
    · go_simp
      go_wp2_with (go_at_call 74; refine (HC.out _).mono ?_; rintro e W1 ⟨rfl, b1⟩)
      have hM := (b1.block _ (Array.getElem?_eq_some_iff.1 hM).1).trans hM
      have hV := (b1.block _ (Array.getElem?_eq_some_iff.1 hV).1).trans hV
      have hR := (b1.block _ (Array.getElem?_eq_some_iff.1 hR).1).trans hR
      have hc := owns_below hc b1
      have hu := owns_below hu b1
      have hch := hch.trans (Chg.of b1)
      clear b1
      clear hHeld
      refine hK.out _ _ True.intro (fun hHeld => ?_)
      clear hK K
      try simp only [Act.put, List.getElem_toArray, List.getElem_cons_zero, List.getElem_cons_succ, List.setIfInBounds_toArray, List.set_cons_zero, List.set_cons_succ]
      have h := N11010.out W1 hM hV hR hc hch hu
      rw [hΦ] at h
      exact wpAny_at2 h (by kernel_rfl) (by kernel_rfl)
    · have z3 := vblk_cell hM 3
      simp only [boxM, List.getElem?_toArray, List.getElem?_cons_succ, List.getElem?_cons_zero] at z3
      go_simp
      clear z3
      clear hHeld
      refine hK.out _ _ True.intro (fun hHeld => ?_)
      clear hK K
      try simp only [Act.put, List.getElem_toArray, List.getElem_cons_zero, List.getElem_cons_succ, List.setIfInBounds_toArray, List.set_cons_zero, List.set_cons_succ]
      have h := N10110.out W hM hV hR hc hch hu
      rw [hΦ] at h
      exact wpAny_at2 h (by kernel_rfl) (by kernel_rfl)
    · have hV0 := hV
      go_simp
      have ka : Below W.heap.size W (W.alloc (.cells ([.int .i64 k0, .int .i64 n0, .string s0, .slice ql nl cl, .slice qk nk ck]).toArray 50)) := (Below.refl _ _).alloc (Nat.le_refl _) _
      have hM := (ka.block _ (Array.getElem?_eq_some_iff.1 hM).1).trans hM
      have hV := (ka.block _ (Array.getElem?_eq_some_iff.1 hV).1).trans hV
      have hR := (ka.block _ (Array.getElem?_eq_some_iff.1 hR).1).trans hR
      have hc := owns_below hc ka
      have hu := owns_below hu ka
      have hch := hch.trans (Chg.of ka)
      have hbd : (W.alloc (.cells ([.int .i64 k0, .int .i64 n0, .string s0, .slice ql nl cl, .slice qk nk ck]).toArray 50)).ownsRow 0 50 5 (.slice (some ⟨W.heap.size, 0, none⟩) 1 1) 1 [.int .i64 k0, .int .i64 n0, .string s0, .slice ql nl cl, .slice qk nk ck] := owns_lo (Nat.zero_le _) (World.ownsRow_lit W ([.int .i64 k0, .int .i64 n0, .string s0, .slice ql nl cl, .slice qk nk ck]).toArray 1 (Nat.le_refl _) (by unfold maxLen; omega) rfl)
      obtain ⟨bd, hbe⟩ : ∃ q, q = W.heap.size := ⟨_, rfl⟩
      rw [← hbe] at hbd
      try rw [← hbe]
      have hbw : w.heap.size ≤ bd := by rw [hbe]; have := (Array.getElem?_eq_some_iff.1 hV0).1; omega
      clear hHeld
      refine hK.out _ (W.alloc (.cells ([.int .i64 k0, .int .i64 n0, .string s0, .slice ql nl cl, .slice qk nk ck]).toArray 50)) True.intro (fun hHeld => ?_)
      clear hK K
      try simp only [Act.put, List.getElem_toArray, List.getElem_cons_zero, List.getElem_cons_succ, List.setIfInBounds_toArray, List.set_cons_zero, List.set_cons_succ]
      have h := N10020.out (W.alloc (.cells ([.int .i64 k0, .int .i64 n0, .string s0, .slice ql nl cl, .slice qk nk ck]).toArray 50)) hM hV hR hc hch hu bd hbd hbw
      rw [hΦ] at h
      exact wpAny_at2 h (by kernel_rfl) (by kernel_rfl)
  have N10100 : Hid (∀ (W : World) (hM : W.heap[w.heap.size]? = some (boxM (.slice qc n cc) (.slice qu n cu))) (hV : W.heap[w.heap.size + 1]? = some (.cells ([.int .i64 k0, .int .i64 n0, .string s0, .slice ql nl cl, .slice qk nk ck]).toArray 50 (0, 0))) (hR : W.heap[w.heap.size + 1 + 1]? = some boxZ) (hc : W.ownsRow 0 50 5 (.slice qc n cc) n ys) (hch : Chg (OfTwo (.slice qc n cc) (.slice qu n cu)) w W) (hu : W.ownsRow 0 9 1 (.slice qu n cu) n (strsV ks)), Φ 10 #[true, true, true, false, false, false, true, true, false, false, false, false, false, false, false] { tmps := #[.agg #[.int .i64 5, .int .i64 0, .string ⟨#[]⟩, .slice qc n cc, .slice qu n cu], .string key, .agg #[.int .i64 k0, .int .i64 n0, .string s0, .slice ql nl cl, .slice qk nk ck], .pointer (some ⟨w.heap.size, 0, none⟩), undef, .pointer (some ⟨w.heap.size + 1, 0, none⟩), .pointer (some ⟨w.heap.size + 1 + 1, 0, none⟩), .pointer (some ⟨w.heap.size, 4, none⟩), .slice qu n cu, .string key, undef, undef, undef, .pointer (some ⟨w.heap.size, 3, none⟩), .slice qc n cc, undef, undef, undef, undef, undef, undef], defers := [] } W) := by
    intro W hM hV hR hc hch hu
    rw [hΦ]
    have hHeld : True := True.intro
    refine wpAnyH_ready (rs := [3, 8]) (by kernel_rfl) (by simp) ?_
    refine AllReadyH.cons rfl (fun K hK => ?_) (AllReadyH.cons rfl (fun K hK => ?_) AllReadyH.nil)
    · go_simp
      go_wp2_with (go_at_call 74; refine (HC.out _).mono ?_; rintro e W1 ⟨rfl, b1⟩)
      have hM := (b1.block _ (Array.getElem?_eq_some_iff.1 hM).1).trans hM
      have hV := (b1.block _ (Array.getElem?_eq_some_iff.1 hV).1).trans hV
      have hR := (b1.block _ (Array.getElem?_eq_some_iff.1 hR).1).trans hR
      have hc := owns_below hc b1
      have hu := owns_below hu b1
      have hch := hch.trans (Chg.of b1)
      clear b1
      clear hHeld
      refine hK.out _ _ True.intro (fun hHeld => ?_)
      clear hK K
      try simp only [Act.put, List.getElem_toArray, List.getElem_cons_zero, List.getElem_cons_succ, List.setIfInBounds_toArray, List.set_cons_zero, List.set_cons_succ]
      have h := N11100.out W1 hM hV hR hc hch hu
      rw [hΦ] at h
      exact wpAny_at2 h (by kernel_rfl) (by kernel_rfl)
    · have z0 := vblk_cell hV 0
      have z1 := vblk_cell hV 1
      have z2 := vblk_cell hV 2
      have z3 := vblk_cell hV 3
      have z4 := vblk_cell hV 4
      simp only [boxM, List.getElem?_toArray, List.getElem?_cons_succ, List.getElem?_cons_zero] at z0 z1 z2 z3 z4
      go_simp
      clear z0 z1 z2 z3 z4
      clear hHeld
      refine hK.out _ _ True.intro (fun hHeld => ?_)
      clear hK K
      try simp only [Act.put, List.getElem_toArray, List.getElem_cons_zero, List.getElem_cons_succ, List.setIfInBounds_toArray, List.set_cons_zero, List.set_cons_succ]
      have h := N10110.out W hM hV hR hc hch hu
      rw [hΦ] at h
      exact wpAny_at2 h (by kernel_rfl) (by kernel_rfl)
  have N11000 : Hid (∀ (W : World) (hM : W.heap[w.heap.size]? = some (boxM (.slice qc n cc) (.slice qu n cu))) (hV : W.heap[w.heap.size + 1]? = some (.cells ([.int .i64 k0, .int .i64 n0, .string s0, .slice ql nl cl, .slice qk nk ck]).toArray 50 (0, 0))) (hR : W.heap[w.heap.size + 1 + 1]? = some boxZ) (hc : W.ownsRow 0 50 5 (.slice qc n cc) n ys) (hch : Chg (OfTwo (.slice qc n cc) (.slice qu n cu)) w W) (hu : W.ownsRow 0 9 1 (.slice qu n cu) n (strsV ks)), Φ 10 #[true, true, true, true, false, false, true, false, false, false, false, false, false, false, false] { tmps := #[.agg #[.int .i64 5, .int .i64 0, .string ⟨#[]⟩, .slice qc n cc, .slice qu n cu], .string key, .agg #[.int .i64 k0, .int .i64 n0, .string s0, .slice ql nl cl, .slice qk nk ck], .pointer (some ⟨w.heap.size, 0, none⟩), undef, .pointer (some ⟨w.heap.size + 1, 0, none⟩), .pointer (some ⟨w.heap.size + 1 + 1, 0, none⟩), .pointer (some ⟨w.heap.size, 4, none⟩), .slice qu n cu, .string key, .string key, undef, undef, .pointer (some ⟨w.heap.size, 3, none⟩), undef, undef, undef, undef, undef, undef, undef], defers := [] } W) := by
    intro W hM hV hR hc hch hu
    rw [hΦ]
    have hHeld : True := True.intro
    refine wpAnyH_ready (rs := [4, 7, 8]) (by kernel_rfl) (by simp) ?_
    refine AllReadyH.cons rfl (fun K hK => ?_) (AllReadyH.cons rfl (fun K hK => ?_) (AllReadyH.cons rfl (fun K hK => ?_) AllReadyH.nil))
    · go_simp
      have ka : Below W.heap.size W (W.alloc (.cells #[.string key] 9)) := (Below.refl _ _).alloc (Nat.le_refl _) _
      have hM := (ka.block _ (Array.getElem?_eq_some_iff.1 hM).1).trans hM
      have hV := (ka.block _ (Array.getElem?_eq_some_iff.1 hV).1).trans hV
      have hR := (ka.block _ (Array.getElem?_eq_some_iff.1 hR).1).trans hR
      have hc := owns_below hc ka
      have hu := owns_below hu ka
      have hch := hch.trans (Chg.of ka)
      have hbb : (W.alloc (.cells #[.string key] 9)).ownsRow 0 9 1 (.slice (some ⟨W.heap.size, 0, none⟩) 1 1) 1 [.string key] := owns_lo (Nat.zero_le _) (World.ownsRow_lit W ([.string key]).toArray 1 (Nat.le_refl _) (by unfold maxLen; omega) rfl)
      obtain ⟨bb, hbe⟩ : ∃ q, q = W.heap.size := ⟨_, rfl⟩
      rw [← hbe] at hbb
      try rw [← hbe]
      clear hHeld
      refine hK.out _ (W.alloc (.cells #[.string key] 9)) True.intro (fun hHeld => ?_)
      clear hK K
      try simp only [Act.put, List.getElem_toArray, List.getElem_cons_zero, List.getElem_cons_succ, List.setIfInBounds_toArray, List.set_cons_zero, List.set_cons_succ]
      have h := N12000.out (W.alloc (.cells #[.string key] 9)) hM hV hR hc hch hu bb hbb
      rw [hΦ] at h
      exact wpAny_at2 h (by kernel_rfl) (by kernel_rfl)
    · have z3 := vblk_cell hM 3
      simp only [boxM, List.getElem?_toArray, List.getElem?_cons_succ, List.getElem?_cons_zero] at z3
      go_simp
      clear z3
      clear hHeld
      refine hK.out _ _ True.intro (fun hHeld => ?_)
      clear hK K
      try simp only [Act.put, List.getElem_toArray, List.getElem_cons_zero, List.getElem_cons_succ, List.setIfInBounds_toArray, List.set_cons_zero, List.set_cons_succ]
      have h := N11100.out W hM hV hR hc hch hu
      rw [hΦ] at h
      exact wpAny_at2 h (by kernel_rfl) (by kernel_rfl)
    · have z0 := vblk_cell hV 0
      have z1 := vblk_cell hV 1
      have z2 := vblk_cell hV 2
      have z3 := vblk_cell hV 3
      have z4 := vblk_cell hV 4
      simp only [boxM, List.getElem?_toArray, List.getElem?_cons_succ, List.getElem?_cons_zero] at z0 z1 z2 z3 z4
      go_simp
      clear z0 z1 z2 z3 z4
      clear hHeld
      refine hK.out _ _ True.intro (fun hHeld => ?_)
      clear hK K
      try simp only [Act.put, List.getElem_toArray, List.getElem_cons_zero, List.getElem_cons_succ, List.setIfInBounds_toArray, List.set_cons_zero, List.set_cons_succ]
      have h := N11010.out W hM hV hR hc hch hu
      rw [hΦ] at h
      exact wpAny_at2 h (by kernel_rfl) (by kernel_rfl)
  have N00010 : Hid (∀ (W : World) (hM : W.heap[w.heap.size]? = some (boxM (.slice qc n cc) (.slice qu n cu))) (hV : W.heap[w.heap.size + 1]? = some (.cells ([.int .i64 k0, .int .i64 n0, .string s0, .slice ql nl cl, .slice qk nk ck]).toArray 50 (0, 0))) (hR : W.heap[w.heap.size + 1 + 1]? = some boxZ) (hc : W.ownsRow 0 50 5 (.slice qc n cc) n ys) (hch : Chg (OfTwo (.slice qc n cc) (.slice qu n cu)) w W) (hu : W.ownsRow 0 9 1 (.slice qu n cu) n (strsV ks)), Φ 11 #[true, false, true, false, false, false, true, false, true, false, false, false, false, false, false] { tmps := #[.agg #[.int .i64 5, .int .i64 0, .string ⟨#[]⟩, .slice qc n cc, .slice qu n cu], .string key, .agg #[.int .i64 k0, .int .i64 n0, .string s0, .slice ql nl cl, .slice qk nk ck], .pointer (some ⟨w.heap.size, 0, none⟩), undef, .pointer (some ⟨w.heap.size + 1, 0, none⟩), .pointer (some ⟨w.heap.size + 1 + 1, 0, none⟩), .pointer (some ⟨w.heap.size, 4, none⟩), undef, .string key, undef, undef, undef, .pointer (some ⟨w.heap.size, 3, none⟩), undef, .agg #[.int .i64 k0, .int .i64 n0, .string s0, .slice ql nl cl, .slice qk nk ck], undef, undef, undef, undef, undef], defers := [] } W) := by
    intro W hM hV hR hc hch hu
    rw [hΦ]
    have hHeld : True := True.intro
    refine wpAnyH_ready (rs := [1, 3, 7, 9]) (by kernel_rfl) (by simp) ?_
    refine AllReadyH.cons rfl (fun K hK => ?_) (AllReadyH.cons rfl (fun K hK => ?_) (AllReadyH.cons rfl (fun K hK => ?_) (AllReadyH.cons rfl (fun K hK => ?_) AllReadyH.nil)))
    · have z4 := vblk_cell hM 4
      simp only [boxM, List.getElem?_toArray, List.getElem?_cons_succ, List.getElem?_cons_zero] at z4
      go_simp
      clear z4
      clear hHeld
      refine hK.out _ _ True.intro (fun hHeld => ?_)
      clear hK K
      try simp only [Act.put, List.getElem_toArray, List.getElem_cons_zero, List.getElem_cons_succ, List.setIfInBounds_toArray, List.set_cons_zero, List.set_cons_succ]
      have h := N10010.out W hM hV hR hc hch hu
      rw [hΦ] at h
      exact wpAny_at2 h (by kernel_rfl) (by kernel_rfl)
    · go_simp
      go_wp2_with (go_at_call 74; refine (HC.out _).mono ?_; rintro e W1 ⟨rfl, b1⟩)
      have hM := (b1.block _ (Array.getElem?_eq_some_iff.1 hM).1).trans hM
      have hV := (b1.block _ (Array.getElem?_eq_some_iff.1 hV).1).trans hV
      have hR := (b1.block _ (Array.getElem?_eq_some_iff.1 hR).1).trans hR
      have hc := owns_below hc b1
      have hu := owns_below hu b1
      have hch := hch.trans (Chg.of b1)
      clear b1
      clear hHeld
      refine hK.out _ _ True.intro (fun hHeld => ?_)
      clear hK K
      try simp only [Act.put, List.getElem_toArray, List.getElem_cons_zero, List.getElem_cons_succ, List.setIfInBounds_toArray, List.set_cons_zero, List.set_cons_succ]
      have h := N01010.out W1 hM hV hR hc hch hu
      rw [hΦ] at h
      exact wpAny_at2 h (by kernel_rfl) (by kernel_rfl)
    · have z3 := vblk_cell hM 3
      simp only [boxM, List.getElem?_toArray, List.getElem?_cons_succ, List.getElem?_cons_zero] at z3
      go_simp
      clear z3
      clear hHeld
      refine hK.out _ _ True.intro (fun hHeld => ?_)
      clear hK K
      try simp only [Act.put, List.getElem_toArray, List.getElem_cons_zero, List.getElem_cons_succ, List.setIfInBounds_toArray, List.set_cons_zero, List.set_cons_succ]
      have h := N00110.out W hM hV hR hc hch hu
      rw [hΦ] at h
      exact wpAny_at2 h (by kernel_rfl) (by kernel_rfl)
    · have hV0 := hV
      go_simp
      have ka : Below W.heap.size W (W.alloc (.cells ([.int .i64 k0, .int .i64 n0, .string s0, .slice ql nl cl, .slice qk nk ck]).toArray 50)) := (Below.refl _ _).alloc (Nat.le_refl _) _
      have hM := (ka.block _ (Array.getElem?_eq_some_iff.1 hM).1).trans hM
      have hV := (ka.block _ (Array.getElem?_eq_some_iff.1 hV).1).trans hV
      have hR := (ka.block _ (Array.getElem?_eq_some_iff.1 hR).1).trans hR
      have hc := owns_below hc ka
      have hu := owns_below hu ka
      have hch := hch.trans (Chg.of ka)
      have hbd : (W.alloc (.cells ([.int .i64 k0, .int .i64 n0, .string s0, .slice ql nl cl, .slice qk nk ck]).toArray 50)).ownsRow 0 50 5 (.slice (some ⟨W.heap.size, 0, none⟩) 1 1) 1 [.int .i64 k0, .int .i64 n0, .string s0, .slice ql nl cl, .slice qk nk ck] := owns_lo (Nat.zero_le _) (World.ownsRow_lit W ([.int .i64 k0, .int .i64 n0, .string s0, .slice ql nl cl, .slice qk nk ck]).toArray 1 (Nat.le_refl _) (by unfold maxLen; omega) rfl)
      obtain ⟨bd, hbe⟩ : ∃ q, q = W.heap.size := ⟨_, rfl⟩
      rw [← hbe] at hbd
      try rw [← hbe]
      have hbw : w.heap.size ≤ bd := by rw [hbe]; have := (Array.getElem?_eq_some_iff.1 hV0).1; omega
      clear hHeld
      refine hK.out _ (W.alloc (.cells ([.int .i64 k0, .int .i64 n0, .string s0, .slice ql nl cl, .slice qk nk ck]).toArray 50)) True.intro (fun hHeld => ?_)
      clear hK K
      try simp only [Act.put, List.getElem_toArray, List.getElem_cons_zero, List.getElem_cons_succ, List.setIfInBounds_toArray, List.set_cons_zero, List.set_cons_succ]
      have h := N00020.out (W.alloc (.cells ([.int .i64 k0, .int .i64 n0, .string s0, .slice ql nl cl, .slice qk nk ck]).toArray 50)) hM hV hR hc hch hu bd hbd hbw
      rw [hΦ] at h
      exact wpAny_at2 h (by kernel_rfl) (by kernel_rfl)
  have N00100 : Hid (∀ (W : World) (hM : W.heap[w.heap.size]? = some (boxM (.slice qc n cc) (.slice qu n cu))) (hV : W.heap[w.heap.size + 1]? = some (.cells ([.int .i64 k0, .int .i64 n0, .string s0, .slice ql nl cl, .slice qk nk ck]).toArray 50 (0, 0))) (hR : W.heap[w.heap.size + 1 + 1]? = some boxZ) (hc : W.ownsRow 0 50 5 (.slice qc n cc) n ys) (hch : Chg (OfTwo (.slice qc n cc) (.slice qu n cu)) w W) (hu : W.ownsRow 0 9 1 (.slice qu n cu) n (strsV ks)), Φ 11 #[true, false, true, false, false, false, true, true, false, false, false, false, false, false, false] { tmps := #[.agg #[.int .i64 5, .int .i64 0, .string ⟨#[]⟩, .slice qc n cc, .slice qu n cu], .string key, .agg #[.int .i64 k0, .int .i64 n0, .string s0, .slice ql nl cl, .slice qk nk ck], .pointer (some ⟨w.heap.size, 0, none⟩), undef, .pointer (some ⟨w.heap.size + 1, 0, none⟩), .pointer (some ⟨w.heap.size + 1 + 1, 0, none⟩), .pointer (some ⟨w.heap.size, 4, none⟩), undef, .string key, undef, undef, undef, .pointer (some ⟨w.heap.size, 3, none⟩), .slice qc n cc, undef, undef, undef, undef, undef, undef], defers := [] } W) := by
    intro W hM hV hR hc hch hu
    rw [hΦ]
    have hHeld : True := True.intro
    refine wpAnyH_ready (rs := [1, 3, 8]) (by kernel_rfl) (by simp) ?_
    refine AllReadyH.cons rfl (fun K hK => ?_) (AllReadyH.cons rfl (fun K hK => ?_) (AllReadyH.cons rfl (fun K hK => ?_) AllReadyH.nil))
    · have z4 := vblk_cell hM 4
      simp only [boxM, List.getElem?_toArray, List.getElem?_cons_succ, List.getElem?_cons_zero] at z4
      go_simp
      clear z4
      clear hHeld
      refine hK.out _ _ True.intro (fun hHeld => ?_)
      clear hK K
      try simp only [Act.put, List.getElem_toArray, List.getElem_cons_zero, List.getElem_cons_succ, List.setIfInBounds_toArray, List.set_cons_zero, List.set_cons_succ]
      have h := N10100.out W hM hV hR hc hch hu
      rw [hΦ] at h
      exact wpAny_at2 h (by kernel_rfl) (by kernel_rfl)
    · go_simp
      go_wp2_with (go_at_call 74; refine (HC.out _).mono ?_; rintro e W1 ⟨rfl, b1⟩)
      have hM := (b1.block _ (Array.getElem?_eq_some_iff.1 hM).1).trans hM
      have hV := (b1.block _ (Array.getElem?_eq_some_iff.1 hV).1).trans hV
      have hR := (b1.block _ (Array.getElem?_eq_some_iff.1 hR).1).trans hR
      have hc := owns_below hc b1
      have hu := owns_below hu b1
      have hch := hch.trans (Chg.of b1)
      clear b1
      clear hHeld
      refine hK.out _ _ True.intro (fun hHeld => ?_)
      clear hK K
      try simp only [Act.put, List.getElem_toArray, List.getElem_cons_zero, List.getElem_cons_succ, List.setIfInBounds_toArray, List.set_cons_zero, List.set_cons_succ]
      have h := N01100.out W1 hM hV hR hc hch hu
      rw [hΦ] at h
      exact wpAny_at2 h (by kernel_rfl) (by kernel_rfl)
    · have z0 := vblk_cell hV 0
      have z1 := vblk_cell hV 1
      have z2 := vblk_cell hV 2
      have z3 := vblk_cell hV 3
      have z4 := vblk_cell hV 4
      simp only [boxM, List.getElem?_toArray, List.getElem?_cons_succ, List.getElem?_cons_zero] at z0 z1 z2 z3 z4
      go_simp
      clear z0 z1 z2 z3 z4
      clear hHeld
      refine hK.out _ _ True.intro (fun hHeld => ?_)
      clear hK K
      try simp only [Act.put, List.getElem_toArray, List.getElem_cons_zero, List.getElem_cons_succ, List.setIfInBounds_toArray, List.set_cons_zero, List.set_cons_succ]
      have h := N00110.out W hM hV hR hc hch hu
      rw [hΦ] at h
      exact wpAny_at2 h (by kernel_rfl) (by kernel_rfl)
  have N01000 : Hid (∀ (W : World) (hM : W.heap[w.heap.size]? = some (boxM (.slice qc n cc) (.slice qu n cu))) (hV : W.heap[w.heap.size + 1]? = some (.cells ([.int .i64 k0, .int .i64 n0, .string s0, .slice ql nl cl, .slice qk nk ck]).toArray 50 (0, 0))) (hR : W.heap[w.heap.size + 1 + 1]? = some boxZ) (hc : W.ownsRow 0 50 5 (.slice qc n cc) n ys) (hch : Chg (OfTwo (.slice qc n cc) (.slice qu n cu)) w W) (hu : W.ownsRow 0 9 1 (.slice qu n cu) n (strsV ks)), Φ 11 #[true, false, true, true, false, false, true, false, false, false, false, false, false, false, false] { tmps := #[.agg #[.int .i64 5, .int .i64 0, .string ⟨#[]⟩, .slice qc n cc, .slice qu n cu], .string key, .agg #[.int .i64 k0, .int .i64 n0, .string s0, .slice ql nl cl, .slice qk nk ck], .pointer (some ⟨w.heap.size, 0, none⟩), undef, .pointer (some ⟨w.heap.size + 1, 0, none⟩), .pointer (some ⟨w.heap.size + 1 + 1, 0, none⟩), .pointer (some ⟨w.heap.size, 4, none⟩), undef, .string key, .string key, undef, undef, .pointer (some ⟨w.heap.size, 3, none⟩), undef, undef, undef, undef, undef, undef, undef], defers := [] } W) := by
    intro W hM hV hR hc hch hu
    rw [hΦ]
    have hHeld : True := True.intro
    refine wpAnyH_ready (rs := [1, 4, 7, 8]) (by kernel_rfl) (by simp) ?_
    refine AllReadyH.cons rfl (fun K hK => ?_) (AllReadyH.cons rfl (fun K hK => ?_) (AllReadyH.cons rfl (fun K hK => ?_) (AllReadyH.cons rfl (fun K hK => ?_) AllReadyH.nil)))
    · have z4 := vblk_cell hM 4
      simp only [boxM, List.getElem?_toArray, List.getElem?_cons_succ, List.getElem?_cons_zero] at z4
      go_simp
      clear z4
      clear hHeld
      refine hK.out _ _ True.intro (fun hHeld => ?_)
      clear hK K
      try simp only [Act.put, List.getElem_toArray, List.getElem_cons_zero, List.getElem_cons_succ, List.setIfInBounds_toArray, List.set_cons_zero, List.set_cons_succ]
      have h := N11000.out W hM hV hR hc hch hu
      rw [hΦ] at h
      exact wpAny_at2 h (by kernel_rfl) (by kernel_rfl)
    · go_simp
      have ka : Below W.heap.size W (W.alloc (.cells #[.string key] 9)) := (Below.refl _ _).alloc (Nat.le_refl _) _
      have hM := (ka.block _ (Array.getElem?_eq_some_iff.1 hM).1).trans hM
      have hV := (ka.block _ (Array.getElem?_eq_some_iff.1 hV).1).trans hV
      have hR := (ka.block _ (Array.getElem?_eq_some_iff.1 hR).1).trans hR
      have hc := owns_below hc ka
      have hu := owns_below hu ka
      have hch := hch.trans (Chg.of ka)
      have hbb : (W.alloc (.cells #[.string key] 9)).ownsRow 0 9 1 (.slice (some ⟨W.heap.size, 0, none⟩) 1 1) 1 [.string key] := owns_lo (Nat.zero_le _) (World.ownsRow_lit W ([.string key]).toArray 1 (Nat.le_refl _) (by unfold maxLen; omega) rfl)
      obtain ⟨bb, hbe⟩ : ∃ q, q = W.heap.size := ⟨_, rfl⟩
      rw [← hbe] at hbb
      try rw [← hbe]
      clear hHeld
      refine hK.out _ (W.alloc (.cells #[.string key] 9)) True.intro (fun hHeld => ?_)
      clear hK K
      try simp only [Act.put, List.getElem_toArray, List.getElem_cons_zero, List.getElem_cons_succ, List.setIfInBounds_toArray, List.set_cons_zero, List.set_cons_succ]
      have h := N02000.out (W.alloc (.cells #[.string key] 9)) hM hV hR hc hch hu bb hbb
      rw [hΦ] at h
      exact wpAny_at2 h (by kernel_rfl) (by kernel_rfl)
    · have z3 := vblk_cell hM 3
      simp only [boxM, List.getElem?_toArray, List.getElem?_cons_succ, List.getElem?_cons_zero] at z3
      go_simp
      clear z3
      clear hHeld
      refine hK.out _ _ True.intro (fun hHeld => ?_)
      clear hK K
      try simp only [Act.put, List.getElem_toArray, List.getElem_cons_zero, List.getElem_cons_succ, List.setIfInBounds_toArray, List.set_cons_zero, List.set_cons_succ]
      have h := N01100.out W hM hV hR hc hch hu
      rw [hΦ] at h
      exact wpAny_at2 h (by kernel_rfl) (by kernel_rfl)
    · have z0 := vblk_cell hV 0
      have z1 := vblk_cell hV 1
      have z2 := vblk_cell hV 2
      have z3 := vblk_cell hV 3
      have z4 := vblk_cell hV 4
      simp only [boxM, List.getElem?_toArray, List.getElem?_cons_succ, List.getElem?_cons_zero] at z0 z1 z2 z3 z4
      go_simp
      clear z0 z1 z2 z3 z4
      clear hHeld
      refine hK.out _ _ True.intro (fun hHeld => ?_)
      clear hK K
      try simp only [Act.put, List.getElem_toArray, List.getElem_cons_zero, List.getElem_cons_succ, List.setIfInBounds_toArray, List.set_cons_zero, List.set_cons_succ]
      have h := N01010.out W hM hV hR hc hch hu
      rw [hΦ] at h
      exact wpAny_at2 h (by kernel_rfl) (by kernel_rfl)
  have N10000 : Hid (∀ (W : World) (hM : W.heap[w.heap.size]? = some (boxM (.slice qc n cc) (.slice qu n cu))) (hV : W.heap[w.heap.size + 1]? = some (.cells ([.int .i64 k0, .int .i64 n0, .string s0, .slice ql nl cl, .slice qk nk ck]).toArray 50 (0, 0))) (hR : W.heap[w.heap.size + 1 + 1]? = some boxZ) (hc : W.ownsRow 0 50 5 (.slice qc n cc) n ys) (hch : Chg (OfTwo (.slice qc n cc) (.slice qu n cu)) w W) (hu : W.ownsRow 0 9 1 (.slice qu n cu) n (strsV ks)), Φ 11 #[true, true, true, false, false, false, true, false, false, false, false, false, false, false, false] { tmps := #[.agg #[.int .i64 5, .int .i64 0, .string ⟨#[]⟩, .slice qc n cc, .slice qu n cu], .string key, .agg #[.int .i64 k0, .int .i64 n0, .string s0, .slice ql nl cl, .slice qk nk ck], .pointer (some ⟨w.heap.size, 0, none⟩), undef, .pointer (some ⟨w.heap.size + 1, 0, none⟩), .pointer (some ⟨w.heap.size + 1 + 1, 0, none⟩), .pointer (some ⟨w.heap.size, 4, none⟩), .slice qu n cu, .string key, undef, undef, undef, .pointer (some ⟨w.heap.size, 3, none⟩), undef, undef, undef, undef, undef, undef, undef], defers := [] } W) := by
    intro W hM hV hR hc hch hu
    rw [hΦ]
    have hHeld : True := True.intro
    refine wpAnyH_ready (rs := [3, 7, 8]) (by kernel_rfl) (by simp) ?_
    refine AllReadyH.cons rfl (fun K hK => ?_) (AllReadyH.cons rfl (fun K hK => ?_) (AllReadyH.cons rfl (fun K hK => ?_) AllReadyH.nil))
    · go_simp
      go_wp2_with (go_at_call 74; refine (HC.out _).mono ?_; rintro e W1 ⟨rfl, b1⟩)
      have hM := (b1.block _ (Array.getElem?_eq_some_iff.1 hM).1).trans hM
      have hV := (b1.block _ (Array.getElem?_eq_some_iff.1 hV).1).trans hV
      have hR := (b1.block _ (Array.getElem?_eq_some_iff.1 hR).1).trans hR
      have hc := owns_below hc b1
      have hu := owns_below hu b1
      have hch := hch.trans (Chg.of b1)
      clear b1
      clear hHeld
      refine hK.out _ _ True.intro (fun hHeld => ?_)
      clear hK K
      try simp only [Act.put, List.getElem_toArray, List.getElem_cons_zero, List.getElem_cons_succ, List.setIfInBounds_toArray, List.set_cons_zero, List.set_cons_succ]
      have h := N11000.out W1 hM hV hR hc hch hu
      rw [hΦ] at h
      exact wpAny_at2 h (by kernel_rfl) (by kernel_rfl)
    · have z3 := vblk_cell hM 3
      simp only [boxM, List.getElem?_toArray, List.getElem?_cons_succ, List.getElem?_cons_zero] at z3
      go_simp
      clear z3
      clear hHeld
      refine hK.out _ _ True.intro (fun hHeld => ?_)
      clear hK K
      try simp only [Act.put, List.getElem_toArray, List.getElem_cons_zero, List.getElem_cons_succ, List.setIfInBounds_toArray, List.set_cons_zero, List.set_cons_succ]
      have h := N10100.out W hM hV hR hc hch hu
      rw [hΦ] at h
      exact wpAny_at2 h (by kernel_rfl) (by kernel_rfl)
    · have z0 := vblk_cell hV 0
      have z1 := vblk_cell hV 1
      have z2 := vblk_cell hV 2
      have z3 := vblk_cell hV 3
      have z4 := vblk_cell hV 4
      simp only [boxM, List.getElem?_toArray, List.getElem?_cons_succ, List.getElem?_cons_zero] at z0 z1 z2 z3 z4
      go_simp
      clear z0 z1 z2 z3 z4
      clear hHeld
      refine hK.out _ _ True.intro (fun hHeld => ?_)
      clear hK K
      try simp only [Act.put, List.getElem_toArray, List.getElem_cons_zero, List.getElem_cons_succ, List.setIfInBounds_toArray, List.set_cons_zero, List.set_cons_succ]
      have h := N10010.out W hM hV hR hc hch hu
      rw [hΦ] at h
      exact wpAny_at2 h (by kernel_rfl) (by kernel_rfl)
  have N00000 : Hid (∀ (W : World) (hM : W.heap[w.heap.size]? = some (boxM (.slice qc n cc) (.slice qu n cu))) (hV : W.heap[w.heap.size + 1]? = some (.cells ([.int .i64 k0, .int .i64 n0, .string s0, .slice ql nl cl, .slice qk nk ck]).toArray 50 (0, 0))) (hR : W.heap[w.heap.size + 1 + 1]? = some boxZ) (hc : W.ownsRow 0 50 5 (.slice qc n cc) n ys) (hch : Chg (OfTwo (.slice qc n cc) (.slice qu n cu)) w W) (hu : W.ownsRow 0 9 1 (.slice qu n cu) n (strsV ks)), Φ 12 #[true, false, true, false, false, false, true, false, false, false, false, false, false, false, false] { tmps := #[.agg #[.int .i64 5, .int .i64 0, .string ⟨#[]⟩, .slice qc n cc, .slice qu n cu], .string key, .agg #[.int .i64 k0, .int .i64 n0, .string s0, .slice ql nl cl, .slice qk nk ck], .pointer (some ⟨w.heap.size, 0, none⟩), undef, .pointer (some ⟨w.heap.size + 1, 0, none⟩), .pointer (some ⟨w.heap.size + 1 + 1, 0, none⟩), .pointer (some ⟨w.heap.size, 4, none⟩), undef, .string key, undef, undef, undef, .pointer (some ⟨w.heap.size, 3, none⟩), undef, undef, undef, undef, undef, undef, undef], defers := [] } W) := by
    intro W hM hV hR hc hch hu
    rw [hΦ]
    have hHeld : True := True.intro
    refine wpAnyH_ready (rs := [1, 3, 7, 8]) (by kernel_rfl) (by simp) ?_
    refine AllReadyH.cons rfl (fun K hK => ?_) (AllReadyH.cons rfl (fun K hK => ?_) (AllReadyH.cons rfl (fun K hK => ?_) (AllReadyH.cons rfl (fun K hK => ?_) AllReadyH.nil)))
    · have z4 := vblk_cell hM 4
      simp only [boxM, List.getElem?_toArray, List.getElem?_cons_succ, List.getElem?_cons_zero] at z4
      go_simp
      clear z4
      clear hHeld
      refine hK.out _ _ True.intro (fun hHeld => ?_)
      clear hK K
      try simp only [Act.put, List.getElem_toArray, List.getElem_cons_zero, List.getElem_cons_succ, List.setIfInBounds_toArray, List.set_cons_zero, List.set_cons_succ]
      have h := N10000.out W hM hV hR hc hch hu
      rw [hΦ] at h
      exact wpAny_at2 h (by kernel_rfl) (by kernel_rfl)
    · go_simp
      go_wp2_with (go_at_call 74; refine (HC.out _).mono ?_; rintro e W1 ⟨rfl, b1⟩)
      have hM := (b1.block _ (Array.getElem?_eq_some_iff.1 hM).1).trans hM
      have hV := (b1.block _ (Array.getElem?_eq_some_iff.1 hV).1).trans hV
      have hR := (b1.block _ (Array.getElem?_eq_some_iff.1 hR).1).trans hR
      have hc := owns_below hc b1
      have hu := owns_below hu b1
      have hch := hch.trans (Chg.of b1)
      clear b1
      clear hHeld
      refine hK.out _ _ True.intro (fun hHeld => ?_)
      clear hK K
      try simp only [Act.put, List.getElem_toArray, List.getElem_cons_zero, List.getElem_cons_succ, List.setIfInBounds_toArray, List.set_cons_zero, List.set_cons_succ]
      have h := N01000.out W1 hM hV hR hc hch hu
      rw [hΦ] at h
      exact wpAny_at2 h (by kernel_rfl) (by kernel_rfl)
    · have z3 := vblk_cell hM 3
      simp only [boxM, List.getElem?_toArray, List.getElem?_cons_succ, List.getElem?_cons_zero] at z3
      go_simp
      clear z3
      clear hHeld
      refine hK.out _ _ True.intro (fun hHeld => ?_)
      clear hK K
      try simp only [Act.put, List.getElem_toArray, List.getElem_cons_zero, List.getElem_cons_succ, List.setIfInBounds_toArray, List.set_cons_zero, List.set_cons_succ]
      have h := N00100.out W hM hV hR hc hch hu
      rw [hΦ] at h
      exact wpAny_at2 h (by kernel_rfl) (by kernel_rfl)
    · have z0 := vblk_cell hV 0
      have z1 := vblk_cell hV 1
      have z2 := vblk_cell hV 2
      have z3 := vblk_cell hV 3
      have z4 := vblk_cell hV 4
      simp only [boxM, List.getElem?_toArray, List.getElem?_cons_succ, List.getElem?_cons_zero] at z0 z1 z2 z3 z4
      go_simp
      clear z0 z1 z2 z3 z4
      clear hHeld
      refine hK.out _ _ True.intro (fun hHeld => ?_)
      clear hK K
      try simp only [Act.put, List.getElem_toArray, List.getElem_cons_zero, List.getElem_cons_succ, List.setIfInBounds_toArray, List.set_cons_zero, List.set_cons_succ]
      have h := N00010.out W hM hV hR hc hch hu
      rw [hΦ] at h
      exact wpAny_at2 h (by kernel_rfl) (by kernel_rfl)
  have h := N00000.out (((w.alloc (boxM (.slice qc n cc) (.slice qu n cu))).alloc (.cells #[.int .i64 k0, .int .i64 n0, .string s0, .slice ql nl cl, .slice qk nk ck] 50 (0, 0))).alloc boxZ).drew hM hV hR hc hch hu
  rw [hΦ] at h
  exact wpAny_at2 h (by kernel_rfl) (by kernel_rfl)
end Go.Proofs.Ytiadcebolcdhbaa
