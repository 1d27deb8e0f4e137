/-
  Contracts for the walks, several texts in one: each part says what it proves, and under which conditions.
-/
import Derived.Deep.RegionHeld
import Derived.Test.YtkkhnldhipfneaaQ4
import Derived.Test.YtkkhnldhipfneaaQ1

/-! The graph of packs, as the specification makes it: a contract for the walks; conditions: the packs lie in memory, and hold at most 2 to the 20. -/
namespace Go.Proofs.Ytkkhnldhipfneaa
open Go.RowKit Go.Maps
set_option linter.unusedSimpArgs false
set_option linter.unusedVariables false

/-- An append of a row that may be nil, told with where the new row lies. -/
theorem wp_append_src {P : Program} {w : World} {o : Oper} {a : Act} {K : Act → World → Prop} {Q : Exit → Act → World → Prop} (s x : Operand) (t : TypeId)
    (ho : o.op = .call { callee := .builtin .append, args := #[s, x], argTypes := #[t, t] })
    (base : Nat) (e : TypeId) (i : TypeInfo) (z : Value) (size bytes : Nat) (ht : P.underlying t = some (.slice e)) (hi : P.info? e = some i) (hz : i.zero = some z)
    (hsize : i.size = size) (hby : i.bytes = bytes) (hzs : z.cells.size = size) (hsz : 0 < size)
    (v : Value) (n : Nat) (xs : List Value) (hs : a.eval s = v) (hown : w.ownsRow base e size v n xs)
    (u : Value) (m lo : Nat) (news : List Value) (hx : a.eval x = u) (hsrc : w.ownsRow lo e size u m news) (h1 : ∀ u ∈ news, u.oneCell' = true)
    (h63 : n + m ≤ maxLen) (hbytes : (n + m) * bytes ≤ 140737488355328) (hbase : base ≤ w.heap.size)
    (h : ∀ v' w', w'.ownsRow base e size v' (n + m) (xs ++ news) → w.grownBy w' v.ownBlock → (∀ g, v'.ownBlock = some g → v.ownBlock = some g ∨ w.heap.size ≤ g) → K (a.put o.dst v') w') : o.wp P a w K Q := by
  rcases id hsrc.2 with ⟨rfl, rfl⟩ | ⟨gs, caps, cur, rfl, hgl, hgb, hcap, hmax, _⟩
  · have hn : news = [] := List.eq_nil_of_length_eq_zero (by rw [hsrc.1]; omega)
    subst hn
    have hrun := run_append_owned_none (P := P) (w := w) base t o.type e i size ht hi _ n xs hown
    unfold Oper.wp
    simp [execOp, ho, resolve, invoke, builtin, hs, hx, hrun, Result.andThen]
    refine h _ w ?_ (World.grownBy.refl _ _) (fun g hg => .inl hg)
    rw [Nat.add_zero, List.append_nil]
    exact hown
  · refine wp_append_loc s x t ho base e i z size bytes ht hi hz hsize hby hzs hsz v n xs hs hown ⟨gs, 0, none⟩ m caps news hx hsrc.1 (fun j u hu => ?_) h1 h63 hbytes hbase h
    rw [addr_addZ, hsrc.cellAt j (by rw [← hsrc.1]; exact (List.getElem?_eq_some_iff.1 hu).1)]
    exact hu
theorem infoSs : (Try.prog.info? 26).map (fun i => (i.zero, i.size, i.bytes)) = some (some (.slice none 0 0), 1, 24) := by kernel_rfl
/-- Names and lists of names that are being made. -/
structure GsC (lo : Nat) (w : World) (vn vx : Value) (vs : List Value) (ns : List ByteArray) (nx : List (List ByteArray)) : Prop where
  names : w.ownsRow lo 9 1 vn ns.length (strsV ns)
  next : w.ownsRow lo 26 1 vx nx.length vs
  each : ∀ (i : Nat) (u : Value), vs[i]? = some u → ∃ ss, nx[i]? = some ss ∧ w.ownsRow lo 9 1 u ss.length (strsV ss)
  apart : ∀ (i g : Nat) (u : Value), vs[i]? = some u → u.ownBlock = some g → vn.ownBlock ≠ some g
section
variable {lo : Nat} {w w' : World} {vn vx : Value} {vs : List Value} {ns : List ByteArray} {nx : List (List ByteArray)}
theorem GsC.kept {r : Option Nat} (h : GsC lo w vn vx vs ns nx) (hg : w.grownBy w' r) (h1 : ∀ {sz n : Nat} {e : TypeId} {v : Value} {xs : List Value}, w.ownsRow lo e sz v n xs → v.ownBlock = none ∨ v.ownBlock ≠ r) : GsC lo w' vn vx vs ns nx :=
  ⟨h.names.kept hg (h1 h.names), h.next.kept hg (h1 h.next), fun i u hu => by obtain ⟨ss, h2, h3⟩ := h.each i u hu; exact ⟨ss, h2, h3.kept hg (h1 h3)⟩, h.apart⟩
theorem GsC.new {r : Option Nat} (h : GsC lo w vn vx vs ns nx) (hg : w.grownBy w' r) (hq : ∀ q, r = some q → w.heap.size ≤ q ∨ q < lo) : GsC lo w' vn vx vs ns nx :=
  h.kept hg (fun {sz n e v xs} hv => by
    cases hb : v.ownBlock with
    | none => exact .inl rfl
    | some g => exact .inr fun e => by have h2 := hv.lt g hb; have := hq g e.symm; omega)
theorem GsC.addN {v' : Value} {s : ByteArray} (h : GsC lo w vn vx vs ns nx) (o : w'.ownsRow lo 9 1 v' (ns.length + 1) (strsV ns ++ strsV [s])) (gr : w.grownBy w' vn.ownBlock) (hl : ∀ g, v'.ownBlock = some g → vn.ownBlock = some g ∨ w.heap.size ≤ g) : GsC lo w' v' vx vs (ns ++ [s]) nx := by
  refine ⟨?_, h.next.kept gr (apart_r h.next h.names (by decide)), fun i u hu => ?_, fun i g u hu hb he => ?_⟩
  · have : strsV (ns ++ [s]) = strsV ns ++ strsV [s] := by simp [strsV]
    rw [this, List.length_append, List.length_singleton]
    exact o
  · obtain ⟨ss, h2, h3⟩ := h.each i u hu
    refine ⟨ss, h2, h3.kept gr ?_⟩
    cases hb : u.ownBlock with
    | none => exact .inl rfl
    | some g => exact .inr fun e => h.apart i g u hu hb e.symm
  · obtain ⟨ss, h2, h3⟩ := h.each i u hu
    rcases hl g he with h4 | h4
    · exact h.apart i g u hu hb h4
    · have := (h3.lt g hb).2; omega
theorem GsC.addX {v' u' : Value} {ss : List ByteArray} (h : GsC lo w vn vx vs ns nx) (hu : w.ownsRow lo 9 1 u' ss.length (strsV ss)) (hn : ∀ g, u'.ownBlock = some g → vn.ownBlock ≠ some g) (o : w'.ownsRow lo 26 1 v' (nx.length + 1) (vs ++ [u'])) (gr : w.grownBy w' vx.ownBlock) : GsC lo w' vn v' (vs ++ [u']) ns (nx ++ [ss]) := by
  have hvl : vs.length = nx.length := by have := h.next.1; omega
  refine ⟨h.names.kept gr (apart_r h.names h.next (by decide)), by rw [List.length_append, List.length_singleton]; exact o, fun i u hi => ?_, fun i g u hi hb => ?_⟩
  · rcases at_snoc hi with hi | ⟨hi', rfl⟩
    · obtain ⟨s2, h2, h3⟩ := h.each i u hi
      have hl : i < nx.length := (List.getElem?_eq_some_iff.1 h2).1
      exact ⟨s2, by rw [List.getElem?_append_left hl]; exact h2, h3.kept gr (apart_r h3 h.next (by decide))⟩
    · exact ⟨ss, by rw [hi', hvl]; simp, hu.kept gr (apart_r hu h.next (by decide))⟩
  · rcases at_snoc hi with hi | ⟨_, rfl⟩
    · exact h.apart i g u hi hb
    · exact hn g hb
/-- As the specification's functions read it. -/
theorem GsC.grIn (h : GsC lo w vn vx vs ns nx) (hl : nx.length = ns.length) (hf : ns.length ≤ 1048577) (hs : ∀ ss ∈ nx, ss.length ≤ 1048576) : GrIn (Ow lo w.heap.size) w vn vx ns nx := by
  refine ⟨rdB_owns h.names, ?_, hl, hf⟩
  obtain ⟨q, c, e⟩ := owns_slG h.next
  subst e
  rcases h.next.2 with ⟨e1, e2⟩ | ⟨g, cap, cur, e1, hb, hg, hnc, hcm, hcs, ht⟩
  · have hnil : nx = [] := List.eq_nil_of_length_eq_zero e2
    subst hnil
    injection e1 with e3 e4 e5
    subst e3 e5
    exact ⟨none, 0, rfl, by unfold maxLen; simp, by simp, .inl rfl⟩
  · injection e1 with e3 e4 e5
    subst e3 e5
    refine ⟨_, c, rfl, by omega, hnc, .inr ⟨g, 0, rfl, ⟨hb, (Array.getElem?_eq_some_iff.1 hg).1⟩, fun k hk => ?_⟩⟩
    have hkv : k < vs.length := by have := h.next.1; omega
    obtain ⟨ss, h2, h3⟩ := h.each k vs[k] (List.getElem?_eq_getElem hkv)
    have h4 : nx[k] = ss := by have := List.getElem?_eq_getElem hk; rw [this] at h2; exact Option.some.inj h2
    refine ⟨[vs[k]], ⟨vs[k], rfl, ⟨by rw [h4]; exact owns_lo (Nat.zero_le _) h3, fun g' hg' => owns_in h3 g' hg'⟩, by rw [h4]; exact hs ss (h4 ▸ List.getElem_mem hk)⟩, fun i hi => ?_⟩
    simp at hi
    subst hi
    show w.cell? ⟨g, 0 + k * 1 + 0, none⟩ = _
    rw [show 0 + k * 1 + 0 = k by omega, h.next.cellAt k (by omega)]
    exact List.getElem?_eq_getElem hkv
end

end Go.Proofs.Ytkkhnldhipfneaa

/-! Needs and commands, and rows of them, that are the same are told so by the law's own comparison: contracts for what lies in memory and holds at most 2 to the 20. -/
namespace Go.Proofs.Ytkkhnldhipfneaa
open Go.RowKit
set_option linter.unusedSimpArgs false
set_option linter.unusedVariables false

theorem boxTwo {w w1 : World} {A R : Obj} (hb : Below ((w.alloc A).alloc R).heap.size ((w.alloc A).alloc R) w1) : w1.heap[w.heap.size]? = some A ∧ w1.heap[w.heap.size + 1]? = some R := by
  have s1 : (w.alloc A).heap.size = w.heap.size + 1 := by simp
  refine ⟨?_, ?_⟩
  · rw [hb.block _ (by simp; omega), vheap_old _ _ (by simp), vheap_new]
  · rw [hb.block _ (by simp), ← s1, vheap_new]

end Go.Proofs.Ytkkhnldhipfneaa

/-! Rows of lists of texts that lie in memory: what they are, how much they hold, copies in memory of their own, and their likeness, as the law has them: contracts for the walks; conditions: at most 2 to the 20 is held. -/
namespace Go.Proofs.Ytkkhnldhipfneaa
open Go.RowKit
set_option linter.unusedSimpArgs false
set_option linter.unusedVariables false

abbrev StringSD := List ByteArray
def wtStringS (d : StringSD) : Nat := bulkS d
def shStringS : Sh StringSD where
  n := 1
  lies S w cs d := ∃ u0, cs = [u0] ∧ RdB S w u0 (strsV d) ∧ saneP d
  keep hk h := by obtain ⟨u0, h0, h1, h2⟩ := h; exact ⟨u0, h0, h1.keep hk, h2⟩
  mono hS h := by obtain ⟨u0, h0, h1, h2⟩ := h; exact ⟨u0, h0, h1.mono hS, h2⟩
def shStringSO : Sh StringSD where
  n := 1
  lies S w cs d := ∃ u0, cs = [u0] ∧ StrsOwn S w u0 d ∧ saneP d
  keep hk h := by obtain ⟨u0, h0, h1, h2⟩ := h; exact ⟨u0, h0, h1.keep hk, h2⟩
  mono hS h := by obtain ⟨u0, h0, h1, h2⟩ := h; exact ⟨u0, h0, h1.mono hS, h2⟩
theorem liesStringS_plain {S : Nat → Prop} {w : World} {cs : List Value} {d : StringSD} (h : shStringSO.lies S w cs d) : shStringS.lies S w cs d := by
  obtain ⟨u0, h0, h1, h2⟩ := h
  exact ⟨u0, h0, h1.plain, h2⟩

theorem laid_step1 {lo : Nat} {w w2 : World} {ys : List Value} {xs : List StringSD} {k : Nat} (h : Laid shStringSO (Ow lo w.heap.size) w ys xs k) (hk : k < xs.length) (hy : ys.length = xs.length) (hb : Below w.heap.size w w2) {g : Nat} (hg : g < lo) {cs : List Value}
    (hn : cs.length = 1) (hu : shStringSO.lies (Ow lo w2.heap.size) w2 cs xs[k]) : Laid shStringSO (Ow lo (setW w2 g k cs).heap.size) (setW w2 g k cs) (putL ys k cs) xs (k + 1) := by
  have h9 := h.step (sh := shStringSO) hk (by rw [hy]; exact (Nat.mul_one _).symm) hb hg hn hu
  rw [show k * shStringSO.n = k from Nat.mul_one k] at h9
  exact h9

set_option maxHeartbeats 2000000 in
set_option maxRecDepth 100000 in
theorem szStringSS_c (S : Nat → Prop) (v : Value) (xs : List StringSD) (left : Int) (h0 : 0 ≤ left) (h1 : left ≤ 1048576) (w : World) (hv : RowIn shStringS S w v xs) (hB : ∀ b, S b → b < w.heap.size) :
    Calls Try.prog 52 #[v, .int .i64 left] w fun e w' => e = .returned (.int .i64 (leftW (wtRow wtStringS xs) left)) ∧ Below w.heap.size w w' := by
  obtain ⟨a, cap, rfl, hl, hc, ha⟩ := hv
  unfold maxLen at hl
  by_cases hneg : left - (xs.length : Int) < 0
  · have e : leftW (wtRow wtStringS xs) left = -1 := leftW_bad (by have := len_wtRow wtStringS xs; omega)
    rw [e]
    clear ha
    go_enter Try.func52, Try.ntmps52
    go_wp2_with fail
    go_ret
    exact ⟨rfl, Below.refl _ _⟩
  · go_enter Try.func52, Try.ntmps52
    go_wp2_with fail
    go_loopw [1, 5] (fun vl vi wr => ∃ (k : Nat) (q : Int), k ≤ xs.length ∧ vi = .int .i64 (k : Int) ∧ vl = .int .i64 q ∧ 0 ≤ q ∧ q ≤ 1048576 ∧ Hid (q = left - (xs.length : Int) - (wtRow wtStringS (xs.take k) : Int) + (k : Int)) ∧ Below w.heap.size w wr) (fun _ vi _ => xs.length - (intOf vi).toNat)
    case atStart => exact ⟨0, _, Nat.zero_le _, rfl, rfl, by omega, by omega, by show _ = _; simp [wtRow], Below.refl _ _⟩
    case round =>
      obtain ⟨k, q, hk, rfl, rfl, hq0, hq1, hq, hbr⟩ := hrel
      by_cases hlt' : k < xs.length
      · rcases ha with rfl | ⟨b, off, rfl, hlt, ha⟩
        · simp at hlt'
        obtain ⟨cs, hL, hcell⟩ := ha k hlt'
        have hL2 := shStringS.keep (.of hbr hB) hL
        have hcell2 := hcell.keep (.of hbr hB) hlt
        have hBr : ∀ b, S b → b < wr.heap.size := fun b h => Nat.lt_of_lt_of_le (hB b h) hbr.size
        have hwt := wtRow_take wtStringS xs k hlt'
        have hsp := wtRow_split wtStringS xs (k + 1)
        have hln := len_wtRow wtStringS (xs.drop (k + 1))
        have hdl : (xs.drop (k + 1)).length = xs.length - (k + 1) := by simp
        obtain ⟨d, hd⟩ : ∃ d, d = xs[k] := ⟨_, rfl⟩
        rw [← hd] at hL2 hwt
        have HW : Hid (wtRow wtStringS (xs.take (k + 1)) = wtRow wtStringS (xs.take k) + (1 + wtStringS d)) := hwt
        have HSP : Hid (wtRow wtStringS xs = wtRow wtStringS (xs.take (k + 1)) + wtRow wtStringS (xs.drop (k + 1)) ∧ xs.length - (k + 1) ≤ wtRow wtStringS (xs.drop (k + 1))) := ⟨hsp, by omega⟩
        have hki : (k : Int) < (xs.length : Int) := by omega
        obtain ⟨p, hp⟩ : ∃ p, p = leftW (wtStringS d) q := ⟨_, rfl⟩
        have HP : Hid (p = leftW (wtStringS d) q) := hp
        obtain ⟨u0, rfl, r0, p0⟩ := hL2
        have HC : Calls Try.prog 51 #[u0, .int .i64 q] wr fun e w' => e = .returned (.int .i64 (leftW (wtStringS d) q)) ∧ wr = w' := sizeStrsM_c u0 d wr q hq0 hq1 (r0.reads hBr) p0.1 p0.2
        rw [← hp] at HC
        clear hL hcell ha hwt hd hp hsp hln hdl
        clear p0
        obtain ⟨a0, cap0, eu0, _⟩ := id r0
        rw [length_strsV] at eu0
        subst eu0
        clear r0
        have e0 : wr.cell? ⟨b, off + k, none⟩ = some (.slice a0 d.length cap0) := by have h9 := hcell2 0 (by simp); simpa [shStringS] using h9
        have HC2 := hidden HC
        clear hcell2 HC
        by_cases hpn : p < 0
        · go_wp2_with (go_at_call 51; refine HC2.out.mono ?_; rintro e w1 ⟨rfl, rfl⟩)
          go_ret
          have e : leftW (wtRow wtStringS xs) left = -1 := by
            have h2 := HP.out; have h3 := hq.out; have h4 := HW.out; have h5 := HSP.out
            refine leftW_bad ?_
            by_cases h6 : ((wtStringS d : Nat) : Int) ≤ q
            · rw [leftW_good h6] at h2; omega
            · omega
          exact ⟨by rw [e]; rfl, hbr⟩
        · go_wp2_with (go_at_call 51; refine HC2.out.mono ?_; rintro e w1 ⟨rfl, rfl⟩)
          go_roundw
          case rel =>
            have h2 := HP.out; have h3 := hq.out; have h4 := HW.out
            have h6 : ((wtStringS d : Nat) : Int) ≤ q := by
              by_cases h6 : ((wtStringS d : Nat) : Int) ≤ q
              · exact h6
              · rw [leftW_bad (by omega)] at h2; omega
            rw [leftW_good h6] at h2
            exact ⟨k + 1, p, by omega, by go_num, rfl, by omega, by omega, (by show _ = _; omega), hbr⟩
          case measure => simp [intOf]; omega
      · have he : k = xs.length := by omega
        subst he
        clear ha
        go_wp2_with fail
        go_ret
        have e : leftW (wtRow wtStringS xs) left = q := by
          have h3 := hq.out
          rw [List.take_length] at h3
          rw [leftW_good (by omega)]; omega
        exact ⟨by rw [e]; rfl, hbr⟩

set_option maxHeartbeats 2000000 in
set_option maxRecDepth 100000 in
theorem infoSS : (Try.prog.info? 26).map (fun i => (i.zero, i.size, i.bytes)) = some (some (.slice none 0 0), 1, 24) := by kernel_rfl
set_option maxHeartbeats 2000000 in
set_option maxRecDepth 100000 in
theorem toStringSS_c (S : Nat → Prop) (v : Value) (xs : List StringSD) (w : World) (hv : RowIn shStringS S w v xs) (hB : ∀ b, S b → b < w.heap.size) (hw : wtRow wtStringS xs ≤ 1048576) :
    Calls Try.prog 56 #[v] w fun e w' => ∃ g, e = .returned (.slice (some ⟨g, 0, none⟩) xs.length xs.length) ∧ RowOwn shStringSO 26 (Ow w.heap.size w'.heap.size) w' (.slice (some ⟨g, 0, none⟩) xs.length xs.length) xs ∧ Below w.heap.size w w' := by
  obtain ⟨a, cap, rfl, hl, hc, ha⟩ := hv
  have hn := len_wtRow wtStringS xs
  have hlm : xs.length ≤ maxLen := hl
  unfold maxLen at hl
  obtain ⟨i0, hi, hz0, hz1, hz2⟩ := info_parts infoSS
  go_enter Try.func56, Try.ntmps56
  go_wp2_with (first
    | (at_make; refine wpList_make_full _ rfl _ _ 42 rfl w.heap.size 26 i0 _ 1 Try.underlying42 hi hz0 hz1 _ _ _ _ xs.length rfl rfl rfl rfl (by rw [hz2]; omega) (by unfold maxLen; omega) (Nat.le_refl _) ?_))
  intro w1 hown hgrow
  have hb1 := below_of_grown hgrow
  have hs1 : w.heap.size + 1 ≤ w1.heap.size := by
    rcases hown.2 with ⟨h, _⟩ | ⟨g, cap, cur, h, _, hg, _⟩
    · simp at h
    · simp at h
      have := (Array.getElem?_eq_some_iff.1 hg).1
      omega
  obtain ⟨ys1, hown1⟩ : ∃ ys, w1.ownsRow w.heap.size 26 1 (.slice (some ⟨w.heap.size, 0, none⟩) xs.length xs.length) xs.length ys := ⟨_, hown⟩
  clear hgrow hown
  go_wp2_with fail
  go_loopw [4] (fun vi wr => ∃ (k : Nat) (ys : List Value), k ≤ xs.length ∧ vi = .int .i64 (k : Int) ∧ wr.ownsRow w.heap.size 26 1 (.slice (some ⟨w.heap.size, 0, none⟩) xs.length xs.length) xs.length ys ∧ Hid (Laid shStringSO (Ow (w.heap.size + 1) wr.heap.size) wr ys xs k) ∧ Below w.heap.size w wr ∧ w.heap.size + 1 ≤ wr.heap.size) (fun vi _ => xs.length - (intOf vi).toNat)
  case atStart => exact ⟨0, ys1, Nat.zero_le _, rfl, hown1, (fun i h h0 => by omega), hb1, hs1⟩
  case round =>
    obtain ⟨k, ys, hk, rfl, hownr, hy, hbr, hsr⟩ := hrel
    by_cases hlt' : k < xs.length
    · rcases ha with rfl | ⟨b, off, rfl, hlt, ha⟩
      · simp at hlt'
      obtain ⟨cs, hL, hcell⟩ := ha k hlt'
      have hL2 := shStringS.keep (.of hbr hB) hL
      have hcell2 := hcell.keep (.of hbr hB) hlt
      have hBr : ∀ b, S b → b < wr.heap.size := fun b h => Nat.lt_of_lt_of_le (hB b h) hbr.size
      have hwt : wtStringS xs[k] ≤ 1048576 := by have := wt_wtRow wtStringS (List.getElem_mem hlt'); omega
      have hown2 : ∀ w2, Below wr.heap.size wr w2 → w2.ownsRow w.heap.size 26 1 (.slice (some ⟨w.heap.size, 0, none⟩) xs.length xs.length) xs.length ys := fun w2 h2 => hownr.kept (grown_of_below h2 none) (by simp [Value.ownBlock])
      have hlen := hownr.1
      have HC : Hid (∀ w2, Below wr.heap.size wr w2 → ∀ j, j < 1 → ∃ x, w2.cell? ⟨w.heap.size, k + j, none⟩ = some x) := fun w2 h2 j hj => ⟨ys.getD (k + j) undef, by rw [(hown2 w2 h2).cellAt _ (by omega)]; simp [List.getD_eq_getElem?_getD, show k + j < ys.length by omega]⟩
      have HF : Hid (∀ w2, Below wr.heap.size wr w2 → ∀ j, w2.frozen? ⟨w.heap.size, j, none⟩ = false) := fun w2 h2 j => (hown2 w2 h2).frozenAt j
      have HO : Hid (∀ w2, Below wr.heap.size wr w2 → w2.ownsRow w.heap.size 26 1 (.slice (some ⟨w.heap.size, 0, none⟩) xs.length xs.length) xs.length ys) := hown2
      have HST : Hid (∀ w2 cs, Below wr.heap.size wr w2 → cs.length = 1 → shStringSO.lies (Ow (w.heap.size + 1) w2.heap.size) w2 cs xs[k] → Laid shStringSO (Ow (w.heap.size + 1) (setW w2 w.heap.size (k) cs).heap.size) (setW w2 w.heap.size (k) cs) (putL ys (k) cs) xs (k + 1)) := fun w2 cs h2 hc hr => laid_step1 hy.out hlt' (by rw [hlen, Nat.mul_one]) h2 (by omega) hc hr
      obtain ⟨d, hd⟩ : ∃ d, d = xs[k] := ⟨_, rfl⟩
      rw [← hd] at hL2 hwt HST
      obtain ⟨u0, rfl, r0, p0⟩ := hL2
      have HC1 : Calls Try.prog 55 #[u0] wr fun e w' => ∃ g, e = .returned (.slice (some ⟨g, 0, none⟩) d.length d.length) ∧ StrsOwn (Ow wr.heap.size w'.heap.size) w' (.slice (some ⟨g, 0, none⟩) d.length d.length) d ∧ Below wr.heap.size wr w' :=
        (toStrs_c u0 d wr (r0.reads hBr) (by unfold wtStringS bulkS at hwt; omega)).mono fun e w' ⟨g, h1, h2, h3⟩ => ⟨g, h1, ⟨owns_lo (Nat.zero_le _) h2, owns_in h2⟩, h3⟩
      clear ha hL hcell hd hown2 hi hz0 hz1 hz2 hown1 hb1 hlen hwt
      obtain ⟨a0, cap0, eu0, _⟩ := id r0
      rw [length_strsV] at eu0
      subst eu0
      clear r0
      have e0 : wr.cell? ⟨b, off + k, none⟩ = some (.slice a0 d.length cap0) := by have h9 := hcell2 0 (by simp); simpa [shStringS] using h9
      have HC2 := hidden HC1
      have hki : (k : Int) < (xs.length : Int) := by omega
      clear hcell2 HC1
      go_wp2_with (go_at_call 55; refine HC2.out.mono ?_; rintro e w2 ⟨g2, rfl, hX, hb2⟩; have HX := hidden (HST.out w2 [.slice (some ⟨g2, 0, none⟩) d.length d.length] hb2 rfl ⟨_, rfl, hX.mono (Ow.mono hsr (Nat.le_refl _)), p0⟩); obtain ⟨y0, d0⟩ := HC.out w2 hb2 0 (by omega); rw [Nat.add_zero] at d0; have f9 := HF.out w2 hb2)
      go_roundw
      case rel =>
        refine ⟨k + 1, _, by omega, by go_num, setW_owns [.slice (some ⟨g2, 0, none⟩) d.length d.length] w2 ys (k) (HO.out w2 hb2), HX.out, setW_below (Nat.le_refl _) [.slice (some ⟨g2, 0, none⟩) d.length d.length] w2 w (k) (hbr.trans (hb2.mono hbr.size)), ?_⟩
        have h9 := setW_size [.slice (some ⟨g2, 0, none⟩) d.length d.length] w2 w.heap.size (k)
        have := hb2.size
        exact Nat.le_trans (show w.heap.size + 1 ≤ w2.heap.size by omega) (Nat.le_of_eq h9.symm)
      case measure => simp [intOf]; omega
    · have he : k = xs.length := by omega
      subst he
      clear ha
      go_wp2_with fail
      go_ret
      exact ⟨_, rfl, rowOwn_of hownr hlm hy.out, hbr⟩

set_option maxHeartbeats 2000000 in
set_option maxRecDepth 100000 in
theorem eqStringSS_c (S S' : Nat → Prop) (v u : Value) (xs : List StringSD) (w : World) (hv : RowIn shStringS S w v xs) (hv' : RowIn shStringS S' w u xs) (hB : ∀ b, S b → b < w.heap.size) (hB' : ∀ b, S' b → b < w.heap.size) (hw : wtRow wtStringS xs ≤ 1048576) :
    Calls Try.prog 63 #[v, u] w fun e w' => e = .returned (.bool true) ∧ Below w.heap.size w w' := by
  obtain ⟨a, cap, rfl, hl, hc, ha⟩ := hv
  obtain ⟨a', cap', rfl, _, hc', ha'⟩ := hv'
  unfold maxLen at hl
  go_enter Try.func63, Try.ntmps63
  go_wp2_with fail
  go_loopw [5] (fun vi wr => ∃ k : Nat, k ≤ xs.length ∧ vi = .int .i64 (k : Int) ∧ Below w.heap.size w wr) (fun vi _ => xs.length - (intOf vi).toNat)
  case atStart => exact ⟨0, Nat.zero_le _, rfl, Below.refl _ _⟩
  case round =>
    obtain ⟨k, hk, rfl, hbr⟩ := hrel
    by_cases hlt' : k < xs.length
    · rcases ha with rfl | ⟨b, off, rfl, hlt, ha⟩
      · simp at hlt'
      rcases ha' with rfl | ⟨b', off', rfl, hlt3, ha'⟩
      · simp at hlt'
      obtain ⟨cs, hL, hcell⟩ := ha k hlt'
      obtain ⟨cs', hL', hcell'⟩ := ha' k hlt'
      have hwt : wtStringS xs[k] ≤ 1048576 := by have := wt_wtRow wtStringS (List.getElem_mem hlt'); omega
      replace hL := shStringS.keep (.of hbr hB) hL
      replace hL' := shStringS.keep (.of hbr hB') hL'
      replace hcell := hcell.keep (.of hbr hB) hlt
      replace hcell' := hcell'.keep (.of hbr hB') hlt3
      obtain ⟨d, hd⟩ : ∃ d, d = xs[k] := ⟨_, rfl⟩
      rw [← hd] at hL hL' hwt
      clear ha ha' hd
      obtain ⟨xu0, rfl, xr0, xp0⟩ := hL
      obtain ⟨yu0, rfl, yr0, yp0⟩ := hL'
      have HC : Calls Try.prog 28 #[xu0, yu0] wr.drew fun e w' => e = .returned (.bool true) ∧ Below wr.drew.heap.size wr.drew w' := by
        have h9 := eqStrs_c xu0 yu0 d d wr.drew ((xr0.keep (fun b h => rfl)).reads (fun b h => Nat.lt_of_lt_of_le (hB b h) hbr.size)) ((yr0.keep (fun b h => rfl)).reads (fun b h => Nat.lt_of_lt_of_le (hB' b h) hbr.size)) (by unfold wtStringS bulkS at hwt; omega)
        rwa [decide_eq_true rfl] at h9
      clear xp0 yp0
      obtain ⟨xa0, xc0, xe0, _⟩ := id xr0
      rw [length_strsV] at xe0
      subst xe0
      clear xr0
      have xv0 : wr.cell? ⟨b, off + k, none⟩ = some (.slice xa0 d.length xc0) := by have h9 := hcell 0 (by simp); simpa [shStringS] using h9
      obtain ⟨ya0, yc0, ye0, _⟩ := id yr0
      rw [length_strsV] at ye0
      subst ye0
      clear yr0
      have yv0 : wr.cell? ⟨b', off' + k, none⟩ = some (.slice ya0 d.length yc0) := by have h9 := hcell' 0 (by simp); simpa [shStringS] using h9
      have HC2 := hidden HC
      have hki : (k : Int) < (xs.length : Int) := by omega
      clear hcell hcell' HC hwt
      go_wp2_with fail
      go_region_with (go_at_call 28; refine HC2.out.mono ?_; rintro e w2 ⟨rfl, hb2⟩)
      all_goals go_wp2_with fail
      all_goals go_roundw
      all_goals first
        | exact ⟨k + 1, by omega, by go_num, hbr.drew.trans (hb2.mono hbr.size)⟩
        | (simp [intOf]; omega)
    · have he : k = xs.length := by omega
      subst he
      clear ha ha'
      go_wp2_with fail
      go_ret
      exact ⟨rfl, hbr⟩

end Go.Proofs.Ytkkhnldhipfneaa

/-! Plans that lie in memory: what they are: no condition. -/
namespace Go.Proofs.Ytkkhnldhipfneaa
open Go.RowKit
set_option linter.unusedSimpArgs false
set_option linter.unusedVariables false

structure PlanD where
  tasks : List ByteArray
  deps : List StringSD
def wtPlan (d : PlanD) : Nat := bulkS d.tasks + wtRow wtStringS d.deps
def shPlan : Sh PlanD where
  n := 2
  lies S w cs d := ∃ u0 u1, cs = [u0, u1] ∧ RdB S w u0 (strsV d.tasks) ∧ saneP d.tasks ∧ RowIn shStringS S w u1 d.deps
  keep hk h := by obtain ⟨u0, u1, h0, h1, h2, h3⟩ := h; exact ⟨u0, u1, h0, h1.keep hk, h2, h3.keep hk⟩
  mono hS h := by obtain ⟨u0, u1, h0, h1, h2, h3⟩ := h; exact ⟨u0, u1, h0, h1.mono hS, h2, h3.mono hS⟩
def shPlanO : Sh PlanD where
  n := 2
  lies S w cs d := ∃ u0 u1, cs = [u0, u1] ∧ StrsOwn S w u0 d.tasks ∧ saneP d.tasks ∧ RowOwn shStringSO 26 S w u1 d.deps
  keep hk h := by obtain ⟨u0, u1, h0, h1, h2, h3⟩ := h; exact ⟨u0, u1, h0, h1.keep hk, h2, h3.keep hk⟩
  mono hS h := by obtain ⟨u0, u1, h0, h1, h2, h3⟩ := h; exact ⟨u0, u1, h0, h1.mono hS, h2, h3.mono hS⟩
theorem liesPlan_plain {S : Nat → Prop} {w : World} {cs : List Value} {d : PlanD} (h : shPlanO.lies S w cs d) : shPlan.lies S w cs d := by
  obtain ⟨u0, u1, e0, r0, p0, r1⟩ := h
  exact ⟨u0, u1, e0, r0.plain, p0, (RowIn.as (sh := shStringSO) (sh' := shStringS) rfl (fun S w cs x h => liesStringS_plain h) r1.plain)⟩
end Go.Proofs.Ytkkhnldhipfneaa

/-! How much needs hold, as the law counts it: contracts for the walks; conditions: at most 2 to the 20 is left to count. -/
namespace Go.Proofs.Ytkkhnldhipfneaa
open Go.RowKit
set_option linter.unusedSimpArgs false
set_option linter.unusedVariables false

end Go.Proofs.Ytkkhnldhipfneaa

/-! How much they hold, as the law counts it: contracts for the walks; conditions: at most 2 to the 20 is left to count. -/
namespace Go.Proofs.Ytkkhnldhipfneaa
open Go.RowKit
set_option linter.unusedSimpArgs false
set_option linter.unusedVariables false

set_option maxHeartbeats 2000000 in
set_option maxRecDepth 100000 in
theorem szPlan_c (S : Nat → Prop) (d : PlanD) (cs : List Value) (left : Int) (h0 : 0 ≤ left) (h1 : left ≤ 1048576) (w : World) (hd : shPlan.lies S w cs d) (hB : ∀ b, S b → b < w.heap.size) :
    Calls Try.prog 21 #[.agg cs.toArray, .int .i64 left] w fun e w' => e = .returned (.int .i64 (leftW (wtPlan d) left)) ∧ Below w.heap.size w w' := by
  obtain ⟨u0, u1, rfl, r0, p0, r1⟩ := hd
  have hbx : ∀ o, Below w.heap.size w (w.alloc o) := fun o => (Below.refl _ _).alloc (Nat.le_refl _) _
  obtain ⟨R, hR⟩ : ∃ R, R = leftW (wtPlan d) left := ⟨_, rfl⟩
  rw [← hR]
  obtain ⟨q0, hq0⟩ : ∃ q, q = leftW (bulkS d.tasks) left := ⟨_, rfl⟩
  obtain ⟨q1, hq1⟩ : ∃ q, q = leftW (wtRow wtStringS d.deps) q0 := ⟨_, rfl⟩
  have HS0 : Hid (0 ≤ left → left ≤ 1048576 → ∀ w1, Below w.heap.size w w1 → Calls Try.prog 51 #[u0, .int .i64 left] w1 fun e w' => e = .returned (.int .i64 q0) ∧ w1 = w') := fun a b w1 hb => by
    rw [hq0]; exact sizeStrsM_c u0 d.tasks w1 _ a b ((r0.keep (.of hb hB)).reads (fun b h => Nat.lt_of_lt_of_le (hB b h) hb.size)) p0.1 p0.2
  have HS1 : Hid (0 ≤ q0 → q0 ≤ 1048576 → ∀ w1, Below w.heap.size w w1 → Calls Try.prog 52 #[u1, .int .i64 q0] w1 fun e w' => e = .returned (.int .i64 q1) ∧ Below w1.heap.size w1 w') := fun a b w1 hb => by
    rw [hq1]; exact szStringSS_c S u1 d.deps _ a b w1 (r1.keep (.of hb hB)) (fun b h => Nat.lt_of_lt_of_le (hB b h) hb.size)
  obtain ⟨a0, cap0, eu0, _⟩ := id r0
  rw [length_strsV] at eu0
  subst eu0
  clear r0
  obtain ⟨a1, cap1, eu1, _⟩ := id r1
  subst eu1
  clear r1
  have lt := lw (wtPlan d) left
  have l0 := lw (bulkS d.tasks) left
  rw [← hq0] at l0
  have l1 := lw (wtRow wtStringS d.deps) q0
  rw [← hq1] at l1
  rw [← hR] at lt
  unfold wtPlan at lt
  clear hq0 hq1 hR
  by_cases n0 : q0 < 0
  · have HR : Hid (R = -1) := by show _ = _; omega
    have g0a : 0 ≤ left := by omega
    have g0b : left ≤ 1048576 := by omega
    have HC0 := HS0.out g0a g0b
    have HD0 := hidden HC0
    clear HC0
    clear lt l0 l1
    clear HS0
    clear HS1
    go_enter Try.func21, Try.ntmps21
    go_wp2_with fail
    go_at_call 51
    refine (HD0.out _ (hbx _)).mono ?_
    rintro e w' ⟨rfl, rfl⟩
    go_wp2_with fail
    go_ret
    exact ⟨by rw [HR.out]; rfl, (hbx _)⟩
  by_cases n1 : q1 < 0
  · have HR : Hid (R = -1) := by show _ = _; omega
    have g0a : 0 ≤ left := by omega
    have g0b : left ≤ 1048576 := by omega
    have g1a : 0 ≤ q0 := by omega
    have g1b : q0 ≤ 1048576 := by omega
    have HC0 := HS0.out g0a g0b
    have HD0 := hidden HC0
    clear HC0
    have HC1 := HS1.out g1a g1b
    have HD1 := hidden HC1
    clear HC1
    clear lt l0 l1
    clear HS0
    clear HS1
    go_enter Try.func21, Try.ntmps21
    go_wp2_with fail
    go_at_call 51
    refine (HD0.out _ (hbx _)).mono ?_
    rintro e w' ⟨rfl, rfl⟩
    go_wp2_with fail
    go_at_call 52
    refine (HD1.out _ (hbx _)).mono ?_
    rintro e w2 ⟨rfl, b2⟩
    have k2 : Below w.heap.size w w2 := ((hbx _)).trans (b2.mono (by first | exact ((hbx _)).size | (simp; omega)))
    have hx2 := boxAt b2
    have x0 := vblk_cell hx2 0
    have x1 := vblk_cell hx2 1
    simp only [List.getElem?_toArray, List.getElem?_cons_succ, List.getElem?_cons_zero] at x0 x1
    go_wp2_with fail
    go_ret
    exact ⟨by rw [HR.out]; rfl, k2⟩
  have HR : Hid (R = q1) := by show _ = _; omega
  have g0a : 0 ≤ left := by omega
  have g0b : left ≤ 1048576 := by omega
  have g1a : 0 ≤ q0 := by omega
  have g1b : q0 ≤ 1048576 := by omega
  have HC0 := HS0.out g0a g0b
  have HD0 := hidden HC0
  clear HC0
  have HC1 := HS1.out g1a g1b
  have HD1 := hidden HC1
  clear HC1
  clear lt l0 l1
  clear HS0
  clear HS1
  go_enter Try.func21, Try.ntmps21
  go_wp2_with fail
  go_at_call 51
  refine (HD0.out _ (hbx _)).mono ?_
  rintro e w' ⟨rfl, rfl⟩
  go_wp2_with fail
  go_at_call 52
  refine (HD1.out _ (hbx _)).mono ?_
  rintro e w2 ⟨rfl, b2⟩
  have k2 : Below w.heap.size w w2 := ((hbx _)).trans (b2.mono (by first | exact ((hbx _)).size | (simp; omega)))
  have hx2 := boxAt b2
  have x0 := vblk_cell hx2 0
  have x1 := vblk_cell hx2 1
  simp only [List.getElem?_toArray, List.getElem?_cons_succ, List.getElem?_cons_zero] at x0 x1
  go_wp2_with fail
  go_ret
  exact ⟨by rw [HR.out]; rfl, k2⟩

end Go.Proofs.Ytkkhnldhipfneaa

/-! Copies in memory of their own, as the law makes them: contracts for the walks; condition: what is copied holds at most 2 to the 20. -/
namespace Go.Proofs.Ytkkhnldhipfneaa
open Go.RowKit
set_option linter.unusedSimpArgs false
set_option linter.unusedVariables false

set_option maxHeartbeats 2000000 in
set_option maxRecDepth 100000 in
theorem toPlan_c (S : Nat → Prop) (d : PlanD) (cs : List Value) (w : World) (hd : shPlan.lies S w cs d) (hB : ∀ b, S b → b < w.heap.size) (hw : wtPlan d ≤ 1048576) :
    Calls Try.prog 23 #[.agg cs.toArray] w fun e w' => ∃ cs', e = .returned (.agg cs'.toArray) ∧ shPlanO.lies (Ow w.heap.size w'.heap.size) w' cs' d ∧ Below w.heap.size w w' := by
  obtain ⟨u0, u1, rfl, r0, p0, r1⟩ := hd
  have hb3 : ∀ A R O, Below w.heap.size w (((w.alloc A).alloc R).alloc O) := fun A R O => (((Below.refl _ _).alloc (Nat.le_refl _) _).alloc (by simp) _).alloc (by simp; omega) _
  unfold wtPlan at hw
  have HS0 : Hid (∀ w1, Below w.heap.size w w1 → Calls Try.prog 55 #[u0] w1 fun e w' => ∃ g, e = .returned (.slice (some ⟨g, 0, none⟩) d.tasks.length d.tasks.length) ∧ StrsOwn (Ow w1.heap.size w'.heap.size) w' (.slice (some ⟨g, 0, none⟩) d.tasks.length d.tasks.length) d.tasks ∧ Below w1.heap.size w1 w') := fun w1 hb =>
    (toStrs_c u0 d.tasks w1 ((r0.keep (.of hb hB)).reads (fun b h => Nat.lt_of_lt_of_le (hB b h) hb.size)) (by unfold bulkS at hw; omega)).mono fun e w' ⟨g, h1, h2, h3⟩ => ⟨g, h1, ⟨owns_lo (Nat.zero_le _) h2, owns_in h2⟩, h3⟩
  have HS1 : Hid (∀ w1, Below w.heap.size w w1 → Calls Try.prog 56 #[u1] w1 fun e w' => ∃ g, e = .returned (.slice (some ⟨g, 0, none⟩) d.deps.length d.deps.length) ∧ RowOwn shStringSO 26 (Ow w1.heap.size w'.heap.size) w' (.slice (some ⟨g, 0, none⟩) d.deps.length d.deps.length) d.deps ∧ Below w1.heap.size w1 w') := fun w1 hb =>
    toStringSS_c S u1 d.deps w1 (r1.keep (.of hb hB)) (fun b h => Nat.lt_of_lt_of_le (hB b h) hb.size) (by omega)
  obtain ⟨a0, cap0, eu0, _⟩ := id r0
  rw [length_strsV] at eu0
  subst eu0
  clear r0
  obtain ⟨a1, cap1, eu1, _⟩ := id r1
  subst eu1
  clear r1
  go_enter Try.func23, Try.ntmps23
  go_wp2_with fail
  go_at_call 55
  refine (HS0.out _ (hb3 _ _ _)).mono ?_
  rintro e w1 ⟨g1, rfl, R0, b1⟩
  obtain ⟨hA1, hR1, hO1⟩ := vthree b1
  have s3 : ∀ A R O, (((w.alloc A).alloc R).alloc O).heap.size = w.heap.size + 1 + 1 + 1 := fun A R O => by simp
  rw [s3] at b1 R0
  have m1 : w.heap.size + 3 ≤ w1.heap.size := by have := b1.size; rw [s3] at this; omega
  have kw1 : Below w.heap.size w w1 := (hb3 _ _ _).trans (b1.mono (by omega))
  replace R0 := R0.mono (S' := Ow (w.heap.size + 3) w1.heap.size) (Ow.mono (by omega) (Nat.le_refl _))
  have m1' : w.heap.size + 3 ≤ w1.heap.size := by omega
  have o0 := vblk_cell hO1 0
  have q0 := vblk_cell hR1 0
  have y0 := vblk_cell hA1 0
  have o1 := vblk_cell hO1 1
  have q1 := vblk_cell hR1 1
  have y1 := vblk_cell hA1 1
  have fo := vblk_frozen hO1
  have fr := vblk_frozen hR1
  simp only [List.getElem?_toArray, List.getElem?_cons_succ, List.getElem?_cons_zero, List.setIfInBounds_toArray, List.set_cons_succ, List.set_cons_zero] at o0 q0 y0 o1 q1 y1
  have k1 : Below w.heap.size w (w1.setCell ⟨w.heap.size + 1 + 1, 0, none⟩ (.slice (some ⟨g1, 0, none⟩) d.tasks.length d.tasks.length)) := (Below.setCell kw1 (by simp; omega) _)
  go_wp2_with fail
  go_at_call 56
  refine (HS1.out _ k1).mono ?_
  rintro e w2 ⟨g2, rfl, R1, b2⟩
  have hA2 := (b2.block w.heap.size (by simp [World.setCell]; omega)).trans ((Below.heap_setCell _ _ _ _ (by simp <;> omega)).trans (hA1))
  have hR2 := (b2.block (w.heap.size + 1) (by simp [World.setCell]; omega)).trans ((Below.heap_setCell _ _ _ _ (by simp <;> omega)).trans (hR1))
  have hO2 := (b2.block (w.heap.size + 1 + 1) (by simp [World.setCell]; omega)).trans (heap_setCell_same _ _ _ _ _ _ hO1)
  have m2 : w1.heap.size ≤ w2.heap.size := by have := b2.size; simpa [World.setCell] using this
  have kw2 : Below w.heap.size w w2 := k1.trans (b2.mono k1.size)
  replace R1 := R1.mono (S' := Ow (w.heap.size + 3) w2.heap.size) (Ow.mono (by simp [World.setCell]; omega) (Nat.le_refl _))
  replace R0 := (R0.keep ((Kp.set (Ow.not (by omega))).trans (Kp.of b2 (fun b h => by have := h.2; simp [World.setCell]; omega)))).mono (S' := Ow (w.heap.size + 3) w2.heap.size) (Ow.mono (Nat.le_refl _) (by omega))
  have m2' : w.heap.size + 3 ≤ w2.heap.size := by omega
  have o0 := vblk_cell hO2 0
  have q0 := vblk_cell hR2 0
  have y0 := vblk_cell hA2 0
  have o1 := vblk_cell hO2 1
  have q1 := vblk_cell hR2 1
  have y1 := vblk_cell hA2 1
  have fo := vblk_frozen hO2
  have fr := vblk_frozen hR2
  simp only [List.getElem?_toArray, List.getElem?_cons_succ, List.getElem?_cons_zero, List.setIfInBounds_toArray, List.set_cons_succ, List.set_cons_zero] at o0 q0 y0 o1 q1 y1
  go_wp2_with fail
  refine bodyPost_ret (v := .agg #[.slice (some ⟨g1, 0, none⟩) d.tasks.length d.tasks.length, .slice (some ⟨g2, 0, none⟩) d.deps.length d.deps.length]) (by simp [results, Try.results23, go_sem, o0, q0, o1, q1]) rfl ⟨[.slice (some ⟨g1, 0, none⟩) d.tasks.length d.tasks.length, .slice (some ⟨g2, 0, none⟩) d.deps.length d.deps.length], rfl, ?_, ?_⟩
  · have hS : ∀ {W : World}, w2.heap.size ≤ W.heap.size → ∀ b, Ow (w.heap.size + 3) w2.heap.size b → Ow w.heap.size W.heap.size b := fun h => Ow.mono (by omega) h
    refine ⟨_, _, rfl, (R0.keep ?_).mono (hS ?_), p0, (R1.keep ?_).mono (hS ?_)⟩
    all_goals first
      | (simp [World.setCell]; done)
      | ((repeat (refine Kp.trans ?_ (Kp.set (Ow.not (by omega))))); exact fun b hb => rfl)
  · refine ?_
    (repeat (refine Below.setCell ?_ (by simp <;> omega) _))
    exact kw2

set_option maxHeartbeats 2000000 in
set_option maxRecDepth 100000 in
theorem infoPlan : (Try.prog.info? 47).map (fun i => (i.zero, i.size, i.bytes)) = some (some (.agg #[.slice none 0 0, .slice none 0 0]), 2, 48) := by kernel_rfl
end Go.Proofs.Ytkkhnldhipfneaa

/-! What is the same is told so by the law's own comparison: contracts for what lies in memory and holds at most 2 to the 20. -/
namespace Go.Proofs.Ytkkhnldhipfneaa
open Go.RowKit
set_option linter.unusedSimpArgs false
set_option linter.unusedVariables false

set_option maxHeartbeats 2000000 in
set_option maxRecDepth 100000 in
theorem eqPlan_c (S S' : Nat → Prop) (d : PlanD) (cs cs' : List Value) (w : World) (hd : shPlan.lies S w cs d) (hd' : shPlan.lies S' w cs' d) (hB : ∀ b, S b → b < w.heap.size) (hB' : ∀ b, S' b → b < w.heap.size) (hw : wtPlan d ≤ 1048576) :
    Calls Try.prog 25 #[.agg cs.toArray, .agg cs'.toArray] w fun e w' => e = .returned (.bool true) ∧ Below w.heap.size w w' := by
  obtain ⟨xu0, xu1, rfl, xr0, xp0, xr1⟩ := hd
  obtain ⟨yu0, yu1, rfl, yr0, yp0, yr1⟩ := hd'
  have hb2 : ∀ A R, Below w.heap.size w ((w.alloc A).alloc R) := fun A R => ((Below.refl _ _).alloc (Nat.le_refl _) _).alloc (by simp) _
  unfold wtPlan at hw
  have HS0 : Hid (∀ w1, Below w.heap.size w w1 → Calls Try.prog 28 #[xu0, yu0] w1 fun e w' => e = .returned (.bool true) ∧ Below w1.heap.size w1 w') := fun w1 hb => by
    have := eqStrs_c xu0 yu0 d.tasks d.tasks w1 ((xr0.keep (.of hb hB)).reads (fun b h => Nat.lt_of_lt_of_le (hB b h) hb.size)) ((yr0.keep (.of hb hB')).reads (fun b h => Nat.lt_of_lt_of_le (hB' b h) hb.size)) (by unfold bulkS at hw; omega)
    rwa [decide_eq_true rfl] at this
  have HS1 : Hid (∀ w1, Below w.heap.size w w1 → Calls Try.prog 63 #[xu1, yu1] w1 fun e w' => e = .returned (.bool true) ∧ Below w1.heap.size w1 w') := fun w1 hb =>
    eqStringSS_c S S' xu1 yu1 d.deps w1 (xr1.keep (.of hb hB)) (yr1.keep (.of hb hB')) (fun b h => Nat.lt_of_lt_of_le (hB b h) hb.size) (fun b h => Nat.lt_of_lt_of_le (hB' b h) hb.size) (by omega)
  obtain ⟨xa0, xc0, xe0, _⟩ := id xr0
  rw [length_strsV] at xe0
  subst xe0
  clear xr0
  obtain ⟨xa1, xc1, xe1, _⟩ := id xr1
  subst xe1
  clear xr1
  obtain ⟨ya0, yc0, ye0, _⟩ := id yr0
  rw [length_strsV] at ye0
  subst ye0
  clear yr0
  obtain ⟨ya1, yc1, ye1, _⟩ := id yr1
  subst ye1
  clear yr1
  go_enter Try.func25, Try.ntmps25
  go_wp2_with fail
  go_at_call 28
  refine (HS0.out _ (hb2 _ _)).mono ?_
  rintro e w1 ⟨rfl, b1⟩
  obtain ⟨hA1, hR1⟩ := boxTwo b1
  have k1 : Below w.heap.size w w1 := (hb2 _ _).trans (b1.mono (hb2 _ _).size)
  have o0 := vblk_cell hA1 0
  have q0 := vblk_cell hR1 0
  have o1 := vblk_cell hA1 1
  have q1 := vblk_cell hR1 1
  simp only [List.getElem?_toArray, List.getElem?_cons_succ, List.getElem?_cons_zero] at o0 q0 o1 q1
  go_wp2_with fail
  go_at_call 63
  refine (HS1.out _ k1).mono ?_
  rintro e w2 ⟨rfl, b2⟩
  have hA2 := (b2.block _ (Array.getElem?_eq_some_iff.1 hA1).1).trans hA1
  have hR2 := (b2.block _ (Array.getElem?_eq_some_iff.1 hR1).1).trans hR1
  have k2 := k1.trans (b2.mono k1.size)
  go_wp2_with fail
  go_ret
  exact ⟨rfl, k2⟩

end Go.Proofs.Ytkkhnldhipfneaa

/-! Copies of packs, and of rows of them, in memory of their own, as the law makes them: contracts for the walks; condition: what is copied holds at most 2 to the 20. -/
namespace Go.Proofs.Ytkkhnldhipfneaa
open Go.RowKit
set_option linter.unusedSimpArgs false
set_option linter.unusedVariables false

set_option maxHeartbeats 2000000 in
set_option maxRecDepth 100000 in
theorem infoPack : (Try.prog.info? 33).map (fun i => (i.zero, i.size, i.bytes)) = some (some (.agg #[.string ⟨#[]⟩, .slice none 0 0, .slice none 0 0, .slice none 0 0]), 4, 88) := by kernel_rfl
end Go.Proofs.Ytkkhnldhipfneaa

/-! Marks put into a pack that may be written, as the law puts them: contracts for the walks; conditions: its rows lie in memory and may be written, and there are at most 2 to the 32 marks. -/
namespace Go.Proofs.Ytkkhnldhipfneaa
open Go.RowKit
set_option linter.unusedSimpArgs false
set_option linter.unusedVariables false

/-- A row that may be written stays one where another row is written over, be it the same. -/
theorem owns_over {w w' : World} {lo lo' sz n n' : Nat} {e : TypeId} {v v' : Value} {xs xs' ys : List Value} (h : w.ownsRow lo e sz v n xs) (h0 : w.ownsRow lo' e sz v' n' xs') (h1 : w'.ownsRow lo' e sz v' n' ys) (hg : w.grownBy w' v'.ownBlock) (hs : 0 < sz) : ∃ zs, w'.ownsRow lo e sz v n zs := by
  by_cases hne : v.ownBlock = none ∨ v.ownBlock ≠ v'.ownBlock
  · exact ⟨xs, h.kept hg hne⟩
  · have he : v.ownBlock = v'.ownBlock := by
      by_cases k : v.ownBlock = v'.ownBlock
      · exact k
      · exact absurd (.inr k) hne
    have hn : v.ownBlock ≠ none := fun k => hne (.inl k)
    rcases h.2 with ⟨rfl, _⟩ | ⟨g, cap, cur, rfl, hlo, hgb, hc, hm, hz, ht⟩
    · exact absurd rfl hn
    rcases h0.2 with ⟨rfl, _⟩ | ⟨g0, cap0, cur0, rfl, _, hgb0, hc0, hm0, hz0, _⟩
    · exact absurd he (by simp [Value.ownBlock])
    simp [Value.ownBlock] at he
    subst he
    rcases h1.2 with ⟨hx, _⟩ | ⟨g1, cap1, cur1, hx, _, hgb1, hc1, hm1, hz1, _⟩
    · simp at hx
    · simp only [Value.slice.injEq, Option.some.injEq, Addr.mk.injEq, and_true, true_and] at hx
      obtain ⟨rfl, rfl⟩ := hx
      rw [hgb] at hgb0
      have hcur : cur = cur0 := by simpa using hgb0
      subst hcur
      have hcap : cap = cap0 := by
        have : cap * sz = cap0 * sz := by omega
        exact Nat.eq_of_mul_eq_mul_right hs this
      subst hcap
      refine ⟨cur1.toList.take (n * sz), ?_, .inr ⟨g, cap, cur1, rfl, hlo, hgb1, hc, hm, hz1, rfl⟩⟩
      have hle : n * sz ≤ cap * sz := Nat.mul_le_mul_right _ hc
      rw [List.length_take, Array.length_toList, hz1]
      exact Nat.min_eq_left hle

/-- The rows of a row of commands: each may be written. -/
def CmdRows (w : World) (S : Nat → Prop) (ys : List Value) (ns : List Nat) : Prop := ∀ i (h : i < ns.length), ∃ u xs, ys[i * 2 + 1]? = some u ∧ w.ownsRow 0 9 1 u ns[i] xs ∧ ∀ g, u.ownBlock = some g → S g
theorem CmdRows.set0 {w : World} {S : Nat → Prop} {ys : List Value} {ns : List Nat} (h : CmdRows w S ys ns) (i : Nat) (v : Value) : CmdRows w S (ys.set (i * 2) v) ns := fun j hj => by
  obtain ⟨u, xs, h1, h2, h3⟩ := h j hj
  exact ⟨u, xs, by rw [List.getElem?_set_ne (by omega)]; exact h1, h2, h3⟩
theorem CmdRows.below {w w' : World} {S : Nat → Prop} {ys : List Value} {ns : List Nat} (h : CmdRows w S ys ns) (hb : Below w.heap.size w w') : CmdRows w' S ys ns := fun j hj => by
  obtain ⟨u, xs, h1, h2, h3⟩ := h j hj
  exact ⟨u, xs, h1, owns_kept (S := fun b => b < w.heap.size) (.of hb (fun b h => h)) (fun g h => (owns_in h2 g h).2) h2, h3⟩
/-- A store into a row of commands touches no row of texts. -/
theorem CmdRows.store {w : World} {S : Nat → Prop} {ys : List Value} {ns : List Nat} {g j n cap : Nat} {zs : List Value} {x : Value} (h : CmdRows w S ys ns) (hg : w.ownsRow 0 114 2 (.slice (some ⟨g, 0, none⟩) n cap) n zs) : CmdRows (w.setCell ⟨g, j, none⟩ x) S ys ns := fun i hi => by
  obtain ⟨u, xs, h1, h2, h3⟩ := h i hi
  refine ⟨u, xs, h1, owns_kept (S := fun b => b ≠ g) (Kp.set (fun k => k rfl)) (fun g' hg' => ?_) h2, h3⟩
  rintro rfl
  rcases h2.2 with ⟨rfl, _⟩ | ⟨g2, c2, cur2, rfl, _, hb2, _⟩
  · simp [Value.ownBlock] at hg'
  · simp [Value.ownBlock] at hg'
    subst hg'
    rcases hg.2 with ⟨hx, _⟩ | ⟨g3, c3, cur3, hx, _, hb3, _⟩
    · simp at hx
    · simp only [Value.slice.injEq, Option.some.injEq, Addr.mk.injEq, and_true, true_and] at hx
      obtain ⟨rfl, rfl⟩ := hx
      rw [hb2] at hb3
      simp at hb3

theorem owns_apart {w : World} {lo lo' sz sz' n n' : Nat} {e e' : TypeId} {v v' : Value} {xs xs' : List Value} (h : w.ownsRow lo e sz v n xs) (h' : w.ownsRow lo' e' sz' v' n' xs') (hne : e ≠ e') : v.ownBlock = none ∨ v.ownBlock ≠ v'.ownBlock := by
  rcases h.2 with ⟨rfl, _⟩ | ⟨g, c, cur, rfl, _, hb, _⟩
  · exact .inl rfl
  · right
    intro k
    rcases h'.2 with ⟨rfl, _⟩ | ⟨g', c', cur', rfl, _, hb', _⟩
    · simp [Value.ownBlock] at k
    · simp [Value.ownBlock] at k
      subst k
      rw [hb] at hb'
      simp at hb'
      exact hne hb'.2
theorem cmdRows_of {S : Nat → Prop} {w : World} {ys : List Value} {xs : List CmdD} (h : Laid shCmdO S w ys xs xs.length) : CmdRows w S ys (xs.map fun c => c.acts.length) := fun i hi => by
  have hi' : i < xs.length := by simpa using hi
  obtain ⟨cs, h1, ⟨u, rfl, _, h2, _⟩, h3⟩ := h i hi' hi'
  exact ⟨u, _, h3 1 (by simp), by simpa using h2.1, h2.2⟩
theorem cmds_sum (xs : List CmdD) : (xs.map fun c => c.acts.length).length + (xs.map fun c => c.acts.length).sum ≤ wtRow wtCmd xs := by
  induction xs with
  | nil => simp [wtRow]
  | cons x xs ih =>
    have e : wtRow wtCmd (x :: xs) = (1 + wtCmd x) + wtRow wtCmd xs := by simp [wtRow]
    rw [e]
    simp only [List.map_cons, List.length_cons, List.sum_cons]
    have : x.acts.length ≤ wtCmd x := by unfold wtCmd bulkS; omega
    omega

end Go.Proofs.Ytkkhnldhipfneaa

/-! Marks put into rows of needs, and found again, as the law does it: contracts for the walks; conditions: the rows lie in memory, may be written, and there are at most 2 to the 32 marks. -/
namespace Go.Proofs.Ytkkhnldhipfneaa
open Go.RowKit
set_option linter.unusedSimpArgs false
set_option linter.unusedVariables false

end Go.Proofs.Ytkkhnldhipfneaa

/-! Marks put into rows of packs, as the law puts them: a contract for the walks; conditions: the rows lie in memory, may be written, and there are at most 2 to the 32 marks. -/
namespace Go.Proofs.Ytkkhnldhipfneaa
open Go.RowKit
set_option linter.unusedSimpArgs false
set_option linter.unusedVariables false

/-- What stays where marks are put into texts, and into rows of commands. -/
structure InvC (I : World → Prop) : Prop where
  below : ∀ w w', I w → Below w.heap.size w w' → I w'
  cmd : ∀ w g i n cap zs x, I w → w.ownsRow 0 114 2 (.slice (some ⟨g, 0, none⟩) n cap) n zs → I (w.setCell ⟨g, i * 2, none⟩ (.string x))
  strs : ∀ w w' u n z z', I w → w.ownsRow 0 9 1 u n z → w'.ownsRow 0 9 1 u n z' → w.grownBy w' u.ownBlock → I w'

theorem own_putP {w : World} {lo lo' sz sz' n n' g j cap : Nat} {e e' : TypeId} {u x : Value} {zs ys : List Value} (h : w.ownsRow lo e sz u n zs) (hg : w.ownsRow lo' e' sz' (.slice (some ⟨g, 0, none⟩) n' cap) n' ys) (hne : e ≠ e') : (w.setCell ⟨g, j, none⟩ x).ownsRow lo e sz u n zs := by
  refine owns_kept (S := fun b => b ≠ g) (Kp.set (fun k => k rfl)) (fun g' hg' => ?_) h
  rintro rfl
  rcases owns_apart h hg hne with k | k
  · rw [k] at hg'; cases hg'
  · exact k (by rw [hg']; rfl)
theorem owns_setAny {w : World} {lo sz n : Nat} {e : TypeId} {u : Value} {zs : List Value} (h : w.ownsRow lo e sz u n zs) (g j : Nat) (x : Value) : ∃ zs', (w.setCell ⟨g, j, none⟩ x).ownsRow lo e sz u n zs' ∧ (zs' = zs ∨ zs' = zs.set j x) := by
  by_cases hg : u.ownBlock = some g
  · rcases id h.2 with ⟨rfl, _⟩ | ⟨g2, c2, cur2, rfl, _⟩
    · simp [Value.ownBlock] at hg
    · simp [Value.ownBlock] at hg
      subst hg
      exact ⟨_, (h.stored j x).1, .inr rfl⟩
  · exact ⟨zs, owns_kept (S := fun b => b ≠ g) (Kp.set (fun k => k rfl)) (fun g' hg' => by rintro rfl; exact hg hg') h, .inl rfl⟩
theorem CmdRows.put {w : World} {S : Nat → Prop} {ys : List Value} {ns : List Nat} {lo' sz' n' g j cap : Nat} {e' : TypeId} {zs : List Value} {x : Value} (h : CmdRows w S ys ns) (hg : w.ownsRow lo' e' sz' (.slice (some ⟨g, 0, none⟩) n' cap) n' zs) (hne : 9 ≠ e') : CmdRows (w.setCell ⟨g, j, none⟩ x) S ys ns := fun i hi => by
  obtain ⟨u, xs, h1, h2, h3⟩ := h i hi
  exact ⟨u, xs, h1, own_putP h2 hg hne, h3⟩
theorem CmdRows.overS {w w' : World} {S : Nat → Prop} {ys : List Value} {ns : List Nat} {u : Value} {n : Nat} {z z' : List Value} (h : CmdRows w S ys ns) (h0 : w.ownsRow 0 9 1 u n z) (h1 : w'.ownsRow 0 9 1 u n z') (hg : w.grownBy w' u.ownBlock) : CmdRows w' S ys ns := fun i hi => by
  obtain ⟨u', xs', a1, a2, a3⟩ := h i hi
  obtain ⟨zs', a4⟩ := owns_over a2 h0 h1 hg (by omega)
  exact ⟨u', zs', a1, a4, a3⟩
theorem CmdRows.overN {w w' : World} {S : Nat → Prop} {ys : List Value} {ns : List Nat} {u : Value} {n : Nat} {z : List Value} (h : CmdRows w S ys ns) (h0 : w.ownsRow 0 125 2 u n z) (hg : w.grownBy w' u.ownBlock) : CmdRows w' S ys ns := fun i hi => by
  obtain ⟨u', xs', a1, a2, a3⟩ := h i hi
  exact ⟨u', xs', a1, a2.kept hg (owns_apart a2 h0 (by decide)), a3⟩
/-- The rows of a row of packs: each may be written. -/
def PackRows (w : World) (S : Nat → Prop) (ys : List Value) (xs : List PackD) : Prop := ∀ i (h : i < xs.length), ∃ u0 u1 u2 z0 z1 z2, ys[i * 4 + 1]? = some u0 ∧ ys[i * 4 + 2]? = some u1 ∧ ys[i * 4 + 3]? = some u2 ∧ w.ownsRow 0 9 1 u0 xs[i].uses.length z0 ∧ (∀ g, u0.ownBlock = some g → S g) ∧ w.ownsRow 0 125 2 u1 xs[i].needs.length z1 ∧ (∀ g, u1.ownBlock = some g → S g) ∧ w.ownsRow 0 114 2 u2 xs[i].cmds.length z2 ∧ (∀ g, u2.ownBlock = some g → S g) ∧ CmdRows w S z2 (xs[i].cmds.map fun c => c.acts.length)
theorem PackRows.set {w : World} {S : Nat → Prop} {ys : List Value} {xs : List PackD} (h : PackRows w S ys xs) (i : Nat) (v : Value) : PackRows w S (ys.set (i * 4) v) xs := fun j hj => by
  obtain ⟨u0, u1, u2, z0, z1, z2, h1, h2, h3, h4⟩ := h j hj
  exact ⟨u0, u1, u2, z0, z1, z2, by rw [List.getElem?_set_ne (by omega)]; exact h1, by rw [List.getElem?_set_ne (by omega)]; exact h2, by rw [List.getElem?_set_ne (by omega)]; exact h3, h4⟩
theorem owns_belowP {w w' : World} {lo sz n : Nat} {e : TypeId} {u : Value} {zs : List Value} (h : w.ownsRow lo e sz u n zs) (hb : Below w.heap.size w w') : w'.ownsRow lo e sz u n zs := owns_kept (S := fun b => b < w.heap.size) (.of hb (fun b h => h)) (fun g hg => (owns_in h g hg).2) h
theorem PackRows.below {w w' : World} {S : Nat → Prop} {ys : List Value} {xs : List PackD} (h : PackRows w S ys xs) (hb : Below w.heap.size w w') : PackRows w' S ys xs := fun j hj => by
  obtain ⟨u0, u1, u2, z0, z1, z2, h1, h2, h3, a0, i0, a1, i1, a2, i2, c⟩ := h j hj
  exact ⟨u0, u1, u2, z0, z1, z2, h1, h2, h3, owns_belowP a0 hb, i0, owns_belowP a1 hb, i1, owns_belowP a2 hb, i2, c.below hb⟩
theorem PackRows.store {w : World} {S : Nat → Prop} {ys : List Value} {xs : List PackD} {g j n cap : Nat} {zs : List Value} {x : Value} (h : PackRows w S ys xs) (hg : w.ownsRow 0 33 4 (.slice (some ⟨g, 0, none⟩) n cap) n zs) : PackRows (w.setCell ⟨g, j, none⟩ x) S ys xs := fun i hi => by
  obtain ⟨u0, u1, u2, z0, z1, z2, h1, h2, h3, a0, i0, a1, i1, a2, i2, c⟩ := h i hi
  exact ⟨u0, u1, u2, z0, z1, z2, h1, h2, h3, own_putP a0 hg (by decide), i0, own_putP a1 hg (by decide), i1, own_putP a2 hg (by decide), i2, c.put hg (by decide)⟩
theorem PackRows.cmd {w : World} {S : Nat → Prop} {ys : List Value} {xs : List PackD} {g i n cap : Nat} {zs : List Value} {x : ByteArray} (h : PackRows w S ys xs) (hg : w.ownsRow 0 114 2 (.slice (some ⟨g, 0, none⟩) n cap) n zs) : PackRows (w.setCell ⟨g, i * 2, none⟩ (.string x)) S ys xs := fun j hj => by
  obtain ⟨u0, u1, u2, z0, z1, z2, h1, h2, h3, a0, i0, a1, i1, a2, i2, c⟩ := h j hj
  obtain ⟨z3, a3, hz⟩ := owns_setAny a2 g (i * 2) (.string x)
  refine ⟨u0, u1, u2, z0, z1, z3, h1, h2, h3, own_putP a0 hg (by decide), i0, own_putP a1 hg (by decide), i1, a3, i2, ?_⟩
  rcases hz with rfl | rfl
  · exact c.store hg
  · exact (c.store hg).set0 i _
theorem PackRows.overS {w w' : World} {S : Nat → Prop} {ys : List Value} {xs : List PackD} {u : Value} {n : Nat} {z z' : List Value} (h : PackRows w S ys xs) (h0 : w.ownsRow 0 9 1 u n z) (h1 : w'.ownsRow 0 9 1 u n z') (hg : w.grownBy w' u.ownBlock) : PackRows w' S ys xs := fun i hi => by
  obtain ⟨u0, u1, u2, z0, z1, z2, e1, e2, e3, a0, i0, a1, i1, a2, i2, c⟩ := h i hi
  obtain ⟨z9, a9⟩ := owns_over a0 h0 h1 hg (by omega)
  exact ⟨u0, u1, u2, z9, z1, z2, e1, e2, e3, a9, i0, a1.kept hg (owns_apart a1 h0 (by decide)), i1, a2.kept hg (owns_apart a2 h0 (by decide)), i2, c.overS h0 h1 hg⟩
theorem PackRows.overN {w w' : World} {S : Nat → Prop} {ys : List Value} {xs : List PackD} {u : Value} {n : Nat} {z z' : List Value} (h : PackRows w S ys xs) (h0 : w.ownsRow 0 125 2 u n z) (h1 : w'.ownsRow 0 125 2 u n z') (hg : w.grownBy w' u.ownBlock) : PackRows w' S ys xs := fun i hi => by
  obtain ⟨u0, u1, u2, z0, z1, z2, e1, e2, e3, a0, i0, a1, i1, a2, i2, c⟩ := h i hi
  obtain ⟨z9, a9⟩ := owns_over a1 h0 h1 hg (by omega)
  exact ⟨u0, u1, u2, z0, z9, z2, e1, e2, e3, a0.kept hg (owns_apart a0 h0 (by decide)), i0, a9, i1, a2.kept hg (owns_apart a2 h0 (by decide)), i2, c.overN h0 hg⟩
theorem packRows_of {S : Nat → Prop} {w : World} {ys : List Value} {xs : List PackD} (h : Laid shPackO S w ys xs xs.length) : PackRows w S ys xs := fun i hi => by
  obtain ⟨cs, h1, ⟨u0, u1, u2, rfl, _, r0, _, r1, r2⟩, h4⟩ := h i hi hi
  obtain ⟨_, y1, o1, in1, _⟩ := r1
  obtain ⟨_, y2, o2, in2, la2⟩ := r2
  exact ⟨u0, u1, u2, _, _, _, h4 1 (by simp), h4 2 (by simp), h4 3 (by simp), r0.1, r0.2, o1, in1, o2, in2, cmdRows_of la2⟩
/-- A row of packs, and the rows in it. -/
def InPack (S : Nat → Prop) (v : Value) (ys : List Value) (xs : List PackD) (w : World) : Prop := w.ownsRow 0 33 4 v xs.length ys ∧ PackRows w S ys xs
theorem inPack_inv (S : Nat → Prop) (v : Value) (ys : List Value) (xs : List PackD) : InvC (InPack S v ys xs) where
  below w w' h hb := ⟨owns_belowP h.1 hb, h.2.below hb⟩
  cmd w g i n cap zs x h hg := ⟨own_putP h.1 hg (by decide), h.2.cmd hg⟩
  strs w w' u n z z' h h0 h1 hg := ⟨h.1.kept hg (owns_apart h.1 h0 (by decide)), h.2.overS h0 h1 hg⟩
def cntK (d : PackD) : Nat := 1 + d.uses.length + d.needs.length * 2 + ((d.cmds.map fun c => c.acts.length).length + (d.cmds.map fun c => c.acts.length).sum)
def cntKs (xs : List PackD) : Nat := (xs.map cntK).sum
theorem cntKs_take (xs : List PackD) (i : Nat) (h : i < xs.length) : cntKs (xs.take (i + 1)) = cntKs (xs.take i) + cntK xs[i] := by
  unfold cntKs
  rw [List.take_succ_eq_append_getElem h, List.map_append, List.sum_append]; simp
theorem cntKs_le (xs : List PackD) (i : Nat) : cntKs (xs.take i) ≤ cntKs xs := by
  unfold cntKs
  conv => rhs; rw [← List.take_append_drop i xs, List.map_append, List.sum_append]
  omega
theorem cntK_wt (d : PackD) : cntK d ≤ 4 * (1 + wtPack d) := by
  have h1 := len_wtRow wtNeed d.needs
  have h2 := cmds_sum d.cmds
  unfold cntK wtPack bulkS
  omega
theorem cntKs_wt : ∀ xs : List PackD, cntKs xs ≤ 4 * wtRow wtPack xs
  | [] => by simp [cntKs]
  | d :: xs => by
    have h1 := cntKs_wt xs
    have h2 := cntK_wt d
    have e1 : cntKs (d :: xs) = cntK d + cntKs xs := by simp [cntKs]
    have e2 : wtRow wtPack (d :: xs) = (1 + wtPack d) + wtRow wtPack xs := by simp [wtRow]
    omega

end Go.Proofs.Ytkkhnldhipfneaa

/-! Marks put into rows of lists of texts, as the law puts them: a contract for the walks; conditions: the rows lie in memory, may be written, and there are at most 2 to the 32 marks. -/
namespace Go.Proofs.Ytkkhnldhipfneaa
open Go.RowKit
set_option linter.unusedSimpArgs false
set_option linter.unusedVariables false

/-- The lists of a row: each may be written. -/
def SsRows (w : World) (S : Nat → Prop) (ys : List Value) (xs : List StringSD) : Prop := ∀ i (h : i < xs.length), ∃ u z, ys[i]? = some u ∧ w.ownsRow 0 9 1 u xs[i].length z ∧ (∀ g, u.ownBlock = some g → S g)
theorem SsRows.overS {w w' : World} {S : Nat → Prop} {ys : List Value} {xs : List StringSD} {u : Value} {n : Nat} {z z' : List Value} (h : SsRows w S ys xs) (h0 : w.ownsRow 0 9 1 u n z) (h1 : w'.ownsRow 0 9 1 u n z') (hg : w.grownBy w' u.ownBlock) : SsRows w' S ys xs := fun i hi => by
  obtain ⟨u0, z0, a1, a3, a4⟩ := h i hi
  obtain ⟨z2, a7⟩ := owns_over a3 h0 h1 hg (by omega)
  exact ⟨u0, z2, a1, a7, a4⟩
theorem ssRows_of {S : Nat → Prop} {w : World} {ys : List Value} {xs : List StringSD} (h : Laid shStringSO S w ys xs xs.length) : SsRows w S ys xs := fun i hi => by
  obtain ⟨cs, _, ⟨u0, rfl, a0, _⟩, h4⟩ := h i hi hi
  have h5 := h4 0 (by simp)
  simp only [shStringSO, Nat.mul_one, Nat.add_zero, List.getElem_cons_zero] at h5
  exact ⟨u0, _, h5, a0.1, a0.2⟩
/-- A row of lists that may be written, whatever texts they hold. -/
def RowOwnM (w : World) (S : Nat → Prop) (v : Value) (xs : List StringSD) : Prop := ∃ zs, w.ownsRow 0 26 1 v xs.length zs ∧ (∀ g, v.ownBlock = some g → S g) ∧ SsRows w S zs xs
theorem rowOwnM_of {w : World} {S : Nat → Prop} {v : Value} {xs : List StringSD} (h : RowOwn shStringSO 26 S w v xs) : RowOwnM w S v xs := by
  obtain ⟨_, zs, hv, hg, hld⟩ := h
  exact ⟨zs, hv, hg, ssRows_of hld⟩
def cntSs (xs : List StringSD) : Nat := (xs.map List.length).sum
theorem cntSs_take (xs : List StringSD) (i : Nat) (h : i < xs.length) : cntSs (xs.take (i + 1)) = cntSs (xs.take i) + xs[i].length := by
  unfold cntSs
  rw [List.take_succ_eq_append_getElem h, List.map_append, List.sum_append]; simp
theorem cntSs_le (xs : List StringSD) (i : Nat) : cntSs (xs.take i) ≤ cntSs xs := by
  unfold cntSs
  conv => rhs; rw [← List.take_append_drop i xs, List.map_append, List.sum_append]
  omega
theorem cntSs_wt : ∀ xs : List StringSD, cntSs xs ≤ wtRow wtStringS xs
  | [] => by simp [cntSs]
  | d :: xs => by
    have h1 := cntSs_wt xs
    have e1 : cntSs (d :: xs) = d.length + cntSs xs := by simp [cntSs]
    have e2 : wtRow wtStringS (d :: xs) = (1 + wtStringS d) + wtRow wtStringS xs := by simp [wtRow]
    have e3 : d.length ≤ wtStringS d := by unfold wtStringS bulkS; omega
    omega

set_option maxHeartbeats 8000000 in
set_option maxRecDepth 100000 in
theorem markSsM_c (S : Nat → Prop) (v : Value) (xs : List StringSD) (k : Nat) (w : World) (hv : RowOwnM w S v xs) (h1 : 1 ≤ k) (h2 : k + cntSs xs ≤ 4294967296) :
    Calls Try.prog 69 #[v, .int .i64 (k : Int)] w fun e w' => e = .returned (.int .i64 ((k + cntSs xs : Nat) : Int)) ∧ Chg S w w' := by
  obtain ⟨zs, hv, hg, hr⟩ := hv
  rcases id hv.2 with ⟨rfl, hn0⟩ | ⟨g, cap, cur, rfl, _, hgb, hcap, hmax, _⟩
  · have hns : xs = [] := List.eq_nil_of_length_eq_zero hn0
    subst hns
    clear hv hg hr
    go_enter Try.func69, Try.ntmps69
    go_wp2_with fail
    go_loopw [1, 5] (fun vk vi wr => vk = .int .i64 (k : Int) ∧ vi = .int .i64 0 ∧ wr = w) (fun _ _ _ => 0)
    case atStart => exact ⟨rfl, rfl, rfl⟩
    case round =>
      obtain ⟨rfl, rfl, rfl⟩ := hrel
      go_wp2_with fail
      go_ret
      exact ⟨by simp [cntSs], Chg.refl _ _⟩
  · have hSg := hg g rfl
    unfold maxLen at hmax
    clear hgb hg
    go_enter Try.func69, Try.ntmps69
    go_wp2_with fail
    go_loopw [1, 5] (fun vk vi wr => ∃ (i m : Nat), i ≤ xs.length ∧ vi = .int .i64 (i : Int) ∧ vk = .int .i64 (m : Int) ∧ Hid (m = k + cntSs (xs.take i)) ∧ wr.ownsRow 0 26 1 (.slice (some ⟨g, 0, none⟩) xs.length cap) xs.length zs ∧ Hid (SsRows wr S zs xs) ∧ Chg S w wr) (fun _ vi _ => xs.length - (intOf vi).toNat)
    case atStart => exact ⟨0, k, Nat.zero_le _, rfl, rfl, by show _ = _; simp [cntSs], hv, hr, Chg.refl _ _⟩
    case round =>
      obtain ⟨i, m, hi, rfl, rfl, hm, hown, hrr, hchg⟩ := hrel
      by_cases hlt : i < xs.length
      · have hlen := hown.1
        have hts := cntSs_take xs i hlt
        have htl := cntSs_le xs (i + 1)
        obtain ⟨P, hP⟩ : ∃ P, P = xs[i].length := ⟨_, rfl⟩
        rw [← hP] at hts
        have HTS : Hid (cntSs (xs.take (i + 1)) = cntSs (xs.take i) + P ∧ cntSs (xs.take (i + 1)) ≤ cntSs xs) := ⟨hts, htl⟩
        have HP := hidden hP
        have hm2 : m + P ≤ 4294967296 := by have := hm.out; omega
        have hm1 : 1 ≤ m := by have := hm.out; omega
        obtain ⟨K1, hK1⟩ : ∃ K, K = m + P := ⟨_, rfl⟩
        have hKb : K1 ≤ 4294967296 := by omega
        have hki : (i : Int) < (xs.length : Int) := by omega
        have HO := hidden hown
        obtain ⟨u0, z0, hu1, hu3, hu4⟩ := hrr.out i hlt
        rw [← hP] at hu3
        have HN1 : Calls Try.prog 30 #[u0, .int .i64 (m : Int)] wr fun e w' => e = .returned (.int .i64 (K1 : Int)) ∧ (∃ z', w'.ownsRow 0 9 1 u0 P z') ∧ wr.grownBy w' u0.ownBlock := by
          have h9 := markStrs_c u0 0 P z0 m wr hu3 hm1 (by omega) (by omega) (Nat.zero_le _)
          rw [show (m : Int) + (P : Int) = (K1 : Int) by omega] at h9
          exact h9.mono fun e w' ⟨a, b, c⟩ => ⟨a, ⟨_, b⟩, c⟩
        have d1 : wr.cell? ⟨g, i, none⟩ = some u0 := by
          rw [hown.cellAt _ (by omega)]
          exact hu1
        obtain ⟨qu, cu, eu⟩ := owns_sliceP hu3
        subst eu
        have HMS := hidden HN1
        have HU2 := hidden hu3
        have HU4 := hidden hu4
        have HKK : Hid (K1 = m + P) := hK1
        clear hown hv hr hts htl hP hK1 hu1 hu3 hu4 HN1 hlen
        go_wp2_with fail
        go_at_call 30
        refine HMS.out.mono ?_
        rintro e w2 ⟨rfl, ⟨z9, y2⟩, g2⟩
        have r3 := HO.out.kept g2 (owns_apart HO.out HU2.out (by decide))
        have q6 := hrr.out.overS HU2.out y2 g2
        have HCH2 := hidden (Chg.grown g2 HU4.out)
        clear y2 g2 HMS HU2 HU4 d1
        go_wp2_with fail
        go_roundw
        case rel => exact ⟨i + 1, K1, by omega, by go_num, rfl, (by show _ = _; have := hm.out; have := HTS.out; have := HKK.out; omega), r3, q6, hchg.trans HCH2.out⟩
        case measure => simp [intOf]; omega
      · have he : i = xs.length := by omega
        subst he
        have hmm : m = k + cntSs xs := by have := hm.out; rw [List.take_length] at this; exact this
        have HMM := hidden hmm
        clear hown hv hr hrr hmm
        go_wp2_with fail
        go_ret
        exact ⟨by rw [← HMM.out]; rfl, hchg⟩
end Go.Proofs.Ytkkhnldhipfneaa

/-! A plan in memory, as the laws take and copy it: contracts restated for the laws' walks; condition: it holds at most 2 to the 20. -/
namespace Go.Proofs.Ytkkhnldhipfneaa
open Go.RowKit
set_option linter.unusedSimpArgs false
set_option linter.unusedVariables false

theorem box_staysP {w w' : World} {b : Nat} {o : Obj} (h : w.heap[b]? = some o) (k : Below w.heap.size w w') : w'.heap[b]? = some o := (k.block b (Array.getElem?_eq_some_iff.1 h).1).trans h
theorem cells2P {w : World} {g : Nat} {a b : Value} {t : TypeId} (h : w.heap[g]? = some (.cells #[a, b] t (0, 0))) : w.cell? ⟨g, 0, none⟩ = some a ∧ w.cell? ⟨g, 1, none⟩ = some b := ⟨vblk_cell h 0, vblk_cell h 1⟩
theorem plan_cells {S : Nat → Prop} {w : World} {cs : List Value} {d : PlanD} (h : shPlan.lies S w cs d) : ∃ x0 y0 x1 y1, cs = [.slice x0 d.tasks.length y0, .slice x1 d.deps.length y1] := by
  obtain ⟨u0, u1, rfl, r0, _, r1⟩ := h
  obtain ⟨a0, c0, e0, _⟩ := r0
  rw [length_strsV] at e0
  obtain ⟨a1, c1, e1, _⟩ := r1
  exact ⟨a0, c0, a1, c1, by rw [e0, e1]⟩
/-- A copy of a plan, in blocks from lo on, below hi. -/
def PlanL (lo hi : Nat) (W : World) (a : Option Addr) (c : Nat) (b : Option Addr) (e : Nat) (d : PlanD) : Prop := shPlanO.lies (Ow lo hi) W [.slice a d.tasks.length c, .slice b d.deps.length e] d ∧ hi ≤ W.heap.size
theorem PlanL.below {lo hi : Nat} {W W' : World} {a b : Option Addr} {c e : Nat} {d : PlanD} (h : PlanL lo hi W a c b e d) (k : Below W.heap.size W W') : PlanL lo hi W' a c b e d :=
  ⟨shPlanO.keep (Kp.of k (fun g hg => Nat.lt_of_lt_of_le hg.2 h.2)) h.1, Nat.le_trans h.2 k.size⟩
theorem PlanL.lt {lo hi : Nat} {W : World} {a b : Option Addr} {c e : Nat} {d : PlanD} (h : PlanL lo hi W a c b e d) : ∀ g, Ow lo hi g → g < W.heap.size := fun g hg => Nat.lt_of_lt_of_le hg.2 h.2
theorem toPlanL (S : Nat → Prop) (a b : Option Addr) (c e : Nat) (d : PlanD) (w : World) (h : shPlan.lies S w [.slice a d.tasks.length c, .slice b d.deps.length e] d) (hB : ∀ g, S g → g < w.heap.size) (hw : wtPlan d ≤ 1048576) :
    Calls Try.prog 23 #[.agg #[.slice a d.tasks.length c, .slice b d.deps.length e]] w fun r w' => ∃ p0 q0 p1 q1, r = .returned (.agg #[.slice p0 d.tasks.length q0, .slice p1 d.deps.length q1]) ∧ PlanL w.heap.size w'.heap.size w' p0 q0 p1 q1 d ∧ Below w.heap.size w w' := by
  refine (toPlan_c S d _ w h hB hw).mono ?_
  rintro r w' ⟨cs', rfl, hl, k⟩
  obtain ⟨p0, q0, p1, q1, rfl⟩ := plan_cells (liesPlan_plain hl)
  exact ⟨p0, q0, p1, q1, rfl, ⟨hl, Nat.le_refl _⟩, k⟩
theorem eqPlanL {lo hi lo' hi' : Nat} {a b a' b' : Option Addr} {c e c' e' : Nat} {d : PlanD} (w : World) (h : PlanL lo hi w a c b e d) (h' : PlanL lo' hi' w a' c' b' e' d) (hw : wtPlan d ≤ 1048576) :
    Calls Try.prog 25 #[.agg #[.slice a d.tasks.length c, .slice b d.deps.length e], .agg #[.slice a' d.tasks.length c', .slice b' d.deps.length e']] w fun r w' => r = .returned (.bool true) ∧ Below w.heap.size w w' :=
  eqPlan_c _ _ d _ _ w (liesPlan_plain h.1) (liesPlan_plain h'.1) h.lt h'.lt hw
theorem lens_plan {d : PlanD} (hw : wtPlan d ≤ 1048576) : d.tasks.length + cntSs d.deps ≤ 1048576 := by
  have h1 := cntSs_wt d.deps
  unfold wtPlan at hw
  have h2 : d.tasks.length ≤ bulkS d.tasks := by unfold bulkS; omega
  omega

set_option maxHeartbeats 4000000 in
set_option maxRecDepth 100000 in
theorem markPlanL {lo hi : Nat} {a b : Option Addr} {c e : Nat} {d : PlanD} (w : World) (h : PlanL lo hi w a c b e d) (hw : wtPlan d ≤ 1048576) :
    Calls Try.prog 29 #[.agg #[.slice a d.tasks.length c, .slice b d.deps.length e], .int .i64 1] w fun r w' => ∃ q : Nat, r = .returned (.int .i64 (q : Int)) ∧ Chg (Ow lo hi) w w' := by
  obtain ⟨⟨u0, u1, he, r0, p0, r1⟩, hlt⟩ := h
  simp only [List.cons.injEq, and_true] at he
  obtain ⟨rfl, rfl⟩ := he
  have hl := lens_plan hw
  have hbx : ∀ o, Below w.heap.size w (w.alloc o) := fun o => (Below.refl _ _).alloc (Nat.le_refl _) _
  obtain ⟨K1, hK1⟩ : ∃ K, K = 1 + d.tasks.length := ⟨_, rfl⟩
  have H0 : Hid (∀ W, Below w.heap.size w W → Calls Try.prog 30 #[.slice a d.tasks.length c, .int .i64 1] W fun e w' => e = .returned (.int .i64 (K1 : Int)) ∧ (∃ z', w'.ownsRow 0 9 1 (.slice a d.tasks.length c) d.tasks.length z') ∧ W.grownBy w' (Value.slice a d.tasks.length c).ownBlock) := fun W k => by
    have h9 := markStrs_c _ 0 d.tasks.length _ 1 W (owns_of_belowN r0.1 k) (Nat.le_refl _) (by omega) (by omega) (Nat.zero_le _)
    rw [show ((1 : Nat) : Int) + (d.tasks.length : Int) = (K1 : Int) by omega] at h9
    exact h9.mono fun e w' ⟨a, b, c⟩ => ⟨a, ⟨_, b⟩, c⟩
  have H1 : Hid (∀ W, RowOwnM W (Ow lo hi) (.slice b d.deps.length e) d.deps → Calls Try.prog 69 #[.slice b d.deps.length e, .int .i64 (K1 : Int)] W fun e w' => (∃ q : Nat, e = .returned (.int .i64 (q : Int))) ∧ Chg (Ow lo hi) W w') := fun W hr => by
    refine (markSsM_c _ _ d.deps K1 W hr (by omega) (by omega)).mono ?_
    rintro e w' ⟨rfl, k⟩
    exact ⟨⟨_, rfl⟩, k⟩
  have HM : Hid (∀ W W', Below w.heap.size w W → W.grownBy W' (Value.slice a d.tasks.length c).ownBlock → (∃ z', W'.ownsRow 0 9 1 (.slice a d.tasks.length c) d.tasks.length z') → RowOwnM W' (Ow lo hi) (.slice b d.deps.length e) d.deps) := fun W W' k g hz => by
    obtain ⟨z', hz'⟩ := hz
    obtain ⟨zs, hv, hg, hr⟩ := rowOwnM_of r1
    have hv2 := owns_of_belowN hv k
    have h0 := owns_of_belowN r0.1 k
    have hr2 : SsRows W (Ow lo hi) zs d.deps := fun i hi => by
      obtain ⟨u0, z0, a1, a3, a4⟩ := hr i hi
      exact ⟨u0, z0, a1, owns_of_belowN a3 k, a4⟩
    exact ⟨zs, hv2.kept g (owns_apart hv2 h0 (by decide)), hg, hr2.overS h0 hz' g⟩
  have HG : Hid (∀ g, (Value.slice a d.tasks.length c).ownBlock = some g → Ow lo hi g) := r0.2
  obtain ⟨n, hn⟩ : ∃ n, n = d.tasks.length := ⟨_, rfl⟩
  obtain ⟨m, hm⟩ : ∃ n, n = d.deps.length := ⟨_, rfl⟩
  rw [← hn] at H0 HM HG
  rw [← hm] at H1 HM
  rw [← hn, ← hm]
  have hA0 : (w.alloc (.cells #[.slice a n c, .slice b m e] 47 (0, 0))).heap[w.heap.size]? = some (.cells #[.slice a n c, .slice b m e] 47 (0, 0)) := vheap_new _ _
  have hlo : w.heap.size < (w.alloc (.cells #[.slice a n c, .slice b m e] 47 (0, 0))).heap.size := by simp
  have HLT := hidden hlt
  clear r0 r1 p0 hK1 hl hw hn hm hlt
  go_enter Try.func29, Try.ntmps29
  go_wp2_with fail
  go_at_call 30
  refine (H0.out _ (hbx _)).mono ?_
  rintro e w1 ⟨rfl, hz, g1⟩
  have hA1 := (g1.block w.heap.size hlo (fun e => by have h1 := (HG.out _ e.symm).2; have := HLT.out; omega)).trans hA0
  have hM1 := HM.out _ _ (hbx _) g1 hz
  have hC1 := (Chg.of (S := Ow lo hi) (hbx (.cells #[.slice a n c, .slice b m e] 47 (0, 0)))).trans (Chg.grown g1 HG.out)
  obtain ⟨x0, x1⟩ := cells2P hA1
  have HM1 := hidden hM1
  have HC1 := hidden hC1
  clear hM1 hC1 hz g1 hA0 H0 HM
  go_wp2_with fail
  go_at_call 69
  refine (H1.out _ HM1.out).mono ?_
  rintro e w2 ⟨⟨q, rfl⟩, ch⟩
  have HF := hidden (HC1.out.trans ch)
  clear ch HC1 HM1 hA1 x0 x1
  go_wp2_with fail
  go_ret
  exact ⟨q, rfl, HF.out⟩
end Go.Proofs.Ytkkhnldhipfneaa

/-! What the library's Cut answers where a text is cut at one byte: contracts for the walks; condition: the text has at most 2 to the 20 bytes. -/
namespace Go.Proofs.Ytkkhnldhipfneaa
open Go.RowKit
set_option linter.unusedSimpArgs false
set_option linter.unusedVariables false

/-- A text cut at the first place of a byte. -/
def cutD (s : ByteArray) (c : UInt8) : ByteArray × ByteArray × Bool := if Lib.indexByte s.data.toList c = -1 then (s, ⟨#[]⟩, false) else (s.extract 0 (Lib.indexByte s.data.toList c).toNat, s.extract ((Lib.indexByte s.data.toList c).toNat + 1) s.size, true)
theorem cutD_none {s : ByteArray} {c : UInt8} (h : Lib.indexByte s.data.toList c = -1) : cutD s c = (s, ⟨#[]⟩, false) := by unfold cutD; rw [if_pos h]
theorem cutD_some {s : ByteArray} {c : UInt8} {k : Nat} (h : Lib.indexByte s.data.toList c = (k : Int)) : cutD s c = (s.extract 0 k, s.extract (k + 1) s.size, true) := by
  unfold cutD
  rw [if_neg (by omega), h]
  rfl
theorem index_lt {s : ByteArray} {c : UInt8} {k : Nat} (h : Lib.indexByte s.data.toList c = (k : Int)) : k < s.size := by
  have h1 := (Lib.indexByte_some h).1
  have h2 := (List.getElem?_eq_some_iff.1 h1).1
  have h3 : s.data.toList.length = s.size := by rw [Array.length_toList]; rfl
  omega

set_option maxHeartbeats 8000000 in
set_option maxRecDepth 100000 in
theorem index35_c (s : ByteArray) (w : World) (hs : s.size ≤ 1048576) :
    Calls Try.prog 104 #[.string s, .string ⟨#[35]⟩] w fun e w' => e = .returned (.int .i64 (Lib.indexByte s.data.toList 35)) ∧ w = w' := by
  by_cases he : s = ⟨#[35]⟩
  · subst he
    go_enter Try.func104, Try.ntmps104
    go_wp2
    go_ret
    exact ⟨rfl, rfl⟩
  · have hne : ((⟨#[35]⟩ : ByteArray).toList == s.toList) = false := by
      rw [beq_eq_false_iff_ne]
      intro h
      have h2 : [35] = s.data.toList := by simpa [ByteArray.toList_eq] using h
      exact he (ByteArray.ext (Array.toList_inj.1 h2.symm))
    have e7 : (⟨#[35]⟩ : ByteArray).toList = [35] := by simp [ByteArray.toList_eq]
    have hne2 : ([35] == s.toList) = false := by rw [e7] at hne; exact hne
    clear e7
    have HI := hidden (Try.stringslite_IndexByte s 35)
    have hu : (35 : Int).toNat.toUInt8 = 35 := rfl
    rw [hu] at HI
    go_enter Try.func104, Try.ntmps104
    go_wp2_with (go_at_call 119; refine (HI.out _).mono ?_; rintro e w' ⟨rfl, rfl⟩)
    go_ret
    exact ⟨rfl, rfl⟩

set_option maxHeartbeats 8000000 in
set_option maxRecDepth 100000 in
theorem cutS35_c (s : ByteArray) (w : World) (hs : s.size ≤ 1048576) :
    Calls Try.prog 86 #[.string s, .string ⟨#[35]⟩] w fun e w' => e = .returned (.tuple #[.string (cutD s 35).1, .string (cutD s 35).2.1, .bool (cutD s 35).2.2]) ∧ Below w.heap.size w w' := by
  have HI := hidden (fun w1 => index35_c s w1 hs)
  by_cases hm : Lib.indexByte s.data.toList 35 = -1
  · rw [hm] at HI
    rw [cutD_none hm]
    clear hm
    go_enter Try.func86, Try.ntmps86
    go_wp2_with (go_at_call 104; refine (HI.out _).mono ?_; rintro e w' ⟨rfl, rfl⟩)
    go_ret3
    exact ⟨rfl, Below.refl _ _⟩
  · have hge := Lib.indexByte_ge s.data.toList 35
    obtain ⟨k, hk⟩ := Int.eq_ofNat_of_zero_le (show 0 ≤ Lib.indexByte s.data.toList 35 by omega)
    have hlt := index_lt hk
    rw [hk] at HI
    rw [cutD_some hk]
    have h0 : (0 : Int) ≤ (k : Int) := by omega
    have h1 : (k : Int) ≤ (s.size : Int) := by omega
    have h2 : (k : Int) + 1 ≤ (s.size : Int) := by omega
    have h3 : (0 : Int) ≤ (k : Int) + 1 := by omega
    have hwr : IntKind.i64.wrap ((k : Int) + 1) = (k : Int) + 1 := IntWalk.i64_in _ ⟨by omega, by omega⟩
    have htn : ((k : Int) + 1).toNat = k + 1 := by omega
    clear hm hk hge
    go_enter Try.func86, Try.ntmps86
    go_wp2_with (go_at_call 104; refine (HI.out _).mono ?_; rintro e w' ⟨rfl, rfl⟩)
    refine wp_region_held_drew (S := (fun _ => True)) (by kernel_rfl) ?SR30 (fun hHeld => ?_)
    case SR30 => (exact True.intro)
    refine wpAnyH_take (i := 0) (oi := _) (v := ?vR30) rfl (by kernel_rfl) (by kernel_rfl) (by kernel_rfl) (fun _ _ _ h => h) (Or.inl ⟨by rfl, ?yR30⟩) hHeld ?_
    case yR30 => (intro w hSw; (try dsimp only at hSw); go_simp <;> with_reducible rfl)
    try simp only [Act.put, List.getElem_toArray, List.getElem_cons_zero, List.getElem_cons_succ, List.setIfInBounds_toArray, List.set_cons_zero, List.set_cons_succ]
    refine wpAnyH_take (i := 1) (oi := _) (v := ?vR31) rfl (by kernel_rfl) (by kernel_rfl) (by kernel_rfl) (fun _ _ _ h => h) (Or.inl ⟨by rfl, ?yR31⟩) hHeld ?_
    case yR31 => (intro w hSw; (try dsimp only at hSw); go_simp <;> with_reducible rfl)
    try simp only [Act.put, List.getElem_toArray, List.getElem_cons_zero, List.getElem_cons_succ, List.setIfInBounds_toArray, List.set_cons_zero, List.set_cons_succ]
    refine wpAnyH_take (i := 2) (oi := _) (v := ?vR32) rfl (by kernel_rfl) (by kernel_rfl) (by kernel_rfl) (fun _ _ _ h => h) (Or.inl ⟨by rfl, ?yR32⟩) hHeld ?_
    case yR32 => (intro w hSw; (try dsimp only at hSw); go_simp <;> with_reducible rfl)
    try simp only [Act.put, List.getElem_toArray, List.getElem_cons_zero, List.getElem_cons_succ, List.setIfInBounds_toArray, List.set_cons_zero, List.set_cons_succ]
    refine wpAnyH_take (i := 3) (oi := _) (v := ?vR33) rfl (by kernel_rfl) (by kernel_rfl) (by kernel_rfl) (fun _ _ _ h => h) (Or.inl ⟨by rfl, ?yR33⟩) hHeld ?_
    case yR33 => (intro w hSw; (try dsimp only at hSw); go_simp <;> with_reducible rfl)
    try simp only [Act.put, List.getElem_toArray, List.getElem_cons_zero, List.getElem_cons_succ, List.setIfInBounds_toArray, List.set_cons_zero, List.set_cons_succ]
    refine wpAnyH_take (i := 4) (oi := _) (v := ?vR34) rfl (by kernel_rfl) (by kernel_rfl) (by kernel_rfl) (fun _ _ _ h => h) (Or.inl ⟨by rfl, ?yR34⟩) hHeld ?_
    case yR34 => (intro w hSw; (try dsimp only at hSw); go_simp <;> with_reducible rfl)
    try simp only [Act.put, List.getElem_toArray, List.getElem_cons_zero, List.getElem_cons_succ, List.setIfInBounds_toArray, List.set_cons_zero, List.set_cons_succ]
    refine wpAnyH_take (i := 5) (oi := _) (v := ?vR35) rfl (by kernel_rfl) (by kernel_rfl) (by kernel_rfl) (fun _ _ _ h => h) (Or.inl ⟨by rfl, ?yR35⟩) hHeld ?_
    case yR35 => (intro w hSw; (try dsimp only at hSw); go_simp <;> with_reducible rfl)
    try simp only [Act.put, List.getElem_toArray, List.getElem_cons_zero, List.getElem_cons_succ, List.setIfInBounds_toArray, List.set_cons_zero, List.set_cons_succ]
    refine wpAnyH_take (i := 6) (oi := _) (v := ?vR36) rfl (by kernel_rfl) (by kernel_rfl) (by kernel_rfl) (fun _ _ _ h => h) (Or.inl ⟨by rfl, ?yR36⟩) hHeld ?_
    case yR36 => (intro w hSw; (try dsimp only at hSw); go_simp <;> with_reducible rfl)
    try simp only [Act.put, List.getElem_toArray, List.getElem_cons_zero, List.getElem_cons_succ, List.setIfInBounds_toArray, List.set_cons_zero, List.set_cons_succ]
    refine wpAnyH_take (i := 7) (oi := _) (v := ?vR37) rfl (by kernel_rfl) (by kernel_rfl) (by kernel_rfl) (fun _ _ _ h => h) (Or.inl ⟨by rfl, ?yR37⟩) hHeld ?_
    case yR37 => (intro w hSw; (try dsimp only at hSw); go_simp <;> with_reducible rfl)
    try simp only [Act.put, List.getElem_toArray, List.getElem_cons_zero, List.getElem_cons_succ, List.setIfInBounds_toArray, List.set_cons_zero, List.set_cons_succ]
    refine wpAnyH_take (i := 8) (oi := _) (v := ?vR38) rfl (by kernel_rfl) (by kernel_rfl) (by kernel_rfl) (fun _ _ _ h => h) (Or.inl ⟨by rfl, ?yR38⟩) hHeld ?_
    case yR38 => (intro w hSw; (try dsimp only at hSw); go_simp <;> with_reducible rfl)
    try simp only [Act.put, List.getElem_toArray, List.getElem_cons_zero, List.getElem_cons_succ, List.setIfInBounds_toArray, List.set_cons_zero, List.set_cons_succ]
    refine wpAnyH_take (i := 9) (oi := _) (v := ?vR39) rfl (by kernel_rfl) (by kernel_rfl) (by kernel_rfl) (fun _ _ _ h => h) (Or.inl ⟨by rfl, ?yR39⟩) hHeld ?_
    case yR39 => (intro w hSw; (try dsimp only at hSw); go_simp <;> with_reducible rfl)
    try simp only [Act.put, List.getElem_toArray, List.getElem_cons_zero, List.getElem_cons_succ, List.setIfInBounds_toArray, List.set_cons_zero, List.set_cons_succ]
    refine wpAnyH_take (i := 10) (oi := _) (v := ?vR310) rfl (by kernel_rfl) (by kernel_rfl) (by kernel_rfl) (fun _ _ _ h => h) (Or.inl ⟨by rfl, ?yR310⟩) hHeld ?_
    case yR310 => (intro w hSw; (try dsimp only at hSw); go_simp <;> with_reducible rfl)
    try simp only [Act.put, List.getElem_toArray, List.getElem_cons_zero, List.getElem_cons_succ, List.setIfInBounds_toArray, List.set_cons_zero, List.set_cons_succ]
    refine wpAnyH_take (i := 11) (oi := _) (v := ?vR311) rfl (by kernel_rfl) (by kernel_rfl) (by kernel_rfl) (fun _ _ _ h => h) (Or.inl ⟨by rfl, ?yR311⟩) hHeld ?_
    case yR311 => (intro w hSw; (try dsimp only at hSw); go_simp <;> with_reducible rfl)
    try simp only [Act.put, List.getElem_toArray, List.getElem_cons_zero, List.getElem_cons_succ, List.setIfInBounds_toArray, List.set_cons_zero, List.set_cons_succ]
    refine wpAnyH_done (by kernel_rfl) ?_ _
    go_wp2_with fail
    go_ret3
    exact ⟨rfl, (Below.refl _ _).drew⟩

theorem cut35_c (s : ByteArray) (w : World) (hs : s.size ≤ 1048576) :
    Calls Try.prog 48 #[.string s, .string ⟨#[35]⟩] w fun e w' => e = .returned (.tuple #[.string (cutD s 35).1, .string (cutD s 35).2.1, .bool (cutD s 35).2.2]) ∧ Below w.heap.size w w' := by
  have HI := cutS35_c s w hs
  obtain ⟨⟨x, y, z⟩, hx⟩ : ∃ p, p = cutD s 35 := ⟨_, rfl⟩
  rw [← hx] at HI ⊢
  clear hx
  have HI2 := hidden HI
  clear HI
  go_enter Try.func48, Try.ntmps48
  go_wp2_with (go_at_call 86; refine HI2.out.mono ?_; rintro e w' ⟨rfl, b1⟩)
  go_ret3
  exact ⟨rfl, b1⟩

end Go.Proofs.Ytkkhnldhipfneaa

/-! A sign cut off ahead of a word, the program's, and the library's cutting off of a beginning: contracts for the walks; conditions: the texts have at most 2 to the 40 bytes, the table of signs holds what the text lays. -/
namespace Go.Proofs.Ytkkhnldhipfneaa
open Go.RowKit
set_option linter.unusedSimpArgs false
set_option linter.unusedVariables false

/-- Does s begin with p? -/
def headB (s p : ByteArray) : Bool := decide (p.size ≤ s.size) && (s.extract 0 p.size).toList == p.toList

def cutRest (s p : ByteArray) : ByteArray := if headB s p then s.extract p.size s.size else s
theorem headB_le {s p : ByteArray} (h : headB s p = true) : p.size ≤ s.size := by
  simp [headB] at h
  exact h.1

def signsT : List ByteArray := [⟨#[61]⟩, ⟨#[60]⟩, ⟨#[60, 61]⟩, ⟨#[62]⟩, ⟨#[62, 61]⟩, ⟨#[126]⟩, ⟨#[94]⟩]
theorem signsT_small : ∀ k (h : k < signsT.length), signsT[k].size ≤ 2 := by decide +kernel
/-- The sign ahead of a word, looked for from the n-th down, and what is left. -/
def signGo (s : ByteArray) : Nat → Int × ByteArray
  | 0 => (0, s)
  | n + 1 => if headB s (signsT.getD n ⟨#[]⟩) then ((n : Int), cutRest s (signsT.getD n ⟨#[]⟩)) else signGo s n
def signOf (s : ByteArray) : Int := (signGo s 7).1
def signRest (s : ByteArray) : ByteArray := (signGo s 7).2

end Go.Proofs.Ytkkhnldhipfneaa

/-! How many pieces a text falls into, and how long they are: no condition. -/
namespace Go.Proofs.Ytkkhnldhipfneaa
open Go.RowKit
set_option linter.unusedSimpArgs false
set_option linter.unusedVariables false

theorem splitS_pos (s : ByteArray) (c : Int) : 0 < (splitS s c).length := by
  have h : ∀ n i b, 0 < (splitGo s c n i b).length := fun n => by
    induction n with
    | zero => intro i b; simp [splitGo]
    | succ n ih => intro i b; rw [splitGo]; split <;> simp [ih]
  exact h _ _ _
theorem splitS_piece (s : ByteArray) (c : Int) : ∀ x ∈ splitS s c, x.size ≤ s.size := by
  have h : ∀ n i b, ∀ x ∈ splitGo s c n i b, x.size ≤ s.size := fun n => by
    induction n with
    | zero => intro i b x hx; simp [splitGo] at hx; subst hx; rw [ByteArray.size_extract]; omega
    | succ n ih =>
      intro i b x hx
      rw [splitGo] at hx
      split at hx
      · rcases List.mem_cons.1 hx with rfl | hx
        · rw [ByteArray.size_extract]; omega
        · exact ih _ _ x hx
      · exact ih _ _ x hx
  exact h _ _ _
theorem splitS_len (s : ByteArray) (c : Int) : (splitS s c).length ≤ s.size + 1 := by
  have h : ∀ n i b, (splitGo s c n i b).length ≤ n + 1 := fun n => by
    induction n with
    | zero => intro i b; simp [splitGo]
    | succ n ih =>
      intro i b
      rw [splitGo]
      split
      · simp only [List.length_cons]; have := ih (i + 1) (i + 1); omega
      · have := ih (i + 1) b; omega
  exact h _ _ _

end Go.Proofs.Ytkkhnldhipfneaa

/-! What the two functions OnOk, the program's and the specification's, answer: the same of every text; contracts for the walks; condition: the text has at most 2 to the 20 bytes. -/
namespace Go.Proofs.Ytkkhnldhipfneaa
open Go.RowKit
set_option linter.unusedSimpArgs false
set_option linter.unusedVariables false

/-- What a rule may wait for. -/
def onB (s : ByteArray) : Bool := if headB s ⟨#[94]⟩ then nameB (cutRest s ⟨#[94]⟩) else if (cutD s 35).2.2 then nameB (cutD s 35).1 && nameB (cutD s 35).2.1 else nameB s

theorem nameB_hash {s : ByteArray} {k : Nat} (h : s.data.toList[k]? = some 35) : nameB s = false := by
  obtain ⟨hk, hv⟩ := List.getElem?_eq_some_iff.1 h
  have hk' : k < s.size := by rw [len_list] at hk; exact hk
  have e : s[k] = 35 := by show s.data[k] = 35; simpa using hv
  rw [nameB, end_false hk' (by rw [e]; simp [okName, smallB, digitB])]; rfl
theorem headB_one (s : ByteArray) : headB s ⟨#[94]⟩ = true ↔ s.data.toList[0]? = some 94 := by
  have h0 : (s.extract 0 1).toList = s.data.toList.take 1 := by rw [ByteArray.toList_eq, extract_list]; simp
  have h1 : (⟨#[94]⟩ : ByteArray).toList = [94] := by simp [ByteArray.toList_eq]
  have h2 : (⟨#[94]⟩ : ByteArray).size = 1 := rfl
  unfold headB
  rw [h2, h0, h1, ← len_list]
  cases s.data.toList with
  | nil => simp
  | cons a l => simp
theorem index_at {s : ByteArray} {c : UInt8} {k : Nat} (h : Lib.indexByte s.data.toList c = (k : Int)) : s.data.toList[k]? = some c := (Lib.indexByte_some h).1
/-- The list that the specification cuts a text into says the same as the first cut. -/
theorem split_cut (s : ByteArray) : (if (splitS s 35).length = 2 then nameB ((splitS s 35).getD 0 ⟨#[]⟩) && nameB ((splitS s 35).getD 1 ⟨#[]⟩) else nameB s) = (if (cutD s 35).2.2 then nameB (cutD s 35).1 && nameB (cutD s 35).2.1 else nameB s) := by
  have e0 : s.extract 0 s.size = s := by simp
  have u35 : (35 : Int).toNat.toUInt8 = 35 := rfl
  rcases search s 35 0 (by omega) (by omega) (by omega) with ⟨h1, h2⟩ | ⟨k, h1, h2, h3⟩
  · rw [e0, u35] at h1
    rw [e0, Nat.sub_zero] at h2
    rw [cutD_none h1, splitS, h2]
    simp
  · rw [e0, u35] at h1
    rw [Nat.sub_zero, Nat.zero_add] at h3
    rw [cutD_some h1, splitS, h3]
    have hs := nameB_hash (index_at h1)
    rcases search s 35 (k + 1) (by omega) (by omega) (by omega) with ⟨g1, g2⟩ | ⟨j, g1, g2, g3⟩
    · rw [g2]
      simp
    · rw [u35] at g1
      have hb := nameB_hash (index_at g1)
      rw [g3]
      have hp : 0 < (splitGo s 35 (s.size - (k + 1 + j + 1)) (k + 1 + j + 1) (k + 1 + j + 1)).length := by
        cases hh : (s.size - (k + 1 + j + 1)) with
        | zero => simp [splitGo]
        | succ n =>
          have : ∀ n i b, 0 < (splitGo s 35 n i b).length := fun n => by
            induction n with
            | zero => intro i b; simp [splitGo]
            | succ n ih => intro i b; rw [splitGo]; split <;> simp [ih]
          exact this _ _ _
      rw [if_neg (by simp only [List.length_cons]; omega), if_pos rfl, hs, hb, Bool.and_false]

end Go.Proofs.Ytkkhnldhipfneaa

/-! What the functions on the names of tasks answer (told of a pack and a task, and read back), the program's and the specification's: the same; contracts for the walks; condition: a text has at most 2 to the 20 bytes. -/
namespace Go.Proofs.Ytkkhnldhipfneaa
open Go.RowKit
set_option linter.unusedSimpArgs false
set_option linter.unusedVariables false

/-- The name of a task, and what is read of a text as one. -/
def tnD (a b : ByteArray) : ByteArray := a ++ ⟨#[35]⟩ ++ b
def ptB (s : ByteArray) : Bool := (cutD s 35).2.2 && (nameB (cutD s 35).1 && nameB (cutD s 35).2.1)
def ptD (s : ByteArray) : ByteArray × ByteArray × Bool := if ptB s then ((cutD s 35).1, (cutD s 35).2.1, true) else (⟨#[]⟩, ⟨#[]⟩, false)
theorem split_two (s : ByteArray) : (splitS s 35 = [(cutD s 35).1, (cutD s 35).2.1] ∧ (cutD s 35).2.2 = true) ∨ ((splitS s 35).length ≠ 2 ∧ ptB s = false) := by
  have e0 : s.extract 0 s.size = s := by simp
  have u35 : (35 : Int).toNat.toUInt8 = 35 := rfl
  rcases search s 35 0 (by omega) (by omega) (by omega) with ⟨h1, h2⟩ | ⟨k, h1, h2, h3⟩
  · rw [e0, u35] at h1
    rw [e0, Nat.sub_zero] at h2
    right
    rw [ptB, cutD_none h1, splitS, h2]
    simp
  · rw [e0, u35] at h1
    rw [Nat.sub_zero, Nat.zero_add] at h3
    rw [ptB, cutD_some h1, splitS, h3]
    have hs := nameB_hash (index_at h1)
    rcases search s 35 (k + 1) (by omega) (by omega) (by omega) with ⟨g1, g2⟩ | ⟨j, g1, g2, g3⟩
    · left
      rw [g2]
      exact ⟨rfl, rfl⟩
    · rw [u35] at g1
      have hb := nameB_hash (index_at g1)
      right
      rw [g3]
      have hp : 0 < (splitGo s 35 (s.size - (k + 1 + j + 1)) (k + 1 + j + 1) (k + 1 + j + 1)).length := by
        have : ∀ n i b, 0 < (splitGo s 35 n i b).length := fun n => by
          induction n with
          | zero => intro i b; simp [splitGo]
          | succ n ih => intro i b; rw [splitGo]; split <;> simp [ih]
        exact this _ _ _
      refine ⟨by simp only [List.length_cons]; omega, ?_⟩
      simp only [hb, Bool.and_false]
theorem cut_le (s : ByteArray) (hs : s.size ≤ 1048576) : (cutD s 35).1.size ≤ 1048576 ∧ (cutD s 35).2.1.size ≤ 1048576 := by
  unfold cutD; split
  · exact ⟨hs, Nat.zero_le 1048576⟩
  · exact ⟨by rw [ByteArray.size_extract]; omega, by rw [ByteArray.size_extract]; omega⟩

set_option maxHeartbeats 2000000 in
set_option maxRecDepth 100000 in
theorem specTn_c (a b : ByteArray) (w : World) (ha : a.size ≤ 1048576) (hb : b.size ≤ 1048576) :
    Calls Try.prog 17 #[.string a, .string b] w fun e w' => e = .returned (.string (tnD a b)) ∧ Below w.heap.size w w' := by
  go_enter Try.func17, Try.ntmps17
  go_wp2_with fail
  go_ret
  exact ⟨rfl, Below.refl _ _⟩

set_option maxHeartbeats 2000000 in
set_option maxRecDepth 100000 in
theorem implTn_c (a b : ByteArray) (w : World) (ha : a.size ≤ 1048576) (hb : b.size ≤ 1048576) :
    Calls Try.prog 18 #[.string a, .string b] w fun e w' => e = .returned (.string (tnD a b)) ∧ Below w.heap.size w w' := by
  go_enter Try.func18, Try.ntmps18
  go_wp2_with fail
  go_ret
  exact ⟨rfl, Below.refl _ _⟩

set_option maxHeartbeats 4000000 in
set_option maxRecDepth 100000 in
theorem implPt_c (s : ByteArray) (w : World) (hs : s.size ≤ 1048576) :
    Calls Try.prog 20 #[.string s] w fun e w' => e = .returned (.tuple #[.string (ptD s).1, .string (ptD s).2.1, .bool (ptD s).2.2]) ∧ Below w.heap.size w w' := by
  have HC := hidden (fun w1 => cut35_c s w1 hs)
  obtain ⟨h2, h3⟩ := cut_le s hs
  have HN : Hid (∀ x : ByteArray, x.size ≤ 1048576 → ∀ w1, Calls Try.prog 49 #[.string x] w1 fun e w' => e = .returned (.bool (nameB x)) ∧ w1 = w') := fun x hx w1 => implName_c x (by unfold maxLen; omega) w1
  unfold ptD ptB
  generalize cutD s 35 = d at *
  obtain ⟨d1, d2, d3⟩ := d
  dsimp only at h2 h3 HC ⊢
  obtain ⟨n1, hn1⟩ : ∃ b, b = nameB d1 := ⟨_, rfl⟩
  obtain ⟨n2, hn2⟩ : ∃ b, b = nameB d2 := ⟨_, rfl⟩
  have HN1 := hidden (HN.out d1 h2)
  have HN2 := hidden (HN.out d2 h3)
  have HL1 := hidden (fun w1 => clone_c d1 w1 h2)
  have HL2 := hidden (fun w1 => clone_c d2 w1 h3)
  rw [← hn1] at HN1 ⊢
  rw [← hn2] at HN2 ⊢
  clear HN h2 h3 hn1 hn2 hs
  go_enter Try.func20, Try.ntmps20
  go_wp2_with fail
  go_at_call 48
  refine (HC.out _).mono ?_
  rintro e w1 ⟨rfl, b1⟩
  cases d3 with
  | false =>
    go_wp2_with fail
    go_ret3
    exact ⟨rfl, b1⟩
  | true =>
    cases n1 with
    | false =>
      go_wp2_with fail
      go_at_call 49
      refine (HN1.out _).mono ?_
      rintro e w2 ⟨rfl, rfl⟩
      go_wp2_with fail
      go_ret3
      exact ⟨rfl, b1⟩
    | true =>
      go_wp2_with fail
      go_at_call 49
      refine (HN1.out _).mono ?_
      rintro e w2 ⟨rfl, rfl⟩
      go_wp2_with fail
      go_at_call 49
      refine (HN2.out _).mono ?_
      rintro e w3 ⟨rfl, rfl⟩
      cases n2 with
      | false =>
        go_wp2_with fail
        go_ret3
        exact ⟨rfl, b1⟩
      | true =>
        go_wp2_with fail
        go_at_call 50
        refine (HL1.out _).mono ?_
        rintro e w4 ⟨rfl, b4⟩
        go_wp2_with fail
        go_at_call 50
        refine (HL2.out _).mono ?_
        rintro e w5 ⟨rfl, b5⟩
        go_wp2_with fail
        go_ret3
        exact ⟨rfl, b1.trans ((b4.trans (b5.mono b4.size)).mono b1.size)⟩

set_option maxHeartbeats 4000000 in
set_option maxRecDepth 100000 in
theorem specPt_c (s : ByteArray) (w : World) (hs : s.size ≤ 1048576) :
    Calls Try.prog 19 #[.string s] w fun e w' => e = .returned (.tuple #[.string (ptD s).1, .string (ptD s).2.1, .bool (ptD s).2.2]) ∧ Below w.heap.size w w' := by
  have HS := hidden (fun w1 => specSplit_c s 35 w1 hs)
  obtain ⟨h2, h3⟩ := cut_le s hs
  have HN : Hid (∀ x : ByteArray, x.size ≤ 1048576 → ∀ w1, Calls Try.prog 47 #[.string x] w1 fun e w' => e = .returned (.bool (nameB x)) ∧ w1 = w') := fun x hx w1 => specName_c x (by unfold maxLen; omega) w1
  rcases split_two s with ⟨hsp, hc⟩ | ⟨hsp, hf⟩
  · rw [hsp] at HS
    unfold ptD ptB
    rw [hc]
    have HN1 := hidden (HN.out _ h2)
    have HN2 := hidden (HN.out _ h3)
    obtain ⟨d1, hd1⟩ : ∃ d, d = (cutD s 35).1 := ⟨_, rfl⟩
    obtain ⟨d2, hd2⟩ : ∃ d, d = (cutD s 35).2.1 := ⟨_, rfl⟩
    rw [← hd1] at HN1 HS ⊢
    rw [← hd2] at HN2 HS ⊢
    obtain ⟨n1, hn1⟩ : ∃ b, b = nameB d1 := ⟨_, rfl⟩
    obtain ⟨n2, hn2⟩ : ∃ b, b = nameB d2 := ⟨_, rfl⟩
    rw [← hn1] at HN1 ⊢
    rw [← hn2] at HN2 ⊢
    clear HN h2 h3 hn1 hn2 hs hsp hc hd1 hd2
    go_enter Try.func19, Try.ntmps19
    go_wp2_with fail
    go_at_call 46
    refine (HS.out _).mono ?_
    rintro e w1 ⟨v, rfl, o1, b1⟩
    obtain ⟨q, cap, rfl, _, hc⟩ := reads_strs (reads_of_owns o1)
    rcases hc with hc | ⟨b9, off, rfl, hlt, hc⟩
    · cases hc
    have c0 := hc 0 (by simp)
    have c1 := hc 1 (by simp)
    simp only [List.getElem_cons_zero, List.getElem_cons_succ, Nat.add_zero] at c0 c1
    clear hc o1
    cases n1 with
    | false =>
      go_wp2_with fail
      go_at_call 47
      refine (HN1.out _).mono ?_
      rintro e w2 ⟨rfl, rfl⟩
      go_wp2_with fail
      go_ret3
      exact ⟨rfl, b1⟩
    | true =>
      go_wp2_with fail
      go_at_call 47
      refine (HN1.out _).mono ?_
      rintro e w2 ⟨rfl, rfl⟩
      go_wp2_with fail
      go_at_call 47
      refine (HN2.out _).mono ?_
      rintro e w3 ⟨rfl, rfl⟩
      cases n2 with
      | false =>
        go_wp2_with fail
        go_ret3
        exact ⟨rfl, b1⟩
      | true =>
        go_wp2_with fail
        go_quiet (fail)
        go_wp2_with fail
        go_ret3
        exact ⟨rfl, below_drewN' b1 _⟩
  · have e9 : ptD s = (⟨#[]⟩, ⟨#[]⟩, false) := by unfold ptD; rw [hf]; rfl
    rw [e9]
    obtain ⟨n, hn⟩ : ∃ n, n = (splitS s 35).length := ⟨_, rfl⟩
    have h2' : ((n : Int) == 2) = false := by rw [beq_eq_false_iff_ne]; omega
    have h24 : ¬ (n : Int) = 2 := by omega
    have h23 : ¬ n = 2 := by omega
    clear HN h2 h3 hs hf e9 hsp
    go_enter Try.func19, Try.ntmps19
    go_wp2_with fail
    go_at_call 46
    refine (HS.out _).mono ?_
    rintro e w1 ⟨v, rfl, o1, b1⟩
    obtain ⟨q, cap, rfl, _, hc⟩ := reads_strs (reads_of_owns o1)
    rw [← hn]
    clear hc o1 hn
    go_wp2_with fail
    go_ret3
    exact ⟨rfl, b1⟩
end Go.Proofs.Ytkkhnldhipfneaa

/-! Rules that lie in memory: what they are: no condition. -/
namespace Go.Proofs.Ytkkhnldhipfneaa
open Go.RowKit
set_option linter.unusedSimpArgs false
set_option linter.unusedVariables false

structure RuleD where
  task : ByteArray
  on : List ByteArray
  ins : List ByteArray
  envs : List ByteArray
  keep : Bool
def wtRule (d : RuleD) : Nat := d.task.size + bulkS d.on + bulkS d.ins + bulkS d.envs
def shRule : Sh RuleD where
  n := 5
  lies S w cs d := ∃ u0 u1 u2, cs = [.string d.task, u0, u1, u2, .bool d.keep] ∧ d.task.size ≤ maxLen ∧ RdB S w u0 (strsV d.on) ∧ saneP d.on ∧ RdB S w u1 (strsV d.ins) ∧ saneP d.ins ∧ RdB S w u2 (strsV d.envs) ∧ saneP d.envs
  keep hk h := by obtain ⟨u0, u1, u2, h0, h1, h2, h3, h4, h5, h6, h7⟩ := h; exact ⟨u0, u1, u2, h0, h1, h2.keep hk, h3, h4.keep hk, h5, h6.keep hk, h7⟩
  mono hS h := by obtain ⟨u0, u1, u2, h0, h1, h2, h3, h4, h5, h6, h7⟩ := h; exact ⟨u0, u1, u2, h0, h1, h2.mono hS, h3, h4.mono hS, h5, h6.mono hS, h7⟩
def shRuleO : Sh RuleD where
  n := 5
  lies S w cs d := ∃ u0 u1 u2, cs = [.string d.task, u0, u1, u2, .bool d.keep] ∧ d.task.size ≤ maxLen ∧ StrsOwn S w u0 d.on ∧ saneP d.on ∧ StrsOwn S w u1 d.ins ∧ saneP d.ins ∧ StrsOwn S w u2 d.envs ∧ saneP d.envs
  keep hk h := by obtain ⟨u0, u1, u2, h0, h1, h2, h3, h4, h5, h6, h7⟩ := h; exact ⟨u0, u1, u2, h0, h1, h2.keep hk, h3, h4.keep hk, h5, h6.keep hk, h7⟩
  mono hS h := by obtain ⟨u0, u1, u2, h0, h1, h2, h3, h4, h5, h6, h7⟩ := h; exact ⟨u0, u1, u2, h0, h1, h2.mono hS, h3, h4.mono hS, h5, h6.mono hS, h7⟩
theorem liesRule_plain {S : Nat → Prop} {w : World} {cs : List Value} {d : RuleD} (h : shRuleO.lies S w cs d) : shRule.lies S w cs d := by
  obtain ⟨u0, u1, u2, e0, s_task, r0, p0, r1, p1, r2, p2⟩ := h
  exact ⟨u0, u1, u2, e0, s_task, r0.plain, p0, r1.plain, p1, r2.plain, p2⟩
end Go.Proofs.Ytkkhnldhipfneaa

/-! Rows that are right one by one and ascend, and the first of a row that is taken: pure facts, no condition. -/
namespace Go.Proofs.Ytkkhnldhipfneaa
open Go.RowKit
set_option linter.unusedSimpArgs false
set_option linter.unusedVariables false

/-- What is asked of an element beside the one ahead of it. -/
def rowOk {α : Type} (p : α → Bool) (key : α → ByteArray) (d : α) (pre : Option α) : Bool := p d && (match pre with | none => true | some c => Op.bytesLess (key c).toList (key d).toList)
def preX {α : Type} (xs : List α) : Nat → Option α
  | 0 => none
  | j + 1 => xs[j]?
def rowUpto {α : Type} (p : α → Bool) (key : α → ByteArray) (xs : List α) : Nat → Bool
  | 0 => true
  | k + 1 => rowUpto p key xs k && (match xs[k]? with | none => true | some d => rowOk p key d (preX xs k))
def rowB {α : Type} (p : α → Bool) (key : α → ByteArray) (xs : List α) : Bool := rowUpto p key xs xs.length
theorem rowUpto_step {α : Type} {p : α → Bool} {key : α → ByteArray} {xs : List α} {k : Nat} (hk : k < xs.length) (h : rowUpto p key xs k = true) (h2 : rowOk p key xs[k] (preX xs k) = true) : rowUpto p key xs (k + 1) = true := by
  rw [rowUpto, h, List.getElem?_eq_getElem hk]; simpa using h2
theorem rowUpto_bad {α : Type} {p : α → Bool} {key : α → ByteArray} {xs : List α} {k : Nat} (hk : k < xs.length) (h2 : rowOk p key xs[k] (preX xs k) = false) : ∀ n, k < n → rowUpto p key xs n = false
  | 0, h => by omega
  | n + 1, h => by
    rw [rowUpto]
    by_cases e : k = n
    · subst e; rw [List.getElem?_eq_getElem hk]; simp [h2]
    · rw [rowUpto_bad hk h2 n (by omega)]; rfl
theorem rowOk_no {α : Type} {p : α → Bool} {key : α → ByteArray} {d : α} {o : Option α} (h : p d = false) : rowOk p key d o = false := by simp [rowOk, h]
theorem rowOk_first {α : Type} {p : α → Bool} {key : α → ByteArray} {d : α} (h : p d = true) : rowOk p key d none = true := by simp [rowOk, h]
theorem rowOk_some {α : Type} {p : α → Bool} {key : α → ByteArray} {d c : α} (h : p d = true) : rowOk p key d (some c) = Op.bytesLess (key c).toList (key d).toList := by simp [rowOk, h]
theorem rowOk_less {α : Type} {p : α → Bool} {key : α → ByteArray} {d c : α} (h : Op.bytesLess (key c).toList (key d).toList = false) : rowOk p key d (some c) = false := by simp [rowOk, h]

def ascB (ts : List ByteArray) : Bool := rowB (fun _ => true) id ts
theorem asc_one (ts : List ByteArray) : rowUpto (fun _ => true) id ts 1 = true := by
  rw [rowUpto, rowUpto]
  cases ts with
  | nil => rfl
  | cons t ts => rfl
theorem asc_end {ts : List ByteArray} {k : Nat} (h1 : 1 ≤ k) (h2 : ¬ k < ts.length) (h3 : k ≤ ts.length ∨ k = 1) (h : rowUpto (fun _ => true) id ts k = true) : ascB ts = true := by
  cases ts with
  | nil => rfl
  | cons t ts =>
    have : k = (t :: ts).length := by
      rcases h3 with h3 | h3
      · omega
      · simp at h2 ⊢; omega
    rw [this] at h
    exact h
theorem rowUpto_split {α : Type} (p : α → Bool) (key : α → ByteArray) (xs : List α) : ∀ k, k ≤ xs.length → rowUpto p key xs k = ((xs.take k).all p && rowUpto (fun _ => true) id (xs.map key) k)
  | 0, _ => rfl
  | k + 1, h => by
    have hk : k < xs.length := by omega
    rw [rowUpto, rowUpto_split p key xs k (by omega), List.getElem?_eq_getElem hk, List.take_succ_eq_append_getElem hk, List.all_append]
    have hm : (xs.map key)[k]? = some (key xs[k]) := by simp [hk]
    have hp : preX (xs.map key) k = (preX xs k).map key := by
      cases k with
      | zero => rfl
      | succ j => simp [preX]
    simp only [rowUpto, hm, hp, rowOk, List.all_cons, List.all_nil, Bool.and_true, Bool.true_and]
    cases preX xs k with
    | none => simp only [Option.map_none]; cases (xs.take k).all p <;> cases rowUpto (fun _ => true) id (xs.map key) k <;> cases p xs[k] <;> rfl
    | some c => simp only [Option.map_some, id]; cases (xs.take k).all p <;> cases rowUpto (fun _ => true) id (xs.map key) k <;> cases p xs[k] <;> cases Op.bytesLess (key c).toList (key xs[k]).toList <;> rfl
theorem rowB_split {α : Type} (p : α → Bool) (key : α → ByteArray) (xs : List α) : rowB p key xs = (xs.all p && ascB (xs.map key)) := by
  unfold rowB ascB rowB
  rw [rowUpto_split p key xs _ (Nat.le_refl _), List.take_length, List.length_map]

/-- The place of the first that p takes, or -1. -/
def firstI {α : Type} (p : α → Bool) (xs : List α) : Int := if xs.findIdx p < xs.length then (xs.findIdx p : Int) else -1
theorem firstI_here {α : Type} {p : α → Bool} {xs : List α} {k : Nat} (h : k < xs.length) (hy : p xs[k] = true) (hn : ∀ j (hj : j < xs.length), j < k → p xs[j] = false) : firstI p xs = (k : Int) := by
  have e : xs.findIdx p = k := by
    rw [List.findIdx_eq h]
    exact ⟨hy, fun j hj => hn j (by omega) hj⟩
  unfold firstI
  rw [e, if_pos h]
theorem firstI_none {α : Type} {p : α → Bool} {xs : List α} (hn : ∀ j (hj : j < xs.length), p xs[j] = false) : firstI p xs = -1 := by
  have e : xs.findIdx p = xs.length := by
    rw [List.findIdx_eq_length]
    intro x hx
    obtain ⟨j, hj, rfl⟩ := List.mem_iff_getElem.1 hx
    exact hn j hj
  unfold firstI
  rw [e, if_neg (by omega)]
theorem firstI_any {α : Type} (p : α → Bool) (xs : List α) : decide (0 ≤ firstI p xs) = xs.any p := by
  unfold firstI
  by_cases h : xs.findIdx p < xs.length
  · rw [if_pos h, decide_eq_true (by omega)]
    have := List.findIdx_lt_length.1 h
    obtain ⟨x, hx, hp⟩ := this
    exact (List.any_eq_true.2 ⟨x, hx, hp⟩).symm
  · rw [if_neg h, decide_eq_false (by omega)]
    have e : xs.findIdx p = xs.length := by have := List.findIdx_le_length (xs := xs) (p := p); omega
    rw [List.findIdx_eq_length] at e
    cases ha : xs.any p with
    | false => rfl
    | true =>
      obtain ⟨x, hx, hp⟩ := List.any_eq_true.1 ha
      have := e x hx
      simp_all
theorem firstI_ge {α : Type} (p : α → Bool) (xs : List α) : -1 ≤ firstI p xs := by unfold firstI; split <;> omega
theorem firstI_le {α : Type} (p : α → Bool) (xs : List α) : firstI p xs ≤ (xs.length : Int) := by unfold firstI; split <;> omega

end Go.Proofs.Ytkkhnldhipfneaa

/-! What the functions that look at a path, name by name, answer (the program's and the specification's): contracts for the walks; condition: the text has at most 2 to the 20 bytes. -/
namespace Go.Proofs.Ytkkhnldhipfneaa
open Go.RowKit
set_option linter.unusedSimpArgs false
set_option linter.unusedVariables false

def pathC (c : Int) : Bool := smallB c || (digitB c || (c == 46 || (c == 45 || c == 95)))

def okPath (_ : Nat) (c : Int) : Bool := pathC c
def pnameB (s : ByteArray) : Bool := allUpto okPath s s.size && (inB s.size 1 12 && (!(s.toList == [46]) && !(s.toList == [46, 46])))

theorem pname_out {s : ByteArray} (h : s.size = 0 ∨ 12 < s.size) : pnameB s = false := by
  have : inB s.size 1 12 = false := by
    simp only [inB, Bool.and_eq_false_iff, decide_eq_false_iff_not]
    omega
  rw [pnameB, this]; simp
theorem pname_in {s : ByteArray} (h0 : 0 < s.size) (h1 : s.size ≤ 12) (h2 : (s.toList == [46]) = false) (h3 : (s.toList == [46, 46]) = false) (h : allUpto okPath s s.size = true) : pnameB s = true := by
  have : inB s.size 1 12 = true := by
    simp only [inB, Bool.and_eq_true, decide_eq_true_eq]
    omega
  rw [pnameB, this, h, h2, h3]; rfl

end Go.Proofs.Ytkkhnldhipfneaa

/-! What the two functions PathOk (the program's and the specification's) answer: the same; condition: the text has at most 2 to the 20 bytes. -/
namespace Go.Proofs.Ytkkhnldhipfneaa
open Go.RowKit
set_option linter.unusedSimpArgs false
set_option linter.unusedVariables false

def pathB (s : ByteArray) : Bool := decide ((splitS s 47).length ≤ 4) && (splitS s 47).all pnameB

theorem all_take_step {l : List ByteArray} {p : ByteArray → Bool} {k : Nat} (hk : k < l.length) (h : (l.take k).all p = true) (hp : p l[k] = true) : (l.take (k + 1)).all p = true := by
  rw [List.take_succ_eq_append_getElem hk, List.all_append, h]; simp [hp]
theorem all_false_at {l : List ByteArray} {p : ByteArray → Bool} {k : Nat} (hk : k < l.length) (hp : p l[k] = false) : l.all p = false := by
  rw [Bool.eq_false_iff]; intro h
  have := List.all_eq_true.1 h _ (List.getElem_mem hk)
  rw [hp] at this; cases this

end Go.Proofs.Ytkkhnldhipfneaa

/-! Steps gone through by going back to the last one that takes many alone, against all ways being tried: they answer alike; no condition (no program stands here). -/
namespace Go.Proofs.Ytkkhnldhipfneaa
set_option linter.unusedSimpArgs false
set_option linter.unusedVariables false

section
variable {α β : Type} (many : α → Bool) (takes : α → β → Bool)

/-- All ways are tried. -/
def fullG : List α → List β → Bool
  | [], l => l.isEmpty
  | a :: p, l => if many a then (List.range (l.length + 1)).any (fun k => fullG p (l.drop k)) else
      match l with
      | [] => false
      | x :: t => takes a x && fullG p t

theorem fullG_nil (l : List β) : fullG many takes [] l = l.isEmpty := by rw [fullG.eq_def]
theorem fullG_many (a : α) (p : List α) (l : List β) (h : many a = true) : fullG many takes (a :: p) l = (List.range (l.length + 1)).any (fun k => fullG many takes p (l.drop k)) := by
  rw [fullG.eq_def]; simp only []; rw [if_pos h]
theorem fullG_none (a : α) (p : List α) (h : many a = false) : fullG many takes (a :: p) [] = false := by
  rw [fullG.eq_def]; simp only []; rw [if_neg (by simp [h])]
theorem fullG_one (a : α) (p : List α) (x : β) (t : List β) (h : many a = false) : fullG many takes (a :: p) (x :: t) = (takes a x && fullG many takes p t) := by
  rw [fullG.eq_def]; simp only []; rw [if_neg (by simp [h])]

/-- From place i of the steps and place j of the things on. -/
def F2 (ps : List α) (xs : List β) (i j : Nat) : Bool := fullG many takes (ps.drop i) (xs.drop j)

variable {many takes} {ps : List α} {xs : List β}

theorem F2_many {i j : Nat} {a : α} (ha : ps[i]? = some a) (hm : many a = true) (hj : j ≤ xs.length) :
    F2 many takes ps xs i j = true ↔ ∃ k, j ≤ k ∧ k ≤ xs.length ∧ F2 many takes ps xs (i + 1) k = true := by
  have hi := (List.getElem?_eq_some_iff.1 ha).1
  have he := (List.getElem?_eq_some_iff.1 ha).2
  unfold F2
  rw [List.drop_eq_getElem_cons hi, he, fullG_many _ _ _ _ _ hm, List.any_eq_true]
  constructor
  · rintro ⟨k, hk, h⟩
    rw [List.mem_range, List.length_drop] at hk
    rw [List.drop_drop] at h
    exact ⟨j + k, by omega, by omega, h⟩
  · rintro ⟨k, h1, h2, h⟩
    refine ⟨k - j, by rw [List.mem_range, List.length_drop]; omega, ?_⟩
    rw [List.drop_drop, show j + (k - j) = k by omega]
    exact h
theorem F2_one {i j : Nat} {a : α} {x : β} (ha : ps[i]? = some a) (hm : many a = false) (hx : xs[j]? = some x) :
    F2 many takes ps xs i j = (takes a x && F2 many takes ps xs (i + 1) (j + 1)) := by
  have hi := (List.getElem?_eq_some_iff.1 ha).1
  have he := (List.getElem?_eq_some_iff.1 ha).2
  have hj := (List.getElem?_eq_some_iff.1 hx).1
  have hxe := (List.getElem?_eq_some_iff.1 hx).2
  unfold F2
  rw [List.drop_eq_getElem_cons hi, he, List.drop_eq_getElem_cons hj, hxe, fullG_one _ _ _ _ _ _ hm]
theorem F2_none {i j : Nat} {a : α} (ha : ps[i]? = some a) (hm : many a = false) (hj : xs.length ≤ j) : F2 many takes ps xs i j = false := by
  have hi := (List.getElem?_eq_some_iff.1 ha).1
  have he := (List.getElem?_eq_some_iff.1 ha).2
  unfold F2
  rw [List.drop_eq_getElem_cons hi, he, List.drop_eq_nil_of_le hj, fullG_none _ _ _ _ hm]
theorem F2_end {i j : Nat} (hi : ps.length ≤ i) : F2 many takes ps xs i j = decide (xs.length ≤ j) := by
  unfold F2
  rw [List.drop_eq_nil_of_le hi, fullG_nil]
  by_cases h : xs.length ≤ j
  · rw [decide_eq_true h, List.drop_eq_nil_of_le h]; rfl
  · rw [decide_eq_false h]
    have : xs.drop j ≠ [] := by
      intro e
      have := congrArg List.length e
      rw [List.length_drop] at this
      simp at this
      omega
    cases hd : xs.drop j with
    | nil => exact absurd hd this
    | cons _ _ => rfl

/-- What a run through steps of which none takes many leads to. -/
theorem F2_pass {b k : Nat} : ∀ (m : Nat), (∀ i a, b ≤ i → i < b + m → ps[i]? = some a → many a = false) → b + m ≤ ps.length → k ≤ xs.length → F2 many takes ps xs b k = true →
    k + m ≤ xs.length ∧ F2 many takes ps xs (b + m) (k + m) = true
  | 0, _, _, hk, h => ⟨hk, h⟩
  | m + 1, hs, hl, hk, h => by
    obtain ⟨h1, h2⟩ := F2_pass m (fun i a h1 h2 h3 => hs i a h1 (by omega) h3) (by omega) hk h
    have ha : ps[b + m]? = some ps[b + m] := List.getElem?_eq_getElem (by omega)
    have hm := hs (b + m) _ (by omega) (by omega) ha
    by_cases hj : k + m < xs.length
    · have hx : xs[k + m]? = some xs[k + m] := List.getElem?_eq_getElem hj
      rw [F2_one ha hm hx, Bool.and_eq_true] at h2
      exact ⟨by omega, h2.2⟩
    · rw [F2_none ha hm (by omega)] at h2
      cases h2

/-- Where the run is: at step s and thing t, behind the last step that takes many (seen: there was one) b steps and tk things lie. -/
def Inv (many : α → Bool) (takes : α → β → Bool) (ps : List α) (xs : List β) (s t b tk : Nat) (seen : Bool) : Prop :=
  s ≤ ps.length ∧ t ≤ xs.length ∧ b ≤ s ∧ t + b = s + tk ∧ (∀ i a, b ≤ i → i < s → ps[i]? = some a → many a = false) ∧
  (F2 many takes ps xs 0 0 = true ↔ (F2 many takes ps xs s t = true ∨ (seen = true ∧ ∃ k, tk < k ∧ k ≤ xs.length ∧ F2 many takes ps xs b k = true)))

theorem inv_start : Inv many takes ps xs 0 0 0 0 false :=
  ⟨Nat.zero_le _, Nat.zero_le _, Nat.le_refl _, rfl, fun i a _ h => by omega, by simp⟩

theorem inv_many {s t b tk : Nat} {seen : Bool} {a : α} (h : Inv many takes ps xs s t b tk seen) (ha : ps[s]? = some a) (hm : many a = true) : Inv many takes ps xs (s + 1) t (s + 1) t true := by
  obtain ⟨h1, h2, h3, h4, h5, h6⟩ := h
  have hs := (List.getElem?_eq_some_iff.1 ha).1
  refine ⟨by omega, h2, Nat.le_refl _, by omega, fun i a h1 h2 => by omega, ?_⟩
  rw [h6]
  have key : ∀ j, t ≤ j → j ≤ xs.length → F2 many takes ps xs s j = true → (F2 many takes ps xs (s + 1) t = true ∨ (true = true ∧ ∃ k, t < k ∧ k ≤ xs.length ∧ F2 many takes ps xs (s + 1) k = true)) := fun j h7 h8 h9 => by
    obtain ⟨k, k1, k2, k3⟩ := (F2_many ha hm h8).1 h9
    by_cases e : k = t
    · subst e; exact .inl k3
    · exact .inr ⟨rfl, k, by omega, k2, k3⟩
  constructor
  · rintro (h | ⟨_, k, k1, k2, k3⟩)
    · exact key t (Nat.le_refl _) h2 h
    · obtain ⟨j1, j2⟩ := F2_pass (s - b) (fun i a q1 q2 q3 => h5 i a q1 (by omega) q3) (by omega) k2 k3
      rw [show b + (s - b) = s by omega] at j2
      exact key _ (by omega) j1 j2
  · rintro (h | ⟨_, k, k1, k2, k3⟩)
    · exact .inl ((F2_many ha hm h2).2 ⟨t, Nat.le_refl _, h2, h⟩)
    · exact .inl ((F2_many ha hm h2).2 ⟨k, by omega, k2, k3⟩)

theorem inv_next {s t b tk : Nat} {seen : Bool} {a : α} {x : β} (h : Inv many takes ps xs s t b tk seen) (ha : ps[s]? = some a) (hm : many a = false) (hx : xs[t]? = some x) (ht : takes a x = true) :
    Inv many takes ps xs (s + 1) (t + 1) b tk seen := by
  obtain ⟨h1, h2, h3, h4, h5, h6⟩ := h
  have hs := (List.getElem?_eq_some_iff.1 ha).1
  have hj := (List.getElem?_eq_some_iff.1 hx).1
  refine ⟨by omega, by omega, by omega, by omega, fun i c q1 q2 q3 => ?_, ?_⟩
  · by_cases e : i = s
    · subst e; rw [ha] at q3; cases q3; exact hm
    · exact h5 i c q1 (by omega) q3
  · rw [h6, F2_one ha hm hx, ht, Bool.true_and]

theorem F2_stop_end {s t : Nat} (hs : s = ps.length) (ht : t ≤ xs.length) (hne : ¬ t = xs.length) : F2 many takes ps xs s t = false := by
  rw [F2_end (by omega)]; simp; omega
theorem F2_stop_none {s t : Nat} {a : α} (ha : ps[s]? = some a) (hm : many a = false) (ht : t = xs.length) : F2 many takes ps xs s t = false := F2_none ha hm (by omega)
theorem F2_stop_not {s t : Nat} {a : α} {x : β} (ha : ps[s]? = some a) (hm : many a = false) (hx : xs[t]? = some x) (ht : takes a x = false) : F2 many takes ps xs s t = false := by
  rw [F2_one ha hm hx, ht]; rfl

theorem inv_back {s t b tk : Nat} {seen : Bool} (h : Inv many takes ps xs s t b tk seen) (hf : F2 many takes ps xs s t = false) (hs : seen = true) (hk : tk < xs.length) : Inv many takes ps xs b (tk + 1) b (tk + 1) true := by
  obtain ⟨h1, h2, h3, h4, h5, h6⟩ := h
  refine ⟨by omega, by omega, Nat.le_refl _, by omega, fun i a q1 q2 => by omega, ?_⟩
  rw [h6, hf]
  constructor
  · rintro (h | ⟨_, k, k1, k2, k3⟩)
    · cases h
    · by_cases e : k = tk + 1
      · subst e; exact .inl k3
      · exact .inr ⟨rfl, k, by omega, k2, k3⟩
  · rintro (h | ⟨_, k, k1, k2, k3⟩)
    · exact .inr ⟨hs, tk + 1, by omega, by omega, h⟩
    · exact .inr ⟨hs, k, by omega, k2, k3⟩

theorem inv_true {s t b tk : Nat} {seen : Bool} (h : Inv many takes ps xs s t b tk seen) (hs : s = ps.length) (ht : t = xs.length) : fullG many takes ps xs = true := by
  have := h.2.2.2.2.2.2 (.inl (by rw [F2_end (by omega)]; simp; omega))
  simpa [F2] using this
theorem inv_false {s t b tk : Nat} {seen : Bool} (h : Inv many takes ps xs s t b tk seen) (hf : F2 many takes ps xs s t = false) (he : seen = false ∨ tk = xs.length) : fullG many takes ps xs = false := by
  rw [Bool.eq_false_iff]
  intro hc
  have h1 : F2 many takes ps xs 0 0 = true := by simpa [F2] using hc
  rcases h.2.2.2.2.2.1 h1 with h2 | ⟨h2, k, h3, h4, _⟩
  · rw [hf] at h2; cases h2
  · rcases he with he | he
    · rw [he] at h2; cases h2
    · omega

/-- How far the run still has to go. -/
def goM (L n s b tk : Nat) : Nat := (L - b) * ((n + 1) * (L + 1)) + (n - tk) * (L + 1) + (L - s)
theorem goM_many {L n s b tk t : Nat} (h1 : b ≤ s) (h2 : s < L) : goM L n (s + 1) (s + 1) t < goM L n s b tk := by
  unfold goM
  have e3 : (n + 1) * (L + 1) = n * (L + 1) + (L + 1) := by rw [Nat.add_mul]; omega
  obtain ⟨M, hM⟩ : ∃ M, M = (n + 1) * (L + 1) := ⟨_, rfl⟩
  rw [← hM] at e3 ⊢
  have e1 : (L - b) * M ≥ (L - (s + 1) + 1) * M := Nat.mul_le_mul_right _ (by omega)
  rw [Nat.add_mul] at e1
  have e2 : (n - t) * (L + 1) ≤ n * (L + 1) := Nat.mul_le_mul_right _ (by omega)
  omega
theorem goM_next {L n s b tk : Nat} (h2 : s < L) : goM L n (s + 1) b tk < goM L n s b tk := by unfold goM; omega
theorem goM_back {L n s b tk : Nat} (h : tk < n) : goM L n b b (tk + 1) < goM L n s b tk := by
  unfold goM
  have e1 : (n - tk) * (L + 1) = (n - (tk + 1)) * (L + 1) + (L + 1) := by
    rw [show n - tk = (n - (tk + 1)) + 1 by omega, Nat.add_mul]; omega
  omega
end
end Go.Proofs.Ytkkhnldhipfneaa
