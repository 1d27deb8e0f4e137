/-
  What the program's functions that read a pattern, and ask whether one takes a path, answer: contracts for the walks; condition: texts of at most 2 to the 20 bytes.
-/
import Derived.Test.YtbkmjbjiagkjmaaGlI
import Derived.Test.YtbkmjbjiagkjmaaGlG
namespace Go.Proofs.Ytbkmjbjiagkjmaa
open Go.RowKit
set_option linter.unusedSimpArgs false
set_option linter.unusedVariables false

theorem infoPce : (Try.prog.info? 99).map (fun i => (i.zero, i.size, i.bytes)) = some (some (.agg #[.bool false, .slice none 0 0]), 2, 32) := by kernel_rfl

theorem rows_apart2 {w : World} {base base' e e' z z' : Nat} {v v' : Value} {n n' : Nat} {xs xs' : List Value} (h : w.ownsRow base e z v n xs) (h' : w.ownsRow base' e' z' v' n' xs') (hne : e ≠ e') : v'.ownBlock = none ∨ v'.ownBlock ≠ v.ownBlock := by
  rcases h.2 with ⟨rfl, _⟩ | ⟨g, cap, cur, rfl, _, hg, _⟩
  · rcases h'.2 with ⟨rfl, _⟩ | ⟨g', cap', cur', rfl, _, hg', _⟩
    · exact .inl rfl
    · exact .inr (by simp [Value.ownBlock])
  · rcases h'.2 with ⟨rfl, _⟩ | ⟨g', cap', cur', rfl, _, hg', _⟩
    · exact .inl rfl
    · refine .inr fun e1 => hne ?_
      simp only [Value.ownBlock, Option.some.injEq] at e1
      subst e1
      rw [hg] at hg'
      simp only [Option.some.injEq, Obj.cells.injEq] at hg'
      exact hg'.2.1
theorem owns_any_below {w w' : World} {base : Nat} {e : TypeId} {z : Nat} {v : Value} {n : Nat} {xs : List Value} (h : w.ownsRow base e z v n xs) (b : Below w.heap.size w w') : w'.ownsRow base e z v n xs :=
  h.kept (grown_of_below b none) (by cases hv : v.ownBlock <;> simp)

/-- Pieces in a row of the call's own, each with a row of signs of its own. -/
def PcsOwn (base : Nat) (w : World) (vo : Value) (xs : List ByteArray) : Prop :=
  ∃ cs, w.ownsRow base 99 2 vo xs.length cs ∧ ∀ k (h : k < xs.length), cs[k * 2]? = some (.bool (manyT xs[k])) ∧ ∃ v, cs[k * 2 + 1]? = some v ∧ w.ownsRow base 136 3 v (sgnsOf xs[k]).length (cellsS (sgnsOf xs[k])) ∧ (sgnsOf xs[k]).length ≤ 12
theorem PcsOwn.start (base : Nat) (w : World) : PcsOwn base w (.slice none 0 0) [] := ⟨[], World.ownsRow_nil _ _ _ _, fun k h => by simp at h⟩
theorem PcsOwn.below {base : Nat} {w w' : World} {vo : Value} {xs : List ByteArray} (h : PcsOwn base w vo xs) (b : Below w.heap.size w w') : PcsOwn base w' vo xs := by
  obtain ⟨cs, h1, h2⟩ := h
  refine ⟨cs, owns_any_below h1 b, fun k hk => ?_⟩
  obtain ⟨e0, v, e1, e2, e3⟩ := h2 k hk
  exact ⟨e0, v, e1, owns_any_below e2 b, e3⟩
theorem PcsOwn.grown {base : Nat} {w w3 : World} {vo v3 v : Value} {xs : List ByteArray} {x : ByteArray} {cs : List Value} (h1 : w.ownsRow base 99 2 vo xs.length cs)
    (h2 : ∀ k (h : k < xs.length), cs[k * 2]? = some (.bool (manyT xs[k])) ∧ ∃ v, cs[k * 2 + 1]? = some v ∧ w.ownsRow base 136 3 v (sgnsOf xs[k]).length (cellsS (sgnsOf xs[k])) ∧ (sgnsOf xs[k]).length ≤ 12)
    (hv : w.ownsRow base 136 3 v (sgnsOf x).length (cellsS (sgnsOf x))) (hl : (sgnsOf x).length ≤ 12) (gr : w.grownBy w3 vo.ownBlock) (o3 : w3.ownsRow base 99 2 v3 (xs.length + 1) (cs ++ [.bool (manyT x), v])) : PcsOwn base w3 v3 (xs ++ [x]) := by
  have hcl : cs.length = xs.length * 2 := by have := h1.1; omega
  refine ⟨cs ++ [.bool (manyT x), v], by rw [List.length_append]; exact o3, fun k hk => ?_⟩
  rw [List.length_append, List.length_cons, List.length_nil] at hk
  by_cases e : k < xs.length
  · obtain ⟨e0, v', e1, e2, e3⟩ := h2 k e
    rw [List.getElem_append_left e, List.getElem?_append_left (by omega), List.getElem?_append_left (by omega)]
    exact ⟨e0, v', e1, e2.kept gr (rows_apart2 h1 e2 (by decide)), e3⟩
  · have hke : k = xs.length := by omega
    subst hke
    rw [List.getElem_append_right (Nat.le_refl _), List.getElem?_append_right (by omega), List.getElem?_append_right (by omega)]
    rw [show xs.length * 2 - cs.length = 0 by omega, show xs.length * 2 + 1 - cs.length = 1 by omega]
    simp only [Nat.sub_self, List.getElem_cons_zero]
    exact ⟨rfl, v, rfl, hv.kept gr (rows_apart2 h1 hv (by decide)), hl⟩
theorem PcsOwn.pcs {base : Nat} {w : World} {vo : Value} {xs : List ByteArray} (h : PcsOwn base w vo xs) (h4 : xs.length ≤ 4) : PcsIn (Ow base w.heap.size) w vo xs := by
  obtain ⟨cs, h1, h2⟩ := h
  rcases h1.2 with ⟨hn, h0⟩ | ⟨g, cap, cur, hv, hlo, hg', hcap, hmax, _⟩
  · exact ⟨_, _, by rw [h0]; exact hn, h4, by omega, .inl (List.eq_nil_of_length_eq_zero h0)⟩
  · have hgl := (Array.getElem?_eq_some_iff.1 hg').1
    refine ⟨_, _, hv, h4, hcap, .inr ⟨g, 0, rfl, ⟨hlo, hgl⟩, fun k hk => ?_⟩⟩
    obtain ⟨e0, v, e1, e2, e3⟩ := h2 k hk
    subst hv
    rw [Nat.zero_add]
    exact ⟨(h1.cellAt _ (by omega)).trans e0, v, (h1.cellAt _ (by omega)).trans e1, sgnsIn_owns e2 e3⟩

theorem PcsIn.mono {S S' : Nat → Prop} {w : World} {v : Value} {xs : List ByteArray} (hS : ∀ b, S b → S' b) (h : PcsIn S w v xs) : PcsIn S' w v xs := by
  obtain ⟨q, cap, hv, h4, hc, h⟩ := h
  refine ⟨q, cap, hv, h4, hc, ?_⟩
  rcases h with h | ⟨b, off, hq, hb, h⟩
  · exact .inl h
  · refine .inr ⟨b, off, hq, hS b hb, fun k hk => ?_⟩
    obtain ⟨e0, v, e1, e2⟩ := h k hk
    exact ⟨e0, v, e1, e2.mono hS⟩
theorem PcsIn.keep {S : Nat → Prop} {w w' : World} {v : Value} {xs : List ByteArray} (hk : Kp S w w') (h : PcsIn S w v xs) : PcsIn S w' v xs := by
  obtain ⟨q, cap, hv, h4, hc, h⟩ := h
  refine ⟨q, cap, hv, h4, hc, ?_⟩
  rcases h with h | ⟨b, off, hq, hb, h⟩
  · exact .inl h
  · refine .inr ⟨b, off, hq, hb, fun k hh => ?_⟩
    obtain ⟨e0, v, e1, e2⟩ := h k hh
    exact ⟨(hk.cell hb _).trans e0, v, (hk.cell hb _).trans e1, e2.keep hk⟩

def GlobPost (w : World) (s : ByteArray) (e : Ending) (w' : World) : Prop :=
  ∃ v, e = .returned (.tuple #[v, .bool (globB s)]) ∧ (globB s = true → PcsIn (Ow w.heap.size w'.heap.size) w' v (splitS s 47)) ∧ Below w.heap.size w w'

set_option maxHeartbeats 4000000 in
set_option maxRecDepth 100000 in
theorem implRead_c (s : ByteArray) (w : World) (hs : s.size ≤ 1048576) : Calls Try.prog 82 #[.string s] w (GlobPost w s) := by
  obtain ⟨i0, hi0, hz0, hz1, hz2⟩ := info_parts infoPce
  obtain ⟨l, hl⟩ : ∃ l, l = splitS s 47 := ⟨_, rfl⟩
  have hsz : ∀ x ∈ l, x.size ≤ 1048576 := fun x hx => by rw [hl] at hx; have := splitS_piece s 47 x hx; omega
  have hln : l.length ≤ 1048577 := by rw [hl]; have := splitS_len s 47; omega
  have HG : Hid (globB s = (decide (l.length ≤ 4) && l.all pieceB)) := by show _ = _; rw [globB, ← hl]
  have HL : Hid (splitS s 47 = l) := hl.symm
  have hcs := implSplit_c s 47 w hs (by omega) (by omega)
  rw [← hl] at hcs
  clear hl
  by_cases h4 : 4 < l.length
  · have h4' : (4 : Int) < (l.length : Int) := by omega
    have HP : Hid (globB s = false) := by show _ = _; rw [HG.out, decide_eq_false (by omega)]; rfl
    go_enter Try.func82, Try.ntmps82
    go_wp2_with (go_at_call 72; refine hcs.mono ?_; rintro e w1 ⟨v, rfl, ho, hb⟩; obtain ⟨a, cap, rfl, _, hc⟩ := reads_strs (reads_of_owns ho); clear ho hcs)
    go_ret2
    exact ⟨_, by rw [HP.out]; rfl, (fun h => by rw [HP.out] at h; cases h), hb⟩
  have h4' : ¬ (4 : Int) < (l.length : Int) := by omega
  have hl4 : l.length ≤ 4 := by omega
  clear h4
  go_enter Try.func82, Try.ntmps82
  go_wp2_with (go_at_call 72; refine hcs.mono ?_; rintro e w1 ⟨v, rfl, ho, hb⟩; obtain ⟨a, cap, rfl, _, hc⟩ := reads_strs (reads_of_owns ho); clear ho hcs)
  go_loopw [5, 17] (fun vo vi wr => ∃ k : Nat, k ≤ l.length ∧ vi = .int .i64 (k : Int) ∧ Hid ((l.take k).all pieceB = true) ∧ PcsOwn w1.heap.size wr vo (l.take k) ∧ Below w1.heap.size w1 wr) (fun _ vi _ => l.length - (intOf vi).toNat)
  case atStart => exact ⟨0, Nat.zero_le _, rfl, (by show _ = _; simp), PcsOwn.start _ _, Below.refl _ _⟩
  case round =>
    obtain ⟨k, hk, rfl, hh, hpo, hbr⟩ := hrel
    have hbw : Below w.heap.size w wr := hb.trans (hbr.mono hb.size)
    by_cases hlt : k < l.length
    · rcases hc with rfl | ⟨b, off, rfl, hbl, hc⟩
      · simp at hlt
      have hki : (k : Int) < (l.length : Int) := by omega
      have hcx := (hbr.cell (p := ⟨b, off + k, none⟩) hbl).trans (hc k hlt)
      have hx := hsz l[k] (List.getElem_mem hlt)
      have htk : (l.take k).length = k := by rw [List.length_take]; omega
      have htk1 : l.take (k + 1) = l.take k ++ [l[k]] := List.take_succ_eq_append_getElem hlt
      obtain ⟨x, hxe⟩ : ∃ x, x = l[k] := ⟨_, rfl⟩
      rw [← hxe] at hcx hx htk1
      have HX : Hid (x = l[k]) := hxe
      have HTK : Hid (l.take (k + 1) = l.take k ++ [x]) := htk1
      have HC : Hid (∀ w, Calls Try.prog 112 #[.string x] w (SgnsPost w x)) := fun w => implSigns_c x w hx
      clear hc hxe hsz htk1
      cases hp : pieceB x with
      | false =>
        have HP : Hid (globB s = false) := by show _ = _; rw [HG.out, all_false_at hlt (by rw [← HX.out]; exact hp), Bool.and_false]
        go_wp2_with (go_at_call 112; refine (HC.out _).mono ?_; rintro e w2 ⟨v2, rfl, _, b2⟩; rw [hp])
        go_ret2
        exact ⟨_, by rw [HP.out]; rfl, (fun h => by rw [HP.out] at h; cases h), hbw.trans (b2.mono hbw.size)⟩
      | true =>
        have hall := all_take_step hlt hh.out (by rw [← HX.out]; exact hp)
        have HALL : Hid ((l.take (k + 1)).all pieceB = true) := hall
        clear hall
        go_wp2_with (first
          | (go_at_call 112; refine (HC.out _).mono ?_; rintro e w2 ⟨v2, rfl, o2, b2⟩
             obtain ⟨o2, hl2⟩ := o2 hp
             rw [hp]
             have o2 := owns_lower3 o2 hbr.size
             obtain ⟨cs, hco, hcc⟩ := hpo.below b2
             have hb2 : Below w1.heap.size w1 w2 := hbr.trans (b2.mono hbr.size)
             obtain ⟨q2, c2, hv2⟩ : ∃ q c, v2 = .slice q (sgnsOf x).length c := by
               rcases o2.2 with ⟨h1, h2⟩ | ⟨g, c, cur, rfl, _⟩
               · exact ⟨none, 0, by rw [h1, h2]⟩
               · exact ⟨_, _, rfl⟩
             subst hv2)
          | (at_builtin; refine wpList_append_own _ rfl _ _ 93 rfl w1.heap.size 99 i0 (.agg #[.bool false, .slice none 0 0]) 2 32 Try.underlying93 hi0 hz0 hz1 hz2 rfl (by decide) _ (l.take k).length cs rfl (hco.alloc _) ⟨w2.heap.size, 0, none⟩ 1 1 [.bool (x.toList == [42, 42]), .slice q2 (sgnsOf x).length c2] rfl rfl (cell_two_c _ _ _ _) (fun u hu => by simp at hu; rcases hu with rfl | rfl <;> rfl) (by unfold maxLen; omega) (by omega) (by have := hb2.size; simp; omega) ?_))
        intro v3 w3 o3 gr3 _
        have hb3 : Below w1.heap.size w1 w3 := Below.grown (hb2.alloc hb2.size _) gr3 (by have := hb2.size; simp; omega) (fun j hj => (hco.lt _ hj).1)
        have hpo3 : PcsOwn w1.heap.size w3 v3 (l.take k ++ [x]) := PcsOwn.grown (hco.alloc _) (fun j hj => by obtain ⟨e0, v, e1, e2, e3⟩ := hcc j hj; exact ⟨e0, v, e1, e2.alloc _, e3⟩) (o2.alloc _) hl2 gr3 (by rw [htk]; exact o3)
        rw [← HTK.out] at hpo3
        clear gr3 o3 hco hcc o2
        go_wp2_with fail
        go_roundw
        case rel => exact ⟨k + 1, by omega, by go_num, HALL, hpo3, hb3⟩
        case measure => simp [intOf]; omega
    · have he : k = l.length := by omega
      subst he
      have ha : l.all pieceB = true := by have := hh.out; rwa [List.take_length] at this
      rw [List.take_length] at hpo
      have HP : Hid (globB s = true) := by show _ = _; rw [HG.out, ha, decide_eq_true hl4]; rfl
      have HQ : Hid (PcsIn (Ow w.heap.size wr.heap.size) wr (u5) (splitS s 47)) := by rw [HL.out]; exact (hpo.pcs hl4).mono (fun b h => ⟨Nat.le_trans hb.size h.1, h.2⟩)
      clear hc hsz ha
      go_wp2_with fail
      go_ret2
      exact ⟨_, by rw [HP.out]; rfl, fun _ => HQ.out, hbw⟩

theorem implGlob_c (s : ByteArray) (w : World) (hs : s.size ≤ 1048576) :
    Calls Try.prog 38 #[.string s] w fun e w' => e = .returned (.bool (globB s)) ∧ Below w.heap.size w w' := by
  have HC := implRead_c s w hs
  go_enter Try.func38, Try.ntmps38
  go_wp2_with (go_at_call 82; refine HC.mono ?_; rintro e w1 ⟨v, rfl, _, b1⟩)
  go_ret
  exact ⟨rfl, b1⟩

def matchB (g p : ByteArray) : Bool := globB g && (pathB p && fullG manyT takesT (splitS g 47) (splitS p 47))

set_option maxHeartbeats 1000000 in
theorem implMatches_c (g p : ByteArray) (w : World) (hg : g.size ≤ 1048576) (hp : p.size ≤ 1048576) :
    Calls Try.prog 36 #[.string g, .string p] w fun e w' => e = .returned (.bool (matchB g p)) ∧ Below w.heap.size w w' := by
  have HC := implRead_c g w hg
  have HP : Hid (∀ w, Calls Try.prog 27 #[.string p] w fun e w' => e = .returned (.bool (pathB p)) ∧ Below w.heap.size w w') := fun w => implPath_c p w hp
  have HS : Hid (∀ w, Calls Try.prog 72 #[.string p, .int .u8 47] w fun e w' => ∃ v, e = .returned v ∧ w'.ownsRow w.heap.size 9 1 v (splitS p 47).length (strsV (splitS p 47)) ∧ Below w.heap.size w w') := fun w => implSplit_c p 47 w hp (by omega) (by omega)
  have HM : Hid (matchB g p = (globB g && (pathB p && fullG manyT takesT (splitS g 47) (splitS p 47)))) := rfl
  have hsz : ∀ x ∈ splitS p 47, x.size ≤ 1048576 := fun x hx => by have := splitS_piece p 47 x hx; omega
  have hln : (splitS p 47).length ≤ 1048577 := by have := splitS_len p 47; omega
  cases h1 : globB g with
  | false =>
    have HE : Hid (matchB g p = false) := by show _ = _; rw [HM.out, h1]; rfl
    go_enter Try.func36, Try.ntmps36
    go_wp2_with (go_at_call 82; refine HC.mono ?_; rintro e w1 ⟨v, rfl, _, b1⟩; rw [h1])
    go_ret
    exact ⟨by rw [HE.out]; try rfl, b1⟩
  | true =>
    cases h2 : pathB p with
    | false =>
      have HE : Hid (matchB g p = false) := by show _ = _; rw [HM.out, h1, h2]; rfl
      go_enter Try.func36, Try.ntmps36
      go_wp2_with (first
        | (go_at_call 82; refine HC.mono ?_; rintro e w1 ⟨v, rfl, _, b1⟩; rw [h1])
        | (go_at_call 27; refine (HP.out _).mono ?_; rintro e w2 ⟨rfl, b2⟩; rw [h2]))
      go_ret
      exact ⟨by rw [HE.out]; try rfl, b1.trans (b2.mono b1.size)⟩
    | true =>
      have HE : Hid (matchB g p = fullG manyT takesT (splitS g 47) (splitS p 47)) := by show _ = _; rw [HM.out, h1, h2]; rfl
      go_enter Try.func36, Try.ntmps36
      go_wp2_with (first
        | (go_at_call 82; refine HC.mono ?_; rintro e w1 ⟨v, rfl, hpi, b1⟩; rw [h1]; have hpi := hpi h1)
        | (go_at_call 27; refine (HP.out _).mono ?_; rintro e w2 ⟨rfl, b2⟩; rw [h2]; have hpi2 := hpi.keep (Ow.below b2))
        | (go_at_call 72; refine (HS.out _).mono ?_; rintro e w3 ⟨u, rfl, o3, b3⟩; have hpi3 := hpi2.keep (.of b3 (fun b h => Nat.lt_of_lt_of_le h.2 b2.size)))
        | (go_at_call 83; refine (goPieces_c _ v u _ _ w3 hpi3 (fun b h => Nat.lt_of_lt_of_le h.2 (Nat.le_trans b2.size b3.size)) (reads_of_owns o3) hsz hln).mono ?_; rintro e w4 ⟨rfl, b4⟩))
      go_ret
      have k2 := b1.trans (b2.mono b1.size)
      have k3 := k2.trans (b3.mono k2.size)
      exact ⟨by rw [HE.out]; try rfl, k3.trans (b4.mono k3.size)⟩
end Go.Proofs.Ytbkmjbjiagkjmaa
