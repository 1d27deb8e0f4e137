/-
  Contracts for the walks, several texts in one: each part says what it proves, and under which conditions.
-/
import Derived.Test.YtdiopkegaeliaaaDoorQ1
import Derived.Test.YtdiopkegaeliaaaDoorQ3
import Derived.Test.YtdiopkegaeliaaaDoorQ2

/-! Whether a text is a filter, as the program asks it: contracts for the walks; conditions: a text has at most 2 to the 20 bytes, and the library's bound is a number. -/
namespace Go.Proofs.YtdiopkegaeliaaaDoor
open Go.RowKit
set_option linter.unusedSimpArgs false
set_option linter.unusedVariables false

theorem cutp_hit {s p : ByteArray} (h : hpB s p = true) : (⟨(Lib.trimPrefix s.data.toList p.data.toList).toArray⟩ : ByteArray) = s.extract p.size s.size := by
  have h9 := hp_raw s p
  rw [h] at h9
  simp only [Bool.and_eq_true, decide_eq_true_eq] at h9
  exact Lib.trimPrefix_hit s p h9.1 h9.2
theorem cuts_hit {s p : ByteArray} (h : hsB s p = true) : (⟨(Lib.trimSuffix s.data.toList p.data.toList).toArray⟩ : ByteArray) = s.extract 0 (s.size - p.size) := by
  have h9 := hs_raw s p
  rw [h] at h9
  simp only [Bool.and_eq_true, decide_eq_true_eq] at h9
  exact Lib.trimSuffix_hit s p h9.1 h9.2
/-- What the outermost form is, and what it holds. -/
def fnF (s : ByteArray) : Value := if hpB s bangT = true then .func (.func 31) #[] #[] else if hpB s dotsT = true then .func (.func 32) #[] #[] else if hsB s dotsT = true then .func (.func 34) #[] #[] else .nilFunc
def restF (s : ByteArray) : ByteArray := (outF s).getD s
theorem fn_some {s t : ByteArray} (h : outF s = some t) : (∃ k, fnF s = .func (.func k) #[] #[]) ∧ restF s = t := by
  refine ⟨?_, by unfold restF; rw [h]; rfl⟩
  unfold outF at h
  unfold fnF
  split
  · exact ⟨_, rfl⟩
  · rename_i h1
    rw [if_neg h1] at h
    split
    · exact ⟨_, rfl⟩
    · rename_i h2
      rw [if_neg h2] at h
      split
      · exact ⟨_, rfl⟩
      · rename_i h3
        rw [if_neg h3] at h
        cases h
theorem fn_none {s : ByteArray} (h : outF s = none) : fnF s = .nilFunc ∧ restF s = s := by
  refine ⟨?_, by unfold restF; rw [h]; rfl⟩
  unfold outF at h
  unfold fnF
  split
  · rename_i h1; rw [if_pos h1] at h; cases h
  · rename_i h1
    rw [if_neg h1] at h
    split
    · rename_i h2; rw [if_pos h2] at h; cases h
    · rename_i h2
      rw [if_neg h2] at h
      split
      · rename_i h3; rw [if_pos h3] at h; cases h
      · rfl

set_option maxHeartbeats 4000000 in
set_option maxRecDepth 100000 in
theorem outer_c (s : ByteArray) (hs : s.size ≤ 1048576) (w : World) :
    Calls Tryd.prog 19 #[.string s] w fun e w' => e = .returned (.tuple #[fnF s, .string (restF s)]) ∧ w = w' := by
  have H1 := hidden (Tryd.strings_CutPrefix s ⟨#[33]⟩ w)
  have H2 := hidden (Tryd.strings_CutPrefix s ⟨#[46, 46, 46]⟩ w)
  have H3 := hidden (Tryd.strings_CutSuffix s ⟨#[46, 46, 46]⟩ w (by omega))
  have hu : outF s = if hpB s bangT = true then some (s.extract 1 s.size) else if hpB s dotsT = true then some (s.extract 3 s.size) else if hsB s dotsT = true then some (s.extract 0 (s.size - 3)) else none := rfl
  have hf : fnF s = if hpB s bangT = true then .func (.func 31) #[] #[] else if hpB s dotsT = true then .func (.func 32) #[] #[] else if hsB s dotsT = true then .func (.func 34) #[] #[] else .nilFunc := rfl
  by_cases h1 : hpB s bangT = true
  · rw [if_pos h1] at hu hf
    rw [show Lib.hasPrefix s.data.toList (⟨#[33]⟩ : ByteArray).data.toList = true from h1, show (⟨(Lib.trimPrefix s.data.toList (⟨#[33]⟩ : ByteArray).data.toList).toArray⟩ : ByteArray) = s.extract 1 s.size from cutp_hit h1] at H1
    have hr : restF s = s.extract 1 s.size := by unfold restF; rw [hu]; rfl
    rw [hf, hr]
    clear H2 H3 hu hf hr h1
    go_enter Tryd.func19, Tryd.ntmps19
    go_wp2_with fail
    go_at_call 30
    refine H1.out.mono ?_
    rintro e w1 ⟨rfl, hw⟩
    rw [hw]
    clear hw
    go_wp2_with fail
    go_ret2
    exact ⟨rfl, rfl⟩
  rw [if_neg h1] at hu hf
  have g1 : Lib.hasPrefix s.data.toList (⟨#[33]⟩ : ByteArray).data.toList = false := (by simpa using h1 : hpB s bangT = false)
  rw [g1] at H1
  obtain ⟨x1, hx1⟩ : ∃ x, x = (⟨(Lib.trimPrefix s.data.toList (⟨#[33]⟩ : ByteArray).data.toList).toArray⟩ : ByteArray) := ⟨_, rfl⟩
  rw [← hx1] at H1
  by_cases h2 : hpB s dotsT = true
  · rw [if_pos h2] at hu hf
    rw [show Lib.hasPrefix s.data.toList (⟨#[46, 46, 46]⟩ : ByteArray).data.toList = true from h2, show (⟨(Lib.trimPrefix s.data.toList (⟨#[46, 46, 46]⟩ : ByteArray).data.toList).toArray⟩ : ByteArray) = s.extract 3 s.size from cutp_hit h2] at H2
    have hr : restF s = s.extract 3 s.size := by unfold restF; rw [hu]; rfl
    rw [hf, hr]
    clear H3 hu hf hr h1 h2 hx1 g1
    go_enter Tryd.func19, Tryd.ntmps19
    go_wp2_with fail
    go_at_call 30
    refine H1.out.mono ?_
    rintro e w1 ⟨rfl, hw⟩
    rw [hw]
    clear hw
    go_wp2_with fail
    clear H1
    go_at_call 30
    refine H2.out.mono ?_
    rintro e w1 ⟨rfl, hw⟩
    rw [hw]
    clear hw
    go_wp2_with fail
    go_ret2
    exact ⟨rfl, rfl⟩
  rw [if_neg h2] at hu hf
  have g2 : Lib.hasPrefix s.data.toList (⟨#[46, 46, 46]⟩ : ByteArray).data.toList = false := (by simpa using h2 : hpB s dotsT = false)
  rw [g2] at H2
  obtain ⟨x2, hx2⟩ : ∃ x, x = (⟨(Lib.trimPrefix s.data.toList (⟨#[46, 46, 46]⟩ : ByteArray).data.toList).toArray⟩ : ByteArray) := ⟨_, rfl⟩
  rw [← hx2] at H2
  by_cases h3 : hsB s dotsT = true
  · rw [if_pos h3] at hu hf
    rw [show Lib.hasSuffix s.data.toList (⟨#[46, 46, 46]⟩ : ByteArray).data.toList = true from h3, show (⟨(Lib.trimSuffix s.data.toList (⟨#[46, 46, 46]⟩ : ByteArray).data.toList).toArray⟩ : ByteArray) = s.extract 0 (s.size - 3) from cuts_hit h3] at H3
    have hr : restF s = s.extract 0 (s.size - 3) := by unfold restF; rw [hu]; rfl
    rw [hf, hr]
    clear hu hf hr h1 h2 h3 hx1 hx2 g1 g2
    go_enter Tryd.func19, Tryd.ntmps19
    go_wp2_with fail
    go_at_call 30
    refine H1.out.mono ?_
    rintro e w1 ⟨rfl, hw⟩
    rw [hw]
    clear hw
    go_wp2_with fail
    clear H1
    go_at_call 30
    refine H2.out.mono ?_
    rintro e w1 ⟨rfl, hw⟩
    rw [hw]
    clear hw
    go_wp2_with fail
    clear H2
    go_at_call 33
    refine H3.out.mono ?_
    rintro e w1 ⟨rfl, hw⟩
    rw [hw]
    clear hw
    go_wp2_with fail
    go_ret2
    exact ⟨rfl, rfl⟩
  rw [if_neg h3] at hu hf
  have g3 : Lib.hasSuffix s.data.toList (⟨#[46, 46, 46]⟩ : ByteArray).data.toList = false := (by simpa using h3 : hsB s dotsT = false)
  rw [g3] at H3
  obtain ⟨x3, hx3⟩ : ∃ x, x = (⟨(Lib.trimSuffix s.data.toList (⟨#[46, 46, 46]⟩ : ByteArray).data.toList).toArray⟩ : ByteArray) := ⟨_, rfl⟩
  rw [← hx3] at H3
  have hr : restF s = s := by unfold restF; rw [hu]; rfl
  rw [hf, hr]
  clear hu hf hr h1 h2 h3 hx1 hx2 hx3 g1 g2 g3
  · go_enter Tryd.func19, Tryd.ntmps19
    go_wp2_with fail
    go_at_call 30
    refine H1.out.mono ?_
    rintro e w1 ⟨rfl, hw⟩
    rw [hw]
    clear hw
    go_wp2_with fail
    clear H1
    go_at_call 30
    refine H2.out.mono ?_
    rintro e w1 ⟨rfl, hw⟩
    rw [hw]
    clear hw
    go_wp2_with fail
    clear H2
    go_at_call 33
    refine H3.out.mono ?_
    rintro e w1 ⟨rfl, hw⟩
    rw [hw]
    clear hw
    go_wp2_with fail
    go_ret2
    exact ⟨rfl, rfl⟩

set_option maxHeartbeats 2000000 in
set_option maxRecDepth 100000 in
theorem nameF_c (s : ByteArray) (w : World) :
    Calls Tryd.prog 23 #[.string s] w fun e w' => e = .returned (.func (.func 39) #[] #[.pointer (some ⟨w.heap.size, 0, none⟩)]) ∧ Below w.heap.size w w' := by
  have hmf : ∀ (fn : Fn) (first cap : Array Value) (w : World), (Instr.makeFunc fn first cap).run Tryd.prog w = .ok (.func fn first cap) w := fun _ _ _ _ => rfl
  have hbx : ∀ o, Below w.heap.size w (w.alloc o) := fun o => (Below.refl _ _).alloc (Nat.le_refl _) _
  go_enter Tryd.func23, Tryd.ntmps23
  go_wp2_with fail
  go_ret
  exact ⟨rfl, hbx _⟩
theorem owns_belowF {w w' : World} {lo sz n : Nat} {e : TypeId} {v : Value} {xs : List Value} (h : w.ownsRow lo e sz v n xs) (hb : Below w.heap.size w w') : w'.ownsRow lo e sz v n xs := h.kept (grown_of_below hb none) (by cases hq : v.ownBlock <;> simp)
theorem eqF_f (k : FuncId) (w : World) : (Go.binOp BinOp.eql 40 (.func (.func k) #[] #[]) .nilFunc).run Tryd.prog w = .ok (.bool false) w := by
  first | rfl | kernel_rfl | simp [Go.binOp, Op.equal, Op.equalIn, Op.maxDepth, go_sem, Tryd.underlying40]
theorem eqF_n (w : World) : (Go.binOp BinOp.eql 40 .nilFunc .nilFunc).run Tryd.prog w = .ok (.bool true) w := by
  first | rfl | kernel_rfl | simp [Go.binOp, Op.equal, Op.equalIn, Op.maxDepth, go_sem, Tryd.underlying40]
theorem infoFl : (Tryd.prog.info? 40).map (fun i => (i.zero, i.size, i.bytes)) = some (some .nilFunc, 1, 8) := by kernel_rfl
theorem infoFp : (Tryd.prog.info? 34).map (fun i => (i.zero, i.size, i.bytes)) = some (some (.agg #[.bool false, .slice none 0 0]), 2, 32) := by kernel_rfl
theorem owns_slF {w : World} {lo sz n : Nat} {e : TypeId} {v : Value} {xs : List Value} (h : w.ownsRow lo e sz v n xs) : ∃ q cap, v = .slice q n cap := by
  rcases h.2 with ⟨h1, h0⟩ | ⟨g, cap, cur, h1, _⟩
  · exact ⟨none, 0, by rw [h1, h0]⟩
  · exact ⟨_, _, h1⟩
theorem one_srcF (w : World) (v : Value) (t : TypeId) : ∀ j u, ([v] : List Value)[j]? = some u → (w.alloc (.cells #[v] t)).cell? ((⟨w.heap.size, 0, none⟩ : Addr).add j) = some u := fun j u hj => by
  have hj0 : j = 0 := by have := (List.getElem?_eq_some_iff.1 hj).1; simp at this; omega
  subst hj0
  simp at hj
  subst hj
  have e : ((⟨w.heap.size, 0, none⟩ : Addr).add 0) = ⟨w.heap.size, 0, none⟩ := by unfold Addr.add; split <;> simp_all
  rw [e]
  exact vblk_cell (vheap_new _ _) 0
theorem two_srcF (w : World) (c0 c1 : Value) (t : TypeId) : ∀ j u, ([c0, c1] : List Value)[j]? = some u → (w.alloc (.cells #[c0, c1] t)).cell? ((⟨w.heap.size, 0, none⟩ : Addr).add j) = some u := fun j u hu => by
  have e : ((⟨w.heap.size, 0, none⟩ : Addr).add j) = ⟨w.heap.size, j, none⟩ := by unfold Addr.add; split <;> simp_all
  rw [e, vblk_cell (vheap_new _ _) j]
  simpa using hu

theorem name_alikeG (a b : ByteArray) : (a.toList == b.toList) = decide (a = b) := by
  by_cases h : a = b
  · subst h; simp
  · rw [decide_eq_false h]
    cases hh : (a.toList == b.toList) with
    | false => rfl
    | true => exact absurd (bytes_eq_of_toList (by simpa using hh)) h
set_option maxHeartbeats 8000000 in
set_option maxRecDepth 100000 in
theorem readForms_c (s : ByteArray) (hs : s.size ≤ 1048576) (w : World) :
    Calls Tryd.prog 13 #[.string s] w fun e w' => ∃ q n c, e = .returned (.tuple #[.slice q n c, .bool (oneB s)]) ∧ Below w.heap.size w w' := by
  obtain ⟨i0, hi, hz0, hz1, hz2⟩ := info_parts infoFl
  have hEF := eqF_f
  have hEN := eqF_n
  obtain ⟨R, hR⟩ : ∃ R, R = oneB s := ⟨_, rfl⟩
  rw [← hR]
  have HR0 : Hid (oneG s.size s = R) := hR.symm
  clear hR
  go_enter Tryd.func13, Tryd.ntmps13
  go_wp2_with fail
  go_loopw [0, 4] (fun v0 vx wr => ∃ (t : ByteArray) (f : Nat) (xs : List Value), v0 = .string t ∧ t.size ≤ f ∧ xs.length + t.size ≤ s.size ∧ Hid (oneG f t = R) ∧ wr.ownsRow w.heap.size 40 1 vx xs.length xs ∧ Below w.heap.size w wr) (fun v0 _ _ => match v0 with | .string t => t.size | _ => 0)
  case atStart => exact ⟨s, s.size, [], rfl, Nat.le_refl _, by simp, HR0, World.ownsRow_nil _ _ _ _, Below.refl _ _⟩
  case round =>
    clear HR0
    obtain ⟨t, f, xs, rfl, htf, hxt, HR, hown, hbr⟩ := hrel
    obtain ⟨qo, co, hvo⟩ := owns_slF hown
    subst hvo
    have hts : t.size ≤ 1048576 := by omega
    have HO := hidden (outer_c t hts wr)
    cases ho : outF t with
    | some u =>
      have hlt := outF_lt ho
      obtain ⟨⟨kf, hk⟩, hr⟩ := fn_some ho
      rw [hk, hr] at HO
      have HR2 : Hid (oneG (f - 1) u = R) := by show _ = _; rw [← HR.out, oneG_some htf ho]
      clear hk hr HR ho
      go_wp2_with fail
      go_at_call 19
      refine HO.out.mono ?_
      rintro e w1 ⟨rfl, rfl⟩
      clear HO
      go_wp2_with (at_builtin; refine wpList_append_own _ rfl _ _ 30 rfl w.heap.size 40 i0 .nilFunc 1 8 Tryd.underlying30 hi hz0 hz1 hz2 rfl (by decide) _ xs.length xs rfl (hown.alloc _) ⟨wr.heap.size, 0, none⟩ 1 1 [.func (.func kf) #[] #[]] rfl rfl (one_srcF _ _ _) (fun u hu => by simp at hu; subst hu; rfl) (by unfold maxLen; omega) (by omega) (by have := hbr.size; simp; omega) ?_)
      intro v2 w2 o2 gr2 hnil
      have k2 : Below w.heap.size w w2 := Below.grown (hbr.alloc hbr.size _) gr2 (by have := hbr.size; simp; omega) (fun j hj => (hown.lt _ hj).1)
      clear gr2 hnil hown hbr
      go_wp2_with fail
      go_roundw
      case rel => exact ⟨u, f - 1, xs ++ [_], rfl, by omega, by simp; omega, HR2, by simpa using o2, k2⟩
      case measure => simp; omega
    | none =>
      obtain ⟨hk, hr⟩ := fn_none ho
      rw [hk, hr] at HO
      have hR2 : leafB t = R := by rw [← HR.out, oneG_none ho]
      have hal : (t.toList == sinceT.toList) = decide (t = sinceT) := name_alikeG t sinceT
      rw [show sinceT.toList = [91, 115, 105, 110, 99, 101, 93] by decide +kernel] at hal
      unfold leafB at hR2
      rw [← leaf_eq] at hR2
      have HC := hidden (fun w1 => Tryd.strings_Contains_one t 47 w1)
      rw [show (decide (0 ≤ Lib.indexByte t.data.toList 47)) = slB t from rfl] at HC
      have HG := hidden (fun w1 => implGlob_c t w1 hts)
      have HN := hidden (fun w1 => nameF_c t w1)
      obtain ⟨cb, hcb⟩ : ∃ c, c = slB t := ⟨_, rfl⟩
      rw [← hcb] at HC hR2
      obtain ⟨gb, hgb⟩ : ∃ c, c = globB t := ⟨_, rfl⟩
      rw [← hgb] at HG hR2
      obtain ⟨sb, hsb⟩ : ∃ p, p = decide (t = sinceT) := ⟨_, rfl⟩
      rw [← hsb] at hR2 hal
      clear hk hr HR ho hcb hgb hsb
      cases sb with
      | true =>
        have hR3 : R = true := by rw [← hR2]; rfl
        subst hR3
        clear HC HG HN hR2
        go_wp2_with fail
        go_at_call 19
        refine HO.out.mono ?_
        rintro e w1 ⟨rfl, rfl⟩
        clear HO
        go_wp2_with (at_builtin; refine wpList_append_own _ rfl _ _ 30 rfl w.heap.size 40 i0 .nilFunc 1 8 Tryd.underlying30 hi hz0 hz1 hz2 rfl (by decide) _ xs.length xs rfl (hown.alloc _) ⟨wr.heap.size, 0, none⟩ 1 1 [.func (.func 20) #[] #[]] rfl rfl (one_srcF _ _ _) (fun u hu => by simp at hu; subst hu; rfl) (by unfold maxLen; omega) (by omega) (by have := hbr.size; simp; omega) ?_)
        intro v2 w2 o2 gr2 hnil
        have k2 : Below w.heap.size w w2 := Below.grown (hbr.alloc hbr.size _) gr2 (by have := hbr.size; simp; omega) (fun j hj => (hown.lt _ hj).1)
        obtain ⟨qo2, co2, hvo2⟩ := owns_slF o2
        subst hvo2
        clear gr2 hnil hown hbr o2
        go_wp2_with fail
        go_ret2
        exact ⟨_, _, _, rfl, k2⟩
      | false =>
        rw [Bool.false_or] at hR2
        by_cases h20 : t.size ≤ 20
        · have h20' : ¬ (20 : Int) < (t.size : Int) := by omega
          rw [decide_eq_true h20, Bool.true_and] at hR2
          cases cb with
          | true =>
            have hR3 : R = false := by rw [← hR2]; rfl
            subst hR3
            clear HG HN hR2
            go_wp2_with fail
            go_at_call 19
            refine HO.out.mono ?_
            rintro e w1 ⟨rfl, rfl⟩
            clear HO
            go_wp2_with fail
            go_at_call 21
            refine (HC.out _).mono ?_
            rintro e w1 ⟨rfl, hw⟩
            rw [hw]
            clear hw HC
            go_wp2_with fail
            go_ret2
            exact ⟨_, _, _, rfl, hbr⟩
          | false =>
            have hR3 : R = gb := by rw [← hR2]; rfl
            subst hR3
            clear hR2
            cases R with
            | false =>
              go_wp2_with fail
              go_at_call 19
              refine HO.out.mono ?_
              rintro e w1 ⟨rfl, rfl⟩
              clear HO
              go_wp2_with fail
              go_at_call 21
              refine (HC.out _).mono ?_
              rintro e w1 ⟨rfl, hw⟩
              rw [hw]
              clear hw HC
              go_wp2_with fail
              go_at_call 22
              refine (HG.out _).mono ?_
              rintro e w2 ⟨rfl, b2⟩
              go_wp2_with fail
              go_ret2
              exact ⟨_, _, _, rfl, hbr.trans (b2.mono hbr.size)⟩
            | true =>
              go_wp2_with fail
              go_at_call 19
              refine HO.out.mono ?_
              rintro e w1 ⟨rfl, rfl⟩
              clear HO
              go_wp2_with fail
              go_at_call 21
              refine (HC.out _).mono ?_
              rintro e w1 ⟨rfl, hw⟩
              rw [hw]
              clear hw HC
              go_wp2_with fail
              go_at_call 22
              refine (HG.out _).mono ?_
              rintro e w2 ⟨rfl, b2⟩
              have o2 := owns_belowF hown b2
              have k2 := hbr.trans (b2.mono hbr.size)
              clear hown hbr b2 HG
              go_wp2_with fail
              go_at_call 23
              refine (HN.out _).mono ?_
              rintro e w3 ⟨rfl, b3⟩
              have o3 := owns_of_below o2 b3
              have k3 := k2.trans (b3.mono k2.size)
              clear o2 k2 b3 HN
              go_wp2_with (at_builtin; refine wpList_append_own _ rfl _ _ 30 rfl w.heap.size 40 i0 .nilFunc 1 8 Tryd.underlying30 hi hz0 hz1 hz2 rfl (by decide) _ xs.length xs rfl (o3.alloc _) ⟨w3.heap.size, 0, none⟩ 1 1 [.func (.func 39) #[] #[.pointer (some ⟨w2.heap.size, 0, none⟩)]] rfl rfl (one_srcF _ _ _) (fun u hu => by simp at hu; subst hu; rfl) (by unfold maxLen; omega) (by omega) (by have := k3.size; simp; omega) ?_)
              intro v4 w4 o4 gr4 hnil
              have k4 : Below w.heap.size w w4 := Below.grown (k3.alloc k3.size _) gr4 (by have := k3.size; simp; omega) (fun j hj => (o3.lt _ hj).1)
              obtain ⟨qo4, co4, hvo4⟩ := owns_slF o4
              subst hvo4
              clear gr4 hnil o3 k3 o4
              go_wp2_with fail
              go_ret2
              exact ⟨_, _, _, rfl, k4⟩
        · have h20' : (20 : Int) < (t.size : Int) := by omega
          have hR3 : R = false := by rw [← hR2, decide_eq_false h20]; rfl
          subst hR3
          clear hR2 HC HG HN
          go_wp2_with fail
          go_at_call 19
          refine HO.out.mono ?_
          rintro e w1 ⟨rfl, rfl⟩
          clear HO
          go_wp2_with fail
          go_ret2
          exact ⟨_, _, _, rfl, hbr⟩

theorem splitB_pieceF (sep : ByteArray) (save : Nat) (hsv : save = 0) : ∀ (k : Nat) (s : ByteArray), ∀ x ∈ Lib.splitB sep save k s, x.size ≤ s.size
  | 0, s => fun x hx => by simp [Lib.splitB] at hx; subst hx; exact Nat.le_refl _
  | k + 1, s => fun x hx => by
    rw [Lib.splitB] at hx
    split at hx
    · simp at hx; subst hx; exact Nat.le_refl _
    · rcases List.mem_cons.1 hx with rfl | hx
      · rw [ByteArray.size_extract]; omega
      · refine Nat.le_trans (splitB_pieceF sep save hsv k _ x hx) ?_
        rw [ByteArray.size_extract]; omega
set_option maxHeartbeats 8000000 in
set_option maxRecDepth 100000 in
theorem readFilter_c (s : ByteArray) (hs : s.size ≤ 1048576) (m : Int) (w : World) (hm : w.cell? ⟨0, 0, none⟩ = some (.int .i64 m)) :
    Calls Tryd.prog 8 #[.string s] w fun e w' => ∃ q n c, e = .returned (.tuple #[.slice q n c, .bool (filtB s)]) ∧ Below w.heap.size w w' := by
  obtain ⟨i0, hi, hz0, hz1, hz2⟩ := info_parts infoFp
  have hfl := few_len s
  have HS : Calls Tryd.prog 12 #[.string s, .string ⟨#[32]⟩, .int .i64 5] w fun e w' => e = .returned (.slice (some ⟨w.heap.size, 0, none⟩) (fewS s).length (min 5 (s.size + 1))) ∧ w' = w.alloc (.cells (Lib.cellsOf (fewS s) (min 5 (s.size + 1))) 9) := Tryd.strings_SplitN s ⟨#[32]⟩ 5 m w (by omega) hm (by decide) (by decide) (by decide)
  have hpc : ∀ x ∈ fewS s, x.size ≤ 1048576 := fun x hx => Nat.le_trans (splitB_pieceF blankT 0 rfl _ s x hx) hs
  have hcase := few_cases s
  have HF : Hid (filtB s = (decide ((splitS s 32).length ≤ 4) && (splitS s 32).all oneB)) := rfl
  obtain ⟨R, hR⟩ : ∃ R, R = filtB s := ⟨_, rfl⟩
  rw [← hR] at HF ⊢
  obtain ⟨T, hT⟩ : ∃ T, T = fewS s := ⟨_, rfl⟩
  rw [← hT] at HS hpc hcase hfl
  obtain ⟨N, hN⟩ : ∃ N, N = min 5 (s.size + 1) := ⟨_, rfl⟩
  rw [← hN] at HS hfl
  have hN5 : N ≤ 5 := by omega
  have b3 : Below w.heap.size w (w.alloc (.cells (Lib.cellsOf T N) 9)) := (Below.refl _ _).alloc (Nat.le_refl _) _
  have hcell : ∀ k (h : k < T.length), (w.alloc (.cells (Lib.cellsOf T N) 9)).cell? ⟨w.heap.size, k, none⟩ = some (.string T[k]) := fun k h => by
    have e : (w.alloc (.cells (Lib.cellsOf T N) 9)).cell? ⟨w.heap.size, k, none⟩ = (Lib.cellsOf T N)[k]? := vblk_cell (vheap_new _ _) k
    rw [e]
    simp [Lib.cellsOf, List.getElem?_append, h]
  have hs3 : (w.alloc (.cells (Lib.cellsOf T N) 9)).heap.size = w.heap.size + 1 := by simp
  have HS2 := hidden HS
  clear hR hT hN HS hm
  go_enter Tryd.func8, Tryd.ntmps8
  go_wp2_with fail
  go_at_call 12
  refine HS2.out.mono ?_
  rintro e w' ⟨rfl, rfl⟩
  generalize (w.alloc (.cells (Lib.cellsOf T N) 9)) = w3 at b3 hcell hs3 ⊢
  have hbq : w.heap.size < w3.heap.size := by omega
  clear HS2 hs3
  rcases hcase with ⟨h4, hTe⟩ | ⟨h4, h4T⟩
  · rw [← hTe] at HF h4
    have h4' : ¬ (4 : Int) < (T.length : Int) := by omega
    clear hTe
    go_wp2_with fail
    go_loopw [5, 17] (fun vx vi wr => ∃ (k : Nat) (xs : List Value), k ≤ T.length ∧ vi = .int .i64 (k : Int) ∧ Hid (∀ i (hi : i < T.length), i < k → oneB T[i] = true) ∧ wr.ownsRow w3.heap.size 34 2 vx k xs ∧ Below w3.heap.size w3 wr) (fun _ vi _ => T.length - (intOf vi).toNat)
    case atStart => exact ⟨0, [], Nat.zero_le _, rfl, (fun i hi h => by omega), World.ownsRow_nil _ _ _ _, Below.refl _ _⟩
    case round =>
      obtain ⟨k, xs, hk, rfl, hall, hown, hbr⟩ := hrel
      obtain ⟨qo, co, hvo⟩ := owns_slF hown
      subst hvo
      have kw := b3.trans (hbr.mono (by omega))
      by_cases hlt' : k < T.length
      · have e0 : wr.cell? ⟨w.heap.size, k, none⟩ = some (.string T[k]) := (hbr.cell (p := ⟨w.heap.size, k, none⟩) hbq).trans (hcell k hlt')
        have hsk := hpc T[k] (List.getElem_mem hlt')
        have HO := hidden (readForms_c T[k] hsk wr)
        have HY : Hid (oneB T[k] = true → ∀ i (hi : i < T.length), i < k + 1 → oneB T[i] = true) := fun h i hi hik => by
          by_cases e : i = k
          · subst e; exact h
          · exact hall.out i hi (by omega)
        have HN : Hid (oneB T[k] = false → R = false) := fun h => by
          rw [HF.out]
          have : T.all oneB = false := by
            cases hq : T.all oneB with
            | false => rfl
            | true => have := List.all_eq_true.1 hq _ (List.getElem_mem hlt'); rw [h] at this; cases this
          rw [this, Bool.and_false]
        have hki : (k : Int) < (T.length : Int) := by omega
        have HP := hidden (fun w1 => Tryd.strings_HasPrefix T[k] ⟨#[33]⟩ w1)
        obtain ⟨r, hr⟩ : ∃ r, r = oneB T[k] := ⟨_, rfl⟩
        rw [← hr] at HY HN HO
        obtain ⟨t, ht⟩ : ∃ t, t = T[k] := ⟨_, rfl⟩
        rw [← ht] at e0 HO HP
        obtain ⟨pb, hpb⟩ : ∃ p, p = Lib.hasPrefix t.data.toList (⟨#[33]⟩ : ByteArray).data.toList := ⟨_, rfl⟩
        rw [← hpb] at HP
        clear hpb hcell hr ht hall hsk hpc HF
        cases r with
        | false =>
          have HN2 := HN.out rfl
          subst HN2
          clear HY HN HP
          go_wp2_with fail
          go_at_call 13
          refine HO.out.mono ?_
          rintro e w2 ⟨q2, n2, c2, rfl, b2⟩
          go_wp2_with fail
          go_ret2
          exact ⟨_, _, _, rfl, kw.trans (b2.mono kw.size)⟩
        | true =>
          have HY2 := hidden (HY.out rfl)
          clear HY HN
          by_cases hk0 : k = 0
          · subst hk0
            clear HP
            go_wp2_with fail
            go_at_call 13
            refine HO.out.mono ?_
            rintro e w2 ⟨q2, n2, c2, rfl, b2⟩
            have o2 := owns_belowF hown b2
            have k2 := hbr.trans (b2.mono hbr.size)
            clear hown hbr HO kw
            go_wp2_with (at_builtin; refine wpList_append_own _ rfl _ _ 25 rfl w3.heap.size 34 i0 (.agg #[.bool false, .slice none 0 0]) 2 32 Tryd.underlying25 hi hz0 hz1 hz2 rfl (by decide) _ 0 xs rfl (o2.alloc _) ⟨w2.heap.size, 0, none⟩ 1 1 [.bool false, .slice q2 n2 c2] rfl rfl (two_srcF _ _ _ _) (fun u hu => by simp at hu; rcases hu with rfl | rfl <;> rfl) (by unfold maxLen; omega) (by omega) (by have := k2.size; simp; omega) ?_)
            intro v4 w4 o4 gr4 hnil
            have k4 : Below w3.heap.size w3 w4 := Below.grown (k2.alloc k2.size _) gr4 (by have := k2.size; simp; omega) (fun j hj => by have := (o2.lt _ hj).1; omega)
            clear gr4 hnil o2 k2
            go_wp2_with fail
            go_roundw
            case rel => exact ⟨0 + 1, _, by omega, by go_num, HY2.out, o4, k4⟩
            case measure => simp [intOf]; omega
          · have hk0' : (0 : Int) < (k : Int) := by omega
            go_wp2_with fail
            go_at_call 13
            refine HO.out.mono ?_
            rintro e w2 ⟨q2, n2, c2, rfl, b2⟩
            have o2 := owns_belowF hown b2
            have k2 := hbr.trans (b2.mono hbr.size)
            clear hown hbr HO kw
            go_wp2_with fail
            go_at_call 14
            refine (HP.out _).mono ?_
            rintro e w5 ⟨rfl, hw⟩
            rw [hw]
            clear hw HP
            go_wp2_with (at_builtin; refine wpList_append_own _ rfl _ _ 25 rfl w3.heap.size 34 i0 (.agg #[.bool false, .slice none 0 0]) 2 32 Tryd.underlying25 hi hz0 hz1 hz2 rfl (by decide) _ k xs rfl (o2.alloc _) ⟨w2.heap.size, 0, none⟩ 1 1 [.bool pb, .slice q2 n2 c2] rfl rfl (two_srcF _ _ _ _) (fun u hu => by simp at hu; rcases hu with rfl | rfl <;> rfl) (by unfold maxLen; omega) (by omega) (by have := k2.size; simp; omega) ?_)
            intro v4 w4 o4 gr4 hnil
            have k4 : Below w3.heap.size w3 w4 := Below.grown (k2.alloc k2.size _) gr4 (by have := k2.size; simp; omega) (fun j hj => by have := (o2.lt _ hj).1; omega)
            clear gr4 hnil o2 k2
            go_wp2_with fail
            go_roundw
            case rel => exact ⟨k + 1, _, by omega, by go_num, HY2.out, o4, k4⟩
            case measure => simp [intOf]; omega
      · have he : k = T.length := by omega
        subst he
        have hR : R = true := by
          rw [HF.out]
          have : T.all oneB = true := List.all_eq_true.2 fun x hx => by
            obtain ⟨i, hi, rfl⟩ := List.mem_iff_getElem.1 hx
            exact hall.out i hi hi
          rw [this, Bool.and_true]
          exact decide_eq_true h4
        subst hR
        clear hcell hall HF hpc
        go_wp2_with fail
        go_ret2
        exact ⟨_, _, _, rfl, kw⟩
  · have h4' : (4 : Int) < (T.length : Int) := by omega
    have hR : R = false := by rw [HF.out, decide_eq_false (by omega)]; rfl
    subst hR
    clear HF hcell hpc
    go_wp2_with fail
    go_ret2
    exact ⟨_, _, _, rfl, b3⟩

set_option maxHeartbeats 2000000 in
set_option maxRecDepth 100000 in
theorem implFilter_c (s : ByteArray) (hs : s.size ≤ 1048576) (m : Int) (w : World) (hm : w.cell? ⟨0, 0, none⟩ = some (.int .i64 m)) :
    Calls Tryd.prog 5 #[.string s] w fun e w' => e = .returned (.bool (filtB s)) ∧ Below w.heap.size w w' := by
  have HC := hidden (readFilter_c s hs m w hm)
  clear hm
  go_enter Tryd.func5, Tryd.ntmps5
  go_wp2_with fail
  go_at_call 8
  refine HC.out.mono ?_
  rintro e w1 ⟨q, n, c, rfl, b1⟩
  go_wp2_with fail
  go_ret
  exact ⟨rfl, b1⟩
end Go.Proofs.YtdiopkegaeliaaaDoor
