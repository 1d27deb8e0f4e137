/-
  A file put into a drawn list: the program's way (in its place, or ahead of the first greater path) and the specification's (ahead of the first that is not smaller) end alike; no machine in it.
-/
import Derived.Test.YtlnofdlhjeomfaaFiQ
namespace Go.Proofs.Ytlnofdlhjeomfaa
open Go.RowKit Go.Maps
set_option linter.unusedSimpArgs false
set_option linter.unusedVariables false

theorem lessP_eq (a b : ByteArray) : lessP a b = decide (bytesL a < bytesL b) := by
  unfold lessP
  rw [ByteArray.toList_eq, ByteArray.toList_eq, bytesLess_eq]
  rfl
theorem less_self (a : ByteArray) : lessP a a = false := by rw [lessP_eq]; exact decide_eq_false (ltL_irrefl _)
def restP (f : FileD) (fs : List FileD) : List FileD := fs.filter fun x => !decide (x.p = f.p)
def putR (f : FileD) : List FileD → List FileD
  | [] => [f]
  | g :: fs => if lessP g.p f.p then g :: putR f fs else f :: restP f (g :: fs)
def finP (f : FileD) (st : List FileD × Bool) : List FileD := if st.2 then st.1 else st.1 ++ [f]
theorem fin_true (f : FileD) : ∀ (fs acc : List FileD), fs.foldl (stepP f) (acc, true) = (acc ++ restP f fs, true)
  | [], acc => by simp [restP]
  | g :: fs, acc => by
    rw [List.foldl_cons]
    by_cases e : g.p = f.p
    · have : stepP f (acc, true) g = (acc, true) := by simp [stepP, e]
      rw [this, fin_true f fs acc]
      simp [restP, e]
    · have : stepP f (acc, true) g = (acc ++ [g], true) := by
        have hb : (g.p.toList == f.p.toList) = false := by rw [toList_beq]; simp [e]
        simp [stepP, hb]
      rw [this, fin_true f fs _]
      simp [restP, e]
theorem fin_all (f : FileD) : ∀ (fs acc : List FileD), finP f (fs.foldl (stepP f) (acc, false)) = acc ++ putR f fs
  | [], acc => by simp [finP, putR]
  | g :: fs, acc => by
    rw [List.foldl_cons]
    cases hl : lessP g.p f.p with
    | true =>
      have hne : ¬ g.p = f.p := fun e => by
        rw [lessP_eq, e] at hl
        exact ltL_irrefl _ (of_decide_eq_true hl)
      have hb : (g.p.toList == f.p.toList) = false := by rw [toList_beq]; simp [hne]
      have : stepP f (acc, false) g = (acc ++ [g], false) := by simp [stepP, hb, hl]
      rw [this, fin_all f fs _]
      simp [putR, hl]
    | false =>
      by_cases e : g.p = f.p
      · have : stepP f (acc, false) g = (acc ++ [f], true) := by simp [stepP, e, less_self]
        rw [this, fin_true]
        simp [finP, putR, less_self, restP, e]
      · have hb : (g.p.toList == f.p.toList) = false := by rw [toList_beq]; simp [e]
        have : stepP f (acc, false) g = (acc ++ [f] ++ [g], true) := by simp [stepP, hb, hl]
        rw [this, fin_true]
        simp [finP, putR, hl, restP, e]
theorem putS_eq (fs : List FileD) (f : FileD) : putS fs f = putR f fs := by
  have := fin_all f fs []
  rw [List.nil_append] at this
  exact this
/-- The program's place for a new one. -/
def insR (f : FileD) : List FileD → List FileD
  | [] => [f]
  | g :: fs => if lessP f.p g.p then f :: g :: fs else g :: insR f fs
def setM (m : ByteArray → Option FileD) (f : FileD) : ByteArray → Option FileD := fun q => if q = f.p then some f else m q
def putI (fs : List FileD) (f : FileD) : List FileD := alongF (setM (getF fs) f) (if (getF fs f.p).isSome then fs else insR f fs)
theorem rest_all {f : FileD} {fs : List FileD} (h : ∀ g ∈ fs, ¬ g.p = f.p) : restP f fs = fs := by
  unfold restP
  rw [List.filter_eq_self]
  intro g hg
  simp [h g hg]
theorem put_ins {f : FileD} : ∀ {fs : List FileD}, (∀ g ∈ fs, ¬ g.p = f.p) → putR f fs = insR f fs
  | [], _ => rfl
  | g :: fs, h => by
    have hg := h g List.mem_cons_self
    unfold putR insR
    rw [lessP_eq, lessP_eq]
    by_cases h1 : bytesL g.p < bytesL f.p
    · have h2 : ¬ bytesL f.p < bytesL g.p := fun k => ltL_irrefl _ (ltL_trans h1 k)
      simp only [h1, h2, decide_true, decide_false, if_true]
      rw [put_ins (fun x hx => h x (List.mem_cons_of_mem _ hx))]
      simp
    · have h2 : bytesL f.p < bytesL g.p := by
        by_cases h2 : bytesL f.p < bytesL g.p
        · exact h2
        · exact absurd (bytesL_inj (ltL_total h1 h2)) hg
      simp only [h1, h2, decide_true, decide_false, if_true]
      rw [rest_all h]
      simp
theorem insR_mem {f x : FileD} : ∀ {fs : List FileD}, x ∈ insR f fs → x = f ∨ x ∈ fs
  | [], h => by simpa [insR] using h
  | g :: fs, h => by
    unfold insR at h
    split at h
    · simpa using h
    · rcases List.mem_cons.1 h with h | h
      · exact .inr (by simp [h])
      · rcases insR_mem h with h | h
        · exact .inl h
        · exact .inr (List.mem_cons_of_mem _ h)
theorem along_id {m : ByteArray → Option FileD} {fs : List FileD} (h : ∀ x ∈ fs, m x.p = some x) : alongF m fs = fs := by
  unfold alongF
  rw [filterMap_same (n := some) fs h, List.filterMap_some]
theorem putI_new {fs : List FileD} {f : FileD} (hd : difF fs) (hn : getF fs f.p = none) : putI fs f = putS fs f := by
  have hne : ∀ g ∈ fs, ¬ g.p = f.p := fun g hg e => by
    have := difF_once hd g hg
    rw [e, hn] at this
    cases this
  unfold putI
  rw [hn, putS_eq, put_ins hne]
  refine along_id fun x hx => ?_
  unfold setM
  rcases insR_mem hx with rfl | hx
  · simp
  · rw [if_neg (hne x hx)]
    exact difF_once hd x hx
theorem putI_old {fs : List FileD} {f : FileD} (hd : difF fs) (hn : (getF fs f.p).isSome = true) : putI fs f = fs.map fun x => if x.p = f.p then f else x := by
  unfold putI
  rw [if_pos hn]
  unfold alongF
  rw [filterMap_same (n := fun x => some (if x.p = f.p then f else x)) fs (fun x hx => by
    unfold setM
    by_cases e : x.p = f.p
    · simp [e]
    · simp [e, difF_once hd x hx])]
  exact congrFun List.filterMap_eq_map' fs
theorem putR_mid {f y : FileD} {b : List FileD} (hy : y.p = f.p) (hb : ∀ g ∈ b, ¬ g.p = f.p) : ∀ {a : List FileD}, (∀ x ∈ a, bytesL x.p < bytesL f.p) → putR f (a ++ y :: b) = a ++ f :: b
  | [], _ => by
    have h1 : lessP y.p f.p = false := by rw [lessP_eq, hy]; exact decide_eq_false (ltL_irrefl _)
    have h2 := rest_all hb
    unfold restP at h2
    simp [putR, less_self, restP, hy, h2]
  | g :: a, h => by
    have h1 : lessP g.p f.p = true := by rw [lessP_eq]; exact decide_eq_true (h g List.mem_cons_self)
    rw [List.cons_append, putR, if_pos h1, putR_mid hy hb (fun x hx => h x (List.mem_cons_of_mem _ hx))]
    rfl
theorem map_mid {f y : FileD} {a b : List FileD} (hy : y.p = f.p) (ha : ∀ g ∈ a, ¬ g.p = f.p) (hb : ∀ g ∈ b, ¬ g.p = f.p) : (a ++ y :: b).map (fun x => if x.p = f.p then f else x) = a ++ f :: b := by
  have key : ∀ l : List FileD, (∀ g ∈ l, ¬ g.p = f.p) → l.map (fun x => if x.p = f.p then f else x) = l := fun l h => by
    rw [List.map_congr_left (g := id) (fun x hx => by simp [h x hx]), List.map_id]
  rw [List.map_append, List.map_cons, key a ha, key b hb, if_pos hy]
theorem okUpto_path {fs : List FileD} : ∀ n, okUpto fs n = true → ∀ k, k < n → ∀ (h : k < fs.length), pathB fs[k].p = true
  | 0, _, k, hk, _ => by omega
  | n + 1, h, k, hk, hl => by
    rw [okUpto, Bool.and_eq_true] at h
    by_cases e : k = n
    · subst e
      have h2 := h.2
      rw [List.getElem?_eq_getElem hl] at h2
      simp only [fileOk, Bool.and_eq_true] at h2
      exact h2.1
    · exact okUpto_path n h.1 k (by omega) hl
theorem filesB_path {fs : List FileD} (h : filesB fs = true) : ∀ g ∈ fs, pathB g.p = true := fun g hg => by
  obtain ⟨k, hk, rfl⟩ := List.mem_iff_getElem.1 hg
  unfold filesB at h
  rw [Bool.and_eq_true] at h
  exact okUpto_path _ h.1 k hk hk
theorem putR_has {f : FileD} : ∀ fs : List FileD, f ∈ putR f fs
  | [] => by simp [putR]
  | g :: fs => by
    unfold putR
    split
    · exact List.mem_cons_of_mem _ (putR_has fs)
    · exact List.mem_cons_self
/-- The paths that are drawn for a new file. -/
def newL : List ByteArray := [⟨#[110, 101, 119]⟩, ⟨#[65]⟩, ⟨#[]⟩]
theorem bad_fact : pathB ⟨#[65]⟩ = false ∧ pathB ⟨#[]⟩ = false := by decide +kernel
def notNew (t : ByteArray) : Bool := !decide (t = ⟨#[110, 101, 119]⟩)
theorem new_odd : oddL.all notNew = true := by decide +kernel
theorem new_z : (zFiles 25).all (fun f => notNew f.p) = true := by decide +kernel
theorem new_zz : notNew ⟨#[122, 122]⟩ = true := by decide +kernel
theorem put_alike {L : List FileD} {f : FileD} (hL : anyF L) (hf : f.p ∈ pathsL ∨ f.p ∈ newL) : filesB (putI L f) = filesB (putS L f) ∧ orOld (putI L f) L = orOld (putS L f) L := by
  have hd := anyF_dif hL
  cases hn : getF L f.p with
  | none => rw [putI_new hd hn]; exact ⟨rfl, rfl⟩
  | some y =>
    have hI := putI_old hd (f := f) (by rw [hn]; rfl)
    obtain ⟨hy, hyp⟩ := getF_mem hn
    obtain ⟨D, E, hDE, ⟨hD, hDm, _⟩, hE⟩ := hL
    rw [hDE] at hy
    rcases List.mem_append.1 hy with hy | hy
    · have : putI L f = putS L f := by
        obtain ⟨a, b, rfl⟩ := List.append_of_mem hy
        have hL2 : L = a ++ y :: (b ++ E) := by rw [hDE]; simp
        have hdd := hd
        unfold difF at hdd
        rw [hL2, List.map_append, List.map_cons, List.nodup_append, List.nodup_cons] at hdd
        have ha : ∀ g ∈ a, bytesL g.p < bytesL f.p := fun g hg => by
          obtain ⟨i, hi, rfl⟩ := List.mem_iff_getElem.1 hg
          have := filesB_lt hD a.length (by simp) i hi
          rw [List.getElem_append_left hi] at this
          simp only [List.getElem_append_right (Nat.le_refl _), Nat.sub_self, List.getElem_cons_zero] at this
          rw [hyp] at this
          exact this
        have ha2 : ∀ g ∈ a, ¬ g.p = f.p := fun g hg e => by have := ha g hg; rw [e] at this; exact ltL_irrefl _ this
        have hb : ∀ g ∈ b ++ E, ¬ g.p = f.p := fun g hg e => hdd.2.1.1 (by rw [hyp, ← e]; exact List.mem_map_of_mem hg)
        rw [hI, putS_eq, hL2, map_mid hyp ha2 hb, putR_mid hyp hb ha]
      rw [this]; exact ⟨rfl, rfl⟩
    · have hbad : pathB f.p = false := by
        have key : ¬ y.p ∈ pathsL ∧ notNew y.p = true := by
          rcases hE with rfl | ⟨t, ht, rfl⟩ | ⟨t, ht, rfl⟩ | rfl
          · simp at hy
          · simp only [List.mem_cons, List.not_mem_nil, or_false] at hy
            subst hy
            exact ⟨notP_mem (List.all_eq_true.1 odd_fact t ht), List.all_eq_true.1 new_odd t ht⟩
          · simp only [List.mem_cons, List.not_mem_nil, or_false] at hy
            subst hy
            exact ⟨notP_mem zz_fact, new_zz⟩
          · exact ⟨notP_mem (List.all_eq_true.1 zs_fact.2 y hy), List.all_eq_true.1 new_z y hy⟩
        rw [hyp] at key
        rcases hf with hf | hf
        · exact absurd hf key.1
        · simp only [newL, List.mem_cons, List.not_mem_nil, or_false] at hf
          rcases hf with hf | hf | hf
          · have := key.2; rw [hf] at this; simp [notNew] at this
          · rw [hf]; exact bad_fact.1
          · rw [hf]; exact bad_fact.2
      have h1 : filesB (putI L f) = false := by
        cases h : filesB (putI L f) with
        | false => rfl
        | true =>
          have hm : f ∈ putI L f := by
            rw [hI, List.mem_map]
            exact ⟨y, by rw [hDE]; exact List.mem_append_right _ hy, by simp [hyp]⟩
          rw [filesB_path h f hm] at hbad
          cases hbad
      have h2 : filesB (putS L f) = false := by
        cases h : filesB (putS L f) with
        | false => rfl
        | true =>
          have hm : f ∈ putS L f := by rw [putS_eq]; exact putR_has L
          rw [filesB_path h f hm] at hbad
          cases hbad
      unfold orOld
      rw [h1, h2]
      exact ⟨rfl, rfl⟩
end Go.Proofs.Ytlnofdlhjeomfaa
