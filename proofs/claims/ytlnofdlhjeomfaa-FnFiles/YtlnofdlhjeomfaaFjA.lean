/-
  What the law on files asks of a list into which a file was put: it is there, the list parts from the old one by its path alone, and is one longer than without it; no machine in it.
-/
import Derived.Test.YtlnofdlhjeomfaaFiU
namespace Go.Proofs.Ytlnofdlhjeomfaa
open Go.RowKit Go.Maps
set_option linter.unusedSimpArgs false
set_option linter.unusedVariables false

theorem putS_has (L : List FileD) (f : FileD) : f ∈ putS L f := by rw [putS_eq]; exact putR_has L
theorem putS_get {L : List FileD} {f : FileD} (h : filesB (putS L f) = true) : getF (putS L f) f.p = some f := difF_once (filesB_dif h) f (putS_has L f)
theorem rest_get {f : FileD} {p : ByteArray} (hp : ¬ p = f.p) : ∀ fs : List FileD, getF (restP f fs) p = getF fs p
  | [] => rfl
  | g :: fs => by
    have ih := rest_get hp fs
    unfold getF restP at ih ⊢
    by_cases e : g.p = f.p
    · rw [List.filter_cons_of_neg (by simp [e]), List.find?_cons_of_neg (by simp [e]; exact fun h => hp h.symm)]
      exact ih
    · rw [List.filter_cons_of_pos (by simp [e]), List.find?_cons, List.find?_cons]
      rw [ih]
theorem putR_get {f : FileD} {p : ByteArray} (hp : ¬ p = f.p) : ∀ fs : List FileD, getF (putR f fs) p = getF fs p
  | [] => by simp [getF, putR]; exact fun h => hp h.symm
  | g :: fs => by
    have hr := rest_get hp (g :: fs)
    have ih := putR_get hp fs
    unfold putR
    split
    · unfold getF at ih ⊢
      rw [List.find?_cons, List.find?_cons, ih]
    · unfold getF at hr ⊢
      rw [List.find?_cons_of_neg (by simp; exact fun h => hp h.symm)]
      exact hr
theorem put_diff {L : List FileD} {f : FileD} (h : filesB (putS L f) = true) (hn : ∀ y, getF L f.p = some y → ¬ y.t = f.t) (p : ByteArray) : p ∈ [f.p] ↔ (diffM (getF L) (getF (putS L f)) p).isSome = true := by
  unfold diffM
  by_cases e : p = f.p
  · subst e
    rw [putS_get h]
    cases hy : getF L f.p with
    | none => simp [diffO]
    | some y => simp [diffO, hn y hy]
  · have : getF (putS L f) p = getF L p := by rw [putS_eq]; exact putR_get e L
    rw [this]
    cases getF L p with
    | none => simp [diffO, e]
    | some y => simp [diffO, e]
theorem rises_one (p : ByteArray) : risesS [p] := by show List.Pairwise _ _; simp
theorem put_same {L : List FileD} {f y : FileD} (hL : anyF L) (hf : f.p ∈ pathsL ∨ f.p ∈ newL) (h : filesB (putS L f) = true) (hy : getF L f.p = some y) (ht : y.t = f.t) : putS L f = L := by
  have ha := put_alike hL hf
  rw [h] at ha
  have he : putI L f = putS L f := by
    have := ha.2
    unfold orOld at this
    rw [ha.1, h] at this
    simpa using this
  rw [← he, putI_old (anyF_dif hL) (by rw [hy]; rfl)]
  have hyf : y = f := by
    obtain ⟨_, hyp⟩ := getF_mem hy
    cases y; cases f
    simp at hyp ht
    subst hyp; subst ht; rfl
  have hm : ∀ x ∈ L, (if x.p = f.p then f else x) = x := fun x hx => by
    by_cases e : x.p = f.p
    · rw [if_pos e]
      have := difF_once (anyF_dif hL) x hx
      rw [e, hy, hyf] at this
      exact Option.some.inj this
    · rw [if_neg e]
  rw [List.map_congr_left (g := id) hm, List.map_id]
theorem okUpto_mk {fs : List FileD} (h : ∀ g ∈ fs, pathB g.p = true ∧ g.t.size ≤ 60) (hp : fs.Pairwise fun a b => bytesL a.p < bytesL b.p) : ∀ n, n ≤ fs.length → okUpto fs n = true
  | 0, _ => rfl
  | n + 1, hn => by
    refine okUpto_step (by omega) (okUpto_mk h hp n (by omega)) ?_
    obtain ⟨h1, h2⟩ := h fs[n] (List.getElem_mem (by omega))
    unfold fileOk
    rw [h1, decide_eq_true h2]
    cases n with
    | zero => rfl
    | succ k =>
      simp only [preF, List.getElem?_eq_getElem (show k < fs.length by omega), Bool.true_and]
      have := (List.pairwise_iff_getElem.1 hp) k (k + 1) (by omega) (by omega) (by omega)
      have e := lessP_eq fs[k].p fs[k + 1].p
      unfold lessP at e
      rw [e]
      exact decide_eq_true this
theorem okUpto_text {fs : List FileD} : ∀ n, okUpto fs n = true → ∀ k, k < n → ∀ (h : k < fs.length), fs[k].t.size ≤ 60
  | 0, _, k, hk, _ => by omega
  | n + 1, h, k, hk, hl => by
    rw [okUpto, Bool.and_eq_true] at h
    by_cases e : k = n
    · subst e
      have h2 := h.2
      rw [List.getElem?_eq_getElem hl] at h2
      simp only [fileOk, Bool.and_eq_true] at h2
      exact of_decide_eq_true h2.2.1
    · exact okUpto_text n h.1 k (by omega) hl
theorem filesB_drop {fs : List FileD} (h : filesB fs = true) (p : ByteArray) : filesB (dropS fs p) = true := by
  have hsub : (dropS fs p).Sublist fs := List.eraseP_sublist
  have hb := h
  unfold filesB at hb
  rw [Bool.and_eq_true] at hb
  have hpw : fs.Pairwise fun a b => bytesL a.p < bytesL b.p := by
    rw [List.pairwise_iff_getElem]
    intro i j hi hj hij
    exact filesB_lt h j hj i hij
  unfold filesB
  rw [okUpto_mk (fun g hg => ?_) (hpw.sublist hsub) _ (Nat.le_refl _), Bool.true_and]
  · have := hsub.length_le
    have h2 := of_decide_eq_true hb.2
    exact decide_eq_true (by omega)
  · have hg' := hsub.subset hg
    obtain ⟨k, hk, rfl⟩ := List.mem_iff_getElem.1 hg'
    exact ⟨filesB_path h _ hg', okUpto_text _ hb.1 k hk hk⟩
theorem drop_none {fs : List FileD} (h : difF fs) (p : ByteArray) : getF (dropS fs p) p = none := by
  rw [← dropL_eq h]
  unfold getF
  rw [List.find?_eq_none]
  intro x hx
  have hx' : x ∈ dropS fs p := by rw [← dropL_eq h]; exact hx
  obtain ⟨q, hq⟩ := alongF_mem hx
  unfold delM at hq
  split at hq
  · cases hq
  · obtain ⟨_, h2⟩ := getF_mem hq
    simp
    intro e
    rw [h2] at e
    contradiction
theorem drop_len {fs : List FileD} {f : FileD} (h : getF fs f.p = some f) : (dropS fs f.p).length + 1 = fs.length := by
  have hm := (getF_mem h).1
  unfold dropS
  rw [List.length_eraseP_of_mem hm (by simp)]
  have : 0 < fs.length := List.length_pos_of_mem hm
  omega
end Go.Proofs.Ytlnofdlhjeomfaa
