/-
  Drawn lists hold no path twice; where none stands twice, the two ways to drop a file are one; no machine in it.
-/
import Derived.Test.YtlnofdlhjeomfaaFiP
import Derived.Test.YtlnofdlhjeomfaaFiO
import Derived.Test.YtlnofdlhjeomfaaGlS
namespace Go.Proofs.Ytlnofdlhjeomfaa
open Go.RowKit Go.Maps
set_option linter.unusedSimpArgs false
set_option linter.unusedVariables false

def difF (fs : List FileD) : Prop := (fs.map FileD.p).Nodup
theorem difF_once {fs : List FileD} (h : difF fs) : onceF fs := by
  induction fs with
  | nil => intro f hf; simp at hf
  | cons a fs ih =>
    unfold difF at h
    rw [List.map_cons, List.nodup_cons] at h
    intro f hf
    unfold getF
    rcases List.mem_cons.1 hf with rfl | hf
    · simp
    · have hne : ¬ a.p = f.p := fun e => h.1 (by rw [e]; exact List.mem_map_of_mem hf)
      rw [List.find?_cons_of_neg (by simpa using hne)]
      exact ih h.2 f hf
theorem less_lt {a b : ByteArray} (h : Op.bytesLess a.toList b.toList = true) : bytesL a < bytesL b := by
  rw [ByteArray.toList_eq, ByteArray.toList_eq, bytesLess_eq] at h
  exact of_decide_eq_true h
theorem okUpto_next {fs : List FileD} : ∀ n, okUpto fs n = true → ∀ k, k + 1 < n → ∀ (h : k + 1 < fs.length), bytesL fs[k].p < bytesL fs[k + 1].p
  | 0, _, k, hk, _ => by omega
  | n + 1, h, k, hk, hl => by
    rw [okUpto, Bool.and_eq_true] at h
    by_cases e : k + 1 = n
    · subst e
      have h2 := h.2
      rw [List.getElem?_eq_getElem hl] at h2
      simp only [fileOk, preF, List.getElem?_eq_getElem (show k < fs.length by omega), Bool.and_eq_true] at h2
      exact less_lt h2.2.2
    · exact okUpto_next n h.1 k (by omega) hl
theorem filesB_lt {fs : List FileD} (h : filesB fs = true) : ∀ j (hj : j < fs.length) i (hi : i < j), bytesL (fs[i]'(by omega)).p < bytesL fs[j].p
  | 0, _, i, hi => by omega
  | j + 1, hj, i, hi => by
    have hn := okUpto_next fs.length (by unfold filesB at h; rw [Bool.and_eq_true] at h; exact h.1) j hj hj
    by_cases e : i = j
    · subst e; exact hn
    · exact ltL_trans (filesB_lt h j (by omega) i (by omega)) hn
theorem filesB_dif {fs : List FileD} (h : filesB fs = true) : difF fs := by
  unfold difF
  rw [List.nodup_iff_pairwise_ne, List.pairwise_iff_getElem]
  intro i j hi hj hij e
  rw [List.length_map] at hi hj
  rw [List.getElem_map, List.getElem_map] at e
  have := filesB_lt h j hj i hij
  rw [e] at this
  exact ltL_irrefl _ this
def notP (t : ByteArray) : Bool := pathsL.all fun q => !decide (q = t)
theorem notP_mem {t : ByteArray} (h : notP t = true) : ¬ t ∈ pathsL := fun hm => by
  have := List.all_eq_true.1 h t hm
  simp at this
theorem zs_fact : (((zFiles 25).map FileD.p).Nodup) ∧ (zFiles 25).all (fun f => notP f.p) = true := by decide +kernel
theorem odd_fact : oddL.all (fun t => notP t) = true := by decide +kernel
theorem zz_fact : notP ⟨#[122, 122]⟩ = true := by decide +kernel
theorem anyF_dif {L : List FileD} (h : anyF L) : difF L := by
  obtain ⟨D, E, rfl, ⟨hD, hDm, _⟩, hE⟩ := h
  have hd := filesB_dif hD
  unfold difF at hd ⊢
  have key : (E.map FileD.p).Nodup ∧ ∀ f ∈ E, ¬ f.p ∈ pathsL := by
    rcases hE with rfl | ⟨t, ht, rfl⟩ | ⟨t, ht, rfl⟩ | rfl
    · simp
    · refine ⟨by simp, fun f hf => ?_⟩
      simp only [List.mem_cons, List.not_mem_nil, or_false] at hf
      subst hf
      exact notP_mem (List.all_eq_true.1 odd_fact t ht)
    · refine ⟨by simp, fun f hf => ?_⟩
      simp only [List.mem_cons, List.not_mem_nil, or_false] at hf
      subst hf
      exact notP_mem zz_fact
    · refine ⟨zs_fact.1, fun f hf => ?_⟩
      exact notP_mem (List.all_eq_true.1 zs_fact.2 f hf)
  rw [List.map_append, List.nodup_append]
  refine ⟨hd, key.1, ?_⟩
  intro a ha b hb e
  obtain ⟨f, hf, rfl⟩ := List.mem_map.1 ha
  obtain ⟨g, hg, rfl⟩ := List.mem_map.1 hb
  exact key.2 g hg (by rw [← e]; exact (hDm f hf).2)
theorem filterMap_same {α β : Type} {m n : α → Option β} : ∀ l : List α, (∀ f ∈ l, m f = n f) → l.filterMap m = l.filterMap n
  | [], _ => rfl
  | a :: l, h => by
    rw [List.filterMap_cons, List.filterMap_cons, h a List.mem_cons_self, filterMap_same l (fun f hf => h f (List.mem_cons_of_mem _ hf))]
theorem dropL_eq {fs : List FileD} (h : difF fs) (p : ByteArray) : dropL fs p = dropS fs p := by
  have ho := difF_once h
  have e1 : dropL fs p = fs.filter (fun f => !decide (f.p = p)) := by
    unfold dropL alongF
    rw [← List.filterMap_eq_filter]
    refine filterMap_same _ fun f hf => ?_
    unfold delM
    by_cases e : f.p = p
    · simp [e, Option.guard]
    · simp [e, ho f hf, Option.guard]
  rw [e1]
  unfold dropS
  clear e1 ho
  induction fs with
  | nil => rfl
  | cons a fs ih =>
    unfold difF at h
    rw [List.map_cons, List.nodup_cons] at h
    by_cases e : a.p = p
    · rw [List.eraseP_cons_of_pos (by simpa using e), List.filter_cons_of_neg (by simp [e])]
      rw [List.filter_eq_self]
      intro f hf
      have : ¬ f.p = p := fun e2 => h.1 (by rw [e, ← e2]; exact List.mem_map_of_mem hf)
      simp [this]
    · rw [List.eraseP_cons_of_neg (by simpa using e), List.filter_cons_of_pos (by simp [e])]
      rw [ih h.2]
theorem dropOk_eq {fs : List FileD} (h : difF fs) (p : ByteArray) : dropOk fs p = dropSOk fs p ∧ dropI fs p = dropSO fs p := by
  have e : dropOk fs p = dropSOk fs p := by unfold dropOk dropSOk; rw [dropL_eq h]
  exact ⟨e, by unfold dropI dropSO; rw [e, dropL_eq h]⟩
/-- The first file's text, one sign more. -/
def bangF : List FileD → List FileD
  | [] => []
  | f :: fs => ⟨f.p, f.t ++ ⟨#[33]⟩⟩ :: fs
theorem bangF_dif {fs : List FileD} (h : difF fs) : difF (bangF fs) := by
  cases fs with
  | nil => exact h
  | cons f fs => exact h
end Go.Proofs.Ytlnofdlhjeomfaa
