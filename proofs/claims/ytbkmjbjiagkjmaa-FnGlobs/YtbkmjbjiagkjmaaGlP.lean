/-
  Steps gone through by going back to the last one that takes many alone, against all ways being tried: they answer alike; no condition (no program stands here).
-/
import Derived.Test.YtbkmjbjiagkjmaaScan
namespace Go.Proofs.Ytbkmjbjiagkjmaa
set_option linter.unusedSimpArgs false
set_option linter.unusedVariables false

section
variable {α β : Type} (many : α → Bool) (takes : α → β → Bool)

/-- All ways are tried. -/
def fullG : List α → List β → Bool
  | [], l => l.isEmpty
  | a :: p, l => if many a then (List.range (l.length + 1)).any (fun k => fullG p (l.drop k)) else
      match l with
      | [] => false
      | x :: t => takes a x && fullG p t

theorem fullG_nil (l : List β) : fullG many takes [] l = l.isEmpty := by rw [fullG.eq_def]
theorem fullG_many (a : α) (p : List α) (l : List β) (h : many a = true) : fullG many takes (a :: p) l = (List.range (l.length + 1)).any (fun k => fullG many takes p (l.drop k)) := by
  rw [fullG.eq_def]; simp only []; rw [if_pos h]
theorem fullG_none (a : α) (p : List α) (h : many a = false) : fullG many takes (a :: p) [] = false := by
  rw [fullG.eq_def]; simp only []; rw [if_neg (by simp [h])]
theorem fullG_one (a : α) (p : List α) (x : β) (t : List β) (h : many a = false) : fullG many takes (a :: p) (x :: t) = (takes a x && fullG many takes p t) := by
  rw [fullG.eq_def]; simp only []; rw [if_neg (by simp [h])]

/-- From place i of the steps and place j of the things on. -/
def F2 (ps : List α) (xs : List β) (i j : Nat) : Bool := fullG many takes (ps.drop i) (xs.drop j)

variable {many takes} {ps : List α} {xs : List β}

theorem F2_many {i j : Nat} {a : α} (ha : ps[i]? = some a) (hm : many a = true) (hj : j ≤ xs.length) :
    F2 many takes ps xs i j = true ↔ ∃ k, j ≤ k ∧ k ≤ xs.length ∧ F2 many takes ps xs (i + 1) k = true := by
  have hi := (List.getElem?_eq_some_iff.1 ha).1
  have he := (List.getElem?_eq_some_iff.1 ha).2
  unfold F2
  rw [List.drop_eq_getElem_cons hi, he, fullG_many _ _ _ _ _ hm, List.any_eq_true]
  constructor
  · rintro ⟨k, hk, h⟩
    rw [List.mem_range, List.length_drop] at hk
    rw [List.drop_drop] at h
    exact ⟨j + k, by omega, by omega, h⟩
  · rintro ⟨k, h1, h2, h⟩
    refine ⟨k - j, by rw [List.mem_range, List.length_drop]; omega, ?_⟩
    rw [List.drop_drop, show j + (k - j) = k by omega]
    exact h
theorem F2_one {i j : Nat} {a : α} {x : β} (ha : ps[i]? = some a) (hm : many a = false) (hx : xs[j]? = some x) :
    F2 many takes ps xs i j = (takes a x && F2 many takes ps xs (i + 1) (j + 1)) := by
  have hi := (List.getElem?_eq_some_iff.1 ha).1
  have he := (List.getElem?_eq_some_iff.1 ha).2
  have hj := (List.getElem?_eq_some_iff.1 hx).1
  have hxe := (List.getElem?_eq_some_iff.1 hx).2
  unfold F2
  rw [List.drop_eq_getElem_cons hi, he, List.drop_eq_getElem_cons hj, hxe, fullG_one _ _ _ _ _ _ hm]
theorem F2_none {i j : Nat} {a : α} (ha : ps[i]? = some a) (hm : many a = false) (hj : xs.length ≤ j) : F2 many takes ps xs i j = false := by
  have hi := (List.getElem?_eq_some_iff.1 ha).1
  have he := (List.getElem?_eq_some_iff.1 ha).2
  unfold F2
  rw [List.drop_eq_getElem_cons hi, he, List.drop_eq_nil_of_le hj, fullG_none _ _ _ _ hm]
theorem F2_end {i j : Nat} (hi : ps.length ≤ i) : F2 many takes ps xs i j = decide (xs.length ≤ j) := by
  unfold F2
  rw [List.drop_eq_nil_of_le hi, fullG_nil]
  by_cases h : xs.length ≤ j
  · rw [decide_eq_true h, List.drop_eq_nil_of_le h]; rfl
  · rw [decide_eq_false h]
    have : xs.drop j ≠ [] := by
      intro e
      have := congrArg List.length e
      rw [List.length_drop] at this
      simp at this
      omega
    cases hd : xs.drop j with
    | nil => exact absurd hd this
    | cons _ _ => rfl

/-- What a run through steps of which none takes many leads to. -/
theorem F2_pass {b k : Nat} : ∀ (m : Nat), (∀ i a, b ≤ i → i < b + m → ps[i]? = some a → many a = false) → b + m ≤ ps.length → k ≤ xs.length → F2 many takes ps xs b k = true →
    k + m ≤ xs.length ∧ F2 many takes ps xs (b + m) (k + m) = true
  | 0, _, _, hk, h => ⟨hk, h⟩
  | m + 1, hs, hl, hk, h => by
    obtain ⟨h1, h2⟩ := F2_pass m (fun i a h1 h2 h3 => hs i a h1 (by omega) h3) (by omega) hk h
    have ha : ps[b + m]? = some ps[b + m] := List.getElem?_eq_getElem (by omega)
    have hm := hs (b + m) _ (by omega) (by omega) ha
    by_cases hj : k + m < xs.length
    · have hx : xs[k + m]? = some xs[k + m] := List.getElem?_eq_getElem hj
      rw [F2_one ha hm hx, Bool.and_eq_true] at h2
      exact ⟨by omega, h2.2⟩
    · rw [F2_none ha hm (by omega)] at h2
      cases h2

/-- Where the run is: at step s and thing t, behind the last step that takes many (seen: there was one) b steps and tk things lie. -/
def Inv (many : α → Bool) (takes : α → β → Bool) (ps : List α) (xs : List β) (s t b tk : Nat) (seen : Bool) : Prop :=
  s ≤ ps.length ∧ t ≤ xs.length ∧ b ≤ s ∧ t + b = s + tk ∧ (∀ i a, b ≤ i → i < s → ps[i]? = some a → many a = false) ∧
  (F2 many takes ps xs 0 0 = true ↔ (F2 many takes ps xs s t = true ∨ (seen = true ∧ ∃ k, tk < k ∧ k ≤ xs.length ∧ F2 many takes ps xs b k = true)))

theorem inv_start : Inv many takes ps xs 0 0 0 0 false :=
  ⟨Nat.zero_le _, Nat.zero_le _, Nat.le_refl _, rfl, fun i a _ h => by omega, by simp⟩

theorem inv_many {s t b tk : Nat} {seen : Bool} {a : α} (h : Inv many takes ps xs s t b tk seen) (ha : ps[s]? = some a) (hm : many a = true) : Inv many takes ps xs (s + 1) t (s + 1) t true := by
  obtain ⟨h1, h2, h3, h4, h5, h6⟩ := h
  have hs := (List.getElem?_eq_some_iff.1 ha).1
  refine ⟨by omega, h2, Nat.le_refl _, by omega, fun i a h1 h2 => by omega, ?_⟩
  rw [h6]
  have key : ∀ j, t ≤ j → j ≤ xs.length → F2 many takes ps xs s j = true → (F2 many takes ps xs (s + 1) t = true ∨ (true = true ∧ ∃ k, t < k ∧ k ≤ xs.length ∧ F2 many takes ps xs (s + 1) k = true)) := fun j h7 h8 h9 => by
    obtain ⟨k, k1, k2, k3⟩ := (F2_many ha hm h8).1 h9
    by_cases e : k = t
    · subst e; exact .inl k3
    · exact .inr ⟨rfl, k, by omega, k2, k3⟩
  constructor
  · rintro (h | ⟨_, k, k1, k2, k3⟩)
    · exact key t (Nat.le_refl _) h2 h
    · obtain ⟨j1, j2⟩ := F2_pass (s - b) (fun i a q1 q2 q3 => h5 i a q1 (by omega) q3) (by omega) k2 k3
      rw [show b + (s - b) = s by omega] at j2
      exact key _ (by omega) j1 j2
  · rintro (h | ⟨_, k, k1, k2, k3⟩)
    · exact .inl ((F2_many ha hm h2).2 ⟨t, Nat.le_refl _, h2, h⟩)
    · exact .inl ((F2_many ha hm h2).2 ⟨k, by omega, k2, k3⟩)

theorem inv_next {s t b tk : Nat} {seen : Bool} {a : α} {x : β} (h : Inv many takes ps xs s t b tk seen) (ha : ps[s]? = some a) (hm : many a = false) (hx : xs[t]? = some x) (ht : takes a x = true) :
    Inv many takes ps xs (s + 1) (t + 1) b tk seen := by
  obtain ⟨h1, h2, h3, h4, h5, h6⟩ := h
  have hs := (List.getElem?_eq_some_iff.1 ha).1
  have hj := (List.getElem?_eq_some_iff.1 hx).1
  refine ⟨by omega, by omega, by omega, by omega, fun i c q1 q2 q3 => ?_, ?_⟩
  · by_cases e : i = s
    · subst e; rw [ha] at q3; cases q3; exact hm
    · exact h5 i c q1 (by omega) q3
  · rw [h6, F2_one ha hm hx, ht, Bool.true_and]

theorem F2_stop_end {s t : Nat} (hs : s = ps.length) (ht : t ≤ xs.length) (hne : ¬ t = xs.length) : F2 many takes ps xs s t = false := by
  rw [F2_end (by omega)]; simp; omega
theorem F2_stop_none {s t : Nat} {a : α} (ha : ps[s]? = some a) (hm : many a = false) (ht : t = xs.length) : F2 many takes ps xs s t = false := F2_none ha hm (by omega)
theorem F2_stop_not {s t : Nat} {a : α} {x : β} (ha : ps[s]? = some a) (hm : many a = false) (hx : xs[t]? = some x) (ht : takes a x = false) : F2 many takes ps xs s t = false := by
  rw [F2_one ha hm hx, ht]; rfl

theorem inv_back {s t b tk : Nat} {seen : Bool} (h : Inv many takes ps xs s t b tk seen) (hf : F2 many takes ps xs s t = false) (hs : seen = true) (hk : tk < xs.length) : Inv many takes ps xs b (tk + 1) b (tk + 1) true := by
  obtain ⟨h1, h2, h3, h4, h5, h6⟩ := h
  refine ⟨by omega, by omega, Nat.le_refl _, by omega, fun i a q1 q2 => by omega, ?_⟩
  rw [h6, hf]
  constructor
  · rintro (h | ⟨_, k, k1, k2, k3⟩)
    · cases h
    · by_cases e : k = tk + 1
      · subst e; exact .inl k3
      · exact .inr ⟨rfl, k, by omega, k2, k3⟩
  · rintro (h | ⟨_, k, k1, k2, k3⟩)
    · exact .inr ⟨hs, tk + 1, by omega, by omega, h⟩
    · exact .inr ⟨hs, k, by omega, k2, k3⟩

theorem inv_true {s t b tk : Nat} {seen : Bool} (h : Inv many takes ps xs s t b tk seen) (hs : s = ps.length) (ht : t = xs.length) : fullG many takes ps xs = true := by
  have := h.2.2.2.2.2.2 (.inl (by rw [F2_end (by omega)]; simp; omega))
  simpa [F2] using this
theorem inv_false {s t b tk : Nat} {seen : Bool} (h : Inv many takes ps xs s t b tk seen) (hf : F2 many takes ps xs s t = false) (he : seen = false ∨ tk = xs.length) : fullG many takes ps xs = false := by
  rw [Bool.eq_false_iff]
  intro hc
  have h1 : F2 many takes ps xs 0 0 = true := by simpa [F2] using hc
  rcases h.2.2.2.2.2.1 h1 with h2 | ⟨h2, k, h3, h4, _⟩
  · rw [hf] at h2; cases h2
  · rcases he with he | he
    · rw [he] at h2; cases h2
    · omega

/-- How far the run still has to go. -/
def goM (L n s b tk : Nat) : Nat := (L - b) * ((n + 1) * (L + 1)) + (n - tk) * (L + 1) + (L - s)
theorem goM_many {L n s b tk t : Nat} (h1 : b ≤ s) (h2 : s < L) : goM L n (s + 1) (s + 1) t < goM L n s b tk := by
  unfold goM
  have e3 : (n + 1) * (L + 1) = n * (L + 1) + (L + 1) := by rw [Nat.add_mul]; omega
  obtain ⟨M, hM⟩ : ∃ M, M = (n + 1) * (L + 1) := ⟨_, rfl⟩
  rw [← hM] at e3 ⊢
  have e1 : (L - b) * M ≥ (L - (s + 1) + 1) * M := Nat.mul_le_mul_right _ (by omega)
  rw [Nat.add_mul] at e1
  have e2 : (n - t) * (L + 1) ≤ n * (L + 1) := Nat.mul_le_mul_right _ (by omega)
  omega
theorem goM_next {L n s b tk : Nat} (h2 : s < L) : goM L n (s + 1) b tk < goM L n s b tk := by unfold goM; omega
theorem goM_back {L n s b tk : Nat} (h : tk < n) : goM L n b b (tk + 1) < goM L n s b tk := by
  unfold goM
  have e1 : (n - tk) * (L + 1) = (n - (tk + 1)) * (L + 1) + (L + 1) := by
    rw [show n - tk = (n - (tk + 1)) + 1 by omega, Nat.add_mul]; omega
  omega
end
end Go.Proofs.Ytbkmjbjiagkjmaa
