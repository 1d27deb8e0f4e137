/-
  Contracts for the walks, several texts in one: each part says what it proves, and under which conditions.
-/
import Derived.Deep.RegionHeld
import Derived.Test.YtablcicfagmhpaaQ4

/-! Merging in order, what is equal staying in its order: merged in parts it is the same, and what is sorted by insertion is merged of what its parts are sorted to; no condition (no program stands here). -/
namespace Go.Proofs.Ytablcicfagmhpaa
open Go.RowKit
set_option linter.unusedSimpArgs false
set_option linter.unusedVariables false

section
variable {α : Type} (f : α → α → Bool)
/-- f y x: y goes behind x. Two lists merged: of what is equal the first list's comes first. -/
def mgG : List α → List α → List α
  | [], ys => ys
  | x :: xs, [] => x :: xs
  | x :: xs, y :: ys => if f x y = true then y :: mgG (x :: xs) ys else x :: mgG xs (y :: ys)
termination_by xs ys => xs.length + ys.length
theorem mg_nil (xs : List α) : mgG f xs [] = xs := by cases xs <;> simp [mgG]
theorem nil_mg (ys : List α) : mgG f [] ys = ys := by simp [mgG]
theorem mg_take (x y : α) (xs ys : List α) (h : f x y = true) : mgG f (x :: xs) (y :: ys) = y :: mgG f (x :: xs) ys := by rw [mgG, if_pos h]
theorem mg_keep (x y : α) (xs ys : List α) (h : f x y = false) : mgG f (x :: xs) (y :: ys) = x :: mgG f xs (y :: ys) := by rw [mgG, if_neg (by simp [h])]
theorem mg_len : ∀ (n : Nat) (xs ys : List α), xs.length + ys.length = n → (mgG f xs ys).length = xs.length + ys.length := by
  intro n
  induction n with
  | zero => intro xs ys h; have h1 : xs = [] := List.eq_nil_of_length_eq_zero (by omega); have h2 : ys = [] := List.eq_nil_of_length_eq_zero (by omega); subst h1 h2; simp [mgG]
  | succ n ih =>
    intro xs ys h
    cases xs with
    | nil => rw [nil_mg]; simp
    | cons x xs =>
      cases ys with
      | nil => rw [mg_nil]; simp
      | cons y ys =>
        simp only [List.length_cons] at h
        cases hf : f x y with
        | true => rw [mg_take f _ _ _ _ hf, List.length_cons, ih (x :: xs) ys (by simp only [List.length_cons]; omega)]; simp only [List.length_cons]; omega
        | false => rw [mg_keep f _ _ _ _ hf, List.length_cons, ih xs (y :: ys) (by simp only [List.length_cons]; omega)]; simp only [List.length_cons]; omega
theorem mg_mem : ∀ (n : Nat) (xs ys : List α), xs.length + ys.length = n → ∀ z ∈ mgG f xs ys, z ∈ xs ∨ z ∈ ys := by
  intro n
  induction n with
  | zero => intro xs ys h; have h1 : xs = [] := List.eq_nil_of_length_eq_zero (by omega); have h2 : ys = [] := List.eq_nil_of_length_eq_zero (by omega); subst h1 h2; simp [mgG]
  | succ n ih =>
    intro xs ys h z hz
    cases xs with
    | nil => rw [nil_mg] at hz; exact .inr hz
    | cons x xs =>
      cases ys with
      | nil => rw [mg_nil] at hz; exact .inl hz
      | cons y ys =>
        simp only [List.length_cons] at h
        cases hf : f x y with
        | true =>
          rw [mg_take f _ _ _ _ hf] at hz
          rcases List.mem_cons.1 hz with rfl | hz
          · exact .inr (by simp)
          · rcases ih (x :: xs) ys (by simp only [List.length_cons]; omega) z hz with h1 | h1
            · exact .inl h1
            · exact .inr (List.mem_cons_of_mem _ h1)
        | false =>
          rw [mg_keep f _ _ _ _ hf] at hz
          rcases List.mem_cons.1 hz with rfl | hz
          · exact .inl (by simp)
          · rcases ih xs (y :: ys) (by simp only [List.length_cons]; omega) z hz with h1 | h1
            · exact .inl (List.mem_cons_of_mem _ h1)
            · exact .inr h1
/-- In order: nothing goes behind what follows it. -/
def InOrd (l : List α) : Prop := l.Pairwise fun a b => f a b = false
theorem mg_split : ∀ (n : Nat) (U1 V1 U2 V2 : List α), U1.length + V1.length = n → (∀ u ∈ U1, ∀ v ∈ V2, f u v = false) → (∀ v ∈ V1, ∀ u ∈ U2, f u v = true) → mgG f (U1 ++ U2) (V1 ++ V2) = mgG f U1 V1 ++ mgG f U2 V2 := by
  intro n
  induction n with
  | zero => intro U1 V1 U2 V2 h _ _; have h1 : U1 = [] := List.eq_nil_of_length_eq_zero (by omega); have h2 : V1 = [] := List.eq_nil_of_length_eq_zero (by omega); subst h1 h2; simp [nil_mg]
  | succ n ih =>
    intro U1 V1 U2 V2 h ha hb
    cases U1 with
    | nil =>
      cases V1 with
      | nil => simp at h
      | cons v V1 =>
        rw [List.nil_append, nil_mg]
        have h9 := ih [] V1 U2 V2 (by simp at h ⊢; omega) (fun u hu => nomatch hu) (fun x hx => hb x (List.mem_cons_of_mem _ hx))
        rw [List.nil_append, nil_mg] at h9
        cases U2 with
        | nil => rw [nil_mg, nil_mg]
        | cons u U2 => rw [List.cons_append, mg_take f _ _ _ _ (hb v (by simp) u (by simp)), h9]; rfl
    | cons u U1 =>
      cases V1 with
      | nil =>
        rw [List.nil_append, mg_nil]
        have h9 := ih U1 [] U2 V2 (by simp at h ⊢; omega) (fun x hx => ha x (List.mem_cons_of_mem _ hx)) (fun v hv => nomatch hv)
        rw [List.nil_append, mg_nil] at h9
        cases V2 with
        | nil => rw [mg_nil, mg_nil]
        | cons v V2 => rw [List.cons_append, mg_keep f _ _ _ _ (ha u (by simp) v (by simp)), h9]; rfl
      | cons v V1 =>
        simp only [List.length_cons] at h
        cases hf : f u v with
        | true =>
          rw [List.cons_append, List.cons_append, mg_take f _ _ _ _ hf, mg_take f _ _ _ _ hf]
          have h9 := ih (u :: U1) V1 U2 V2 (by simp only [List.length_cons]; omega) ha (fun x hx => hb x (List.mem_cons_of_mem _ hx))
          rw [List.cons_append] at h9
          rw [h9]; rfl
        | false =>
          rw [List.cons_append, List.cons_append, mg_keep f _ _ _ _ hf, mg_keep f _ _ _ _ hf]
          have h9 := ih U1 (v :: V1) U2 V2 (by simp only [List.length_cons]; omega) (fun x hx => ha x (List.mem_cons_of_mem _ hx)) hb
          rw [List.cons_append] at h9
          rw [h9]; rfl
variable {f}
variable (hT : ∀ x y z : α, f x y = true → f y z = true → f x z = true) (hN : ∀ x y z : α, f x y = false → f y z = false → f x z = false)
include hT hN
theorem mg_assoc : ∀ (n : Nat) (X Y Z : List α), X.length + Y.length + Z.length = n → mgG f (mgG f X Y) Z = mgG f X (mgG f Y Z) := by
  intro n
  induction n with
  | zero => intro X Y Z h; have h1 : X = [] := List.eq_nil_of_length_eq_zero (by omega); have h2 : Y = [] := List.eq_nil_of_length_eq_zero (by omega); have h3 : Z = [] := List.eq_nil_of_length_eq_zero (by omega); subst h1 h2 h3; simp [nil_mg]
  | succ n ih =>
    intro X Y Z h
    cases X with
    | nil => rw [nil_mg, nil_mg]
    | cons x X =>
      cases Y with
      | nil => rw [mg_nil, nil_mg]
      | cons y Y =>
        cases Z with
        | nil => rw [mg_nil, mg_nil]
        | cons z Z =>
          simp only [List.length_cons] at h
          have i1 := ih (x :: X) (y :: Y) Z (by simp only [List.length_cons]; omega)
          have i2 := ih (x :: X) Y (z :: Z) (by simp only [List.length_cons]; omega)
          have i3 := ih X (y :: Y) (z :: Z) (by simp only [List.length_cons]; omega)
          cases hxy : f x y with
          | true =>
            rw [mg_take f _ _ _ _ hxy] at i1 ⊢
            cases hyz : f y z with
            | true =>
              rw [mg_take f _ _ _ _ hyz, mg_take f _ _ _ _ hyz, mg_take f _ _ _ _ (hT _ _ _ hxy hyz), i1]
            | false =>
              rw [mg_keep f _ _ _ _ hyz, mg_keep f _ _ _ _ hyz, mg_take f _ _ _ _ hxy, i2]
          | false =>
            rw [mg_keep f _ _ _ _ hxy] at i1 ⊢
            cases hyz : f y z with
            | true =>
              rw [mg_take f y z _ _ hyz] at i3 ⊢
              cases hxz : f x z with
              | true => rw [mg_take f _ _ _ _ hxz, mg_take f _ _ _ _ hxz, i1]
              | false => rw [mg_keep f _ _ _ _ hxz, mg_keep f _ _ _ _ hxz, i3]
            | false =>
              rw [mg_keep f y z _ _ hyz] at i3 ⊢
              rw [mg_keep f _ _ _ _ (hN _ _ _ hxy hyz), mg_keep f _ _ _ _ hxy, i3]
omit hT in
theorem mg_ord : ∀ (n : Nat) (X Y : List α), X.length + Y.length = n → InOrd f X → InOrd f Y → (∀ x y : α, f x y = true → f y x = false) → InOrd f (mgG f X Y) := by
  intro n
  induction n with
  | zero => intro X Y h _ _ _; have h1 : X = [] := List.eq_nil_of_length_eq_zero (by omega); have h2 : Y = [] := List.eq_nil_of_length_eq_zero (by omega); subst h1 h2; rw [nil_mg]; exact List.Pairwise.nil
  | succ n ih =>
    intro X Y h hx hy hA
    cases X with
    | nil => rw [nil_mg]; exact hy
    | cons x X =>
      cases Y with
      | nil => rw [mg_nil]; exact hx
      | cons y Y =>
        simp only [List.length_cons] at h
        obtain ⟨x1, x2⟩ := List.pairwise_cons.1 hx
        obtain ⟨y1, y2⟩ := List.pairwise_cons.1 hy
        cases hf : f x y with
        | true =>
          rw [mg_take f _ _ _ _ hf]
          refine List.pairwise_cons.2 ⟨fun z hz => ?_, ih (x :: X) Y (by simp only [List.length_cons]; omega) hx y2 hA⟩
          rcases mg_mem f _ _ _ rfl z hz with h1 | h1
          · rcases List.mem_cons.1 h1 with rfl | h1
            · exact hA _ _ hf
            · exact hN _ _ _ (hA _ _ hf) (x1 z h1)
          · exact y1 z h1
        | false =>
          rw [mg_keep f _ _ _ _ hf]
          refine List.pairwise_cons.2 ⟨fun z hz => ?_, ih X (y :: Y) (by simp only [List.length_cons]; omega) x2 hy hA⟩
          rcases mg_mem f _ _ _ rfl z hz with h1 | h1
          · exact x1 z h1
          · rcases List.mem_cons.1 h1 with rfl | h1
            · exact hf
            · exact hN _ _ _ hf (y1 z h1)
omit hT in
/-- One that is put in by insertion is merged in. -/
theorem ins_mg {ys : List α} (x : α) (h : InOrd f ys) : insG f ys x = mgG f ys [x] := by
  have key : ∀ k, k ≤ ys.length → (∀ i (hi : i < ys.length), k ≤ i → f ys[i] x = true) → ys.take (posR f ys x k) ++ x :: ys.drop (posR f ys x k) = mgG f ys [x] := by
    intro k
    induction k with
    | zero =>
      intro _ hall
      show [] ++ x :: ys.drop 0 = _
      rw [List.drop_zero, List.nil_append]
      cases ys with
      | nil => rw [nil_mg]
      | cons y ys => rw [mg_take f y x ys [] (hall 0 (by simp) (by omega)), mg_nil]
    | succ k ih =>
      intro hk hall
      rw [posR_step f ys x k (by omega)]
      cases hf : f ys[k] x with
      | true =>
        rw [if_pos rfl]
        refine ih (by omega) (fun i hi hik => ?_)
        by_cases e : i = k
        · subst e; exact hf
        · exact hall i hi (by omega)
      | false =>
        rw [if_neg (by simp)]
        have h9 := mg_split f _ (ys.take (k + 1)) [] (ys.drop (k + 1)) [x] rfl (fun u hu v hv => by
          obtain rfl : v = x := by simpa using hv
          obtain ⟨i, hi, rfl⟩ := List.mem_iff_getElem.1 hu
          rw [List.length_take] at hi
          rw [List.getElem_take]
          by_cases e : i = k
          · subst e; exact hf
          · exact hN _ _ _ (List.pairwise_iff_getElem.1 h i k (by omega) (by omega) (by omega)) hf) (fun v hv => nomatch hv)
        rw [List.take_append_drop, List.nil_append, mg_nil] at h9
        rw [h9]
        congr 1
        cases hd : ys.drop (k + 1) with
        | nil => rw [nil_mg]
        | cons y r =>
          have hlt : k + 1 < ys.length := by
            have : (ys.drop (k + 1)).length = (y :: r).length := by rw [hd]
            rw [List.length_drop, List.length_cons] at this
            omega
          have e : y = ys[k + 1] := by
            have := List.getElem_drop (xs := ys) (i := k + 1) (j := 0) (h := by rw [hd]; simp)
            simp only [hd, List.getElem_cons_zero, Nat.add_zero] at this
            exact this
          rw [mg_take f _ _ _ _ (by rw [e]; exact hall (k + 1) hlt (by omega)), mg_nil]
  exact key ys.length (Nat.le_refl _) (fun i hi h => by omega)
end

/-- What is sorted by insertion. -/
def srtG {α : Type} (f : α → α → Bool) (l : List α) : List α := l.foldl (insG f) []
section
variable {α : Type} {f : α → α → Bool} (hT : ∀ x y z : α, f x y = true → f y z = true → f x z = true) (hN : ∀ x y z : α, f x y = false → f y z = false → f x z = false) (hA : ∀ x y : α, f x y = true → f y x = false)
include hN hA
theorem srt_ord : ∀ (n : Nat) (l : List α), l.length = n → InOrd f (srtG f l) := by
  intro n
  induction n with
  | zero => intro l h; have h1 : l = [] := List.eq_nil_of_length_eq_zero h; subst h1; exact List.Pairwise.nil
  | succ n ih =>
    intro l h
    have hne : l ≠ [] := fun e => by subst e; simp at h
    rw [← List.dropLast_concat_getLast hne]
    unfold srtG
    rw [List.foldl_append]
    show InOrd f (insG f (srtG f l.dropLast) _)
    have h1 := ih l.dropLast (by rw [List.length_dropLast]; omega)
    rw [ins_mg hN _ h1]
    exact mg_ord hN _ _ _ rfl h1 (List.pairwise_singleton _ _) hA
include hT
theorem srt_append : ∀ (n : Nat) (xs ys : List α), ys.length = n → srtG f (xs ++ ys) = mgG f (srtG f xs) (srtG f ys) := by
  intro n
  induction n with
  | zero => intro xs ys h; have h1 : ys = [] := List.eq_nil_of_length_eq_zero h; subst h1; rw [List.append_nil]; exact (mg_nil f _).symm
  | succ n ih =>
    intro xs ys h
    have hne : ys ≠ [] := fun e => by subst e; simp at h
    obtain ⟨zs, z, rfl⟩ : ∃ zs z, ys = zs ++ [z] := ⟨_, _, (List.dropLast_concat_getLast hne).symm⟩
    have h1 := ih xs zs (by simp at h; omega)
    have e1 : srtG f (xs ++ (zs ++ [z])) = insG f (srtG f (xs ++ zs)) z := by rw [← List.append_assoc]; unfold srtG; rw [List.foldl_append]; rfl
    have e2 : srtG f (zs ++ [z]) = insG f (srtG f zs) z := by unfold srtG; rw [List.foldl_append]; rfl
    rw [e1, e2, h1, ins_mg hN _ (srt_ord hN hA _ zs rfl), ins_mg hN _ (mg_ord hN _ _ _ rfl (srt_ord hN hA _ xs rfl) (srt_ord hN hA _ zs rfl) hA), mg_assoc hT hN _ _ _ _ rfl]
end
theorem sameV_eq {x y : V4} (h : sameV x y = true) : x = y := by
  obtain ⟨a, b, c, ps⟩ := x
  obtain ⟨a', b', c', ps'⟩ := y
  unfold sameV sameB coreB at h
  simp only [Bool.and_eq_true, decide_eq_true_eq, beq_iff_eq] at h
  simp_all
theorem lessV_not {x y z : V4} (h : lessV x y = false) (k : lessV y z = false) : lessV x z = false := by
  cases hxz : lessV x z with
  | false => rfl
  | true =>
    have o1 := one_way x y
    have o2 := one_way y z
    cases hyx : lessV y x with
    | true =>
      have h9 := lessV_trans hyx hxz
      rw [k] at h9; cases h9
    | false =>
      rw [h, hyx] at o1
      have hs : sameV x y = true := by
        cases hs : sameV x y with
        | true => rfl
        | false => rw [hs] at o1; simp at o1
      have e : x = y := sameV_eq hs
      subst e
      rw [k] at hxz; cases hxz
def v4E (d : EntryD) : V4 := ⟨d.vA, d.vB, d.vC, d.vP⟩
theorem lessC_v4 (a b : EC) : lessC a b = lessV (v4E a.d) (v4E b.d) := rfl
theorem lessC_T (x y z : EC) (h : lessC x y = true) (k : lessC y z = true) : lessC x z = true := by rw [lessC_v4] at *; exact lessV_trans h k
theorem lessC_N (x y z : EC) (h : lessC x y = false) (k : lessC y z = false) : lessC x z = false := by rw [lessC_v4] at *; exact lessV_not h k
theorem lessC_A (x y : EC) (h : lessC x y = true) : lessC y x = false := by
  rw [lessC_v4] at *
  have o1 := one_way (v4E x.d) (v4E y.d)
  rw [h] at o1
  cases hyx : lessV (v4E y.d) (v4E x.d) with
  | false => rfl
  | true => rw [hyx] at o1; cases hs : sameV (v4E x.d) (v4E y.d) <;> rw [hs] at o1 <;> simp at o1
theorem sortC_app (xs ys : List EC) : sortC (xs ++ ys) = mgG lessC (sortC xs) (sortC ys) := srt_append lessC_T lessC_N lessC_A _ xs ys rfl
theorem sortC_ord (xs : List EC) : InOrd lessC (sortC xs) := srt_ord lessC_N lessC_A _ xs rfl
end Go.Proofs.Ytablcicfagmhpaa

/-! Rows of a list of entries exchanged one by one: a contract for the walk; conditions: the row may be written, and holds no more than 2 to the 40. -/
namespace Go.Proofs.Ytablcicfagmhpaa
open Go.RowKit
set_option linter.unusedSimpArgs false
set_option linter.unusedVariables false

/-- Two places exchanged; k places from a on with as many from b on. -/
def swpL {α : Type} (l : List α) (i j : Nat) : List α := match l[i]?, l[j]? with
  | some x, some y => (l.set i y).set j x
  | _, _ => l
def swrL {α : Type} (l : List α) (a b : Nat) : Nat → List α
  | 0 => l
  | k + 1 => swpL (swrL l a b k) (a + k) (b + k)
theorem swp_len {α : Type} (l : List α) (i j : Nat) : (swpL l i j).length = l.length := by unfold swpL; split <;> simp
theorem swr_len {α : Type} (l : List α) (a b : Nat) : ∀ k, (swrL l a b k).length = l.length
  | 0 => rfl
  | k + 1 => by show (swpL _ _ _).length = _; rw [swp_len, swr_len l a b k]
theorem swp_some {α : Type} {l : List α} {i j : Nat} {x y : α} (hi : l[i]? = some x) (hj : l[j]? = some y) : swpL l i j = (l.set i y).set j x := by unfold swpL; rw [hi, hj]
theorem swp_mem {α : Type} {l : List α} {i j : Nat} {z : α} (h : z ∈ swpL l i j) : z ∈ l := by
  unfold swpL at h
  split at h
  · rename_i x y hx hy
    rcases List.mem_or_eq_of_mem_set h with h | rfl
    · rcases List.mem_or_eq_of_mem_set h with h | rfl
      · exact h
      · exact List.mem_of_getElem? hy
    · exact List.mem_of_getElem? hx
  · exact h

set_option maxHeartbeats 16000000 in
set_option maxRecDepth 100000 in
theorem swapR_c (B g cap a b n : Nat) (ps : List EC) (w : World) (hr : RowE B w (.slice (some ⟨g, 0, none⟩) ps.length cap) ps) (hB : B ≤ w.heap.size) (hn : ps.length ≤ 1099511627776) (hab : a + n ≤ b) (hbn : b + n ≤ ps.length) :
    Calls Try.prog 59 #[.slice (some ⟨g, 0, none⟩) ps.length cap, .int .i64 (a : Int), .int .i64 (b : Int), .int .i64 (n : Int), .func (.func 17) #[] #[]] w fun e w' => e = .returned (.tuple #[]) ∧ RowE B w' (.slice (some ⟨g, 0, none⟩) ps.length cap) (swrL ps a b n) ∧ Below B w w' := by
  have hgB : B ≤ g := (hr.1.lt g rfl).1
  have HR0 := hidden hr
  clear hr
  go_enter Try.func59, Try.ntmps59
  go_wp2_with fail
  go_loopw [10] (fun vi wr => ∃ k : Nat, vi = .int .i64 (k : Int) ∧ k ≤ n ∧ Hid (RowE B wr (.slice (some ⟨g, 0, none⟩) ps.length cap) (swrL ps a b k)) ∧ Hid (Below B w wr)) (fun vi _ => n - (intOf vi).toNat)
  case atStart => exact ⟨0, rfl, Nat.zero_le _, HR0, Below.refl _ _⟩
  case round =>
    clear HR0
    obtain ⟨k, rfl, hk, HROW, HBR⟩ := hrel
    by_cases hlt : k < n
    case neg =>
      have hq : ¬ (k : Int) < (n : Int) := by omega
      obtain rfl : k = n := by omega
      have HE : Hid (RowE B wr (.slice (some ⟨g, 0, none⟩) ps.length cap) (swrL ps a b k) ∧ Below B w wr) := ⟨HROW.out, HBR.out⟩
      clear HROW HBR
      go_wp2_with fail
      go_end0
      exact ⟨rfl, HE.out⟩
    case pos =>
      have hq : (k : Int) < (n : Int) := by omega
      obtain ⟨Q, hQ⟩ : ∃ Q, Q = swrL ps a b k := ⟨_, rfl⟩
      have hQl : Q.length = ps.length := by rw [hQ, swr_len]
      obtain ⟨I, hI⟩ : ∃ I, I = a + k := ⟨_, rfl⟩
      obtain ⟨J, hJ⟩ : ∃ J, J = b + k := ⟨_, rfl⟩
      have hL : ps.length = Q.length := hQl.symm
      obtain ⟨x, hx⟩ : ∃ x, x = Q[I]'(by omega) := ⟨_, rfl⟩
      obtain ⟨yc, hyq⟩ : ∃ x, x = Q[J]'(by omega) := ⟨_, rfl⟩
      have hxI : Q[I]? = some x := by rw [hx]; exact List.getElem?_eq_getElem _
      have hyJ : Q[J]? = some yc := by rw [hyq]; exact List.getElem?_eq_getElem _
      have HSW : Hid (swrL ps a b (k + 1) = (Q.set I yc).set J x) := by
        show swpL (swrL ps a b k) (a + k) (b + k) = _
        rw [← hQ, ← hI, ← hJ]
        exact swp_some hxI hyJ
      rw [← hQ] at HROW
      have hAI : (a : Int) + (k : Int) = (I : Int) := by omega
      have hBJ : (b : Int) + (k : Int) = (J : Int) := by omega
      have hI0 : (0 : Int) ≤ (I : Int) := by omega
      have hJ0 : (0 : Int) ≤ (J : Int) := by omega
      have hI1 : (I : Int) < (ps.length : Int) := by omega
      have hJ1 : (J : Int) < (ps.length : Int) := by omega
      have hIw : IntKind.i64.wrap (I : Int) = (I : Int) := IntWalk.i64_in _ ⟨by omega, by omega⟩
      have hJw : IntKind.i64.wrap (J : Int) = (J : Int) := IntWalk.i64_in _ ⟨by omega, by omega⟩
      have hI2 : I < ps.length := by omega
      have hJ2 : J < ps.length := by omega
      have hIJ0 : I < J := by omega
      have HIN := hidden hI
      have HJN := hidden hJ
      clear hQ hQl hx hyq hI hJ
      have hxo : EntOwn wr x := HROW.out.2 _ (List.mem_of_getElem? hxI)
      have hyo : EntOwn wr yc := HROW.out.2 _ (List.mem_of_getElem? hyJ)
      obtain ⟨q0, c0, q1, c1, f0, f1⟩ := ent_slices hxo
      obtain ⟨s0, t0, s1, t1, y0, y1⟩ := ent_slices hyo
      have hxc : ∀ j, j < 6 → wr.cell? ⟨g, I * 6 + j, none⟩ = (x.cells)[j]? := fun j hj => HROW.out.cellQ hL hxI j hj
      have hyc : ∀ j, j < 6 → wr.cell? ⟨g, J * 6 + j, none⟩ = (yc.cells)[j]? := fun j hj => HROW.out.cellQ hL hyJ j hj
      obtain ⟨d, hd⟩ : ∃ d, d = x.d := ⟨_, rfl⟩
      obtain ⟨y, hy⟩ : ∃ y, y = yc.d := ⟨_, rfl⟩
      rw [← hd] at f0 f1
      rw [← hy] at y0 y1
      have hxcl : x.cells = [.string d.name, .int .i64 d.vA, .int .i64 d.vB, .int .i64 d.vC, .slice q0 d.vP.length c0, .slice q1 d.needs.length c1] := by unfold EC.cells; rw [f0, f1, ← hd]
      have hycl : yc.cells = [.string y.name, .int .i64 y.vA, .int .i64 y.vB, .int .i64 y.vC, .slice s0 y.vP.length t0, .slice s1 y.needs.length t1] := by unfold EC.cells; rw [y0, y1, ← hy]
      have HXC := hidden hxcl
      have HYC := hidden hycl
      rw [hxcl] at hxc
      rw [hycl] at hyc
      have hIJ : I ≠ J := by omega
      have hdr : Below wr.heap.size wr wr.drew := (Below.refl _ _).drew
      obtain ⟨w9, hw9⟩ : ∃ w9, w9 = ((((((wr.setCell ⟨g, I * 6, none⟩ (.string y.name)).setCell ⟨g, I * 6 + 1, none⟩ (.int .i64 y.vA)).setCell ⟨g, I * 6 + 2, none⟩ (.int .i64 y.vB)).setCell ⟨g, I * 6 + 3, none⟩ (.int .i64 y.vC)).setCell ⟨g, I * 6 + 4, none⟩ (.slice s0 y.vP.length t0)).setCell ⟨g, I * 6 + 5, none⟩ (.slice s1 y.needs.length t1)).drew := ⟨_, rfl⟩
      obtain ⟨w10, hw10⟩ : ∃ w10, w10 = ((((((w9.setCell ⟨g, J * 6, none⟩ (.string d.name)).setCell ⟨g, J * 6 + 1, none⟩ (.int .i64 d.vA)).setCell ⟨g, J * 6 + 2, none⟩ (.int .i64 d.vB)).setCell ⟨g, J * 6 + 3, none⟩ (.int .i64 d.vC)).setCell ⟨g, J * 6 + 4, none⟩ (.slice q0 d.vP.length c0)).setCell ⟨g, J * 6 + 5, none⟩ (.slice q1 d.needs.length c1)) := ⟨_, rfl⟩
      have hIl : I < Q.length := (List.getElem?_eq_some_iff.1 hxI).1
      have hJl : J < Q.length := (List.getElem?_eq_some_iff.1 hyJ).1
      have e9 : w9 = (setW wr g (I * 6) yc.cells).drew := by rw [HYC.out]; exact hw9
      have R9 : RowE B w9 (.slice (some ⟨g, 0, none⟩) ps.length cap) (Q.set (I) yc) := by
        rw [e9]
        exact (HROW.out.setN hL hIl hyo).below ((Below.refl _ _).drew)
      have X9 : EntOwn w9 x := by
        have h8 := HROW.out.1
        rw [← hL] at h8
        rw [e9]
        exact (EntOwn.puts _ hxo h8).below ((Below.refl _ _).drew)
      have e10 : w10 = setW w9 g (J * 6) x.cells := by rw [HXC.out]; exact hw10
      have R10 : RowE B w10 (.slice (some ⟨g, 0, none⟩) ps.length cap) ((Q.set (I) yc).set (J) x) := by
        rw [e10]
        exact R9.setN (by rw [List.length_set]; exact hL) (by rw [List.length_set]; exact hJl) X9
      have HFIN := hidden R10
      have HBL : Hid (Below B w w10) := by
        show Below B w w10
        rw [e10, e9]
        exact setW_below hgB _ _ _ _ (setW_below hgB _ _ _ _ HBR.out).drew
      have hz9 : ∀ j, w9.cell? ⟨g, J * 6 + j, none⟩ = w9.cell? ⟨g, J * 6 + j, none⟩ := fun _ => rfl
      have h9at : (Q.set (I) yc)[J]? = some yc := by rw [List.getElem?_set_ne hIJ]; exact hyJ
      have hc9 : ∀ j, j < 6 → w9.cell? ⟨g, J * 6 + j, none⟩ = ([.string y.name, .int .i64 y.vA, .int .i64 y.vB, .int .i64 y.vC, .slice s0 y.vP.length t0, .slice s1 y.needs.length t1] : List Value)[j]? := fun j hj => by
        rw [← HYC.out]
        exact R9.cellQ (by rw [List.length_set]; exact hL) h9at j hj
      have a0_ : wr.drew.cell? ⟨g, I * 6, none⟩ = some (.string d.name) := hxc 0 (by omega)
      have a1_ : wr.drew.cell? ⟨g, I * 6 + 1, none⟩ = some (.int .i64 d.vA) := hxc 1 (by omega)
      have a2_ : wr.drew.cell? ⟨g, I * 6 + 2, none⟩ = some (.int .i64 d.vB) := hxc 2 (by omega)
      have a3_ : wr.drew.cell? ⟨g, I * 6 + 3, none⟩ = some (.int .i64 d.vC) := hxc 3 (by omega)
      have a4_ : wr.drew.cell? ⟨g, I * 6 + 4, none⟩ = some (.slice q0 d.vP.length c0) := hxc 4 (by omega)
      have a5_ : wr.drew.cell? ⟨g, I * 6 + 5, none⟩ = some (.slice q1 d.needs.length c1) := hxc 5 (by omega)
      have b0_ : wr.drew.cell? ⟨g, J * 6, none⟩ = some (.string y.name) := hyc 0 (by omega)
      have b1_ : wr.drew.cell? ⟨g, J * 6 + 1, none⟩ = some (.int .i64 y.vA) := hyc 1 (by omega)
      have b2_ : wr.drew.cell? ⟨g, J * 6 + 2, none⟩ = some (.int .i64 y.vB) := hyc 2 (by omega)
      have b3_ : wr.drew.cell? ⟨g, J * 6 + 3, none⟩ = some (.int .i64 y.vC) := hyc 3 (by omega)
      have b4_ : wr.drew.cell? ⟨g, J * 6 + 4, none⟩ = some (.slice s0 y.vP.length t0) := hyc 4 (by omega)
      have b5_ : wr.drew.cell? ⟨g, J * 6 + 5, none⟩ = some (.slice s1 y.needs.length t1) := hyc 5 (by omega)
      have a0_w : wr.cell? ⟨g, I * 6, none⟩ = some (.string d.name) := hxc 0 (by omega)
      have a1_w : wr.cell? ⟨g, I * 6 + 1, none⟩ = some (.int .i64 d.vA) := hxc 1 (by omega)
      have a2_w : wr.cell? ⟨g, I * 6 + 2, none⟩ = some (.int .i64 d.vB) := hxc 2 (by omega)
      have a3_w : wr.cell? ⟨g, I * 6 + 3, none⟩ = some (.int .i64 d.vC) := hxc 3 (by omega)
      have a4_w : wr.cell? ⟨g, I * 6 + 4, none⟩ = some (.slice q0 d.vP.length c0) := hxc 4 (by omega)
      have a5_w : wr.cell? ⟨g, I * 6 + 5, none⟩ = some (.slice q1 d.needs.length c1) := hxc 5 (by omega)
      have z0_ : w9.cell? ⟨g, J * 6, none⟩ = some (.string y.name) := hc9 0 (by omega)
      have z1_ : w9.cell? ⟨g, J * 6 + 1, none⟩ = some (.int .i64 y.vA) := hc9 1 (by omega)
      have z2_ : w9.cell? ⟨g, J * 6 + 2, none⟩ = some (.int .i64 y.vB) := hc9 2 (by omega)
      have z3_ : w9.cell? ⟨g, J * 6 + 3, none⟩ = some (.int .i64 y.vC) := hc9 3 (by omega)
      have z4_ : w9.cell? ⟨g, J * 6 + 4, none⟩ = some (.slice s0 y.vP.length t0) := hc9 4 (by omega)
      have z5_ : w9.cell? ⟨g, J * 6 + 5, none⟩ = some (.slice s1 y.needs.length t1) := hc9 5 (by omega)
      have hf8 : ∀ j, wr.drew.frozen? ⟨g, j, none⟩ = false := fun j => HROW.out.frz hL j
      have hf6 : ∀ j, wr.frozen? ⟨g, j, none⟩ = false := fun j => HROW.out.frz hL j
      have hf9 : ∀ j, w9.frozen? ⟨g, j, none⟩ = false := fun j => R9.frz (by rw [List.length_set]; exact hL) j
      have HW9 := hidden hw9
      have HW10 := hidden hw10
      have HLL := hidden hL
      have HIJ := hidden hIJ
      clear hz9 hw9 hw10 e9 e10 R9 R10 X9 h9at hc9 hL hxc hyc hxcl hycl hxo hyo f0 f1 y0 y1 hd hy hdr hIJ HXC HYC HROW HBR hxI hyJ hIl hJl
      go_wp2_with fail
      refine wp_region_held_drew (S := (fun _ => True)) (by kernel_rfl) True.intro (fun hHeld => ?_)
      refine wpAnyH_take (i := 0) (oi := _) (v := ?vZsa0) rfl (by kernel_rfl) (by kernel_rfl) (by kernel_rfl) (fun _ _ _ h => h) (Or.inl ⟨by rfl, ?yZsa0⟩) hHeld ?_
      case yZsa0 => (intro w hSw; (try dsimp only at hSw); go_simp <;> with_reducible rfl)
      try simp only [Act.put, List.getElem_toArray, List.getElem_cons_zero, List.getElem_cons_succ, List.setIfInBounds_toArray, List.set_cons_zero, List.set_cons_succ]
      refine wpAnyH_take (i := 1) (oi := _) (v := ?vZsa1) rfl (by kernel_rfl) (by kernel_rfl) (by kernel_rfl) (fun _ _ _ h => h) (Or.inl ⟨by rfl, ?yZsa1⟩) hHeld ?_
      case yZsa1 => (intro w hSw; (try dsimp only at hSw); go_simp <;> with_reducible rfl)
      try simp only [Act.put, List.getElem_toArray, List.getElem_cons_zero, List.getElem_cons_succ, List.setIfInBounds_toArray, List.set_cons_zero, List.set_cons_succ]
      refine wpAnyH_take (i := 2) (oi := _) (v := ?vZsa2) rfl (by kernel_rfl) (by kernel_rfl) (by kernel_rfl) (fun _ _ _ h => h) (Or.inl ⟨by rfl, ?yZsa2⟩) hHeld ?_
      case yZsa2 => (intro w hSw; (try dsimp only at hSw); go_simp <;> with_reducible rfl)
      try simp only [Act.put, List.getElem_toArray, List.getElem_cons_zero, List.getElem_cons_succ, List.setIfInBounds_toArray, List.set_cons_zero, List.set_cons_succ]
      refine wpAnyH_take (i := 3) (oi := _) (v := ?vZsa3) rfl (by kernel_rfl) (by kernel_rfl) (by kernel_rfl) (fun _ _ _ h => h) (Or.inl ⟨by rfl, ?yZsa3⟩) hHeld ?_
      case yZsa3 => (intro w hSw; (try dsimp only at hSw); go_simp <;> with_reducible rfl)
      try simp only [Act.put, List.getElem_toArray, List.getElem_cons_zero, List.getElem_cons_succ, List.setIfInBounds_toArray, List.set_cons_zero, List.set_cons_succ]
      refine wpAnyH_take (i := 4) (oi := _) (v := ?vZsa4) rfl (by kernel_rfl) (by kernel_rfl) (by kernel_rfl) (fun _ _ _ h => h) (Or.inl ⟨by rfl, ?yZsa4⟩) hHeld ?_
      case yZsa4 => (intro w hSw; (try dsimp only at hSw); go_simp <;> with_reducible rfl)
      try simp only [Act.put, List.getElem_toArray, List.getElem_cons_zero, List.getElem_cons_succ, List.setIfInBounds_toArray, List.set_cons_zero, List.set_cons_succ]
      refine wpAnyH_take (i := 5) (oi := _) (v := ?vZsa5) rfl (by kernel_rfl) (by kernel_rfl) (by kernel_rfl) (fun _ _ _ h => h) (Or.inl ⟨by rfl, ?yZsa5⟩) hHeld ?_
      case yZsa5 => (intro w hSw; (try dsimp only at hSw); go_simp <;> with_reducible rfl)
      try simp only [Act.put, List.getElem_toArray, List.getElem_cons_zero, List.getElem_cons_succ, List.setIfInBounds_toArray, List.set_cons_zero, List.set_cons_succ]
      refine wpAnyH_take (i := 6) (oi := _) (v := ?vZsa6) rfl (by kernel_rfl) (by kernel_rfl) (by kernel_rfl) (fun _ _ _ h => h) (Or.inl ⟨by rfl, ?yZsa6⟩) hHeld ?_
      case yZsa6 => (intro w hSw; (try dsimp only at hSw); go_simp <;> with_reducible rfl)
      try simp only [Act.put, List.getElem_toArray, List.getElem_cons_zero, List.getElem_cons_succ, List.setIfInBounds_toArray, List.set_cons_zero, List.set_cons_succ]
      refine wpAnyH_take (i := 7) (oi := _) (v := ?vZsa7) rfl (by kernel_rfl) (by kernel_rfl) (by kernel_rfl) (fun _ _ _ h => h) (Or.inl ⟨by rfl, ?yZsa7⟩) hHeld ?_
      case yZsa7 => (intro w hSw; (try dsimp only at hSw); go_simp <;> with_reducible rfl)
      try simp only [Act.put, List.getElem_toArray, List.getElem_cons_zero, List.getElem_cons_succ, List.setIfInBounds_toArray, List.set_cons_zero, List.set_cons_succ]
      refine wpAnyH_take (i := 8) (oi := _) (v := ?vZsa8) rfl (by kernel_rfl) (by kernel_rfl) (by kernel_rfl) (fun _ _ _ h => h) (Or.inl ⟨by rfl, ?yZsa8⟩) hHeld ?_
      case yZsa8 => (intro w hSw; (try dsimp only at hSw); go_simp <;> with_reducible rfl)
      try simp only [Act.put, List.getElem_toArray, List.getElem_cons_zero, List.getElem_cons_succ, List.setIfInBounds_toArray, List.set_cons_zero, List.set_cons_succ]
      refine wpAnyH_take (i := 9) (oi := _) (v := ?vZsa9) rfl (by kernel_rfl) (by kernel_rfl) (by kernel_rfl) (fun _ _ _ h => h) (Or.inl ⟨by rfl, ?yZsa9⟩) hHeld ?_
      case yZsa9 => (intro w hSw; (try dsimp only at hSw); go_simp <;> with_reducible rfl)
      try simp only [Act.put, List.getElem_toArray, List.getElem_cons_zero, List.getElem_cons_succ, List.setIfInBounds_toArray, List.set_cons_zero, List.set_cons_succ]
      refine wpAnyH_take (i := 10) (oi := _) (v := ?vZsa10) rfl (by kernel_rfl) (by kernel_rfl) (by kernel_rfl) (fun _ _ _ h => h) (Or.inl ⟨by rfl, ?yZsa10⟩) hHeld ?_
      case yZsa10 => (intro w hSw; (try dsimp only at hSw); go_simp <;> with_reducible rfl)
      try simp only [Act.put, List.getElem_toArray, List.getElem_cons_zero, List.getElem_cons_succ, List.setIfInBounds_toArray, List.set_cons_zero, List.set_cons_succ]
      refine wpAnyH_take (i := 11) (oi := _) (v := ?vZsa11) rfl (by kernel_rfl) (by kernel_rfl) (by kernel_rfl) (fun _ _ _ h => h) (Or.inl ⟨by rfl, ?yZsa11⟩) hHeld ?_
      case yZsa11 => (intro w hSw; (try dsimp only at hSw); go_simp <;> with_reducible rfl)
      try simp only [Act.put, List.getElem_toArray, List.getElem_cons_zero, List.getElem_cons_succ, List.setIfInBounds_toArray, List.set_cons_zero, List.set_cons_succ]
      refine wpAnyH_take (i := 12) (oi := _) (v := ?vZsa12) rfl (by kernel_rfl) (by kernel_rfl) (by kernel_rfl) (fun _ _ _ h => h) (Or.inl ⟨by rfl, ?yZsa12⟩) hHeld ?_
      case yZsa12 => (intro w hSw; (try dsimp only at hSw); go_simp <;> with_reducible rfl)
      try simp only [Act.put, List.getElem_toArray, List.getElem_cons_zero, List.getElem_cons_succ, List.setIfInBounds_toArray, List.set_cons_zero, List.set_cons_succ]
      refine wpAnyH_take (i := 14) (oi := _) (v := ?vZsa14) rfl (by kernel_rfl) (by kernel_rfl) (by kernel_rfl) (fun _ _ _ h => h) (Or.inl ⟨by rfl, ?yZsa14⟩) hHeld ?_
      case yZsa14 => (intro w hSw; (try dsimp only at hSw); go_simp <;> with_reducible rfl)
      try simp only [Act.put, List.getElem_toArray, List.getElem_cons_zero, List.getElem_cons_succ, List.setIfInBounds_toArray, List.set_cons_zero, List.set_cons_succ]
      refine wpAnyH_take (i := 15) (oi := _) (v := ?vZsa15) rfl (by kernel_rfl) (by kernel_rfl) (by kernel_rfl) (fun _ _ _ h => h) (Or.inl ⟨by rfl, ?yZsa15⟩) hHeld ?_
      case yZsa15 => (intro w hSw; (try dsimp only at hSw); go_simp <;> with_reducible rfl)
      try simp only [Act.put, List.getElem_toArray, List.getElem_cons_zero, List.getElem_cons_succ, List.setIfInBounds_toArray, List.set_cons_zero, List.set_cons_succ]
      refine wpAnyH_take (i := 16) (oi := _) (v := ?vZsa16) rfl (by kernel_rfl) (by kernel_rfl) (by kernel_rfl) (fun _ _ _ h => h) (Or.inl ⟨by rfl, ?yZsa16⟩) hHeld ?_
      case yZsa16 => (intro w hSw; (try dsimp only at hSw); go_simp <;> with_reducible rfl)
      try simp only [Act.put, List.getElem_toArray, List.getElem_cons_zero, List.getElem_cons_succ, List.setIfInBounds_toArray, List.set_cons_zero, List.set_cons_succ]
      refine wpAnyH_take (i := 17) (oi := _) (v := ?vZsa17) rfl (by kernel_rfl) (by kernel_rfl) (by kernel_rfl) (fun _ _ _ h => h) (Or.inl ⟨by rfl, ?yZsa17⟩) hHeld ?_
      case yZsa17 => (intro w hSw; (try dsimp only at hSw); go_simp <;> with_reducible rfl)
      try simp only [Act.put, List.getElem_toArray, List.getElem_cons_zero, List.getElem_cons_succ, List.setIfInBounds_toArray, List.set_cons_zero, List.set_cons_succ]
      refine wpAnyH_take (i := 18) (oi := _) (v := ?vZsa18) rfl (by kernel_rfl) (by kernel_rfl) (by kernel_rfl) (fun _ _ _ h => h) (Or.inl ⟨by rfl, ?yZsa18⟩) hHeld ?_
      case yZsa18 => (intro w hSw; (try dsimp only at hSw); go_simp <;> with_reducible rfl)
      try simp only [Act.put, List.getElem_toArray, List.getElem_cons_zero, List.getElem_cons_succ, List.setIfInBounds_toArray, List.set_cons_zero, List.set_cons_succ]
      refine wpAnyH_ready (rs := [13, 19]) (by kernel_rfl) (by simp) ?_
      refine AllReadyH.cons rfl (fun K hK => ?_) (AllReadyH.cons rfl (fun K hK => ?_) AllReadyH.nil)
      · go_simp
        clear hHeld
        refine hK.out _ _ True.intro (fun hHeld => ?_)
        clear hK K
        refine wpAnyH_ready (rs := [19]) (by kernel_rfl) (by simp) ?_
        refine AllReadyH.cons rfl (fun K hK => ?_) AllReadyH.nil
        go_simp
        clear hHeld
        refine hK.out _ _ True.intro (fun hHeld => ?_)
        clear hK K
        refine wpAnyH_take (i := 20) (oi := _) (v := ?vZspi) rfl (by kernel_rfl) (by kernel_rfl) (by kernel_rfl) (fun _ _ _ h => h) (Or.inl ⟨by rfl, ?yZspi⟩) hHeld ?_
        case yZspi => (intro w hSw; (try dsimp only at hSw); go_simp <;> with_reducible rfl)
        try simp only [Act.put, List.getElem_toArray, List.getElem_cons_zero, List.getElem_cons_succ, List.setIfInBounds_toArray, List.set_cons_zero, List.set_cons_succ]
        refine wpAnyH_ready (rs := [21]) (by kernel_rfl) (by simp) ?_
        refine AllReadyH.cons rfl (fun K hK => ?_) AllReadyH.nil
        go_simp
        clear hHeld
        refine hK.out _ _ True.intro (fun hHeld => ?_)
        clear hK K
        rw [← HW9.out]
        refine wpAnyH_take (i := 22) (oi := _) (v := ?vZspj) rfl (by kernel_rfl) (by kernel_rfl) (by kernel_rfl) (fun _ _ _ h => h) (Or.inl ⟨by rfl, ?yZspj⟩) hHeld ?_
        case yZspj => (intro w hSw; (try dsimp only at hSw); go_simp <;> with_reducible rfl)
        try simp only [Act.put, List.getElem_toArray, List.getElem_cons_zero, List.getElem_cons_succ, List.setIfInBounds_toArray, List.set_cons_zero, List.set_cons_succ]
        refine wpAnyH_ready (rs := [23]) (by kernel_rfl) (by simp) ?_
        refine AllReadyH.cons rfl (fun K hK => ?_) AllReadyH.nil
        go_simp
        clear hHeld
        refine hK.out _ _ True.intro (fun hHeld => ?_)
        clear hK K
        rw [← HW10.out]
        refine wpAnyH_done (by kernel_rfl) ?_ _
        go_wp2_with fail
        go_roundw
        case rel => exact ⟨k + 1, by go_num, by omega, by rw [HSW.out]; exact HFIN, HBL⟩
        case measure => simp [intOf]; omega
      · go_simp
        clear hHeld
        refine hK.out _ _ True.intro (fun hHeld => ?_)
        clear hK K
        refine wpAnyH_ready (rs := [13]) (by kernel_rfl) (by simp) ?_
        refine AllReadyH.cons rfl (fun K hK => ?_) AllReadyH.nil
        go_simp
        clear hHeld
        refine hK.out _ _ True.intro (fun hHeld => ?_)
        clear hK K
        refine wpAnyH_take (i := 20) (oi := _) (v := ?vZsqi) rfl (by kernel_rfl) (by kernel_rfl) (by kernel_rfl) (fun _ _ _ h => h) (Or.inl ⟨by rfl, ?yZsqi⟩) hHeld ?_
        case yZsqi => (intro w hSw; (try dsimp only at hSw); go_simp <;> with_reducible rfl)
        try simp only [Act.put, List.getElem_toArray, List.getElem_cons_zero, List.getElem_cons_succ, List.setIfInBounds_toArray, List.set_cons_zero, List.set_cons_succ]
        refine wpAnyH_ready (rs := [21]) (by kernel_rfl) (by simp) ?_
        refine AllReadyH.cons rfl (fun K hK => ?_) AllReadyH.nil
        go_simp
        clear hHeld
        refine hK.out _ _ True.intro (fun hHeld => ?_)
        clear hK K
        rw [← HW9.out]
        refine wpAnyH_take (i := 22) (oi := _) (v := ?vZsqj) rfl (by kernel_rfl) (by kernel_rfl) (by kernel_rfl) (fun _ _ _ h => h) (Or.inl ⟨by rfl, ?yZsqj⟩) hHeld ?_
        case yZsqj => (intro w hSw; (try dsimp only at hSw); go_simp <;> with_reducible rfl)
        try simp only [Act.put, List.getElem_toArray, List.getElem_cons_zero, List.getElem_cons_succ, List.setIfInBounds_toArray, List.set_cons_zero, List.set_cons_succ]
        refine wpAnyH_ready (rs := [23]) (by kernel_rfl) (by simp) ?_
        refine AllReadyH.cons rfl (fun K hK => ?_) AllReadyH.nil
        go_simp
        clear hHeld
        refine hK.out _ _ True.intro (fun hHeld => ?_)
        clear hK K
        rw [← HW10.out]
        refine wpAnyH_done (by kernel_rfl) ?_ _
        go_wp2_with fail
        go_roundw
        case rel => exact ⟨k + 1, by go_num, by omega, by rw [HSW.out]; exact HFIN, HBL⟩
        case measure => simp [intOf]; omega
end Go.Proofs.Ytablcicfagmhpaa

/-! Two neighbouring blocks of rows of a list of entries exchanged: a contract for the walk; conditions: the row may be written, and holds no more than 2 to the 40. -/
namespace Go.Proofs.Ytablcicfagmhpaa
open Go.RowKit
set_option linter.unusedSimpArgs false
set_option linter.unusedVariables false

theorem swr_at {α : Type} (l : List α) (a b : Nat) : ∀ k, a + k ≤ b → b + k ≤ l.length → ∀ i, (swrL l a b k)[i]? = if a ≤ i ∧ i < a + k then l[i - a + b]? else if b ≤ i ∧ i < b + k then l[i - b + a]? else l[i]?
  | 0, _, _, i => by
    rw [if_neg (by omega), if_neg (by omega)]; rfl
  | k + 1, h1, h2, i => by
    have ih := swr_at l a b k (by omega) (by omega)
    have ea : (swrL l a b k)[a + k]? = some l[a + k] := by rw [ih, if_neg (by omega), if_neg (by omega)]; exact List.getElem?_eq_getElem _
    have eb : (swrL l a b k)[b + k]? = some l[b + k] := by rw [ih, if_neg (by omega), if_neg (by omega)]; exact List.getElem?_eq_getElem _
    show (swpL (swrL l a b k) (a + k) (b + k))[i]? = _
    rw [swp_some ea eb]
    have hl := swr_len l a b k
    by_cases e1 : i = b + k
    · subst e1
      rw [List.getElem?_set_self (by rw [List.length_set, hl]; omega), if_neg (by omega), if_pos (by omega), show b + k - b + a = a + k by omega]
      exact (List.getElem?_eq_getElem _).symm
    · rw [List.getElem?_set_ne (by omega)]
      by_cases e2 : i = a + k
      · subst e2
        rw [List.getElem?_set_self (by rw [hl]; omega), if_pos (by omega), show a + k - a + b = b + k by omega]
        exact (List.getElem?_eq_getElem _).symm
      · rw [List.getElem?_set_ne (by omega), ih]
        by_cases c1 : a ≤ i ∧ i < a + k
        · rw [if_pos c1, if_pos (by omega)]
        · rw [if_neg c1]
          by_cases c2 : b ≤ i ∧ i < b + k
          · rw [if_pos c2, if_neg (by omega), if_pos (by omega)]
          · rw [if_neg c2, if_neg (by omega), if_neg (by omega)]
theorem swr_cat {α : Type} (P A M K R : List α) (n : Nat) (hA : A.length = n) (hK : K.length = n) : swrL (P ++ (A ++ (M ++ (K ++ R)))) P.length (P.length + n + M.length) n = P ++ (K ++ (M ++ (A ++ R))) := by
  apply List.ext_getElem?
  intro i
  rw [swr_at _ _ _ _ (by omega) (by simp only [List.length_append]; omega)]
  by_cases c1 : i < P.length
  · rw [if_neg (by omega), if_neg (by omega), List.getElem?_append_left c1, List.getElem?_append_left c1]
  by_cases c2 : i < P.length + n
  · rw [if_pos (by omega), List.getElem?_append_right (by omega), List.getElem?_append_right (by omega), List.getElem?_append_right (by omega), List.getElem?_append_left (by omega)]
    rw [List.getElem?_append_right (by omega), List.getElem?_append_left (by omega)]
    congr 1
    omega
  by_cases c3 : i < P.length + n + M.length
  · rw [if_neg (by omega), if_neg (by omega), List.getElem?_append_right (by omega), List.getElem?_append_right (by omega), List.getElem?_append_left (by omega)]
    rw [List.getElem?_append_right (by omega), List.getElem?_append_right (by omega), List.getElem?_append_left (by omega)]
    congr 1
    omega
  by_cases c4 : i < P.length + n + M.length + n
  · rw [if_neg (by omega), if_pos (by omega), List.getElem?_append_right (by omega), List.getElem?_append_left (by omega)]
    rw [List.getElem?_append_right (by omega), List.getElem?_append_right (by omega), List.getElem?_append_right (by omega), List.getElem?_append_left (by omega)]
    congr 1
    omega
  · rw [if_neg (by omega), if_neg (by omega), List.getElem?_append_right (by omega), List.getElem?_append_right (by omega), List.getElem?_append_right (by omega), List.getElem?_append_right (by omega)]
    rw [List.getElem?_append_right (by omega), List.getElem?_append_right (by omega), List.getElem?_append_right (by omega), List.getElem?_append_right (by omega)]
    congr 1
    omega
theorem cut_two {α : Type} (l : List α) (n : Nat) (h : n ≤ l.length) : ∃ x y, l = x ++ y ∧ x.length = n ∧ y.length = l.length - n := ⟨l.take n, l.drop n, (List.take_append_drop n l).symm, by rw [List.length_take]; omega, by rw [List.length_drop]⟩

set_option maxHeartbeats 8000000 in
set_option maxRecDepth 100000 in
theorem rotate_c (B g cap N p m q : Nat) (P A K R : List EC) (w : World) (hp : p = P.length) (hm : m = P.length + A.length) (hq : q = P.length + A.length + K.length) (hN : N = P.length + A.length + K.length + R.length) (hr : RowE B w (.slice (some ⟨g, 0, none⟩) N cap) (P ++ (A ++ (K ++ R)))) (hB : B ≤ w.heap.size) (hn : N ≤ 1099511627776) (hA : 0 < A.length) (hK : 0 < K.length) :
    Calls Try.prog 55 #[.slice (some ⟨g, 0, none⟩) N cap, .int .i64 (p : Int), .int .i64 (m : Int), .int .i64 (q : Int), .func (.func 17) #[] #[]] w fun e w' => e = .returned (.tuple #[]) ∧ RowE B w' (.slice (some ⟨g, 0, none⟩) N cap) (P ++ (K ++ (A ++ R))) ∧ Below B w w' := by
  have HSR : Hid (∀ (Q : List EC) (a b n : Nat) W, Q.length = N → RowE B W (.slice (some ⟨g, 0, none⟩) N cap) Q → B ≤ W.heap.size → a + n ≤ b → b + n ≤ N → Calls Try.prog 59 #[.slice (some ⟨g, 0, none⟩) N cap, .int .i64 (a : Int), .int .i64 (b : Int), .int .i64 (n : Int), .func (.func 17) #[] #[]] W fun e w' => e = .returned (.tuple #[]) ∧ RowE B w' (.slice (some ⟨g, 0, none⟩) N cap) (swrL Q a b n) ∧ Below B W w') := fun Q a b n W hQ h1 h2 h3 h4 => by
    subst hQ
    exact swapR_c B g cap a b n Q W h1 h2 hn h3 h4
  obtain ⟨T, hT⟩ : ∃ T, T = P ++ (K ++ (A ++ R)) := ⟨_, rfl⟩
  have HT0 : Hid (P ++ (K ++ (A ++ R)) = T) := hT.symm
  rw [← hT]
  have hs1 : (m : Int) - (p : Int) = ((A.length : Nat) : Int) := by omega
  have hs2 : (q : Int) - (m : Int) = ((K.length : Nat) : Int) := by omega
  have HR0 : Hid (∃ P' A' K' R', RowE B w (.slice (some ⟨g, 0, none⟩) N cap) (P' ++ (A' ++ (K' ++ R'))) ∧ P' ++ (K' ++ (A' ++ R')) = T ∧ A'.length = A.length ∧ K'.length = K.length ∧ P'.length + A.length = m ∧ P'.length + A.length + K.length + R'.length = N) := ⟨P, A, K, R, hr, HT0.out, rfl, rfl, hm.symm, by omega⟩
  have hmN : m ≤ N := by omega
  have hAK : A.length + K.length ≤ N := by omega
  obtain ⟨i0, hi0⟩ : ∃ i, i = A.length := ⟨_, rfl⟩
  obtain ⟨j0, hj0⟩ : ∃ i, i = K.length := ⟨_, rfl⟩
  rw [← hi0, ← hj0] at HR0 hAK
  rw [← hi0] at hs1 hA
  rw [← hj0] at hs2 hK
  clear hr hT HT0 hm hp hq hN hi0 hj0 P A K R
  go_enter Try.func55, Try.ntmps55
  go_wp2_with fail
  go_loopw [10, 11] (fun vi vj wr => ∃ i j : Nat, vi = .int .i64 (i : Int) ∧ vj = .int .i64 (j : Int) ∧ 0 < i ∧ 0 < j ∧ i + j ≤ N ∧ Hid (∃ P' A' K' R', RowE B wr (.slice (some ⟨g, 0, none⟩) N cap) (P' ++ (A' ++ (K' ++ R'))) ∧ P' ++ (K' ++ (A' ++ R')) = T ∧ A'.length = i ∧ K'.length = j ∧ P'.length + i = m ∧ P'.length + i + j + R'.length = N) ∧ Hid (Below B w wr)) (fun vi vj _ => (intOf vi).toNat + (intOf vj).toNat)
  case atStart => exact ⟨i0, j0, by first | rfl | (rw [← hs1]; go_num), by first | rfl | (rw [← hs2]; go_num), hA, hK, hAK, HR0, Below.refl _ _⟩
  case round =>
    clear HR0 hs1 hs2 hA hK hAK
    obtain ⟨i, j, rfl, rfl, hi, hj, hij, HR, HBR⟩ := hrel
    obtain ⟨P, A, K, R, hr, hT, lA, lK, lP, lN⟩ := HR.out
    have hBw := HBR.out.size
    clear HR
    rcases Nat.lt_trichotomy i j with c | c | c
    · obtain ⟨K1, K2, hKe, l1, l2⟩ := cut_two K (j - i) (by omega)
      subst hKe
      have hQ : P ++ (A ++ ((K1 ++ K2) ++ R)) = P ++ (A ++ (K1 ++ (K2 ++ R))) := by simp
      rw [hQ] at hr
      have hsw := swr_cat P A K1 K2 R i lA (by omega)
      have HC := HSR.out _ P.length (P.length + i + K1.length) i wr (by simp only [List.length_append]; omega) hr (by omega) (by omega) (by omega)
      rw [hsw] at HC
      have n1 : ((i : Int) == (j : Int)) = false := by rw [beq_eq_false_iff_ne]; omega
      have n2 : ¬ (j : Int) < (i : Int) := by omega
      have n0 : ¬ (i : Int) = (j : Int) := by omega
      obtain ⟨a9, h9⟩ : ∃ a, a = P.length := ⟨_, rfl⟩
      obtain ⟨b9, h8⟩ : ∃ a, a = P.length + i + K1.length := ⟨_, rfl⟩
      rw [← h8, ← h9] at HC
      have e1 : (m : Int) - (i : Int) = (a9 : Int) := by omega
      have e2 : (m : Int) + (j : Int) - (i : Int) = (b9 : Int) := by omega
      have e3 : (j : Int) - (i : Int) = ((j - i : Nat) : Int) := by omega
      have w1 : IntKind.i64.wrap (a9 : Int) = (a9 : Int) := IntWalk.i64_in _ ⟨by omega, by omega⟩
      have w2 : IntKind.i64.wrap (b9 : Int) = (b9 : Int) := IntWalk.i64_in _ ⟨by omega, by omega⟩
      have HC2 := hidden HC
      have HZ : Hid (∀ W, RowE B W (.slice (some ⟨g, 0, none⟩) N cap) (P ++ (K2 ++ (K1 ++ (A ++ R)))) → ∃ P' A' K' R', RowE B W (.slice (some ⟨g, 0, none⟩) N cap) (P' ++ (A' ++ (K' ++ R'))) ∧ P' ++ (K' ++ (A' ++ R')) = T ∧ A'.length = i ∧ K'.length = j - i ∧ P'.length + i = m ∧ P'.length + i + (j - i) + R'.length = N) := fun W h => ⟨P, K2, K1, A ++ R, h, by rw [← hT]; simp, by omega, by omega, by omega, by simp only [List.length_append] at lN ⊢; omega⟩
      have hb8 : b9 + i ≤ N := by omega
      clear HC hsw hr hQ hT h8 h9 HSR l1 l2 lK
      go_wp2_with fail
      go_at_call 59
      refine HC2.out.mono ?_
      rintro e W2 ⟨rfl, r2, k2⟩
      have HB2 := hidden (HBR.out.trans k2)
      have HZ2 := hidden (HZ.out W2 r2)
      clear HZ HC2 r2 k2 HBR hBw
      go_wp2_with fail
      go_roundw
      case rel => exact ⟨i, j - i, rfl, by go_num, hi, by omega, by omega, HZ2, HB2⟩
      case measure => simp [intOf]; omega
    · subst c
      have hsw := swr_cat P A [] K R i lA lK
      rw [List.nil_append, List.nil_append, hT] at hsw
      have HC := HSR.out _ P.length (P.length + i + ([] : List EC).length) i wr (by simp only [List.length_append]; omega) hr (by omega) (by first | omega | (simp; done) | (simp; omega)) (by first | omega | (simp; done) | (simp; omega))
      rw [hsw] at HC
      have hm9 : P.length + i + ([] : List EC).length = m := by simp; omega
      rw [hm9] at HC
      obtain ⟨a9, h9⟩ : ∃ a, a = P.length := ⟨_, rfl⟩
      rw [← h9] at HC
      have e1 : (m : Int) - (i : Int) = (a9 : Int) := by omega
      have w1 : IntKind.i64.wrap (a9 : Int) = (a9 : Int) := IntWalk.i64_in _ ⟨by omega, by omega⟩
      have HC2 := hidden HC
      clear HC hsw hr hT h9 HSR lK lA lP lN hm9
      go_wp2_with fail
      go_at_call 59
      refine HC2.out.mono ?_
      rintro e W2 ⟨rfl, r2, k2⟩
      have HB2 := hidden (HBR.out.trans k2)
      have HR2 := hidden r2
      clear HC2 r2 k2 HBR hBw
      go_wp2_with fail
      go_end0
      exact ⟨rfl, HR2.out, HB2.out⟩
    · obtain ⟨A1, A2, hAe, l1, l2⟩ := cut_two A j (by omega)
      subst hAe
      have hQ : P ++ ((A1 ++ A2) ++ (K ++ R)) = P ++ (A1 ++ (A2 ++ (K ++ R))) := by simp
      rw [hQ] at hr
      have hsw := swr_cat P A1 A2 K R j l1 lK
      have HC := HSR.out _ P.length (P.length + j + A2.length) j wr (by simp only [List.length_append]; omega) hr (by omega) (by omega) (by omega)
      rw [hsw] at HC
      have hm9 : P.length + j + A2.length = m := by omega
      rw [hm9] at HC
      have n1 : ((i : Int) == (j : Int)) = false := by rw [beq_eq_false_iff_ne]; omega
      have n2 : (j : Int) < (i : Int) := by omega
      have n0 : ¬ (i : Int) = (j : Int) := by omega
      obtain ⟨a9, h9⟩ : ∃ a, a = P.length := ⟨_, rfl⟩
      rw [← h9] at HC
      have e1 : (m : Int) - (i : Int) = (a9 : Int) := by omega
      have e3 : (i : Int) - (j : Int) = ((i - j : Nat) : Int) := by omega
      have w1 : IntKind.i64.wrap (a9 : Int) = (a9 : Int) := IntWalk.i64_in _ ⟨by omega, by omega⟩
      have HC2 := hidden HC
      have HZ : Hid (∀ W, RowE B W (.slice (some ⟨g, 0, none⟩) N cap) (P ++ (K ++ (A2 ++ (A1 ++ R)))) → ∃ P' A' K' R', RowE B W (.slice (some ⟨g, 0, none⟩) N cap) (P' ++ (A' ++ (K' ++ R'))) ∧ P' ++ (K' ++ (A' ++ R')) = T ∧ A'.length = i - j ∧ K'.length = j ∧ P'.length + (i - j) = m ∧ P'.length + (i - j) + j + R'.length = N) := fun W h => ⟨P ++ K, A2, A1, R, by simpa using h, by rw [← hT]; simp, by omega, by omega, by simp only [List.length_append]; omega, by simp only [List.length_append]; omega⟩
      clear HC hsw hr hQ hT h9 HSR l1 l2 lK lA lP lN hm9
      go_wp2_with fail
      go_at_call 59
      refine HC2.out.mono ?_
      rintro e W2 ⟨rfl, r2, k2⟩
      have HB2 := hidden (HBR.out.trans k2)
      have HZ2 := hidden (HZ.out W2 r2)
      clear HZ HC2 r2 k2 HBR hBw
      go_wp2_with fail
      go_roundw
      case rel => exact ⟨i - j, j, by go_num, rfl, by omega, hj, by omega, HZ2, HB2⟩
      case measure => simp [intOf]; omega
end Go.Proofs.Ytablcicfagmhpaa

/-! Two neighbouring parts in order of a list of entries merged, the first of one row alone: a contract for the walk; conditions: the row may be written, each Pre holds no more than 2 to the 20, and the row no more than 2 to the 40. -/
namespace Go.Proofs.Ytablcicfagmhpaa
open Go.RowKit
set_option linter.unusedSimpArgs false
set_option linter.unusedVariables false

theorem ord_up {V : List EC} {u : EC} {s : Nat} (ho : InOrd lessC V) (hs : s ≤ V.length) (h : s = 0 ∨ ∃ y, V[s - 1]? = some y ∧ lessC u y = true) : ∀ v ∈ V.take s, lessC u v = true := by
  intro v hv
  obtain ⟨k, hk, rfl⟩ := List.mem_iff_getElem.1 hv
  rw [List.length_take] at hk
  rw [List.getElem_take]
  rcases h with h | ⟨y, h1, h2⟩
  · omega
  · obtain ⟨hl, rfl⟩ := List.getElem?_eq_some_iff.1 h1
    by_cases e : k = s - 1
    · subst e; exact h2
    · cases hf : lessC u V[k] with
      | true => rfl
      | false =>
        have h9 := lessC_N _ _ _ hf (List.pairwise_iff_getElem.1 ho k (s - 1) (by omega) hl (by omega))
        rw [h2] at h9; cases h9
theorem ord_dn {V : List EC} {u : EC} {t : Nat} (ho : InOrd lessC V) (h : t = V.length ∨ ∃ y, V[t]? = some y ∧ lessC u y = false) : ∀ v ∈ V.drop t, lessC u v = false := by
  intro v hv
  obtain ⟨k, hk, rfl⟩ := List.mem_iff_getElem.1 hv
  rw [List.length_drop] at hk
  rw [List.getElem_drop]
  rcases h with h | ⟨y, h1, h2⟩
  · omega
  · obtain ⟨hl, rfl⟩ := List.getElem?_eq_some_iff.1 h1
    by_cases e : k = 0
    · subst e; exact h2
    · exact lessC_N _ _ _ h2 (List.pairwise_iff_getElem.1 ho t (t + k) hl (by omega) (by omega))
theorem mg_one {V : List EC} {u : EC} {s : Nat} (h1 : ∀ v ∈ V.take s, lessC u v = true) (h2 : ∀ v ∈ V.drop s, lessC u v = false) : mgG lessC [u] V = V.take s ++ u :: V.drop s := by
  have a := mg_split lessC _ [] (V.take s) [u] (V.drop s) rfl (fun x hx => nomatch hx) (fun v hv x hx => by
    obtain rfl : x = u := by simpa using hx
    exact h1 v hv)
  have b := mg_split lessC _ [u] [] [] (V.drop s) rfl (fun x hx v hv => by
    obtain rfl : x = u := by simpa using hx
    exact h2 v hv) (fun v hv => nomatch hv)
  rw [List.nil_append, nil_mg, List.take_append_drop] at a
  rw [List.append_nil, List.nil_append, mg_nil, nil_mg] at b
  rw [a, b]
  rfl
theorem hole_right (P ys r : List EC) (k p : Nat) (x : EC) (hp : p = P.length) (h : k < ys.length) : ((P ++ (holeC ys k x ++ r)).set (p + k) ys[k]).set (p + k + 1) x = P ++ (holeC ys (k + 1) x ++ r) := by
  subst hp
  rw [List.set_append_right _ _ (by omega), List.set_append_right _ _ (by omega), show P.length + k - P.length = k by omega, show P.length + k + 1 - P.length = k + 1 by omega, List.set_append_left _ _ (by rw [hole_len _ _ _ (by omega)]; omega), hole_set _ _ _ _ (by omega), ← hole_shift ys k h, List.set_append_left _ _ (by rw [hole_len _ _ _ (by omega)]; omega), hole_set _ _ _ _ (by omega)]
theorem holeP_self (P ys r : List EC) (k p : Nat) (x : EC) (hp : p = P.length) (h : k ≤ ys.length) : (P ++ (holeC ys k x ++ r))[p + k]? = some x := by
  subst hp
  rw [List.getElem?_append_right (by omega), show P.length + k - P.length = k by omega]
  exact holeR_self ys r k x h
theorem holeP_next (P ys r : List EC) (k p : Nat) (x : EC) (hp : p = P.length) (h : k < ys.length) : (P ++ (holeC ys k x ++ r))[p + k + 1]? = some ys[k] := by
  subst hp
  rw [List.getElem?_append_right (by omega), show P.length + k + 1 - P.length = k + 1 by omega, List.getElem?_append_left (by rw [hole_len _ _ _ (by omega)]; omega)]
  unfold holeC
  rw [List.getElem?_append_right (by rw [List.length_take]; omega), List.length_take, show k + 1 - min k ys.length = 1 by omega, List.drop_eq_getElem_cons h]
  rfl

set_option maxHeartbeats 16000000 in
set_option maxRecDepth 100000 in
theorem sym1_c (B g cap N p m q : Nat) (P V R : List EC) (u : EC) (w : World) (hp : p = P.length) (hm : m = p + 1) (hq : q = m + V.length) (hN : N = q + R.length) (hr : RowE B w (.slice (some ⟨g, 0, none⟩) N cap) (P ++ (u :: (V ++ R)))) (hB : B ≤ w.heap.size) (hn : N ≤ 1099511627776) (ho : InOrd lessC V) (hbu : bulkS u.d.vP ≤ 1048576) (hbv : ∀ v ∈ V, bulkS v.d.vP ≤ 1048576) :
    Calls Try.prog 48 #[.slice (some ⟨g, 0, none⟩) N cap, .int .i64 (p : Int), .int .i64 (m : Int), .int .i64 (q : Int), .func (.func 17) #[] #[]] w fun e w' => e = .returned (.tuple #[]) ∧ RowE B w' (.slice (some ⟨g, 0, none⟩) N cap) (P ++ (mgG lessC [u] V ++ R)) ∧ Below B w w' := by
  have hgB : B ≤ g := (hr.1.lt g rfl).1
  obtain ⟨T, hT⟩ : ∃ T, T = P ++ (mgG lessC [u] V ++ R) := ⟨_, rfl⟩
  have HT := hidden hT
  rw [← hT]
  obtain ⟨Q, hQ⟩ : ∃ Q, Q = P ++ (u :: (V ++ R)) := ⟨_, rfl⟩
  have hQl : N = Q.length := by rw [hQ]; simp; omega
  have hQp : Q[p]? = some u := by rw [hQ, List.getElem?_append_right (by omega), show p - P.length = 0 by omega]; rfl
  have HQV : Hid (∀ k (h : k < V.length), Q[m + k]? = some V[k]) := fun k h => by
    rw [hQ, List.getElem?_append_right (by omega), show m + k - P.length = k + 1 by omega, List.getElem?_cons_succ, List.getElem?_append_left h]
    exact List.getElem?_eq_getElem h
  have HQQ := hidden hQ
  rw [← hQ] at hr
  have HR0 := hidden hr
  have HO := hidden ho
  have HV := hidden hbv
  have HQL := hidden hQl
  have HQP := hidden hQp
  have HPL := hidden hp
  have e0 : (m : Int) - (p : Int) = 1 := by omega
  have a1 : p < m := by omega
  have a2 : m ≤ p + 1 := by omega
  have a3 : q ≤ m + V.length := by omega
  have a4 : m + V.length ≤ q := by omega
  have a5 : N ≤ q + R.length := by omega
  have a6 : q + R.length ≤ N := by omega
  clear hT hQ hr ho hbv hQl hQp hp hm hq hN
  go_enter Try.func48, Try.ntmps48
  go_wp2_with fail
  go_loopw [10, 11] (fun vi vj wr => ∃ i j : Nat, vi = .int .i64 (i : Int) ∧ vj = .int .i64 (j : Int) ∧ m ≤ i ∧ i ≤ j ∧ j ≤ q ∧ Hid (i - m = 0 ∨ ∃ y, V[i - m - 1]? = some y ∧ lessC u y = true) ∧ Hid (j - m = V.length ∨ ∃ y, V[j - m]? = some y ∧ lessC u y = false) ∧ Hid (RowE B wr (.slice (some ⟨g, 0, none⟩) N cap) Q) ∧ Hid (Below B w wr)) (fun vi vj _ => (intOf vj).toNat - (intOf vi).toNat)
  case atStart => exact ⟨m, q, rfl, rfl, Nat.le_refl _, by omega, Nat.le_refl _, .inl (by omega), .inl (by omega), HR0, Below.refl _ _⟩
  case round =>
    clear HR0
    obtain ⟨i, j, rfl, rfl, hi, hij, hj, HI, HJ, HROW, HBR⟩ := hrel
    by_cases hlt : i < j
    case pos =>
      have hq1 : (i : Int) < (j : Int) := by omega
      obtain ⟨h, hh⟩ : ∃ h, h = (i + j) / 2 := ⟨_, rfl⟩
      have hmid : ((i : Int) + (j : Int)) / 2 = (h : Int) := by omega
      have hL : N = Q.length := HQL.out
      obtain ⟨x, hx⟩ : ∃ x, x = V[h - m]'(by omega) := ⟨_, rfl⟩
      have hxI : Q[h]? = some x := by rw [hx, ← HQV.out (h - m) (by omega), show m + (h - m) = h by omega]
      obtain ⟨yc, hyc0⟩ : ∃ y, y = u := ⟨_, rfl⟩
      have hyJ : Q[p]? = some yc := by rw [hyc0]; exact HQP.out
      have hbx : bulkS x.d.vP ≤ 1048576 := HV.out x (by rw [hx]; exact List.getElem_mem _)
      have hby : bulkS yc.d.vP ≤ 1048576 := by rw [hyc0]; exact hbu
      have hVx : Hid (V[h - m]? = some x) := by rw [hx]; exact List.getElem?_eq_getElem _
      have HYU := hidden hyc0
      have g0 : (0 : Int) ≤ (h : Int) := by omega
      have g1 : (h : Int) < (N : Int) := by omega
      have g2 : (0 : Int) ≤ (p : Int) := by omega
      have g3 : (p : Int) < (N : Int) := by omega
      have gw : IntKind.i64.wrap (h : Int) = (h : Int) := IntWalk.i64_in _ ⟨by omega, by omega⟩
      have hh1 : i ≤ h := by omega
      have hh2 : h < j := by omega
      clear hx hyc0 hh
      have hxo : EntOwn wr x := HROW.out.2 _ (List.mem_of_getElem? hxI)
      have hyo : EntOwn wr yc := HROW.out.2 _ (List.mem_of_getElem? hyJ)
      obtain ⟨q0, c0, q1, c1, f0, f1⟩ := ent_slices hxo
      obtain ⟨s0, t0, s1, t1, y0, y1⟩ := ent_slices hyo
      have hxc : ∀ j, j < 6 → wr.cell? ⟨g, h * 6 + j, none⟩ = (x.cells)[j]? := fun j hj => HROW.out.cellQ hL hxI j hj
      have hyc : ∀ j, j < 6 → wr.cell? ⟨g, p * 6 + j, none⟩ = (yc.cells)[j]? := fun j hj => HROW.out.cellQ hL hyJ j hj
      obtain ⟨d, hd⟩ : ∃ d, d = x.d := ⟨_, rfl⟩
      obtain ⟨y, hy⟩ : ∃ y, y = yc.d := ⟨_, rfl⟩
      have hle : lessE y d = lessC yc x := by unfold lessC; rw [← hd, ← hy]
      rw [← hd] at f0 f1 hbx
      rw [← hy] at y0 y1 hby
      have hxcl : x.cells = [.string d.name, .int .i64 d.vA, .int .i64 d.vB, .int .i64 d.vC, .slice q0 d.vP.length c0, .slice q1 d.needs.length c1] := by unfold EC.cells; rw [f0, f1, ← hd]
      have hycl : yc.cells = [.string y.name, .int .i64 y.vA, .int .i64 y.vB, .int .i64 y.vC, .slice s0 y.vP.length t0, .slice s1 y.needs.length t1] := by unfold EC.cells; rw [y0, y1, ← hy]
      rw [hxcl] at hxc
      rw [hycl] at hyc
      have hrX : Reads wr (.slice q0 d.vP.length c0) (strsV d.vP) := by have h9 := hxo.1; rw [f0, ← hd] at h9; exact reads_of_owns h9
      have hrY : Reads wr (.slice s0 y.vP.length t0) (strsV y.vP) := by have h9 := hyo.1; rw [y0, ← hy] at h9; exact reads_of_owns h9
      have HLS' : ∀ W, Below wr.heap.size wr W → Calls Try.prog 17 #[.agg #[.string d.name, .int .i64 d.vA, .int .i64 d.vB, .int .i64 d.vC, .slice q0 d.vP.length c0, .slice q1 d.needs.length c1], .agg #[.string y.name, .int .i64 y.vA, .int .i64 y.vB, .int .i64 y.vC, .slice s0 y.vP.length t0, .slice s1 y.needs.length t1]] W fun e w' => ∃ m : Int, e = .returned (.int .i64 m) ∧ decide (m < 0) = lessE y d ∧ Below W.heap.size W w' := fun W hW => cmpNew_c d y _ _ _ _ W (hrX.below hW) (hrY.below hW) hbx hby
      rw [hle] at HLS'
      have HLS := hidden HLS'
      have hgr : g < wr.heap.size := (HROW.out.1.lt g rfl).2
      have KEEP' : ∀ W, Below wr.heap.size wr W → W.cell? ⟨g, h * 6, none⟩ = some (.string d.name) ∧ W.cell? ⟨g, h * 6 + 1, none⟩ = some (.int .i64 d.vA) ∧ W.cell? ⟨g, h * 6 + 2, none⟩ = some (.int .i64 d.vB) ∧ W.cell? ⟨g, h * 6 + 3, none⟩ = some (.int .i64 d.vC) ∧ W.cell? ⟨g, h * 6 + 4, none⟩ = some (.slice q0 d.vP.length c0) ∧ W.cell? ⟨g, h * 6 + 5, none⟩ = some (.slice q1 d.needs.length c1) ∧ W.cell? ⟨g, p * 6, none⟩ = some (.string y.name) ∧ W.cell? ⟨g, p * 6 + 1, none⟩ = some (.int .i64 y.vA) ∧ W.cell? ⟨g, p * 6 + 2, none⟩ = some (.int .i64 y.vB) ∧ W.cell? ⟨g, p * 6 + 3, none⟩ = some (.int .i64 y.vC) ∧ W.cell? ⟨g, p * 6 + 4, none⟩ = some (.slice s0 y.vP.length t0) ∧ W.cell? ⟨g, p * 6 + 5, none⟩ = some (.slice s1 y.needs.length t1) := fun W hW => by
        have hY : ∀ j, W.cell? ⟨g, j, none⟩ = wr.cell? ⟨g, j, none⟩ := fun j => hW.cell (p := ⟨g, j, none⟩) hgr
        simp only [hY]
        exact ⟨hxc 0 (by omega), hxc 1 (by omega), hxc 2 (by omega), hxc 3 (by omega), hxc 4 (by omega), hxc 5 (by omega), hyc 0 (by omega), hyc 1 (by omega), hyc 2 (by omega), hyc 3 (by omega), hyc 4 (by omega), hyc 5 (by omega)⟩
      have KEEP := hidden KEEP'
      have hd0 : Below wr.heap.size wr wr.drew := (Below.refl _ _).drew
      have HL := hidden hL
      obtain ⟨bl, hbl⟩ : ∃ b, b = lessC yc x := ⟨_, rfl⟩
      rw [← hbl] at HLS
      have HBLL := hidden hbl
      clear hL KEEP' HLS' hrY hrX hyc hxc hyo hxo y0 y1 f0 f1 hycl hxcl hy hd hbx hby hle hbl hgr
      go_wp2_with fail
      refine wp_region_held_drew (S := (fun W => W.cell? ⟨g, h * 6, none⟩ = some (.string d.name) ∧ W.cell? ⟨g, h * 6 + 1, none⟩ = some (.int .i64 d.vA) ∧ W.cell? ⟨g, h * 6 + 2, none⟩ = some (.int .i64 d.vB) ∧ W.cell? ⟨g, h * 6 + 3, none⟩ = some (.int .i64 d.vC) ∧ W.cell? ⟨g, h * 6 + 4, none⟩ = some (.slice q0 d.vP.length c0) ∧ W.cell? ⟨g, h * 6 + 5, none⟩ = some (.slice q1 d.needs.length c1) ∧ W.cell? ⟨g, p * 6, none⟩ = some (.string y.name) ∧ W.cell? ⟨g, p * 6 + 1, none⟩ = some (.int .i64 y.vA) ∧ W.cell? ⟨g, p * 6 + 2, none⟩ = some (.int .i64 y.vB) ∧ W.cell? ⟨g, p * 6 + 3, none⟩ = some (.int .i64 y.vC) ∧ W.cell? ⟨g, p * 6 + 4, none⟩ = some (.slice s0 y.vP.length t0) ∧ W.cell? ⟨g, p * 6 + 5, none⟩ = some (.slice s1 y.needs.length t1))) (by kernel_rfl) ?SR10 (fun hHeld => ?_)
      case SR10 => (first | (with_reducible exact KEEP.out _ hd1) | (with_reducible exact KEEP.out _ hd0))
      refine wpAnyH_take (i := 0) (oi := _) (v := ?vR10) rfl (by kernel_rfl) (by kernel_rfl) (by kernel_rfl) (fun _ _ _ h => h) (Or.inl ⟨by rfl, ?yR10⟩) hHeld ?_
      case yR10 => (intro w hSw; (try dsimp only at hSw); go_simp <;> with_reducible rfl)
      try simp only [Act.put, List.getElem_toArray, List.getElem_cons_zero, List.getElem_cons_succ, List.setIfInBounds_toArray, List.set_cons_zero, List.set_cons_succ]
      refine wpAnyH_take (i := 1) (oi := _) (v := ?vR11) rfl (by kernel_rfl) (by kernel_rfl) (by kernel_rfl) (fun _ _ _ h => h) (Or.inl ⟨by rfl, ?yR11⟩) hHeld ?_
      case yR11 => (intro w hSw; (try dsimp only at hSw); go_simp <;> with_reducible rfl)
      try simp only [Act.put, List.getElem_toArray, List.getElem_cons_zero, List.getElem_cons_succ, List.setIfInBounds_toArray, List.set_cons_zero, List.set_cons_succ]
      refine wpAnyH_take (i := 2) (oi := _) (v := ?vR12) rfl (by kernel_rfl) (by kernel_rfl) (by kernel_rfl) (fun _ _ _ h => h) (Or.inl ⟨by rfl, ?yR12⟩) hHeld ?_
      case yR12 => (intro w hSw; (try dsimp only at hSw); go_simp <;> with_reducible rfl)
      try simp only [Act.put, List.getElem_toArray, List.getElem_cons_zero, List.getElem_cons_succ, List.setIfInBounds_toArray, List.set_cons_zero, List.set_cons_succ]
      refine wpAnyH_take (i := 3) (oi := _) (v := ?vR13) rfl (by kernel_rfl) (by kernel_rfl) (by kernel_rfl) (fun _ _ _ h => h) (Or.inl ⟨by rfl, ?yR13⟩) hHeld ?_
      case yR13 => (intro w hSw; (try dsimp only at hSw); go_simp <;> with_reducible rfl)
      try simp only [Act.put, List.getElem_toArray, List.getElem_cons_zero, List.getElem_cons_succ, List.setIfInBounds_toArray, List.set_cons_zero, List.set_cons_succ]
      refine wpAnyH_take (i := 4) (oi := _) (v := ?vR14) rfl (by kernel_rfl) (by kernel_rfl) (by kernel_rfl) (fun _ _ _ h => h) (Or.inl ⟨by rfl, ?yR14⟩) hHeld ?_
      case yR14 => (intro w hSw; (try dsimp only at hSw); go_simp <;> with_reducible rfl)
      try simp only [Act.put, List.getElem_toArray, List.getElem_cons_zero, List.getElem_cons_succ, List.setIfInBounds_toArray, List.set_cons_zero, List.set_cons_succ]
      refine wpAnyH_take (i := 5) (oi := _) (v := ?vR15) rfl (by kernel_rfl) (by kernel_rfl) (by kernel_rfl) (fun _ _ _ h => h) (Or.inl ⟨by rfl, ?yR15⟩) hHeld ?_
      case yR15 => (intro w hSw; (try dsimp only at hSw); go_simp <;> with_reducible rfl)
      try simp only [Act.put, List.getElem_toArray, List.getElem_cons_zero, List.getElem_cons_succ, List.setIfInBounds_toArray, List.set_cons_zero, List.set_cons_succ]
      refine wpAnyH_take (i := 6) (oi := _) (v := ?vR16) rfl (by kernel_rfl) (by kernel_rfl) (by kernel_rfl) (fun _ _ _ h => h) (Or.inl ⟨by rfl, ?yR16⟩) hHeld ?_
      case yR16 => (intro w hSw; (try dsimp only at hSw); go_simp <;> with_reducible rfl)
      try simp only [Act.put, List.getElem_toArray, List.getElem_cons_zero, List.getElem_cons_succ, List.setIfInBounds_toArray, List.set_cons_zero, List.set_cons_succ]
      refine wpAnyH_take (i := 7) (oi := _) (v := ?vR17) rfl (by kernel_rfl) (by kernel_rfl) (by kernel_rfl) (fun _ _ _ h => h) (Or.inl ⟨by rfl, ?yR17⟩) hHeld ?_
      case yR17 => (intro w hSw; (try dsimp only at hSw); go_simp <;> with_reducible rfl)
      try simp only [Act.put, List.getElem_toArray, List.getElem_cons_zero, List.getElem_cons_succ, List.setIfInBounds_toArray, List.set_cons_zero, List.set_cons_succ]
      refine wpAnyH_take (i := 8) (oi := _) (v := ?vR18) rfl (by kernel_rfl) (by kernel_rfl) (by kernel_rfl) (fun _ _ _ h => h) (Or.inl ⟨by rfl, ?yR18⟩) hHeld ?_
      case yR18 => (intro w hSw; (try dsimp only at hSw); go_simp <;> with_reducible rfl)
      try simp only [Act.put, List.getElem_toArray, List.getElem_cons_zero, List.getElem_cons_succ, List.setIfInBounds_toArray, List.set_cons_zero, List.set_cons_succ]
      refine wpAnyH_ready (rs := [9]) (by kernel_rfl) (by simp) ?_
      refine AllReadyH.cons rfl (fun K hK => ?_) AllReadyH.nil
      go_simp
      go_wp2_with (go_at_call 17; refine (HLS.out _ hd0).mono ?_; rintro e w6 ⟨m6, rfl, hm, b6⟩; have hd1 : Below wr.heap.size wr w6 := hd0.trans (b6.mono hd0.size); replace hm := hidden hm)
      clear hHeld
      refine hK.out _ _ ?SR110 (fun hHeld => ?_)
      case SR110 => ((try dsimp only); first | (with_reducible exact KEEP.out _ hd1) | (with_reducible exact KEEP.out _ hd0))
      clear hK K
      refine wpAnyH_take (i := 10) (oi := _) (v := ?vR110) rfl (by kernel_rfl) (by kernel_rfl) (by kernel_rfl) (fun _ _ _ h => h) (Or.inl ⟨by rfl, ?yR110⟩) hHeld ?_
      case yR110 => (intro w hSw; (try dsimp only at hSw); go_simp <;> with_reducible rfl)
      try simp only [Act.put, List.getElem_toArray, List.getElem_cons_zero, List.getElem_cons_succ, List.setIfInBounds_toArray, List.set_cons_zero, List.set_cons_succ]
      refine wpAnyH_done (by kernel_rfl) ?_ _
      have HR6 := hidden (HROW.out.below hd1)
      have HB6 := hidden (HBR.out.trans (hd1.mono (Nat.le_trans hB HBR.out.size)))
      have hL := HL.out
      clear HLS KEEP hd1 hd0 b6 HROW HBR HL
      cases bl with
      | true =>
        have hmz : m6 < 0 := by simpa using hm.out
        have HI2 : Hid (h + 1 - m = 0 ∨ ∃ y, V[h + 1 - m - 1]? = some y ∧ lessC u y = true) := .inr ⟨x, by rw [show h + 1 - m - 1 = h - m by omega]; exact hVx.out, by rw [← HYU.out]; exact HBLL.out.symm⟩
        clear hVx HYU HBLL hm HI
        go_wp2_with fail
        go_roundw
        case rel => exact ⟨h + 1, j, by go_num, rfl, by omega, by omega, hj, HI2, HJ, HR6, HB6⟩
        case measure => simp [intOf]; omega
      | false =>
        have hmz : ¬ m6 < 0 := by simpa using hm.out
        have HJ2 : Hid (h - m = V.length ∨ ∃ y, V[h - m]? = some y ∧ lessC u y = false) := .inr ⟨x, hVx.out, by rw [← HYU.out]; exact HBLL.out.symm⟩
        clear hVx HYU HBLL hm HJ
        go_wp2_with fail
        go_roundw
        case rel => exact ⟨i, h, rfl, rfl, hi, by omega, by omega, HI, HJ2, HR6, HB6⟩
        case measure => simp [intOf]; omega
    case neg =>
      have hq1 : ¬ (i : Int) < (j : Int) := by omega
      obtain rfl : i = j := by omega
      obtain ⟨s, hs⟩ : ∃ s, s = i - m := ⟨_, rfl⟩
      rw [← hs] at HI HJ
      have hsl : s ≤ V.length := by omega
      have HMG : Hid (P ++ (holeC V s u ++ R) = T) := by
        show _ = _
        rw [HT.out, mg_one (ord_up HO.out hsl HI.out) (ord_dn HO.out HJ.out)]
        rfl
      have HR1 : Hid (RowE B wr (.slice (some ⟨g, 0, none⟩) N cap) (P ++ (holeC V 0 u ++ R))) := by
        have h9 := HROW.out
        rw [HQQ.out] at h9
        exact h9
      obtain ⟨wo, hwo⟩ : ∃ wo, wo = wr := ⟨_, rfl⟩
      subst hwo
      clear HI HJ HROW HT HQQ HQV HQL HQP HO HV
      go_wp2_with fail
      go_loopw [13] (fun vk wr => ∃ k : Nat, vk = .int .i64 ((p + k : Nat) : Int) ∧ k ≤ s ∧ Hid (RowE B wr (.slice (some ⟨g, 0, none⟩) N cap) (P ++ (holeC V k u ++ R))) ∧ Hid (Below B w wr)) (fun vk _ => i - (intOf vk).toNat)
      case atStart => exact ⟨0, rfl, Nat.zero_le _, HR1, HBR⟩
      case round =>
        clear HR1 HBR
        obtain ⟨k, rfl, hk, HROW, HBR⟩ := hrel
        obtain ⟨S9, hS9⟩ : ∃ S, S = p + s := ⟨_, rfl⟩
        have hsub : (i : Int) - 1 = (S9 : Int) := by omega
        by_cases hks : k < s
        case neg =>
          obtain rfl : k = s := by omega
          have HE : Hid (RowE B wr (.slice (some ⟨g, 0, none⟩) N cap) T ∧ Below B w wr) := ⟨by rw [← HMG.out]; exact HROW.out, HBR.out⟩
          have hq3 : ¬ (S9 : Int) < (S9 : Int) := by omega
          rw [← hS9]
          clear HROW HBR HMG hS9
          go_wp2_with fail
          refine bodyPost_ret (results_none rfl _ _ _) rfl ?_
          exact ⟨rfl, HE.out⟩
        case pos =>
          obtain ⟨I, hI⟩ : ∃ I, I = p + k := ⟨_, rfl⟩
          obtain ⟨J, hJ⟩ : ∃ J, J = p + k + 1 := ⟨_, rfl⟩
          rw [← hI]
          have hq2 : (I : Int) < (S9 : Int) := by omega
          obtain ⟨Q, hQ⟩ : ∃ Q, Q = P ++ (holeC V k u ++ R) := ⟨_, rfl⟩
          have hL : N = Q.length := by rw [hQ, List.length_append, List.length_append, hole_len _ _ _ (by omega), ← HPL.out]; omega
          obtain ⟨x, hx⟩ : ∃ x, x = u := ⟨_, rfl⟩
          obtain ⟨yc, hyq⟩ : ∃ x, x = V[k]'(by omega) := ⟨_, rfl⟩
          have hxI : Q[I]? = some x := by rw [hQ, hI, hx]; exact holeP_self P V R k p u HPL.out (by omega)
          have hyJ : Q[J]? = some yc := by rw [hQ, hJ, hyq]; exact holeP_next P V R k p u HPL.out (by omega)
          have HSW : Hid ((Q.set I yc).set J x = P ++ (holeC V (k + 1) u ++ R)) := by
            show _ = _
            rw [hQ, hI, hJ, hx, hyq]
            exact hole_right P V R k p u HPL.out (by omega)
          rw [← hQ] at HROW
          have hAJ : (I : Int) + 1 = (J : Int) := by omega
          have hI0 : (0 : Int) ≤ (I : Int) := by omega
          have hJ0 : (0 : Int) ≤ (J : Int) := by omega
          have hI1 : (I : Int) < (N : Int) := by omega
          have hJ1 : (J : Int) < (N : Int) := by omega
          have hIw : IntKind.i64.wrap (I : Int) = (I : Int) := IntWalk.i64_in _ ⟨by omega, by omega⟩
          have hJw : IntKind.i64.wrap (J : Int) = (J : Int) := IntWalk.i64_in _ ⟨by omega, by omega⟩
          have hI2 : I < N := by omega
          have hJ2 : J < N := by omega
          have hIJ0 : I < J := by omega
          have HIN := hidden hI
          have HJN := hidden hJ
          have HS9 := hidden hS9
          clear hQ hx hyq hI hJ hS9
          have hxo : EntOwn wr x := HROW.out.2 _ (List.mem_of_getElem? hxI)
          have hyo : EntOwn wr yc := HROW.out.2 _ (List.mem_of_getElem? hyJ)
          obtain ⟨q0, c0, q1, c1, f0, f1⟩ := ent_slices hxo
          obtain ⟨s0, t0, s1, t1, y0, y1⟩ := ent_slices hyo
          have hxc : ∀ j, j < 6 → wr.cell? ⟨g, I * 6 + j, none⟩ = (x.cells)[j]? := fun j hj => HROW.out.cellQ hL hxI j hj
          have hyc : ∀ j, j < 6 → wr.cell? ⟨g, J * 6 + j, none⟩ = (yc.cells)[j]? := fun j hj => HROW.out.cellQ hL hyJ j hj
          obtain ⟨d, hd⟩ : ∃ d, d = x.d := ⟨_, rfl⟩
          obtain ⟨y, hy⟩ : ∃ y, y = yc.d := ⟨_, rfl⟩
          rw [← hd] at f0 f1
          rw [← hy] at y0 y1
          have hxcl : x.cells = [.string d.name, .int .i64 d.vA, .int .i64 d.vB, .int .i64 d.vC, .slice q0 d.vP.length c0, .slice q1 d.needs.length c1] := by unfold EC.cells; rw [f0, f1, ← hd]
          have hycl : yc.cells = [.string y.name, .int .i64 y.vA, .int .i64 y.vB, .int .i64 y.vC, .slice s0 y.vP.length t0, .slice s1 y.needs.length t1] := by unfold EC.cells; rw [y0, y1, ← hy]
          have HXC := hidden hxcl
          have HYC := hidden hycl
          rw [hxcl] at hxc
          rw [hycl] at hyc
          have hIJ : I ≠ J := by omega
          have hdr : Below wr.heap.size wr wr.drew := (Below.refl _ _).drew
          obtain ⟨w9, hw9⟩ : ∃ w9, w9 = ((((((wr.setCell ⟨g, I * 6, none⟩ (.string y.name)).setCell ⟨g, I * 6 + 1, none⟩ (.int .i64 y.vA)).setCell ⟨g, I * 6 + 2, none⟩ (.int .i64 y.vB)).setCell ⟨g, I * 6 + 3, none⟩ (.int .i64 y.vC)).setCell ⟨g, I * 6 + 4, none⟩ (.slice s0 y.vP.length t0)).setCell ⟨g, I * 6 + 5, none⟩ (.slice s1 y.needs.length t1)).drew := ⟨_, rfl⟩
          obtain ⟨w10, hw10⟩ : ∃ w10, w10 = ((((((w9.setCell ⟨g, J * 6, none⟩ (.string d.name)).setCell ⟨g, J * 6 + 1, none⟩ (.int .i64 d.vA)).setCell ⟨g, J * 6 + 2, none⟩ (.int .i64 d.vB)).setCell ⟨g, J * 6 + 3, none⟩ (.int .i64 d.vC)).setCell ⟨g, J * 6 + 4, none⟩ (.slice q0 d.vP.length c0)).setCell ⟨g, J * 6 + 5, none⟩ (.slice q1 d.needs.length c1)) := ⟨_, rfl⟩
          have hIl : I < Q.length := (List.getElem?_eq_some_iff.1 hxI).1
          have hJl : J < Q.length := (List.getElem?_eq_some_iff.1 hyJ).1
          have e9 : w9 = (setW wr g (I * 6) yc.cells).drew := by rw [HYC.out]; exact hw9
          have R9 : RowE B w9 (.slice (some ⟨g, 0, none⟩) N cap) (Q.set (I) yc) := by
            rw [e9]
            exact (HROW.out.setN hL hIl hyo).below ((Below.refl _ _).drew)
          have X9 : EntOwn w9 x := by
            have h8 := HROW.out.1
            rw [← hL] at h8
            rw [e9]
            exact (EntOwn.puts _ hxo h8).below ((Below.refl _ _).drew)
          have e10 : w10 = setW w9 g (J * 6) x.cells := by rw [HXC.out]; exact hw10
          have R10 : RowE B w10 (.slice (some ⟨g, 0, none⟩) N cap) ((Q.set (I) yc).set (J) x) := by
            rw [e10]
            exact R9.setN (by rw [List.length_set]; exact hL) (by rw [List.length_set]; exact hJl) X9
          have HFIN := hidden R10
          have HBL : Hid (Below B w w10) := by
            show Below B w w10
            rw [e10, e9]
            exact setW_below hgB _ _ _ _ (setW_below hgB _ _ _ _ HBR.out).drew
          have hz9 : ∀ j, w9.cell? ⟨g, J * 6 + j, none⟩ = w9.cell? ⟨g, J * 6 + j, none⟩ := fun _ => rfl
          have h9at : (Q.set (I) yc)[J]? = some yc := by rw [List.getElem?_set_ne hIJ]; exact hyJ
          have hc9 : ∀ j, j < 6 → w9.cell? ⟨g, J * 6 + j, none⟩ = ([.string y.name, .int .i64 y.vA, .int .i64 y.vB, .int .i64 y.vC, .slice s0 y.vP.length t0, .slice s1 y.needs.length t1] : List Value)[j]? := fun j hj => by
            rw [← HYC.out]
            exact R9.cellQ (by rw [List.length_set]; exact hL) h9at j hj
          have a0_ : wr.drew.cell? ⟨g, I * 6, none⟩ = some (.string d.name) := hxc 0 (by omega)
          have a1_ : wr.drew.cell? ⟨g, I * 6 + 1, none⟩ = some (.int .i64 d.vA) := hxc 1 (by omega)
          have a2_ : wr.drew.cell? ⟨g, I * 6 + 2, none⟩ = some (.int .i64 d.vB) := hxc 2 (by omega)
          have a3_ : wr.drew.cell? ⟨g, I * 6 + 3, none⟩ = some (.int .i64 d.vC) := hxc 3 (by omega)
          have a4_ : wr.drew.cell? ⟨g, I * 6 + 4, none⟩ = some (.slice q0 d.vP.length c0) := hxc 4 (by omega)
          have a5_ : wr.drew.cell? ⟨g, I * 6 + 5, none⟩ = some (.slice q1 d.needs.length c1) := hxc 5 (by omega)
          have b0_ : wr.drew.cell? ⟨g, J * 6, none⟩ = some (.string y.name) := hyc 0 (by omega)
          have b1_ : wr.drew.cell? ⟨g, J * 6 + 1, none⟩ = some (.int .i64 y.vA) := hyc 1 (by omega)
          have b2_ : wr.drew.cell? ⟨g, J * 6 + 2, none⟩ = some (.int .i64 y.vB) := hyc 2 (by omega)
          have b3_ : wr.drew.cell? ⟨g, J * 6 + 3, none⟩ = some (.int .i64 y.vC) := hyc 3 (by omega)
          have b4_ : wr.drew.cell? ⟨g, J * 6 + 4, none⟩ = some (.slice s0 y.vP.length t0) := hyc 4 (by omega)
          have b5_ : wr.drew.cell? ⟨g, J * 6 + 5, none⟩ = some (.slice s1 y.needs.length t1) := hyc 5 (by omega)
          have a0_w : wr.cell? ⟨g, I * 6, none⟩ = some (.string d.name) := hxc 0 (by omega)
          have a1_w : wr.cell? ⟨g, I * 6 + 1, none⟩ = some (.int .i64 d.vA) := hxc 1 (by omega)
          have a2_w : wr.cell? ⟨g, I * 6 + 2, none⟩ = some (.int .i64 d.vB) := hxc 2 (by omega)
          have a3_w : wr.cell? ⟨g, I * 6 + 3, none⟩ = some (.int .i64 d.vC) := hxc 3 (by omega)
          have a4_w : wr.cell? ⟨g, I * 6 + 4, none⟩ = some (.slice q0 d.vP.length c0) := hxc 4 (by omega)
          have a5_w : wr.cell? ⟨g, I * 6 + 5, none⟩ = some (.slice q1 d.needs.length c1) := hxc 5 (by omega)
          have z0_ : w9.cell? ⟨g, J * 6, none⟩ = some (.string y.name) := hc9 0 (by omega)
          have z1_ : w9.cell? ⟨g, J * 6 + 1, none⟩ = some (.int .i64 y.vA) := hc9 1 (by omega)
          have z2_ : w9.cell? ⟨g, J * 6 + 2, none⟩ = some (.int .i64 y.vB) := hc9 2 (by omega)
          have z3_ : w9.cell? ⟨g, J * 6 + 3, none⟩ = some (.int .i64 y.vC) := hc9 3 (by omega)
          have z4_ : w9.cell? ⟨g, J * 6 + 4, none⟩ = some (.slice s0 y.vP.length t0) := hc9 4 (by omega)
          have z5_ : w9.cell? ⟨g, J * 6 + 5, none⟩ = some (.slice s1 y.needs.length t1) := hc9 5 (by omega)
          have hf8 : ∀ j, wr.drew.frozen? ⟨g, j, none⟩ = false := fun j => HROW.out.frz hL j
          have hf6 : ∀ j, wr.frozen? ⟨g, j, none⟩ = false := fun j => HROW.out.frz hL j
          have hf9 : ∀ j, w9.frozen? ⟨g, j, none⟩ = false := fun j => R9.frz (by rw [List.length_set]; exact hL) j
          have HW9 := hidden hw9
          have HW10 := hidden hw10
          have HLL := hidden hL
          have HIJ := hidden hIJ
          clear hz9 hw9 hw10 e9 e10 R9 R10 X9 h9at hc9 hL hxc hyc hxcl hycl hxo hyo f0 f1 y0 y1 hd hy hdr hIJ HXC HYC HROW HBR hxI hyJ hIl hJl
          go_wp2_with fail
          refine wp_region_held_drew (S := (fun _ => True)) (by kernel_rfl) True.intro (fun hHeld => ?_)
          refine wpAnyH_take (i := 0) (oi := _) (v := ?vZsa0) rfl (by kernel_rfl) (by kernel_rfl) (by kernel_rfl) (fun _ _ _ h => h) (Or.inl ⟨by rfl, ?yZsa0⟩) hHeld ?_
          case yZsa0 => (intro w hSw; (try dsimp only at hSw); go_simp <;> with_reducible rfl)
          try simp only [Act.put, List.getElem_toArray, List.getElem_cons_zero, List.getElem_cons_succ, List.setIfInBounds_toArray, List.set_cons_zero, List.set_cons_succ]
          refine wpAnyH_take (i := 1) (oi := _) (v := ?vZsa1) rfl (by kernel_rfl) (by kernel_rfl) (by kernel_rfl) (fun _ _ _ h => h) (Or.inl ⟨by rfl, ?yZsa1⟩) hHeld ?_
          case yZsa1 => (intro w hSw; (try dsimp only at hSw); go_simp <;> with_reducible rfl)
          try simp only [Act.put, List.getElem_toArray, List.getElem_cons_zero, List.getElem_cons_succ, List.setIfInBounds_toArray, List.set_cons_zero, List.set_cons_succ]
          refine wpAnyH_take (i := 2) (oi := _) (v := ?vZsa2) rfl (by kernel_rfl) (by kernel_rfl) (by kernel_rfl) (fun _ _ _ h => h) (Or.inl ⟨by rfl, ?yZsa2⟩) hHeld ?_
          case yZsa2 => (intro w hSw; (try dsimp only at hSw); go_simp <;> with_reducible rfl)
          try simp only [Act.put, List.getElem_toArray, List.getElem_cons_zero, List.getElem_cons_succ, List.setIfInBounds_toArray, List.set_cons_zero, List.set_cons_succ]
          refine wpAnyH_take (i := 3) (oi := _) (v := ?vZsa3) rfl (by kernel_rfl) (by kernel_rfl) (by kernel_rfl) (fun _ _ _ h => h) (Or.inl ⟨by rfl, ?yZsa3⟩) hHeld ?_
          case yZsa3 => (intro w hSw; (try dsimp only at hSw); go_simp <;> with_reducible rfl)
          try simp only [Act.put, List.getElem_toArray, List.getElem_cons_zero, List.getElem_cons_succ, List.setIfInBounds_toArray, List.set_cons_zero, List.set_cons_succ]
          refine wpAnyH_take (i := 4) (oi := _) (v := ?vZsa4) rfl (by kernel_rfl) (by kernel_rfl) (by kernel_rfl) (fun _ _ _ h => h) (Or.inl ⟨by rfl, ?yZsa4⟩) hHeld ?_
          case yZsa4 => (intro w hSw; (try dsimp only at hSw); go_simp <;> with_reducible rfl)
          try simp only [Act.put, List.getElem_toArray, List.getElem_cons_zero, List.getElem_cons_succ, List.setIfInBounds_toArray, List.set_cons_zero, List.set_cons_succ]
          refine wpAnyH_take (i := 5) (oi := _) (v := ?vZsa5) rfl (by kernel_rfl) (by kernel_rfl) (by kernel_rfl) (fun _ _ _ h => h) (Or.inl ⟨by rfl, ?yZsa5⟩) hHeld ?_
          case yZsa5 => (intro w hSw; (try dsimp only at hSw); go_simp <;> with_reducible rfl)
          try simp only [Act.put, List.getElem_toArray, List.getElem_cons_zero, List.getElem_cons_succ, List.setIfInBounds_toArray, List.set_cons_zero, List.set_cons_succ]
          refine wpAnyH_take (i := 6) (oi := _) (v := ?vZsa6) rfl (by kernel_rfl) (by kernel_rfl) (by kernel_rfl) (fun _ _ _ h => h) (Or.inl ⟨by rfl, ?yZsa6⟩) hHeld ?_
          case yZsa6 => (intro w hSw; (try dsimp only at hSw); go_simp <;> with_reducible rfl)
          try simp only [Act.put, List.getElem_toArray, List.getElem_cons_zero, List.getElem_cons_succ, List.setIfInBounds_toArray, List.set_cons_zero, List.set_cons_succ]
          refine wpAnyH_take (i := 7) (oi := _) (v := ?vZsa7) rfl (by kernel_rfl) (by kernel_rfl) (by kernel_rfl) (fun _ _ _ h => h) (Or.inl ⟨by rfl, ?yZsa7⟩) hHeld ?_
          case yZsa7 => (intro w hSw; (try dsimp only at hSw); go_simp <;> with_reducible rfl)
          try simp only [Act.put, List.getElem_toArray, List.getElem_cons_zero, List.getElem_cons_succ, List.setIfInBounds_toArray, List.set_cons_zero, List.set_cons_succ]
          refine wpAnyH_take (i := 8) (oi := _) (v := ?vZsa8) rfl (by kernel_rfl) (by kernel_rfl) (by kernel_rfl) (fun _ _ _ h => h) (Or.inl ⟨by rfl, ?yZsa8⟩) hHeld ?_
          case yZsa8 => (intro w hSw; (try dsimp only at hSw); go_simp <;> with_reducible rfl)
          try simp only [Act.put, List.getElem_toArray, List.getElem_cons_zero, List.getElem_cons_succ, List.setIfInBounds_toArray, List.set_cons_zero, List.set_cons_succ]
          refine wpAnyH_take (i := 10) (oi := _) (v := ?vZsa10) rfl (by kernel_rfl) (by kernel_rfl) (by kernel_rfl) (fun _ _ _ h => h) (Or.inl ⟨by rfl, ?yZsa10⟩) hHeld ?_
          case yZsa10 => (intro w hSw; (try dsimp only at hSw); go_simp <;> with_reducible rfl)
          try simp only [Act.put, List.getElem_toArray, List.getElem_cons_zero, List.getElem_cons_succ, List.setIfInBounds_toArray, List.set_cons_zero, List.set_cons_succ]
          refine wpAnyH_take (i := 11) (oi := _) (v := ?vZsa11) rfl (by kernel_rfl) (by kernel_rfl) (by kernel_rfl) (fun _ _ _ h => h) (Or.inl ⟨by rfl, ?yZsa11⟩) hHeld ?_
          case yZsa11 => (intro w hSw; (try dsimp only at hSw); go_simp <;> with_reducible rfl)
          try simp only [Act.put, List.getElem_toArray, List.getElem_cons_zero, List.getElem_cons_succ, List.setIfInBounds_toArray, List.set_cons_zero, List.set_cons_succ]
          refine wpAnyH_take (i := 12) (oi := _) (v := ?vZsa12) rfl (by kernel_rfl) (by kernel_rfl) (by kernel_rfl) (fun _ _ _ h => h) (Or.inl ⟨by rfl, ?yZsa12⟩) hHeld ?_
          case yZsa12 => (intro w hSw; (try dsimp only at hSw); go_simp <;> with_reducible rfl)
          try simp only [Act.put, List.getElem_toArray, List.getElem_cons_zero, List.getElem_cons_succ, List.setIfInBounds_toArray, List.set_cons_zero, List.set_cons_succ]
          refine wpAnyH_ready (rs := [9, 13]) (by kernel_rfl) (by simp) ?_
          refine AllReadyH.cons rfl (fun K hK => ?_) (AllReadyH.cons rfl (fun K hK => ?_) AllReadyH.nil)
          · go_simp
            clear hHeld
            refine hK.out _ _ True.intro (fun hHeld => ?_)
            clear hK K
            refine wpAnyH_ready (rs := [13]) (by kernel_rfl) (by simp) ?_
            refine AllReadyH.cons rfl (fun K hK => ?_) AllReadyH.nil
            go_simp
            clear hHeld
            refine hK.out _ _ True.intro (fun hHeld => ?_)
            clear hK K
            refine wpAnyH_take (i := 14) (oi := _) (v := ?vZspi) rfl (by kernel_rfl) (by kernel_rfl) (by kernel_rfl) (fun _ _ _ h => h) (Or.inl ⟨by rfl, ?yZspi⟩) hHeld ?_
            case yZspi => (intro w hSw; (try dsimp only at hSw); go_simp <;> with_reducible rfl)
            try simp only [Act.put, List.getElem_toArray, List.getElem_cons_zero, List.getElem_cons_succ, List.setIfInBounds_toArray, List.set_cons_zero, List.set_cons_succ]
            refine wpAnyH_ready (rs := [15]) (by kernel_rfl) (by simp) ?_
            refine AllReadyH.cons rfl (fun K hK => ?_) AllReadyH.nil
            go_simp
            clear hHeld
            refine hK.out _ _ True.intro (fun hHeld => ?_)
            clear hK K
            rw [← HW9.out]
            refine wpAnyH_take (i := 16) (oi := _) (v := ?vZspj) rfl (by kernel_rfl) (by kernel_rfl) (by kernel_rfl) (fun _ _ _ h => h) (Or.inl ⟨by rfl, ?yZspj⟩) hHeld ?_
            case yZspj => (intro w hSw; (try dsimp only at hSw); go_simp <;> with_reducible rfl)
            try simp only [Act.put, List.getElem_toArray, List.getElem_cons_zero, List.getElem_cons_succ, List.setIfInBounds_toArray, List.set_cons_zero, List.set_cons_succ]
            refine wpAnyH_ready (rs := [17]) (by kernel_rfl) (by simp) ?_
            refine AllReadyH.cons rfl (fun K hK => ?_) AllReadyH.nil
            go_simp
            clear hHeld
            refine hK.out _ _ True.intro (fun hHeld => ?_)
            clear hK K
            rw [← HW10.out]
            refine wpAnyH_done (by kernel_rfl) ?_ _
            go_wp2_with fail
            go_roundw
            case rel => exact ⟨k + 1, by have h1 := HIN.out; have h2 := HJN.out; first | (rw [show p + (k + 1) = J by omega]; go_num) | (congr 1; omega), by omega, by rw [← HSW.out]; exact HFIN, HBL⟩
            case measure => have h1 := HIN.out; have h2 := HS9.out; simp [intOf]; omega
          · go_simp
            clear hHeld
            refine hK.out _ _ True.intro (fun hHeld => ?_)
            clear hK K
            refine wpAnyH_ready (rs := [9]) (by kernel_rfl) (by simp) ?_
            refine AllReadyH.cons rfl (fun K hK => ?_) AllReadyH.nil
            go_simp
            clear hHeld
            refine hK.out _ _ True.intro (fun hHeld => ?_)
            clear hK K
            refine wpAnyH_take (i := 14) (oi := _) (v := ?vZsqi) rfl (by kernel_rfl) (by kernel_rfl) (by kernel_rfl) (fun _ _ _ h => h) (Or.inl ⟨by rfl, ?yZsqi⟩) hHeld ?_
            case yZsqi => (intro w hSw; (try dsimp only at hSw); go_simp <;> with_reducible rfl)
            try simp only [Act.put, List.getElem_toArray, List.getElem_cons_zero, List.getElem_cons_succ, List.setIfInBounds_toArray, List.set_cons_zero, List.set_cons_succ]
            refine wpAnyH_ready (rs := [15]) (by kernel_rfl) (by simp) ?_
            refine AllReadyH.cons rfl (fun K hK => ?_) AllReadyH.nil
            go_simp
            clear hHeld
            refine hK.out _ _ True.intro (fun hHeld => ?_)
            clear hK K
            rw [← HW9.out]
            refine wpAnyH_take (i := 16) (oi := _) (v := ?vZsqj) rfl (by kernel_rfl) (by kernel_rfl) (by kernel_rfl) (fun _ _ _ h => h) (Or.inl ⟨by rfl, ?yZsqj⟩) hHeld ?_
            case yZsqj => (intro w hSw; (try dsimp only at hSw); go_simp <;> with_reducible rfl)
            try simp only [Act.put, List.getElem_toArray, List.getElem_cons_zero, List.getElem_cons_succ, List.setIfInBounds_toArray, List.set_cons_zero, List.set_cons_succ]
            refine wpAnyH_ready (rs := [17]) (by kernel_rfl) (by simp) ?_
            refine AllReadyH.cons rfl (fun K hK => ?_) AllReadyH.nil
            go_simp
            clear hHeld
            refine hK.out _ _ True.intro (fun hHeld => ?_)
            clear hK K
            rw [← HW10.out]
            refine wpAnyH_done (by kernel_rfl) ?_ _
            go_wp2_with fail
            go_roundw
            case rel => exact ⟨k + 1, by have h1 := HIN.out; have h2 := HJN.out; first | (rw [show p + (k + 1) = J by omega]; go_num) | (congr 1; omega), by omega, by rw [← HSW.out]; exact HFIN, HBL⟩
            case measure => have h1 := HIN.out; have h2 := HS9.out; simp [intOf]; omega
end Go.Proofs.Ytablcicfagmhpaa
