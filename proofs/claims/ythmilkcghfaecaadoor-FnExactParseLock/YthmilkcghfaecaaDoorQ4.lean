/-
  Contracts for the walks, several texts in one: each part says what it proves, and under which conditions.
-/
import Derived.Deep.RegionHeld
import Derived.WalkKit
import Derived.LaidEql
import Derived.Stop.Asserts
import Derived.RowKitTokens
import Derived.Test.YthmilkcghfaecaaDoorQ3
import Derived.Test.YthmilkcghfaecaaDoorQ1
import Derived.Test.YthmilkcghfaecaaDoorQ2

/-! The text of a version is read as that version; no condition. -/
namespace Go.Proofs.YthmilkcghfaecaaDoor
open Go.RowKit
set_option linter.unusedSimpArgs false
set_option linter.unusedVariables false

theorem vat_drop (s : ByteArray) (b i : Nat) (l : List UInt8) (h : s.data.toList.drop b = l) (hi : i < l.length) : s.data[b + i]! = l[i] := by
  subst h
  have h1 : b + i < s.data.toList.length := by rw [List.length_drop] at hi; omega
  have h2 : b + i < s.data.size := by rw [← Array.length_toList]; exact h1
  rw [getElem!_pos s.data (b + i) h2, List.getElem_drop, Array.getElem_toList]
theorem vsplit_hit (s : ByteArray) (c : Int) (b m : Nat) (hm : m < s.size) (hc : ((s.data[m]!).toNat : Int) = c) : ∀ n i, n = m - i → i ≤ m → (∀ j, i ≤ j → j < m → ¬ ((s.data[j]!).toNat : Int) = c) → splitGo s c (s.size - i) i b = s.extract b m :: splitGo s c (s.size - (m + 1)) (m + 1) (m + 1)
  | 0, i, hn, hi, hj => by
    obtain rfl : i = m := by omega
    exact splitGo_hit s c i b hm hc
  | n + 1, i, hn, hi, hj => by
    rw [splitGo_miss s c i b (by omega) (hj i (Nat.le_refl _) (by omega))]
    exact vsplit_hit s c b m hm hc n (i + 1) (by omega) (by omega) (fun j h1 h2 => hj j (by omega) h2)
theorem vsplit_end (s : ByteArray) (c : Int) (b : Nat) : ∀ n i, n = s.size - i → i ≤ s.size → (∀ j, i ≤ j → j < s.size → ¬ ((s.data[j]!).toNat : Int) = c) → splitGo s c (s.size - i) i b = [s.extract b s.size]
  | 0, i, hn, hi, hj => by
    obtain rfl : i = s.size := by omega
    exact splitGo_end s c b
  | n + 1, i, hn, hi, hj => by
    rw [splitGo_miss s c i b (by omega) (hj i (Nat.le_refl _) (by omega))]
    exact vsplit_end s c b n (i + 1) (by omega) (by omega) (fun j h1 h2 => hj j (by omega) h2)

/-- A text holds no such byte. -/
def noneB (c : Nat) (x : ByteArray) : Prop := ∀ u, u ∈ x.data.toList → u.toNat ≠ c

theorem vsplit_told (s : ByteArray) : ∀ (ps : List ByteArray) (b : Nat), ps ≠ [] → (∀ x, x ∈ ps → noneB 46 x) → b ≤ s.size → s.data.toList.drop b = (joinS ps ⟨#[46]⟩).data.toList → splitGo s 46 (s.size - b) b b = ps
  | [], b, h, _, _, _ => absurd rfl h
  | [x], b, _, hx, hb, hs => by
    rw [vjoinS_one] at hs
    have hl : s.size - b = x.size := by rw [← vlen s, ← vlen x, ← hs, List.length_drop]
    rw [vsplit_end s 46 b (s.size - b) b rfl hb]
    · congr 1
      apply vext
      rw [vextract, hs]
      exact List.take_of_length_le (by rw [vlen]; omega)
    · intro j h1 h2 h3
      have h4 : j - b < x.data.toList.length := by rw [vlen]; omega
      have := vat_drop s b (j - b) _ hs h4
      rw [show b + (j - b) = j by omega] at this
      rw [this] at h3
      exact hx x (by simp) _ (List.getElem_mem h4) (by omega)
  | x :: y :: xs, b, _, hx, hb, hs => by
    rw [vjoinS_cons _ _ _ (by simp)] at hs
    obtain ⟨r, hr⟩ : ∃ r, r = joinS (y :: xs) ⟨#[46]⟩ := ⟨_, rfl⟩
    rw [← hr] at hs
    simp only [ByteArray.data_append, Array.toList_append] at hs
    have hl : s.size - b = x.size + 1 + r.size := by
      have := congrArg List.length hs
      rw [List.length_drop, vlen, List.length_append, List.length_append, vlen, vlen] at this
      exact this
    have hm : ((s.data[b + x.size]!).toNat : Int) = 46 := by
      rw [vat_drop s b x.size _ hs (by rw [List.length_append, List.length_append, vlen]; simp; omega)]
      rw [List.getElem_append_left (by rw [List.length_append, vlen]; simp), List.getElem_append_right (by rw [vlen]; exact Nat.le_refl _)]
      simp [vlen]
    rw [vsplit_hit s 46 b (b + x.size) (by omega) hm x.size b (by omega) (by omega)]
    · congr 1
      · apply vext
        rw [vextract, hs, List.append_assoc, show b + x.size - b = x.data.toList.length by rw [vlen]; omega, List.take_left']
        rfl
      · refine vsplit_told s (y :: xs) (b + x.size + 1) (by simp) (fun z hz => hx z (by simp at hz ⊢; exact .inr hz)) (by omega) ?_
        rw [show b + x.size + 1 = b + (x.size + 1) by omega, ← List.drop_drop, hs, ← hr]
        exact List.drop_left' (by rw [List.length_append, vlen]; rfl)
    · intro j h1 h2 h3
      have h4 : j - b < x.data.toList.length := by rw [vlen]; omega
      have := vat_drop s b (j - b) _ hs (by rw [List.length_append, List.length_append]; omega)
      rw [show b + (j - b) = j by omega, List.getElem_append_left (by rw [List.length_append]; omega), List.getElem_append_left h4] at this
      rw [this] at h3
      exact hx x (by simp) _ (List.getElem_mem h4) (by omega)
theorem vsplit_of_join (ps : List ByteArray) (h : ps ≠ []) (hx : ∀ x, x ∈ ps → noneB 46 x) : splitS (joinS ps ⟨#[46]⟩) 46 = ps :=
  vsplit_told _ ps 0 h hx (Nat.zero_le _) (by simp)

theorem vdec_ne : ∀ n, 0 < (Lib.decDigits n).length := by
  intro n
  by_cases h : n < 10
  · rw [vdec_one h]; simp
  · rw [vdec_step h]; simp
theorem vdec_digit (n : Nat) : ∀ u, u ∈ Lib.decDigits n → 48 ≤ u.toNat ∧ u.toNat ≤ 57 := by
  induction n using Nat.strongRecOn with
  | ind n ih =>
    intro u hu
    by_cases h : n < 10
    · rw [vdec_one h, List.mem_singleton] at hu
      subst hu
      simp only [UInt8.toNat_ofNat']
      omega
    · rw [vdec_step h, List.mem_append, List.mem_singleton] at hu
      rcases hu with hu | hu
      · exact ih (n / 10) (by omega) u hu
      · subst hu
        simp only [UInt8.toNat_ofNat']
        omega
theorem vdec_head (n : Nat) (hn : 1 ≤ n) : ∀ u, (Lib.decDigits n)[0]? = some u → u.toNat ≠ 48 := by
  induction n using Nat.strongRecOn with
  | ind n ih =>
    intro u hu
    by_cases h : n < 10
    · rw [vdec_one h, List.getElem?_cons_zero] at hu
      injection hu with hu
      subst hu
      simp only [UInt8.toNat_ofNat']
      omega
    · rw [vdec_step h, List.getElem?_append_left (vdec_ne _)] at hu
      exact ih (n / 10) (by omega) (by omega) u hu
theorem vdec_num (s : ByteArray) : ∀ n k, s.data.toList.take k = Lib.decDigits n → k ≤ s.size → numUpto s k = (n : Int) := by
  intro n
  induction n using Nat.strongRecOn with
  | ind n ih =>
    intro k hk hs
    cases k with
    | zero => exact absurd (vdec_ne n) (by rw [← hk]; simp)
    | succ k =>
      rw [vtake_snoc s k (by omega)] at hk
      have e : numUpto s (k + 1) = numUpto s k * 10 + (((s.data[k]!).toNat : Int) - 48) := rfl
      rw [e]
      by_cases h : n < 10
      · rw [vdec_one h] at hk
        have h1 := List.append_inj' (s₁ := s.data.toList.take k) (s₂ := []) (t₁ := [s.data[k]!]) (t₂ := [UInt8.ofNat (48 + n)]) (by simpa using hk) rfl
        have h2 : k = 0 := by
          have := congrArg List.length h1.1
          rw [List.length_take, vlen, List.length_nil] at this
          omega
        subst h2
        have h3 : s.data[0]! = UInt8.ofNat (48 + n) := by simpa using h1.2
        rw [h3]
        simp only [UInt8.toNat_ofNat', numUpto]
        omega
      · rw [vdec_step h] at hk
        have h1 := List.append_inj' hk rfl
        have h3 : s.data[k]! = UInt8.ofNat (48 + n % 10) := by simpa using h1.2
        rw [ih (n / 10) (by omega) k h1.1 (by omega), h3]
        simp only [UInt8.toNat_ofNat']
        omega
theorem told_num (n : Nat) : numUpto (numStr n) (numStr n).size = (n : Int) :=
  vdec_num (numStr n) n _ (by
    show (Lib.decDigits n).toArray.toList.take _ = _
    rw [List.take_of_length_le]
    exact Nat.le_of_eq (vlen (numStr n))) (Nat.le_refl _)
theorem told_none (c n : Nat) (hc : c < 48) : noneB c (numStr n) := fun u hu he => by
  have := vdec_digit n u hu
  omega

theorem allUpto_of {p : Nat → Int → Bool} {s : ByteArray} : ∀ {n : Nat}, (∀ k, k < n → p k ((s.data[k]!).toNat : Int) = true) → allUpto p s n = true
  | 0, _ => rfl
  | n + 1, h => by
    rw [allUpto, allUpto_of (fun k hk => h k (by omega)), h n (by omega)]; rfl
theorem vat_mem (s : ByteArray) (k : Nat) (h : k < s.size) : s.data[k]! ∈ s.data.toList := by
  have h1 : k < s.data.toList.length := by rw [vlen]; exact h
  have := vat_drop s 0 k _ rfl (by simpa using h1)
  rw [Nat.zero_add] at this
  rw [this]
  simp
theorem told_good (n : Nat) (h : n ≤ 9999) : numGood (numStr n) 9999 = true := by
  have h1 : 1 ≤ (numStr n).size := by rw [← vlen]; exact vdec_ne n
  have h2 := numStr_four n h
  have h3 : allUpto okDigit (numStr n) (numStr n).size = true := allUpto_of (fun k hk => by
    have := vdec_digit n _ (vat_mem (numStr n) k hk)
    rw [okDigit, digitB, decide_eq_true (by omega), decide_eq_true (by omega)]; rfl)
  have h4 : (decide (1 < (numStr n).size) && (((numStr n).data[0]!).toNat : Int) == 48) = false := by
    by_cases hl : 1 < (numStr n).size
    · have hn : 1 ≤ n := by
        cases n with
        | zero =>
          rw [← vlen] at hl
          have e : (numStr 0).data.toList = Lib.decDigits 0 := rfl
          rw [e, vdec_one (by omega)] at hl
          simp at hl
        | succ n => omega
      have h5 : (Lib.decDigits n)[0]? = some ((numStr n).data[0]!) := by
        have := vat_drop (numStr n) 0 0 (Lib.decDigits n) rfl (vdec_ne n)
        rw [Nat.add_zero] at this
        rw [this]
        exact List.getElem?_eq_getElem (vdec_ne n)
      have h6 := vdec_head n hn _ h5
      have h7 : ¬ (((numStr n).data[0]!).toNat : Int) = 48 := by omega
      rw [beq_eq_false_iff_ne.2 h7, Bool.and_false]
    · rw [decide_eq_false hl]; rfl
  rw [numGood, h3, h4, told_num, inB, decide_eq_true (by omega), decide_eq_true (by omega), decide_eq_true (by omega)]; rfl
theorem told_out (n : Nat) (h : n ≤ 9999) : numOut (numStr n) 9999 = (n : Int) := by
  rw [numOut_good (told_good n h), told_num]
theorem part_none {x : ByteArray} (h : partB x = true) : noneB 46 x := by
  intro u hu he
  simp only [partB, Bool.and_eq_true] at h
  obtain ⟨k, hk, e⟩ := List.getElem_of_mem hu
  have h1 := allUpto_at h.1.1 k (by rw [← vlen]; exact hk)
  have h2 := vat_drop x 0 k _ rfl hk
  rw [Nat.zero_add] at h2
  rw [h2] at h1
  have h3 : (x.data.toList.drop 0)[k] = u := e
  rw [h3, okPre, preB, he] at h1
  exact absurd h1 (by decide)
theorem core_none (a b c : Int) : noneB 45 (coreT a b c) := by
  intro u hu
  simp only [coreT, ByteArray.data_append, Array.toList_append, List.mem_append, List.mem_singleton] at hu
  rcases hu with (((hu | hu) | hu) | hu) | hu
  · exact told_none 45 _ (by omega) u hu
  · subst hu; decide
  · exact told_none 45 _ (by omega) u hu
  · subst hu; decide
  · exact told_none 45 _ (by omega) u hu
theorem core_split (a b c : Int) : splitS (coreT a b c) 46 = [numStr a.toNat, numStr b.toNat, numStr c.toNat] := by
  have e : coreT a b c = joinS [numStr a.toNat, numStr b.toNat, numStr c.toNat] ⟨#[46]⟩ := by rw [join_three]; rfl
  rw [e]
  refine vsplit_of_join _ (by simp) (fun x hx => ?_)
  simp at hx
  rcases hx with rfl | rfl | rfl <;> exact told_none 46 _ (by omega)
theorem in_nat {a : Int} (h : inB a 0 9999 = true) : ((a.toNat : Nat) : Int) = a ∧ a.toNat ≤ 9999 := by
  simp only [inB, Bool.and_eq_true, decide_eq_true_eq] at h
  omega

/-- What is told is read. -/
theorem res_told (a b c : Int) (ps : List ByteArray) (h : verB a b c ps = true) : resAll (verT a b c ps) = some ([a, b, c], ps) := by
  have h0 := h
  simp only [verB, Bool.and_eq_true, decide_eq_true_eq, parts_all] at h
  obtain ⟨⟨⟨⟨gp, ga⟩, gb⟩, gc⟩, gl⟩ := h
  obtain ⟨ea, la⟩ := in_nat ga
  obtain ⟨eb, lb⟩ := in_nat gb
  obtain ⟨ec, lc⟩ := in_nat gc
  rw [verT, h0, if_pos rfl]
  have fin : ∀ (s : ByteArray) (k : Nat), k ≤ s.size → (k < s.size → ((s.data[k]!).toNat : Int) = 45) → (∀ j, j < k → ¬ ((s.data[j]!).toNat : Int) = 45) → s.extract 0 k = coreT a b c → (ps = if k < s.size then splitS (s.extract (k + 1) s.size) 46 else []) → resAll s = some ([a, b, c], ps) := by
    intro s k hk hd hn h1 h2
    rw [res_spec s k hk hd hn [numStr a.toNat, numStr b.toNat, numStr c.toNat] ps (by rw [h1, core_split]) h2]
    rw [gp, decide_eq_true gl]
    simp only [List.all_cons, List.all_nil, List.map_cons, List.map_nil, told_good _ la, told_good _ lb, told_good _ lc, told_out _ la, told_out _ lb, told_out _ lc, ea, eb, ec, List.length_cons, List.length_nil]
    rfl
  by_cases hp : 0 < ps.length
  · rw [if_pos hp]
    obtain ⟨r, hr⟩ : ∃ r, r = joinS ps ⟨#[46]⟩ := ⟨_, rfl⟩
    rw [← hr]
    have hd : (coreT a b c ++ ⟨#[45]⟩ ++ r).data.toList = (coreT a b c).data.toList ++ [45] ++ r.data.toList := by
      simp only [ByteArray.data_append, Array.toList_append]
    have hcn := core_none a b c
    generalize coreT a b c = K at *
    have hsz : (K ++ ⟨#[45]⟩ ++ r).size = K.size + 1 + r.size := by
      rw [← vlen, hd, List.length_append, List.length_append, vlen, vlen]; rfl
    generalize K ++ ⟨#[45]⟩ ++ r = s at *
    have hd0 : s.data.toList.drop 0 = K.data.toList ++ [45] ++ r.data.toList := by rw [List.drop_zero, hd]
    refine fin s K.size (by omega) (fun _ => ?_) (fun j hj he => ?_) ?_ ?_
    · have := vat_drop s 0 K.size _ hd0 (by rw [List.length_append, List.length_append, vlen]; simp; omega)
      rw [Nat.zero_add] at this
      rw [this, List.getElem_append_left (by rw [List.length_append, vlen]; simp), List.getElem_append_right (by rw [vlen]; exact Nat.le_refl _)]
      simp [vlen]
    · have h4 : j < K.data.toList.length := by rw [vlen]; exact hj
      have := vat_drop s 0 j _ hd0 (by rw [List.length_append, List.length_append]; omega)
      rw [Nat.zero_add, List.getElem_append_left (by rw [List.length_append]; omega), List.getElem_append_left h4] at this
      rw [this] at he
      exact hcn _ (List.getElem_mem h4) (by omega)
    · apply vext
      rw [vextract, hd0, List.append_assoc, Nat.sub_zero]
      exact List.take_left' (vlen K)
    · rw [if_pos (by omega)]
      have e : s.extract (K.size + 1) s.size = r := by
        apply vext
        rw [vextract, hd, List.drop_left' (by rw [List.length_append, vlen]; rfl)]
        exact List.take_of_length_le (by rw [vlen]; omega)
      rw [e, hr, vsplit_of_join ps (List.length_pos_iff.1 hp) (fun x hx => part_none (List.all_eq_true.1 gp x hx))]
  · rw [if_neg hp]
    have : ps = [] := List.length_eq_zero_iff.1 (by omega)
    refine fin _ (coreT a b c).size (Nat.le_refl _) (fun h => by omega) (fun j hj he => ?_) (vwhole _) (by rw [if_neg (by omega), this])
    exact core_none a b c _ (vat_mem _ j hj) (by omega)
#print axioms res_told
end Go.Proofs.YthmilkcghfaecaaDoor

/-! What is read of a text as a version is a right one: plain facts. -/
namespace Go.Proofs.YthmilkcghfaecaaDoor
open Go.RowKit
set_option linter.unusedSimpArgs false
set_option linter.unusedVariables false

theorem bk_back (t : ByteArray) (h : resOk t = true) : verT (resN t 0) (resN t 1) (resN t 2) (resP t) = t := by
  unfold resOk at h
  obtain ⟨⟨ns, ps⟩, hx⟩ := Option.isSome_iff_exists.1 h
  obtain ⟨a, b, c, rfl, hv⟩ := res_back t ns ps hx
  simp only [resN, resP, hx]
  exact hv
theorem bk_parts : ∀ ps : List ByteArray, (∀ x ∈ ps, x.size ≤ 8) → (ps.map ByteArray.size).sum ≤ 8 * ps.length
  | [], _ => by simp
  | x :: ps, h => by
    have := bk_parts ps (fun t ht => h t (List.mem_cons_of_mem _ ht))
    have := h x (List.mem_cons_self ..)
    simp only [List.map_cons, List.sum_cons, List.length_cons]
    omega
theorem bk_bulk {a b c : Int} {ps : List ByteArray} (h : verB a b c ps = true) : bulkS ps ≤ 27 := by
  have hp : partsUpto ps ps.length = true := by
    cases hh : partsUpto ps ps.length with
    | true => rfl
    | false => rw [verB_parts hh] at h; exact absurd h (by decide)
  have hl : ps.length ≤ 3 := by
    rw [verB_all hp] at h
    simp at h
    omega
  have hx : ∀ x ∈ ps, x.size ≤ 8 := fun x hm => by
    obtain ⟨k, hk, rfl⟩ := List.getElem_of_mem hm
    cases hb : partB ps[k] with
    | false => rw [parts_end hk hb] at hp; exact absurd hp (by decide)
    | true =>
      simp only [partB, Bool.and_eq_true] at hb
      have h2 := hb.1.2
      simp [inB] at h2
      omega
  have := bk_parts ps hx
  unfold bulkS
  omega
theorem bk_empty : resOk ⟨#[]⟩ = false := by decide +kernel
theorem bk_ver (t : ByteArray) (h : resOk t = true) : verB (resN t 0) (resN t 1) (resN t 2) (resP t) = true := by
  have hb := bk_back t h
  cases hv : verB (resN t 0) (resN t 1) (resN t 2) (resP t) with
  | true => rfl
  | false =>
    have e : verT (resN t 0) (resN t 1) (resN t 2) (resP t) = ⟨#[]⟩ := by simp [verT, hv]
    rw [e] at hb
    rw [← hb, bk_empty] at h
    exact absurd h (by decide)
theorem bk_num {t : ByteArray} (h : numGood t 9999 = true) : 0 ≤ numOut t 9999 ∧ numOut t 9999 ≤ 9999 := by
  refine ⟨(num_str h).2, ?_⟩
  rw [numOut_good h]
  simp only [numGood, Bool.and_eq_true, decide_eq_true_eq] at h
  exact h.2
end Go.Proofs.YthmilkcghfaecaaDoor

/-! How many pieces a text falls into, and how long they are: no condition. -/
namespace Go.Proofs.YthmilkcghfaecaaDoor
open Go.RowKit
set_option linter.unusedSimpArgs false
set_option linter.unusedVariables false

theorem splitS_pos (s : ByteArray) (c : Int) : 0 < (splitS s c).length := by
  have h : ∀ n i b, 0 < (splitGo s c n i b).length := fun n => by
    induction n with
    | zero => intro i b; simp [splitGo]
    | succ n ih => intro i b; rw [splitGo]; split <;> simp [ih]
  exact h _ _ _
theorem splitS_piece (s : ByteArray) (c : Int) : ∀ x ∈ splitS s c, x.size ≤ s.size := by
  have h : ∀ n i b, ∀ x ∈ splitGo s c n i b, x.size ≤ s.size := fun n => by
    induction n with
    | zero => intro i b x hx; simp [splitGo] at hx; subst hx; rw [ByteArray.size_extract]; omega
    | succ n ih =>
      intro i b x hx
      rw [splitGo] at hx
      split at hx
      · rcases List.mem_cons.1 hx with rfl | hx
        · rw [ByteArray.size_extract]; omega
        · exact ih _ _ x hx
      · exact ih _ _ x hx
  exact h _ _ _
theorem splitS_len (s : ByteArray) (c : Int) : (splitS s c).length ≤ s.size + 1 := by
  have h : ∀ n i b, (splitGo s c n i b).length ≤ n + 1 := fun n => by
    induction n with
    | zero => intro i b; simp [splitGo]
    | succ n ih =>
      intro i b
      rw [splitGo]
      split
      · simp only [List.length_cons]; have := ih (i + 1) (i + 1); omega
      · have := ih (i + 1) b; omega
  exact h _ _ _

end Go.Proofs.YthmilkcghfaecaaDoor

/-! A lock's text, read line by line: the program's way and the specification's come to the same; pure facts, no condition. -/
namespace Go.Proofs.YthmilkcghfaecaaDoor
open Go.RowKit
set_option linter.unusedSimpArgs false
set_option linter.unusedVariables false

/-- The pick that a name and a version's text tell. -/
def pickT (n t : ByteArray) : PickD := ⟨n, resN t 0, resN t 1, resN t 2, resP t⟩
/-- The pick of a line, as the program reads it. -/
def lineP (l : ByteArray) : Option PickD := if resOk (cutD l 64).2.1 = true then some (pickT (cutD l 64).1 (cutD l 64).2.1) else none
/-- The same, as the specification reads it. -/
def lineS (l : ByteArray) : Option PickD := match splitS l 64 with
  | [n, t] => if resOk t = true then some (pickT n t) else none
  | _ => none

theorem reads_signs (s : ByteArray) : ∀ (f i b : Nat) (ns : List Int) (ps : List ByteArray) (inP : Bool) (r : List Int × List ByteArray), f = s.size - i → reads s f i b ns ps inP = some r → ∀ j, i ≤ j → j < s.size → ¬ ((s.data[j]!).toNat : Int) = 64
  | 0, i, b, ns, ps, inP, r, hf, h, j, hij, hj => by omega
  | f + 1, i, b, ns, ps, inP, r, hf, h, j, hij, hj => by
    have hi : i < s.size := by omega
    have hst := reads_step s i b ns ps inP hi _ rfl
    rw [← hf] at hst
    rw [hst] at h
    split at h
    · rename_i ht
      by_cases e : i = j
      · subst e
        intro h64
        rw [h64] at ht
        unfold takeOk endsB at ht
        have hp : preB 64 = false := by decide
        cases inP <;> simp [hp] at ht
      · exact reads_signs s _ (i + 1) _ _ _ _ r (by omega) h j (by omega) hj
    · cases h
theorem ok_signs {t : ByteArray} (h : resOk t = true) : ∀ j, j < t.size → ¬ ((t.data[j]!).toNat : Int) = 64 := fun j hj => by
  unfold resOk resAll at h
  obtain ⟨r, hr⟩ := Option.isSome_iff_exists.1 h
  exact reads_signs t t.size 0 0 [] [] false r (by omega) hr j (Nat.zero_le _) hj

theorem mem_at {t : ByteArray} {k : Nat} {u : UInt8} (h : t.data.toList[k]? = some u) : k < t.size ∧ t.data[k]! = u := by
  have h2 := (List.getElem?_eq_some_iff.1 h).1
  have h3 : t.data.toList.length = t.size := by rw [Array.length_toList]; rfl
  refine ⟨by omega, ?_⟩
  have h4 := bang_list t k (by omega)
  rw [h] at h4
  exact (Option.some.inj h4).symm
theorem line_alike (l : ByteArray) : lineS l = lineP l := by
  have hs : splitS l 64 = splitGo l 64 (l.size - 0) 0 0 := rfl
  have hu : (64 : Int).toNat.toUInt8 = 64 := rfl
  rcases search l 64 0 (Nat.zero_le _) (by decide) (by decide) with ⟨h1, h2⟩ | ⟨k, h1, hk, h2⟩
  · rw [vwhole, hu] at h1
    rw [vwhole] at h2
    unfold lineS lineP
    rw [hs, h2, cutD_none h1]
    simp [bk_empty]
  · rw [vwhole, hu] at h1
    rw [Nat.zero_add] at h2 hk
    unfold lineS lineP
    rw [hs, h2, cutD_some h1]
    rcases search l 64 (k + 1) (by omega) (by decide) (by decide) with ⟨h3, h4⟩ | ⟨k2, h3, hk2, h4⟩
    · rw [h4]
    · rw [h4]
      have hne := vsplitGo_ne l 64 (l.size - (k + 1 + k2 + 1)) (k + 1 + k2 + 1) (k + 1 + k2 + 1)
      obtain ⟨x, xs, hx⟩ := List.exists_cons_of_ne_nil hne
      rw [hx]
      have hbad : ¬ resOk (l.extract (k + 1) l.size) = true := fun hok => by
        rw [hu] at h3
        obtain ⟨h5, h6⟩ := mem_at (Lib.indexByte_some h3).1
        exact ok_signs hok k2 h5 (by rw [h6]; rfl)
      simp only [hbad]
      rfl

/-- Lines read one by one: the last one must be empty. -/
def lockGo : List ByteArray → List PickD → Option (List PickD)
  | [], _ => none
  | [l], acc => if l.size = 0 then some acc else none
  | l :: l2 :: r, acc => match lineP l with
    | none => none
    | some p => if picksB (acc ++ [p]) = true then lockGo (l2 :: r) (acc ++ [p]) else none
def lockR (s : ByteArray) : Option (List PickD) := lockGo (splitS s 10) []
theorem lockGo_last (l : ByteArray) (acc : List PickD) : lockGo [l] acc = if l.size = 0 then some acc else none := rfl
theorem lockGo_more {L : List ByteArray} (h : L ≠ []) (l : ByteArray) (acc : List PickD) : lockGo (l :: L) acc = match lineP l with
    | none => none
    | some p => if picksB (acc ++ [p]) = true then lockGo L (acc ++ [p]) else none := by
  obtain ⟨x, xs, rfl⟩ := List.exists_cons_of_ne_nil h
  rfl
theorem rowUpto_append {α : Type} (p : α → Bool) (key : α → ByteArray) (xs ys : List α) : ∀ k, k ≤ xs.length → rowUpto p key (xs ++ ys) k = rowUpto p key xs k
  | 0, _ => rfl
  | k + 1, h => by
    have hk : k < xs.length := by omega
    have hp : preX (xs ++ ys) k = preX xs k := by
      cases k with
      | zero => rfl
      | succ j => simp only [preX]; rw [List.getElem?_append_left (by omega)]
    rw [rowUpto, rowUpto, rowUpto_append p key xs ys k (by omega), List.getElem?_append_left hk, hp]
theorem rowUpto_pre {α : Type} (p : α → Bool) (key : α → ByteArray) (xs : List α) : ∀ n k, k ≤ n → rowUpto p key xs n = true → rowUpto p key xs k = true
  | 0, k, h, ht => by obtain rfl : k = 0 := by omega
                      exact ht
  | n + 1, k, h, ht => by
    by_cases e : k = n + 1
    · subst e; exact ht
    · rw [rowUpto] at ht
      exact rowUpto_pre p key xs n k (by omega) (Bool.and_eq_true_iff.1 ht).1
theorem picksB_pre (xs ys : List PickD) (h : picksB (xs ++ ys) = true) : picksB xs = true := by
  unfold picksB rowB at h ⊢
  obtain ⟨h1, h2⟩ := Bool.and_eq_true_iff.1 h
  have h3 := of_decide_eq_true h2
  rw [List.length_append] at h1 h3
  rw [Bool.and_eq_true_iff]
  refine ⟨?_, decide_eq_true (by omega)⟩
  rw [← rowUpto_append pickB PickD.name xs ys xs.length (Nat.le_refl _)]
  exact rowUpto_pre _ _ _ _ _ (by omega) h1
/-- The picks of lines, where each is one. -/
def linesP : List ByteArray → Option (List PickD)
  | [] => some []
  | l :: r => match lineS l with
    | none => none
    | some p => (linesP r).map (p :: ·)
/-- What the specification answers of lines. -/
def lockS (L : List ByteArray) : Option (List PickD) := match linesP L.dropLast with
  | none => none
  | some ps => if (L.getLastD ⟨#[]⟩).size = 0 ∧ picksB ps = true then some ps else none
theorem lockGo_all : ∀ (L : List ByteArray) (acc : List PickD), L ≠ [] → picksB acc = true → lockGo L acc = match linesP L.dropLast with
    | none => none
    | some ps => if (L.getLastD ⟨#[]⟩).size = 0 ∧ picksB (acc ++ ps) = true then some (acc ++ ps) else none
  | [], acc, h, _ => absurd rfl h
  | [l], acc, _, ha => by
    simp only [lockGo, List.dropLast, linesP, List.append_nil, ha, and_true]
    rfl
  | l :: l2 :: r, acc, _, ha => by
    rw [lockGo_more (by simp)]
    have e1 : (l :: l2 :: r).dropLast = l :: (l2 :: r).dropLast := rfl
    have e2 : (l :: l2 :: r).getLastD ⟨#[]⟩ = (l2 :: r).getLastD ⟨#[]⟩ := rfl
    rw [e1, e2, linesP, line_alike]
    cases lineP l with
    | none => rfl
    | some p =>
      show (if picksB (acc ++ [p]) = true then lockGo (l2 :: r) (acc ++ [p]) else none) = _
      by_cases hp : picksB (acc ++ [p]) = true
      · rw [if_pos hp, lockGo_all (l2 :: r) (acc ++ [p]) (by simp) hp]
        cases linesP (l2 :: r).dropLast with
        | none => rfl
        | some ps => simp only [Option.map_some, List.append_assoc, List.singleton_append]
      · rw [if_neg hp]
        cases linesP (l2 :: r).dropLast with
        | none => rfl
        | some ps =>
          have hn : ¬ picksB (acc ++ p :: ps) = true := fun h => hp (picksB_pre (acc ++ [p]) ps (by simpa using h))
          simp [hn]
theorem lock_alike (s : ByteArray) : lockR s = lockS (splitS s 10) := by
  unfold lockR lockS
  rw [lockGo_all _ [] (by have := splitS_pos s 10; intro h; rw [h] at this; simp at this) (by decide)]
  simp only [List.nil_append]
end Go.Proofs.YthmilkcghfaecaaDoor

/-! Entries that lie in memory: what they are: no condition. -/
namespace Go.Proofs.YthmilkcghfaecaaDoor
open Go.RowKit
set_option linter.unusedSimpArgs false
set_option linter.unusedVariables false

structure EntryD where
  name : ByteArray
  vA : Int
  vB : Int
  vC : Int
  vP : List ByteArray
  needs : List NeedD
def wtEntry (d : EntryD) : Nat := d.name.size + bulkS d.vP + wtRow wtNeed d.needs
def shEntry : Sh EntryD where
  n := 6
  lies S w cs d := ∃ u0 u1, cs = [.string d.name, .int .i64 d.vA, .int .i64 d.vB, .int .i64 d.vC, u0, u1] ∧ d.name.size ≤ maxLen ∧ RdB S w u0 (strsV d.vP) ∧ saneP d.vP ∧ RowIn shNeed S w u1 d.needs
  keep hk h := by obtain ⟨u0, u1, h0, h1, h2, h3, h4⟩ := h; exact ⟨u0, u1, h0, h1, h2.keep hk, h3, h4.keep hk⟩
  mono hS h := by obtain ⟨u0, u1, h0, h1, h2, h3, h4⟩ := h; exact ⟨u0, u1, h0, h1, h2.mono hS, h3, h4.mono hS⟩
end Go.Proofs.YthmilkcghfaecaaDoor

/-! Copies of needs and commands, and of rows of them, in memory of their own, as the law makes them: contracts for the walks; condition: what is copied holds at most 2 to the 20. -/
namespace Go.Proofs.YthmilkcghfaecaaDoor
open Go.RowKit
set_option linter.unusedSimpArgs false
set_option linter.unusedVariables false

theorem owns_sliceP {w : World} {lo : Nat} {e : TypeId} {sz n : Nat} {v : Value} {xs : List Value} (hg : w.ownsRow lo e sz v n xs) : ∃ q cap, v = .slice q n cap := by
  rcases hg.2 with ⟨h1, h2⟩ | ⟨g, cap, cur, h1, _⟩
  · exact ⟨none, 0, by rw [h1, h2]⟩
  · exact ⟨_, _, h1⟩
theorem StrsOwn.slice {S : Nat → Prop} {w : World} {u : Value} {ss : List ByteArray} (h : StrsOwn S w u ss) : ∃ q cap, u = .slice q ss.length cap := owns_sliceP h.1
theorem RowOwn.slice {α : Type} {sh : Sh α} {t : TypeId} {S : Nat → Prop} {w : World} {v : Value} {xs : List α} (h : RowOwn sh t S w v xs) : ∃ q cap, v = .slice q xs.length cap := by
  obtain ⟨_, ys, h1, _⟩ := h; exact owns_sliceP h1

end Go.Proofs.YthmilkcghfaecaaDoor

/-! Copies in memory of their own, as the law makes them: contracts for the walks; condition: what is copied holds at most 2 to the 20. -/
namespace Go.Proofs.YthmilkcghfaecaaDoor
open Go.RowKit
set_option linter.unusedSimpArgs false
set_option linter.unusedVariables false

set_option maxHeartbeats 2000000 in
set_option maxRecDepth 100000 in
theorem toVerO_c (a b c : Int) (u : Value) (ps : List ByteArray) (w : World) (hu : Reads w u (strsV ps)) (hn : ps.length ≤ 1048576) :
    Calls Tryd.prog 35 #[.agg #[.int .i64 a, .int .i64 b, .int .i64 c, u]] w fun e w' => ∃ g, e = .returned (.agg #[.int .i64 a, .int .i64 b, .int .i64 c, .slice (some ⟨g, 0, none⟩) ps.length ps.length]) ∧ StrsOwn (Ow w.heap.size w'.heap.size) w' (.slice (some ⟨g, 0, none⟩) ps.length ps.length) ps ∧ Below w.heap.size w w' := by
  have huA : ∀ w1, Below w.heap.size w w1 → Reads w1 u (strsV ps) := fun w1 h1 => hu.below h1
  obtain ⟨q, cap, rfl, _, _⟩ := reads_strs hu
  clear hu
  go_enter Tryd.func35, Tryd.ntmps35
  have hb3 : ∀ A R O, Below w.heap.size w (((w.alloc A).alloc R).alloc O) := fun A R O => (((Below.refl _ _).alloc (Nat.le_refl _) _).alloc (by simp) _).alloc (by simp; omega) _
  go_wp2_with (
    go_at_call 57
    refine (toStrs_c _ ps _ (huA _ (hb3 _ _ _)) (by omega)).mono ?_
    rintro e w1 ⟨g, rfl, hM, hb1⟩
    obtain ⟨hA, hR, hO⟩ := vthree hb1
    have o0 := vblk_cell hO 0
    have o1 := vblk_cell hO 1
    have o2 := vblk_cell hO 2
    have o3 := vblk_cell hO 3
    have r0 := vblk_cell hR 0
    have r1 := vblk_cell hR 1
    have r2 := vblk_cell hR 2
    have r3 := vblk_cell hR 3
    have fo := vblk_frozen hO
    have fr := vblk_frozen hR
    simp only [List.getElem?_toArray, List.getElem?_cons_succ, List.getElem?_cons_zero] at o0 o1 o2 o3 r0 r1 r2 r3)
  have s3 : ∀ A R O, (((w.alloc A).alloc R).alloc O).heap.size = w.heap.size + 1 + 1 + 1 := fun A R O => by simp
  rw [s3] at hb1 hM
  have hN : w.heap.size + 1 + 1 + 1 ≤ w1.heap.size := by have := hb1.size; rw [s3] at this; exact this
  refine bodyPost_ret (v := .agg #[.int .i64 a, .int .i64 b, .int .i64 c, .slice (some ⟨g, 0, none⟩) ps.length ps.length]) (by simp [results, Tryd.results35, go_sem, o0, o1, o2, o3, r0, r1, r2, r3]) rfl ⟨_, rfl, ?_, ?_⟩
  · have hX : ∀ {W : World}, W.ownsRow (w.heap.size + 1 + 1 + 1) 9 1 (.slice (some ⟨g, 0, none⟩) ps.length ps.length) ps.length (strsV ps) → StrsOwn (Ow w.heap.size W.heap.size) W (.slice (some ⟨g, 0, none⟩) ps.length ps.length) ps := fun h => ⟨owns_lo (Nat.zero_le _) h, fun b hb => Ow.mono (by omega) (Nat.le_refl _) b (owns_in h b hb)⟩
    refine hX ?_
    refine owns_set (owns_set (owns_set (owns_set (owns_set hM ?_ _) ?_ _) ?_ _) ?_ _) ?_ _ <;> simp
  · have b1 := ((hb3 _ _ _).trans (hb1.mono (by omega)))
    refine Below.setCell (Below.setCell (Below.setCell (Below.setCell (Below.setCell b1 ?_ _) ?_ _) ?_ _) ?_ _) ?_ _ <;> simp <;> omega

end Go.Proofs.YthmilkcghfaecaaDoor

/-! Copies of versions, needs and entries, as the program makes them: contracts for the walks; conditions: they lie in memory, and hold at most 2 to the 20. -/
namespace Go.Proofs.YthmilkcghfaecaaDoor
open Go.RowKit
set_option linter.unusedSimpArgs false
set_option linter.unusedVariables false

/-- A block of another type than a row's is not the row's. -/
theorem row_box {w : World} {lo sz n g : Nat} {e t : TypeId} {v : Value} {xs : List Value} {cs : Array Value} {fz : Nat × Nat} (h : w.ownsRow lo e sz v n xs) (hb : w.heap[g]? = some (.cells cs t fz)) (hne : e ≠ t) : v.ownBlock ≠ some g := fun he => by
  rcases h.2 with ⟨rfl, _⟩ | ⟨g', cap, cur, rfl, _, hg, _⟩
  · simp [Value.ownBlock] at he
  · simp [Value.ownBlock] at he
    subst he
    rw [hg] at hb
    simp at hb
    exact hne hb.2.1
theorem box_grown {w w' : World} {row : Option Nat} {g : Nat} {o : Obj} (hb : w.heap[g]? = some o) (hg : w.grownBy w' row) (hne : row ≠ some g) : w'.heap[g]? = some o :=
  (hg.block g (Array.getElem?_eq_some_iff.1 hb).1 (fun e => hne e.symm)).trans hb
theorem box_below {w w' : World} {g : Nat} {o : Obj} (hb : w.heap[g]? = some o) (h : Below w.heap.size w w') : w'.heap[g]? = some o :=
  (h.block g (Array.getElem?_eq_some_iff.1 hb).1).trans hb
theorem row_put {w : World} {lo sz n g j : Nat} {e t : TypeId} {v x : Value} {xs : List Value} {cs : Array Value} {fz : Nat × Nat} (h : w.ownsRow lo e sz v n xs) (hb : w.heap[g]? = some (.cells cs t fz)) (hne : e ≠ t) : (w.setCell ⟨g, j, none⟩ x).ownsRow lo e sz v n xs :=
  owns_kept (S := fun b => b ≠ g) (Kp.set (by simp)) (fun b hb' => by rintro rfl; exact row_box h hb hne hb') h
theorem List.single_le_sum_natC {ss : List ByteArray} {t : ByteArray} (h : t ∈ ss) : t.size ≤ (ss.map ByteArray.size).sum := by
  induction ss with
  | nil => simp at h
  | cons a l ih =>
    simp only [List.map_cons, List.sum_cons]
    rcases List.mem_cons.1 h with rfl | h
    · omega
    · have := ih h; omega
theorem two_boxes {w : World} (A R : Obj) : ((w.alloc A).alloc R).heap[w.heap.size]? = some A ∧ ((w.alloc A).alloc R).heap[w.heap.size + 1]? = some R := by
  have s1 : (w.alloc A).heap.size = w.heap.size + 1 := by simp
  refine ⟨?_, ?_⟩
  · rw [vheap_old _ _ (by simp), vheap_new]
  · rw [← s1, vheap_new]

end Go.Proofs.YthmilkcghfaecaaDoor

/-! What reading one line of a lock answers, as the program does it: a contract for the walks; condition: the line has at most 2 to the 20 bytes. -/
namespace Go.Proofs.YthmilkcghfaecaaDoor
open Go.RowKit
set_option linter.unusedSimpArgs false
set_option linter.unusedVariables false

theorem cutD_size (l : ByteArray) (c : UInt8) : (cutD l c).1.size ≤ l.size ∧ (cutD l c).2.1.size ≤ l.size := by
  have hge := Lib.indexByte_ge l.data.toList c
  by_cases hm : Lib.indexByte l.data.toList c = -1
  · rw [cutD_none hm]; exact ⟨Nat.le_refl _, Nat.zero_le _⟩
  · obtain ⟨k, hk⟩ := Int.eq_ofNat_of_zero_le (show 0 ≤ Lib.indexByte l.data.toList c by omega)
    have hlt := index_lt hk
    rw [cutD_some hk]
    refine ⟨?_, ?_⟩
    · show (l.extract 0 k).size ≤ _; rw [vsize l 0 k (by omega) (by omega)]; omega
    · show (l.extract (k + 1) l.size).size ≤ _; rw [vsize l (k + 1) l.size (by omega) (Nat.le_refl _)]; omega
theorem far1 {w : World} {N g i j : Nat} {v : Value} (h : g ≠ N) : (w.setCell ⟨N, i, none⟩ v).cell? ⟨g, j, none⟩ = w.cell? ⟨g, j, none⟩ := by
  unfold World.cell?
  rw [Below.heap_setCell _ _ _ _ (fun e => h e)]
theorem far5 {w : World} {N g j : Nat} {v0 v1 v2 v3 v4 : Value} (h : g ≠ N) : (((((w.setCell ⟨N, 0, none⟩ v0).setCell ⟨N, 1, none⟩ v1).setCell ⟨N, 2, none⟩ v2).setCell ⟨N, 3, none⟩ v3).setCell ⟨N, 4, none⟩ v4).cell? ⟨g, j, none⟩ = w.cell? ⟨g, j, none⟩ := by
  rw [far1 h, far1 h, far1 h, far1 h, far1 h]
theorem owns_sliceL {w : World} {lo sz n : Nat} {e : TypeId} {v : Value} {xs : List Value} (h : w.ownsRow lo e sz v n xs) : ∃ q c, v = .slice q n c := by
  rcases h.2 with ⟨rfl, h0⟩ | ⟨g, cap, cur, rfl, _⟩
  · exact ⟨none, 0, by rw [h0]⟩
  · exact ⟨_, cap, rfl⟩

set_option maxHeartbeats 8000000 in
set_option maxRecDepth 100000 in
theorem readPick_c (l : ByteArray) (hs : l.size ≤ 1048576) (w : World) :
    Calls Tryd.prog 47 #[.string l] w fun e w' => ∃ u, e = .returned (.tuple #[.agg #[.string (cutD l 64).1, .int .i64 (resN (cutD l 64).2.1 0), .int .i64 (resN (cutD l 64).2.1 1), .int .i64 (resN (cutD l 64).2.1 2), u], .bool (resOk (cutD l 64).2.1)]) ∧ w'.ownsRow w.heap.size 9 1 u (resP (cutD l 64).2.1).length (strsV (resP (cutD l 64).2.1)) ∧ Below w.heap.size w w' := by
  have HC : ∀ w1, Calls Tryd.prog 46 #[.string l, .string ⟨#[64]⟩] w1 fun e w' => e = .returned (.tuple #[.string (cutD l 64).1, .string (cutD l 64).2.1, .bool (cutD l 64).2.2]) ∧ Below w1.heap.size w1 w' := fun w1 => cut64_c l w1 hs
  obtain ⟨hn, ht⟩ := cutD_size l 64
  obtain ⟨⟨nm, tx, zz⟩, hx⟩ : ∃ p, p = cutD l 64 := ⟨_, rfl⟩
  rw [← hx] at HC hn ht ⊢
  dsimp only at HC hn ht ⊢
  have HP : ∀ w1, Calls Tryd.prog 66 #[.string tx] w1 fun e w' => ∃ q c, e = .returned (.tuple #[.agg #[.int .i64 (resN tx 0), .int .i64 (resN tx 1), .int .i64 (resN tx 2), .slice q (resP tx).length c], .bool (resOk tx)]) ∧ w'.ownsRow w1.heap.size 9 1 (.slice q (resP tx).length c) (resP tx).length (strsV (resP tx)) ∧ Below w1.heap.size w1 w' := fun w1 => (implParse_c tx (by omega) w1).mono fun e w' ⟨u, h1, h2, h3⟩ => by
    obtain ⟨q, c, rfl⟩ := owns_sliceL h2
    exact ⟨q, c, h1, h2, h3⟩
  have HK := hidden (fun w1 => clone_c nm w1 (by omega))
  obtain ⟨ra, hra⟩ : ∃ z, z = resN tx 0 := ⟨_, rfl⟩
  obtain ⟨rb, hrb⟩ : ∃ z, z = resN tx 1 := ⟨_, rfl⟩
  obtain ⟨rc, hrc⟩ : ∃ z, z = resN tx 2 := ⟨_, rfl⟩
  obtain ⟨rk, hrk⟩ : ∃ z, z = resOk tx := ⟨_, rfl⟩
  obtain ⟨rp, hrp⟩ : ∃ z, z = resP tx := ⟨_, rfl⟩
  simp only [← hra, ← hrb, ← hrc, ← hrk, ← hrp] at HP ⊢
  obtain ⟨un, hun⟩ : ∃ n, n = rp.length := ⟨_, rfl⟩
  rw [← hun] at HP ⊢
  replace HC := hidden HC
  replace HP := hidden HP
  clear hx hra hrb hrc hrk hrp hun hn ht hs
  go_enter Tryd.func47, Tryd.ntmps47
  go_wp2_with fail
  go_at_call 46
  refine (HC.out _).mono ?_
  rintro e w1 ⟨rfl, b1⟩
  have bx1 := boxAt b1
  have k1 : Below w.heap.size w w1 := ((Below.refl _ _).alloc (Nat.le_refl _) _).trans (b1.mono (by simp))
  have lt1 : w.heap.size < w1.heap.size := by have := b1.size; simp at this; omega
  clear b1 HC
  go_wp2_with fail
  go_at_call 66
  refine (HP.out _).mono ?_
  rintro e w2 ⟨uq, uc, rfl, ho, b2⟩
  have bx2 := box_below bx1 b2
  have k2 : Below w.heap.size w w2 := below_nextP k1 b2
  have lt2 : w.heap.size < w2.heap.size := Nat.lt_of_lt_of_le lt1 b2.size
  replace ho := owns_lo (lo' := w.heap.size + 1) lt1 ho
  clear b2 bx1 HP k1 lt1
  obtain ⟨O7, hO7⟩ : ∃ O, O = Obj.cells #[.int .i64 ra, .int .i64 rb, .int .i64 rc, .slice uq un uc] 40 := ⟨_, rfl⟩
  obtain ⟨W3, hW3⟩ : ∃ W, W = w2.alloc O7 := ⟨_, rfl⟩
  have b3 : Below w2.heap.size w2 W3 := by rw [hW3]; exact (Below.refl _ _).alloc (Nat.le_refl _) _
  have KEEP : Hid (∀ w', Below W3.heap.size W3 w' → w'.cell? ⟨w2.heap.size, 0, none⟩ = some (.int .i64 ra) ∧ w'.cell? ⟨w2.heap.size, 1, none⟩ = some (.int .i64 rb) ∧ w'.cell? ⟨w2.heap.size, 2, none⟩ = some (.int .i64 rc) ∧ w'.cell? ⟨w2.heap.size, 3, none⟩ = some (.slice uq un uc)) := fun w' h => by
    rw [hW3] at h
    have hx := boxAt h
    rw [hO7] at hx
    exact ⟨vblk_cell hx 0, vblk_cell hx 1, vblk_cell hx 2, vblk_cell hx 3⟩
  have BX : Hid (∀ w', Below W3.heap.size W3 w' → w'.heap[w.heap.size]? = some (.cells #[.string ⟨#[]⟩, .int .i64 0, .int .i64 0, .int .i64 0, .slice none 0 0] 42)) := fun w' h => box_below (box_below bx2 b3) h
  have hq0 : Below W3.heap.size W3 W3.drew := (Below.refl _ _).drew
  have FAR : Hid (∀ W : World, W.cell? ⟨w2.heap.size, 0, none⟩ = some (.int .i64 ra) ∧ W.cell? ⟨w2.heap.size, 1, none⟩ = some (.int .i64 rb) ∧ W.cell? ⟨w2.heap.size, 2, none⟩ = some (.int .i64 rc) ∧ W.cell? ⟨w2.heap.size, 3, none⟩ = some (.slice uq un uc) → (((((W.setCell ⟨w.heap.size, 0, none⟩ (.string nm)).setCell ⟨w.heap.size, 1, none⟩ (.int .i64 ra)).setCell ⟨w.heap.size, 2, none⟩ (.int .i64 rb)).setCell ⟨w.heap.size, 3, none⟩ (.int .i64 rc)).setCell ⟨w.heap.size, 4, none⟩ (.slice uq un uc)).cell? ⟨w2.heap.size, 0, none⟩ = some (.int .i64 ra) ∧ (((((W.setCell ⟨w.heap.size, 0, none⟩ (.string nm)).setCell ⟨w.heap.size, 1, none⟩ (.int .i64 ra)).setCell ⟨w.heap.size, 2, none⟩ (.int .i64 rb)).setCell ⟨w.heap.size, 3, none⟩ (.int .i64 rc)).setCell ⟨w.heap.size, 4, none⟩ (.slice uq un uc)).cell? ⟨w2.heap.size, 1, none⟩ = some (.int .i64 rb) ∧ (((((W.setCell ⟨w.heap.size, 0, none⟩ (.string nm)).setCell ⟨w.heap.size, 1, none⟩ (.int .i64 ra)).setCell ⟨w.heap.size, 2, none⟩ (.int .i64 rb)).setCell ⟨w.heap.size, 3, none⟩ (.int .i64 rc)).setCell ⟨w.heap.size, 4, none⟩ (.slice uq un uc)).cell? ⟨w2.heap.size, 2, none⟩ = some (.int .i64 rc) ∧ (((((W.setCell ⟨w.heap.size, 0, none⟩ (.string nm)).setCell ⟨w.heap.size, 1, none⟩ (.int .i64 ra)).setCell ⟨w.heap.size, 2, none⟩ (.int .i64 rb)).setCell ⟨w.heap.size, 3, none⟩ (.int .i64 rc)).setCell ⟨w.heap.size, 4, none⟩ (.slice uq un uc)).cell? ⟨w2.heap.size, 3, none⟩ = some (.slice uq un uc)) := fun W h => by
    obtain ⟨h0, h1, h2, h3⟩ := h
    have hne : w2.heap.size ≠ w.heap.size := by omega
    exact ⟨(far5 hne).trans h0, (far5 hne).trans h1, (far5 hne).trans h2, (far5 hne).trans h3⟩
  have HS3 : Hid (w2.heap.size < W3.heap.size) := by show _ < _; rw [hW3]; simp
  have HO7 := hidden hO7
  have HW3 := hidden hW3
  clear hO7 hW3 bx2
  go_wp2_with fail
  rw [← HO7.out, ← HW3.out]
  clear HO7 HW3
  refine wp_region_held_drew (S := (fun w' => w'.cell? ⟨w2.heap.size, 0, none⟩ = some (.int .i64 ra) ∧ w'.cell? ⟨w2.heap.size, 1, none⟩ = some (.int .i64 rb) ∧ w'.cell? ⟨w2.heap.size, 2, none⟩ = some (.int .i64 rc) ∧ w'.cell? ⟨w2.heap.size, 3, none⟩ = some (.slice uq un uc))) (by kernel_rfl) ?SR10 (fun hHeld => ?_)
  case SR10 => (exact KEEP.out _ hq0)
  refine wpAnyH_take (i := 0) (oi := _) (v := ?vR10) rfl (by kernel_rfl) (by kernel_rfl) (by kernel_rfl) (fun _ _ _ h => h) (Or.inl ⟨by rfl, ?yR10⟩) hHeld ?_
  case yR10 => (intro w hSw; (try dsimp only at hSw); go_simp <;> with_reducible rfl)
  try simp only [Act.put, List.getElem_toArray, List.getElem_cons_zero, List.getElem_cons_succ, List.setIfInBounds_toArray, List.set_cons_zero, List.set_cons_succ]
  refine wpAnyH_take (i := 2) (oi := _) (v := ?vR11) rfl (by kernel_rfl) (by kernel_rfl) (by kernel_rfl) (fun _ _ _ h => h) (Or.inl ⟨by rfl, ?yR11⟩) hHeld ?_
  case yR11 => (intro w hSw; (try dsimp only at hSw); go_simp <;> with_reducible rfl)
  try simp only [Act.put, List.getElem_toArray, List.getElem_cons_zero, List.getElem_cons_succ, List.setIfInBounds_toArray, List.set_cons_zero, List.set_cons_succ]
  refine wpAnyH_take (i := 4) (oi := _) (v := ?vR12) rfl (by kernel_rfl) (by kernel_rfl) (by kernel_rfl) (fun _ _ _ h => h) (Or.inl ⟨by rfl, ?yR12⟩) hHeld ?_
  case yR12 => (intro w hSw; (try dsimp only at hSw); go_simp <;> with_reducible rfl)
  try simp only [Act.put, List.getElem_toArray, List.getElem_cons_zero, List.getElem_cons_succ, List.setIfInBounds_toArray, List.set_cons_zero, List.set_cons_succ]
  refine wpAnyH_ready (rs := [1]) (by kernel_rfl) (by simp) ?_
  refine AllReadyH.cons rfl (fun K hK => ?_) AllReadyH.nil
  go_simp
  go_wp2_with fail
  go_at_call 67
  refine (HK.out _).mono ?_
  rintro e w4 ⟨rfl, b4⟩
  have hq4 : Below W3.heap.size W3 w4 := (Below.refl _ _).drew.trans b4
  have x7 := KEEP.out _ hq4
  have k24 : Below w2.heap.size w2 w4 := below_nextP b3 hq4
  have h04 := BX.out _ hq4
  have f4 := vblk_frozen h04
  have c0 := vblk_cell h04 0
  have c1 := vblk_cell h04 1
  have c2 := vblk_cell h04 2
  have c3 := vblk_cell h04 3
  have c4 := vblk_cell h04 4
  simp only [List.getElem?_toArray, List.getElem?_cons_succ, List.getElem?_cons_zero] at c0 c1 c2 c3 c4
  go_wp2_with fail
  clear hHeld
  refine hK.out _ _ ?SR1_3 (fun hHeld => ?_)
  case SR1_3 => ((try dsimp only); exact x7)
  clear hK K
  refine wpAnyH_take (i := 3) (oi := _) (v := ?vR14) rfl (by kernel_rfl) (by kernel_rfl) (by kernel_rfl) (fun _ _ _ h => h) (Or.inl ⟨by rfl, ?yR14⟩) hHeld ?_
  case yR14 => (intro w hSw; (try dsimp only at hSw); go_simp <;> with_reducible rfl)
  try simp only [Act.put, List.getElem_toArray, List.getElem_cons_zero, List.getElem_cons_succ, List.setIfInBounds_toArray, List.set_cons_zero, List.set_cons_succ]
  refine wpAnyH_ready (rs := [5]) (by kernel_rfl) (by simp) ?_
  refine AllReadyH.cons rfl (fun K hK => ?_) AllReadyH.nil
  have f40 := f4 0
  have f41 := f4 1
  have f42 := f4 2
  have f43 := f4 3
  have f44 := f4 4
  go_simp
  clear hHeld
  refine hK.out _ _ ?SR1_5 (fun hHeld => ?_)
  case SR1_5 => ((try dsimp only); exact FAR.out _ x7)
  clear hK K
  refine wpAnyH_take (i := 6) (oi := _) (v := ?vR16) rfl (by kernel_rfl) (by kernel_rfl) (by kernel_rfl) (fun _ _ _ h => h) (Or.inl ⟨by rfl, ?yR16⟩) hHeld ?_
  case yR16 => (intro w hSw; (try dsimp only at hSw); go_simp <;> with_reducible rfl)
  try simp only [Act.put, List.getElem_toArray, List.getElem_cons_zero, List.getElem_cons_succ, List.setIfInBounds_toArray, List.set_cons_zero, List.set_cons_succ]
  refine wpAnyH_done (by kernel_rfl) ?_ _
  go_wp2_with fail
  refine bodyPost_ret (v := .tuple #[.agg #[.string nm, .int .i64 ra, .int .i64 rb, .int .i64 rc, .slice uq un uc], .bool rk]) (by simp [results, Tryd.results47, go_sem, c0, c1, c2, c3, c4]) rfl ⟨.slice uq un uc, rfl, ?_, ?_⟩
  · have h4 := owns_of_below ho k24
    have h5 := owns_set (owns_set (owns_set (owns_set (owns_set h4 (p := ⟨w.heap.size, 0, none⟩) (by simp) (.string nm)) (p := ⟨w.heap.size, 1, none⟩) (by simp) (.int .i64 ra)) (p := ⟨w.heap.size, 2, none⟩) (by simp) (.int .i64 rb)) (p := ⟨w.heap.size, 3, none⟩) (by simp) (.int .i64 rc)) (p := ⟨w.heap.size, 4, none⟩) (by simp) (.slice uq un uc)
    exact owns_lower h5 (by omega)
  · exact (((((below_nextP k2 k24).setCell (Nat.le_refl _) _).setCell (Nat.le_refl _) _).setCell (Nat.le_refl _) _).setCell (Nat.le_refl _) _).setCell (Nat.le_refl _) _
end Go.Proofs.YthmilkcghfaecaaDoor

/-! Copies in memory of their own, as the law makes them: contracts for the walks; condition: what is copied holds at most 2 to the 20. -/
namespace Go.Proofs.YthmilkcghfaecaaDoor
open Go.RowKit
set_option linter.unusedSimpArgs false
set_option linter.unusedVariables false

set_option maxHeartbeats 2000000 in
set_option maxRecDepth 100000 in
theorem toPick_c (S : Nat → Prop) (d : PickD) (cs : List Value) (w : World) (hd : shPick.lies S w cs d) (hB : ∀ b, S b → b < w.heap.size) (hw : wtPick d ≤ 1048576) :
    Calls Tryd.prog 17 #[.agg cs.toArray] w fun e w' => ∃ cs', e = .returned (.agg cs'.toArray) ∧ shPickO.lies (Ow w.heap.size w'.heap.size) w' cs' d ∧ Below w.heap.size w w' := by
  obtain ⟨u0, rfl, s_name, r0, p0⟩ := hd
  have hb3 : ∀ A R O, Below w.heap.size w (((w.alloc A).alloc R).alloc O) := fun A R O => (((Below.refl _ _).alloc (Nat.le_refl _) _).alloc (by simp) _).alloc (by simp; omega) _
  unfold wtPick at hw
  have HS0 : Hid (∀ w1, Below w.heap.size w w1 → Calls Tryd.prog 35 #[.agg #[.int .i64 d.vA, .int .i64 d.vB, .int .i64 d.vC, u0]] w1 fun e w' => ∃ g, e = .returned (.agg #[.int .i64 d.vA, .int .i64 d.vB, .int .i64 d.vC, .slice (some ⟨g, 0, none⟩) d.vP.length d.vP.length]) ∧ StrsOwn (Ow w1.heap.size w'.heap.size) w' (.slice (some ⟨g, 0, none⟩) d.vP.length d.vP.length) d.vP ∧ Below w1.heap.size w1 w') := fun w1 hb =>
    toVerO_c _ _ _ u0 d.vP w1 ((r0.keep (.of hb hB)).reads (fun b h => Nat.lt_of_lt_of_le (hB b h) hb.size)) (by unfold bulkS at hw; omega)
  obtain ⟨a0, cap0, eu0, _⟩ := id r0
  rw [length_strsV] at eu0
  subst eu0
  clear r0
  go_enter Tryd.func17, Tryd.ntmps17
  go_wp2_with fail
  go_at_call 35
  refine (HS0.out _ (hb3 _ _ _)).mono ?_
  rintro e w1 ⟨g1, rfl, R0, b1⟩
  obtain ⟨hA1, hR1, hO1⟩ := vthree b1
  have s3 : ∀ A R O, (((w.alloc A).alloc R).alloc O).heap.size = w.heap.size + 1 + 1 + 1 := fun A R O => by simp
  rw [s3] at b1 R0
  have m1 : w.heap.size + 3 ≤ w1.heap.size := by have := b1.size; rw [s3] at this; omega
  have kw1 : Below w.heap.size w w1 := (hb3 _ _ _).trans (b1.mono (by omega))
  replace R0 := R0.mono (S' := Ow (w.heap.size + 3) w1.heap.size) (Ow.mono (by omega) (Nat.le_refl _))
  have m1' : w.heap.size + 3 ≤ w1.heap.size := by omega
  have o0 := vblk_cell hO1 0
  have q0 := vblk_cell hR1 0
  have y0 := vblk_cell hA1 0
  have o1 := vblk_cell hO1 1
  have q1 := vblk_cell hR1 1
  have y1 := vblk_cell hA1 1
  have o2 := vblk_cell hO1 2
  have q2 := vblk_cell hR1 2
  have y2 := vblk_cell hA1 2
  have o3 := vblk_cell hO1 3
  have q3 := vblk_cell hR1 3
  have y3 := vblk_cell hA1 3
  have o4 := vblk_cell hO1 4
  have q4 := vblk_cell hR1 4
  have y4 := vblk_cell hA1 4
  have fo := vblk_frozen hO1
  have fr := vblk_frozen hR1
  simp only [List.getElem?_toArray, List.getElem?_cons_succ, List.getElem?_cons_zero, List.setIfInBounds_toArray, List.set_cons_succ, List.set_cons_zero] at o0 q0 y0 o1 q1 y1 o2 q2 y2 o3 q3 y3 o4 q4 y4
  go_wp2_with fail
  refine bodyPost_ret (v := .agg #[.string d.name, .int .i64 d.vA, .int .i64 d.vB, .int .i64 d.vC, .slice (some ⟨g1, 0, none⟩) d.vP.length d.vP.length]) (by simp [results, Tryd.results17, go_sem, o0, q0, o1, q1, o2, q2, o3, q3, o4, q4]) rfl ⟨[.string d.name, .int .i64 d.vA, .int .i64 d.vB, .int .i64 d.vC, .slice (some ⟨g1, 0, none⟩) d.vP.length d.vP.length], rfl, ?_, ?_⟩
  · have hS : ∀ {W : World}, w1.heap.size ≤ W.heap.size → ∀ b, Ow (w.heap.size + 3) w1.heap.size b → Ow w.heap.size W.heap.size b := fun h => Ow.mono (by omega) h
    refine ⟨_, rfl, s_name, (R0.keep ?_).mono (hS ?_), p0⟩
    all_goals first
      | (simp [World.setCell]; done)
      | ((repeat (refine Kp.trans ?_ (Kp.set (Ow.not (by omega))))); exact fun b hb => rfl)
  · refine ?_
    (repeat (refine Below.setCell ?_ (by simp <;> omega) _))
    exact kw1

set_option maxHeartbeats 2000000 in
set_option maxRecDepth 100000 in
theorem infoPick : (Tryd.prog.info? 42).map (fun i => (i.zero, i.size, i.bytes)) = some (some (.agg #[.string ⟨#[]⟩, .int .i64 0, .int .i64 0, .int .i64 0, .slice none 0 0]), 5, 64) := by kernel_rfl
set_option maxHeartbeats 2000000 in
set_option maxRecDepth 100000 in
theorem toPickS_c (S : Nat → Prop) (v : Value) (xs : List PickD) (w : World) (hv : RowIn shPick S w v xs) (hB : ∀ b, S b → b < w.heap.size) (hw : wtRow wtPick xs ≤ 1048576) :
    Calls Tryd.prog 7 #[v] w fun e w' => ∃ g, e = .returned (.slice (some ⟨g, 0, none⟩) xs.length xs.length) ∧ RowOwn shPickO 42 (Ow w.heap.size w'.heap.size) w' (.slice (some ⟨g, 0, none⟩) xs.length xs.length) xs ∧ Below w.heap.size w w' := by
  obtain ⟨a, cap, rfl, hl, hc, ha⟩ := hv
  have hn := len_wtRow wtPick xs
  have hlm : xs.length ≤ maxLen := hl
  unfold maxLen at hl
  obtain ⟨i0, hi, hz0, hz1, hz2⟩ := info_parts infoPick
  go_enter Tryd.func7, Tryd.ntmps7
  go_wp2_with (first
    | (at_make; refine wpList_make_full _ rfl _ _ 25 rfl w.heap.size 42 i0 _ 5 Tryd.underlying25 hi hz0 hz1 _ _ _ _ xs.length rfl rfl rfl rfl (by rw [hz2]; omega) (by unfold maxLen; omega) (Nat.le_refl _) ?_))
  intro w1 hown hgrow
  have hb1 := below_of_grown hgrow
  have hs1 : w.heap.size + 1 ≤ w1.heap.size := by
    rcases hown.2 with ⟨h, _⟩ | ⟨g, cap, cur, h, _, hg, _⟩
    · simp at h
    · simp at h
      have := (Array.getElem?_eq_some_iff.1 hg).1
      omega
  obtain ⟨ys1, hown1⟩ : ∃ ys, w1.ownsRow w.heap.size 42 5 (.slice (some ⟨w.heap.size, 0, none⟩) xs.length xs.length) xs.length ys := ⟨_, hown⟩
  clear hgrow hown
  go_wp2_with fail
  go_loopw [4] (fun vi wr => ∃ (k : Nat) (ys : List Value), k ≤ xs.length ∧ vi = .int .i64 (k : Int) ∧ wr.ownsRow w.heap.size 42 5 (.slice (some ⟨w.heap.size, 0, none⟩) xs.length xs.length) xs.length ys ∧ Hid (Laid shPickO (Ow (w.heap.size + 1) wr.heap.size) wr ys xs k) ∧ Below w.heap.size w wr ∧ w.heap.size + 1 ≤ wr.heap.size) (fun vi _ => xs.length - (intOf vi).toNat)
  case atStart => exact ⟨0, ys1, Nat.zero_le _, rfl, hown1, (fun i h h0 => by omega), hb1, hs1⟩
  case round =>
    obtain ⟨k, ys, hk, rfl, hownr, hy, hbr, hsr⟩ := hrel
    by_cases hlt' : k < xs.length
    · rcases ha with rfl | ⟨b, off, rfl, hlt, ha⟩
      · simp at hlt'
      obtain ⟨cs, hL, hcell⟩ := ha k hlt'
      have hL2 := shPick.keep (.of hbr hB) hL
      have hcell2 := hcell.keep (.of hbr hB) hlt
      have hBr : ∀ b, S b → b < wr.heap.size := fun b h => Nat.lt_of_lt_of_le (hB b h) hbr.size
      have hwt : wtPick xs[k] ≤ 1048576 := by have := wt_wtRow wtPick (List.getElem_mem hlt'); omega
      have hown2 : ∀ w2, Below wr.heap.size wr w2 → w2.ownsRow w.heap.size 42 5 (.slice (some ⟨w.heap.size, 0, none⟩) xs.length xs.length) xs.length ys := fun w2 h2 => hownr.kept (grown_of_below h2 none) (by simp [Value.ownBlock])
      have hlen := hownr.1
      have HC : Hid (∀ w2, Below wr.heap.size wr w2 → ∀ j, j < 5 → ∃ x, w2.cell? ⟨w.heap.size, k * 5 + j, none⟩ = some x) := fun w2 h2 j hj => ⟨ys.getD (k * 5 + j) undef, by rw [(hown2 w2 h2).cellAt _ (by omega)]; simp [List.getD_eq_getElem?_getD, show k * 5 + j < ys.length by omega]⟩
      have HF : Hid (∀ w2, Below wr.heap.size wr w2 → ∀ j, w2.frozen? ⟨w.heap.size, j, none⟩ = false) := fun w2 h2 j => (hown2 w2 h2).frozenAt j
      have HO : Hid (∀ w2, Below wr.heap.size wr w2 → w2.ownsRow w.heap.size 42 5 (.slice (some ⟨w.heap.size, 0, none⟩) xs.length xs.length) xs.length ys) := hown2
      have HST : Hid (∀ w2 cs, Below wr.heap.size wr w2 → cs.length = 5 → shPickO.lies (Ow (w.heap.size + 1) w2.heap.size) w2 cs xs[k] → Laid shPickO (Ow (w.heap.size + 1) (setW w2 w.heap.size (k * 5) cs).heap.size) (setW w2 w.heap.size (k * 5) cs) (putL ys (k * 5) cs) xs (k + 1)) := fun w2 cs h2 hc hr => hy.out.step (sh := shPickO) hlt' hlen h2 (by omega) hc hr
      obtain ⟨d, hd⟩ : ∃ d, d = xs[k] := ⟨_, rfl⟩
      rw [← hd] at hL2 hwt HST
      have HC1 := toPick_c S d cs wr hL2 hBr hwt
      clear ha hL hcell hd hown2 hi hz0 hz1 hz2 hown1 hb1 hlen hwt
      obtain ⟨u0, rfl, s_name, r0, p0⟩ := hL2
      clear s_name p0
      obtain ⟨a0, cap0, eu0, _⟩ := id r0
      rw [length_strsV] at eu0
      subst eu0
      clear r0
      have e0 : wr.cell? ⟨b, off + k * 5, none⟩ = some (.string d.name) := hcell2 0 (by simp)
      have e1 : wr.cell? ⟨b, off + k * 5 + 1, none⟩ = some (.int .i64 d.vA) := hcell2 1 (by simp)
      have e2 : wr.cell? ⟨b, off + k * 5 + 2, none⟩ = some (.int .i64 d.vB) := hcell2 2 (by simp)
      have e3 : wr.cell? ⟨b, off + k * 5 + 3, none⟩ = some (.int .i64 d.vC) := hcell2 3 (by simp)
      have e4 : wr.cell? ⟨b, off + k * 5 + 4, none⟩ = some (.slice a0 d.vP.length cap0) := hcell2 4 (by simp)
      have HC2 := hidden HC1
      have hki : (k : Int) < (xs.length : Int) := by omega
      clear hcell2 HC1
      go_wp2_with (go_at_call 17; refine HC2.out.mono ?_; rintro e w2 ⟨cs, rfl, hX, hb2⟩; have HX := hidden (HST.out w2 cs hb2 (by have h := hX; obtain ⟨u0, h9, s_name, r0, p0⟩ := h; rw [h9]; rfl) (shPickO.mono (Ow.mono hsr (Nat.le_refl _)) hX)); obtain ⟨u0, rfl, s_name, z0, p0⟩ := hX; obtain ⟨b0, bap0, ev0⟩ := z0.slice; subst ev0; obtain ⟨y0, d0⟩ := HC.out w2 hb2 0 (by omega); obtain ⟨y1, d1⟩ := HC.out w2 hb2 1 (by omega); obtain ⟨y2, d2⟩ := HC.out w2 hb2 2 (by omega); obtain ⟨y3, d3⟩ := HC.out w2 hb2 3 (by omega); obtain ⟨y4, d4⟩ := HC.out w2 hb2 4 (by omega); rw [Nat.add_zero] at d0; have f9 := HF.out w2 hb2)
      go_roundw
      case rel =>
        refine ⟨k + 1, _, by omega, by go_num, setW_owns [.string d.name, .int .i64 d.vA, .int .i64 d.vB, .int .i64 d.vC, .slice b0 d.vP.length bap0] w2 ys (k * 5) (HO.out w2 hb2), HX.out, setW_below (Nat.le_refl _) [.string d.name, .int .i64 d.vA, .int .i64 d.vB, .int .i64 d.vC, .slice b0 d.vP.length bap0] w2 w (k * 5) (hbr.trans (hb2.mono hbr.size)), ?_⟩
        have h9 := setW_size [.string d.name, .int .i64 d.vA, .int .i64 d.vB, .int .i64 d.vC, .slice b0 d.vP.length bap0] w2 w.heap.size (k * 5)
        have := hb2.size
        exact Nat.le_trans (show w.heap.size + 1 ≤ w2.heap.size by omega) (Nat.le_of_eq h9.symm)
      case measure => simp [intOf]; omega
    · have he : k = xs.length := by omega
      subst he
      clear ha
      go_wp2_with fail
      go_ret
      exact ⟨_, rfl, rowOwn_of hownr hlm hy.out, hbr⟩

end Go.Proofs.YthmilkcghfaecaaDoor

/-! Copies of packs, and of rows of them, in memory of their own, as the law makes them: contracts for the walks; condition: what is copied holds at most 2 to the 20. -/
namespace Go.Proofs.YthmilkcghfaecaaDoor
open Go.RowKit
set_option linter.unusedSimpArgs false
set_option linter.unusedVariables false

end Go.Proofs.YthmilkcghfaecaaDoor

/-! A value as a tree, how much it holds, and what it means that it lies in memory below a block number; no condition but those told. -/
namespace Go.Proofs.YthmilkcghfaecaaDoor
open Go.RowKit
set_option linter.unusedSimpArgs false
set_option linter.unusedVariables false

inductive Tree where
  | mk (k n : Int) (s : ByteArray) (l : List Tree) (keys : List ByteArray) : Tree

theorem Tree.ind {P : Tree → Prop} (h : ∀ k n s l ks, (∀ U ∈ l, P U) → P (.mk k n s l ks)) : ∀ T, P T
  | .mk k n s l ks => h k n s l ks (fun U _ => Tree.ind h U)
  termination_by T => SizeOf.sizeOf T
  decreasing_by
    rename_i hU
    have := List.sizeOf_lt_of_mem hU
    simp
    omega

mutual
def Tree.wt : Tree → Nat
  | .mk _ _ s l ks => s.size + (wtL l + bulkS ks)
def wtL : List Tree → Nat
  | [] => 0
  | t :: r => 1 + t.wt + wtL r
end

theorem wtL_append (a b : List Tree) : wtL (a ++ b) = wtL a + wtL b := by
  induction a with
  | nil => simp [wtL]
  | cons t r ih => simp only [List.cons_append, wtL, ih]; omega

theorem wtL_take_succ (l : List Tree) (k : Nat) (h : k < l.length) : wtL (l.take (k + 1)) = wtL (l.take k) + 1 + (l[k]).wt := by
  rw [List.take_succ_eq_append_getElem h, wtL_append]
  simp [wtL]; omega

theorem wtL_take_le (l : List Tree) (k : Nat) : wtL (l.take k) ≤ wtL l := by
  conv => rhs; rw [← List.take_append_drop k l, wtL_append]
  omega

theorem length_le_wtL (l : List Tree) : l.length ≤ wtL l := by
  induction l with
  | nil => simp
  | cons t r ih => simp only [List.length_cons, wtL]; omega

theorem wtL_take_rest (l : List Tree) (k : Nat) : wtL (l.take k) + (l.length - k) ≤ wtL l := by
  conv => rhs; rw [← List.take_append_drop k l, wtL_append]
  have := length_le_wtL (l.drop k)
  simp at this
  omega

theorem wt_le_wtL {l : List Tree} {U : Tree} (h : U ∈ l) : U.wt + 1 ≤ wtL l := by
  induction l with
  | nil => simp at h
  | cons t r ih =>
    simp only [List.mem_cons] at h
    simp only [wtL]
    rcases h with rfl | h
    · omega
    · have := ih h; omega

/-- In blocks of S the world w' is as w was. -/
def KeptIn (S : Nat → Prop) (w w' : World) : Prop := ∀ b, S b → w'.heap[b]? = w.heap[b]?
theorem KeptIn.cell {S : Nat → Prop} {w w' : World} (h : KeptIn S w w') {b : Nat} (hb : S b) (o : Nat) : w'.cell? ⟨b, o, none⟩ = w.cell? ⟨b, o, none⟩ := World.cell?_of_block (w := w) (h b hb)
theorem KeptIn.trans {S : Nat → Prop} {a b c : World} (h : KeptIn S a b) (k : KeptIn S b c) : KeptIn S a c := fun i hi => (k i hi).trans (h i hi)
theorem KeptIn.of {S : Nat → Prop} {B : Nat} {w w' : World} (hb : Below B w w') (hS : ∀ b, S b → b < B) : KeptIn S w w' := fun b h => hb.block b (hS b h)

/-- A list of texts that lies in blocks of S. -/
def ReadsB (S : Nat → Prop) (w : World) (v : Value) (xs : List Value) : Prop :=
  ∃ a cap, v = .slice a xs.length cap ∧ xs.length ≤ cap ∧ (xs = [] ∨ ∃ b off, a = some ⟨b, off, none⟩ ∧ S b ∧ ∀ k (h : k < xs.length), w.cell? ⟨b, off + k, none⟩ = some xs[k])

theorem ReadsB.reads {S : Nat → Prop} {w : World} {v : Value} {xs : List Value} (h : ReadsB S w v xs) (hS : ∀ b, S b → b < w.heap.size) : Reads w v xs := by
  obtain ⟨a, cap, hv, hc, h⟩ := h
  refine ⟨a, cap, hv, hc, ?_⟩
  rcases h with h | ⟨b, off, ha, hb, h⟩
  · exact .inl h
  · exact .inr ⟨b, off, ha, hS b hb, h⟩

theorem ReadsB.of {w : World} {v : Value} {xs : List Value} (h : Reads w v xs) : ReadsB (· < w.heap.size) w v xs := h

theorem ReadsB.keep {S : Nat → Prop} {w w' : World} {v : Value} {xs : List Value} (hb : KeptIn S w w') (h : ReadsB S w v xs) : ReadsB S w' v xs := by
  obtain ⟨a, cap, hv, hc, h⟩ := h
  refine ⟨a, cap, hv, hc, ?_⟩
  rcases h with h | ⟨b, off, ha, hlt, h⟩
  · exact .inl h
  · exact .inr ⟨b, off, ha, hlt, fun k hk => (hb.cell hlt _).trans (h k hk)⟩

theorem ReadsB.mono {S S' : Nat → Prop} {w : World} {v : Value} {xs : List Value} (hB : ∀ b, S b → S' b) (h : ReadsB S w v xs) : ReadsB S' w v xs := by
  obtain ⟨a, cap, hv, hc, h⟩ := h
  refine ⟨a, cap, hv, hc, ?_⟩
  rcases h with h | ⟨b, off, ha, hlt, h⟩
  · exact .inl h
  · exact .inr ⟨b, off, ha, hB b hlt, h⟩

def saneS (ks : List ByteArray) : Prop := ks.length ≤ maxLen ∧ ∀ s ∈ ks, s.size ≤ maxLen

/-- The value v is the tree T, all of whose memory lies in blocks of S. -/
inductive Lies (S : Nat → Prop) (w : World) : Value → Tree → Prop
  | mk (k n : Int) (s : ByteArray) (l : List Tree) (ks : List ByteArray) (a : Option Addr) (cap : Nat) (u : Value) (C : Nat → Nat → Value)
      (hs : s.size ≤ maxLen) (hl : l.length ≤ maxLen) (hk : saneS ks) (hc : l.length ≤ cap) (hu : ReadsB S w u (strsV ks))
      (ha : l = [] ∨ ∃ b off, a = some ⟨b, off, none⟩ ∧ S b ∧ ∀ i, i < l.length → ∀ j, j < 5 → w.cell? ⟨b, off + i * 5 + j, none⟩ = some (C i j))
      (hC : ∀ i (h : i < l.length), Lies S w (.agg #[C i 0, C i 1, C i 2, C i 3, C i 4]) l[i]) :
      Lies S w (.agg #[.int .i64 k, .int .i64 n, .string s, .slice a l.length cap, u]) (.mk k n s l ks)

/-- The list of values v is l. -/
def LiesL (S : Nat → Prop) (w : World) (v : Value) (l : List Tree) : Prop :=
  ∃ a cap, ∃ C : Nat → Nat → Value, v = .slice a l.length cap ∧ l.length ≤ maxLen ∧ l.length ≤ cap ∧
    (l = [] ∨ ∃ b off, a = some ⟨b, off, none⟩ ∧ S b ∧ ∀ i, i < l.length → ∀ j, j < 5 → w.cell? ⟨b, off + i * 5 + j, none⟩ = some (C i j)) ∧
    ∀ i (h : i < l.length), Lies S w (.agg #[C i 0, C i 1, C i 2, C i 3, C i 4]) l[i]

theorem Lies.out {S : Nat → Prop} {w : World} {v : Value} {k n : Int} {s : ByteArray} {l : List Tree} {ks : List ByteArray} (h : Lies S w v (.mk k n s l ks)) :
    ∃ c u, v = .agg #[.int .i64 k, .int .i64 n, .string s, c, u] ∧ s.size ≤ maxLen ∧ saneS ks ∧ LiesL S w c l ∧ ReadsB S w u (strsV ks) := by
  cases h with
  | mk k n s l ks a cap u C hs hl hk hc hu ha hC => exact ⟨_, u, rfl, hs, hk, ⟨a, cap, C, rfl, hl, hc, ha, hC⟩, hu⟩

theorem Lies.of {S : Nat → Prop} {w : World} {c u : Value} {k n : Int} {s : ByteArray} {l : List Tree} {ks : List ByteArray} (hs : s.size ≤ maxLen) (hk : saneS ks) (hl : LiesL S w c l) (hu : ReadsB S w u (strsV ks)) :
    Lies S w (.agg #[.int .i64 k, .int .i64 n, .string s, c, u]) (.mk k n s l ks) := by
  obtain ⟨a, cap, C, rfl, hl, hc, ha, hC⟩ := hl
  exact .mk k n s l ks a cap u C hs hl hk hc hu ha hC

theorem LiesL.mk_keep {S : Nat → Prop} {w w' : World} {v : Value} {l : List Tree} (hb : KeptIn S w w') (hi : ∀ U ∈ l, ∀ x, Lies S w x U → Lies S w' x U) (h : LiesL S w v l) : LiesL S w' v l := by
  obtain ⟨a, cap, C, rfl, hl, hc, ha, hC⟩ := h
  refine ⟨a, cap, C, rfl, hl, hc, ?_, fun i h => hi _ (List.getElem_mem h) _ (hC i h)⟩
  rcases ha with ha | ⟨b, off, ha, hlt, hcell⟩
  · exact .inl ha
  · exact .inr ⟨b, off, ha, hlt, fun i hi j hj => (hb.cell hlt _).trans (hcell i hi j hj)⟩

theorem Lies.keep {S : Nat → Prop} {w w' : World} (hb : KeptIn S w w') : ∀ {T : Tree} {v : Value}, Lies S w v T → Lies S w' v T := by
  have h := Tree.ind (P := fun T => ∀ v, Lies S w v T → Lies S w' v T) ?_
  · exact fun {T v} hx => h T v hx
  intro k n s l ks ih v h
  obtain ⟨c, u, rfl, hs, hk, hl, hu⟩ := h.out
  exact Lies.of hs hk (hl.mk_keep hb ih) (hu.keep hb)

theorem LiesL.keep {S : Nat → Prop} {w w' : World} {v : Value} {l : List Tree} (hb : KeptIn S w w') (h : LiesL S w v l) : LiesL S w' v l :=
  h.mk_keep hb fun U _ x hx => Lies.keep hb hx

theorem LiesL.mk_mono {S S' : Nat → Prop} {w : World} {v : Value} {l : List Tree} (hB : ∀ b, S b → S' b) (hi : ∀ U ∈ l, ∀ x, Lies S w x U → Lies S' w x U) (h : LiesL S w v l) : LiesL S' w v l := by
  obtain ⟨a, cap, C, rfl, hl, hc, ha, hC⟩ := h
  refine ⟨a, cap, C, rfl, hl, hc, ?_, fun i h => hi _ (List.getElem_mem h) _ (hC i h)⟩
  rcases ha with ha | ⟨b, off, ha, hlt, hcell⟩
  · exact .inl ha
  · exact .inr ⟨b, off, ha, hB b hlt, hcell⟩

theorem Lies.mono {S S' : Nat → Prop} {w : World} (hB : ∀ b, S b → S' b) : ∀ {T : Tree} {v : Value}, Lies S w v T → Lies S' w v T := by
  have h := Tree.ind (P := fun T => ∀ v, Lies S w v T → Lies S' w v T) ?_
  · exact fun {T v} hx => h T v hx
  intro k n s l ks ih v h
  obtain ⟨c, u, rfl, hs, hk, hl, hu⟩ := h.out
  exact Lies.of hs hk (hl.mk_mono hB ih) (hu.mono hB)

theorem LiesL.mono {S S' : Nat → Prop} {w : World} {v : Value} {l : List Tree} (hB : ∀ b, S b → S' b) (h : LiesL S w v l) : LiesL S' w v l :=
  h.mk_mono hB fun U _ x hx => Lies.mono hB hx

/-- What is at place i of a list of values: five cells, which are the tree there. -/
theorem LiesL.at {S : Nat → Prop} {w : World} {v : Value} {l : List Tree} (h : LiesL S w v l) :
    ∃ a cap, v = .slice a l.length cap ∧ l.length ≤ maxLen ∧ l.length ≤ cap ∧ (l = [] ∨ ∃ b off, a = some ⟨b, off, none⟩ ∧ S b ∧ ∀ i (h : i < l.length), ∃ c0 c1 c2 c3 c4,
      w.cell? ⟨b, off + i * 5, none⟩ = some c0 ∧ w.cell? ⟨b, off + i * 5 + 1, none⟩ = some c1 ∧ w.cell? ⟨b, off + i * 5 + 2, none⟩ = some c2 ∧ w.cell? ⟨b, off + i * 5 + 3, none⟩ = some c3 ∧ w.cell? ⟨b, off + i * 5 + 4, none⟩ = some c4 ∧
      Lies S w (.agg #[c0, c1, c2, c3, c4]) l[i]) := by
  obtain ⟨a, cap, C, rfl, hl, hc, ha, hC⟩ := h
  refine ⟨a, cap, rfl, hl, hc, ?_⟩
  rcases ha with ha | ⟨b, off, ha, hlt, hcell⟩
  · exact .inl ha
  · refine .inr ⟨b, off, ha, hlt, fun i hi => ⟨C i 0, C i 1, C i 2, C i 3, C i 4, ?_, ?_, ?_, ?_, ?_, hC i hi⟩⟩
    · simpa using hcell i hi 0 (by omega)
    · exact hcell i hi 1 (by omega)
    · exact hcell i hi 2 (by omega)
    · exact hcell i hi 3 (by omega)
    · exact hcell i hi 4 (by omega)

/-- A parameter that was put into a block of its own is still there behind a call. -/
theorem box5 {w w1 : World} {c0 c1 c2 c3 c4 : Value} {t : TypeId} (hb : Below (w.alloc (.cells #[c0, c1, c2, c3, c4] t)).heap.size (w.alloc (.cells #[c0, c1, c2, c3, c4] t)) w1) :
    w1.cell? ⟨w.heap.size, 0, none⟩ = some c0 ∧ w1.cell? ⟨w.heap.size, 1, none⟩ = some c1 ∧ w1.cell? ⟨w.heap.size, 2, none⟩ = some c2 ∧ w1.cell? ⟨w.heap.size, 3, none⟩ = some c3 ∧ w1.cell? ⟨w.heap.size, 4, none⟩ = some c4 := by
  have h : ∀ j, w1.cell? ⟨w.heap.size, j, none⟩ = (#[c0, c1, c2, c3, c4] : Array Value)[j]? := fun j => by
    rw [hb.cell (p := ⟨w.heap.size, j, none⟩) (by simp)]
    have e : (w.alloc (.cells #[c0, c1, c2, c3, c4] t)).heap[w.heap.size]? = some (.cells #[c0, c1, c2, c3, c4] t) := by show (w.heap.push _)[w.heap.size]? = _; simp
    simp only [World.cell?, e]; rfl
  exact ⟨h 0, h 1, h 2, h 3, h 4⟩

theorem heap_new (w : World) (o : Obj) : (w.alloc o).heap[w.heap.size]? = some o := by show (w.heap.push _)[w.heap.size]? = _; simp
theorem heap_old (w : World) (o : Obj) {b : Nat} (h : b < w.heap.size) : (w.alloc o).heap[b]? = w.heap[b]? := Below.heap_alloc w o b h
theorem three {w w1 : World} {A R O : Obj} (hb : Below (((w.alloc A).alloc R).alloc O).heap.size (((w.alloc A).alloc R).alloc O) w1) :
    w1.heap[w.heap.size]? = some A ∧ w1.heap[w.heap.size + 1]? = some R ∧ w1.heap[w.heap.size + 1 + 1]? = some O := by
  have s1 : (w.alloc A).heap.size = w.heap.size + 1 := by simp
  have s2 : ((w.alloc A).alloc R).heap.size = w.heap.size + 1 + 1 := by simp
  refine ⟨?_, ?_, ?_⟩
  · rw [hb.block _ (by simp; omega), heap_old _ _ (by simp; omega), heap_old _ _ (by simp), heap_new]
  · rw [hb.block _ (by simp), heap_old _ _ (by simp), ← s1, heap_new]
  · rw [hb.block _ (by simp), ← s2, heap_new]
theorem blk_cell {w : World} {b : Nat} {cs : Array Value} {t : TypeId} (h : w.heap[b]? = some (.cells cs t (0, 0))) (j : Nat) : w.cell? ⟨b, j, none⟩ = cs[j]? := cell_of_row w b j cs t (0, 0) h
theorem blk_frozen {w : World} {b : Nat} {cs : Array Value} {t : TypeId} (h : w.heap[b]? = some (.cells cs t (0, 0))) (j : Nat) : w.frozen? ⟨b, j, none⟩ = false := frozen_of_row w b j cs t h
theorem blk_set {w : World} {b : Nat} {cs : Array Value} {t : TypeId} (h : w.heap[b]? = some (.cells cs t (0, 0))) (j : Nat) (v : Value) : (w.setCell ⟨b, j, none⟩ v).heap[b]? = some (.cells (cs.setIfInBounds j v) t (0, 0)) := heap_setCell_same w b j cs t v h

#print axioms Lies.keep
end Go.Proofs.YthmilkcghfaecaaDoor

/-! How much a value holds, as the law's own helper reckons it: a contract for every value that lies in memory. -/
namespace Go.Proofs.YthmilkcghfaecaaDoor
open Go.RowKit
set_option linter.unusedSimpArgs false
set_option linter.unusedVariables false

set_option maxHeartbeats 1000000 in
set_option maxRecDepth 100000 in
theorem sizeStrsT_c (v : Value) (ss : List ByteArray) (w : World) (left : Int) (hl0 : 0 ≤ left) (hl1 : left ≤ 1048576) (hv : Reads w v (strsV ss)) (hn : ss.length ≤ maxLen) (hs : ∀ s ∈ ss, s.size ≤ maxLen) :
    Calls Tryd.prog 52 #[v, .int .i64 left] w fun e w' => e = .returned (.int .i64 (leftS ss left)) ∧ w = w' := by
  obtain ⟨a, cap, rfl, _, hc⟩ := reads_strs hv
  clear hv
  unfold maxLen at hn hs
  by_cases h0 : left < (ss.length : Int)
  · have hneg : left - (ss.length : Int) < 0 := by omega
    have e : leftS ss left = -1 := by rw [leftS, bulkS, if_neg (by omega)]
    rw [e]
    clear hc hs
    go_enter Tryd.func52, Tryd.ntmps52
    go_wp2
    go_ret
    exact ⟨rfl, rfl⟩
  · have hpos : ¬ (left - (ss.length : Int) < 0) := by omega
    rcases hc with rfl | ⟨b, off, rfl, hlt, hc⟩
    · go_enter Tryd.func52, Tryd.ntmps52
      go_wp2
      go_loop [1, 5] (fun vl vi => vl = .int .i64 left ∧ vi = .int .i64 0) (fun _ _ => 0)
      case atStart => exact ⟨rfl, rfl⟩
      case round =>
        obtain ⟨rfl, rfl⟩ := hrel
        go_wp2
        go_ret
        exact ⟨by rw [show leftS [] left = left by simp [leftS, bulkS, hl0]]; rfl, rfl⟩
    · go_enter Tryd.func52, Tryd.ntmps52
      go_wp2
      go_loop [1, 5] (fun vl vi => ∃ (k : Nat) (l : Int), k ≤ ss.length ∧ vi = .int .i64 (k : Int) ∧ vl = .int .i64 l ∧ 0 ≤ l ∧ l ≤ 1048576 ∧ Hid (l = left - (ss.length : Int) - (((ss.take k).map ByteArray.size).sum : Int))) (fun _ vi => ss.length - (intOf vi).toNat)
      case atStart => exact ⟨0, _, Nat.zero_le _, rfl, rfl, by omega, by omega, by show _ = _; simp⟩
      case round =>
        obtain ⟨k, l, hk, rfl, rfl, hq0, hq1, hl⟩ := hrel
        by_cases hlt' : k < ss.length
        · have hcx := hc k hlt'
          have hsk := hs ss[k] (List.getElem_mem hlt')
          have hsum := sum_take_succ ss k hlt'
          obtain ⟨t, ht⟩ : ∃ t, t = ss[k] := ⟨_, rfl⟩
          rw [← ht] at hcx hsk hsum
          have HS : Hid (((ss.take (k + 1)).map ByteArray.size).sum = ((ss.take k).map ByteArray.size).sum + t.size) := hsum
          have hki : (k : Int) < (ss.length : Int) := by omega
          clear hc hs ht hsum
          by_cases hneg : l - (t.size : Int) < 0
          · have e : leftS ss left = -1 := by
              have h1 := HS.out; have h2 := hl.out; have h3 := sum_take_le ss (k + 1)
              rw [leftS, bulkS, if_neg (by omega)]
            have HE : Hid (leftS ss left = -1) := e
            clear e
            go_wp2
            go_ret
            exact ⟨by rw [HE.out]; rfl, rfl⟩
          · go_wp2
            go_round
            case rel => exact ⟨k + 1, l - (t.size : Int), by omega, by go_num, rfl, by omega, by omega, (by show _ = _; rw [HS.out, hl.out]; omega)⟩
            case measure => simp [intOf]; omega
        · have he : k = ss.length := by omega
          subst he
          have e : leftS ss left = l := by
            have h2 := hl.out
            rw [List.take_length] at h2
            rw [leftS, bulkS, if_pos (by omega)]; omega
          have HE : Hid (leftS ss left = l) := e
          clear hc hs e
          go_wp2
          go_ret
          exact ⟨by rw [HE.out]; rfl, rfl⟩
def leftN (n : Nat) (left : Int) : Int := if (n : Int) ≤ left then left - (n : Int) else -1
theorem leftN_bad {n : Nat} {left : Int} (h : left < (n : Int)) : leftN n left = -1 := by unfold leftN; rw [if_neg (by omega)]
theorem leftN_good {n : Nat} {left : Int} (h : (n : Int) ≤ left) : leftN n left = left - (n : Int) := by unfold leftN; rw [if_pos h]
theorem leftS_N (ks : List ByteArray) (left : Int) : leftS ks left = leftN (bulkS ks) left := rfl
theorem wt_mk (k n : Int) (s : ByteArray) (l : List Tree) (ks : List ByteArray) : (Tree.mk k n s l ks).wt = s.size + (wtL l + bulkS ks) := by rw [Tree.wt]

end Go.Proofs.YthmilkcghfaecaaDoor

/-! A value copied into memory of its own, as the law's helper does it: a contract for every value that lies in memory and holds at most 2 to the 20. -/
namespace Go.Proofs.YthmilkcghfaecaaDoor
open Go.RowKit
set_option linter.unusedSimpArgs false
set_option linter.unusedVariables false

/-- The blocks from lo on, below hi. -/
def Own (lo hi : Nat) (b : Nat) : Prop := lo ≤ b ∧ b < hi
theorem Own.set {lo hi : Nat} {w : World} {g j : Nat} {v : Value} (h : g < lo) : KeptIn (Own lo hi) w (w.setCell ⟨g, j, none⟩ v) := fun b hb => Below.heap_setCell w ⟨g, j, none⟩ v b (by have := hb.1; simp; omega)
theorem Own.below {lo : Nat} {w w' : World} (h : Below w.heap.size w w') : KeptIn (Own lo w.heap.size) w w' := fun b hb => h.block b hb.2
theorem Own.mono {lo lo' hi hi' : Nat} (h1 : lo' ≤ lo) (h2 : hi ≤ hi') : ∀ b, Own lo hi b → Own lo' hi' b := fun b h => ⟨Nat.le_trans h1 h.1, Nat.lt_of_lt_of_le h.2 h2⟩

theorem readsB_of_owns {w : World} {base : Nat} {e : TypeId} {v : Value} {n : Nat} {xs : List Value} (h : w.ownsRow base e 1 v n xs) : ReadsB (Own base w.heap.size) w v xs := by
  have h0 := reads_of_owns h
  obtain ⟨a, cap, hv, hc, hx⟩ := h0
  refine ⟨a, cap, hv, hc, ?_⟩
  rcases hx with hx | ⟨b, off, rfl, hlt, hx⟩
  · exact .inl hx
  · refine .inr ⟨b, off, rfl, ⟨?_, hlt⟩, hx⟩
    rcases h.2 with ⟨hn, _⟩ | ⟨g, cap', cur, hv', hg, _⟩
    · rw [hn] at hv; simp at hv
    · rw [hv'] at hv
      simp only [Value.slice.injEq, Option.some.injEq, Addr.mk.injEq] at hv
      omega

theorem toVal_facts {w1 w2 : World} {N : Nat} {t t' : TypeId} {x o0 o1 o2 o3 o4 r0 r1 r2 r3 r4 : Value} (hR : w1.heap[N + 1]? = some (.cells #[r0, r1, r2, r3, r4] t)) (hO : w1.heap[N + 1 + 1]? = some (.cells #[o0, o1, o2, o3, o4] t'))
    (hb : Below (w1.setCell ⟨N + 1 + 1, 3, none⟩ x).heap.size (w1.setCell ⟨N + 1 + 1, 3, none⟩ x) w2) :
    (w2.cell? ⟨N + 1 + 1, 0, none⟩ = some o0 ∧ w2.cell? ⟨N + 1 + 1, 1, none⟩ = some o1 ∧ w2.cell? ⟨N + 1 + 1, 2, none⟩ = some o2 ∧ w2.cell? ⟨N + 1 + 1, 3, none⟩ = some x ∧ w2.cell? ⟨N + 1 + 1, 4, none⟩ = some o4) ∧
    (w2.cell? ⟨N + 1, 0, none⟩ = some r0 ∧ w2.cell? ⟨N + 1, 1, none⟩ = some r1 ∧ w2.cell? ⟨N + 1, 2, none⟩ = some r2 ∧ w2.cell? ⟨N + 1, 3, none⟩ = some r3 ∧ w2.cell? ⟨N + 1, 4, none⟩ = some r4) ∧
    (∀ j, w2.frozen? ⟨N + 1 + 1, j, none⟩ = false) ∧ (∀ j, w2.frozen? ⟨N + 1, j, none⟩ = false) := by
  have l1 : N + 1 < w1.heap.size := (Array.getElem?_eq_some_iff.1 hR).1
  have l2 : N + 1 + 1 < w1.heap.size := (Array.getElem?_eq_some_iff.1 hO).1
  have s1 : (w1.setCell ⟨N + 1 + 1, 3, none⟩ x).heap.size = w1.heap.size := by simp [World.setCell]
  have eO := blk_set hO 3 x
  have eR : (w1.setCell ⟨N + 1 + 1, 3, none⟩ x).heap[N + 1]? = _ := (Below.heap_setCell w1 ⟨N + 1 + 1, 3, none⟩ x (N + 1) (by simp)).trans hR
  rw [← hb.block _ (by rw [s1]; exact l2)] at eO
  rw [← hb.block _ (by rw [s1]; exact l1)] at eR
  exact ⟨⟨blk_cell eO 0, blk_cell eO 1, blk_cell eO 2, blk_cell eO 3, blk_cell eO 4⟩, ⟨blk_cell eR 0, blk_cell eR 1, blk_cell eR 2, blk_cell eR 3, blk_cell eR 4⟩, blk_frozen eO, blk_frozen eR⟩

def cellsAt (ys : List Value) (i : Nat) : Value := .agg #[ys.getD (i * 5) undef, ys.getD (i * 5 + 1) undef, ys.getD (i * 5 + 2) undef, ys.getD (i * 5 + 3) undef, ys.getD (i * 5 + 4) undef]

def set5 (ys : List Value) (i : Nat) (c0 c1 c2 c3 c4 : Value) : List Value := ((((ys.set (i * 5) c0).set (i * 5 + 1) c1).set (i * 5 + 2) c2).set (i * 5 + 3) c3).set (i * 5 + 4) c4

theorem cellsAt_same (ys : List Value) (i : Nat) (c0 c1 c2 c3 c4 : Value) (h : i * 5 + 4 < ys.length) : cellsAt (set5 ys i c0 c1 c2 c3 c4) i = .agg #[c0, c1, c2, c3, c4] := by
  simp [cellsAt, set5, List.getD_eq_getElem?_getD, List.getElem?_set, h, show i * 5 < ys.length by omega, show i * 5 + 1 < ys.length by omega, show i * 5 + 2 < ys.length by omega, show i * 5 + 3 < ys.length by omega]

theorem getD_set_ne (ys : List Value) (a b : Nat) (v : Value) (h : a ≠ b) : (ys.set a v).getD b undef = ys.getD b undef := by
  simp [List.getD_eq_getElem?_getD, List.getElem?_set, h]

theorem cellsAt_other (ys : List Value) (i j : Nat) (c0 c1 c2 c3 c4 : Value) (h : j < i) : cellsAt (set5 ys i c0 c1 c2 c3 c4) j = cellsAt ys j := by
  have e : ∀ q, q < 5 → (set5 ys i c0 c1 c2 c3 c4).getD (j * 5 + q) undef = ys.getD (j * 5 + q) undef := fun q hq => by
    unfold set5
    rw [getD_set_ne _ _ _ _ (by omega), getD_set_ne _ _ _ _ (by omega), getD_set_ne _ _ _ _ (by omega), getD_set_ne _ _ _ _ (by omega), getD_set_ne _ _ _ _ (by omega)]
  have e0 := e 0 (by omega)
  rw [Nat.add_zero] at e0
  simp only [cellsAt, e0, e 1 (by omega), e 2 (by omega), e 3 (by omega), e 4 (by omega)]

end Go.Proofs.YthmilkcghfaecaaDoor

/-! A list of values copied into memory of its own; with it every value: a contract for what lies in memory and holds at most 2 to the 20. -/
namespace Go.Proofs.YthmilkcghfaecaaDoor
open Go.RowKit
set_option linter.unusedSimpArgs false
set_option linter.unusedVariables false

/-- What lies in memory, with its two lists written out. -/
theorem Lies.parts {S : Nat → Prop} {w : World} {v : Value} {T : Tree} (h : Lies S w v T) :
    ∃ k n s a m cap a' m' cap', v = .agg #[.int .i64 k, .int .i64 n, .string s, .slice a m cap, .slice a' m' cap'] := by
  cases T with
  | mk k n s l ks =>
    obtain ⟨c, u, rfl, hs, hk, ⟨a, cap, C, rfl, _⟩, ⟨a', cap', rfl, _⟩⟩ := h.out
    exact ⟨_, _, _, _, _, _, _, _, _, rfl⟩

end Go.Proofs.YthmilkcghfaecaaDoor

/-! Two values that are the same tree are told so by the law's own comparison: a contract for every two that lie in memory. -/
namespace Go.Proofs.YthmilkcghfaecaaDoor
open Go.RowKit
set_option linter.unusedSimpArgs false
set_option linter.unusedVariables false

theorem two5 {w w1 : World} {c0 c1 c2 c3 c4 d0 d1 d2 d3 d4 : Value} {t : TypeId} (hb : Below ((w.alloc (.cells #[c0, c1, c2, c3, c4] t)).alloc (.cells #[d0, d1, d2, d3, d4] t)).heap.size ((w.alloc (.cells #[c0, c1, c2, c3, c4] t)).alloc (.cells #[d0, d1, d2, d3, d4] t)) w1) :
    w1.cell? ⟨w.heap.size, 4, none⟩ = some c4 ∧ w1.cell? ⟨w.heap.size + 1, 4, none⟩ = some d4 := by
  have s1 : (w.alloc (.cells #[c0, c1, c2, c3, c4] t)).heap.size = w.heap.size + 1 := by simp
  have h1 : w1.heap[w.heap.size]? = some (.cells #[c0, c1, c2, c3, c4] t) := by rw [hb.block _ (by simp; omega), heap_old _ _ (by simp), heap_new]
  have h2 : w1.heap[w.heap.size + 1]? = some (.cells #[d0, d1, d2, d3, d4] t) := by rw [hb.block _ (by simp), ← s1, heap_new]
  exact ⟨blk_cell h1 4, blk_cell h2 4⟩

end Go.Proofs.YthmilkcghfaecaaDoor

/-! Trees of values that may be written, no two rows of which are the same, and such as bear marks: what they are, and that they are kept; no condition. -/
namespace Go.Proofs.YthmilkcghfaecaaDoor
open Go.RowKit
set_option linter.unusedSimpArgs false
set_option linter.unusedVariables false

def Tree.kids : Tree → List Tree
  | .mk _ _ _ l _ => l
def Tree.keys : Tree → List ByteArray
  | .mk _ _ _ _ ks => ks
mutual
/-- How many marks a tree takes below its own, and a list of trees. -/
def Tree.cnt : Tree → Nat
  | .mk _ _ _ l ks => 3 + cntL l + ks.length
def cntL : List Tree → Nat
  | [] => 0
  | t :: r => t.cnt + cntL r
end
theorem cnt_eq (T : Tree) : T.cnt = 3 + cntL T.kids + T.keys.length := by
  cases T; rw [Tree.cnt]; rfl
theorem cntL_append (a b : List Tree) : cntL (a ++ b) = cntL a + cntL b := by
  induction a with
  | nil => simp [cntL]
  | cons t r ih => simp only [List.cons_append, cntL, ih]; omega
theorem cntL_take (l : List Tree) (k : Nat) (h : k < l.length) : cntL (l.take (k + 1)) = cntL (l.take k) + l[k].cnt := by
  rw [List.take_succ_eq_append_getElem h, cntL_append]; simp [cntL]
theorem cntL_take_le (l : List Tree) (k : Nat) : cntL (l.take k) ≤ cntL l := by
  conv => rhs; rw [← List.take_append_drop k l, cntL_append]
  omega

/-- From w to w' only blocks of S, and new ones, have changed. -/
structure Chg (S : Nat → Prop) (w w' : World) : Prop where
  os : w'.os = w.os
  tape : w'.tape = w.tape
  output : w'.output = w.output
  size : w.heap.size ≤ w'.heap.size
  block : ∀ b, b < w.heap.size → ¬ S b → w'.heap[b]? = w.heap[b]?
theorem Chg.refl (S : Nat → Prop) (w : World) : Chg S w w := ⟨rfl, rfl, rfl, Nat.le_refl _, fun _ _ _ => rfl⟩
theorem Chg.trans {S : Nat → Prop} {a b c : World} (h : Chg S a b) (k : Chg S b c) : Chg S a c :=
  ⟨k.os.trans h.os, k.tape.trans h.tape, k.output.trans h.output, Nat.le_trans h.size k.size, fun i hi hs => (k.block i (Nat.lt_of_lt_of_le hi h.size) hs).trans (h.block i hi hs)⟩
theorem Chg.mono {S S' : Nat → Prop} {a b : World} (h : Chg S a b) (hs : ∀ b, S b → S' b) : Chg S' a b := ⟨h.os, h.tape, h.output, h.size, fun i hi hn => h.block i hi (fun k => hn (hs i k))⟩
theorem Chg.of {S : Nat → Prop} {a b : World} (h : Below a.heap.size a b) : Chg S a b := ⟨h.os, h.tape, h.output, h.size, fun i hi _ => h.block i hi⟩
theorem Chg.kp {S R : Nat → Prop} {a b : World} (h : Chg S a b) (hr : ∀ i, R i → i < a.heap.size ∧ ¬ S i) : Kp R a b := fun i hi => h.block i (hr i hi).1 (hr i hi).2
end Go.Proofs.YthmilkcghfaecaaDoor

/-! Marks put into a tree of values that may be written, as the law puts them: contracts for the walks; conditions: no two rows are the same, and there are at most 2 to the 32 marks. -/
namespace Go.Proofs.YthmilkcghfaecaaDoor
open Go.RowKit
set_option linter.unusedSimpArgs false
set_option linter.unusedVariables false

theorem Chg.set {S : Nat → Prop} {w : World} {g j : Nat} {v : Value} (h : S g) : Chg S w (w.setCell ⟨g, j, none⟩ v) :=
  ⟨rfl, rfl, rfl, by simp [World.setCell], fun b hb hn => Below.heap_setCell w ⟨g, j, none⟩ v b (fun e => by have e' : b = g := e; subst e'; exact hn h)⟩
theorem Chg.grown {S : Nat → Prop} {w w' : World} {r : Option Nat} (h : w.grownBy w' r) (hr : ∀ g, r = some g → S g) : Chg S w w' :=
  ⟨h.os, h.tape, h.output, h.size, fun b hb hn => h.block b hb (fun e => hn (hr b e.symm))⟩
theorem rdB_in {S : Nat → Prop} {w : World} {lo : Nat} {e : TypeId} {v : Value} {n : Nat} {xs : List Value} (h : w.ownsRow lo e 1 v n xs) (hs : ∀ g, v.ownBlock = some g → S g) : RdB S w v xs := by
  obtain ⟨a, cap, hv, hc, hx⟩ := reads_of_owns h
  refine ⟨a, cap, hv, hc, ?_⟩
  rcases hx with hx | ⟨b, off, rfl, hlt, hx⟩
  · exact .inl hx
  · exact .inr ⟨b, off, rfl, hs b (by rw [hv]; rfl), hx⟩
theorem owns_sl {w : World} {lo : Nat} {e : TypeId} {sz n : Nat} {v : Value} {xs : List Value} (hg : w.ownsRow lo e sz v n xs) : ∃ q cap, v = .slice q n cap := by
  rcases hg.2 with ⟨h1, h2⟩ | ⟨g, cap, cur, h1, _⟩
  · exact ⟨none, 0, by rw [h1, h2]⟩
  · exact ⟨_, _, h1⟩
def put3 (ys : List Value) (i : Nat) (a b c : Value) : List Value := ((ys.set (i * 5) a).set (i * 5 + 1) b).set (i * 5 + 2) c
theorem put3_other {ys : List Value} {i j : Nat} {a b c : Value} (h : j < i * 5 ∨ i * 5 + 2 < j) : (put3 ys i a b c)[j]? = ys[j]? := by
  unfold put3
  rw [List.getElem?_set_ne (by omega), List.getElem?_set_ne (by omega), List.getElem?_set_ne (by omega)]
theorem put3_same {ys : List Value} {i : Nat} {a b c : Value} (h : i * 5 + 2 < ys.length) : (put3 ys i a b c)[i * 5]? = some a ∧ (put3 ys i a b c)[i * 5 + 1]? = some b ∧ (put3 ys i a b c)[i * 5 + 2]? = some c := by
  simp [put3, List.getElem?_set, h, show i * 5 < ys.length by omega, show i * 5 + 1 < ys.length by omega]

end Go.Proofs.YthmilkcghfaecaaDoor

/-! Marks put into a pack that may be written, as the law puts them: contracts for the walks; conditions: its rows lie in memory and may be written, and there are at most 2 to the 32 marks. -/
namespace Go.Proofs.YthmilkcghfaecaaDoor
open Go.RowKit
set_option linter.unusedSimpArgs false
set_option linter.unusedVariables false

/-- A row that may be written stays one where another row is written over, be it the same. -/
theorem owns_over {w w' : World} {lo lo' sz n n' : Nat} {e : TypeId} {v v' : Value} {xs xs' ys : List Value} (h : w.ownsRow lo e sz v n xs) (h0 : w.ownsRow lo' e sz v' n' xs') (h1 : w'.ownsRow lo' e sz v' n' ys) (hg : w.grownBy w' v'.ownBlock) (hs : 0 < sz) : ∃ zs, w'.ownsRow lo e sz v n zs := by
  by_cases hne : v.ownBlock = none ∨ v.ownBlock ≠ v'.ownBlock
  · exact ⟨xs, h.kept hg hne⟩
  · have he : v.ownBlock = v'.ownBlock := by
      by_cases k : v.ownBlock = v'.ownBlock
      · exact k
      · exact absurd (.inr k) hne
    have hn : v.ownBlock ≠ none := fun k => hne (.inl k)
    rcases h.2 with ⟨rfl, _⟩ | ⟨g, cap, cur, rfl, hlo, hgb, hc, hm, hz, ht⟩
    · exact absurd rfl hn
    rcases h0.2 with ⟨rfl, _⟩ | ⟨g0, cap0, cur0, rfl, _, hgb0, hc0, hm0, hz0, _⟩
    · exact absurd he (by simp [Value.ownBlock])
    simp [Value.ownBlock] at he
    subst he
    rcases h1.2 with ⟨hx, _⟩ | ⟨g1, cap1, cur1, hx, _, hgb1, hc1, hm1, hz1, _⟩
    · simp at hx
    · simp only [Value.slice.injEq, Option.some.injEq, Addr.mk.injEq, and_true, true_and] at hx
      obtain ⟨rfl, rfl⟩ := hx
      rw [hgb] at hgb0
      have hcur : cur = cur0 := by simpa using hgb0
      subst hcur
      have hcap : cap = cap0 := by
        have : cap * sz = cap0 * sz := by omega
        exact Nat.eq_of_mul_eq_mul_right hs this
      subst hcap
      refine ⟨cur1.toList.take (n * sz), ?_, .inr ⟨g, cap, cur1, rfl, hlo, hgb1, hc, hm, hz1, rfl⟩⟩
      have hle : n * sz ≤ cap * sz := Nat.mul_le_mul_right _ hc
      rw [List.length_take, Array.length_toList, hz1]
      exact Nat.min_eq_left hle

/-- The rows of a row of commands: each may be written. -/
def CmdRows (w : World) (S : Nat → Prop) (ys : List Value) (ns : List Nat) : Prop := ∀ i (h : i < ns.length), ∃ u xs, ys[i * 2 + 1]? = some u ∧ w.ownsRow 0 9 1 u ns[i] xs ∧ ∀ g, u.ownBlock = some g → S g
theorem CmdRows.set0 {w : World} {S : Nat → Prop} {ys : List Value} {ns : List Nat} (h : CmdRows w S ys ns) (i : Nat) (v : Value) : CmdRows w S (ys.set (i * 2) v) ns := fun j hj => by
  obtain ⟨u, xs, h1, h2, h3⟩ := h j hj
  exact ⟨u, xs, by rw [List.getElem?_set_ne (by omega)]; exact h1, h2, h3⟩
theorem CmdRows.below {w w' : World} {S : Nat → Prop} {ys : List Value} {ns : List Nat} (h : CmdRows w S ys ns) (hb : Below w.heap.size w w') : CmdRows w' S ys ns := fun j hj => by
  obtain ⟨u, xs, h1, h2, h3⟩ := h j hj
  exact ⟨u, xs, h1, owns_kept (S := fun b => b < w.heap.size) (.of hb (fun b h => h)) (fun g h => (owns_in h2 g h).2) h2, h3⟩
theorem owns_apart {w : World} {lo lo' sz sz' n n' : Nat} {e e' : TypeId} {v v' : Value} {xs xs' : List Value} (h : w.ownsRow lo e sz v n xs) (h' : w.ownsRow lo' e' sz' v' n' xs') (hne : e ≠ e') : v.ownBlock = none ∨ v.ownBlock ≠ v'.ownBlock := by
  rcases h.2 with ⟨rfl, _⟩ | ⟨g, c, cur, rfl, _, hb, _⟩
  · exact .inl rfl
  · right
    intro k
    rcases h'.2 with ⟨rfl, _⟩ | ⟨g', c', cur', rfl, _, hb', _⟩
    · simp [Value.ownBlock] at k
    · simp [Value.ownBlock] at k
      subst k
      rw [hb] at hb'
      simp at hb'
      exact hne hb'.2
theorem cmdRows_of {S : Nat → Prop} {w : World} {ys : List Value} {xs : List CmdD} (h : Laid shCmdO S w ys xs xs.length) : CmdRows w S ys (xs.map fun c => c.acts.length) := fun i hi => by
  have hi' : i < xs.length := by simpa using hi
  obtain ⟨cs, h1, ⟨u, rfl, _, h2, _⟩, h3⟩ := h i hi' hi'
  exact ⟨u, _, h3 1 (by simp), by simpa using h2.1, h2.2⟩
theorem cmds_sum (xs : List CmdD) : (xs.map fun c => c.acts.length).length + (xs.map fun c => c.acts.length).sum ≤ wtRow wtCmd xs := by
  induction xs with
  | nil => simp [wtRow]
  | cons x xs ih =>
    have e : wtRow wtCmd (x :: xs) = (1 + wtCmd x) + wtRow wtCmd xs := by simp [wtRow]
    rw [e]
    simp only [List.map_cons, List.length_cons, List.sum_cons]
    have : x.acts.length ≤ wtCmd x := by unfold wtCmd bulkS; omega
    omega

end Go.Proofs.YthmilkcghfaecaaDoor

/-! Copies of needs and entries, as the program makes them: contracts for the walks; conditions: they lie in memory, and hold at most 2 to the 20. -/
namespace Go.Proofs.YthmilkcghfaecaaDoor
open Go.RowKit
set_option linter.unusedSimpArgs false
set_option linter.unusedVariables false

/-- The cells of needs. -/
def needsV (xs : List NeedD) : List Value := xs.flatMap fun d => [.string d.n, .string d.r]
theorem needsV_length (xs : List NeedD) : (needsV xs).length = xs.length * 2 := by
  induction xs with
  | nil => rfl
  | cons d l ih => simp only [needsV, List.flatMap_cons, List.length_append, List.length_cons, List.length_nil] at *; omega
theorem needsV_append (xs ys : List NeedD) : needsV xs ++ needsV ys = needsV (xs ++ ys) := by simp [needsV]
theorem needsV_take (xs : List NeedD) (k : Nat) (h : k < xs.length) : needsV (xs.take k) ++ [.string xs[k].n, .string xs[k].r] = needsV (xs.take (k + 1)) := by
  rw [List.take_succ_eq_append_getElem h, ← needsV_append]; rfl
theorem needsV_at (xs : List NeedD) : ∀ i (h : i < xs.length), (needsV xs)[i * 2]? = some (.string xs[i].n) ∧ (needsV xs)[i * 2 + 1]? = some (.string xs[i].r) := by
  induction xs with
  | nil => intro i h; simp at h
  | cons d l ih =>
    intro i h
    have e : needsV (d :: l) = [.string d.n, .string d.r] ++ needsV l := by simp [needsV]
    cases i with
    | zero => rw [e]; simp
    | succ i =>
      have h' := ih i (by simpa using h)
      rw [e, List.getElem?_append_right (by simp; omega), List.getElem?_append_right (by simp; omega)]
      simp only [List.length_cons, List.length_nil]
      rw [show (i + 1) * 2 - (0 + 1 + 1) = i * 2 by omega, show (i + 1) * 2 + 1 - (0 + 1 + 1) = i * 2 + 1 by omega]
      simpa using h'
theorem owns_of_belowN {w w' : World} {lo sz n : Nat} {e : TypeId} {v : Value} {xs : List Value} (h : w.ownsRow lo e sz v n xs) (hb : Below w.heap.size w w') : w'.ownsRow lo e sz v n xs := h.kept (grown_of_below hb none) (by cases hq : v.ownBlock <;> simp)
theorem cells_put {w : World} {N M : Nat} {o : Obj} (h : w.heap[N]? = some o) (hne : N ≠ M) (j : Nat) (v : Value) : (w.setCell ⟨M, j, none⟩ v).heap[N]? = some o := (Below.heap_setCell w ⟨M, j, none⟩ v N (by simpa using hne)).trans h
end Go.Proofs.YthmilkcghfaecaaDoor

/-! Rows of picks that are being made, in blocks of the call's own: no condition. -/
namespace Go.Proofs.YthmilkcghfaecaaDoor
open Go.RowKit
set_option linter.unusedSimpArgs false
set_option linter.unusedVariables false

/-- A pick and its list, as values. -/
structure LC where
  d : PickD
  u0 : Value
def LC.cells (p : LC) : List Value := [.string p.d.name, .int .i64 p.d.vA, .int .i64 p.d.vB, .int .i64 p.d.vC, p.u0]
def flatL (ps : List LC) : List Value := ps.flatMap LC.cells
theorem flatL_length (ps : List LC) : (flatL ps).length = ps.length * 5 := by
  induction ps with
  | nil => rfl
  | cons p r ih => simp only [flatL, List.flatMap_cons, List.length_append, List.length_cons] at *; rw [ih]; simp [LC.cells]; omega
theorem flatL_append (a b : List LC) : flatL (a ++ b) = flatL a ++ flatL b := by simp [flatL]
theorem flatL_at (ps : List LC) (i : Nat) (h : i < ps.length) (j : Nat) (hj : j < 5) : (flatL ps)[i * 5 + j]? = (ps[i].cells)[j]? := by
  induction ps generalizing i with
  | nil => simp at h
  | cons p r ih =>
    show (p.cells ++ flatL r)[i * 5 + j]? = _
    have hc : p.cells.length = 5 := rfl
    cases i with
    | zero => rw [Nat.zero_mul, Nat.zero_add, List.getElem?_append_left (by omega)]; rfl
    | succ i =>
      rw [List.getElem?_append_right (by omega), hc, show (i + 1) * 5 + j - 5 = i * 5 + j by omega]
      exact ih i (by simpa using h)

/-- A row of picks in blocks of the call's own. -/
def RowL (lo : Nat) (w : World) (v : Value) (ps : List LC) : Prop := w.ownsRow lo 42 5 v ps.length (flatL ps) ∧ ∀ p ∈ ps, w.ownsRow lo 9 1 p.u0 p.d.vP.length (strsV p.d.vP)
theorem RowL.below {lo : Nat} {w w' : World} {v : Value} {ps : List LC} (h : RowL lo w v ps) (hb : Below w.heap.size w w') : RowL lo w' v ps := ⟨owns_of_belowN h.1 hb, fun p hp => owns_of_belowN (h.2 p hp) hb⟩
theorem RowL.own {lo : Nat} {w : World} {v : Value} {ps : List LC} (h : RowL lo w v ps) (hs : ∀ p ∈ ps, p.d.name.size ≤ 1048576 ∧ bulkS p.d.vP ≤ 1048576) (hl : ps.length ≤ maxLen) : RowOwn shPickO 42 (Ow lo w.heap.size) w v (ps.map LC.d) := by
  refine ⟨by simpa using hl, flatL ps, ?_, owns_in h.1, ?_⟩
  · rw [List.length_map]; exact owns_lo (Nat.zero_le _) h.1
  · intro i hi _
    have hi2 : i < ps.length := by simpa using hi
    have hm := List.getElem_mem hi2
    have h1 := h.2 _ hm
    obtain ⟨h2, h3⟩ := hs _ hm
    have h4 : saneP ps[i].d.vP := by
      unfold bulkS at h3
      refine ⟨by unfold maxLen; omega, fun s hs => ?_⟩
      have h9 := size_of_bulk hs
      unfold bulkS at h9
      unfold maxLen
      omega
    refine ⟨ps[i].cells, rfl, ?_, fun j hj => ?_⟩
    · rw [List.getElem_map]
      exact ⟨ps[i].u0, rfl, by unfold maxLen; omega, ⟨owns_lo (Nat.zero_le _) h1, owns_in h1⟩, h4⟩
    · have hj5 : j < 5 := hj
      show (flatL ps)[i * 5 + j]? = _
      rw [flatL_at ps i hi2 j hj5, List.getElem?_eq_getElem]
/-- No two of them share a block. -/
def SepL (ps : List LC) : Prop := ∀ i j (hi : i < ps.length) (hj : j < ps.length), i ≠ j → ∀ g, ps[i].u0.ownBlock = some g → ps[j].u0.ownBlock ≠ some g
theorem SepL.nil : SepL [] := fun i j hi => by simp at hi
theorem SepL.add {ps : List LC} {x : LC} {B : Nat} (h : SepL ps) (h1 : ∀ p ∈ ps, ∀ g, p.u0.ownBlock = some g → g < B) (h2 : ∀ g, x.u0.ownBlock = some g → B ≤ g) : SepL (ps ++ [x]) := fun i j hi hj hne g hg hg2 => by
  simp only [List.length_append, List.length_singleton] at hi hj
  by_cases a : i < ps.length
  · rw [List.getElem_append_left a] at hg
    by_cases b : j < ps.length
    · rw [List.getElem_append_left b] at hg2
      exact h i j a b hne g hg hg2
    · obtain rfl : j = ps.length := by omega
      simp at hg2
      have := h1 _ (List.getElem_mem a) g hg
      have := h2 g hg2
      omega
  · obtain rfl : i = ps.length := by omega
    have b : j < ps.length := by omega
    simp at hg
    rw [List.getElem_append_left b] at hg2
    have := h1 _ (List.getElem_mem b) g hg2
    have := h2 g hg
    omega
theorem src_newL (w : World) (cs : List Value) (t : TypeId) : ∀ j u, cs[j]? = some u → (w.alloc (.cells cs.toArray t)).cell? ((⟨w.heap.size, 0, none⟩ : Addr).add j) = some u := fun j u hu => by
  have e : ((⟨w.heap.size, 0, none⟩ : Addr).add j) = ⟨w.heap.size, j, none⟩ := by unfold Addr.add; split <;> simp_all
  rw [e, vblk_cell (vheap_new _ _) j]
  simpa using hu
theorem rowL_plain {lo : Nat} {w : World} {v : Value} {xs : List PickD} (h : RowOwn shPickO 42 (Ow lo w.heap.size) w v xs) : RowIn shPick (Ow lo w.heap.size) w v xs := RowIn.as (sh := shPickO) (sh' := shPick) rfl (fun S w cs x h => liesPick_plain h) h.plain
end Go.Proofs.YthmilkcghfaecaaDoor

/-! What reading a lock answers, as the program does it: the picks of its lines, or an error of the program's own: a contract for the walks; condition: the text has at most 2 to the 20 bytes. -/
namespace Go.Proofs.YthmilkcghfaecaaDoor
open Go.RowKit
set_option linter.unusedSimpArgs false
set_option linter.unusedVariables false

theorem lineP_some {l : ByteArray} (h : resOk (cutD l 64).2.1 = true) : lineP l = some (pickT (cutD l 64).1 (cutD l 64).2.1) := by unfold lineP; rw [if_pos h]
theorem lineP_none {l : ByteArray} (h : resOk (cutD l 64).2.1 = false) : lineP l = none := by unfold lineP; rw [if_neg (by rw [h]; decide)]
/-- What one round of the reading comes to: the text from place b on is cut at its first byte 10. -/
theorem lock_round (s : ByteArray) (b : Nat) (hb : b < s.size) (acc : List PickD) (line rest : ByteArray) (en : Bool) (hc : cutD (s.extract b s.size) 10 = (line, rest, en)) :
    line.size ≤ s.size ∧ (en = false → lockGo (splitGo s 10 (s.size - b) b b) acc = none) ∧
    (en = true → ∃ b', b < b' ∧ b' ≤ s.size ∧ rest = s.extract b' s.size ∧
      (resOk (cutD line 64).2.1 = false → lockGo (splitGo s 10 (s.size - b) b b) acc = none) ∧
      (resOk (cutD line 64).2.1 = true → picksB (acc ++ [pickT (cutD line 64).1 (cutD line 64).2.1]) = false → lockGo (splitGo s 10 (s.size - b) b b) acc = none) ∧
      (resOk (cutD line 64).2.1 = true → picksB (acc ++ [pickT (cutD line 64).1 (cutD line 64).2.1]) = true → lockGo (splitGo s 10 (s.size - b) b b) acc = lockGo (splitGo s 10 (s.size - b') b' b') (acc ++ [pickT (cutD line 64).1 (cutD line 64).2.1]))) := by
  have hu : (10 : Int).toNat.toUInt8 = 10 := rfl
  have hsz := cutD_size (s.extract b s.size) 10
  rw [hc, vsize s b s.size (by omega) (Nat.le_refl _)] at hsz
  refine ⟨by have h1 : line.size ≤ s.size - b := hsz.1; omega, ?_⟩
  rcases search s 10 b (by omega) (by decide) (by decide) with ⟨h1, h2⟩ | ⟨k, h1, hk, h2⟩
  · rw [hu] at h1
    rw [cutD_none h1] at hc
    injection hc with _ hc
    injection hc with _ hc
    refine ⟨fun _ => ?_, fun h => (by rw [h] at hc; cases hc)⟩
    rw [h2, lockGo_last, if_neg]
    rw [vsize s b s.size (by omega) (Nat.le_refl _)]
    omega
  · rw [hu] at h1
    rw [cutD_some h1] at hc
    injection hc with hl hc
    injection hc with hr hc
    refine ⟨fun h => (by rw [h] at hc; cases hc), fun _ => ⟨b + k + 1, by omega, by omega, ?_, ?_⟩⟩
    · rw [← hr, vsize s b s.size (by omega) (Nat.le_refl _), vsub s b s.size (k + 1) (s.size - b) (by omega) (Nat.le_refl _)]
      congr 1 <;> omega
    · have hl2 : line = s.extract b (b + k) := by
        rw [← hl, vsub s b s.size 0 k (by omega) (Nat.le_refl _)]
        rfl
      rw [h2, lockGo_more (vsplitGo_ne _ _ _ _ _), ← hl2]
      refine ⟨fun h => by rw [lineP_none h], fun h hp => ?_, fun h hp => ?_⟩
      · rw [lineP_some h]
        show (if _ then _ else _) = _
        rw [if_neg (by rw [hp]; decide)]
      · rw [lineP_some h]
        show (if _ then _ else _) = _
        rw [if_pos hp]
theorem lock_end (s : ByteArray) (acc : List PickD) : lockGo (splitGo s 10 (s.size - s.size) s.size s.size) acc = some acc := by
  rw [splitGo_end, lockGo_last, if_pos]
  rw [vsize s s.size s.size (Nat.le_refl _) (Nat.le_refl _)]
  omega
theorem pickT_bulk {t : ByteArray} (h : resOk t = true) : bulkS (resP t) ≤ 1048576 := by have := bk_bulk (bk_ver t h); omega

set_option maxHeartbeats 8000000 in
set_option maxRecDepth 100000 in
theorem readLock_c (s : ByteArray) (hs : s.size ≤ 1048576) (w : World) :
    Calls Tryd.prog 25 #[.string s] w fun e w' => ((∃ v ps, lockR s = some (ps.map LC.d) ∧ e = .returned (.tuple #[v, .nilIface]) ∧ RowL w.heap.size w' v ps ∧ SepL ps ∧ (∀ p ∈ ps, p.d.name.size ≤ 1048576 ∧ bulkS p.d.vP ≤ 1048576) ∧ ps.length ≤ 12) ∨ (lockR s = none ∧ ∃ n : Int, e = .returned (.tuple #[.slice none 0 0, .iface 61 (.agg #[.int .i64 n])]))) ∧ Below w.heap.size w w' := by
  obtain ⟨i0, hi0, hz0, hz1, hz2⟩ := info_parts infoPick
  have HG0 : Hid (RowL w.heap.size w (.slice none 0 0) []) := ⟨World.ownsRow_nil w _ _ _, fun p hp => by simp at hp⟩
  have HL0 : Hid (lockR s = lockGo (splitGo s 10 (s.size - 0) 0 0) (([] : List LC).map LC.d)) := rfl
  have HW := hidden (vwhole s)
  go_enter Tryd.func25, Tryd.ntmps25
  go_wp2_with fail
  go_loopw [0, 4, 5] (fun vs vo vi wr => ∃ (b k : Nat) (rs : ByteArray) (v : Value) (ps : List LC), b ≤ s.size ∧ k ≤ b ∧ vs = .string rs ∧ Hid (rs = s.extract b s.size) ∧ vo = v ∧ vi = .int .i64 (k : Int) ∧ Hid (lockR s = lockGo (splitGo s 10 (s.size - b) b b) (ps.map LC.d)) ∧ Hid (RowL w.heap.size wr v ps) ∧ Hid (∀ p ∈ ps, p.d.name.size ≤ 1048576 ∧ bulkS p.d.vP ≤ 1048576) ∧ ps.length ≤ 12 ∧ Hid (SepL ps) ∧ Hid (Below w.heap.size w wr)) (fun vs _ _ _ => match vs with | .string t => t.size | _ => 0)
  case atStart => exact ⟨0, 0, s, _, [], Nat.zero_le _, Nat.le_refl _, rfl, (by show _ = _; rw [HW.out]), rfl, rfl, HL0, HG0, (fun p hp => by simp at hp), by simp, SepL.nil, Below.refl _ _⟩
  case round =>
    clear HG0 HL0 HW
    obtain ⟨wo, hwo⟩ : ∃ wo, wo = wr := ⟨_, rfl⟩
    subst hwo
    obtain ⟨b, k, rs, v, ps, hb, hkb, rfl, hrs, hvo, rfl, hlk, hrow, hps, hpl, hsep, HBR⟩ := hrel
    have hbr := HBR.out
    obtain ⟨qo, co, hv⟩ := owns_sliceL hrow.out.1
    subst hvo
    subst hv
    have hrz : rs.size = s.size - b := by rw [hrs.out, vsize s b s.size hb (Nat.le_refl _)]
    by_cases hlt : b < s.size
    · have hrp : (0 : Int) < (rs.size : Int) := by omega
      have hrle : rs.size ≤ 1048576 := by omega
      have HC : ∀ w1, Calls Tryd.prog 46 #[.string rs, .string ⟨#[10]⟩] w1 fun e w' => e = .returned (.tuple #[.string (cutD rs 10).1, .string (cutD rs 10).2.1, .bool (cutD rs 10).2.2]) ∧ Below w1.heap.size w1 w' := fun w1 => cut10_c rs w1 hrle
      obtain ⟨⟨ln, rest, en⟩, hx⟩ : ∃ p, p = cutD rs 10 := ⟨_, rfl⟩
      rw [← hx] at HC
      dsimp only at HC
      have HRD := lock_round s b hlt (ps.map LC.d) ln rest en (by rw [← hrs.out]; exact hx.symm)
      obtain ⟨hlz, HRN, HRY⟩ := HRD
      have HP := fun w1 => readPick_c ln (by omega) w1
      obtain ⟨hn7, ht7⟩ := cutD_size ln 64
      have HBK := hidden (fun h => pickT_bulk (t := (cutD ln 64).2.1) h)
      have HPT : Hid (pickT (cutD ln 64).1 (cutD ln 64).2.1 = ⟨(cutD ln 64).1, resN (cutD ln 64).2.1 0, resN (cutD ln 64).2.1 1, resN (cutD ln 64).2.1 2, resP (cutD ln 64).2.1⟩) := rfl
      obtain ⟨nm, hnm⟩ : ∃ z, z = (cutD ln 64).1 := ⟨_, rfl⟩
      obtain ⟨ra, hra⟩ : ∃ z, z = resN (cutD ln 64).2.1 0 := ⟨_, rfl⟩
      obtain ⟨rb, hrb⟩ : ∃ z, z = resN (cutD ln 64).2.1 1 := ⟨_, rfl⟩
      obtain ⟨rc, hrc⟩ : ∃ z, z = resN (cutD ln 64).2.1 2 := ⟨_, rfl⟩
      obtain ⟨rk, hrk⟩ : ∃ z, z = resOk (cutD ln 64).2.1 := ⟨_, rfl⟩
      obtain ⟨rp, hrp2⟩ : ∃ z, z = resP (cutD ln 64).2.1 := ⟨_, rfl⟩
      obtain ⟨D, hD⟩ : ∃ z, z = pickT (cutD ln 64).1 (cutD ln 64).2.1 := ⟨_, rfl⟩
      simp only [← hD] at HRY HPT
      simp only [← hra, ← hrb, ← hrc, ← hrk, ← hrp2, ← hnm] at HP HRY HBK HPT
      rw [← hnm] at hn7
      have hnz : nm.size ≤ 1048576 := by omega
      have HP2 : Hid (∀ w1, Calls Tryd.prog 47 #[.string ln] w1 fun e w' => ∃ q c, e = .returned (.tuple #[.agg #[.string nm, .int .i64 ra, .int .i64 rb, .int .i64 rc, .slice q rp.length c], .bool rk]) ∧ w'.ownsRow w1.heap.size 9 1 (.slice q rp.length c) rp.length (strsV rp) ∧ Below w1.heap.size w1 w') := fun w1 => (HP w1).mono fun e w' ⟨u, h1, h2, h3⟩ => by
        obtain ⟨q, c, rfl⟩ := owns_sliceL h2
        exact ⟨q, c, h1, h2, h3⟩
      replace HC := hidden HC
      replace HRN := hidden HRN
      replace HRY := hidden HRY
      obtain ⟨un, hun⟩ : ∃ n, n = rp.length := ⟨_, rfl⟩
      have HUN := hidden hun
      rw [← hun] at HP2
      clear hx hnm hra hrb hrc hrk hrp2 hD hun HP hn7 ht7 hlz hrs
      go_wp2_with fail
      go_at_call 46
      refine (HC.out _).mono ?_
      rintro e w1 ⟨rfl, b1⟩
      have k1 : Below w.heap.size w w1 := hbr.trans (b1.mono hbr.size)
      have hrow1 := hidden (hrow.out.below b1)
      clear HC hrow b1 hbr HBR
      go_wp2_with fail
      go_at_call 47
      refine (HP2.out _).mono ?_
      rintro e w2 ⟨uq, uc, rfl, ho2, b2⟩
      have k2 : Below w.heap.size w w2 := k1.trans (b2.mono k1.size)
      have hrow2 := hidden (hrow1.out.below b2)
      have HO2 := hidden (owns_lo k1.size ho2)
      have HSEP : Hid (SepL (ps ++ [⟨D, .slice uq un uc⟩])) := hsep.out.add (B := w1.heap.size) (fun p hp g hg => (owns_in (hrow1.out.2 p hp) g hg).2) (fun g hg => (owns_in ho2 g hg).1)
      have hown2 := hrow2.out.1
      have kz : Below w.heap.size w ((w2.alloc (.cells #[.string nm, .int .i64 ra, .int .i64 rb, .int .i64 rc, .slice uq un uc] 42)).alloc (.cells #[.string nm, .int .i64 ra, .int .i64 rb, .int .i64 rc, .slice uq un uc] 42)) := (k2.alloc k2.size _).alloc (by have := k2.size; simp; omega) _
      have kz2 : Hid (Below w2.heap.size w2 ((w2.alloc (.cells #[.string nm, .int .i64 ra, .int .i64 rb, .int .i64 rc, .slice uq un uc] 42)).alloc (.cells #[.string nm, .int .i64 ra, .int .i64 rb, .int .i64 rc, .slice uq un uc] 42))) := ((Below.refl _ _).alloc (Nat.le_refl _) _).alloc (by simp) _
      have hsrc : ∀ j u, [.string nm, .int .i64 ra, .int .i64 rb, .int .i64 rc, .slice uq un uc][j]? = some u → ((w2.alloc (.cells #[.string nm, .int .i64 ra, .int .i64 rb, .int .i64 rc, .slice uq un uc] 42)).alloc (.cells #[.string nm, .int .i64 ra, .int .i64 rb, .int .i64 rc, .slice uq un uc] 42)).cell? ((⟨w2.heap.size + 1, 0, none⟩ : Addr).add j) = some u := by
        have h9 := src_newL (w2.alloc (.cells #[.string nm, .int .i64 ra, .int .i64 rb, .int .i64 rc, .slice uq un uc] 42)) [.string nm, .int .i64 ra, .int .i64 rb, .int .i64 rc, .slice uq un uc] 42
        simpa using h9
      have KZ := hidden kz
      clear HP2 hrow1 b2 ho2 k1 kz
      go_wp2_with (at_builtin; refine wpList_append_own _ rfl _ _ 25 rfl w.heap.size 42 i0 (.agg #[.string ⟨#[]⟩, .int .i64 0, .int .i64 0, .int .i64 0, .slice none 0 0]) 5 64 Tryd.underlying25 hi0 hz0 hz1 hz2 rfl (by decide) _ ps.length (flatL ps) rfl ((hown2.alloc _).alloc _) ⟨w2.heap.size + 1, 0, none⟩ 1 1 [.string nm, .int .i64 ra, .int .i64 rb, .int .i64 rc, .slice uq un uc] rfl rfl hsrc (by intro u hu; simp at hu; rcases hu with rfl | rfl | rfl | rfl | rfl <;> rfl) (by unfold maxLen; omega) (by omega) (by have := k2.size; simp; omega) ?_)
      intro v3 w3 o3 gr3 _
      have hb3 : Below w.heap.size w w3 := KZ.out.grown gr3 KZ.out.size (fun j hj => (hown2.lt j hj).1)
      have hrow3 : RowL w.heap.size w3 v3 (ps ++ [⟨D, .slice uq un uc⟩]) := by
        refine ⟨?_, fun q hq => ?_⟩
        · rw [flatL_append, List.length_append]
          have e9 : flatL [(⟨D, .slice uq un uc⟩ : LC)] = [.string nm, .int .i64 ra, .int .i64 rb, .int .i64 rc, .slice uq un uc] := by show LC.cells _ ++ [] = _; rw [List.append_nil, LC.cells, HPT.out]
          rw [e9]
          exact o3
        · rcases List.mem_append.1 hq with h9 | h9
          · have h8 := owns_of_belowN (hrow2.out.2 q h9) kz2.out
            exact h8.kept gr3 (owns_apart h8 ((hown2.alloc _).alloc _) (by decide))
          · rw [List.mem_singleton.1 h9]
            have h8 := owns_of_belowN HO2.out kz2.out
            have h7 := h8.kept gr3 (owns_apart h8 ((hown2.alloc _).alloc _) (by decide))
            show w3.ownsRow w.heap.size 9 1 (.slice uq un uc) D.vP.length (strsV D.vP)
            rw [HPT.out]
            show w3.ownsRow w.heap.size 9 1 (.slice uq un uc) rp.length (strsV rp)
            rw [← HUN.out]
            exact h7
      have HR3 := hidden hrow3
      have HB3 := hidden hb3
      have HMP : Hid ((ps ++ [(⟨D, .slice uq un uc⟩ : LC)]).map LC.d = ps.map LC.d ++ [D]) := by show _ = _; simp
      obtain ⟨q3, c3, hv3⟩ := owns_sliceL hrow3.1
      subst hv3
      have hl3 : (ps ++ [(⟨D, .slice uq un uc⟩ : LC)]).length = ps.length + 1 := by simp
      rw [hl3] at HR3
      clear hrow3 hb3 o3 gr3 k2 hown2 HO2 kz2 hsrc KZ hrow2 HUN hl3
      cases en with
      | false =>
        have HN := hidden (HRN.out rfl)
        clear HRN HRY
        go_wp2_with fail
        go_ret2
        exact ⟨.inr ⟨by rw [hlk.out, HN.out], _, rfl⟩, HB3.out⟩
      | true =>
        obtain ⟨b', hb1, hb2, hre, HY1, HY2, HY3⟩ := HRY.out rfl
        clear HRN HRY
        cases rk with
        | false =>
          have HN := hidden (HY1 rfl)
          clear HY1 HY2 HY3 hre
          go_wp2_with fail
          go_ret2
          exact ⟨.inr ⟨by rw [hlk.out, HN.out], _, rfl⟩, HB3.out⟩
        | true =>
          have hbk := HBK.out rfl
          have hps3 : ∀ p ∈ ps ++ [(⟨D, .slice uq un uc⟩ : LC)], p.d.name.size ≤ 1048576 ∧ bulkS p.d.vP ≤ 1048576 := fun p hp => by
            rcases List.mem_append.1 hp with h9 | h9
            · exact hps.out p h9
            · rw [List.mem_singleton.1 h9]
              show D.name.size ≤ _ ∧ bulkS D.vP ≤ _
              rw [HPT.out]
              exact ⟨hnz, hbk⟩
          have HOW : Hid (RowOwn shPickO 42 (Ow w.heap.size w3.heap.size) w3 (.slice q3 (ps.length + 1) c3) ((ps ++ [(⟨D, .slice uq un uc⟩ : LC)]).map LC.d)) := by
            have h8 := HR3.out
            exact RowL.own h8 hps3 (by unfold maxLen; simp; omega)
          have HPK := implPicksOk_c (Ow w.heap.size w3.heap.size) _ _ w3 (rowL_plain HOW.out) (fun b hb => hb.2) (fun d hd => by obtain ⟨p, hp, rfl⟩ := List.mem_map.1 hd; exact (hps3 p hp).2)
          rw [picks_alike, HMP.out] at HPK
          have HPS3 := hidden hps3
          have HLE := hidden (fun h : picksB (ps.map LC.d ++ [D]) = true => of_decide_eq_true (Bool.and_eq_true_iff.1 h).2)
          obtain ⟨pk, hpk⟩ : ∃ z, z = picksB (ps.map LC.d ++ [D]) := ⟨_, rfl⟩
          rw [← hpk] at HPK HY2 HY3 HLE
          replace HPK := hidden HPK
          clear hpk hps3 HY1 hbk HOW
          cases pk with
          | false =>
            have HN := hidden (HY2 rfl rfl)
            clear HY2 HY3 hre HLE
            go_wp2_with (go_at_call 18; refine HPK.out.mono ?_; rintro e w4 ⟨rfl, b4⟩)
            go_ret2
            exact ⟨.inr ⟨by rw [hlk.out, HN.out], _, rfl⟩, HB3.out.trans (b4.mono HB3.out.size)⟩
          | true =>
            have HN := hidden (HY3 rfl rfl)
            have hle := HLE.out rfl
            rw [List.length_append, List.length_map, List.length_singleton] at hle
            have HRE := hidden hre
            have hrz2 : rest.size = s.size - b' := by rw [hre, vsize s b' s.size hb2 (Nat.le_refl _)]
            have hk1 : (k : Int) + 1 ≤ 1048577 := by omega
            have HMS : Hid (rest.size < rs.size) := by show _ < _; omega
            clear HY2 HY3 HLE hre hrz2
            go_wp2_with (go_at_call 18; refine HPK.out.mono ?_; rintro e w4 ⟨rfl, b4⟩)
            have HR4 := hidden (HR3.out.below b4)
            go_roundw
            case rel => exact ⟨b', k + 1, rest, _, ps ++ [⟨D, .slice uq un uc⟩], hb2, by omega, rfl, HRE, rfl, by go_num, (by show _ = _; rw [hlk.out, HN.out, HMP.out]), HR4, HPS3, by simpa using hle, HSEP, HB3.out.trans (b4.mono HB3.out.size)⟩
            case measure => exact HMS.out
    · have he : b = s.size := by omega
      have hz : rs.size = 0 := by omega
      have hz2 : ¬ (0 : Int) < (rs.size : Int) := by omega
      have HEN : Hid (lockR s = some (ps.map LC.d)) := by show _ = _; rw [hlk.out, he, lock_end]
      clear hrz hz he hlk
      go_wp2_with fail
      go_ret2
      exact ⟨.inl ⟨_, _, HEN.out, rfl, hrow.out, hsep.out, hps.out, hpl⟩, hbr⟩
end Go.Proofs.YthmilkcghfaecaaDoor

/-! What errors.As answers of no error, and of an error of the program's own type where one of that type is asked for: contracts for the walks; conditions: the variable of the library that holds the type of errors holds it. -/
namespace Go.Proofs.YthmilkcghfaecaaDoor
open Go.RowKit Go.Extern.Stop Go.Stop Go.Extern
set_option linter.unusedSimpArgs false
set_option linter.unusedVariables false

theorem as_nil (t : Value) (w : World) :
    Calls Tryd.prog 26 #[.nilIface, t] w fun e w' => e = .returned (.bool false) ∧ w' = w := by
  go_enter Tryd.func26, Tryd.ntmps26
  go_wp2
  go_ret
  exact ⟨rfl, rfl⟩

/-- The Value of a pointer to an error. -/
abbrev vPtr (a : Addr) : Value := .agg #[.pointer (some ⟨5, 63, none⟩), .pointer (some a), .int .u64 150]
/-- The Value of an error; one that may be written. -/
abbrev vErr (a : Addr) : Value := .agg #[.pointer (some ⟨5, 61, none⟩), .pointer (some a), .int .u64 153]
abbrev vErrA (a : Addr) : Value := .agg #[.pointer (some ⟨5, 61, none⟩), .pointer (some a), .int .u64 409]
abbrev tPtr : Value := .agg #[.pointer (some ⟨5, 63, none⟩)]
abbrev tErr : Value := .agg #[.pointer (some ⟨5, 61, none⟩)]

theorem asv_valueOfP (t : Addr) (w : World) : (ReflectliteValue.unpack (.iface 63 (.pointer (some t)))).run Tryd.prog w
    = .ok (vPtr ⟨w.heap.size, 0, none⟩) (w.alloc (.cells #[.pointer (some t)] 63)) := by kernel_rfl
theorem asv_typeP (a : Addr) (w : World) : (ReflectliteValue.methodAny (ReflectliteValue.valueError "reflectlite.Value.Type" 0) (fun t _ _ _ => ReflectliteType.toType t) #[vPtr a]).run Tryd.prog w
    = .ok (.iface 104 tPtr) w := by kernel_rfl
theorem asv_methodKind (h : Value) (w : World) : (Go.method 270 104 (.agg #[h]) "Kind").run Tryd.prog w = .ok (114, h) w := by kernel_rfl
theorem asv_kindP (w : World) : ((ReflectliteType.abiMethod fun t => (fun a : Nat => Value.int IntKind.u8 (a : Int)) <$> Rtype.kind t) #[.pointer (some ⟨5, 63, none⟩)]).run Tryd.prog w = .ok (.int .u8 22) w := by kernel_rfl
theorem asv_kindE (w : World) : ((ReflectliteType.abiMethod fun t => (fun a : Nat => Value.int IntKind.u8 (a : Int)) <$> Rtype.kind t) #[.pointer (some ⟨5, 61, none⟩)]).run Tryd.prog w = .ok (.int .u8 25) w := by kernel_rfl
theorem rlm (z : Sem Value) (f : TypeId → Addr → Nat → Nat → Sem Value) (v : Value) :
    ReflectliteValue.method z f #[v] = (do match ← ReflectliteValue.parts v with | none => z | some (t, a, fl) => f t a fl (fl % 32)) := rfl
theorem asv_partsP (a : Addr) (w : World) : (ReflectliteValue.parts (vPtr a)).run Tryd.prog w = .ok (some (63, a, 150)) w := by kernel_rfl
theorem asv_isNilP (a p : Addr) (W : World) (ha : W.cell? a = some (.pointer (some p))) :
    (ReflectliteValue.method (ReflectliteValue.valueError "reflectlite.Value.IsNil" 0) ReflectliteValue.isNil #[vPtr a]).run Tryd.prog W = .ok (.bool false) W := by
  rw [rlm]
  simp only [Sem.run_bind, asv_partsP, Result.andThen]
  simp [ReflectliteValue.isNil, loadVar, isAgg, underlying, Tryd.underlying63, ha, Result.andThen]
theorem asv_methodElem (h : Value) (w : World) : (Go.method 270 104 (.agg #[h]) "Elem").run Tryd.prog w = .ok (125, .agg #[h]) w := by kernel_rfl
theorem asv_methodImplements (h : Value) (w : World) : (Go.method 270 104 (.agg #[h]) "Implements").run Tryd.prog w = .ok (126, .agg #[h]) w := by kernel_rfl
theorem asv_methodAssignableTo (h : Value) (w : World) : (Go.method 270 104 (.agg #[h]) "AssignableTo").run Tryd.prog w = .ok (123, .agg #[h]) w := by kernel_rfl
theorem asv_elemP (w : World) : (ReflectliteType.method ReflectliteType.elem #[tPtr]).run Tryd.prog w = .ok (.iface 104 tErr) w := by kernel_rfl
theorem asv_implementsE (w : World) : (ReflectliteType.relation "Implements" ReflectliteType.implements_ #[tErr, .iface 104 (.agg #[.pointer (some ⟨5, 50, none⟩)])]).run Tryd.prog w = .ok (.bool true) w := by kernel_rfl
theorem asv_typeOfE (v : Value) (w : World) : (ReflectliteType.typeOf #[.iface 61 v]).run Tryd.prog w = .ok (.iface 104 tErr) w := by kernel_rfl
theorem asv_assignableE (w : World) : (ReflectliteType.relation "AssignableTo" ReflectliteType.assignableTo #[tErr, .iface 104 tErr]).run Tryd.prog w = .ok (.bool true) w := by kernel_rfl
theorem asv_valueOfE (n : Int) (w : World) : (ReflectliteValue.unpack (.iface 61 (.agg #[.int .i64 n]))).run Tryd.prog w
    = .ok (vErr ⟨w.heap.size, 0, none⟩) (w.alloc (.cells #[.int .i64 n] 61)) := by kernel_rfl
theorem asv_elemOfP (w : World) : (Rtype.elem? 63).run Tryd.prog w = .ok (some 61) w := by kernel_rfl
theorem asv_mkE (p : Addr) (w : World) : (ReflectliteValue.mk 61 p ReflectliteValue.flagAddr).run Tryd.prog w = .ok (vErrA p) w := by kernel_rfl
theorem asv_elemVP (a p : Addr) (W : World) (ha : W.cell? a = some (.pointer (some p))) :
    (ReflectliteValue.method (ReflectliteValue.valueError "reflectlite.Value.Elem" 0) ReflectliteValue.elem #[vPtr a]).run Tryd.prog W
      = .ok (vErrA p) W := by
  rw [rlm]
  simp only [Sem.run_bind, asv_partsP, Result.andThen]
  simp [ReflectliteValue.elem, loadVar, isAgg, underlying, Tryd.underlying63, ha, Result.andThen, asv_elemOfP, asv_mkE]
end Go.Proofs.YthmilkcghfaecaaDoor
