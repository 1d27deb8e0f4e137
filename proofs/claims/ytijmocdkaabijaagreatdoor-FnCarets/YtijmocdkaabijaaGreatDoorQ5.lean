/-
  Contracts for the walks, several texts in one: each part says what it proves, and under which conditions.
-/
import Derived.Deep.RegionHeld
import Derived.Shelf.Strings.Builder1
import Derived.Shelf.Small.Utf8
import Derived.Shelf.Small.Bits
import Derived.Shelf.Small.Strs
import Derived.Shelf.Strings.BuilderF
import Derived.Shelf.Utf8.RuneCount
import Derived.Shelf.Strconv.Itoa0
import Derived.Shelf.Strconv.Itoa1
import Derived.Shelf.LaysM
import Derived.Shelf.Strconv.Itoa2
import Derived.Shelf.Strconv.Itoa3
import Derived.Shelf.Strconv.Clone
import Derived.Shelf.Strings.Search1
import Derived.Shelf.Strings.Search2
import Derived.Shelf.Strings.Search3
import Derived.Shelf.Strings.Count
import Derived.Shelf.Strings.Shaped
import Derived.Shelf.Strings.Split
import Derived.Shelf.Strings.SplitShaped
import Derived.Shelf.Unicode.Decode
import Derived.Shelf.Strings.Runes
import Derived.Shelf.Strings.RuneCount
import Derived.Shelf.Strings.AsciiSet
import Derived.Shelf.Strings.Explode
import Derived.Shelf.Unicode.DecodeSlow
import Derived.Shelf.Unicode.DecodeAny
import Derived.Shelf.Unicode.DecodeLast
import Derived.Ground.Names2Prog
import Derived.Shelf.Slices.SearchI
import Derived.Test.YtijmocdkaabijaaGreatDoorProg
import Derived.Test.YtijmocdkaabijaaGreatDoorQ4
import Derived.Test.YtijmocdkaabijaaGreatDoorQ2
import Derived.Test.YtijmocdkaabijaaGreatDoorQ1

/-! The text of a version is read as that version; no condition. -/
namespace Go.Proofs.YtijmocdkaabijaaGreatDoor
open Go.RowKit
set_option linter.unusedSimpArgs false
set_option linter.unusedVariables false

theorem vat_drop (s : ByteArray) (b i : Nat) (l : List UInt8) (h : s.data.toList.drop b = l) (hi : i < l.length) : s.data[b + i]! = l[i] := by
  subst h
  have h1 : b + i < s.data.toList.length := by rw [List.length_drop] at hi; omega
  have h2 : b + i < s.data.size := by rw [← Array.length_toList]; exact h1
  rw [getElem!_pos s.data (b + i) h2, List.getElem_drop, Array.getElem_toList]
theorem vsplit_hit (s : ByteArray) (c : Int) (b m : Nat) (hm : m < s.size) (hc : ((s.data[m]!).toNat : Int) = c) : ∀ n i, n = m - i → i ≤ m → (∀ j, i ≤ j → j < m → ¬ ((s.data[j]!).toNat : Int) = c) → splitGo s c (s.size - i) i b = s.extract b m :: splitGo s c (s.size - (m + 1)) (m + 1) (m + 1)
  | 0, i, hn, hi, hj => by
    obtain rfl : i = m := by omega
    exact splitGo_hit s c i b hm hc
  | n + 1, i, hn, hi, hj => by
    rw [splitGo_miss s c i b (by omega) (hj i (Nat.le_refl _) (by omega))]
    exact vsplit_hit s c b m hm hc n (i + 1) (by omega) (by omega) (fun j h1 h2 => hj j (by omega) h2)
theorem vsplit_end (s : ByteArray) (c : Int) (b : Nat) : ∀ n i, n = s.size - i → i ≤ s.size → (∀ j, i ≤ j → j < s.size → ¬ ((s.data[j]!).toNat : Int) = c) → splitGo s c (s.size - i) i b = [s.extract b s.size]
  | 0, i, hn, hi, hj => by
    obtain rfl : i = s.size := by omega
    exact splitGo_end s c b
  | n + 1, i, hn, hi, hj => by
    rw [splitGo_miss s c i b (by omega) (hj i (Nat.le_refl _) (by omega))]
    exact vsplit_end s c b n (i + 1) (by omega) (by omega) (fun j h1 h2 => hj j (by omega) h2)

/-- A text holds no such byte. -/
def noneB (c : Nat) (x : ByteArray) : Prop := ∀ u, u ∈ x.data.toList → u.toNat ≠ c

theorem vsplit_told (s : ByteArray) : ∀ (ps : List ByteArray) (b : Nat), ps ≠ [] → (∀ x, x ∈ ps → noneB 46 x) → b ≤ s.size → s.data.toList.drop b = (joinS ps ⟨#[46]⟩).data.toList → splitGo s 46 (s.size - b) b b = ps
  | [], b, h, _, _, _ => absurd rfl h
  | [x], b, _, hx, hb, hs => by
    rw [vjoinS_one] at hs
    have hl : s.size - b = x.size := by rw [← vlen s, ← vlen x, ← hs, List.length_drop]
    rw [vsplit_end s 46 b (s.size - b) b rfl hb]
    · congr 1
      apply vext
      rw [vextract, hs]
      exact List.take_of_length_le (by rw [vlen]; omega)
    · intro j h1 h2 h3
      have h4 : j - b < x.data.toList.length := by rw [vlen]; omega
      have := vat_drop s b (j - b) _ hs h4
      rw [show b + (j - b) = j by omega] at this
      rw [this] at h3
      exact hx x (by simp) _ (List.getElem_mem h4) (by omega)
  | x :: y :: xs, b, _, hx, hb, hs => by
    rw [vjoinS_cons _ _ _ (by simp)] at hs
    obtain ⟨r, hr⟩ : ∃ r, r = joinS (y :: xs) ⟨#[46]⟩ := ⟨_, rfl⟩
    rw [← hr] at hs
    simp only [ByteArray.data_append, Array.toList_append] at hs
    have hl : s.size - b = x.size + 1 + r.size := by
      have := congrArg List.length hs
      rw [List.length_drop, vlen, List.length_append, List.length_append, vlen, vlen] at this
      exact this
    have hm : ((s.data[b + x.size]!).toNat : Int) = 46 := by
      rw [vat_drop s b x.size _ hs (by rw [List.length_append, List.length_append, vlen]; simp; omega)]
      rw [List.getElem_append_left (by rw [List.length_append, vlen]; simp), List.getElem_append_right (by rw [vlen]; exact Nat.le_refl _)]
      simp [vlen]
    rw [vsplit_hit s 46 b (b + x.size) (by omega) hm x.size b (by omega) (by omega)]
    · congr 1
      · apply vext
        rw [vextract, hs, List.append_assoc, show b + x.size - b = x.data.toList.length by rw [vlen]; omega, List.take_left']
        rfl
      · refine vsplit_told s (y :: xs) (b + x.size + 1) (by simp) (fun z hz => hx z (by simp at hz ⊢; exact .inr hz)) (by omega) ?_
        rw [show b + x.size + 1 = b + (x.size + 1) by omega, ← List.drop_drop, hs, ← hr]
        exact List.drop_left' (by rw [List.length_append, vlen]; rfl)
    · intro j h1 h2 h3
      have h4 : j - b < x.data.toList.length := by rw [vlen]; omega
      have := vat_drop s b (j - b) _ hs (by rw [List.length_append, List.length_append]; omega)
      rw [show b + (j - b) = j by omega, List.getElem_append_left (by rw [List.length_append]; omega), List.getElem_append_left h4] at this
      rw [this] at h3
      exact hx x (by simp) _ (List.getElem_mem h4) (by omega)
theorem vsplit_of_join (ps : List ByteArray) (h : ps ≠ []) (hx : ∀ x, x ∈ ps → noneB 46 x) : splitS (joinS ps ⟨#[46]⟩) 46 = ps :=
  vsplit_told _ ps 0 h hx (Nat.zero_le _) (by simp)

theorem vdec_ne : ∀ n, 0 < (Lib.decDigits n).length := by
  intro n
  by_cases h : n < 10
  · rw [vdec_one h]; simp
  · rw [vdec_step h]; simp
theorem vdec_digit (n : Nat) : ∀ u, u ∈ Lib.decDigits n → 48 ≤ u.toNat ∧ u.toNat ≤ 57 := by
  induction n using Nat.strongRecOn with
  | ind n ih =>
    intro u hu
    by_cases h : n < 10
    · rw [vdec_one h, List.mem_singleton] at hu
      subst hu
      simp only [UInt8.toNat_ofNat']
      omega
    · rw [vdec_step h, List.mem_append, List.mem_singleton] at hu
      rcases hu with hu | hu
      · exact ih (n / 10) (by omega) u hu
      · subst hu
        simp only [UInt8.toNat_ofNat']
        omega
theorem vdec_head (n : Nat) (hn : 1 ≤ n) : ∀ u, (Lib.decDigits n)[0]? = some u → u.toNat ≠ 48 := by
  induction n using Nat.strongRecOn with
  | ind n ih =>
    intro u hu
    by_cases h : n < 10
    · rw [vdec_one h, List.getElem?_cons_zero] at hu
      injection hu with hu
      subst hu
      simp only [UInt8.toNat_ofNat']
      omega
    · rw [vdec_step h, List.getElem?_append_left (vdec_ne _)] at hu
      exact ih (n / 10) (by omega) (by omega) u hu
theorem vdec_num (s : ByteArray) : ∀ n k, s.data.toList.take k = Lib.decDigits n → k ≤ s.size → numUpto s k = (n : Int) := by
  intro n
  induction n using Nat.strongRecOn with
  | ind n ih =>
    intro k hk hs
    cases k with
    | zero => exact absurd (vdec_ne n) (by rw [← hk]; simp)
    | succ k =>
      rw [vtake_snoc s k (by omega)] at hk
      have e : numUpto s (k + 1) = numUpto s k * 10 + (((s.data[k]!).toNat : Int) - 48) := rfl
      rw [e]
      by_cases h : n < 10
      · rw [vdec_one h] at hk
        have h1 := List.append_inj' (s₁ := s.data.toList.take k) (s₂ := []) (t₁ := [s.data[k]!]) (t₂ := [UInt8.ofNat (48 + n)]) (by simpa using hk) rfl
        have h2 : k = 0 := by
          have := congrArg List.length h1.1
          rw [List.length_take, vlen, List.length_nil] at this
          omega
        subst h2
        have h3 : s.data[0]! = UInt8.ofNat (48 + n) := by simpa using h1.2
        rw [h3]
        simp only [UInt8.toNat_ofNat', numUpto]
        omega
      · rw [vdec_step h] at hk
        have h1 := List.append_inj' hk rfl
        have h3 : s.data[k]! = UInt8.ofNat (48 + n % 10) := by simpa using h1.2
        rw [ih (n / 10) (by omega) k h1.1 (by omega), h3]
        simp only [UInt8.toNat_ofNat']
        omega
theorem told_num (n : Nat) : numUpto (numStr n) (numStr n).size = (n : Int) :=
  vdec_num (numStr n) n _ (by
    show (Lib.decDigits n).toArray.toList.take _ = _
    rw [List.take_of_length_le]
    exact Nat.le_of_eq (vlen (numStr n))) (Nat.le_refl _)
theorem told_none (c n : Nat) (hc : c < 48) : noneB c (numStr n) := fun u hu he => by
  have := vdec_digit n u hu
  omega

theorem allUpto_of {p : Nat → Int → Bool} {s : ByteArray} : ∀ {n : Nat}, (∀ k, k < n → p k ((s.data[k]!).toNat : Int) = true) → allUpto p s n = true
  | 0, _ => rfl
  | n + 1, h => by
    rw [allUpto, allUpto_of (fun k hk => h k (by omega)), h n (by omega)]; rfl
theorem vat_mem (s : ByteArray) (k : Nat) (h : k < s.size) : s.data[k]! ∈ s.data.toList := by
  have h1 : k < s.data.toList.length := by rw [vlen]; exact h
  have := vat_drop s 0 k _ rfl (by simpa using h1)
  rw [Nat.zero_add] at this
  rw [this]
  simp
theorem told_good (n : Nat) (h : n ≤ 9999) : numGood (numStr n) 9999 = true := by
  have h1 : 1 ≤ (numStr n).size := by rw [← vlen]; exact vdec_ne n
  have h2 := numStr_four n h
  have h3 : allUpto okDigit (numStr n) (numStr n).size = true := allUpto_of (fun k hk => by
    have := vdec_digit n _ (vat_mem (numStr n) k hk)
    rw [okDigit, digitB, decide_eq_true (by omega), decide_eq_true (by omega)]; rfl)
  have h4 : (decide (1 < (numStr n).size) && (((numStr n).data[0]!).toNat : Int) == 48) = false := by
    by_cases hl : 1 < (numStr n).size
    · have hn : 1 ≤ n := by
        cases n with
        | zero =>
          rw [← vlen] at hl
          have e : (numStr 0).data.toList = Lib.decDigits 0 := rfl
          rw [e, vdec_one (by omega)] at hl
          simp at hl
        | succ n => omega
      have h5 : (Lib.decDigits n)[0]? = some ((numStr n).data[0]!) := by
        have := vat_drop (numStr n) 0 0 (Lib.decDigits n) rfl (vdec_ne n)
        rw [Nat.add_zero] at this
        rw [this]
        exact List.getElem?_eq_getElem (vdec_ne n)
      have h6 := vdec_head n hn _ h5
      have h7 : ¬ (((numStr n).data[0]!).toNat : Int) = 48 := by omega
      rw [beq_eq_false_iff_ne.2 h7, Bool.and_false]
    · rw [decide_eq_false hl]; rfl
  rw [numGood, h3, h4, told_num, inB, decide_eq_true (by omega), decide_eq_true (by omega), decide_eq_true (by omega)]; rfl
theorem told_out (n : Nat) (h : n ≤ 9999) : numOut (numStr n) 9999 = (n : Int) := by
  rw [numOut_good (told_good n h), told_num]
theorem part_none {x : ByteArray} (h : partB x = true) : noneB 46 x := by
  intro u hu he
  simp only [partB, Bool.and_eq_true] at h
  obtain ⟨k, hk, e⟩ := List.getElem_of_mem hu
  have h1 := allUpto_at h.1.1 k (by rw [← vlen]; exact hk)
  have h2 := vat_drop x 0 k _ rfl hk
  rw [Nat.zero_add] at h2
  rw [h2] at h1
  have h3 : (x.data.toList.drop 0)[k] = u := e
  rw [h3, okPre, preB, he] at h1
  exact absurd h1 (by decide)
theorem core_none (a b c : Int) : noneB 45 (coreT a b c) := by
  intro u hu
  simp only [coreT, ByteArray.data_append, Array.toList_append, List.mem_append, List.mem_singleton] at hu
  rcases hu with (((hu | hu) | hu) | hu) | hu
  · exact told_none 45 _ (by omega) u hu
  · subst hu; decide
  · exact told_none 45 _ (by omega) u hu
  · subst hu; decide
  · exact told_none 45 _ (by omega) u hu
theorem core_split (a b c : Int) : splitS (coreT a b c) 46 = [numStr a.toNat, numStr b.toNat, numStr c.toNat] := by
  have e : coreT a b c = joinS [numStr a.toNat, numStr b.toNat, numStr c.toNat] ⟨#[46]⟩ := by rw [join_three]; rfl
  rw [e]
  refine vsplit_of_join _ (by simp) (fun x hx => ?_)
  simp at hx
  rcases hx with rfl | rfl | rfl <;> exact told_none 46 _ (by omega)
theorem in_nat {a : Int} (h : inB a 0 9999 = true) : ((a.toNat : Nat) : Int) = a ∧ a.toNat ≤ 9999 := by
  simp only [inB, Bool.and_eq_true, decide_eq_true_eq] at h
  omega

/-- What is told is read. -/
theorem res_told (a b c : Int) (ps : List ByteArray) (h : verB a b c ps = true) : resAll (verT a b c ps) = some ([a, b, c], ps) := by
  have h0 := h
  simp only [verB, Bool.and_eq_true, decide_eq_true_eq, parts_all] at h
  obtain ⟨⟨⟨⟨gp, ga⟩, gb⟩, gc⟩, gl⟩ := h
  obtain ⟨ea, la⟩ := in_nat ga
  obtain ⟨eb, lb⟩ := in_nat gb
  obtain ⟨ec, lc⟩ := in_nat gc
  rw [verT, h0, if_pos rfl]
  have fin : ∀ (s : ByteArray) (k : Nat), k ≤ s.size → (k < s.size → ((s.data[k]!).toNat : Int) = 45) → (∀ j, j < k → ¬ ((s.data[j]!).toNat : Int) = 45) → s.extract 0 k = coreT a b c → (ps = if k < s.size then splitS (s.extract (k + 1) s.size) 46 else []) → resAll s = some ([a, b, c], ps) := by
    intro s k hk hd hn h1 h2
    rw [res_spec s k hk hd hn [numStr a.toNat, numStr b.toNat, numStr c.toNat] ps (by rw [h1, core_split]) h2]
    rw [gp, decide_eq_true gl]
    simp only [List.all_cons, List.all_nil, List.map_cons, List.map_nil, told_good _ la, told_good _ lb, told_good _ lc, told_out _ la, told_out _ lb, told_out _ lc, ea, eb, ec, List.length_cons, List.length_nil]
    rfl
  by_cases hp : 0 < ps.length
  · rw [if_pos hp]
    obtain ⟨r, hr⟩ : ∃ r, r = joinS ps ⟨#[46]⟩ := ⟨_, rfl⟩
    rw [← hr]
    have hd : (coreT a b c ++ ⟨#[45]⟩ ++ r).data.toList = (coreT a b c).data.toList ++ [45] ++ r.data.toList := by
      simp only [ByteArray.data_append, Array.toList_append]
    have hcn := core_none a b c
    generalize coreT a b c = K at *
    have hsz : (K ++ ⟨#[45]⟩ ++ r).size = K.size + 1 + r.size := by
      rw [← vlen, hd, List.length_append, List.length_append, vlen, vlen]; rfl
    generalize K ++ ⟨#[45]⟩ ++ r = s at *
    have hd0 : s.data.toList.drop 0 = K.data.toList ++ [45] ++ r.data.toList := by rw [List.drop_zero, hd]
    refine fin s K.size (by omega) (fun _ => ?_) (fun j hj he => ?_) ?_ ?_
    · have := vat_drop s 0 K.size _ hd0 (by rw [List.length_append, List.length_append, vlen]; simp; omega)
      rw [Nat.zero_add] at this
      rw [this, List.getElem_append_left (by rw [List.length_append, vlen]; simp), List.getElem_append_right (by rw [vlen]; exact Nat.le_refl _)]
      simp [vlen]
    · have h4 : j < K.data.toList.length := by rw [vlen]; exact hj
      have := vat_drop s 0 j _ hd0 (by rw [List.length_append, List.length_append]; omega)
      rw [Nat.zero_add, List.getElem_append_left (by rw [List.length_append]; omega), List.getElem_append_left h4] at this
      rw [this] at he
      exact hcn _ (List.getElem_mem h4) (by omega)
    · apply vext
      rw [vextract, hd0, List.append_assoc, Nat.sub_zero]
      exact List.take_left' (vlen K)
    · rw [if_pos (by omega)]
      have e : s.extract (K.size + 1) s.size = r := by
        apply vext
        rw [vextract, hd, List.drop_left' (by rw [List.length_append, vlen]; rfl)]
        exact List.take_of_length_le (by rw [vlen]; omega)
      rw [e, hr, vsplit_of_join ps (List.length_pos_iff.1 hp) (fun x hx => part_none (List.all_eq_true.1 gp x hx))]
  · rw [if_neg hp]
    have : ps = [] := List.length_eq_zero_iff.1 (by omega)
    refine fin _ (coreT a b c).size (Nat.le_refl _) (fun h => by omega) (fun j hj he => ?_) (vwhole _) (by rw [if_neg (by omega), this])
    exact core_none a b c _ (vat_mem _ j hj) (by omega)
#print axioms res_told
end Go.Proofs.YtijmocdkaabijaaGreatDoor

/-! What is read of a text as a version is a right one: plain facts. -/
namespace Go.Proofs.YtijmocdkaabijaaGreatDoor
open Go.RowKit
set_option linter.unusedSimpArgs false
set_option linter.unusedVariables false

theorem bk_back (t : ByteArray) (h : resOk t = true) : verT (resN t 0) (resN t 1) (resN t 2) (resP t) = t := by
  unfold resOk at h
  obtain ⟨⟨ns, ps⟩, hx⟩ := Option.isSome_iff_exists.1 h
  obtain ⟨a, b, c, rfl, hv⟩ := res_back t ns ps hx
  simp only [resN, resP, hx]
  exact hv
theorem bk_parts : ∀ ps : List ByteArray, (∀ x ∈ ps, x.size ≤ 8) → (ps.map ByteArray.size).sum ≤ 8 * ps.length
  | [], _ => by simp
  | x :: ps, h => by
    have := bk_parts ps (fun t ht => h t (List.mem_cons_of_mem _ ht))
    have := h x (List.mem_cons_self ..)
    simp only [List.map_cons, List.sum_cons, List.length_cons]
    omega
theorem bk_bulk {a b c : Int} {ps : List ByteArray} (h : verB a b c ps = true) : bulkS ps ≤ 27 := by
  have hp : partsUpto ps ps.length = true := by
    cases hh : partsUpto ps ps.length with
    | true => rfl
    | false => rw [verB_parts hh] at h; exact absurd h (by decide)
  have hl : ps.length ≤ 3 := by
    rw [verB_all hp] at h
    simp at h
    omega
  have hx : ∀ x ∈ ps, x.size ≤ 8 := fun x hm => by
    obtain ⟨k, hk, rfl⟩ := List.getElem_of_mem hm
    cases hb : partB ps[k] with
    | false => rw [parts_end hk hb] at hp; exact absurd hp (by decide)
    | true =>
      simp only [partB, Bool.and_eq_true] at hb
      have h2 := hb.1.2
      simp [inB] at h2
      omega
  have := bk_parts ps hx
  unfold bulkS
  omega
theorem bk_empty : resOk ⟨#[]⟩ = false := by decide +kernel
theorem bk_ver (t : ByteArray) (h : resOk t = true) : verB (resN t 0) (resN t 1) (resN t 2) (resP t) = true := by
  have hb := bk_back t h
  cases hv : verB (resN t 0) (resN t 1) (resN t 2) (resP t) with
  | true => rfl
  | false =>
    have e : verT (resN t 0) (resN t 1) (resN t 2) (resP t) = ⟨#[]⟩ := by simp [verT, hv]
    rw [e] at hb
    rw [← hb, bk_empty] at h
    exact absurd h (by decide)
theorem bk_num {t : ByteArray} (h : numGood t 9999 = true) : 0 ≤ numOut t 9999 ∧ numOut t 9999 ≤ 9999 := by
  refine ⟨(num_str h).2, ?_⟩
  rw [numOut_good h]
  simp only [numGood, Bool.and_eq_true, decide_eq_true_eq] at h
  exact h.2
end Go.Proofs.YtijmocdkaabijaaGreatDoor

/-! The Cmps that a word makes, the program's: a contract for the walks; conditions: the word has at most 2 to the 20 bytes, the table of signs holds what the text lays. -/
namespace Go.Proofs.YtijmocdkaabijaaGreatDoor
open Go.RowKit
set_option linter.unusedSimpArgs false
set_option linter.unusedVariables false

theorem part_nums {s : ByteArray} (h : partOk s = true) : numsOk (partA s) (partB' s) (partC s) ∧ (partT s = 1 ∨ partT s = 2 ∨ partT s = 3) ∧ bulkS (partP s) ≤ 27 := by
  cases hr : resOk s with
  | true =>
    have hv := bk_ver s hr
    obtain ⟨h1, h2, h3⟩ := verB_nums hv
    have hb := bk_bulk hv
    simp only [partA, partB', partC, partT, partP, partAll, hr, if_true, Option.getD_some]
    exact ⟨⟨in_range h1, in_range h2, in_range h3⟩, .inr (.inr (by simp)), hb⟩
  | false =>
    cases hp : partW (splitS s 46) with
    | none => simp [partOk, partAll, hr, hp] at h
    | some x =>
      obtain ⟨a, b, t⟩ := x
      have e : partAll s = some (a, b, 0, [], t) := by simp [partAll, hr, hp]
      simp only [partA, partB', partC, partT, partP, e, Option.getD_some]
      have hx : (0 ≤ a ∧ a ≤ 9999) ∧ (0 ≤ b ∧ b ≤ 9999) ∧ (t = 1 ∨ t = 2) := by
        unfold partW at hp
        split at hp
        · simp at hp
        split at hp
        · split at hp
          · rename_i hg
            simp at hp
            obtain ⟨rfl, rfl, rfl⟩ := hp
            exact ⟨bk_num hg, by omega, .inl rfl⟩
          · simp at hp
        · split at hp
          · rename_i hg
            simp at hp hg
            obtain ⟨rfl, rfl, rfl⟩ := hp
            exact ⟨bk_num hg.1, bk_num hg.2, .inr rfl⟩
          · simp at hp
      refine ⟨⟨hx.1, hx.2.1, by omega, by omega⟩, ?_, by simp [bulkS]⟩
      rcases hx.2.2 with h | h
      · exact .inl h
      · exact .inr (.inl h)

def starT : ByteArray := ⟨#[42]⟩
/-- The Cmps that a word makes, and whether it is one. -/
def wordD (s : ByteArray) : List CmpD :=
  if s = ⟨#[42]⟩ then [⟨4, 0, 0, 0, []⟩] else if partOk (signRest s) then makeC (signOf s) (partA (signRest s)) (partB' (signRest s)) (partC (signRest s)) (partP (signRest s)) (partT (signRest s)) else []
def wordOk (s : ByteArray) : Bool := decide (s = ⟨#[42]⟩) || (partOk (signRest s) && (wordD s).all goodD)

theorem signRest_size (s : ByteArray) : (signRest s).size ≤ s.size := by
  have h : ∀ n, (signGo s n).2.size ≤ s.size := fun n => by
    induction n with
    | zero => exact Nat.le_refl _
    | succ n ih =>
      rw [signGo]
      split
      · show (cutRest s _).size ≤ _
        unfold cutRest
        split <;> first | (rw [ByteArray.size_extract]; omega) | exact Nat.le_refl _
      · exact ih
  exact h 7

theorem make_bulk (sign a b c : Int) (ps : List ByteArray) (t : Int) (h : bulkS ps ≤ 27) : ∀ d ∈ makeC sign a b c ps t, bulkS d.ps ≤ 1048576 := by
  have hz : bulkS [zeroT] ≤ 1048576 := by decide
  have hn : bulkS ([] : List ByteArray) ≤ 1048576 := by decide
  have hp : bulkS ps ≤ 1048576 := by omega
  unfold makeC
  dsimp only
  intro d hd
  split at hd
  · simp at hd; rcases hd with rfl | rfl <;> assumption
  split at hd
  · simp at hd; rcases hd with rfl | rfl <;> assumption
  split at hd
  · simp at hd; subst hd; assumption
  split at hd
  · simp at hd; subst hd; assumption
  split at hd
  · simp at hd; subst hd; assumption
  · simp at hd; rcases hd with rfl | rfl <;> assumption
theorem make_len (sign a b c : Int) (ps : List ByteArray) (t : Int) : (makeC sign a b c ps t).length ≤ 2 := by
  unfold makeC
  dsimp only
  repeat (split; · simp)
  simp

theorem own_nilC (w : World) (lo : Nat) : CmpsOwn lo w (.slice none 0 0) [] :=
  ⟨[], fun _ => undef, ⟨rfl, .inl ⟨rfl, rfl⟩⟩, fun i h => by simp at h, fun i j h => by simp at h⟩

set_option maxHeartbeats 2000000 in
set_option maxRecDepth 100000 in
theorem cmpsOfWord_c (s : ByteArray) (hs : s.size ≤ 1048576) (w : World) (hsg : ∀ k (h : k < signsT.length), w.cell? ⟨0, k, none⟩ = some (.string signsT[k])) :
    Calls Tryz.prog 46 #[.string s] w fun e w' => ∃ v, e = .returned (.tuple #[v, .bool (wordOk s)]) ∧ CmpsOwn w.heap.size w' v (wordD s) ∧ Below w.heap.size w w' := by
  by_cases hst : s = ⟨#[42]⟩
  · have e1 : wordOk s = true := by simp [wordOk, hst]
    have e2 : wordD s = [⟨4, 0, 0, 0, []⟩] := by simp [wordD, hst]
    rw [e1, e2]
    subst hst
    clear e1 e2 hsg
    go_enter Tryz.func46, Tryz.ntmps46
    go_wp2_with fail
    go_ret2
    exact ⟨_, rfl, one_own ⟨4, 0, 0, 0, []⟩ rfl (Nat.le_refl _) (owns_nil _ _), (Below.refl _ _).alloc (Nat.le_refl _) _⟩
  have hsb : (s.toList == [42]) = false := by rw [beq_eq_false_iff_ne]; intro h; exact hst (bytes_eq_of_toList (by rw [h, ByteArray.toList_eq]))
  have HC := cutSign_c s hs w hsg
  have hrs : (signRest s).size ≤ 1048576 := Nat.le_trans (signRest_size s) hs
  have HP : Hid (∀ w1, Calls Tryz.prog 87 #[.string (signRest s)] w1 fun e w' => ∃ u, e = .returned (partOut (signRest s) u) ∧ w'.ownsRow w1.heap.size 9 1 u (partP (signRest s)).length (strsV (partP (signRest s))) ∧ Below w1.heap.size w1 w') := fun w1 => parsePart_c _ hrs w1
  have HW : Hid (wordD s = if partOk (signRest s) then makeC (signOf s) (partA (signRest s)) (partB' (signRest s)) (partC (signRest s)) (partP (signRest s)) (partT (signRest s)) else []) := by show _ = _; rw [wordD, if_neg hst]
  have HO : Hid (wordOk s = (partOk (signRest s) && (wordD s).all goodD)) := by show _ = _; rw [wordOk, decide_eq_false hst, Bool.false_or]
  have HQ : Hid (partOk (signRest s) = true → numsOk (partA (signRest s)) (partB' (signRest s)) (partC (signRest s)) ∧ (partT (signRest s) = 1 ∨ partT (signRest s) = 2 ∨ partT (signRest s) = 3) ∧ bulkS (partP (signRest s)) ≤ 27) := part_nums
  obtain ⟨D, hD⟩ : ∃ D, D = wordD s := ⟨_, rfl⟩
  obtain ⟨K, hK⟩ : ∃ K, K = wordOk s := ⟨_, rfl⟩
  rw [← hD, ← hK] at HO
  rw [← hD] at HW
  rw [← hD, ← hK]
  unfold partOut at HP
  obtain ⟨sg, hsg0⟩ : ∃ x, x = signOf s := ⟨_, rfl⟩
  obtain ⟨rs, hrs0⟩ : ∃ x, x = signRest s := ⟨_, rfl⟩
  rw [← hsg0, ← hrs0] at HC HW
  rw [← hrs0] at HP HO HQ
  obtain ⟨ok, hok⟩ : ∃ x, x = partOk rs := ⟨_, rfl⟩
  obtain ⟨pa, hpa⟩ : ∃ x, x = partA rs := ⟨_, rfl⟩
  obtain ⟨pb, hpb⟩ : ∃ x, x = partB' rs := ⟨_, rfl⟩
  obtain ⟨pc, hpc⟩ : ∃ x, x = partC rs := ⟨_, rfl⟩
  obtain ⟨pp, hpp⟩ : ∃ x, x = partP rs := ⟨_, rfl⟩
  obtain ⟨pt, hpt⟩ : ∃ x, x = partT rs := ⟨_, rfl⟩
  rw [← hok, ← hpa, ← hpb, ← hpc, ← hpp, ← hpt] at HP HQ HW
  rw [← hok] at HO
  clear hD hK hsg0 hrs0 hok hpa hpb hpc hpp hpt hst hsg hrs
  go_enter Tryz.func46, Tryz.ntmps46
  go_wp2_with fail
  go_at_call 86
  refine HC.mono ?_
  rintro e w0 ⟨rfl, rfl⟩
  go_wp2_with fail
  go_at_call 87
  refine (HP.out _).mono ?_
  rintro e w1 ⟨u, rfl, o1, b1⟩
  obtain ⟨q, n, cap, hu⟩ : ∃ q n c, u = .slice q n c := by rcases o1.2 with ⟨rfl, _⟩ | ⟨g, cap, cur, rfl, _⟩ <;> exact ⟨_, _, _, rfl⟩
  subst hu
  have tA : Below w1.heap.size w1 (w1.alloc (.cells #[.int .i64 pa, .int .i64 pb, .int .i64 pc, .slice q n cap, .int .i64 pt] 137)) := (Below.refl _ _).alloc (Nat.le_refl _) _
  have k2 := b1.trans (tA.mono b1.size)
  have o2 := owns_of_below o1 tA
  clear HC HP
  cases ok with
  | false =>
    have e1 : D = [] := HW.out
    have e2 : K = false := HO.out
    subst e1 e2
    clear HW HO HQ o1 o2
    go_wp2_with fail
    go_ret2
    exact ⟨_, rfl, own_nilC _ _, k2⟩
  | true =>
    obtain ⟨hnum, ht, hbk⟩ := HQ.out rfl
    have e1 : D = makeC sg pa pb pc pp pt := HW.out
    have e2 : K = D.all goodD := HO.out
    have HM : Hid (∀ W, Below w1.heap.size w1 W → Calls Tryz.prog 88 #[.agg #[.int .i64 pa, .int .i64 pb, .int .i64 pc, .slice q n cap, .int .i64 pt], .int .i64 sg] W fun e w' => ∃ v, e = .returned v ∧ CmpsOwn w.heap.size w' v D ∧ Below W.heap.size W w') := fun W h => by rw [e1]; exact cmps_c w.heap.size sg pa pb pc _ pp pt W (Nat.le_trans b1.size h.size) hnum ht (owns_of_below o1 h)
    have hDb : ∀ d ∈ D, bulkS d.ps ≤ 1048576 := by rw [e1]; exact make_bulk _ _ _ _ _ _ hbk
    have hDl : D.length ≤ 1048576 := by rw [e1]; have := make_len sg pa pb pc pp pt; omega
    have HK : Hid (K = D.all goodD) := e2
    clear HW HO HQ e1 e2 hnum ht hbk o1 o2
    go_wp2_with fail
    generalize (w1.alloc (.cells #[.int .i64 pa, .int .i64 pb, .int .i64 pc, .slice q n cap, .int .i64 pt] 137)) = W2 at tA k2 ⊢
    go_at_call 88
    refine (HM.out _ tA).mono ?_
    rintro e w3 ⟨v, rfl, hv, b3⟩
    have HB := containsBad_c w.heap.size v D w3 hv hDl hDb
    rw [← HK.out] at HB
    have k3 := k2.trans (b3.mono k2.size)
    obtain ⟨vq, vcap, us, hv2, _, _⟩ := hv.at
    subst hv2
    go_wp2_with (go_at_call 89; refine HB.mono ?_; rintro e w4 ⟨rfl, b4⟩)
    go_ret2
    exact ⟨_, by simp, hv.below b4, k3.trans (b4.mono k3.size)⟩
end Go.Proofs.YtijmocdkaabijaaGreatDoor

/-! Lists of Cmps that the call holds alone, put one behind the other: what an append leaves; and the Cmps of two versions with a dash between, the program's: contracts for the walks; conditions: the texts have at most 2 to the 20 bytes. -/
namespace Go.Proofs.YtijmocdkaabijaaGreatDoor
open Go.RowKit
set_option linter.unusedSimpArgs false
set_option linter.unusedVariables false

theorem rows5_apart {w : World} {base base' e e' : Nat} {v v' : Value} {n n' : Nat} {xs xs' : List Value} (h : w.ownsRow base e 5 v n xs) (h' : w.ownsRow base' e' 1 v' n' xs') (hne : e ≠ e') : v'.ownBlock = none ∨ v'.ownBlock ≠ v.ownBlock := by
  rcases h.2 with ⟨rfl, _⟩ | ⟨g, cap, cur, rfl, _, hg, _⟩
  · rcases h'.2 with ⟨rfl, _⟩ | ⟨g', cap', cur', rfl, _, hg', _⟩
    · exact .inl rfl
    · exact .inr (by simp [Value.ownBlock])
  · rcases h'.2 with ⟨rfl, _⟩ | ⟨g', cap', cur', rfl, _, hg', _⟩
    · exact .inl rfl
    · refine .inr fun e1 => hne ?_
      simp only [Value.ownBlock, Option.some.injEq] at e1
      subst e1
      rw [hg] at hg'
      simp only [Option.some.injEq, Obj.cells.injEq] at hg'
      exact hg'.2.1

theorem five_all {ys : List Value} {ds : List CmpD} {us : Nat → Value} (hl : ys.length = ds.length * 5) (hu : ∀ i, i < ds.length → (us i).oneCell' = true) (h : ∀ i (h : i < ds.length), FiveAt ys (i * 5) (.int .i64 ds[i].o) (.int .i64 ds[i].a) (.int .i64 ds[i].b) (.int .i64 ds[i].c) (us i)) : ∀ u ∈ ys, u.oneCell' = true := by
  intro u hm
  obtain ⟨j, hj, rfl⟩ := List.getElem_of_mem hm
  have hi : j / 5 < ds.length := by omega
  obtain ⟨f0, f1, f2, f3, f4⟩ := h (j / 5) hi
  have e : ys[j]? = some ys[j] := List.getElem?_eq_getElem hj
  rcases (show j = j / 5 * 5 ∨ j = j / 5 * 5 + 1 ∨ j = j / 5 * 5 + 2 ∨ j = j / 5 * 5 + 3 ∨ j = j / 5 * 5 + 4 by omega) with hh | hh | hh | hh | hh
  · rw [← hh, e] at f0; rw [Option.some.inj f0]; rfl
  · rw [← hh, e] at f1; rw [Option.some.inj f1]; rfl
  · rw [← hh, e] at f2; rw [Option.some.inj f2]; rfl
  · rw [← hh, e] at f3; rw [Option.some.inj f3]; rfl
  · rw [← hh, e] at f4; rw [Option.some.inj f4]; exact hu _ hi

/-- What an append of one list of Cmps to another leaves. -/
theorem CmpsOwn.app {lo : Nat} {wk w1 : World} {v v' : Value} {ds ds' : List CmpD} (h : CmpsOwn lo wk v ds) (hlo : lo ≤ wk.heap.size) (b : Below wk.heap.size wk w1) (h' : CmpsOwn wk.heap.size w1 v' ds') (hne : ds' ≠ []) :
    ∃ (ys ys' : List Value) (g cap : Nat), w1.ownsRow lo 103 5 v ds.length ys ∧ v' = .slice (some ⟨g, 0, none⟩) ds'.length cap ∧ ys'.length = ds'.length * 5 ∧ (∀ j u, ys'[j]? = some u → w1.cell? ((⟨g, 0, none⟩ : Addr).add j) = some u) ∧ (∀ u ∈ ys', u.oneCell' = true) ∧
      ∀ w2 v2, w2.ownsRow lo 103 5 v2 (ds.length + ds'.length) (ys ++ ys') → w1.grownBy w2 v.ownBlock → CmpsOwn lo w2 v2 (ds ++ ds') := by
  obtain ⟨ys, us, h1, h2, h3⟩ := h
  obtain ⟨ys', us', k1, k2, k3⟩ := h'
  have h1' := own_kept5 h1 b
  have hly : ys.length = ds.length * 5 := h1.1
  have hly' : ys'.length = ds'.length * 5 := k1.1
  obtain ⟨g, cap, hv⟩ : ∃ g cap, v' = .slice (some ⟨g, 0, none⟩) ds'.length cap := by
    rcases k1.2 with ⟨_, hn⟩ | ⟨g, cap, cur, rfl, _⟩
    · exact absurd (List.eq_nil_of_length_eq_zero hn) hne
    · exact ⟨g, cap, rfl⟩
  subst hv
  have hone : ∀ (u : Value) (n : Nat) (xs : List Value) base, w1.ownsRow base 9 1 u n xs → u.oneCell' = true := fun u n xs base hu => by
    rcases hu.2 with ⟨rfl, _⟩ | ⟨g, cap, cur, rfl, _⟩ <;> rfl
  refine ⟨ys, ys', g, cap, h1', rfl, hly', fun j u hj => ?_, five_all hly' (fun i hi => hone _ _ _ _ (k2 i hi).2) (fun i hi => (k2 i hi).1), fun w2 v2 o2 gr => ?_⟩
  · have hjl : j < ys'.length := (List.getElem?_eq_some_iff.1 hj).1
    have e : ((⟨g, 0, none⟩ : Addr).add j) = ⟨g, j, none⟩ := by unfold Addr.add; split <;> simp_all
    rw [e, k1.cellAt j (by omega)]
    exact hj
  · refine ⟨ys ++ ys', fun i => if i < ds.length then us i else us' (i - ds.length), by rw [List.length_append]; exact o2, fun i hi => ?_, fun i j hi hj hij he => ?_⟩
    · by_cases hl : i < ds.length
      · simp only [hl, if_true, List.getElem_append_left hl]
        obtain ⟨⟨f0, f1, f2, f3, f4⟩, fo⟩ := h2 i hl
        refine ⟨⟨?_, ?_, ?_, ?_, ?_⟩, ?_⟩
        · rw [List.getElem?_append_left (by omega)]; exact f0
        · rw [List.getElem?_append_left (by omega)]; exact f1
        · rw [List.getElem?_append_left (by omega)]; exact f2
        · rw [List.getElem?_append_left (by omega)]; exact f3
        · rw [List.getElem?_append_left (by omega)]; exact f4
        · have fo1 := owns_of_below fo b
          exact fo1.kept gr (rows5_apart h1' fo1 (by decide))
      · have hi' : i - ds.length < ds'.length := by rw [List.length_append] at hi; omega
        have eg : (ds ++ ds')[i] = ds'[i - ds.length] := List.getElem_append_right (by omega)
        simp only [hl, if_false, eg]
        obtain ⟨⟨f0, f1, f2, f3, f4⟩, fo⟩ := k2 (i - ds.length) hi'
        refine ⟨⟨?_, ?_, ?_, ?_, ?_⟩, ?_⟩
        · rw [List.getElem?_append_right (by omega), show i * 5 - ys.length = (i - ds.length) * 5 by omega]; exact f0
        · rw [List.getElem?_append_right (by omega), show i * 5 + 1 - ys.length = (i - ds.length) * 5 + 1 by omega]; exact f1
        · rw [List.getElem?_append_right (by omega), show i * 5 + 2 - ys.length = (i - ds.length) * 5 + 2 by omega]; exact f2
        · rw [List.getElem?_append_right (by omega), show i * 5 + 3 - ys.length = (i - ds.length) * 5 + 3 by omega]; exact f3
        · rw [List.getElem?_append_right (by omega), show i * 5 + 4 - ys.length = (i - ds.length) * 5 + 4 by omega]; exact f4
        · exact (owns_base fo hlo).kept gr (rows5_apart h1' fo (by decide))
    · rw [List.length_append] at hi hj
      have apart : ∀ i j, i < ds.length → ¬ j < ds.length → j - ds.length < ds'.length → (us i).ownBlock = (us' (j - ds.length)).ownBlock → (us i).ownBlock = none := fun i j hi hj hj' he => by
        cases hk : (us i).ownBlock with
        | none => rfl
        | some k =>
          have a1 := ((h2 i hi).2.lt k hk).2
          rw [hk] at he
          have a2 := ((k2 _ hj').2.lt k he.symm).1
          omega
      by_cases hi1 : i < ds.length
      · by_cases hj1 : j < ds.length
        · simp only [hi1, hj1, if_true] at he ⊢
          exact h3 i j hi1 hj1 hij he
        · simp only [hi1, hj1, if_true, if_false] at he ⊢
          exact apart i j hi1 hj1 (by omega) he
      · by_cases hj1 : j < ds.length
        · simp only [hi1, hj1, if_true, if_false] at he ⊢
          rw [he]
          exact apart j i hj1 hi1 (by omega) he.symm
        · simp only [hi1, hj1, if_false] at he ⊢
          exact k3 _ _ (by omega) (by omega) (by omega) he

/-- The Cmps of two versions with a dash between. -/
def betweenOk (x y : ByteArray) : Bool := resOk x && resOk y
def betweenD (x y : ByteArray) : List CmpD := if betweenOk x y then [⟨4, resN x 0, resN x 1, resN x 2, resP x⟩, ⟨2, resN y 0, resN y 1, resN y 2, resP y⟩] else []

set_option maxHeartbeats 2000000 in
set_option maxRecDepth 100000 in
theorem cmpsBetween_c (x y : ByteArray) (hx : x.size ≤ 1048576) (hy : y.size ≤ 1048576) (w : World) :
    Calls Tryz.prog 45 #[.string x, .string y] w fun e w' => ∃ v, e = .returned (.tuple #[v, .bool (betweenOk x y)]) ∧ CmpsOwn w.heap.size w' v (betweenD x y) ∧ Below w.heap.size w w' := by
  have HX : Hid (∀ w1, Calls Tryz.prog 85 #[.string x] w1 fun e w' => ∃ u, e = .returned (verOut x u) ∧ w'.ownsRow w1.heap.size 9 1 u (resP x).length (strsV (resP x)) ∧ Below w1.heap.size w1 w') := fun w1 => implParse_c x hx w1
  have HY : Hid (∀ w1, Calls Tryz.prog 85 #[.string y] w1 fun e w' => ∃ u, e = .returned (verOut y u) ∧ w'.ownsRow w1.heap.size 9 1 u (resP y).length (strsV (resP y)) ∧ Below w1.heap.size w1 w') := fun w1 => implParse_c y hy w1
  have HD : Hid (betweenD x y = if resOk x && resOk y then [⟨4, resN x 0, resN x 1, resN x 2, resP x⟩, ⟨2, resN y 0, resN y 1, resN y 2, resP y⟩] else []) := rfl
  have HO : Hid (betweenOk x y = (resOk x && resOk y)) := rfl
  unfold verOut at HX HY
  obtain ⟨D, hD⟩ : ∃ D, D = betweenD x y := ⟨_, rfl⟩
  obtain ⟨K, hK⟩ : ∃ K, K = betweenOk x y := ⟨_, rfl⟩
  rw [← hD] at HD
  rw [← hK] at HO
  rw [← hD, ← hK]
  obtain ⟨x1, hx1⟩ : ∃ z, z = resN x 0 := ⟨_, rfl⟩
  obtain ⟨x2, hx2⟩ : ∃ z, z = resN x 1 := ⟨_, rfl⟩
  obtain ⟨x3, hx3⟩ : ∃ z, z = resN x 2 := ⟨_, rfl⟩
  obtain ⟨px, hpx⟩ : ∃ z, z = resP x := ⟨_, rfl⟩
  obtain ⟨okx, hokx⟩ : ∃ z, z = resOk x := ⟨_, rfl⟩
  obtain ⟨y1, hy1⟩ : ∃ z, z = resN y 0 := ⟨_, rfl⟩
  obtain ⟨y2, hy2⟩ : ∃ z, z = resN y 1 := ⟨_, rfl⟩
  obtain ⟨y3, hy3⟩ : ∃ z, z = resN y 2 := ⟨_, rfl⟩
  obtain ⟨py, hpy⟩ : ∃ z, z = resP y := ⟨_, rfl⟩
  obtain ⟨oky, hoky⟩ : ∃ z, z = resOk y := ⟨_, rfl⟩
  rw [← hx1, ← hx2, ← hx3, ← hpx, ← hokx] at HX
  rw [← hy1, ← hy2, ← hy3, ← hpy, ← hoky] at HY
  rw [← hx1, ← hx2, ← hx3, ← hpx, ← hokx, ← hy1, ← hy2, ← hy3, ← hpy, ← hoky] at HD
  rw [← hokx, ← hoky] at HO
  clear hD hK hx1 hx2 hx3 hpx hokx hy1 hy2 hy3 hpy hoky
  go_enter Tryz.func45, Tryz.ntmps45
  go_wp2_with fail
  go_at_call 85
  refine (HX.out _).mono ?_
  rintro e w1 ⟨u1, rfl, o1, b1⟩
  obtain ⟨q1, n1, c1, hu⟩ : ∃ q n c, u1 = .slice q n c := by rcases o1.2 with ⟨rfl, _⟩ | ⟨g, cap, cur, rfl, _⟩ <;> exact ⟨_, _, _, rfl⟩
  subst hu
  have tA : Below w1.heap.size w1 (w1.alloc (.cells #[.int .i64 x1, .int .i64 x2, .int .i64 x3, .slice q1 n1 c1] 26)) := (Below.refl _ _).alloc (Nat.le_refl _) _
  have A1 := four_new w1 26 (.int .i64 x1) (.int .i64 x2) (.int .i64 x3) (.slice q1 n1 c1)
  have oA := owns_of_below o1 tA
  have kA := b1.trans (tA.mono b1.size)
  go_wp2_with fail
  obtain ⟨BA, hBA⟩ : ∃ B, B = w1.heap.size := ⟨_, rfl⟩
  generalize (w1.alloc (.cells #[.int .i64 x1, .int .i64 x2, .int .i64 x3, .slice q1 n1 c1] 26)) = W1 at tA A1 oA kA ⊢
  rw [← hBA] at A1 ⊢
  clear hBA tA o1 b1 HX
  go_at_call 85
  refine (HY.out _).mono ?_
  rintro e w2 ⟨u2, rfl, o2, b2⟩
  obtain ⟨q2, n2, c2, hu⟩ : ∃ q n c, u2 = .slice q n c := by rcases o2.2 with ⟨rfl, _⟩ | ⟨g, cap, cur, rfl, _⟩ <;> exact ⟨_, _, _, rfl⟩
  subst hu
  have tB : Below w2.heap.size w2 (w2.alloc (.cells #[.int .i64 y1, .int .i64 y2, .int .i64 y3, .slice q2 n2 c2] 26)) := (Below.refl _ _).alloc (Nat.le_refl _) _
  have A2 := (A1.keep b2).keep tB
  have oA2 := owns_of_below (owns_of_below oA b2) tB
  have oB2 := owns_of_below o2 tB
  have B2 := four_new w2 26 (.int .i64 y1) (.int .i64 y2) (.int .i64 y3) (.slice q2 n2 c2)
  have k2 := kA.trans (b2.mono kA.size)
  have k3 := k2.trans (tB.mono k2.size)
  have hap : Value.ownBlock (.slice q1 n1 c1) = Value.ownBlock (.slice q2 n2 c2) → Value.ownBlock (.slice q1 n1 c1) = none := fun he => by
    cases hk : Value.ownBlock (.slice q1 n1 c1) with
    | none => rfl
    | some k =>
      have a1 := (oA.lt k hk).2
      rw [hk] at he
      have a2 := (o2.lt k he.symm).1
      omega
  have lA := A2.lt
  have hAB := (A1.keep b2).lt
  obtain ⟨xa0, xa1, xa2, xa3⟩ := (A1.keep b2).cells
  have hWl := kA.size
  clear HY A1 oA b2 o2 kA
  cases okx with
  | false =>
    have e1 : D = [] := HD.out
    have e2 : K = false := HO.out
    subst e1 e2
    clear HD HO
    go_wp2_with fail
    go_ret2
    exact ⟨_, rfl, own_nilC _ _, k3⟩
  | true =>
    cases oky with
    | false =>
      have e1 : D = [] := HD.out
      have e2 : K = false := HO.out
      subst e1 e2
      clear HD HO
      go_wp2_with fail
      go_ret2
      exact ⟨_, rfl, own_nilC _ _, k3⟩
    | true =>
      have e1 : D = [⟨4, x1, x2, x3, px⟩, ⟨2, y1, y2, y3, py⟩] := HD.out
      have e2 : K = true := HO.out
      subst e1 e2
      clear HD HO
      go_wp2_with fail
      go_ret2
      exact ⟨_, rfl, two_own ⟨4, x1, x2, x3, px⟩ ⟨2, y1, y2, y3, py⟩ (by simp) k3.size oA2 (owns_base oB2 hWl) hap, k3.alloc k3.size _⟩
end Go.Proofs.YtijmocdkaabijaaGreatDoor

/-! What the law's helpers that mark a version's texts, and look whether the marks are held, answer: contracts for the walks; condition: the list lies in memory as told. -/
namespace Go.Proofs.YtijmocdkaabijaaGreatDoor
open Go.RowKit
set_option linter.unusedSimpArgs false
set_option linter.unusedVariables false

theorem Four.turned {w w' : World} {R : Nat} {t : TypeId} {c0 c1 c2 c3 : Value} {row : Option Nat} (h : Four w R t c0 c1 c2 c3) (hg : w.grownBy w' row) (hne : row ≠ some R) : Four w' R t c0 c1 c2 c3 :=
  (hg.block R h.lt (fun e => hne e.symm)).trans h
theorem below_turned {B : Nat} {w0 w w' : World} {row : Option Nat} (h : Below B w0 w) (hg : w.grownBy w' row) (hB : B ≤ w.heap.size) (hrow : ∀ k, row = some k → B ≤ k) : Below B w0 w' :=
  h.trans ⟨hg.os, hg.tape, hg.output, hg.size, fun k hk => hg.block k (by omega) (fun e => by have := hrow k e.symm; omega)⟩

end Go.Proofs.YtijmocdkaabijaaGreatDoor

/-! The Cmps that a list of words makes, the program's: a contract for the walks; conditions: the text has at most 2 to the 20 bytes, the table of signs holds what the text lays. -/
namespace Go.Proofs.YtijmocdkaabijaaGreatDoor
open Go.RowKit
set_option linter.unusedSimpArgs false
set_option linter.unusedVariables false

/-- The Cmps that words make, one behind the other, at most four; none where a word is none. -/
def foldW : List ByteArray → List CmpD → Option (List CmpD)
  | [], acc => some acc
  | x :: ws, acc => if wordOk x = true ∧ acc.length + (wordD x).length ≤ 4 then foldW ws (acc ++ wordD x) else none
def listC (ws : List ByteArray) : Option (List CmpD) :=
  if ws.length = 3 ∧ ws.getD 1 ⟨#[]⟩ = ⟨#[45]⟩ then (if betweenOk (ws.getD 0 ⟨#[]⟩) (ws.getD 2 ⟨#[]⟩) then some (betweenD (ws.getD 0 ⟨#[]⟩) (ws.getD 2 ⟨#[]⟩)) else none) else foldW ws []

theorem makeC_ne (sign a b c : Int) (ps : List ByteArray) (t : Int) : makeC sign a b c ps t ≠ [] := by
  unfold makeC
  dsimp only
  repeat (split; · simp)
  simp
theorem wordD_len (x : ByteArray) : (wordD x).length ≤ 2 := by
  unfold wordD
  split
  · simp
  split
  · exact make_len _ _ _ _ _ _
  · simp
theorem wordD_ne {x : ByteArray} (h : wordOk x = true) : wordD x ≠ [] := by
  unfold wordD
  split
  · simp
  · rename_i hs
    split
    · exact makeC_ne _ _ _ _ _ _
    · rename_i hp
      simp [wordOk, hs, hp] at h

set_option maxHeartbeats 4000000 in
set_option maxRecDepth 100000 in
theorem parseCmps_c (s : ByteArray) (hs : s.size ≤ 1048576) (w : World) (hsg : ∀ k (h : k < signsT.length), w.cell? ⟨0, k, none⟩ = some (.string signsT[k])) :
    Calls Tryz.prog 19 #[.string s] w fun e w' => ∃ v, e = .returned (.tuple #[v, .bool (listC (splitS s 32)).isSome]) ∧ CmpsOwn w.heap.size w' v ((listC (splitS s 32)).getD []) ∧ Below w.heap.size w w' := by
  have HS := implSplit_c s 32 w hs (by omega) (by omega)
  have hL := splitS_len s 32
  have hL0 := splitS_pos s 32
  have hpc := splitS_piece s 32
  have hgl : 0 < w.heap.size := World.block_lt_of_cell? w _ (hsg 0 (by decide))
  have HG : Hid (∀ w1, Below w.heap.size w w1 → ∀ k (h : k < signsT.length), w1.cell? ⟨0, k, none⟩ = some (.string signsT[k])) := fun w1 b k h => (b.cell (p := ⟨0, k, none⟩) hgl).trans (hsg k h)
  obtain ⟨ws, hws⟩ : ∃ ws, ws = splitS s 32 := ⟨_, rfl⟩
  rw [← hws] at HS hL hL0 hpc
  rw [← hws]
  clear hws hsg hgl
  obtain ⟨i0, hi, hz0, hz1, hz2⟩ := info_parts infoCmp
  go_enter Tryz.func19, Tryz.ntmps19
  go_wp2_with fail
  go_at_call 44
  refine HS.mono ?_
  rintro e w3 ⟨v3, rfl, o3, b3⟩
  obtain ⟨qw, cw, hv, hcw, hc3⟩ := reads_strs (reads_of_owns o3)
  subst hv
  rcases hc3 with hw0 | ⟨bq, off, rfl, hbq, hcell⟩
  · rw [hw0] at hL0; simp at hL0
  clear HS o3
  have hsz : ∀ k (h : k < ws.length), ws[k].size ≤ 1048576 := fun k h => by have := hpc ws[k] (List.getElem_mem _); omega
  have hgd : ∀ k (h : k < ws.length), ws.getD k ⟨#[]⟩ = ws[k] := fun k h => by simp [List.getD_eq_getElem?_getD, h]
  by_cases hb : ws.length = 3 ∧ ws.getD 1 ⟨#[]⟩ = ⟨#[45]⟩
  · obtain ⟨h3, hd⟩ := hb
    have c0 : w3.cell? ⟨bq, off, none⟩ = some (.string ws[0]) := hcell 0 (by omega)
    have c1 := hcell 1 (by omega)
    have c2 := hcell 2 (by omega)
    have HL : Hid (listC ws = if betweenOk ws[0] ws[2] then some (betweenD ws[0] ws[2]) else none) := by show _ = _; rw [listC, if_pos ⟨h3, hd⟩, hgd 0 (by omega), hgd 2 (by omega)]
    have z0 := hsz 0 (by omega)
    have z2 := hsz 2 (by omega)
    rw [hgd 1 (by omega)] at hd
    rw [hd] at c1
    obtain ⟨x0, hx0⟩ : ∃ x, x = ws[0] := ⟨_, rfl⟩
    obtain ⟨x2, hx2⟩ : ∃ x, x = ws[2] := ⟨_, rfl⟩
    rw [← hx0] at c0 HL z0
    rw [← hx2] at c2 HL z2
    have h3' : ((ws.length : Int) == 3) = true := by simp [h3]
    have hi0 : (0 : Int) < (ws.length : Int) := by omega
    have hi1 : (1 : Int) < (ws.length : Int) := by omega
    have hi2 : (2 : Int) < (ws.length : Int) := by omega
    have HB : Hid (∀ w1, Calls Tryz.prog 45 #[.string x0, .string x2] w1 fun e w' => ∃ v, e = .returned (.tuple #[v, .bool (betweenOk x0 x2)]) ∧ CmpsOwn w1.heap.size w' v (betweenD x0 x2) ∧ Below w1.heap.size w1 w') := fun w1 => cmpsBetween_c x0 x2 z0 z2 w1
    have HD : Hid (betweenOk x0 x2 = false → betweenD x0 x2 = []) := fun h => by rw [betweenD, h]; rfl
    have c0d : w3.drew.cell? ⟨bq, off, none⟩ = some (.string x0) := c0
    have c2d : w3.drew.cell? ⟨bq, off + 2, none⟩ = some (.string x2) := c2
    clear hcell hsz hgd hd hx0 hx2 HG hi hz0 hz1 hz2 hpc z0 z2
    go_wp2_with fail
    refine wp_region_held_drew (S := (fun w' => w'.cell? ⟨bq, off, none⟩ = some (.string x0) ∧ w'.cell? ⟨bq, off + 2, none⟩ = some (.string x2))) (by kernel_rfl) ?SR10 (fun hHeld => ?_)
    case SR10 => (first | exact ⟨c0d, c2d⟩ | exact ⟨(b4.cell (p := ⟨bq, off, none⟩) hbq).trans c0, (b4.cell (p := ⟨bq, off + 2, none⟩) hbq).trans c2⟩)
    refine wpAnyH_take (i := 0) (oi := _) (v := ?vR10) rfl (by kernel_rfl) (by kernel_rfl) (by kernel_rfl) (fun _ _ _ h => h) (Or.inl ⟨by rfl, ?yR10⟩) hHeld ?_
    case yR10 => (intro w hSw; (try dsimp only at hSw); go_simp <;> with_reducible rfl)
    try simp only [Act.put, List.getElem_toArray, List.getElem_cons_zero, List.getElem_cons_succ, List.setIfInBounds_toArray, List.set_cons_zero, List.set_cons_succ]
    refine wpAnyH_take (i := 1) (oi := _) (v := ?vR11) rfl (by kernel_rfl) (by kernel_rfl) (by kernel_rfl) (fun _ _ _ h => h) (Or.inl ⟨by rfl, ?yR11⟩) hHeld ?_
    case yR11 => (intro w hSw; (try dsimp only at hSw); go_simp <;> with_reducible rfl)
    try simp only [Act.put, List.getElem_toArray, List.getElem_cons_zero, List.getElem_cons_succ, List.setIfInBounds_toArray, List.set_cons_zero, List.set_cons_succ]
    refine wpAnyH_take (i := 2) (oi := _) (v := ?vR12) rfl (by kernel_rfl) (by kernel_rfl) (by kernel_rfl) (fun _ _ _ h => h) (Or.inl ⟨by rfl, ?yR12⟩) hHeld ?_
    case yR12 => (intro w hSw; (try dsimp only at hSw); go_simp <;> with_reducible rfl)
    try simp only [Act.put, List.getElem_toArray, List.getElem_cons_zero, List.getElem_cons_succ, List.setIfInBounds_toArray, List.set_cons_zero, List.set_cons_succ]
    refine wpAnyH_take (i := 3) (oi := _) (v := ?vR13) rfl (by kernel_rfl) (by kernel_rfl) (by kernel_rfl) (fun _ _ _ h => h) (Or.inl ⟨by rfl, ?yR13⟩) hHeld ?_
    case yR13 => (intro w hSw; (try dsimp only at hSw); go_simp <;> with_reducible rfl)
    try simp only [Act.put, List.getElem_toArray, List.getElem_cons_zero, List.getElem_cons_succ, List.setIfInBounds_toArray, List.set_cons_zero, List.set_cons_succ]
    refine wpAnyH_take (i := 4) (oi := _) (v := ?vR14) rfl (by kernel_rfl) (by kernel_rfl) (by kernel_rfl) (fun _ _ _ h => h) (Or.inl ⟨by rfl, ?yR14⟩) hHeld ?_
    case yR14 => (intro w hSw; (try dsimp only at hSw); go_simp <;> with_reducible rfl)
    try simp only [Act.put, List.getElem_toArray, List.getElem_cons_zero, List.getElem_cons_succ, List.setIfInBounds_toArray, List.set_cons_zero, List.set_cons_succ]
    refine wpAnyH_take (i := 5) (oi := _) (v := ?vR15) rfl (by kernel_rfl) (by kernel_rfl) (by kernel_rfl) (fun _ _ _ h => h) (Or.inl ⟨by rfl, ?yR15⟩) hHeld ?_
    case yR15 => (intro w hSw; (try dsimp only at hSw); go_simp <;> with_reducible rfl)
    try simp only [Act.put, List.getElem_toArray, List.getElem_cons_zero, List.getElem_cons_succ, List.setIfInBounds_toArray, List.set_cons_zero, List.set_cons_succ]
    refine wpAnyH_ready (rs := [6]) (by kernel_rfl) (by simp) ?_
    refine AllReadyH.cons rfl (fun K hK => ?_) AllReadyH.nil
    go_simp
    go_wp2_with (go_at_call 45; refine (HB.out _).mono ?_; rintro e w4 ⟨v, rfl, hv, b4⟩)
    clear hHeld
    refine hK.out _ _ ?SR17 (fun hHeld => ?_)
    case SR17 => ((try dsimp only); first | exact ⟨c0d, c2d⟩ | exact ⟨(b4.cell (p := ⟨bq, off, none⟩) hbq).trans c0, (b4.cell (p := ⟨bq, off + 2, none⟩) hbq).trans c2⟩)
    clear hK K
    refine wpAnyH_take (i := 7) (oi := _) (v := ?vR17) rfl (by kernel_rfl) (by kernel_rfl) (by kernel_rfl) (fun _ _ _ h => h) (Or.inl ⟨by rfl, ?yR17⟩) hHeld ?_
    case yR17 => (intro w hSw; (try dsimp only at hSw); go_simp <;> with_reducible rfl)
    try simp only [Act.put, List.getElem_toArray, List.getElem_cons_zero, List.getElem_cons_succ, List.setIfInBounds_toArray, List.set_cons_zero, List.set_cons_succ]
    refine wpAnyH_take (i := 8) (oi := _) (v := ?vR18) rfl (by kernel_rfl) (by kernel_rfl) (by kernel_rfl) (fun _ _ _ h => h) (Or.inl ⟨by rfl, ?yR18⟩) hHeld ?_
    case yR18 => (intro w hSw; (try dsimp only at hSw); go_simp <;> with_reducible rfl)
    try simp only [Act.put, List.getElem_toArray, List.getElem_cons_zero, List.getElem_cons_succ, List.setIfInBounds_toArray, List.set_cons_zero, List.set_cons_succ]
    refine wpAnyH_take (i := 9) (oi := _) (v := ?vR19) rfl (by kernel_rfl) (by kernel_rfl) (by kernel_rfl) (fun _ _ _ h => h) (Or.inl ⟨by rfl, ?yR19⟩) hHeld ?_
    case yR19 => (intro w hSw; (try dsimp only at hSw); go_simp <;> with_reducible rfl)
    try simp only [Act.put, List.getElem_toArray, List.getElem_cons_zero, List.getElem_cons_succ, List.setIfInBounds_toArray, List.set_cons_zero, List.set_cons_succ]
    refine wpAnyH_take (i := 10) (oi := _) (v := ?vR110) rfl (by kernel_rfl) (by kernel_rfl) (by kernel_rfl) (fun _ _ _ h => h) (Or.inl ⟨by rfl, ?yR110⟩) hHeld ?_
    case yR110 => (intro w hSw; (try dsimp only at hSw); go_simp <;> with_reducible rfl)
    try simp only [Act.put, List.getElem_toArray, List.getElem_cons_zero, List.getElem_cons_succ, List.setIfInBounds_toArray, List.set_cons_zero, List.set_cons_succ]
    refine wpAnyH_done (by kernel_rfl) ?_ _
    have hr : (listC ws).isSome = betweenOk x0 x2 ∧ (listC ws).getD [] = betweenD x0 x2 := by
      rw [HL.out]
      cases hk : betweenOk x0 x2 with
      | true => simp
      | false => simp [HD.out hk]
    have HR : Hid ((listC ws).isSome = betweenOk x0 x2 ∧ (listC ws).getD [] = betweenD x0 x2) := hr
    clear hr
    go_wp2_with fail
    go_ret2
    exact ⟨v, by rw [HR.out.1]; rfl, by rw [HR.out.2]; exact hv.lower b3.size, (b3.drew).trans (b4.mono b3.size)⟩
  · have HL : Hid (listC ws = foldW ws []) := by show _ = _; rw [listC, if_neg hb]
    have HW : Hid (∀ x : ByteArray, x.size ≤ 1048576 → ∀ w1, Below w.heap.size w w1 → Calls Tryz.prog 46 #[.string x] w1 fun e w' => ∃ v, e = .returned (.tuple #[v, .bool (wordOk x)]) ∧ CmpsOwn w1.heap.size w' v (wordD x) ∧ Below w1.heap.size w1 w') := fun x hx w1 b => cmpsOfWord_c x hx w1 (HG.out w1 b)
    by_cases h3 : ws.length = 3
    · have hd : ¬ ws[1] = ⟨#[45]⟩ := fun h => hb ⟨h3, by rw [hgd 1 (by omega)]; exact h⟩
      have c1 := hcell 1 (by omega)
      obtain ⟨x1, hx1⟩ : ∃ x, x = ws[1] := ⟨_, rfl⟩
      rw [← hx1] at c1 hd
      have hd' : (x1.toList == [45]) = false := by rw [beq_eq_false_iff_ne]; intro h; exact hd (bytes_eq_of_toList (by rw [h, ByteArray.toList_eq]))
      have h3' : ((ws.length : Int) == 3) = true := by simp [h3]
      have hi1 : (1 : Int) < (ws.length : Int) := by omega
      clear hb hd hx1 hgd HG h3
      go_wp2_with fail
      go_loopw [5, 32] (fun v5 vi wr => ∃ (k : Nat) (acc : List CmpD), k ≤ ws.length ∧ vi = .int .i64 (k : Int) ∧ CmpsOwn w3.heap.size wr v5 acc ∧ acc.length ≤ 4 ∧ Hid (foldW (ws.drop k) acc = foldW ws []) ∧ Below w3.heap.size w3 wr) (fun _ vi _ => ws.length - (intOf vi).toNat)
      case atStart => exact ⟨0, [], Nat.zero_le _, rfl, own_nilC _ _, by simp, rfl, Below.refl _ _⟩
      case round =>
        obtain ⟨k, acc, hk, rfl, hacc, hal, hf, hbr⟩ := hrel
        have hmr := b3.trans (hbr.mono b3.size)
        obtain ⟨qv, cv, us, hv5, _, _⟩ := hacc.at
        subst hv5
        by_cases hlt : k < ws.length
        · have hcx : wr.cell? ⟨bq, off + k, none⟩ = some (.string ws[k]) := (hbr.cell (p := ⟨bq, off + k, none⟩) hbq).trans (hcell k hlt)
          have hsk := hsz k hlt
          have hdr : ws.drop k = ws[k] :: ws.drop (k + 1) := List.drop_eq_getElem_cons hlt
          rw [hdr, foldW] at hf
          obtain ⟨x, hx⟩ : ∃ x, x = ws[k] := ⟨_, rfl⟩
          rw [← hx] at hcx hsk hf
          have HC := HW.out x hsk wr hmr
          have hne := @wordD_ne x
          have hDl := wordD_len x
          obtain ⟨D, hD⟩ : ∃ D, D = wordD x := ⟨_, rfl⟩
          obtain ⟨K, hK⟩ : ∃ K, K = wordOk x := ⟨_, rfl⟩
          rw [← hD, ← hK] at HC hf hne
          rw [← hD] at hDl
          have HC' : Hid (Calls Tryz.prog 46 #[.string x] wr fun e w' => ∃ v, e = .returned (.tuple #[v, .bool K]) ∧ CmpsOwn wr.heap.size w' v D ∧ Below wr.heap.size wr w') := HC
          have hki : (k : Int) < (ws.length : Int) := by omega
          clear HC hD hK hx hdr hcell hsz HW
          cases K with
          | false =>
            have HN : Hid (listC ws = none) := by show _ = _; rw [HL.out, ← hf.out]; simp
            clear hf HL
            go_wp2_with (go_at_call 46; refine HC'.out.mono ?_; rintro e w4 ⟨v4, rfl, hv4, b4⟩; obtain ⟨q4, c4, us4, hq4, _, _⟩ := hv4.at; subst hq4)
            go_ret2
            exact ⟨_, by rw [HN.out]; rfl, by rw [HN.out]; exact own_nilC _ _, hmr.trans (b4.mono hmr.size)⟩
          | true =>
            have hDne := hne rfl
            by_cases h4 : acc.length + D.length ≤ 4
            · have HN : Hid (foldW (ws.drop (k + 1)) (acc ++ D) = foldW ws []) := by show _ = _; rw [← hf.out, if_pos ⟨rfl, h4⟩]
              have h4' : ¬ (4 : Int) < (acc.length : Int) + (D.length : Int) := by omega
              have hlo : w3.heap.size ≤ wr.heap.size := hbr.size
              have hrow : ∀ j, Value.ownBlock (.slice qv acc.length cv) = some j → w3.heap.size ≤ j := fun j hj => by
                obtain ⟨ys, us, h1, _, _⟩ := hacc
                rcases h1.2 with ⟨h, _⟩ | ⟨g, cap, cur, h, hg, _⟩
                · rw [h] at hj; simp [Value.ownBlock] at hj
                · rw [h] at hj; simp [Value.ownBlock] at hj; omega
              have HAP : Hid (∀ w4 v4, Below wr.heap.size wr w4 → CmpsOwn wr.heap.size w4 v4 D → ∃ (ys ys' : List Value) (g cap : Nat), w4.ownsRow w3.heap.size 103 5 (.slice qv acc.length cv) acc.length ys ∧ v4 = .slice (some ⟨g, 0, none⟩) D.length cap ∧ ys'.length = D.length * 5 ∧ (∀ j u, ys'[j]? = some u → w4.cell? ((⟨g, 0, none⟩ : Addr).add j) = some u) ∧ (∀ u ∈ ys', u.oneCell' = true) ∧ ∀ w2 v2, w2.ownsRow w3.heap.size 103 5 v2 (acc.length + D.length) (ys ++ ys') → w4.grownBy w2 (Value.ownBlock (.slice qv acc.length cv)) → CmpsOwn w3.heap.size w2 v2 (acc ++ D)) := fun w4 v4 b4 h4 => hacc.app hlo b4 h4 hDne
              have HRW : Hid (∀ j, Value.ownBlock (.slice qv acc.length cv) = some j → w3.heap.size ≤ j) := hrow
              clear hf hne hrow hacc
              go_wp2_with (first | (go_at_call 46; refine HC'.out.mono ?_; rintro e w4 ⟨v4, rfl, hv4, b4⟩; obtain ⟨ys, ys', g, cap, o4, hv, hly, hnw, hon, happ⟩ := HAP.out w4 v4 b4 hv4; subst hv; have HNW : Hid (∀ j u, ys'[j]? = some u → w4.cell? ((⟨g, 0, none⟩ : Addr).add j) = some u) := hnw; have HON : Hid (∀ u ∈ ys', u.oneCell' = true) := hon; have HAPP : Hid (∀ w2 v2, w2.ownsRow w3.heap.size 103 5 v2 (acc.length + D.length) (ys ++ ys') → w4.grownBy w2 (Value.ownBlock (.slice qv acc.length cv)) → CmpsOwn w3.heap.size w2 v2 (acc ++ D)) := happ; clear hnw hon happ hv4) | (at_builtin; refine wpList_append_own _ rfl _ _ 47 rfl w3.heap.size 103 i0 _ 5 56 Tryz.underlying47 hi hz0 hz1 hz2 rfl (by decide) (.slice qv acc.length cv) acc.length ys rfl o4 ⟨g, 0, none⟩ D.length cap ys' rfl hly HNW.out HON.out (by unfold maxLen; omega) (by omega) (Nat.le_trans hlo b4.size) ?_))
              intro v2 w2 o2 gr2 _
              have kx := hbr.trans (b4.mono hlo)
              have k2 := below_turned kx gr2 kx.size HRW.out
              have hown := HAPP.out w2 v2 o2 gr2
              clear HAPP HNW HON HAP o4 o2 gr2
              go_wp2_with fail
              go_roundw
              case rel => exact ⟨k + 1, acc ++ D, by omega, by go_num, hown, by rw [List.length_append]; omega, HN, k2⟩
              case measure => simp [intOf]; omega
            · have HN : Hid (listC ws = none) := by show _ = _; rw [HL.out, ← hf.out, if_neg (fun h => h4 h.2)]
              have h4' : (4 : Int) < (acc.length : Int) + (D.length : Int) := by omega
              clear hf HL hne h4
              go_wp2_with (go_at_call 46; refine HC'.out.mono ?_; rintro e w4 ⟨v4, rfl, hv4, b4⟩; obtain ⟨q4, c4, us4, hq4, _, _⟩ := hv4.at; subst hq4)
              go_ret2
              exact ⟨_, by rw [HN.out]; rfl, by rw [HN.out]; exact own_nilC _ _, hmr.trans (b4.mono hmr.size)⟩
        · have he : k = ws.length := by omega
          subst he
          have HN : Hid (listC ws = some acc) := by show _ = _; rw [HL.out, ← hf.out, List.drop_length, foldW]
          clear hf HL hcell hsz HW
          go_wp2_with fail
          go_ret2
          exact ⟨_, by rw [HN.out]; rfl, by rw [HN.out]; exact hacc.lower b3.size, hmr⟩
    · have h3' : ((ws.length : Int) == 3) = false := by rw [beq_eq_false_iff_ne]; omega
      clear hb hgd HG h3
      go_wp2_with fail
      go_loopw [5, 32] (fun v5 vi wr => ∃ (k : Nat) (acc : List CmpD), k ≤ ws.length ∧ vi = .int .i64 (k : Int) ∧ CmpsOwn w3.heap.size wr v5 acc ∧ acc.length ≤ 4 ∧ Hid (foldW (ws.drop k) acc = foldW ws []) ∧ Below w3.heap.size w3 wr) (fun _ vi _ => ws.length - (intOf vi).toNat)
      case atStart => exact ⟨0, [], Nat.zero_le _, rfl, own_nilC _ _, by simp, rfl, Below.refl _ _⟩
      case round =>
        obtain ⟨k, acc, hk, rfl, hacc, hal, hf, hbr⟩ := hrel
        have hmr := b3.trans (hbr.mono b3.size)
        obtain ⟨qv, cv, us, hv5, _, _⟩ := hacc.at
        subst hv5
        by_cases hlt : k < ws.length
        · have hcx : wr.cell? ⟨bq, off + k, none⟩ = some (.string ws[k]) := (hbr.cell (p := ⟨bq, off + k, none⟩) hbq).trans (hcell k hlt)
          have hsk := hsz k hlt
          have hdr : ws.drop k = ws[k] :: ws.drop (k + 1) := List.drop_eq_getElem_cons hlt
          rw [hdr, foldW] at hf
          obtain ⟨x, hx⟩ : ∃ x, x = ws[k] := ⟨_, rfl⟩
          rw [← hx] at hcx hsk hf
          have HC := HW.out x hsk wr hmr
          have hne := @wordD_ne x
          have hDl := wordD_len x
          obtain ⟨D, hD⟩ : ∃ D, D = wordD x := ⟨_, rfl⟩
          obtain ⟨K, hK⟩ : ∃ K, K = wordOk x := ⟨_, rfl⟩
          rw [← hD, ← hK] at HC hf hne
          rw [← hD] at hDl
          have HC' : Hid (Calls Tryz.prog 46 #[.string x] wr fun e w' => ∃ v, e = .returned (.tuple #[v, .bool K]) ∧ CmpsOwn wr.heap.size w' v D ∧ Below wr.heap.size wr w') := HC
          have hki : (k : Int) < (ws.length : Int) := by omega
          clear HC hD hK hx hdr hcell hsz HW
          cases K with
          | false =>
            have HN : Hid (listC ws = none) := by show _ = _; rw [HL.out, ← hf.out]; simp
            clear hf HL
            go_wp2_with (go_at_call 46; refine HC'.out.mono ?_; rintro e w4 ⟨v4, rfl, hv4, b4⟩; obtain ⟨q4, c4, us4, hq4, _, _⟩ := hv4.at; subst hq4)
            go_ret2
            exact ⟨_, by rw [HN.out]; rfl, by rw [HN.out]; exact own_nilC _ _, hmr.trans (b4.mono hmr.size)⟩
          | true =>
            have hDne := hne rfl
            by_cases h4 : acc.length + D.length ≤ 4
            · have HN : Hid (foldW (ws.drop (k + 1)) (acc ++ D) = foldW ws []) := by show _ = _; rw [← hf.out, if_pos ⟨rfl, h4⟩]
              have h4' : ¬ (4 : Int) < (acc.length : Int) + (D.length : Int) := by omega
              have hlo : w3.heap.size ≤ wr.heap.size := hbr.size
              have hrow : ∀ j, Value.ownBlock (.slice qv acc.length cv) = some j → w3.heap.size ≤ j := fun j hj => by
                obtain ⟨ys, us, h1, _, _⟩ := hacc
                rcases h1.2 with ⟨h, _⟩ | ⟨g, cap, cur, h, hg, _⟩
                · rw [h] at hj; simp [Value.ownBlock] at hj
                · rw [h] at hj; simp [Value.ownBlock] at hj; omega
              have HAP : Hid (∀ w4 v4, Below wr.heap.size wr w4 → CmpsOwn wr.heap.size w4 v4 D → ∃ (ys ys' : List Value) (g cap : Nat), w4.ownsRow w3.heap.size 103 5 (.slice qv acc.length cv) acc.length ys ∧ v4 = .slice (some ⟨g, 0, none⟩) D.length cap ∧ ys'.length = D.length * 5 ∧ (∀ j u, ys'[j]? = some u → w4.cell? ((⟨g, 0, none⟩ : Addr).add j) = some u) ∧ (∀ u ∈ ys', u.oneCell' = true) ∧ ∀ w2 v2, w2.ownsRow w3.heap.size 103 5 v2 (acc.length + D.length) (ys ++ ys') → w4.grownBy w2 (Value.ownBlock (.slice qv acc.length cv)) → CmpsOwn w3.heap.size w2 v2 (acc ++ D)) := fun w4 v4 b4 h4 => hacc.app hlo b4 h4 hDne
              have HRW : Hid (∀ j, Value.ownBlock (.slice qv acc.length cv) = some j → w3.heap.size ≤ j) := hrow
              clear hf hne hrow hacc
              go_wp2_with (first | (go_at_call 46; refine HC'.out.mono ?_; rintro e w4 ⟨v4, rfl, hv4, b4⟩; obtain ⟨ys, ys', g, cap, o4, hv, hly, hnw, hon, happ⟩ := HAP.out w4 v4 b4 hv4; subst hv; have HNW : Hid (∀ j u, ys'[j]? = some u → w4.cell? ((⟨g, 0, none⟩ : Addr).add j) = some u) := hnw; have HON : Hid (∀ u ∈ ys', u.oneCell' = true) := hon; have HAPP : Hid (∀ w2 v2, w2.ownsRow w3.heap.size 103 5 v2 (acc.length + D.length) (ys ++ ys') → w4.grownBy w2 (Value.ownBlock (.slice qv acc.length cv)) → CmpsOwn w3.heap.size w2 v2 (acc ++ D)) := happ; clear hnw hon happ hv4) | (at_builtin; refine wpList_append_own _ rfl _ _ 47 rfl w3.heap.size 103 i0 _ 5 56 Tryz.underlying47 hi hz0 hz1 hz2 rfl (by decide) (.slice qv acc.length cv) acc.length ys rfl o4 ⟨g, 0, none⟩ D.length cap ys' rfl hly HNW.out HON.out (by unfold maxLen; omega) (by omega) (Nat.le_trans hlo b4.size) ?_))
              intro v2 w2 o2 gr2 _
              have kx := hbr.trans (b4.mono hlo)
              have k2 := below_turned kx gr2 kx.size HRW.out
              have hown := HAPP.out w2 v2 o2 gr2
              clear HAPP HNW HON HAP o4 o2 gr2
              go_wp2_with fail
              go_roundw
              case rel => exact ⟨k + 1, acc ++ D, by omega, by go_num, hown, by rw [List.length_append]; omega, HN, k2⟩
              case measure => simp [intOf]; omega
            · have HN : Hid (listC ws = none) := by show _ = _; rw [HL.out, ← hf.out, if_neg (fun h => h4 h.2)]
              have h4' : (4 : Int) < (acc.length : Int) + (D.length : Int) := by omega
              clear hf HL hne h4
              go_wp2_with (go_at_call 46; refine HC'.out.mono ?_; rintro e w4 ⟨v4, rfl, hv4, b4⟩; obtain ⟨q4, c4, us4, hq4, _, _⟩ := hv4.at; subst hq4)
              go_ret2
              exact ⟨_, by rw [HN.out]; rfl, by rw [HN.out]; exact own_nilC _ _, hmr.trans (b4.mono hmr.size)⟩
        · have he : k = ws.length := by omega
          subst he
          have HN : Hid (listC ws = some acc) := by show _ = _; rw [HL.out, ← hf.out, List.drop_length, foldW]
          clear hf HL hcell hsz HW
          go_wp2_with fail
          go_ret2
          exact ⟨_, by rw [HN.out]; rfl, by rw [HN.out]; exact hacc.lower b3.size, hmr⟩
end Go.Proofs.YtijmocdkaabijaaGreatDoor

/-! Blanks left out at both ends, the library's: contracts for the walks; condition: the text has at most 2 to the 40 bytes. -/
namespace Go.Proofs.YtijmocdkaabijaaGreatDoor
open Go.RowKit
set_option linter.unusedSimpArgs false
set_option linter.unusedVariables false

/-- Blanks at one end left out. -/
def trimLGo : Nat → ByteArray → ByteArray
  | 0, t => t
  | f + 1, t => if h : 0 < t.size then (if ((t[0]'(by omega)).toNat : Int) = 32 then trimLGo f (t.extract 1 t.size) else t) else t
def trimLS (s : ByteArray) : ByteArray := trimLGo s.size s
theorem trimL_step {t : ByteArray} (h : 0 < t.size) (hb : ((t[0]'(by omega)).toNat : Int) = 32) : trimLS t = trimLS (t.extract 1 t.size) := by
  have hs : (t.extract 1 t.size).size = t.size - 1 := by rw [ByteArray.size_extract]; omega
  obtain ⟨f, hf⟩ : ∃ f, t.size = f + 1 := ⟨t.size - 1, by omega⟩
  rw [trimLS, trimLS, hs, show t.size - 1 = f by omega]
  conv => lhs; rw [hf]
  rw [trimLGo, dif_pos h, if_pos hb]
theorem trimL_stop {t : ByteArray} (h : ∀ h : 0 < t.size, ¬ ((t[0]'(by omega)).toNat : Int) = 32) : trimLS t = t := by
  rw [trimLS]
  cases hf : t.size with
  | zero => rfl
  | succ f => rw [trimLGo, dif_pos (by omega), if_neg (h (by omega))]

set_option maxHeartbeats 1000000 in
set_option maxRecDepth 100000 in
theorem trimL_c (s : ByteArray) (hs : s.size ≤ 1099511627776) (w : World) :
    Calls Tryz.prog 47 #[.string s, .int .u8 32] w fun e w' => e = .returned (.string (trimLS s)) ∧ w = w' := by
  go_enter Tryz.func47, Tryz.ntmps47
  go_wp2_with fail
  go_loop [0] (fun v0 => ∃ t : ByteArray, v0 = .string t ∧ t.size ≤ 1099511627776 ∧ Hid (trimLS t = trimLS s)) (fun v0 => match v0 with | .string t => t.size | _ => 0)
  case atStart => exact ⟨s, rfl, hs, rfl⟩
  case round =>
    obtain ⟨t, rfl, ht, hh⟩ := hrel
    by_cases h0 : 0 < t.size
    · have h0' : (0 : Int) < (t.size : Int) := by omega
      by_cases hb : ((t[0]'(by omega)).toNat : Int) = 32
      · have HN : Hid (trimLS (t.extract 1 t.size) = trimLS s) := by show _ = _; rw [← hh.out, trimL_step h0 hb]
        have hb' : (((t[0]'(by omega)).toNat : Int) == 32) = true := by simpa using hb
        clear hh hb
        go_wp2_with fail
        go_round
        case rel => exact ⟨_, rfl, by rw [ByteArray.size_extract]; omega, HN⟩
        case measure => simp; omega
      · have HN : Hid (trimLS s = t) := by show _ = _; rw [← hh.out]; exact trimL_stop (fun _ => hb)
        have hb' : (((t[0]'(by omega)).toNat : Int) == 32) = false := by simpa using hb
        clear hh hb
        go_wp2_with fail
        go_ret
        exact ⟨by rw [HN.out]; rfl, rfl⟩
    · have h0' : ¬ (0 : Int) < (t.size : Int) := by omega
      have HN : Hid (trimLS s = t) := by show _ = _; rw [← hh.out]; exact trimL_stop (fun h => absurd h h0)
      clear hh
      go_wp2_with fail
      go_ret
      exact ⟨by rw [HN.out]; rfl, rfl⟩

/-- Blanks at one end left out. -/
def trimRGo : Nat → ByteArray → ByteArray
  | 0, t => t
  | f + 1, t => if h : 0 < t.size then (if ((t[t.size - 1]'(by omega)).toNat : Int) = 32 then trimRGo f (t.extract 0 (t.size - 1)) else t) else t
def trimRS (s : ByteArray) : ByteArray := trimRGo s.size s
theorem trimR_step {t : ByteArray} (h : 0 < t.size) (hb : ((t[t.size - 1]'(by omega)).toNat : Int) = 32) : trimRS t = trimRS (t.extract 0 (t.size - 1)) := by
  have hs : (t.extract 0 (t.size - 1)).size = t.size - 1 := by rw [ByteArray.size_extract]; omega
  obtain ⟨f, hf⟩ : ∃ f, t.size = f + 1 := ⟨t.size - 1, by omega⟩
  rw [trimRS, trimRS, hs, show t.size - 1 = f by omega]
  conv => lhs; rw [hf]
  rw [trimRGo, dif_pos h, if_pos hb]
  rw [show t.size - 1 = f by omega]
theorem trimR_stop {t : ByteArray} (h : ∀ h : 0 < t.size, ¬ ((t[t.size - 1]'(by omega)).toNat : Int) = 32) : trimRS t = t := by
  rw [trimRS]
  cases hf : t.size with
  | zero => rfl
  | succ f => rw [trimRGo, dif_pos (by omega), if_neg (h (by omega))]

set_option maxHeartbeats 1000000 in
set_option maxRecDepth 100000 in
theorem trimR_c (s : ByteArray) (hs : s.size ≤ 1099511627776) (w : World) :
    Calls Tryz.prog 48 #[.string s, .int .u8 32] w fun e w' => e = .returned (.string (trimRS s)) ∧ w = w' := by
  go_enter Tryz.func48, Tryz.ntmps48
  go_wp2_with fail
  go_loop [0] (fun v0 => ∃ t : ByteArray, v0 = .string t ∧ t.size ≤ 1099511627776 ∧ Hid (trimRS t = trimRS s)) (fun v0 => match v0 with | .string t => t.size | _ => 0)
  case atStart => exact ⟨s, rfl, hs, rfl⟩
  case round =>
    obtain ⟨t, rfl, ht, hh⟩ := hrel
    by_cases h0 : 0 < t.size
    · have h0' : (0 : Int) < (t.size : Int) := by omega
      by_cases hb : ((t[t.size - 1]'(by omega)).toNat : Int) = 32
      · have HN : Hid (trimRS (t.extract 0 (t.size - 1)) = trimRS s) := by show _ = _; rw [← hh.out, trimR_step h0 hb]
        have hb' : (((t[t.size - 1]'(by omega)).toNat : Int) == 32) = true := by simpa using hb
        have hm1 : (t.size : Int) - 1 = ((t.size - 1 : Nat) : Int) := by omega
        have hm2 : ((t.size - 1 : Nat) : Int) < (t.size : Int) := by omega
        clear hh hb
        go_wp2_with fail
        go_round
        case rel => exact ⟨_, rfl, by rw [ByteArray.size_extract]; omega, HN⟩
        case measure => simp; omega
      · have HN : Hid (trimRS s = t) := by show _ = _; rw [← hh.out]; exact trimR_stop (fun _ => hb)
        have hb' : (((t[t.size - 1]'(by omega)).toNat : Int) == 32) = false := by simpa using hb
        have hm1 : (t.size : Int) - 1 = ((t.size - 1 : Nat) : Int) := by omega
        have hm2 : ((t.size - 1 : Nat) : Int) < (t.size : Int) := by omega
        clear hh hb
        go_wp2_with fail
        go_ret
        exact ⟨by rw [HN.out]; rfl, rfl⟩
    · have h0' : ¬ (0 : Int) < (t.size : Int) := by omega
      have HN : Hid (trimRS s = t) := by show _ = _; rw [← hh.out]; exact trimR_stop (fun h => absurd h h0)
      clear hh
      go_wp2_with fail
      go_ret
      exact ⟨by rw [HN.out]; rfl, rfl⟩

theorem trimR_size (s : ByteArray) : (trimRS s).size ≤ s.size := by
  have h : ∀ f t, (trimRGo f t).size ≤ t.size := fun f => by
    induction f with
    | zero => intro t; exact Nat.le_refl _
    | succ f ih =>
      intro t
      rw [trimRGo]
      split
      · split
        · refine Nat.le_trans (ih _) ?_
          rw [ByteArray.size_extract]; omega
        · exact Nat.le_refl _
      · exact Nat.le_refl _
  exact h _ _
theorem trimL_size (s : ByteArray) : (trimLS s).size ≤ s.size := by
  have h : ∀ f t, (trimLGo f t).size ≤ t.size := fun f => by
    induction f with
    | zero => intro t; exact Nat.le_refl _
    | succ f ih =>
      intro t
      rw [trimLGo]
      split
      · split
        · refine Nat.le_trans (ih _) ?_
          rw [ByteArray.size_extract]; omega
        · exact Nat.le_refl _
      · exact Nat.le_refl _
  exact h _ _
def trimS (s : ByteArray) : ByteArray := trimLS (trimRS s)
theorem trimS_size (s : ByteArray) : (trimS s).size ≤ s.size := Nat.le_trans (trimL_size _) (trimR_size _)

set_option maxHeartbeats 1000000 in
set_option maxRecDepth 100000 in
theorem trim_c (s : ByteArray) (hs : s.size ≤ 1099511627776) (w : World) :
    Calls Tryz.prog 20 #[.string s, .string ⟨#[32]⟩] w fun e w' => e = .returned (.string (trimS s)) ∧ Below w.heap.size w w' := by
  by_cases h0 : s = ⟨#[]⟩
  · subst h0
    have e : trimS ⟨#[]⟩ = ⟨#[]⟩ := rfl
    rw [e]
    clear e
    go_enter Tryz.func20, Tryz.ntmps20
    go_wp2_with fail
    go_ret
    exact ⟨rfl, Below.refl _ _⟩
  · have hsb : (s.toList == []) = false := by rw [beq_eq_false_iff_ne]; intro h; exact h0 (bytes_eq_of_toList (by rw [h, ByteArray.toList_eq]))
    have HR : Hid (∀ w1, Calls Tryz.prog 48 #[.string s, .int .u8 32] w1 fun e w' => e = .returned (.string (trimRS s)) ∧ w1 = w') := fun w1 => trimR_c s hs w1
    have HL : Hid (∀ w1, Calls Tryz.prog 47 #[.string (trimRS s), .int .u8 32] w1 fun e w' => e = .returned (.string (trimS s)) ∧ w1 = w') := fun w1 => trimL_c _ (Nat.le_trans (trimR_size s) hs) w1
    clear h0
    go_enter Tryz.func20, Tryz.ntmps20
    go_wp2_with fail
    refine wp_region_held_drew (S := (fun _ => True)) (by kernel_rfl) ?SR10 (fun hHeld => ?_)
    case SR10 => (first | done | exact True.intro)
    refine wpAnyH_take (i := 0) (oi := _) (v := ?vR10) rfl (by kernel_rfl) (by kernel_rfl) (by kernel_rfl) (fun _ _ _ h => h) (Or.inl ⟨by rfl, ?yR10⟩) hHeld ?_
    case yR10 => (intro w hSw; (try dsimp only at hSw); go_simp <;> with_reducible rfl)
    try simp only [Act.put, List.getElem_toArray, List.getElem_cons_zero, List.getElem_cons_succ, List.setIfInBounds_toArray, List.set_cons_zero, List.set_cons_succ]
    refine wpAnyH_take (i := 1) (oi := _) (v := ?vR11) rfl (by kernel_rfl) (by kernel_rfl) (by kernel_rfl) (fun _ _ _ h => h) (Or.inl ⟨by rfl, ?yR11⟩) hHeld ?_
    case yR11 => (intro w hSw; (try dsimp only at hSw); go_simp <;> with_reducible rfl)
    try simp only [Act.put, List.getElem_toArray, List.getElem_cons_zero, List.getElem_cons_succ, List.setIfInBounds_toArray, List.set_cons_zero, List.set_cons_succ]
    refine wpAnyH_take (i := 2) (oi := _) (v := ?vR12) rfl (by kernel_rfl) (by kernel_rfl) (by kernel_rfl) (fun _ _ _ h => h) (Or.inl ⟨by rfl, ?yR12⟩) hHeld ?_
    case yR12 => (intro w hSw; (try dsimp only at hSw); go_simp <;> with_reducible rfl)
    try simp only [Act.put, List.getElem_toArray, List.getElem_cons_zero, List.getElem_cons_succ, List.setIfInBounds_toArray, List.set_cons_zero, List.set_cons_succ]
    refine wpAnyH_take (i := 4) (oi := _) (v := ?vR13) rfl (by kernel_rfl) (by kernel_rfl) (by kernel_rfl) (fun _ _ _ h => h) (Or.inl ⟨by rfl, ?yR13⟩) hHeld ?_
    case yR13 => (intro w hSw; (try dsimp only at hSw); go_simp <;> with_reducible rfl)
    try simp only [Act.put, List.getElem_toArray, List.getElem_cons_zero, List.getElem_cons_succ, List.setIfInBounds_toArray, List.set_cons_zero, List.set_cons_succ]
    refine wpAnyH_take (i := 5) (oi := _) (v := ?vR14) rfl (by kernel_rfl) (by kernel_rfl) (by kernel_rfl) (fun _ _ _ h => h) (Or.inl ⟨by rfl, ?yR14⟩) hHeld ?_
    case yR14 => (intro w hSw; (try dsimp only at hSw); go_simp <;> with_reducible rfl)
    try simp only [Act.put, List.getElem_toArray, List.getElem_cons_zero, List.getElem_cons_succ, List.setIfInBounds_toArray, List.set_cons_zero, List.set_cons_succ]
    refine wpAnyH_ready (rs := [3]) (by kernel_rfl) (by simp) ?_
    refine AllReadyH.cons rfl (fun K hK => ?_) AllReadyH.nil
    go_simp
    go_wp2_with (go_at_call 48; refine (HR.out _).mono ?_; rintro e w1 ⟨rfl, rfl⟩)
    clear hHeld
    refine hK.out _ _ ?SR16 (fun hHeld => ?_)
    case SR16 => ((try dsimp only); first | done | exact True.intro)
    clear hK K
    refine wpAnyH_ready (rs := [6]) (by kernel_rfl) (by simp) ?_
    refine AllReadyH.cons rfl (fun K hK => ?_) AllReadyH.nil
    go_simp
    go_wp2_with (go_at_call 47; refine (HL.out _).mono ?_; rintro e w2 ⟨rfl, rfl⟩)
    clear hHeld
    refine hK.out _ _ ?SR17 (fun hHeld => ?_)
    case SR17 => ((try dsimp only); first | done | exact True.intro)
    clear hK K
    refine wpAnyH_take (i := 7) (oi := _) (v := ?vR17) rfl (by kernel_rfl) (by kernel_rfl) (by kernel_rfl) (fun _ _ _ h => h) (Or.inl ⟨by rfl, ?yR17⟩) hHeld ?_
    case yR17 => (intro w hSw; (try dsimp only at hSw); go_simp <;> with_reducible rfl)
    try simp only [Act.put, List.getElem_toArray, List.getElem_cons_zero, List.getElem_cons_succ, List.setIfInBounds_toArray, List.set_cons_zero, List.set_cons_succ]
    refine wpAnyH_done (by kernel_rfl) ?_ _
    go_wp2_with fail
    go_ret
    exact ⟨rfl, (Below.refl _ _).drew⟩
end Go.Proofs.YtijmocdkaabijaaGreatDoor

/-! The contract of the library for cutting a text at each place where another stands, taken over from the library of contracts at the numbers of this program; conditions as it says. -/
namespace Go.Proofs
open Go.Shelf
def Tryz.lays146_ren : Go.Shelf.Ren := ⟨fun | 146 => 18 | 221 => 43 | 268 => 81 | 138 => 82 | 143 => 83 | 195 => 117 | 197 => 92 | 218 => 118 | 219 => 119 | 260 => 128 | 217 => 116 | 225 => 145 | 224 => 146 | 267 => 147 | 266 => 144 | 314 => 160 | n => n, fun | 9 => 9 | 31 => 24 | 3 => 3 | 4 => 4 | 0 => 0 | 105 => 144 | 21 => 21 | 5 => 5 | 46 => 162 | 119 => 185 | 139 => 188 | 138 => 187 | 146 => 200 | 51 => 199 | n => n, fun | 1 => 1 | 3 => 2 | 4 => 3 | n => n⟩
theorem Tryz.lays146 : Go.Proofs.Lays.n146 Tryz.prog Tryz.lays146_ren := {
  mixed := by kernel_rfl
  f138 := Tryz.func82.trans (congrArg some (by kernel_rfl))
  f143 := Tryz.func83.trans (congrArg some (by kernel_rfl))
  f146 := Tryz.func18.trans (congrArg some (by kernel_rfl))
  f195 := Tryz.func117.trans (congrArg some (by kernel_rfl))
  f197 := Tryz.func92.trans (congrArg some (by kernel_rfl))
  f217 := Tryz.func116.trans (congrArg some (by kernel_rfl))
  f218 := Tryz.func118.trans (congrArg some (by kernel_rfl))
  f219 := Tryz.func119.trans (congrArg some (by kernel_rfl))
  f221 := Tryz.func43.trans (congrArg some (by kernel_rfl))
  f224 := Tryz.func146.trans (congrArg some (by kernel_rfl))
  f225 := Tryz.func145.trans (congrArg some (by kernel_rfl))
  f260 := Tryz.func128.trans (congrArg some (by kernel_rfl))
  f266 := Tryz.func144.trans (congrArg some (by kernel_rfl))
  f267 := Tryz.func147.trans (congrArg some (by kernel_rfl))
  f268 := Tryz.func81.trans (congrArg some (by kernel_rfl))
  f314 := Tryz.func160.trans (congrArg some (by kernel_rfl))
  t0 := Tryz.underlying0
  a0 := Tryz.isAgg0
  z0 := Tryz.sizeOf0
  v0 := Tryz.zeroValue0
  t3 := Tryz.underlying3
  a3 := Tryz.isAgg3
  z3 := Tryz.sizeOf3
  v3 := Tryz.zeroValue3
  t4 := Tryz.underlying4
  a4 := Tryz.isAgg4
  z4 := Tryz.sizeOf4
  v4 := Tryz.zeroValue4
  t5 := Tryz.underlying5
  a5 := Tryz.isAgg5
  z5 := Tryz.sizeOf5
  v5 := Tryz.zeroValue5
  t9 := Tryz.underlying9
  a9 := Tryz.isAgg9
  z9 := Tryz.sizeOf9
  v9 := Tryz.zeroValue9
  t21 := Tryz.underlying21
  a21 := Tryz.isAgg21
  z21 := Tryz.sizeOf21
  v21 := Tryz.zeroValue21
  t31 := Tryz.underlying24
  a31 := Tryz.isAgg24
  z31 := Tryz.sizeOf24
  v31 := Tryz.zeroValue24
  t46 := Tryz.underlying162
  a46 := Tryz.isAgg162
  z46 := Tryz.sizeOf162
  v46 := Tryz.zeroValue162
  t51 := Tryz.underlying199
  a51 := Tryz.isAgg199
  z51 := Tryz.sizeOf199
  v51 := Tryz.zeroValue199
  t105 := Tryz.underlying144
  a105 := Tryz.isAgg144
  z105 := Tryz.sizeOf144
  v105 := Tryz.zeroValue144
  t119 := Tryz.underlying185
  a119 := Tryz.isAgg185
  z119 := Tryz.sizeOf185
  t138 := Tryz.underlying187
  a138 := Tryz.isAgg187
  z138 := Tryz.sizeOf187
  v138 := Tryz.zeroValue187
  t139 := Tryz.underlying188
  a139 := Tryz.isAgg188
  z139 := Tryz.sizeOf188
  v139 := Tryz.zeroValue188
  t146 := Tryz.underlying200
  a146 := Tryz.isAgg200
  z146 := Tryz.sizeOf200
  v146 := Tryz.zeroValue200
  g1 := by kernel_rfl
  g3 := by kernel_rfl
  g4 := by kernel_rfl }
open Go.RowKit Go.Lib in
theorem Tryz.strings_Split (s sep : ByteArray) (m : Int) (w : World) (hs : s.size < 4294967281) (hm : w.cell? ⟨1, 0, none⟩ = some (.int .i64 m)) (h1 : 1 ≤ sep.size) :
    Calls Tryz.prog 18 #[.string s, .string sep] w fun e w' =>
      e = .returned (.slice (some ⟨w.heap.size, 0, none⟩) (Lib.countB s sep + 1) (Lib.countB s sep + 1)) ∧ w' = w.alloc (.cells ((Lib.splitB sep 0 (Lib.countB s sep) s).map Value.string).toArray 9) := Any.strings_Split Tryz.lays146 (by kernel_rfl) s sep m w hs hm h1
end Go.Proofs
