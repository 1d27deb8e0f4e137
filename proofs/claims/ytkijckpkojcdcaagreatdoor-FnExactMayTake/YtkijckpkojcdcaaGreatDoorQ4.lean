/-
  Contracts for the walks, several texts in one: each part says what it proves, and under which conditions.
-/
import Derived.Deep.RegionHeld
import Derived.Deep.RegionWith
import Derived.Test.YtkijckpkojcdcaaGreatDoorQ2
import Derived.Test.YtkijckpkojcdcaaGreatDoorQ1
import Derived.Test.YtkijckpkojcdcaaGreatDoorQ3

/-! What VerText answers, the program's and the specification's: the same text; conditions: the list of texts lies in memory as told, and holds no more than 2 to the 20; the library's table of powers of ten lies in memory as its initialiser lays it. -/
namespace Go.Proofs.YtkijckpkojcdcaaGreatDoor
open Go.RowKit
set_option linter.unusedSimpArgs false
set_option linter.unusedVariables false

theorem numStr_four (n : Nat) (h : n ≤ 9999) : (numStr n).size ≤ 4 := by
  have e : (numStr n).size = (Lib.decDigits n).length := by simp [numStr, ByteArray.size]
  rw [e]
  have hl : ∀ m, ¬ m < 10 → (Lib.decDigits m).length = (Lib.decDigits (m / 10)).length + 1 := fun m hm => by rw [Lib.decDigits, dif_neg hm]; simp
  have h0 : ∀ m, m < 10 → (Lib.decDigits m).length = 1 := fun m hm => by rw [Lib.decDigits, dif_pos hm]; simp
  by_cases h1 : n < 10
  · rw [h0 n h1]; omega
  · rw [hl n h1]
    by_cases h2 : n / 10 < 10
    · rw [h0 _ h2]; omega
    · rw [hl _ h2]
      by_cases h3 : n / 10 / 10 < 10
      · rw [h0 _ h3]; omega
      · rw [hl _ h3, h0 _ (by omega)]; omega

def coreT (a b c : Int) : ByteArray := numStr a.toNat ++ ⟨#[46]⟩ ++ numStr b.toNat ++ ⟨#[46]⟩ ++ numStr c.toNat
def verT (a b c : Int) (ps : List ByteArray) : ByteArray := if verB a b c ps then (if 0 < ps.length then coreT a b c ++ ⟨#[45]⟩ ++ joinS ps ⟨#[46]⟩ else coreT a b c) else ⟨#[]⟩

theorem join_three (x y z t : ByteArray) : joinS [x, y, z] t = x ++ t ++ y ++ t ++ z := by
  have e : joinS [x, y, z] t = ((⟨#[]⟩ ++ x) ++ t ++ y) ++ t ++ z := rfl
  rw [e]
  congr 4

theorem reads_three {w w1 : World} (x y z : ByteArray) (hw : ∀ b, b < (w.alloc (.cells #[.string x, .string y, .string z] 9)).heap.size → w1.heap[b]? = (w.alloc (.cells #[.string x, .string y, .string z] 9)).heap[b]?) (hs : (w.alloc (.cells #[.string x, .string y, .string z] 9)).heap.size ≤ w1.heap.size) : Reads w1 (.slice (some ⟨w.heap.size, 0, none⟩) 3 3) (strsV [x, y, z]) := by
  refine ⟨some ⟨w.heap.size, 0, none⟩, 3, rfl, Nat.le_refl _, .inr ⟨w.heap.size, 0, rfl, Nat.lt_of_lt_of_le (by simp) hs, fun k hk => ?_⟩⟩
  have e : w1.heap[w.heap.size]? = some (.cells #[.string x, .string y, .string z] 9 (0, 0)) := (hw _ (by simp)).trans (vheap_new _ _)
  rw [vblk_cell e]
  match k, hk with
  | 0, _ => rfl
  | 1, _ => rfl
  | 2, _ => rfl

theorem in_range {a : Int} (h : inB a 0 9999 = true) : 0 ≤ a ∧ a ≤ 9999 := by simpa [inB] using h
theorem verB_nums {a b c : Int} {ps : List ByteArray} (h : verB a b c ps = true) : inB a 0 9999 = true ∧ inB b 0 9999 = true ∧ inB c 0 9999 = true := by
  simp only [verB, Bool.and_eq_true] at h
  exact ⟨h.1.1.1.2, h.1.1.2, h.1.2⟩

end Go.Proofs.YtkijckpkojcdcaaGreatDoor

/-! Digits that tell a number are the number's digits; what a text's pieces make with dots between is the text; no condition. -/
namespace Go.Proofs.YtkijckpkojcdcaaGreatDoor
open Go.RowKit
set_option linter.unusedSimpArgs false
set_option linter.unusedVariables false

theorem vdec_step {n : Nat} (h : ¬ n < 10) : Lib.decDigits n = Lib.decDigits (n / 10) ++ [UInt8.ofNat (48 + n % 10)] := by
  conv => lhs; rw [Lib.decDigits, dif_neg h]
theorem vdec_one {n : Nat} (h : n < 10) : Lib.decDigits n = [UInt8.ofNat (48 + n)] := by
  rw [Lib.decDigits, dif_pos h]
theorem allUpto_at {p : Nat → Int → Bool} {s : ByteArray} : ∀ {n : Nat}, allUpto p s n = true → ∀ k, k < n → p k ((s.data[k]!).toNat : Int) = true
  | 0, _, k, hk => by omega
  | n + 1, h, k, hk => by
    rw [allUpto, Bool.and_eq_true] at h
    by_cases e : k = n
    · subst e; exact h.2
    · exact allUpto_at h.1 k (by omega)
theorem vtake_snoc (s : ByteArray) (k : Nat) (h : k < s.size) : s.data.toList.take (k + 1) = s.data.toList.take k ++ [s.data[k]!] := by
  rw [List.take_succ_eq_append_getElem (by rw [vlen]; exact h)]
  congr 2
  rw [getElem!_pos s.data k h]
  rfl
theorem u8_back (u : UInt8) (h : 48 ≤ u.toNat) : UInt8.ofNat (48 + (u.toNat - 48)) = u := by
  rw [show 48 + (u.toNat - 48) = u.toNat by omega]
  simp

/-- The digits of what the first k bytes tell are these bytes. -/
theorem dec_back (s : ByteArray) (hd : allUpto okDigit s s.size = true) (hz : 1 < s.size → ¬ ((s.data[0]!).toNat : Int) = 48) : ∀ k, k < s.size → 0 ≤ numUpto s (k + 1) ∧ (1 < s.size → 1 ≤ numUpto s (k + 1)) ∧ Lib.decDigits (numUpto s (k + 1)).toNat = s.data.toList.take (k + 1)
  | 0, hk => by
    have h0 := digit_bounds (allUpto_at hd 0 hk)
    have e : numUpto s (0 + 1) = ((s.data[0]!).toNat : Int) - 48 := by simp [numUpto]
    rw [e]
    refine ⟨by omega, fun h1 => by have := hz h1; omega, ?_⟩
    rw [vdec_one (by omega), vtake_snoc s 0 hk]
    have : (((s.data[0]!).toNat : Int) - 48).toNat = (s.data[0]!).toNat - 48 := by omega
    rw [this, u8_back _ (by omega)]
    rfl
  | k + 1, hk => by
    obtain ⟨h1, h2, h3⟩ := dec_back s hd hz k (by omega)
    have h2 := h2 (by omega)
    have hb := digit_bounds (allUpto_at hd (k + 1) hk)
    have e : numUpto s (k + 1 + 1) = numUpto s (k + 1) * 10 + (((s.data[k + 1]!).toNat : Int) - 48) := rfl
    rw [e]
    generalize numUpto s (k + 1) = m at *
    refine ⟨by omega, fun _ => by omega, ?_⟩
    rw [vdec_step (by omega), vtake_snoc s (k + 1) hk, ← h3]
    have e1 : (m * 10 + (((s.data[k + 1]!).toNat : Int) - 48)).toNat / 10 = m.toNat := by omega
    have e2 : (m * 10 + (((s.data[k + 1]!).toNat : Int) - 48)).toNat % 10 = (s.data[k + 1]!).toNat - 48 := by omega
    rw [e1, e2, u8_back _ (by omega)]

theorem num_str {t : ByteArray} {most : Int} (h : numGood t most = true) : numStr (numOut t most).toNat = t ∧ 0 ≤ numOut t most := by
  have h0 := h
  simp only [numGood, Bool.and_eq_true, Bool.not_eq_true'] at h
  obtain ⟨⟨⟨h1, h2⟩, h3⟩, h4⟩ := h
  have hs := in17 h1
  have hz : 1 < t.size → ¬ ((t.data[0]!).toNat : Int) = 48 := fun hl he => by
    rw [decide_eq_true hl, he] at h3
    simp at h3
  obtain ⟨p1, p2, p3⟩ := dec_back t h2 hz (t.size - 1) (by omega)
  rw [show t.size - 1 + 1 = t.size by omega] at p1 p3
  rw [numOut_good h0]
  refine ⟨?_, p1⟩
  apply vext
  show (Lib.decDigits (numUpto t t.size).toNat).toArray.toList = _
  rw [p3]
  simp
  exact List.take_of_length_le (by rw [vlen]; omega)
#print axioms num_str
end Go.Proofs.YtkijckpkojcdcaaGreatDoor

/-! A text that the reader takes as a version is the text of that version; no condition. -/
namespace Go.Proofs.YtkijckpkojcdcaaGreatDoor
open Go.RowKit
set_option linter.unusedSimpArgs false
set_option linter.unusedVariables false

theorem vempty_add (x : ByteArray) : (⟨#[]⟩ : ByteArray) ++ x = x := by
  apply vext
  simp
theorem vjoinUpto_cons (x : ByteArray) (xs : List ByteArray) (t : ByteArray) : ∀ k, joinUpto (x :: xs) t (k + 2) = x ++ t ++ joinUpto xs t (k + 1)
  | 0 => by
    simp [joinUpto, vempty_add]
  | k + 1 => by
    rw [joinUpto, if_neg (by omega), vjoinUpto_cons x xs t k]
    conv => rhs; rw [joinUpto, if_neg (by omega)]
    simp [List.getD_cons_succ, ByteArray.append_assoc]
theorem vjoinS_cons (x : ByteArray) (xs : List ByteArray) (t : ByteArray) (h : xs ≠ []) : joinS (x :: xs) t = x ++ t ++ joinS xs t := by
  obtain ⟨n, hn⟩ : ∃ n, xs.length = n + 1 := ⟨xs.length - 1, by have := List.length_pos_iff.2 h; omega⟩
  rw [joinS, joinS, List.length_cons, hn]
  exact vjoinUpto_cons x xs t n
theorem vjoinS_one (x t : ByteArray) : joinS [x] t = x := by simp [joinS, joinUpto, vempty_add]
theorem vsplitGo_ne (s : ByteArray) (c : Int) : ∀ n i b, splitGo s c n i b ≠ []
  | 0, i, b => by simp [splitGo]
  | n + 1, i, b => by
    rw [splitGo]
    split
    · simp
    · exact vsplitGo_ne s c n (i + 1) b
theorem vcut_back (s : ByteArray) (b i : Nat) (u : UInt8) (hb : b ≤ i) (hi : i < s.size) (hc : s.data[i]! = u) : s.extract b i ++ ⟨#[u]⟩ ++ s.extract (i + 1) s.size = s.extract b s.size := by
  apply vext
  have hlen := vlen s
  simp only [ByteArray.data_append, Array.toList_append, vextract]
  have h1 : s.data.toList.drop i = s.data[i]! :: s.data.toList.drop (i + 1) := by
    have h2 : i < s.data.toList.length := by omega
    rw [List.drop_eq_getElem_cons h2]
    congr 1
    rw [getElem!_pos s.data i hi]
    rfl
  have h3 : (s.data.toList.drop b).take (s.size - b) = s.data.toList.drop b := List.take_of_length_le (by simp)
  have h4 : (s.data.toList.drop (i + 1)).take (s.size - (i + 1)) = s.data.toList.drop (i + 1) := List.take_of_length_le (by simp)
  rw [h3, h4, List.append_assoc, List.singleton_append, ← hc, ← h1]
  have h5 : s.data.toList.drop i = (s.data.toList.drop b).drop (i - b) := by rw [List.drop_drop]; congr 1; omega
  rw [h5, List.take_append_drop]
theorem byte_of {x : UInt8} {n : Nat} (h : (x.toNat : Int) = (n : Int)) : x = UInt8.ofNat n := by
  have : x.toNat = n := by omega
  rw [← this]; simp
theorem vsplit_back (s : ByteArray) : ∀ (n i b : Nat), n = s.size - i → b ≤ i → i ≤ s.size → joinS (splitGo s 46 (s.size - i) i b) ⟨#[46]⟩ = s.extract b s.size
  | 0, i, b, hn, hb, hi => by
    obtain rfl : i = s.size := by omega
    rw [splitGo_end, vjoinS_one]
  | n + 1, i, b, hn, hb, hi => by
    have hlt : i < s.size := by omega
    by_cases h : ((s.data[i]!).toNat : Int) = 46
    · rw [splitGo_hit s 46 i b hlt h, vjoinS_cons _ _ _ (vsplitGo_ne _ _ _ _ _), vsplit_back s n (i + 1) (i + 1) (by omega) (Nat.le_refl _) (by omega)]
      exact vcut_back s b i 46 hb hlt (byte_of (n := 46) h)
    · rw [splitGo_miss s 46 i b hlt h]
      exact vsplit_back s n (i + 1) b (by omega) (by omega) (by omega)
theorem vwhole (s : ByteArray) : s.extract 0 s.size = s := by
  apply vext
  rw [vextract, List.drop_zero]
  exact List.take_of_length_le (by rw [vlen]; omega)
theorem vsplit_join (s : ByteArray) : joinS (splitS s 46) ⟨#[46]⟩ = s := by
  have := vsplit_back s s.size 0 0 rfl (Nat.le_refl _) (Nat.zero_le _)
  have e : splitS s 46 = splitGo s 46 (s.size - 0) 0 0 := rfl
  rw [e, this, vwhole]

/-- What is read, told anew, is the text. -/
theorem text_back (s : ByteArray) (k : Nat) (hk : k ≤ s.size) (hd : k < s.size → ((s.data[k]!).toNat : Int) = 45) (t0 t1 t2 : ByteArray) (P : List ByteArray) (hL : [t0, t1, t2] = splitS (s.extract 0 k) 46) (hP : P = if k < s.size then splitS (s.extract (k + 1) s.size) 46 else [])
    (g0 : numGood t0 9999 = true) (g1 : numGood t1 9999 = true) (g2 : numGood t2 9999 = true) (gp : P.all partB = true) (gl : P.length ≤ 3) : verT (numOut t0 9999) (numOut t1 9999) (numOut t2 9999) P = s := by
  have hv : verB (numOut t0 9999) (numOut t1 9999) (numOut t2 9999) P = true := by
    rw [verB, parts_all, gp, num_in g0, num_in g1, num_in g2, decide_eq_true gl]; rfl
  have hc : coreT (numOut t0 9999) (numOut t1 9999) (numOut t2 9999) = s.extract 0 k := by
    rw [coreT, (num_str g0).1, (num_str g1).1, (num_str g2).1, ← join_three, hL, vsplit_join]
  rw [verT, hv, if_pos rfl, hc]
  by_cases h : k < s.size
  · rw [if_pos h] at hP
    have hp : 0 < P.length := by rw [hP]; exact List.length_pos_iff.2 (vsplitGo_ne _ _ _ _ _)
    rw [if_pos hp, hP, vsplit_join, vcut_back s 0 k 45 (Nat.zero_le _) h (byte_of (n := 45) (hd h)), vwhole]
  · rw [if_neg h] at hP
    subst hP
    rw [if_neg (by simp), show k = s.size by omega, vwhole]

theorem res_back (s : ByteArray) (ns : List Int) (ps : List ByteArray) (h : resAll s = some (ns, ps)) : ∃ a b c, ns = [a, b, c] ∧ verT a b c ps = s := by
  obtain ⟨k, hk, hd, hn⟩ : ∃ k, k ≤ s.size ∧ (k < s.size → ((s.data[k]!).toNat : Int) = 45) ∧ ∀ j, j < k → ¬ ((s.data[j]!).toNat : Int) = 45 := by
    have : ∀ n, n ≤ s.size → (∃ k, k ≤ n ∧ (k < n → ((s.data[k]!).toNat : Int) = 45) ∧ ∀ j, j < k → ¬ ((s.data[j]!).toNat : Int) = 45) := by
      intro n
      induction n with
      | zero => exact fun _ => ⟨0, Nat.le_refl _, fun h => by omega, fun j h => by omega⟩
      | succ n ih =>
        intro hle
        obtain ⟨k, h1, h2, h3⟩ := ih (by omega)
        by_cases hkn : k < n
        · exact ⟨k, by omega, fun _ => h2 hkn, h3⟩
        · have : k = n := by omega
          subst this
          by_cases hc : ((s.data[k]!).toNat : Int) = 45
          · exact ⟨k, by omega, fun _ => hc, h3⟩
          · refine ⟨k + 1, Nat.le_refl _, fun h => by omega, fun j hj => ?_⟩
            by_cases e : j = k
            · subst e; exact hc
            · exact h3 j (by omega)
    exact this s.size (Nat.le_refl _)
  obtain ⟨L, hL⟩ : ∃ L, L = splitS (s.extract 0 k) 46 := ⟨_, rfl⟩
  obtain ⟨P, hP⟩ : ∃ P, P = if k < s.size then splitS (s.extract (k + 1) s.size) 46 else [] := ⟨_, rfl⟩
  rw [res_spec s k hk hd hn L P hL hP] at h
  split at h
  · rename_i hg
    simp only [Bool.and_eq_true, decide_eq_true_eq] at hg
    obtain ⟨⟨⟨g1, g2⟩, g3⟩, g4⟩ := hg
    obtain ⟨t0, t1, t2, h3⟩ := three_of g2
    subst h3
    simp only [List.all_cons, List.all_nil, Bool.and_true, Bool.and_eq_true] at g1
    injection h with h
    injection h with h1 h2
    subst h1 h2
    exact ⟨_, _, _, rfl, text_back s k hk hd t0 t1 t2 _ hL hP g1.1 g1.2.1 g1.2.2 g3 g4⟩
  · cases h
#print axioms res_back
end Go.Proofs.YtkijckpkojcdcaaGreatDoor

/-! The text of a version is read as that version; no condition. -/
namespace Go.Proofs.YtkijckpkojcdcaaGreatDoor
open Go.RowKit
set_option linter.unusedSimpArgs false
set_option linter.unusedVariables false

theorem vat_drop (s : ByteArray) (b i : Nat) (l : List UInt8) (h : s.data.toList.drop b = l) (hi : i < l.length) : s.data[b + i]! = l[i] := by
  subst h
  have h1 : b + i < s.data.toList.length := by rw [List.length_drop] at hi; omega
  have h2 : b + i < s.data.size := by rw [← Array.length_toList]; exact h1
  rw [getElem!_pos s.data (b + i) h2, List.getElem_drop, Array.getElem_toList]
theorem vsplit_hit (s : ByteArray) (c : Int) (b m : Nat) (hm : m < s.size) (hc : ((s.data[m]!).toNat : Int) = c) : ∀ n i, n = m - i → i ≤ m → (∀ j, i ≤ j → j < m → ¬ ((s.data[j]!).toNat : Int) = c) → splitGo s c (s.size - i) i b = s.extract b m :: splitGo s c (s.size - (m + 1)) (m + 1) (m + 1)
  | 0, i, hn, hi, hj => by
    obtain rfl : i = m := by omega
    exact splitGo_hit s c i b hm hc
  | n + 1, i, hn, hi, hj => by
    rw [splitGo_miss s c i b (by omega) (hj i (Nat.le_refl _) (by omega))]
    exact vsplit_hit s c b m hm hc n (i + 1) (by omega) (by omega) (fun j h1 h2 => hj j (by omega) h2)
theorem vsplit_end (s : ByteArray) (c : Int) (b : Nat) : ∀ n i, n = s.size - i → i ≤ s.size → (∀ j, i ≤ j → j < s.size → ¬ ((s.data[j]!).toNat : Int) = c) → splitGo s c (s.size - i) i b = [s.extract b s.size]
  | 0, i, hn, hi, hj => by
    obtain rfl : i = s.size := by omega
    exact splitGo_end s c b
  | n + 1, i, hn, hi, hj => by
    rw [splitGo_miss s c i b (by omega) (hj i (Nat.le_refl _) (by omega))]
    exact vsplit_end s c b n (i + 1) (by omega) (by omega) (fun j h1 h2 => hj j (by omega) h2)

/-- A text holds no such byte. -/
def noneB (c : Nat) (x : ByteArray) : Prop := ∀ u, u ∈ x.data.toList → u.toNat ≠ c

theorem vsplit_told (s : ByteArray) : ∀ (ps : List ByteArray) (b : Nat), ps ≠ [] → (∀ x, x ∈ ps → noneB 46 x) → b ≤ s.size → s.data.toList.drop b = (joinS ps ⟨#[46]⟩).data.toList → splitGo s 46 (s.size - b) b b = ps
  | [], b, h, _, _, _ => absurd rfl h
  | [x], b, _, hx, hb, hs => by
    rw [vjoinS_one] at hs
    have hl : s.size - b = x.size := by rw [← vlen s, ← vlen x, ← hs, List.length_drop]
    rw [vsplit_end s 46 b (s.size - b) b rfl hb]
    · congr 1
      apply vext
      rw [vextract, hs]
      exact List.take_of_length_le (by rw [vlen]; omega)
    · intro j h1 h2 h3
      have h4 : j - b < x.data.toList.length := by rw [vlen]; omega
      have := vat_drop s b (j - b) _ hs h4
      rw [show b + (j - b) = j by omega] at this
      rw [this] at h3
      exact hx x (by simp) _ (List.getElem_mem h4) (by omega)
  | x :: y :: xs, b, _, hx, hb, hs => by
    rw [vjoinS_cons _ _ _ (by simp)] at hs
    obtain ⟨r, hr⟩ : ∃ r, r = joinS (y :: xs) ⟨#[46]⟩ := ⟨_, rfl⟩
    rw [← hr] at hs
    simp only [ByteArray.data_append, Array.toList_append] at hs
    have hl : s.size - b = x.size + 1 + r.size := by
      have := congrArg List.length hs
      rw [List.length_drop, vlen, List.length_append, List.length_append, vlen, vlen] at this
      exact this
    have hm : ((s.data[b + x.size]!).toNat : Int) = 46 := by
      rw [vat_drop s b x.size _ hs (by rw [List.length_append, List.length_append, vlen]; simp; omega)]
      rw [List.getElem_append_left (by rw [List.length_append, vlen]; simp), List.getElem_append_right (by rw [vlen]; exact Nat.le_refl _)]
      simp [vlen]
    rw [vsplit_hit s 46 b (b + x.size) (by omega) hm x.size b (by omega) (by omega)]
    · congr 1
      · apply vext
        rw [vextract, hs, List.append_assoc, show b + x.size - b = x.data.toList.length by rw [vlen]; omega, List.take_left']
        rfl
      · refine vsplit_told s (y :: xs) (b + x.size + 1) (by simp) (fun z hz => hx z (by simp at hz ⊢; exact .inr hz)) (by omega) ?_
        rw [show b + x.size + 1 = b + (x.size + 1) by omega, ← List.drop_drop, hs, ← hr]
        exact List.drop_left' (by rw [List.length_append, vlen]; rfl)
    · intro j h1 h2 h3
      have h4 : j - b < x.data.toList.length := by rw [vlen]; omega
      have := vat_drop s b (j - b) _ hs (by rw [List.length_append, List.length_append]; omega)
      rw [show b + (j - b) = j by omega, List.getElem_append_left (by rw [List.length_append]; omega), List.getElem_append_left h4] at this
      rw [this] at h3
      exact hx x (by simp) _ (List.getElem_mem h4) (by omega)
theorem vsplit_of_join (ps : List ByteArray) (h : ps ≠ []) (hx : ∀ x, x ∈ ps → noneB 46 x) : splitS (joinS ps ⟨#[46]⟩) 46 = ps :=
  vsplit_told _ ps 0 h hx (Nat.zero_le _) (by simp)

theorem vdec_ne : ∀ n, 0 < (Lib.decDigits n).length := by
  intro n
  by_cases h : n < 10
  · rw [vdec_one h]; simp
  · rw [vdec_step h]; simp
theorem vdec_digit (n : Nat) : ∀ u, u ∈ Lib.decDigits n → 48 ≤ u.toNat ∧ u.toNat ≤ 57 := by
  induction n using Nat.strongRecOn with
  | ind n ih =>
    intro u hu
    by_cases h : n < 10
    · rw [vdec_one h, List.mem_singleton] at hu
      subst hu
      simp only [UInt8.toNat_ofNat']
      omega
    · rw [vdec_step h, List.mem_append, List.mem_singleton] at hu
      rcases hu with hu | hu
      · exact ih (n / 10) (by omega) u hu
      · subst hu
        simp only [UInt8.toNat_ofNat']
        omega
theorem vdec_head (n : Nat) (hn : 1 ≤ n) : ∀ u, (Lib.decDigits n)[0]? = some u → u.toNat ≠ 48 := by
  induction n using Nat.strongRecOn with
  | ind n ih =>
    intro u hu
    by_cases h : n < 10
    · rw [vdec_one h, List.getElem?_cons_zero] at hu
      injection hu with hu
      subst hu
      simp only [UInt8.toNat_ofNat']
      omega
    · rw [vdec_step h, List.getElem?_append_left (vdec_ne _)] at hu
      exact ih (n / 10) (by omega) (by omega) u hu
theorem vdec_num (s : ByteArray) : ∀ n k, s.data.toList.take k = Lib.decDigits n → k ≤ s.size → numUpto s k = (n : Int) := by
  intro n
  induction n using Nat.strongRecOn with
  | ind n ih =>
    intro k hk hs
    cases k with
    | zero => exact absurd (vdec_ne n) (by rw [← hk]; simp)
    | succ k =>
      rw [vtake_snoc s k (by omega)] at hk
      have e : numUpto s (k + 1) = numUpto s k * 10 + (((s.data[k]!).toNat : Int) - 48) := rfl
      rw [e]
      by_cases h : n < 10
      · rw [vdec_one h] at hk
        have h1 := List.append_inj' (s₁ := s.data.toList.take k) (s₂ := []) (t₁ := [s.data[k]!]) (t₂ := [UInt8.ofNat (48 + n)]) (by simpa using hk) rfl
        have h2 : k = 0 := by
          have := congrArg List.length h1.1
          rw [List.length_take, vlen, List.length_nil] at this
          omega
        subst h2
        have h3 : s.data[0]! = UInt8.ofNat (48 + n) := by simpa using h1.2
        rw [h3]
        simp only [UInt8.toNat_ofNat', numUpto]
        omega
      · rw [vdec_step h] at hk
        have h1 := List.append_inj' hk rfl
        have h3 : s.data[k]! = UInt8.ofNat (48 + n % 10) := by simpa using h1.2
        rw [ih (n / 10) (by omega) k h1.1 (by omega), h3]
        simp only [UInt8.toNat_ofNat']
        omega
theorem told_num (n : Nat) : numUpto (numStr n) (numStr n).size = (n : Int) :=
  vdec_num (numStr n) n _ (by
    show (Lib.decDigits n).toArray.toList.take _ = _
    rw [List.take_of_length_le]
    exact Nat.le_of_eq (vlen (numStr n))) (Nat.le_refl _)
theorem told_none (c n : Nat) (hc : c < 48) : noneB c (numStr n) := fun u hu he => by
  have := vdec_digit n u hu
  omega

theorem allUpto_of {p : Nat → Int → Bool} {s : ByteArray} : ∀ {n : Nat}, (∀ k, k < n → p k ((s.data[k]!).toNat : Int) = true) → allUpto p s n = true
  | 0, _ => rfl
  | n + 1, h => by
    rw [allUpto, allUpto_of (fun k hk => h k (by omega)), h n (by omega)]; rfl
theorem vat_mem (s : ByteArray) (k : Nat) (h : k < s.size) : s.data[k]! ∈ s.data.toList := by
  have h1 : k < s.data.toList.length := by rw [vlen]; exact h
  have := vat_drop s 0 k _ rfl (by simpa using h1)
  rw [Nat.zero_add] at this
  rw [this]
  simp
theorem told_good (n : Nat) (h : n ≤ 9999) : numGood (numStr n) 9999 = true := by
  have h1 : 1 ≤ (numStr n).size := by rw [← vlen]; exact vdec_ne n
  have h2 := numStr_four n h
  have h3 : allUpto okDigit (numStr n) (numStr n).size = true := allUpto_of (fun k hk => by
    have := vdec_digit n _ (vat_mem (numStr n) k hk)
    rw [okDigit, digitB, decide_eq_true (by omega), decide_eq_true (by omega)]; rfl)
  have h4 : (decide (1 < (numStr n).size) && (((numStr n).data[0]!).toNat : Int) == 48) = false := by
    by_cases hl : 1 < (numStr n).size
    · have hn : 1 ≤ n := by
        cases n with
        | zero =>
          rw [← vlen] at hl
          have e : (numStr 0).data.toList = Lib.decDigits 0 := rfl
          rw [e, vdec_one (by omega)] at hl
          simp at hl
        | succ n => omega
      have h5 : (Lib.decDigits n)[0]? = some ((numStr n).data[0]!) := by
        have := vat_drop (numStr n) 0 0 (Lib.decDigits n) rfl (vdec_ne n)
        rw [Nat.add_zero] at this
        rw [this]
        exact List.getElem?_eq_getElem (vdec_ne n)
      have h6 := vdec_head n hn _ h5
      have h7 : ¬ (((numStr n).data[0]!).toNat : Int) = 48 := by omega
      rw [beq_eq_false_iff_ne.2 h7, Bool.and_false]
    · rw [decide_eq_false hl]; rfl
  rw [numGood, h3, h4, told_num, inB, decide_eq_true (by omega), decide_eq_true (by omega), decide_eq_true (by omega)]; rfl
theorem told_out (n : Nat) (h : n ≤ 9999) : numOut (numStr n) 9999 = (n : Int) := by
  rw [numOut_good (told_good n h), told_num]
theorem part_none {x : ByteArray} (h : partB x = true) : noneB 46 x := by
  intro u hu he
  simp only [partB, Bool.and_eq_true] at h
  obtain ⟨k, hk, e⟩ := List.getElem_of_mem hu
  have h1 := allUpto_at h.1.1 k (by rw [← vlen]; exact hk)
  have h2 := vat_drop x 0 k _ rfl hk
  rw [Nat.zero_add] at h2
  rw [h2] at h1
  have h3 : (x.data.toList.drop 0)[k] = u := e
  rw [h3, okPre, preB, he] at h1
  exact absurd h1 (by decide)
theorem core_none (a b c : Int) : noneB 45 (coreT a b c) := by
  intro u hu
  simp only [coreT, ByteArray.data_append, Array.toList_append, List.mem_append, List.mem_singleton] at hu
  rcases hu with (((hu | hu) | hu) | hu) | hu
  · exact told_none 45 _ (by omega) u hu
  · subst hu; decide
  · exact told_none 45 _ (by omega) u hu
  · subst hu; decide
  · exact told_none 45 _ (by omega) u hu
theorem core_split (a b c : Int) : splitS (coreT a b c) 46 = [numStr a.toNat, numStr b.toNat, numStr c.toNat] := by
  have e : coreT a b c = joinS [numStr a.toNat, numStr b.toNat, numStr c.toNat] ⟨#[46]⟩ := by rw [join_three]; rfl
  rw [e]
  refine vsplit_of_join _ (by simp) (fun x hx => ?_)
  simp at hx
  rcases hx with rfl | rfl | rfl <;> exact told_none 46 _ (by omega)
theorem in_nat {a : Int} (h : inB a 0 9999 = true) : ((a.toNat : Nat) : Int) = a ∧ a.toNat ≤ 9999 := by
  simp only [inB, Bool.and_eq_true, decide_eq_true_eq] at h
  omega

/-- What is told is read. -/
theorem res_told (a b c : Int) (ps : List ByteArray) (h : verB a b c ps = true) : resAll (verT a b c ps) = some ([a, b, c], ps) := by
  have h0 := h
  simp only [verB, Bool.and_eq_true, decide_eq_true_eq, parts_all] at h
  obtain ⟨⟨⟨⟨gp, ga⟩, gb⟩, gc⟩, gl⟩ := h
  obtain ⟨ea, la⟩ := in_nat ga
  obtain ⟨eb, lb⟩ := in_nat gb
  obtain ⟨ec, lc⟩ := in_nat gc
  rw [verT, h0, if_pos rfl]
  have fin : ∀ (s : ByteArray) (k : Nat), k ≤ s.size → (k < s.size → ((s.data[k]!).toNat : Int) = 45) → (∀ j, j < k → ¬ ((s.data[j]!).toNat : Int) = 45) → s.extract 0 k = coreT a b c → (ps = if k < s.size then splitS (s.extract (k + 1) s.size) 46 else []) → resAll s = some ([a, b, c], ps) := by
    intro s k hk hd hn h1 h2
    rw [res_spec s k hk hd hn [numStr a.toNat, numStr b.toNat, numStr c.toNat] ps (by rw [h1, core_split]) h2]
    rw [gp, decide_eq_true gl]
    simp only [List.all_cons, List.all_nil, List.map_cons, List.map_nil, told_good _ la, told_good _ lb, told_good _ lc, told_out _ la, told_out _ lb, told_out _ lc, ea, eb, ec, List.length_cons, List.length_nil]
    rfl
  by_cases hp : 0 < ps.length
  · rw [if_pos hp]
    obtain ⟨r, hr⟩ : ∃ r, r = joinS ps ⟨#[46]⟩ := ⟨_, rfl⟩
    rw [← hr]
    have hd : (coreT a b c ++ ⟨#[45]⟩ ++ r).data.toList = (coreT a b c).data.toList ++ [45] ++ r.data.toList := by
      simp only [ByteArray.data_append, Array.toList_append]
    have hcn := core_none a b c
    generalize coreT a b c = K at *
    have hsz : (K ++ ⟨#[45]⟩ ++ r).size = K.size + 1 + r.size := by
      rw [← vlen, hd, List.length_append, List.length_append, vlen, vlen]; rfl
    generalize K ++ ⟨#[45]⟩ ++ r = s at *
    have hd0 : s.data.toList.drop 0 = K.data.toList ++ [45] ++ r.data.toList := by rw [List.drop_zero, hd]
    refine fin s K.size (by omega) (fun _ => ?_) (fun j hj he => ?_) ?_ ?_
    · have := vat_drop s 0 K.size _ hd0 (by rw [List.length_append, List.length_append, vlen]; simp; omega)
      rw [Nat.zero_add] at this
      rw [this, List.getElem_append_left (by rw [List.length_append, vlen]; simp), List.getElem_append_right (by rw [vlen]; exact Nat.le_refl _)]
      simp [vlen]
    · have h4 : j < K.data.toList.length := by rw [vlen]; exact hj
      have := vat_drop s 0 j _ hd0 (by rw [List.length_append, List.length_append]; omega)
      rw [Nat.zero_add, List.getElem_append_left (by rw [List.length_append]; omega), List.getElem_append_left h4] at this
      rw [this] at he
      exact hcn _ (List.getElem_mem h4) (by omega)
    · apply vext
      rw [vextract, hd0, List.append_assoc, Nat.sub_zero]
      exact List.take_left' (vlen K)
    · rw [if_pos (by omega)]
      have e : s.extract (K.size + 1) s.size = r := by
        apply vext
        rw [vextract, hd, List.drop_left' (by rw [List.length_append, vlen]; rfl)]
        exact List.take_of_length_le (by rw [vlen]; omega)
      rw [e, hr, vsplit_of_join ps (List.length_pos_iff.1 hp) (fun x hx => part_none (List.all_eq_true.1 gp x hx))]
  · rw [if_neg hp]
    have : ps = [] := List.length_eq_zero_iff.1 (by omega)
    refine fin _ (coreT a b c).size (Nat.le_refl _) (fun h => by omega) (fun j hj he => ?_) (vwhole _) (by rw [if_neg (by omega), this])
    exact core_none a b c _ (vat_mem _ j hj) (by omega)
#print axioms res_told
end Go.Proofs.YtkijckpkojcdcaaGreatDoor

/-! What is read of a text as a version is a right one: plain facts. -/
namespace Go.Proofs.YtkijckpkojcdcaaGreatDoor
open Go.RowKit
set_option linter.unusedSimpArgs false
set_option linter.unusedVariables false

theorem bk_back (t : ByteArray) (h : resOk t = true) : verT (resN t 0) (resN t 1) (resN t 2) (resP t) = t := by
  unfold resOk at h
  obtain ⟨⟨ns, ps⟩, hx⟩ := Option.isSome_iff_exists.1 h
  obtain ⟨a, b, c, rfl, hv⟩ := res_back t ns ps hx
  simp only [resN, resP, hx]
  exact hv
theorem bk_parts : ∀ ps : List ByteArray, (∀ x ∈ ps, x.size ≤ 8) → (ps.map ByteArray.size).sum ≤ 8 * ps.length
  | [], _ => by simp
  | x :: ps, h => by
    have := bk_parts ps (fun t ht => h t (List.mem_cons_of_mem _ ht))
    have := h x (List.mem_cons_self ..)
    simp only [List.map_cons, List.sum_cons, List.length_cons]
    omega
theorem bk_bulk {a b c : Int} {ps : List ByteArray} (h : verB a b c ps = true) : bulkS ps ≤ 27 := by
  have hp : partsUpto ps ps.length = true := by
    cases hh : partsUpto ps ps.length with
    | true => rfl
    | false => rw [verB_parts hh] at h; exact absurd h (by decide)
  have hl : ps.length ≤ 3 := by
    rw [verB_all hp] at h
    simp at h
    omega
  have hx : ∀ x ∈ ps, x.size ≤ 8 := fun x hm => by
    obtain ⟨k, hk, rfl⟩ := List.getElem_of_mem hm
    cases hb : partB ps[k] with
    | false => rw [parts_end hk hb] at hp; exact absurd hp (by decide)
    | true =>
      simp only [partB, Bool.and_eq_true] at hb
      have h2 := hb.1.2
      simp [inB] at h2
      omega
  have := bk_parts ps hx
  unfold bulkS
  omega
theorem bk_empty : resOk ⟨#[]⟩ = false := by decide +kernel
theorem bk_ver (t : ByteArray) (h : resOk t = true) : verB (resN t 0) (resN t 1) (resN t 2) (resP t) = true := by
  have hb := bk_back t h
  cases hv : verB (resN t 0) (resN t 1) (resN t 2) (resP t) with
  | true => rfl
  | false =>
    have e : verT (resN t 0) (resN t 1) (resN t 2) (resP t) = ⟨#[]⟩ := by simp [verT, hv]
    rw [e] at hb
    rw [← hb, bk_empty] at h
    exact absurd h (by decide)
theorem bk_num {t : ByteArray} (h : numGood t 9999 = true) : 0 ≤ numOut t 9999 ∧ numOut t 9999 ≤ 9999 := by
  refine ⟨(num_str h).2, ?_⟩
  rw [numOut_good h]
  simp only [numGood, Bool.and_eq_true, decide_eq_true_eq] at h
  exact h.2
end Go.Proofs.YtkijckpkojcdcaaGreatDoor

/-! The Cmps that a word makes, the program's: a contract for the walks; conditions: the word has at most 2 to the 20 bytes, the table of signs holds what the text lays. -/
namespace Go.Proofs.YtkijckpkojcdcaaGreatDoor
open Go.RowKit
set_option linter.unusedSimpArgs false
set_option linter.unusedVariables false

theorem part_nums {s : ByteArray} (h : partOk s = true) : numsOk (partA s) (partB' s) (partC s) ∧ (partT s = 1 ∨ partT s = 2 ∨ partT s = 3) ∧ bulkS (partP s) ≤ 27 := by
  cases hr : resOk s with
  | true =>
    have hv := bk_ver s hr
    obtain ⟨h1, h2, h3⟩ := verB_nums hv
    have hb := bk_bulk hv
    simp only [partA, partB', partC, partT, partP, partAll, hr, if_true, Option.getD_some]
    exact ⟨⟨in_range h1, in_range h2, in_range h3⟩, .inr (.inr (by simp)), hb⟩
  | false =>
    cases hp : partW (splitS s 46) with
    | none => simp [partOk, partAll, hr, hp] at h
    | some x =>
      obtain ⟨a, b, t⟩ := x
      have e : partAll s = some (a, b, 0, [], t) := by simp [partAll, hr, hp]
      simp only [partA, partB', partC, partT, partP, e, Option.getD_some]
      have hx : (0 ≤ a ∧ a ≤ 9999) ∧ (0 ≤ b ∧ b ≤ 9999) ∧ (t = 1 ∨ t = 2) := by
        unfold partW at hp
        split at hp
        · simp at hp
        split at hp
        · split at hp
          · rename_i hg
            simp at hp
            obtain ⟨rfl, rfl, rfl⟩ := hp
            exact ⟨bk_num hg, by omega, .inl rfl⟩
          · simp at hp
        · split at hp
          · rename_i hg
            simp at hp hg
            obtain ⟨rfl, rfl, rfl⟩ := hp
            exact ⟨bk_num hg.1, bk_num hg.2, .inr rfl⟩
          · simp at hp
      refine ⟨⟨hx.1, hx.2.1, by omega, by omega⟩, ?_, by simp [bulkS]⟩
      rcases hx.2.2 with h | h
      · exact .inl h
      · exact .inr (.inl h)

def starT : ByteArray := ⟨#[42]⟩
/-- The Cmps that a word makes, and whether it is one. -/
def wordD (s : ByteArray) : List CmpD :=
  if s = ⟨#[42]⟩ then [⟨4, 0, 0, 0, []⟩] else if partOk (signRest s) then makeC (signOf s) (partA (signRest s)) (partB' (signRest s)) (partC (signRest s)) (partP (signRest s)) (partT (signRest s)) else []
def wordOk (s : ByteArray) : Bool := decide (s = ⟨#[42]⟩) || (partOk (signRest s) && (wordD s).all goodD)

theorem signRest_size (s : ByteArray) : (signRest s).size ≤ s.size := by
  have h : ∀ n, (signGo s n).2.size ≤ s.size := fun n => by
    induction n with
    | zero => exact Nat.le_refl _
    | succ n ih =>
      rw [signGo]
      split
      · show (cutRest s _).size ≤ _
        unfold cutRest
        split <;> first | (rw [ByteArray.size_extract]; omega) | exact Nat.le_refl _
      · exact ih
  exact h 7

theorem make_bulk (sign a b c : Int) (ps : List ByteArray) (t : Int) (h : bulkS ps ≤ 27) : ∀ d ∈ makeC sign a b c ps t, bulkS d.ps ≤ 1048576 := by
  have hz : bulkS [zeroT] ≤ 1048576 := by decide
  have hn : bulkS ([] : List ByteArray) ≤ 1048576 := by decide
  have hp : bulkS ps ≤ 1048576 := by omega
  unfold makeC
  dsimp only
  intro d hd
  split at hd
  · simp at hd; rcases hd with rfl | rfl <;> assumption
  split at hd
  · simp at hd; rcases hd with rfl | rfl <;> assumption
  split at hd
  · simp at hd; subst hd; assumption
  split at hd
  · simp at hd; subst hd; assumption
  split at hd
  · simp at hd; subst hd; assumption
  · simp at hd; rcases hd with rfl | rfl <;> assumption
theorem make_len (sign a b c : Int) (ps : List ByteArray) (t : Int) : (makeC sign a b c ps t).length ≤ 2 := by
  unfold makeC
  dsimp only
  repeat (split; · simp)
  simp

theorem own_nilC (w : World) (lo : Nat) : CmpsOwn lo w (.slice none 0 0) [] :=
  ⟨[], fun _ => undef, ⟨rfl, .inl ⟨rfl, rfl⟩⟩, fun i h => by simp at h, fun i j h => by simp at h⟩

set_option maxHeartbeats 2000000 in
set_option maxRecDepth 100000 in
theorem cmpsOfWord_c (s : ByteArray) (hs : s.size ≤ 1048576) (w : World) (hsg : ∀ k (h : k < signsT.length), w.cell? ⟨0, k, none⟩ = some (.string signsT[k])) :
    Calls Tryz.prog 153 #[.string s] w fun e w' => ∃ v, e = .returned (.tuple #[v, .bool (wordOk s)]) ∧ CmpsOwn w.heap.size w' v (wordD s) ∧ Below w.heap.size w w' := by
  by_cases hst : s = ⟨#[42]⟩
  · have e1 : wordOk s = true := by simp [wordOk, hst]
    have e2 : wordD s = [⟨4, 0, 0, 0, []⟩] := by simp [wordD, hst]
    rw [e1, e2]
    subst hst
    clear e1 e2 hsg
    go_enter Tryz.func153, Tryz.ntmps153
    go_wp2_with fail
    go_ret2
    exact ⟨_, rfl, one_own ⟨4, 0, 0, 0, []⟩ rfl (Nat.le_refl _) (owns_nil _ _), (Below.refl _ _).alloc (Nat.le_refl _) _⟩
  have hsb : (s.toList == [42]) = false := by rw [beq_eq_false_iff_ne]; intro h; exact hst (bytes_eq_of_toList (by rw [h, ByteArray.toList_eq]))
  have HC := cutSign_c s hs w hsg
  have hrs : (signRest s).size ≤ 1048576 := Nat.le_trans (signRest_size s) hs
  have HP : Hid (∀ w1, Calls Tryz.prog 197 #[.string (signRest s)] w1 fun e w' => ∃ u, e = .returned (partOut (signRest s) u) ∧ w'.ownsRow w1.heap.size 9 1 u (partP (signRest s)).length (strsV (partP (signRest s))) ∧ Below w1.heap.size w1 w') := fun w1 => parsePart_c _ hrs w1
  have HW : Hid (wordD s = if partOk (signRest s) then makeC (signOf s) (partA (signRest s)) (partB' (signRest s)) (partC (signRest s)) (partP (signRest s)) (partT (signRest s)) else []) := by show _ = _; rw [wordD, if_neg hst]
  have HO : Hid (wordOk s = (partOk (signRest s) && (wordD s).all goodD)) := by show _ = _; rw [wordOk, decide_eq_false hst, Bool.false_or]
  have HQ : Hid (partOk (signRest s) = true → numsOk (partA (signRest s)) (partB' (signRest s)) (partC (signRest s)) ∧ (partT (signRest s) = 1 ∨ partT (signRest s) = 2 ∨ partT (signRest s) = 3) ∧ bulkS (partP (signRest s)) ≤ 27) := part_nums
  obtain ⟨D, hD⟩ : ∃ D, D = wordD s := ⟨_, rfl⟩
  obtain ⟨K, hK⟩ : ∃ K, K = wordOk s := ⟨_, rfl⟩
  rw [← hD, ← hK] at HO
  rw [← hD] at HW
  rw [← hD, ← hK]
  unfold partOut at HP
  obtain ⟨sg, hsg0⟩ : ∃ x, x = signOf s := ⟨_, rfl⟩
  obtain ⟨rs, hrs0⟩ : ∃ x, x = signRest s := ⟨_, rfl⟩
  rw [← hsg0, ← hrs0] at HC HW
  rw [← hrs0] at HP HO HQ
  obtain ⟨ok, hok⟩ : ∃ x, x = partOk rs := ⟨_, rfl⟩
  obtain ⟨pa, hpa⟩ : ∃ x, x = partA rs := ⟨_, rfl⟩
  obtain ⟨pb, hpb⟩ : ∃ x, x = partB' rs := ⟨_, rfl⟩
  obtain ⟨pc, hpc⟩ : ∃ x, x = partC rs := ⟨_, rfl⟩
  obtain ⟨pp, hpp⟩ : ∃ x, x = partP rs := ⟨_, rfl⟩
  obtain ⟨pt, hpt⟩ : ∃ x, x = partT rs := ⟨_, rfl⟩
  rw [← hok, ← hpa, ← hpb, ← hpc, ← hpp, ← hpt] at HP HQ HW
  rw [← hok] at HO
  clear hD hK hsg0 hrs0 hok hpa hpb hpc hpp hpt hst hsg hrs
  go_enter Tryz.func153, Tryz.ntmps153
  go_wp2_with fail
  go_at_call 196
  refine HC.mono ?_
  rintro e w0 ⟨rfl, rfl⟩
  go_wp2_with fail
  go_at_call 197
  refine (HP.out _).mono ?_
  rintro e w1 ⟨u, rfl, o1, b1⟩
  obtain ⟨q, n, cap, hu⟩ : ∃ q n c, u = .slice q n c := by rcases o1.2 with ⟨rfl, _⟩ | ⟨g, cap, cur, rfl, _⟩ <;> exact ⟨_, _, _, rfl⟩
  subst hu
  have tA : Below w1.heap.size w1 (w1.alloc (.cells #[.int .i64 pa, .int .i64 pb, .int .i64 pc, .slice q n cap, .int .i64 pt] 221)) := (Below.refl _ _).alloc (Nat.le_refl _) _
  have k2 := b1.trans (tA.mono b1.size)
  have o2 := owns_of_below o1 tA
  clear HC HP
  cases ok with
  | false =>
    have e1 : D = [] := HW.out
    have e2 : K = false := HO.out
    subst e1 e2
    clear HW HO HQ o1 o2
    go_wp2_with fail
    go_ret2
    exact ⟨_, rfl, own_nilC _ _, k2⟩
  | true =>
    obtain ⟨hnum, ht, hbk⟩ := HQ.out rfl
    have e1 : D = makeC sg pa pb pc pp pt := HW.out
    have e2 : K = D.all goodD := HO.out
    have HM : Hid (∀ W, Below w1.heap.size w1 W → Calls Tryz.prog 198 #[.agg #[.int .i64 pa, .int .i64 pb, .int .i64 pc, .slice q n cap, .int .i64 pt], .int .i64 sg] W fun e w' => ∃ v, e = .returned v ∧ CmpsOwn w.heap.size w' v D ∧ Below W.heap.size W w') := fun W h => by rw [e1]; exact cmps_c w.heap.size sg pa pb pc _ pp pt W (Nat.le_trans b1.size h.size) hnum ht (owns_of_below o1 h)
    have hDb : ∀ d ∈ D, bulkS d.ps ≤ 1048576 := by rw [e1]; exact make_bulk _ _ _ _ _ _ hbk
    have hDl : D.length ≤ 1048576 := by rw [e1]; have := make_len sg pa pb pc pp pt; omega
    have HK : Hid (K = D.all goodD) := e2
    clear HW HO HQ e1 e2 hnum ht hbk o1 o2
    go_wp2_with fail
    generalize (w1.alloc (.cells #[.int .i64 pa, .int .i64 pb, .int .i64 pc, .slice q n cap, .int .i64 pt] 221)) = W2 at tA k2 ⊢
    go_at_call 198
    refine (HM.out _ tA).mono ?_
    rintro e w3 ⟨v, rfl, hv, b3⟩
    have HB := containsBad_c w.heap.size v D w3 hv hDl hDb
    rw [← HK.out] at HB
    have k3 := k2.trans (b3.mono k2.size)
    obtain ⟨vq, vcap, us, hv2, _, _⟩ := hv.at
    subst hv2
    go_wp2_with (go_at_call 199; refine HB.mono ?_; rintro e w4 ⟨rfl, b4⟩)
    go_ret2
    exact ⟨_, by simp, hv.below b4, k3.trans (b4.mono k3.size)⟩
end Go.Proofs.YtkijckpkojcdcaaGreatDoor

/-! Lists of Cmps that the call holds alone, put one behind the other: what an append leaves; and the Cmps of two versions with a dash between, the program's: contracts for the walks; conditions: the texts have at most 2 to the 20 bytes. -/
namespace Go.Proofs.YtkijckpkojcdcaaGreatDoor
open Go.RowKit
set_option linter.unusedSimpArgs false
set_option linter.unusedVariables false

theorem rows5_apart {w : World} {base base' e e' : Nat} {v v' : Value} {n n' : Nat} {xs xs' : List Value} (h : w.ownsRow base e 5 v n xs) (h' : w.ownsRow base' e' 1 v' n' xs') (hne : e ≠ e') : v'.ownBlock = none ∨ v'.ownBlock ≠ v.ownBlock := by
  rcases h.2 with ⟨rfl, _⟩ | ⟨g, cap, cur, rfl, _, hg, _⟩
  · rcases h'.2 with ⟨rfl, _⟩ | ⟨g', cap', cur', rfl, _, hg', _⟩
    · exact .inl rfl
    · exact .inr (by simp [Value.ownBlock])
  · rcases h'.2 with ⟨rfl, _⟩ | ⟨g', cap', cur', rfl, _, hg', _⟩
    · exact .inl rfl
    · refine .inr fun e1 => hne ?_
      simp only [Value.ownBlock, Option.some.injEq] at e1
      subst e1
      rw [hg] at hg'
      simp only [Option.some.injEq, Obj.cells.injEq] at hg'
      exact hg'.2.1

theorem five_all {ys : List Value} {ds : List CmpD} {us : Nat → Value} (hl : ys.length = ds.length * 5) (hu : ∀ i, i < ds.length → (us i).oneCell' = true) (h : ∀ i (h : i < ds.length), FiveAt ys (i * 5) (.int .i64 ds[i].o) (.int .i64 ds[i].a) (.int .i64 ds[i].b) (.int .i64 ds[i].c) (us i)) : ∀ u ∈ ys, u.oneCell' = true := by
  intro u hm
  obtain ⟨j, hj, rfl⟩ := List.getElem_of_mem hm
  have hi : j / 5 < ds.length := by omega
  obtain ⟨f0, f1, f2, f3, f4⟩ := h (j / 5) hi
  have e : ys[j]? = some ys[j] := List.getElem?_eq_getElem hj
  rcases (show j = j / 5 * 5 ∨ j = j / 5 * 5 + 1 ∨ j = j / 5 * 5 + 2 ∨ j = j / 5 * 5 + 3 ∨ j = j / 5 * 5 + 4 by omega) with hh | hh | hh | hh | hh
  · rw [← hh, e] at f0; rw [Option.some.inj f0]; rfl
  · rw [← hh, e] at f1; rw [Option.some.inj f1]; rfl
  · rw [← hh, e] at f2; rw [Option.some.inj f2]; rfl
  · rw [← hh, e] at f3; rw [Option.some.inj f3]; rfl
  · rw [← hh, e] at f4; rw [Option.some.inj f4]; exact hu _ hi

/-- What an append of one list of Cmps to another leaves. -/
theorem CmpsOwn.app {lo : Nat} {wk w1 : World} {v v' : Value} {ds ds' : List CmpD} (h : CmpsOwn lo wk v ds) (hlo : lo ≤ wk.heap.size) (b : Below wk.heap.size wk w1) (h' : CmpsOwn wk.heap.size w1 v' ds') (hne : ds' ≠ []) :
    ∃ (ys ys' : List Value) (g cap : Nat), w1.ownsRow lo 143 5 v ds.length ys ∧ v' = .slice (some ⟨g, 0, none⟩) ds'.length cap ∧ ys'.length = ds'.length * 5 ∧ (∀ j u, ys'[j]? = some u → w1.cell? ((⟨g, 0, none⟩ : Addr).add j) = some u) ∧ (∀ u ∈ ys', u.oneCell' = true) ∧
      ∀ w2 v2, w2.ownsRow lo 143 5 v2 (ds.length + ds'.length) (ys ++ ys') → w1.grownBy w2 v.ownBlock → CmpsOwn lo w2 v2 (ds ++ ds') := by
  obtain ⟨ys, us, h1, h2, h3⟩ := h
  obtain ⟨ys', us', k1, k2, k3⟩ := h'
  have h1' := own_kept5 h1 b
  have hly : ys.length = ds.length * 5 := h1.1
  have hly' : ys'.length = ds'.length * 5 := k1.1
  obtain ⟨g, cap, hv⟩ : ∃ g cap, v' = .slice (some ⟨g, 0, none⟩) ds'.length cap := by
    rcases k1.2 with ⟨_, hn⟩ | ⟨g, cap, cur, rfl, _⟩
    · exact absurd (List.eq_nil_of_length_eq_zero hn) hne
    · exact ⟨g, cap, rfl⟩
  subst hv
  have hone : ∀ (u : Value) (n : Nat) (xs : List Value) base, w1.ownsRow base 9 1 u n xs → u.oneCell' = true := fun u n xs base hu => by
    rcases hu.2 with ⟨rfl, _⟩ | ⟨g, cap, cur, rfl, _⟩ <;> rfl
  refine ⟨ys, ys', g, cap, h1', rfl, hly', fun j u hj => ?_, five_all hly' (fun i hi => hone _ _ _ _ (k2 i hi).2) (fun i hi => (k2 i hi).1), fun w2 v2 o2 gr => ?_⟩
  · have hjl : j < ys'.length := (List.getElem?_eq_some_iff.1 hj).1
    have e : ((⟨g, 0, none⟩ : Addr).add j) = ⟨g, j, none⟩ := by unfold Addr.add; split <;> simp_all
    rw [e, k1.cellAt j (by omega)]
    exact hj
  · refine ⟨ys ++ ys', fun i => if i < ds.length then us i else us' (i - ds.length), by rw [List.length_append]; exact o2, fun i hi => ?_, fun i j hi hj hij he => ?_⟩
    · by_cases hl : i < ds.length
      · simp only [hl, if_true, List.getElem_append_left hl]
        obtain ⟨⟨f0, f1, f2, f3, f4⟩, fo⟩ := h2 i hl
        refine ⟨⟨?_, ?_, ?_, ?_, ?_⟩, ?_⟩
        · rw [List.getElem?_append_left (by omega)]; exact f0
        · rw [List.getElem?_append_left (by omega)]; exact f1
        · rw [List.getElem?_append_left (by omega)]; exact f2
        · rw [List.getElem?_append_left (by omega)]; exact f3
        · rw [List.getElem?_append_left (by omega)]; exact f4
        · have fo1 := owns_of_below fo b
          exact fo1.kept gr (rows5_apart h1' fo1 (by decide))
      · have hi' : i - ds.length < ds'.length := by rw [List.length_append] at hi; omega
        have eg : (ds ++ ds')[i] = ds'[i - ds.length] := List.getElem_append_right (by omega)
        simp only [hl, if_false, eg]
        obtain ⟨⟨f0, f1, f2, f3, f4⟩, fo⟩ := k2 (i - ds.length) hi'
        refine ⟨⟨?_, ?_, ?_, ?_, ?_⟩, ?_⟩
        · rw [List.getElem?_append_right (by omega), show i * 5 - ys.length = (i - ds.length) * 5 by omega]; exact f0
        · rw [List.getElem?_append_right (by omega), show i * 5 + 1 - ys.length = (i - ds.length) * 5 + 1 by omega]; exact f1
        · rw [List.getElem?_append_right (by omega), show i * 5 + 2 - ys.length = (i - ds.length) * 5 + 2 by omega]; exact f2
        · rw [List.getElem?_append_right (by omega), show i * 5 + 3 - ys.length = (i - ds.length) * 5 + 3 by omega]; exact f3
        · rw [List.getElem?_append_right (by omega), show i * 5 + 4 - ys.length = (i - ds.length) * 5 + 4 by omega]; exact f4
        · exact (owns_base fo hlo).kept gr (rows5_apart h1' fo (by decide))
    · rw [List.length_append] at hi hj
      have apart : ∀ i j, i < ds.length → ¬ j < ds.length → j - ds.length < ds'.length → (us i).ownBlock = (us' (j - ds.length)).ownBlock → (us i).ownBlock = none := fun i j hi hj hj' he => by
        cases hk : (us i).ownBlock with
        | none => rfl
        | some k =>
          have a1 := ((h2 i hi).2.lt k hk).2
          rw [hk] at he
          have a2 := ((k2 _ hj').2.lt k he.symm).1
          omega
      by_cases hi1 : i < ds.length
      · by_cases hj1 : j < ds.length
        · simp only [hi1, hj1, if_true] at he ⊢
          exact h3 i j hi1 hj1 hij he
        · simp only [hi1, hj1, if_true, if_false] at he ⊢
          exact apart i j hi1 hj1 (by omega) he
      · by_cases hj1 : j < ds.length
        · simp only [hi1, hj1, if_true, if_false] at he ⊢
          rw [he]
          exact apart j i hj1 hi1 (by omega) he.symm
        · simp only [hi1, hj1, if_false] at he ⊢
          exact k3 _ _ (by omega) (by omega) (by omega) he

/-- The Cmps of two versions with a dash between. -/
def betweenOk (x y : ByteArray) : Bool := resOk x && resOk y
def betweenD (x y : ByteArray) : List CmpD := if betweenOk x y then [⟨4, resN x 0, resN x 1, resN x 2, resP x⟩, ⟨2, resN y 0, resN y 1, resN y 2, resP y⟩] else []

set_option maxHeartbeats 2000000 in
set_option maxRecDepth 100000 in
theorem cmpsBetween_c (x y : ByteArray) (hx : x.size ≤ 1048576) (hy : y.size ≤ 1048576) (w : World) :
    Calls Tryz.prog 152 #[.string x, .string y] w fun e w' => ∃ v, e = .returned (.tuple #[v, .bool (betweenOk x y)]) ∧ CmpsOwn w.heap.size w' v (betweenD x y) ∧ Below w.heap.size w w' := by
  have HX : Hid (∀ w1, Calls Tryz.prog 195 #[.string x] w1 fun e w' => ∃ u, e = .returned (verOut x u) ∧ w'.ownsRow w1.heap.size 9 1 u (resP x).length (strsV (resP x)) ∧ Below w1.heap.size w1 w') := fun w1 => implParse_c x hx w1
  have HY : Hid (∀ w1, Calls Tryz.prog 195 #[.string y] w1 fun e w' => ∃ u, e = .returned (verOut y u) ∧ w'.ownsRow w1.heap.size 9 1 u (resP y).length (strsV (resP y)) ∧ Below w1.heap.size w1 w') := fun w1 => implParse_c y hy w1
  have HD : Hid (betweenD x y = if resOk x && resOk y then [⟨4, resN x 0, resN x 1, resN x 2, resP x⟩, ⟨2, resN y 0, resN y 1, resN y 2, resP y⟩] else []) := rfl
  have HO : Hid (betweenOk x y = (resOk x && resOk y)) := rfl
  unfold verOut at HX HY
  obtain ⟨D, hD⟩ : ∃ D, D = betweenD x y := ⟨_, rfl⟩
  obtain ⟨K, hK⟩ : ∃ K, K = betweenOk x y := ⟨_, rfl⟩
  rw [← hD] at HD
  rw [← hK] at HO
  rw [← hD, ← hK]
  obtain ⟨x1, hx1⟩ : ∃ z, z = resN x 0 := ⟨_, rfl⟩
  obtain ⟨x2, hx2⟩ : ∃ z, z = resN x 1 := ⟨_, rfl⟩
  obtain ⟨x3, hx3⟩ : ∃ z, z = resN x 2 := ⟨_, rfl⟩
  obtain ⟨px, hpx⟩ : ∃ z, z = resP x := ⟨_, rfl⟩
  obtain ⟨okx, hokx⟩ : ∃ z, z = resOk x := ⟨_, rfl⟩
  obtain ⟨y1, hy1⟩ : ∃ z, z = resN y 0 := ⟨_, rfl⟩
  obtain ⟨y2, hy2⟩ : ∃ z, z = resN y 1 := ⟨_, rfl⟩
  obtain ⟨y3, hy3⟩ : ∃ z, z = resN y 2 := ⟨_, rfl⟩
  obtain ⟨py, hpy⟩ : ∃ z, z = resP y := ⟨_, rfl⟩
  obtain ⟨oky, hoky⟩ : ∃ z, z = resOk y := ⟨_, rfl⟩
  rw [← hx1, ← hx2, ← hx3, ← hpx, ← hokx] at HX
  rw [← hy1, ← hy2, ← hy3, ← hpy, ← hoky] at HY
  rw [← hx1, ← hx2, ← hx3, ← hpx, ← hokx, ← hy1, ← hy2, ← hy3, ← hpy, ← hoky] at HD
  rw [← hokx, ← hoky] at HO
  clear hD hK hx1 hx2 hx3 hpx hokx hy1 hy2 hy3 hpy hoky
  go_enter Tryz.func152, Tryz.ntmps152
  go_wp2_with fail
  go_at_call 195
  refine (HX.out _).mono ?_
  rintro e w1 ⟨u1, rfl, o1, b1⟩
  obtain ⟨q1, n1, c1, hu⟩ : ∃ q n c, u1 = .slice q n c := by rcases o1.2 with ⟨rfl, _⟩ | ⟨g, cap, cur, rfl, _⟩ <;> exact ⟨_, _, _, rfl⟩
  subst hu
  have tA : Below w1.heap.size w1 (w1.alloc (.cells #[.int .i64 x1, .int .i64 x2, .int .i64 x3, .slice q1 n1 c1] 30)) := (Below.refl _ _).alloc (Nat.le_refl _) _
  have A1 := four_new w1 30 (.int .i64 x1) (.int .i64 x2) (.int .i64 x3) (.slice q1 n1 c1)
  have oA := owns_of_below o1 tA
  have kA := b1.trans (tA.mono b1.size)
  go_wp2_with fail
  obtain ⟨BA, hBA⟩ : ∃ B, B = w1.heap.size := ⟨_, rfl⟩
  generalize (w1.alloc (.cells #[.int .i64 x1, .int .i64 x2, .int .i64 x3, .slice q1 n1 c1] 30)) = W1 at tA A1 oA kA ⊢
  rw [← hBA] at A1 ⊢
  clear hBA tA o1 b1 HX
  go_at_call 195
  refine (HY.out _).mono ?_
  rintro e w2 ⟨u2, rfl, o2, b2⟩
  obtain ⟨q2, n2, c2, hu⟩ : ∃ q n c, u2 = .slice q n c := by rcases o2.2 with ⟨rfl, _⟩ | ⟨g, cap, cur, rfl, _⟩ <;> exact ⟨_, _, _, rfl⟩
  subst hu
  have tB : Below w2.heap.size w2 (w2.alloc (.cells #[.int .i64 y1, .int .i64 y2, .int .i64 y3, .slice q2 n2 c2] 30)) := (Below.refl _ _).alloc (Nat.le_refl _) _
  have A2 := (A1.keep b2).keep tB
  have oA2 := owns_of_below (owns_of_below oA b2) tB
  have oB2 := owns_of_below o2 tB
  have B2 := four_new w2 30 (.int .i64 y1) (.int .i64 y2) (.int .i64 y3) (.slice q2 n2 c2)
  have k2 := kA.trans (b2.mono kA.size)
  have k3 := k2.trans (tB.mono k2.size)
  have hap : Value.ownBlock (.slice q1 n1 c1) = Value.ownBlock (.slice q2 n2 c2) → Value.ownBlock (.slice q1 n1 c1) = none := fun he => by
    cases hk : Value.ownBlock (.slice q1 n1 c1) with
    | none => rfl
    | some k =>
      have a1 := (oA.lt k hk).2
      rw [hk] at he
      have a2 := (o2.lt k he.symm).1
      omega
  have lA := A2.lt
  have hAB := (A1.keep b2).lt
  obtain ⟨xa0, xa1, xa2, xa3⟩ := (A1.keep b2).cells
  have hWl := kA.size
  clear HY A1 oA b2 o2 kA
  cases okx with
  | false =>
    have e1 : D = [] := HD.out
    have e2 : K = false := HO.out
    subst e1 e2
    clear HD HO
    go_wp2_with fail
    go_ret2
    exact ⟨_, rfl, own_nilC _ _, k3⟩
  | true =>
    cases oky with
    | false =>
      have e1 : D = [] := HD.out
      have e2 : K = false := HO.out
      subst e1 e2
      clear HD HO
      go_wp2_with fail
      go_ret2
      exact ⟨_, rfl, own_nilC _ _, k3⟩
    | true =>
      have e1 : D = [⟨4, x1, x2, x3, px⟩, ⟨2, y1, y2, y3, py⟩] := HD.out
      have e2 : K = true := HO.out
      subst e1 e2
      clear HD HO
      go_wp2_with fail
      go_ret2
      exact ⟨_, rfl, two_own ⟨4, x1, x2, x3, px⟩ ⟨2, y1, y2, y3, py⟩ (by simp) k3.size oA2 (owns_base oB2 hWl) hap, k3.alloc k3.size _⟩
end Go.Proofs.YtkijckpkojcdcaaGreatDoor

/-! What the law's helpers that mark a version's texts, and look whether the marks are held, answer: contracts for the walks; condition: the list lies in memory as told. -/
namespace Go.Proofs.YtkijckpkojcdcaaGreatDoor
open Go.RowKit
set_option linter.unusedSimpArgs false
set_option linter.unusedVariables false

theorem Four.turned {w w' : World} {R : Nat} {t : TypeId} {c0 c1 c2 c3 : Value} {row : Option Nat} (h : Four w R t c0 c1 c2 c3) (hg : w.grownBy w' row) (hne : row ≠ some R) : Four w' R t c0 c1 c2 c3 :=
  (hg.block R h.lt (fun e => hne e.symm)).trans h
theorem below_turned {B : Nat} {w0 w w' : World} {row : Option Nat} (h : Below B w0 w) (hg : w.grownBy w' row) (hB : B ≤ w.heap.size) (hrow : ∀ k, row = some k → B ≤ k) : Below B w0 w' :=
  h.trans ⟨hg.os, hg.tape, hg.output, hg.size, fun k hk => hg.block k (by omega) (fun e => by have := hrow k e.symm; omega)⟩

end Go.Proofs.YtkijckpkojcdcaaGreatDoor

/-! The Cmps that a list of words makes, the program's: a contract for the walks; conditions: the text has at most 2 to the 20 bytes, the table of signs holds what the text lays. -/
namespace Go.Proofs.YtkijckpkojcdcaaGreatDoor
open Go.RowKit
set_option linter.unusedSimpArgs false
set_option linter.unusedVariables false

/-- The Cmps that words make, one behind the other, at most four; none where a word is none. -/
def foldW : List ByteArray → List CmpD → Option (List CmpD)
  | [], acc => some acc
  | x :: ws, acc => if wordOk x = true ∧ acc.length + (wordD x).length ≤ 4 then foldW ws (acc ++ wordD x) else none
def listC (ws : List ByteArray) : Option (List CmpD) :=
  if ws.length = 3 ∧ ws.getD 1 ⟨#[]⟩ = ⟨#[45]⟩ then (if betweenOk (ws.getD 0 ⟨#[]⟩) (ws.getD 2 ⟨#[]⟩) then some (betweenD (ws.getD 0 ⟨#[]⟩) (ws.getD 2 ⟨#[]⟩)) else none) else foldW ws []

theorem makeC_ne (sign a b c : Int) (ps : List ByteArray) (t : Int) : makeC sign a b c ps t ≠ [] := by
  unfold makeC
  dsimp only
  repeat (split; · simp)
  simp
theorem wordD_len (x : ByteArray) : (wordD x).length ≤ 2 := by
  unfold wordD
  split
  · simp
  split
  · exact make_len _ _ _ _ _ _
  · simp
theorem wordD_ne {x : ByteArray} (h : wordOk x = true) : wordD x ≠ [] := by
  unfold wordD
  split
  · simp
  · rename_i hs
    split
    · exact makeC_ne _ _ _ _ _ _
    · rename_i hp
      simp [wordOk, hs, hp] at h

set_option maxHeartbeats 4000000 in
set_option maxRecDepth 100000 in
theorem parseCmps_c (s : ByteArray) (hs : s.size ≤ 1048576) (w : World) (hsg : ∀ k (h : k < signsT.length), w.cell? ⟨0, k, none⟩ = some (.string signsT[k])) :
    Calls Tryz.prog 99 #[.string s] w fun e w' => ∃ v, e = .returned (.tuple #[v, .bool (listC (splitS s 32)).isSome]) ∧ CmpsOwn w.heap.size w' v ((listC (splitS s 32)).getD []) ∧ Below w.heap.size w w' := by
  have HS := implSplit_c s 32 w hs (by omega) (by omega)
  have hL := splitS_len s 32
  have hL0 := splitS_pos s 32
  have hpc := splitS_piece s 32
  have hgl : 0 < w.heap.size := World.block_lt_of_cell? w _ (hsg 0 (by decide))
  have HG : Hid (∀ w1, Below w.heap.size w w1 → ∀ k (h : k < signsT.length), w1.cell? ⟨0, k, none⟩ = some (.string signsT[k])) := fun w1 b k h => (b.cell (p := ⟨0, k, none⟩) hgl).trans (hsg k h)
  obtain ⟨ws, hws⟩ : ∃ ws, ws = splitS s 32 := ⟨_, rfl⟩
  rw [← hws] at HS hL hL0 hpc
  rw [← hws]
  clear hws hsg hgl
  obtain ⟨i0, hi, hz0, hz1, hz2⟩ := info_parts infoCmp
  go_enter Tryz.func99, Tryz.ntmps99
  go_wp2_with fail
  go_at_call 151
  refine HS.mono ?_
  rintro e w3 ⟨v3, rfl, o3, b3⟩
  obtain ⟨qw, cw, hv, hcw, hc3⟩ := reads_strs (reads_of_owns o3)
  subst hv
  rcases hc3 with hw0 | ⟨bq, off, rfl, hbq, hcell⟩
  · rw [hw0] at hL0; simp at hL0
  clear HS o3
  have hsz : ∀ k (h : k < ws.length), ws[k].size ≤ 1048576 := fun k h => by have := hpc ws[k] (List.getElem_mem _); omega
  have hgd : ∀ k (h : k < ws.length), ws.getD k ⟨#[]⟩ = ws[k] := fun k h => by simp [List.getD_eq_getElem?_getD, h]
  by_cases hb : ws.length = 3 ∧ ws.getD 1 ⟨#[]⟩ = ⟨#[45]⟩
  · obtain ⟨h3, hd⟩ := hb
    have c0 : w3.cell? ⟨bq, off, none⟩ = some (.string ws[0]) := hcell 0 (by omega)
    have c1 := hcell 1 (by omega)
    have c2 := hcell 2 (by omega)
    have HL : Hid (listC ws = if betweenOk ws[0] ws[2] then some (betweenD ws[0] ws[2]) else none) := by show _ = _; rw [listC, if_pos ⟨h3, hd⟩, hgd 0 (by omega), hgd 2 (by omega)]
    have z0 := hsz 0 (by omega)
    have z2 := hsz 2 (by omega)
    rw [hgd 1 (by omega)] at hd
    rw [hd] at c1
    obtain ⟨x0, hx0⟩ : ∃ x, x = ws[0] := ⟨_, rfl⟩
    obtain ⟨x2, hx2⟩ : ∃ x, x = ws[2] := ⟨_, rfl⟩
    rw [← hx0] at c0 HL z0
    rw [← hx2] at c2 HL z2
    have h3' : ((ws.length : Int) == 3) = true := by simp [h3]
    have hi0 : (0 : Int) < (ws.length : Int) := by omega
    have hi1 : (1 : Int) < (ws.length : Int) := by omega
    have hi2 : (2 : Int) < (ws.length : Int) := by omega
    have HB : Hid (∀ w1, Calls Tryz.prog 152 #[.string x0, .string x2] w1 fun e w' => ∃ v, e = .returned (.tuple #[v, .bool (betweenOk x0 x2)]) ∧ CmpsOwn w1.heap.size w' v (betweenD x0 x2) ∧ Below w1.heap.size w1 w') := fun w1 => cmpsBetween_c x0 x2 z0 z2 w1
    have HD : Hid (betweenOk x0 x2 = false → betweenD x0 x2 = []) := fun h => by rw [betweenD, h]; rfl
    have c0d : w3.drew.cell? ⟨bq, off, none⟩ = some (.string x0) := c0
    have c2d : w3.drew.cell? ⟨bq, off + 2, none⟩ = some (.string x2) := c2
    clear hcell hsz hgd hd hx0 hx2 HG hi hz0 hz1 hz2 hpc z0 z2
    go_wp2_with fail
    refine wp_region_held_drew (S := (fun w' => w'.cell? ⟨bq, off, none⟩ = some (.string x0) ∧ w'.cell? ⟨bq, off + 2, none⟩ = some (.string x2))) (by kernel_rfl) ?SR10 (fun hHeld => ?_)
    case SR10 => (first | exact ⟨c0d, c2d⟩ | exact ⟨(b4.cell (p := ⟨bq, off, none⟩) hbq).trans c0, (b4.cell (p := ⟨bq, off + 2, none⟩) hbq).trans c2⟩)
    refine wpAnyH_take (i := 0) (oi := _) (v := ?vR10) rfl (by kernel_rfl) (by kernel_rfl) (by kernel_rfl) (fun _ _ _ h => h) (Or.inl ⟨by rfl, ?yR10⟩) hHeld ?_
    case yR10 => (intro w hSw; (try dsimp only at hSw); go_simp <;> with_reducible rfl)
    try simp only [Act.put, List.getElem_toArray, List.getElem_cons_zero, List.getElem_cons_succ, List.setIfInBounds_toArray, List.set_cons_zero, List.set_cons_succ]
    refine wpAnyH_take (i := 1) (oi := _) (v := ?vR11) rfl (by kernel_rfl) (by kernel_rfl) (by kernel_rfl) (fun _ _ _ h => h) (Or.inl ⟨by rfl, ?yR11⟩) hHeld ?_
    case yR11 => (intro w hSw; (try dsimp only at hSw); go_simp <;> with_reducible rfl)
    try simp only [Act.put, List.getElem_toArray, List.getElem_cons_zero, List.getElem_cons_succ, List.setIfInBounds_toArray, List.set_cons_zero, List.set_cons_succ]
    refine wpAnyH_take (i := 2) (oi := _) (v := ?vR12) rfl (by kernel_rfl) (by kernel_rfl) (by kernel_rfl) (fun _ _ _ h => h) (Or.inl ⟨by rfl, ?yR12⟩) hHeld ?_
    case yR12 => (intro w hSw; (try dsimp only at hSw); go_simp <;> with_reducible rfl)
    try simp only [Act.put, List.getElem_toArray, List.getElem_cons_zero, List.getElem_cons_succ, List.setIfInBounds_toArray, List.set_cons_zero, List.set_cons_succ]
    refine wpAnyH_take (i := 3) (oi := _) (v := ?vR13) rfl (by kernel_rfl) (by kernel_rfl) (by kernel_rfl) (fun _ _ _ h => h) (Or.inl ⟨by rfl, ?yR13⟩) hHeld ?_
    case yR13 => (intro w hSw; (try dsimp only at hSw); go_simp <;> with_reducible rfl)
    try simp only [Act.put, List.getElem_toArray, List.getElem_cons_zero, List.getElem_cons_succ, List.setIfInBounds_toArray, List.set_cons_zero, List.set_cons_succ]
    refine wpAnyH_take (i := 4) (oi := _) (v := ?vR14) rfl (by kernel_rfl) (by kernel_rfl) (by kernel_rfl) (fun _ _ _ h => h) (Or.inl ⟨by rfl, ?yR14⟩) hHeld ?_
    case yR14 => (intro w hSw; (try dsimp only at hSw); go_simp <;> with_reducible rfl)
    try simp only [Act.put, List.getElem_toArray, List.getElem_cons_zero, List.getElem_cons_succ, List.setIfInBounds_toArray, List.set_cons_zero, List.set_cons_succ]
    refine wpAnyH_take (i := 5) (oi := _) (v := ?vR15) rfl (by kernel_rfl) (by kernel_rfl) (by kernel_rfl) (fun _ _ _ h => h) (Or.inl ⟨by rfl, ?yR15⟩) hHeld ?_
    case yR15 => (intro w hSw; (try dsimp only at hSw); go_simp <;> with_reducible rfl)
    try simp only [Act.put, List.getElem_toArray, List.getElem_cons_zero, List.getElem_cons_succ, List.setIfInBounds_toArray, List.set_cons_zero, List.set_cons_succ]
    refine wpAnyH_ready (rs := [6]) (by kernel_rfl) (by simp) ?_
    refine AllReadyH.cons rfl (fun K hK => ?_) AllReadyH.nil
    go_simp
    go_wp2_with (go_at_call 152; refine (HB.out _).mono ?_; rintro e w4 ⟨v, rfl, hv, b4⟩)
    clear hHeld
    refine hK.out _ _ ?SR17 (fun hHeld => ?_)
    case SR17 => ((try dsimp only); first | exact ⟨c0d, c2d⟩ | exact ⟨(b4.cell (p := ⟨bq, off, none⟩) hbq).trans c0, (b4.cell (p := ⟨bq, off + 2, none⟩) hbq).trans c2⟩)
    clear hK K
    refine wpAnyH_take (i := 7) (oi := _) (v := ?vR17) rfl (by kernel_rfl) (by kernel_rfl) (by kernel_rfl) (fun _ _ _ h => h) (Or.inl ⟨by rfl, ?yR17⟩) hHeld ?_
    case yR17 => (intro w hSw; (try dsimp only at hSw); go_simp <;> with_reducible rfl)
    try simp only [Act.put, List.getElem_toArray, List.getElem_cons_zero, List.getElem_cons_succ, List.setIfInBounds_toArray, List.set_cons_zero, List.set_cons_succ]
    refine wpAnyH_take (i := 8) (oi := _) (v := ?vR18) rfl (by kernel_rfl) (by kernel_rfl) (by kernel_rfl) (fun _ _ _ h => h) (Or.inl ⟨by rfl, ?yR18⟩) hHeld ?_
    case yR18 => (intro w hSw; (try dsimp only at hSw); go_simp <;> with_reducible rfl)
    try simp only [Act.put, List.getElem_toArray, List.getElem_cons_zero, List.getElem_cons_succ, List.setIfInBounds_toArray, List.set_cons_zero, List.set_cons_succ]
    refine wpAnyH_take (i := 9) (oi := _) (v := ?vR19) rfl (by kernel_rfl) (by kernel_rfl) (by kernel_rfl) (fun _ _ _ h => h) (Or.inl ⟨by rfl, ?yR19⟩) hHeld ?_
    case yR19 => (intro w hSw; (try dsimp only at hSw); go_simp <;> with_reducible rfl)
    try simp only [Act.put, List.getElem_toArray, List.getElem_cons_zero, List.getElem_cons_succ, List.setIfInBounds_toArray, List.set_cons_zero, List.set_cons_succ]
    refine wpAnyH_take (i := 10) (oi := _) (v := ?vR110) rfl (by kernel_rfl) (by kernel_rfl) (by kernel_rfl) (fun _ _ _ h => h) (Or.inl ⟨by rfl, ?yR110⟩) hHeld ?_
    case yR110 => (intro w hSw; (try dsimp only at hSw); go_simp <;> with_reducible rfl)
    try simp only [Act.put, List.getElem_toArray, List.getElem_cons_zero, List.getElem_cons_succ, List.setIfInBounds_toArray, List.set_cons_zero, List.set_cons_succ]
    refine wpAnyH_done (by kernel_rfl) ?_ _
    have hr : (listC ws).isSome = betweenOk x0 x2 ∧ (listC ws).getD [] = betweenD x0 x2 := by
      rw [HL.out]
      cases hk : betweenOk x0 x2 with
      | true => simp
      | false => simp [HD.out hk]
    have HR : Hid ((listC ws).isSome = betweenOk x0 x2 ∧ (listC ws).getD [] = betweenD x0 x2) := hr
    clear hr
    go_wp2_with fail
    go_ret2
    exact ⟨v, by rw [HR.out.1]; rfl, by rw [HR.out.2]; exact hv.lower b3.size, (b3.drew).trans (b4.mono b3.size)⟩
  · have HL : Hid (listC ws = foldW ws []) := by show _ = _; rw [listC, if_neg hb]
    have HW : Hid (∀ x : ByteArray, x.size ≤ 1048576 → ∀ w1, Below w.heap.size w w1 → Calls Tryz.prog 153 #[.string x] w1 fun e w' => ∃ v, e = .returned (.tuple #[v, .bool (wordOk x)]) ∧ CmpsOwn w1.heap.size w' v (wordD x) ∧ Below w1.heap.size w1 w') := fun x hx w1 b => cmpsOfWord_c x hx w1 (HG.out w1 b)
    by_cases h3 : ws.length = 3
    · have hd : ¬ ws[1] = ⟨#[45]⟩ := fun h => hb ⟨h3, by rw [hgd 1 (by omega)]; exact h⟩
      have c1 := hcell 1 (by omega)
      obtain ⟨x1, hx1⟩ : ∃ x, x = ws[1] := ⟨_, rfl⟩
      rw [← hx1] at c1 hd
      have hd' : (x1.toList == [45]) = false := by rw [beq_eq_false_iff_ne]; intro h; exact hd (bytes_eq_of_toList (by rw [h, ByteArray.toList_eq]))
      have h3' : ((ws.length : Int) == 3) = true := by simp [h3]
      have hi1 : (1 : Int) < (ws.length : Int) := by omega
      clear hb hd hx1 hgd HG h3
      go_wp2_with fail
      go_loopw [5, 32] (fun v5 vi wr => ∃ (k : Nat) (acc : List CmpD), k ≤ ws.length ∧ vi = .int .i64 (k : Int) ∧ CmpsOwn w3.heap.size wr v5 acc ∧ acc.length ≤ 4 ∧ Hid (foldW (ws.drop k) acc = foldW ws []) ∧ Below w3.heap.size w3 wr) (fun _ vi _ => ws.length - (intOf vi).toNat)
      case atStart => exact ⟨0, [], Nat.zero_le _, rfl, own_nilC _ _, by simp, rfl, Below.refl _ _⟩
      case round =>
        obtain ⟨k, acc, hk, rfl, hacc, hal, hf, hbr⟩ := hrel
        have hmr := b3.trans (hbr.mono b3.size)
        obtain ⟨qv, cv, us, hv5, _, _⟩ := hacc.at
        subst hv5
        by_cases hlt : k < ws.length
        · have hcx : wr.cell? ⟨bq, off + k, none⟩ = some (.string ws[k]) := (hbr.cell (p := ⟨bq, off + k, none⟩) hbq).trans (hcell k hlt)
          have hsk := hsz k hlt
          have hdr : ws.drop k = ws[k] :: ws.drop (k + 1) := List.drop_eq_getElem_cons hlt
          rw [hdr, foldW] at hf
          obtain ⟨x, hx⟩ : ∃ x, x = ws[k] := ⟨_, rfl⟩
          rw [← hx] at hcx hsk hf
          have HC := HW.out x hsk wr hmr
          have hne := @wordD_ne x
          have hDl := wordD_len x
          obtain ⟨D, hD⟩ : ∃ D, D = wordD x := ⟨_, rfl⟩
          obtain ⟨K, hK⟩ : ∃ K, K = wordOk x := ⟨_, rfl⟩
          rw [← hD, ← hK] at HC hf hne
          rw [← hD] at hDl
          have HC' : Hid (Calls Tryz.prog 153 #[.string x] wr fun e w' => ∃ v, e = .returned (.tuple #[v, .bool K]) ∧ CmpsOwn wr.heap.size w' v D ∧ Below wr.heap.size wr w') := HC
          have hki : (k : Int) < (ws.length : Int) := by omega
          clear HC hD hK hx hdr hcell hsz HW
          cases K with
          | false =>
            have HN : Hid (listC ws = none) := by show _ = _; rw [HL.out, ← hf.out]; simp
            clear hf HL
            go_wp2_with (go_at_call 153; refine HC'.out.mono ?_; rintro e w4 ⟨v4, rfl, hv4, b4⟩; obtain ⟨q4, c4, us4, hq4, _, _⟩ := hv4.at; subst hq4)
            go_ret2
            exact ⟨_, by rw [HN.out]; rfl, by rw [HN.out]; exact own_nilC _ _, hmr.trans (b4.mono hmr.size)⟩
          | true =>
            have hDne := hne rfl
            by_cases h4 : acc.length + D.length ≤ 4
            · have HN : Hid (foldW (ws.drop (k + 1)) (acc ++ D) = foldW ws []) := by show _ = _; rw [← hf.out, if_pos ⟨rfl, h4⟩]
              have h4' : ¬ (4 : Int) < (acc.length : Int) + (D.length : Int) := by omega
              have hlo : w3.heap.size ≤ wr.heap.size := hbr.size
              have hrow : ∀ j, Value.ownBlock (.slice qv acc.length cv) = some j → w3.heap.size ≤ j := fun j hj => by
                obtain ⟨ys, us, h1, _, _⟩ := hacc
                rcases h1.2 with ⟨h, _⟩ | ⟨g, cap, cur, h, hg, _⟩
                · rw [h] at hj; simp [Value.ownBlock] at hj
                · rw [h] at hj; simp [Value.ownBlock] at hj; omega
              have HAP : Hid (∀ w4 v4, Below wr.heap.size wr w4 → CmpsOwn wr.heap.size w4 v4 D → ∃ (ys ys' : List Value) (g cap : Nat), w4.ownsRow w3.heap.size 143 5 (.slice qv acc.length cv) acc.length ys ∧ v4 = .slice (some ⟨g, 0, none⟩) D.length cap ∧ ys'.length = D.length * 5 ∧ (∀ j u, ys'[j]? = some u → w4.cell? ((⟨g, 0, none⟩ : Addr).add j) = some u) ∧ (∀ u ∈ ys', u.oneCell' = true) ∧ ∀ w2 v2, w2.ownsRow w3.heap.size 143 5 v2 (acc.length + D.length) (ys ++ ys') → w4.grownBy w2 (Value.ownBlock (.slice qv acc.length cv)) → CmpsOwn w3.heap.size w2 v2 (acc ++ D)) := fun w4 v4 b4 h4 => hacc.app hlo b4 h4 hDne
              have HRW : Hid (∀ j, Value.ownBlock (.slice qv acc.length cv) = some j → w3.heap.size ≤ j) := hrow
              clear hf hne hrow hacc
              go_wp2_with (first | (go_at_call 153; refine HC'.out.mono ?_; rintro e w4 ⟨v4, rfl, hv4, b4⟩; obtain ⟨ys, ys', g, cap, o4, hv, hly, hnw, hon, happ⟩ := HAP.out w4 v4 b4 hv4; subst hv; have HNW : Hid (∀ j u, ys'[j]? = some u → w4.cell? ((⟨g, 0, none⟩ : Addr).add j) = some u) := hnw; have HON : Hid (∀ u ∈ ys', u.oneCell' = true) := hon; have HAPP : Hid (∀ w2 v2, w2.ownsRow w3.heap.size 143 5 v2 (acc.length + D.length) (ys ++ ys') → w4.grownBy w2 (Value.ownBlock (.slice qv acc.length cv)) → CmpsOwn w3.heap.size w2 v2 (acc ++ D)) := happ; clear hnw hon happ hv4) | (at_builtin; refine wpList_append_own _ rfl _ _ 131 rfl w3.heap.size 143 i0 _ 5 56 Tryz.underlying131 hi hz0 hz1 hz2 rfl (by decide) (.slice qv acc.length cv) acc.length ys rfl o4 ⟨g, 0, none⟩ D.length cap ys' rfl hly HNW.out HON.out (by unfold maxLen; omega) (by omega) (Nat.le_trans hlo b4.size) ?_))
              intro v2 w2 o2 gr2 _
              have kx := hbr.trans (b4.mono hlo)
              have k2 := below_turned kx gr2 kx.size HRW.out
              have hown := HAPP.out w2 v2 o2 gr2
              clear HAPP HNW HON HAP o4 o2 gr2
              go_wp2_with fail
              go_roundw
              case rel => exact ⟨k + 1, acc ++ D, by omega, by go_num, hown, by rw [List.length_append]; omega, HN, k2⟩
              case measure => simp [intOf]; omega
            · have HN : Hid (listC ws = none) := by show _ = _; rw [HL.out, ← hf.out, if_neg (fun h => h4 h.2)]
              have h4' : (4 : Int) < (acc.length : Int) + (D.length : Int) := by omega
              clear hf HL hne h4
              go_wp2_with (go_at_call 153; refine HC'.out.mono ?_; rintro e w4 ⟨v4, rfl, hv4, b4⟩; obtain ⟨q4, c4, us4, hq4, _, _⟩ := hv4.at; subst hq4)
              go_ret2
              exact ⟨_, by rw [HN.out]; rfl, by rw [HN.out]; exact own_nilC _ _, hmr.trans (b4.mono hmr.size)⟩
        · have he : k = ws.length := by omega
          subst he
          have HN : Hid (listC ws = some acc) := by show _ = _; rw [HL.out, ← hf.out, List.drop_length, foldW]
          clear hf HL hcell hsz HW
          go_wp2_with fail
          go_ret2
          exact ⟨_, by rw [HN.out]; rfl, by rw [HN.out]; exact hacc.lower b3.size, hmr⟩
    · have h3' : ((ws.length : Int) == 3) = false := by rw [beq_eq_false_iff_ne]; omega
      clear hb hgd HG h3
      go_wp2_with fail
      go_loopw [5, 32] (fun v5 vi wr => ∃ (k : Nat) (acc : List CmpD), k ≤ ws.length ∧ vi = .int .i64 (k : Int) ∧ CmpsOwn w3.heap.size wr v5 acc ∧ acc.length ≤ 4 ∧ Hid (foldW (ws.drop k) acc = foldW ws []) ∧ Below w3.heap.size w3 wr) (fun _ vi _ => ws.length - (intOf vi).toNat)
      case atStart => exact ⟨0, [], Nat.zero_le _, rfl, own_nilC _ _, by simp, rfl, Below.refl _ _⟩
      case round =>
        obtain ⟨k, acc, hk, rfl, hacc, hal, hf, hbr⟩ := hrel
        have hmr := b3.trans (hbr.mono b3.size)
        obtain ⟨qv, cv, us, hv5, _, _⟩ := hacc.at
        subst hv5
        by_cases hlt : k < ws.length
        · have hcx : wr.cell? ⟨bq, off + k, none⟩ = some (.string ws[k]) := (hbr.cell (p := ⟨bq, off + k, none⟩) hbq).trans (hcell k hlt)
          have hsk := hsz k hlt
          have hdr : ws.drop k = ws[k] :: ws.drop (k + 1) := List.drop_eq_getElem_cons hlt
          rw [hdr, foldW] at hf
          obtain ⟨x, hx⟩ : ∃ x, x = ws[k] := ⟨_, rfl⟩
          rw [← hx] at hcx hsk hf
          have HC := HW.out x hsk wr hmr
          have hne := @wordD_ne x
          have hDl := wordD_len x
          obtain ⟨D, hD⟩ : ∃ D, D = wordD x := ⟨_, rfl⟩
          obtain ⟨K, hK⟩ : ∃ K, K = wordOk x := ⟨_, rfl⟩
          rw [← hD, ← hK] at HC hf hne
          rw [← hD] at hDl
          have HC' : Hid (Calls Tryz.prog 153 #[.string x] wr fun e w' => ∃ v, e = .returned (.tuple #[v, .bool K]) ∧ CmpsOwn wr.heap.size w' v D ∧ Below wr.heap.size wr w') := HC
          have hki : (k : Int) < (ws.length : Int) := by omega
          clear HC hD hK hx hdr hcell hsz HW
          cases K with
          | false =>
            have HN : Hid (listC ws = none) := by show _ = _; rw [HL.out, ← hf.out]; simp
            clear hf HL
            go_wp2_with (go_at_call 153; refine HC'.out.mono ?_; rintro e w4 ⟨v4, rfl, hv4, b4⟩; obtain ⟨q4, c4, us4, hq4, _, _⟩ := hv4.at; subst hq4)
            go_ret2
            exact ⟨_, by rw [HN.out]; rfl, by rw [HN.out]; exact own_nilC _ _, hmr.trans (b4.mono hmr.size)⟩
          | true =>
            have hDne := hne rfl
            by_cases h4 : acc.length + D.length ≤ 4
            · have HN : Hid (foldW (ws.drop (k + 1)) (acc ++ D) = foldW ws []) := by show _ = _; rw [← hf.out, if_pos ⟨rfl, h4⟩]
              have h4' : ¬ (4 : Int) < (acc.length : Int) + (D.length : Int) := by omega
              have hlo : w3.heap.size ≤ wr.heap.size := hbr.size
              have hrow : ∀ j, Value.ownBlock (.slice qv acc.length cv) = some j → w3.heap.size ≤ j := fun j hj => by
                obtain ⟨ys, us, h1, _, _⟩ := hacc
                rcases h1.2 with ⟨h, _⟩ | ⟨g, cap, cur, h, hg, _⟩
                · rw [h] at hj; simp [Value.ownBlock] at hj
                · rw [h] at hj; simp [Value.ownBlock] at hj; omega
              have HAP : Hid (∀ w4 v4, Below wr.heap.size wr w4 → CmpsOwn wr.heap.size w4 v4 D → ∃ (ys ys' : List Value) (g cap : Nat), w4.ownsRow w3.heap.size 143 5 (.slice qv acc.length cv) acc.length ys ∧ v4 = .slice (some ⟨g, 0, none⟩) D.length cap ∧ ys'.length = D.length * 5 ∧ (∀ j u, ys'[j]? = some u → w4.cell? ((⟨g, 0, none⟩ : Addr).add j) = some u) ∧ (∀ u ∈ ys', u.oneCell' = true) ∧ ∀ w2 v2, w2.ownsRow w3.heap.size 143 5 v2 (acc.length + D.length) (ys ++ ys') → w4.grownBy w2 (Value.ownBlock (.slice qv acc.length cv)) → CmpsOwn w3.heap.size w2 v2 (acc ++ D)) := fun w4 v4 b4 h4 => hacc.app hlo b4 h4 hDne
              have HRW : Hid (∀ j, Value.ownBlock (.slice qv acc.length cv) = some j → w3.heap.size ≤ j) := hrow
              clear hf hne hrow hacc
              go_wp2_with (first | (go_at_call 153; refine HC'.out.mono ?_; rintro e w4 ⟨v4, rfl, hv4, b4⟩; obtain ⟨ys, ys', g, cap, o4, hv, hly, hnw, hon, happ⟩ := HAP.out w4 v4 b4 hv4; subst hv; have HNW : Hid (∀ j u, ys'[j]? = some u → w4.cell? ((⟨g, 0, none⟩ : Addr).add j) = some u) := hnw; have HON : Hid (∀ u ∈ ys', u.oneCell' = true) := hon; have HAPP : Hid (∀ w2 v2, w2.ownsRow w3.heap.size 143 5 v2 (acc.length + D.length) (ys ++ ys') → w4.grownBy w2 (Value.ownBlock (.slice qv acc.length cv)) → CmpsOwn w3.heap.size w2 v2 (acc ++ D)) := happ; clear hnw hon happ hv4) | (at_builtin; refine wpList_append_own _ rfl _ _ 131 rfl w3.heap.size 143 i0 _ 5 56 Tryz.underlying131 hi hz0 hz1 hz2 rfl (by decide) (.slice qv acc.length cv) acc.length ys rfl o4 ⟨g, 0, none⟩ D.length cap ys' rfl hly HNW.out HON.out (by unfold maxLen; omega) (by omega) (Nat.le_trans hlo b4.size) ?_))
              intro v2 w2 o2 gr2 _
              have kx := hbr.trans (b4.mono hlo)
              have k2 := below_turned kx gr2 kx.size HRW.out
              have hown := HAPP.out w2 v2 o2 gr2
              clear HAPP HNW HON HAP o4 o2 gr2
              go_wp2_with fail
              go_roundw
              case rel => exact ⟨k + 1, acc ++ D, by omega, by go_num, hown, by rw [List.length_append]; omega, HN, k2⟩
              case measure => simp [intOf]; omega
            · have HN : Hid (listC ws = none) := by show _ = _; rw [HL.out, ← hf.out, if_neg (fun h => h4 h.2)]
              have h4' : (4 : Int) < (acc.length : Int) + (D.length : Int) := by omega
              clear hf HL hne h4
              go_wp2_with (go_at_call 153; refine HC'.out.mono ?_; rintro e w4 ⟨v4, rfl, hv4, b4⟩; obtain ⟨q4, c4, us4, hq4, _, _⟩ := hv4.at; subst hq4)
              go_ret2
              exact ⟨_, by rw [HN.out]; rfl, by rw [HN.out]; exact own_nilC _ _, hmr.trans (b4.mono hmr.size)⟩
        · have he : k = ws.length := by omega
          subst he
          have HN : Hid (listC ws = some acc) := by show _ = _; rw [HL.out, ← hf.out, List.drop_length, foldW]
          clear hf HL hcell hsz HW
          go_wp2_with fail
          go_ret2
          exact ⟨_, by rw [HN.out]; rfl, by rw [HN.out]; exact hacc.lower b3.size, hmr⟩
end Go.Proofs.YtkijckpkojcdcaaGreatDoor

/-! What the specification makes of a version of which a part is told: contracts for the walks; conditions: its numbers lie between 0 and 9999. -/
namespace Go.Proofs.YtkijckpkojcdcaaGreatDoor
open Go.RowKit
set_option linter.unusedSimpArgs false
set_option linter.unusedVariables false

set_option maxHeartbeats 1000000 in
set_option maxRecDepth 100000 in
theorem l4Next_c (a b c : Int) (u : Value) (t : Int) (ok : Bool) (hn : numsOk a b c) (ht : t = 1 ∨ t = 2 ∨ t = 3) (w : World) (hu : ∃ q n cap, u = .slice q n cap) :
    Calls Tryz.prog 241 #[.agg #[.int .i64 a, .int .i64 b, .int .i64 c, u, .int .i64 t, .bool ok]] w fun e w' => e = .returned (.agg #[.int .i64 (nextA (min t 2) a), .int .i64 (nextB (min t 2) b), .int .i64 (nextC (min t 2) c), .slice none 0 0]) ∧ Below w.heap.size w w' := by
  obtain ⟨q, n, cap, rfl⟩ := hu
  obtain ⟨⟨ha0, ha1⟩, ⟨hb0, hb1⟩, hc0, hc1⟩ := hn
  by_cases h1 : t = 1
  · have e : min t 2 = 1 := by omega
    rw [e]
    subst h1
    go_enter Tryz.func241, Tryz.ntmps241
    go_wp2
    exact bodyPost_ret (v := .agg #[.int .i64 (a + 1), .int .i64 0, .int .i64 0, .slice none 0 0]) (by simp [results, Tryz.results241, go_sem]) rfl ⟨by simp [nextA, nextB, nextC], box_two _ _⟩
  have e : min t 2 = 2 := by omega
  rw [e]
  have k1 : (t == 1) = false := by simpa using h1
  go_enter Tryz.func241, Tryz.ntmps241
  go_wp2
  exact bodyPost_ret (v := .agg #[.int .i64 a, .int .i64 (b + 1), .int .i64 0, .slice none 0 0]) (by simp [results, Tryz.results241, go_sem]) rfl ⟨by simp [nextA, nextB, nextC], box_two _ _⟩

set_option maxHeartbeats 1000000 in
set_option maxRecDepth 100000 in
theorem l4Tilde_c (a b c : Int) (u : Value) (t : Int) (ok : Bool) (hn : numsOk a b c) (ht : t = 1 ∨ t = 2 ∨ t = 3) (w : World) (hu : ∃ q n cap, u = .slice q n cap) :
    Calls Tryz.prog 240 #[.agg #[.int .i64 a, .int .i64 b, .int .i64 c, u, .int .i64 t, .bool ok]] w fun e w' => e = .returned (.agg #[.int .i64 (nextA (min t 2) a), .int .i64 (nextB (min t 2) b), .int .i64 (nextC (min t 2) c), .slice none 0 0]) ∧ Below w.heap.size w w' := by
  obtain ⟨q, n, cap, rfl⟩ := hu
  obtain ⟨⟨ha0, ha1⟩, ⟨hb0, hb1⟩, hc0, hc1⟩ := hn
  by_cases h1 : t = 1
  · have e : min t 2 = 1 := by omega
    rw [e]
    subst h1
    go_enter Tryz.func240, Tryz.ntmps240
    go_wp2
    exact bodyPost_ret (v := .agg #[.int .i64 (a + 1), .int .i64 0, .int .i64 0, .slice none 0 0]) (by simp [results, Tryz.results240, go_sem]) rfl ⟨by simp [nextA, nextB, nextC], box_two _ _⟩
  have e : min t 2 = 2 := by omega
  rw [e]
  have k1 : (t == 1) = false := by simpa using h1
  go_enter Tryz.func240, Tryz.ntmps240
  go_wp2
  exact bodyPost_ret (v := .agg #[.int .i64 a, .int .i64 (b + 1), .int .i64 0, .slice none 0 0]) (by simp [results, Tryz.results240, go_sem]) rfl ⟨by simp [nextA, nextB, nextC], box_two _ _⟩

set_option maxHeartbeats 1000000 in
set_option maxRecDepth 100000 in
theorem l4Caret_c (a b c : Int) (u : Value) (t : Int) (ok : Bool) (hn : numsOk a b c) (ht : t = 1 ∨ t = 2 ∨ t = 3) (w : World) (hu : ∃ q n cap, u = .slice q n cap) :
    Calls Tryz.prog 239 #[.agg #[.int .i64 a, .int .i64 b, .int .i64 c, u, .int .i64 t, .bool ok]] w fun e w' => e = .returned (.agg #[.int .i64 (nextA (caretK a b t) a), .int .i64 (nextB (caretK a b t) b), .int .i64 (nextC (caretK a b t) c), .slice none 0 0]) ∧ Below w.heap.size w w' := by
  obtain ⟨q, n, cap, rfl⟩ := hu
  obtain ⟨⟨ha0, ha1⟩, ⟨hb0, hb1⟩, hc0, hc1⟩ := hn
  by_cases ha : a = 0
  · have ka : (a != 0) = false := by simp [ha]
    by_cases h1 : t = 1
    · have e : caretK a b t = 1 := by simp [caretK, h1]
      rw [e]
      have k1 : (t == 1) = true := by simp [h1]
      clear e h1 ha
      go_enter Tryz.func239, Tryz.ntmps239
      go_wp2
      exact bodyPost_ret (v := .agg #[.int .i64 (a + 1), .int .i64 0, .int .i64 0, .slice none 0 0]) (by simp [results, Tryz.results239, go_sem]) rfl ⟨by simp [nextA, nextB, nextC], box_two _ _⟩
    have k1 : (t == 1) = false := by simpa using h1
    by_cases hb : b = 0
    · have kb : (b != 0) = false := by simp [hb]
      by_cases h2 : t = 2
      · have e : caretK a b t = 2 := by simp [caretK, ha, h1, h2]
        rw [e]
        have k2 : (t == 2) = true := by simp [h2]
        have HA : Hid (a = 0) := ha
        clear e h1 h2 ha hb
        go_enter Tryz.func239, Tryz.ntmps239
        go_wp2
        exact bodyPost_ret (v := .agg #[.int .i64 0, .int .i64 (b + 1), .int .i64 0, .slice none 0 0]) (by simp [results, Tryz.results239, go_sem]) rfl ⟨by simp [nextA, nextB, nextC, HA.out], box_two _ _⟩
      have e : caretK a b t = 3 := by simp [caretK, ha, h1, hb, h2]
      rw [e]
      have k2 : (t == 2) = false := by simpa using h2
      have HA : Hid (a = 0) := ha
      have HB : Hid (b = 0) := hb
      clear e h1 h2 ha hb
      go_enter Tryz.func239, Tryz.ntmps239
      go_wp2
      exact bodyPost_ret (v := .agg #[.int .i64 0, .int .i64 0, .int .i64 (c + 1), .slice none 0 0]) (by simp [results, Tryz.results239, go_sem]) rfl ⟨by simp [nextA, nextB, nextC, HA.out, HB.out], box_two _ _⟩
    have e : caretK a b t = 2 := by simp [caretK, ha, h1, hb]
    rw [e]
    have kb : (b != 0) = true := by simpa using hb
    have HA : Hid (a = 0) := ha
    clear e h1 ha hb
    go_enter Tryz.func239, Tryz.ntmps239
    go_wp2
    exact bodyPost_ret (v := .agg #[.int .i64 0, .int .i64 (b + 1), .int .i64 0, .slice none 0 0]) (by simp [results, Tryz.results239, go_sem]) rfl ⟨by simp [nextA, nextB, nextC, HA.out], box_two _ _⟩
  have e : caretK a b t = 1 := by simp [caretK, ha]
  rw [e]
  have ka : (a != 0) = true := by simpa using ha
  go_enter Tryz.func239, Tryz.ntmps239
  go_wp2
  exact bodyPost_ret (v := .agg #[.int .i64 (a + 1), .int .i64 0, .int .i64 0, .slice none 0 0]) (by simp [results, Tryz.results239, go_sem]) rfl ⟨by simp [nextA, nextB, nextC], box_two _ _⟩

set_option maxHeartbeats 1000000 in
set_option maxRecDepth 100000 in
theorem l4From_c (a b c : Int) (u : Value) (t : Int) (ok : Bool) (w : World) (hu : ∃ q n cap, u = .slice q n cap) :
    Calls Tryz.prog 237 #[.agg #[.int .i64 a, .int .i64 b, .int .i64 c, u, .int .i64 t, .bool ok]] w fun e w' => e = .returned (.agg #[.int .i64 4, .int .i64 a, .int .i64 b, .int .i64 c, u]) ∧ Below w.heap.size w w' := by
  obtain ⟨q, n, cap, rfl⟩ := hu
  go_enter Tryz.func237, Tryz.ntmps237
  go_wp2
  exact bodyPost_ret (v := .agg #[.int .i64 4, .int .i64 a, .int .i64 b, .int .i64 c, .slice q n cap]) (by simp [results, Tryz.results237, go_sem]) rfl ⟨rfl, box_two _ _⟩

set_option maxHeartbeats 1000000 in
set_option maxRecDepth 100000 in
theorem l4Below_c (a b c : Int) (u : Value) (w : World) (hu : ∃ q n cap, u = .slice q n cap) :
    Calls Tryz.prog 238 #[.agg #[.int .i64 a, .int .i64 b, .int .i64 c, u]] w fun e w' => ∃ g, e = .returned (.agg #[.int .i64 1, .int .i64 a, .int .i64 b, .int .i64 c, .slice (some ⟨g, 0, none⟩) 1 1]) ∧ w'.ownsRow w.heap.size 9 1 (.slice (some ⟨g, 0, none⟩) 1 1) 1 (strsV [zeroT]) ∧ Below w.heap.size w w' := by
  obtain ⟨q, n, cap, rfl⟩ := hu
  go_enter Tryz.func238, Tryz.ntmps238
  go_wp2
  refine bodyPost_ret (v := .agg #[.int .i64 1, .int .i64 a, .int .i64 b, .int .i64 c, .slice (some ⟨w.heap.size + 1 + 1, 0, none⟩) 1 1]) (by simp [results, Tryz.results238, go_sem]) rfl ⟨_, rfl, ?_, ?_⟩
  · have s1 : ∀ o o', ((w.alloc o).alloc o').heap.size = w.heap.size + 1 + 1 := fun o o' => by simp
    have h := fun o o' => owns_lit1 ((w.alloc o).alloc o') ⟨#[48]⟩ w.heap.size (by simp; omega)
    simp only [s1] at h
    exact h _ _
  · exact (box_two _ _).alloc (by simp; omega) _
end Go.Proofs.YtkijckpkojcdcaaGreatDoor

/-! What a sign and a version make, the specification's: contracts for the walks; conditions: its numbers lie between 0 and 9999, its texts are a row of the call's own. -/
namespace Go.Proofs.YtkijckpkojcdcaaGreatDoor
open Go.RowKit
set_option linter.unusedSimpArgs false
set_option linter.unusedVariables false

set_option maxHeartbeats 8000000 in
set_option maxRecDepth 100000 in
theorem mk_caret (lo : Nat) (a b c : Int) (u : Value) (ps : List ByteArray) (t : Int) (ok : Bool) (w : World) (hlo : lo ≤ w.heap.size) (hnum : numsOk a b c) (ht : t = 1 ∨ t = 2 ∨ t = 3) (hu : w.ownsRow lo 9 1 u ps.length (strsV ps)) :
    Calls Tryz.prog 208 #[.string ⟨#[94]⟩, .agg #[.int .i64 a, .int .i64 b, .int .i64 c, u, .int .i64 t, .bool ok]] w fun e w' => ∃ v, e = .returned v ∧ CmpsOwn lo w' v (makeC 6 a b c ps t) ∧ Below w.heap.size w w' := by
  obtain ⟨q, n, cap, hq⟩ : ∃ q n cap, u = .slice q n cap := by rcases hu.2 with ⟨rfl, _⟩ | ⟨g, cap, cur, rfl, _⟩ <;> exact ⟨_, _, _, rfl⟩
  subst hq
  have hWF : Below w.heap.size w (w.alloc (.cells #[.int .i64 a, .int .i64 b, .int .i64 c, .slice q n cap, .int .i64 t, .bool ok] 232)) := (Below.refl _ _).alloc (Nat.le_refl _) _
  have C0 : (w.alloc (.cells #[.int .i64 a, .int .i64 b, .int .i64 c, .slice q n cap, .int .i64 t, .bool ok] 232)).cell? ⟨w.heap.size, 0, none⟩ = some (.int .i64 a) ∧ (w.alloc (.cells #[.int .i64 a, .int .i64 b, .int .i64 c, .slice q n cap, .int .i64 t, .bool ok] 232)).cell? ⟨w.heap.size, 1, none⟩ = some (.int .i64 b) ∧ (w.alloc (.cells #[.int .i64 a, .int .i64 b, .int .i64 c, .slice q n cap, .int .i64 t, .bool ok] 232)).cell? ⟨w.heap.size, 2, none⟩ = some (.int .i64 c) ∧ (w.alloc (.cells #[.int .i64 a, .int .i64 b, .int .i64 c, .slice q n cap, .int .i64 t, .bool ok] 232)).cell? ⟨w.heap.size, 3, none⟩ = some (.slice q n cap) ∧ (w.alloc (.cells #[.int .i64 a, .int .i64 b, .int .i64 c, .slice q n cap, .int .i64 t, .bool ok] 232)).cell? ⟨w.heap.size, 4, none⟩ = some (.int .i64 t) ∧ (w.alloc (.cells #[.int .i64 a, .int .i64 b, .int .i64 c, .slice q n cap, .int .i64 t, .bool ok] 232)).cell? ⟨w.heap.size, 5, none⟩ = some (.bool ok) := by
    have h := vheap_new w (.cells #[.int .i64 a, .int .i64 b, .int .i64 c, .slice q n cap, .int .i64 t, .bool ok] 232)
    exact ⟨vblk_cell h 0, vblk_cell h 1, vblk_cell h 2, vblk_cell h 3, vblk_cell h 4, vblk_cell h 5⟩
  have hs1 : (w.alloc (.cells #[.int .i64 a, .int .i64 b, .int .i64 c, .slice q n cap, .int .i64 t, .bool ok] 232)).heap.size = w.heap.size + 1 := by simp
  have hap : ∀ g (w1 : World) base, w.heap.size ≤ base → w1.ownsRow base 9 1 (.slice (some ⟨g, 0, none⟩) 1 1) 1 (strsV [zeroT]) → Value.ownBlock (.slice q n cap) = Value.ownBlock (.slice (some ⟨g, 0, none⟩) 1 1) → Value.ownBlock (.slice q n cap) = none := fun g w1 base hb og he => by
    cases hk : Value.ownBlock (.slice q n cap) with
    | none => rfl
    | some k =>
      have h1 := (hu.lt k hk).2
      rw [he] at hk
      have h2 := (og.lt k hk).1
      omega
  obtain ⟨WF, hWFd⟩ : ∃ x, x = w.alloc (.cells #[.int .i64 a, .int .i64 b, .int .i64 c, .slice q n cap, .int .i64 t, .bool ok] 232) := ⟨_, rfl⟩
  rw [← hWFd] at hWF C0 hs1
  have KEEP : Hid (∀ w1, Below WF.heap.size WF w1 → w1.cell? ⟨w.heap.size, 0, none⟩ = some (.int .i64 a) ∧ w1.cell? ⟨w.heap.size, 1, none⟩ = some (.int .i64 b) ∧ w1.cell? ⟨w.heap.size, 2, none⟩ = some (.int .i64 c) ∧ w1.cell? ⟨w.heap.size, 3, none⟩ = some (.slice q n cap) ∧ w1.cell? ⟨w.heap.size, 4, none⟩ = some (.int .i64 t) ∧ w1.cell? ⟨w.heap.size, 5, none⟩ = some (.bool ok)) := fun w1 hb => by
    have k : ∀ j, w1.cell? ⟨w.heap.size, j, none⟩ = WF.cell? ⟨w.heap.size, j, none⟩ := fun j => World.cell?_of_block (w := WF) (hb.block w.heap.size (by omega))
    simp only [k]; exact C0
  have em : makeC 6 a b c ps t = [⟨4, a, b, c, ps⟩, ⟨1, nextA (caretK a b t) a, nextB (caretK a b t) b, nextC (caretK a b t) c, [zeroT]⟩] := by rfl
  obtain ⟨x, hx⟩ : ∃ x, x = nextA (caretK a b t) a := ⟨_, rfl⟩
  obtain ⟨y, hy⟩ : ∃ x, x = nextB (caretK a b t) b := ⟨_, rfl⟩
  obtain ⟨z, hz⟩ : ∃ x, x = nextC (caretK a b t) c := ⟨_, rfl⟩
  rw [em, ← hx, ← hy, ← hz]
  have HF : Hid (∀ w1, Below WF.heap.size WF w1 → Calls Tryz.prog 237 #[.agg #[.int .i64 a, .int .i64 b, .int .i64 c, .slice q n cap, .int .i64 t, .bool ok]] w1 fun e w' => e = .returned (.agg #[.int .i64 4, .int .i64 a, .int .i64 b, .int .i64 c, .slice q n cap]) ∧ Below w1.heap.size w1 w' ∧ Below WF.heap.size WF w' ∧ w'.cell? ⟨w.heap.size, 0, none⟩ = some (.int .i64 a) ∧ w'.cell? ⟨w.heap.size, 1, none⟩ = some (.int .i64 b) ∧ w'.cell? ⟨w.heap.size, 2, none⟩ = some (.int .i64 c) ∧ w'.cell? ⟨w.heap.size, 3, none⟩ = some (.slice q n cap) ∧ w'.cell? ⟨w.heap.size, 4, none⟩ = some (.int .i64 t) ∧ w'.cell? ⟨w.heap.size, 5, none⟩ = some (.bool ok)) := fun w1 hb => (l4From_c a b c _ t ok w1 ⟨_, _, _, rfl⟩).mono (fun e w' ⟨h1, h2⟩ => ⟨h1, h2, hb.trans (h2.mono hb.size), KEEP.out w' (hb.trans (h2.mono hb.size))⟩)
  have HN : Hid (∀ w1, Below WF.heap.size WF w1 → Calls Tryz.prog 239 #[.agg #[.int .i64 a, .int .i64 b, .int .i64 c, .slice q n cap, .int .i64 t, .bool ok]] w1 fun e w' => e = .returned (.agg #[.int .i64 x, .int .i64 y, .int .i64 z, .slice none 0 0]) ∧ Below w1.heap.size w1 w' ∧ Below WF.heap.size WF w' ∧ w'.cell? ⟨w.heap.size, 0, none⟩ = some (.int .i64 a) ∧ w'.cell? ⟨w.heap.size, 1, none⟩ = some (.int .i64 b) ∧ w'.cell? ⟨w.heap.size, 2, none⟩ = some (.int .i64 c) ∧ w'.cell? ⟨w.heap.size, 3, none⟩ = some (.slice q n cap) ∧ w'.cell? ⟨w.heap.size, 4, none⟩ = some (.int .i64 t) ∧ w'.cell? ⟨w.heap.size, 5, none⟩ = some (.bool ok)) := fun w1 hb => (l4Caret_c a b c _ t ok hnum ht w1 ⟨_, _, _, rfl⟩).mono (fun e w' ⟨h1, h2⟩ => ⟨by rw [h1, ← hx, ← hy, ← hz], h2, hb.trans (h2.mono hb.size), KEEP.out w' (hb.trans (h2.mono hb.size))⟩)
  have HB : Hid (∀ w1, Below WF.heap.size WF w1 → Calls Tryz.prog 238 #[.agg #[.int .i64 x, .int .i64 y, .int .i64 z, .slice none 0 0]] w1 fun e w' => ∃ g, e = .returned (.agg #[.int .i64 1, .int .i64 x, .int .i64 y, .int .i64 z, .slice (some ⟨g, 0, none⟩) 1 1]) ∧ w'.ownsRow WF.heap.size 9 1 (.slice (some ⟨g, 0, none⟩) 1 1) 1 (strsV [zeroT]) ∧ Below WF.heap.size WF w' ∧ w'.cell? ⟨w.heap.size, 0, none⟩ = some (.int .i64 a) ∧ w'.cell? ⟨w.heap.size, 1, none⟩ = some (.int .i64 b) ∧ w'.cell? ⟨w.heap.size, 2, none⟩ = some (.int .i64 c) ∧ w'.cell? ⟨w.heap.size, 3, none⟩ = some (.slice q n cap) ∧ w'.cell? ⟨w.heap.size, 4, none⟩ = some (.int .i64 t) ∧ w'.cell? ⟨w.heap.size, 5, none⟩ = some (.bool ok)) := fun w1 hb => (l4Below_c x y z _ w1 ⟨_, _, _, rfl⟩).mono (fun e w' ⟨g, h1, h2, h3⟩ => ⟨g, h1, owns_base h2 hb.size, hb.trans (h3.mono hb.size), KEEP.out w' (hb.trans (h3.mono hb.size))⟩)
  have hd0 : Below WF.heap.size WF WF.drew := (Below.refl _ _).drew
  have D0 := KEEP.out _ hd0
  obtain ⟨d0, d1, d2, d3, d4, d5⟩ := D0
  obtain ⟨c0, c1, c2, c3, c4, c5⟩ := C0
  clear hx hy hz em hnum ht KEEP
  go_enter Tryz.func208, Tryz.ntmps208
  go_wp2_with fail
  rw [← hWFd]
  clear hWFd
  go_region_with (first
    | (go_at_call 237; refine (HF.out _ ?_).mono ?_; · assumption
       rintro e wF ⟨rfl, bF, BF, ⟨c0, c1, c2, c3, c4, c5⟩⟩)
    | (go_at_call 239; refine (HN.out _ ?_).mono ?_; · assumption
       rintro e wN ⟨rfl, bN, BN, ⟨c0, c1, c2, c3, c4, c5⟩⟩)
    | (go_at_call 238; refine (HB.out _ ?_).mono ?_; · assumption
       rintro e wB ⟨g, rfl, og, BB, ⟨c0, c1, c2, c3, c4, c5⟩⟩))
  all_goals go_wp2_with fail
  all_goals go_ret
  all_goals
    have hx := hWF.trans (BB.mono hWF.size)
    exact ⟨_, rfl, two_own ⟨4, a, b, c, ps⟩ ⟨1, x, y, z, [zeroT]⟩ (by simp) (Nat.le_trans hlo hx.size) (owns_of_below hu hx) (owns_base og (Nat.le_trans hlo hWF.size)) (hap g _ _ hWF.size og), hx.alloc hx.size _⟩

end Go.Proofs.YtkijckpkojcdcaaGreatDoor

/-! What a sign and a version make, the specification's: contracts for the walks; conditions: its numbers lie between 0 and 9999, its texts are a row of the call's own. -/
namespace Go.Proofs.YtkijckpkojcdcaaGreatDoor
open Go.RowKit
set_option linter.unusedSimpArgs false
set_option linter.unusedVariables false

set_option maxHeartbeats 8000000 in
set_option maxRecDepth 100000 in
theorem mk_ge (lo : Nat) (a b c : Int) (u : Value) (ps : List ByteArray) (t : Int) (ok : Bool) (w : World) (hlo : lo ≤ w.heap.size) (hnum : numsOk a b c) (ht : t = 1 ∨ t = 2 ∨ t = 3) (hu : w.ownsRow lo 9 1 u ps.length (strsV ps)) :
    Calls Tryz.prog 208 #[.string ⟨#[62, 61]⟩, .agg #[.int .i64 a, .int .i64 b, .int .i64 c, u, .int .i64 t, .bool ok]] w fun e w' => ∃ v, e = .returned v ∧ CmpsOwn lo w' v (makeC 4 a b c ps t) ∧ Below w.heap.size w w' := by
  obtain ⟨q, n, cap, hq⟩ : ∃ q n cap, u = .slice q n cap := by rcases hu.2 with ⟨rfl, _⟩ | ⟨g, cap, cur, rfl, _⟩ <;> exact ⟨_, _, _, rfl⟩
  subst hq
  have hWF : Below w.heap.size w (w.alloc (.cells #[.int .i64 a, .int .i64 b, .int .i64 c, .slice q n cap, .int .i64 t, .bool ok] 232)) := (Below.refl _ _).alloc (Nat.le_refl _) _
  have C0 : (w.alloc (.cells #[.int .i64 a, .int .i64 b, .int .i64 c, .slice q n cap, .int .i64 t, .bool ok] 232)).cell? ⟨w.heap.size, 0, none⟩ = some (.int .i64 a) ∧ (w.alloc (.cells #[.int .i64 a, .int .i64 b, .int .i64 c, .slice q n cap, .int .i64 t, .bool ok] 232)).cell? ⟨w.heap.size, 1, none⟩ = some (.int .i64 b) ∧ (w.alloc (.cells #[.int .i64 a, .int .i64 b, .int .i64 c, .slice q n cap, .int .i64 t, .bool ok] 232)).cell? ⟨w.heap.size, 2, none⟩ = some (.int .i64 c) ∧ (w.alloc (.cells #[.int .i64 a, .int .i64 b, .int .i64 c, .slice q n cap, .int .i64 t, .bool ok] 232)).cell? ⟨w.heap.size, 3, none⟩ = some (.slice q n cap) ∧ (w.alloc (.cells #[.int .i64 a, .int .i64 b, .int .i64 c, .slice q n cap, .int .i64 t, .bool ok] 232)).cell? ⟨w.heap.size, 4, none⟩ = some (.int .i64 t) ∧ (w.alloc (.cells #[.int .i64 a, .int .i64 b, .int .i64 c, .slice q n cap, .int .i64 t, .bool ok] 232)).cell? ⟨w.heap.size, 5, none⟩ = some (.bool ok) := by
    have h := vheap_new w (.cells #[.int .i64 a, .int .i64 b, .int .i64 c, .slice q n cap, .int .i64 t, .bool ok] 232)
    exact ⟨vblk_cell h 0, vblk_cell h 1, vblk_cell h 2, vblk_cell h 3, vblk_cell h 4, vblk_cell h 5⟩
  have hs1 : (w.alloc (.cells #[.int .i64 a, .int .i64 b, .int .i64 c, .slice q n cap, .int .i64 t, .bool ok] 232)).heap.size = w.heap.size + 1 := by simp
  have hap : ∀ g (w1 : World) base, w.heap.size ≤ base → w1.ownsRow base 9 1 (.slice (some ⟨g, 0, none⟩) 1 1) 1 (strsV [zeroT]) → Value.ownBlock (.slice q n cap) = Value.ownBlock (.slice (some ⟨g, 0, none⟩) 1 1) → Value.ownBlock (.slice q n cap) = none := fun g w1 base hb og he => by
    cases hk : Value.ownBlock (.slice q n cap) with
    | none => rfl
    | some k =>
      have h1 := (hu.lt k hk).2
      rw [he] at hk
      have h2 := (og.lt k hk).1
      omega
  obtain ⟨WF, hWFd⟩ : ∃ x, x = w.alloc (.cells #[.int .i64 a, .int .i64 b, .int .i64 c, .slice q n cap, .int .i64 t, .bool ok] 232) := ⟨_, rfl⟩
  rw [← hWFd] at hWF C0 hs1
  have KEEP : Hid (∀ w1, Below WF.heap.size WF w1 → w1.cell? ⟨w.heap.size, 0, none⟩ = some (.int .i64 a) ∧ w1.cell? ⟨w.heap.size, 1, none⟩ = some (.int .i64 b) ∧ w1.cell? ⟨w.heap.size, 2, none⟩ = some (.int .i64 c) ∧ w1.cell? ⟨w.heap.size, 3, none⟩ = some (.slice q n cap) ∧ w1.cell? ⟨w.heap.size, 4, none⟩ = some (.int .i64 t) ∧ w1.cell? ⟨w.heap.size, 5, none⟩ = some (.bool ok)) := fun w1 hb => by
    have k : ∀ j, w1.cell? ⟨w.heap.size, j, none⟩ = WF.cell? ⟨w.heap.size, j, none⟩ := fun j => World.cell?_of_block (w := WF) (hb.block w.heap.size (by omega))
    simp only [k]; exact C0
  have em : makeC 4 a b c ps t = [⟨4, a, b, c, ps⟩] := by simp [makeC]
  rw [em]
  have x := a
  have y := b
  have z := c
  have HF : Hid (∀ w1, Below WF.heap.size WF w1 → Calls Tryz.prog 237 #[.agg #[.int .i64 a, .int .i64 b, .int .i64 c, .slice q n cap, .int .i64 t, .bool ok]] w1 fun e w' => e = .returned (.agg #[.int .i64 4, .int .i64 a, .int .i64 b, .int .i64 c, .slice q n cap]) ∧ Below w1.heap.size w1 w' ∧ Below WF.heap.size WF w' ∧ w'.cell? ⟨w.heap.size, 0, none⟩ = some (.int .i64 a) ∧ w'.cell? ⟨w.heap.size, 1, none⟩ = some (.int .i64 b) ∧ w'.cell? ⟨w.heap.size, 2, none⟩ = some (.int .i64 c) ∧ w'.cell? ⟨w.heap.size, 3, none⟩ = some (.slice q n cap) ∧ w'.cell? ⟨w.heap.size, 4, none⟩ = some (.int .i64 t) ∧ w'.cell? ⟨w.heap.size, 5, none⟩ = some (.bool ok)) := fun w1 hb => (l4From_c a b c _ t ok w1 ⟨_, _, _, rfl⟩).mono (fun e w' ⟨h1, h2⟩ => ⟨h1, h2, hb.trans (h2.mono hb.size), KEEP.out w' (hb.trans (h2.mono hb.size))⟩)
  have hd0 : Below WF.heap.size WF WF := Below.refl _ _
  obtain ⟨c0, c1, c2, c3, c4, c5⟩ := C0
  clear em hnum ht KEEP
  go_enter Tryz.func208, Tryz.ntmps208
  go_wp2_with (first
    | (go_at_call 237; rw [← hWFd]; refine (HF.out _ ?_).mono ?_; · assumption
       rintro e wF ⟨rfl, bF, BF, ⟨c0, c1, c2, c3, c4, c5⟩⟩))
  go_ret
  have hx := hWF.trans (BF.mono hWF.size)
  exact ⟨_, rfl, one_own ⟨4, a, b, c, ps⟩ (by simp) (Nat.le_trans hlo hx.size) (owns_of_below hu hx), hx.alloc hx.size _⟩

set_option maxHeartbeats 8000000 in
set_option maxRecDepth 100000 in
theorem mk_lt (lo : Nat) (a b c : Int) (u : Value) (ps : List ByteArray) (t : Int) (ok : Bool) (w : World) (hlo : lo ≤ w.heap.size) (hnum : numsOk a b c) (ht : t = 1 ∨ t = 2 ∨ t = 3) (hu : w.ownsRow lo 9 1 u ps.length (strsV ps)) :
    Calls Tryz.prog 208 #[.string ⟨#[60]⟩, .agg #[.int .i64 a, .int .i64 b, .int .i64 c, u, .int .i64 t, .bool ok]] w fun e w' => ∃ v, e = .returned v ∧ CmpsOwn lo w' v (makeC 1 a b c ps t) ∧ Below w.heap.size w w' := by
  obtain ⟨q, n, cap, hq⟩ : ∃ q n cap, u = .slice q n cap := by rcases hu.2 with ⟨rfl, _⟩ | ⟨g, cap, cur, rfl, _⟩ <;> exact ⟨_, _, _, rfl⟩
  subst hq
  have hWF : Below w.heap.size w (w.alloc (.cells #[.int .i64 a, .int .i64 b, .int .i64 c, .slice q n cap, .int .i64 t, .bool ok] 232)) := (Below.refl _ _).alloc (Nat.le_refl _) _
  have C0 : (w.alloc (.cells #[.int .i64 a, .int .i64 b, .int .i64 c, .slice q n cap, .int .i64 t, .bool ok] 232)).cell? ⟨w.heap.size, 0, none⟩ = some (.int .i64 a) ∧ (w.alloc (.cells #[.int .i64 a, .int .i64 b, .int .i64 c, .slice q n cap, .int .i64 t, .bool ok] 232)).cell? ⟨w.heap.size, 1, none⟩ = some (.int .i64 b) ∧ (w.alloc (.cells #[.int .i64 a, .int .i64 b, .int .i64 c, .slice q n cap, .int .i64 t, .bool ok] 232)).cell? ⟨w.heap.size, 2, none⟩ = some (.int .i64 c) ∧ (w.alloc (.cells #[.int .i64 a, .int .i64 b, .int .i64 c, .slice q n cap, .int .i64 t, .bool ok] 232)).cell? ⟨w.heap.size, 3, none⟩ = some (.slice q n cap) ∧ (w.alloc (.cells #[.int .i64 a, .int .i64 b, .int .i64 c, .slice q n cap, .int .i64 t, .bool ok] 232)).cell? ⟨w.heap.size, 4, none⟩ = some (.int .i64 t) ∧ (w.alloc (.cells #[.int .i64 a, .int .i64 b, .int .i64 c, .slice q n cap, .int .i64 t, .bool ok] 232)).cell? ⟨w.heap.size, 5, none⟩ = some (.bool ok) := by
    have h := vheap_new w (.cells #[.int .i64 a, .int .i64 b, .int .i64 c, .slice q n cap, .int .i64 t, .bool ok] 232)
    exact ⟨vblk_cell h 0, vblk_cell h 1, vblk_cell h 2, vblk_cell h 3, vblk_cell h 4, vblk_cell h 5⟩
  have hs1 : (w.alloc (.cells #[.int .i64 a, .int .i64 b, .int .i64 c, .slice q n cap, .int .i64 t, .bool ok] 232)).heap.size = w.heap.size + 1 := by simp
  have hap : ∀ g (w1 : World) base, w.heap.size ≤ base → w1.ownsRow base 9 1 (.slice (some ⟨g, 0, none⟩) 1 1) 1 (strsV [zeroT]) → Value.ownBlock (.slice q n cap) = Value.ownBlock (.slice (some ⟨g, 0, none⟩) 1 1) → Value.ownBlock (.slice q n cap) = none := fun g w1 base hb og he => by
    cases hk : Value.ownBlock (.slice q n cap) with
    | none => rfl
    | some k =>
      have h1 := (hu.lt k hk).2
      rw [he] at hk
      have h2 := (og.lt k hk).1
      omega
  obtain ⟨WF, hWFd⟩ : ∃ x, x = w.alloc (.cells #[.int .i64 a, .int .i64 b, .int .i64 c, .slice q n cap, .int .i64 t, .bool ok] 232) := ⟨_, rfl⟩
  rw [← hWFd] at hWF C0 hs1
  have KEEP : Hid (∀ w1, Below WF.heap.size WF w1 → w1.cell? ⟨w.heap.size, 0, none⟩ = some (.int .i64 a) ∧ w1.cell? ⟨w.heap.size, 1, none⟩ = some (.int .i64 b) ∧ w1.cell? ⟨w.heap.size, 2, none⟩ = some (.int .i64 c) ∧ w1.cell? ⟨w.heap.size, 3, none⟩ = some (.slice q n cap) ∧ w1.cell? ⟨w.heap.size, 4, none⟩ = some (.int .i64 t) ∧ w1.cell? ⟨w.heap.size, 5, none⟩ = some (.bool ok)) := fun w1 hb => by
    have k : ∀ j, w1.cell? ⟨w.heap.size, j, none⟩ = WF.cell? ⟨w.heap.size, j, none⟩ := fun j => World.cell?_of_block (w := WF) (hb.block w.heap.size (by omega))
    simp only [k]; exact C0
  have em : makeC 1 a b c ps t = [⟨1, a, b, c, ps⟩] := by simp [makeC]
  rw [em]
  have hd0 : Below WF.heap.size WF WF := Below.refl _ _
  subst hWFd
  clear em hnum ht KEEP C0
  go_enter Tryz.func208, Tryz.ntmps208
  go_wp2_with fail
  go_ret
  exact ⟨_, rfl, one_own ⟨1, a, b, c, ps⟩ (by simp) (Nat.le_trans hlo hWF.size) (owns_of_below hu hWF), hWF.alloc hWF.size _⟩

set_option maxHeartbeats 8000000 in
set_option maxRecDepth 100000 in
theorem mk_gt3 (lo : Nat) (a b c : Int) (u : Value) (ps : List ByteArray) (t : Int) (ok : Bool) (w : World) (hlo : lo ≤ w.heap.size) (hnum : numsOk a b c) (ht : t = 1 ∨ t = 2 ∨ t = 3) (h3 : t = 3) (hu : w.ownsRow lo 9 1 u ps.length (strsV ps)) :
    Calls Tryz.prog 208 #[.string ⟨#[62]⟩, .agg #[.int .i64 a, .int .i64 b, .int .i64 c, u, .int .i64 t, .bool ok]] w fun e w' => ∃ v, e = .returned v ∧ CmpsOwn lo w' v (makeC 3 a b c ps t) ∧ Below w.heap.size w w' := by
  obtain ⟨q, n, cap, hq⟩ : ∃ q n cap, u = .slice q n cap := by rcases hu.2 with ⟨rfl, _⟩ | ⟨g, cap, cur, rfl, _⟩ <;> exact ⟨_, _, _, rfl⟩
  subst hq
  have hWF : Below w.heap.size w (w.alloc (.cells #[.int .i64 a, .int .i64 b, .int .i64 c, .slice q n cap, .int .i64 t, .bool ok] 232)) := (Below.refl _ _).alloc (Nat.le_refl _) _
  have C0 : (w.alloc (.cells #[.int .i64 a, .int .i64 b, .int .i64 c, .slice q n cap, .int .i64 t, .bool ok] 232)).cell? ⟨w.heap.size, 0, none⟩ = some (.int .i64 a) ∧ (w.alloc (.cells #[.int .i64 a, .int .i64 b, .int .i64 c, .slice q n cap, .int .i64 t, .bool ok] 232)).cell? ⟨w.heap.size, 1, none⟩ = some (.int .i64 b) ∧ (w.alloc (.cells #[.int .i64 a, .int .i64 b, .int .i64 c, .slice q n cap, .int .i64 t, .bool ok] 232)).cell? ⟨w.heap.size, 2, none⟩ = some (.int .i64 c) ∧ (w.alloc (.cells #[.int .i64 a, .int .i64 b, .int .i64 c, .slice q n cap, .int .i64 t, .bool ok] 232)).cell? ⟨w.heap.size, 3, none⟩ = some (.slice q n cap) ∧ (w.alloc (.cells #[.int .i64 a, .int .i64 b, .int .i64 c, .slice q n cap, .int .i64 t, .bool ok] 232)).cell? ⟨w.heap.size, 4, none⟩ = some (.int .i64 t) ∧ (w.alloc (.cells #[.int .i64 a, .int .i64 b, .int .i64 c, .slice q n cap, .int .i64 t, .bool ok] 232)).cell? ⟨w.heap.size, 5, none⟩ = some (.bool ok) := by
    have h := vheap_new w (.cells #[.int .i64 a, .int .i64 b, .int .i64 c, .slice q n cap, .int .i64 t, .bool ok] 232)
    exact ⟨vblk_cell h 0, vblk_cell h 1, vblk_cell h 2, vblk_cell h 3, vblk_cell h 4, vblk_cell h 5⟩
  have hs1 : (w.alloc (.cells #[.int .i64 a, .int .i64 b, .int .i64 c, .slice q n cap, .int .i64 t, .bool ok] 232)).heap.size = w.heap.size + 1 := by simp
  have hap : ∀ g (w1 : World) base, w.heap.size ≤ base → w1.ownsRow base 9 1 (.slice (some ⟨g, 0, none⟩) 1 1) 1 (strsV [zeroT]) → Value.ownBlock (.slice q n cap) = Value.ownBlock (.slice (some ⟨g, 0, none⟩) 1 1) → Value.ownBlock (.slice q n cap) = none := fun g w1 base hb og he => by
    cases hk : Value.ownBlock (.slice q n cap) with
    | none => rfl
    | some k =>
      have h1 := (hu.lt k hk).2
      rw [he] at hk
      have h2 := (og.lt k hk).1
      omega
  obtain ⟨WF, hWFd⟩ : ∃ x, x = w.alloc (.cells #[.int .i64 a, .int .i64 b, .int .i64 c, .slice q n cap, .int .i64 t, .bool ok] 232) := ⟨_, rfl⟩
  rw [← hWFd] at hWF C0 hs1
  have KEEP : Hid (∀ w1, Below WF.heap.size WF w1 → w1.cell? ⟨w.heap.size, 0, none⟩ = some (.int .i64 a) ∧ w1.cell? ⟨w.heap.size, 1, none⟩ = some (.int .i64 b) ∧ w1.cell? ⟨w.heap.size, 2, none⟩ = some (.int .i64 c) ∧ w1.cell? ⟨w.heap.size, 3, none⟩ = some (.slice q n cap) ∧ w1.cell? ⟨w.heap.size, 4, none⟩ = some (.int .i64 t) ∧ w1.cell? ⟨w.heap.size, 5, none⟩ = some (.bool ok)) := fun w1 hb => by
    have k : ∀ j, w1.cell? ⟨w.heap.size, j, none⟩ = WF.cell? ⟨w.heap.size, j, none⟩ := fun j => World.cell?_of_block (w := WF) (hb.block w.heap.size (by omega))
    simp only [k]; exact C0
  have k3 : (t == 3) = true := by simpa using h3
  have em : makeC 3 a b c ps t = [⟨3, a, b, c, ps⟩] := by simp [makeC, h3]
  rw [em]
  have hd0 : Below WF.heap.size WF WF := Below.refl _ _
  subst hWFd
  clear em hnum ht KEEP h3 C0
  go_enter Tryz.func208, Tryz.ntmps208
  go_wp2_with fail
  go_ret
  exact ⟨_, rfl, one_own ⟨3, a, b, c, ps⟩ (by simp) (Nat.le_trans hlo hWF.size) (owns_of_below hu hWF), hWF.alloc hWF.size _⟩

set_option maxHeartbeats 8000000 in
set_option maxRecDepth 100000 in
theorem mk_gt (lo : Nat) (a b c : Int) (u : Value) (ps : List ByteArray) (t : Int) (ok : Bool) (w : World) (hlo : lo ≤ w.heap.size) (hnum : numsOk a b c) (ht : t = 1 ∨ t = 2 ∨ t = 3) (h3 : ¬ t = 3) (hu : w.ownsRow lo 9 1 u ps.length (strsV ps)) :
    Calls Tryz.prog 208 #[.string ⟨#[62]⟩, .agg #[.int .i64 a, .int .i64 b, .int .i64 c, u, .int .i64 t, .bool ok]] w fun e w' => ∃ v, e = .returned v ∧ CmpsOwn lo w' v (makeC 3 a b c ps t) ∧ Below w.heap.size w w' := by
  obtain ⟨q, n, cap, hq⟩ : ∃ q n cap, u = .slice q n cap := by rcases hu.2 with ⟨rfl, _⟩ | ⟨g, cap, cur, rfl, _⟩ <;> exact ⟨_, _, _, rfl⟩
  subst hq
  have hWF : Below w.heap.size w (w.alloc (.cells #[.int .i64 a, .int .i64 b, .int .i64 c, .slice q n cap, .int .i64 t, .bool ok] 232)) := (Below.refl _ _).alloc (Nat.le_refl _) _
  have C0 : (w.alloc (.cells #[.int .i64 a, .int .i64 b, .int .i64 c, .slice q n cap, .int .i64 t, .bool ok] 232)).cell? ⟨w.heap.size, 0, none⟩ = some (.int .i64 a) ∧ (w.alloc (.cells #[.int .i64 a, .int .i64 b, .int .i64 c, .slice q n cap, .int .i64 t, .bool ok] 232)).cell? ⟨w.heap.size, 1, none⟩ = some (.int .i64 b) ∧ (w.alloc (.cells #[.int .i64 a, .int .i64 b, .int .i64 c, .slice q n cap, .int .i64 t, .bool ok] 232)).cell? ⟨w.heap.size, 2, none⟩ = some (.int .i64 c) ∧ (w.alloc (.cells #[.int .i64 a, .int .i64 b, .int .i64 c, .slice q n cap, .int .i64 t, .bool ok] 232)).cell? ⟨w.heap.size, 3, none⟩ = some (.slice q n cap) ∧ (w.alloc (.cells #[.int .i64 a, .int .i64 b, .int .i64 c, .slice q n cap, .int .i64 t, .bool ok] 232)).cell? ⟨w.heap.size, 4, none⟩ = some (.int .i64 t) ∧ (w.alloc (.cells #[.int .i64 a, .int .i64 b, .int .i64 c, .slice q n cap, .int .i64 t, .bool ok] 232)).cell? ⟨w.heap.size, 5, none⟩ = some (.bool ok) := by
    have h := vheap_new w (.cells #[.int .i64 a, .int .i64 b, .int .i64 c, .slice q n cap, .int .i64 t, .bool ok] 232)
    exact ⟨vblk_cell h 0, vblk_cell h 1, vblk_cell h 2, vblk_cell h 3, vblk_cell h 4, vblk_cell h 5⟩
  have hs1 : (w.alloc (.cells #[.int .i64 a, .int .i64 b, .int .i64 c, .slice q n cap, .int .i64 t, .bool ok] 232)).heap.size = w.heap.size + 1 := by simp
  have hap : ∀ g (w1 : World) base, w.heap.size ≤ base → w1.ownsRow base 9 1 (.slice (some ⟨g, 0, none⟩) 1 1) 1 (strsV [zeroT]) → Value.ownBlock (.slice q n cap) = Value.ownBlock (.slice (some ⟨g, 0, none⟩) 1 1) → Value.ownBlock (.slice q n cap) = none := fun g w1 base hb og he => by
    cases hk : Value.ownBlock (.slice q n cap) with
    | none => rfl
    | some k =>
      have h1 := (hu.lt k hk).2
      rw [he] at hk
      have h2 := (og.lt k hk).1
      omega
  obtain ⟨WF, hWFd⟩ : ∃ x, x = w.alloc (.cells #[.int .i64 a, .int .i64 b, .int .i64 c, .slice q n cap, .int .i64 t, .bool ok] 232) := ⟨_, rfl⟩
  rw [← hWFd] at hWF C0 hs1
  have KEEP : Hid (∀ w1, Below WF.heap.size WF w1 → w1.cell? ⟨w.heap.size, 0, none⟩ = some (.int .i64 a) ∧ w1.cell? ⟨w.heap.size, 1, none⟩ = some (.int .i64 b) ∧ w1.cell? ⟨w.heap.size, 2, none⟩ = some (.int .i64 c) ∧ w1.cell? ⟨w.heap.size, 3, none⟩ = some (.slice q n cap) ∧ w1.cell? ⟨w.heap.size, 4, none⟩ = some (.int .i64 t) ∧ w1.cell? ⟨w.heap.size, 5, none⟩ = some (.bool ok)) := fun w1 hb => by
    have k : ∀ j, w1.cell? ⟨w.heap.size, j, none⟩ = WF.cell? ⟨w.heap.size, j, none⟩ := fun j => World.cell?_of_block (w := WF) (hb.block w.heap.size (by omega))
    simp only [k]; exact C0
  have k3 : (t == 3) = false := by simpa using h3
  have hm : min t 2 = t := by omega
  have em : makeC 3 a b c ps t = [⟨4, nextA (min t 2) a, nextB (min t 2) b, nextC (min t 2) c, []⟩] := by simp [makeC, h3, hm]
  obtain ⟨x, hx⟩ : ∃ x, x = nextA (min t 2) a := ⟨_, rfl⟩
  obtain ⟨y, hy⟩ : ∃ x, x = nextB (min t 2) b := ⟨_, rfl⟩
  obtain ⟨z, hz⟩ : ∃ x, x = nextC (min t 2) c := ⟨_, rfl⟩
  rw [em, ← hx, ← hy, ← hz]
  have HF : Hid (∀ w1, Below WF.heap.size WF w1 → Calls Tryz.prog 237 #[.agg #[.int .i64 a, .int .i64 b, .int .i64 c, .slice q n cap, .int .i64 t, .bool ok]] w1 fun e w' => e = .returned (.agg #[.int .i64 4, .int .i64 a, .int .i64 b, .int .i64 c, .slice q n cap]) ∧ Below w1.heap.size w1 w' ∧ Below WF.heap.size WF w' ∧ w'.cell? ⟨w.heap.size, 0, none⟩ = some (.int .i64 a) ∧ w'.cell? ⟨w.heap.size, 1, none⟩ = some (.int .i64 b) ∧ w'.cell? ⟨w.heap.size, 2, none⟩ = some (.int .i64 c) ∧ w'.cell? ⟨w.heap.size, 3, none⟩ = some (.slice q n cap) ∧ w'.cell? ⟨w.heap.size, 4, none⟩ = some (.int .i64 t) ∧ w'.cell? ⟨w.heap.size, 5, none⟩ = some (.bool ok)) := fun w1 hb => (l4From_c a b c _ t ok w1 ⟨_, _, _, rfl⟩).mono (fun e w' ⟨h1, h2⟩ => ⟨h1, h2, hb.trans (h2.mono hb.size), KEEP.out w' (hb.trans (h2.mono hb.size))⟩)
  have HN : Hid (∀ w1, Below WF.heap.size WF w1 → Calls Tryz.prog 241 #[.agg #[.int .i64 a, .int .i64 b, .int .i64 c, .slice q n cap, .int .i64 t, .bool ok]] w1 fun e w' => e = .returned (.agg #[.int .i64 x, .int .i64 y, .int .i64 z, .slice none 0 0]) ∧ Below w1.heap.size w1 w' ∧ Below WF.heap.size WF w' ∧ w'.cell? ⟨w.heap.size, 0, none⟩ = some (.int .i64 a) ∧ w'.cell? ⟨w.heap.size, 1, none⟩ = some (.int .i64 b) ∧ w'.cell? ⟨w.heap.size, 2, none⟩ = some (.int .i64 c) ∧ w'.cell? ⟨w.heap.size, 3, none⟩ = some (.slice q n cap) ∧ w'.cell? ⟨w.heap.size, 4, none⟩ = some (.int .i64 t) ∧ w'.cell? ⟨w.heap.size, 5, none⟩ = some (.bool ok)) := fun w1 hb => (l4Next_c a b c _ t ok hnum ht w1 ⟨_, _, _, rfl⟩).mono (fun e w' ⟨h1, h2⟩ => ⟨by rw [h1, ← hx, ← hy, ← hz], h2, hb.trans (h2.mono hb.size), KEEP.out w' (hb.trans (h2.mono hb.size))⟩)
  have HB : Hid (∀ w1, Below WF.heap.size WF w1 → Calls Tryz.prog 238 #[.agg #[.int .i64 x, .int .i64 y, .int .i64 z, .slice none 0 0]] w1 fun e w' => ∃ g, e = .returned (.agg #[.int .i64 1, .int .i64 x, .int .i64 y, .int .i64 z, .slice (some ⟨g, 0, none⟩) 1 1]) ∧ w'.ownsRow WF.heap.size 9 1 (.slice (some ⟨g, 0, none⟩) 1 1) 1 (strsV [zeroT]) ∧ Below WF.heap.size WF w' ∧ w'.cell? ⟨w.heap.size, 0, none⟩ = some (.int .i64 a) ∧ w'.cell? ⟨w.heap.size, 1, none⟩ = some (.int .i64 b) ∧ w'.cell? ⟨w.heap.size, 2, none⟩ = some (.int .i64 c) ∧ w'.cell? ⟨w.heap.size, 3, none⟩ = some (.slice q n cap) ∧ w'.cell? ⟨w.heap.size, 4, none⟩ = some (.int .i64 t) ∧ w'.cell? ⟨w.heap.size, 5, none⟩ = some (.bool ok)) := fun w1 hb => (l4Below_c x y z _ w1 ⟨_, _, _, rfl⟩).mono (fun e w' ⟨g, h1, h2, h3⟩ => ⟨g, h1, owns_base h2 hb.size, hb.trans (h3.mono hb.size), KEEP.out w' (hb.trans (h3.mono hb.size))⟩)
  have hd0 : Below WF.heap.size WF WF := Below.refl _ _
  obtain ⟨c0, c1, c2, c3, c4, c5⟩ := C0
  clear em hnum ht KEEP hx hy hz hm h3
  go_enter Tryz.func208, Tryz.ntmps208
  go_wp2_with (first
    | (go_at_call 241; rw [← hWFd]; refine (HN.out _ ?_).mono ?_; · assumption
       rintro e wN ⟨rfl, bN, BN, ⟨c0, c1, c2, c3, c4, c5⟩⟩))
  go_ret
  have hx := hWF.trans (BN.mono hWF.size)
  exact ⟨_, rfl, one_own ⟨4, x, y, z, []⟩ (by simp) (Nat.le_trans hlo hx.size) (owns_nil _ _), hx.alloc hx.size _⟩

set_option maxHeartbeats 8000000 in
set_option maxRecDepth 100000 in
theorem mk_le3 (lo : Nat) (a b c : Int) (u : Value) (ps : List ByteArray) (t : Int) (ok : Bool) (w : World) (hlo : lo ≤ w.heap.size) (hnum : numsOk a b c) (ht : t = 1 ∨ t = 2 ∨ t = 3) (h3 : t = 3) (hu : w.ownsRow lo 9 1 u ps.length (strsV ps)) :
    Calls Tryz.prog 208 #[.string ⟨#[60, 61]⟩, .agg #[.int .i64 a, .int .i64 b, .int .i64 c, u, .int .i64 t, .bool ok]] w fun e w' => ∃ v, e = .returned v ∧ CmpsOwn lo w' v (makeC 2 a b c ps t) ∧ Below w.heap.size w w' := by
  obtain ⟨q, n, cap, hq⟩ : ∃ q n cap, u = .slice q n cap := by rcases hu.2 with ⟨rfl, _⟩ | ⟨g, cap, cur, rfl, _⟩ <;> exact ⟨_, _, _, rfl⟩
  subst hq
  have hWF : Below w.heap.size w (w.alloc (.cells #[.int .i64 a, .int .i64 b, .int .i64 c, .slice q n cap, .int .i64 t, .bool ok] 232)) := (Below.refl _ _).alloc (Nat.le_refl _) _
  have C0 : (w.alloc (.cells #[.int .i64 a, .int .i64 b, .int .i64 c, .slice q n cap, .int .i64 t, .bool ok] 232)).cell? ⟨w.heap.size, 0, none⟩ = some (.int .i64 a) ∧ (w.alloc (.cells #[.int .i64 a, .int .i64 b, .int .i64 c, .slice q n cap, .int .i64 t, .bool ok] 232)).cell? ⟨w.heap.size, 1, none⟩ = some (.int .i64 b) ∧ (w.alloc (.cells #[.int .i64 a, .int .i64 b, .int .i64 c, .slice q n cap, .int .i64 t, .bool ok] 232)).cell? ⟨w.heap.size, 2, none⟩ = some (.int .i64 c) ∧ (w.alloc (.cells #[.int .i64 a, .int .i64 b, .int .i64 c, .slice q n cap, .int .i64 t, .bool ok] 232)).cell? ⟨w.heap.size, 3, none⟩ = some (.slice q n cap) ∧ (w.alloc (.cells #[.int .i64 a, .int .i64 b, .int .i64 c, .slice q n cap, .int .i64 t, .bool ok] 232)).cell? ⟨w.heap.size, 4, none⟩ = some (.int .i64 t) ∧ (w.alloc (.cells #[.int .i64 a, .int .i64 b, .int .i64 c, .slice q n cap, .int .i64 t, .bool ok] 232)).cell? ⟨w.heap.size, 5, none⟩ = some (.bool ok) := by
    have h := vheap_new w (.cells #[.int .i64 a, .int .i64 b, .int .i64 c, .slice q n cap, .int .i64 t, .bool ok] 232)
    exact ⟨vblk_cell h 0, vblk_cell h 1, vblk_cell h 2, vblk_cell h 3, vblk_cell h 4, vblk_cell h 5⟩
  have hs1 : (w.alloc (.cells #[.int .i64 a, .int .i64 b, .int .i64 c, .slice q n cap, .int .i64 t, .bool ok] 232)).heap.size = w.heap.size + 1 := by simp
  have hap : ∀ g (w1 : World) base, w.heap.size ≤ base → w1.ownsRow base 9 1 (.slice (some ⟨g, 0, none⟩) 1 1) 1 (strsV [zeroT]) → Value.ownBlock (.slice q n cap) = Value.ownBlock (.slice (some ⟨g, 0, none⟩) 1 1) → Value.ownBlock (.slice q n cap) = none := fun g w1 base hb og he => by
    cases hk : Value.ownBlock (.slice q n cap) with
    | none => rfl
    | some k =>
      have h1 := (hu.lt k hk).2
      rw [he] at hk
      have h2 := (og.lt k hk).1
      omega
  obtain ⟨WF, hWFd⟩ : ∃ x, x = w.alloc (.cells #[.int .i64 a, .int .i64 b, .int .i64 c, .slice q n cap, .int .i64 t, .bool ok] 232) := ⟨_, rfl⟩
  rw [← hWFd] at hWF C0 hs1
  have KEEP : Hid (∀ w1, Below WF.heap.size WF w1 → w1.cell? ⟨w.heap.size, 0, none⟩ = some (.int .i64 a) ∧ w1.cell? ⟨w.heap.size, 1, none⟩ = some (.int .i64 b) ∧ w1.cell? ⟨w.heap.size, 2, none⟩ = some (.int .i64 c) ∧ w1.cell? ⟨w.heap.size, 3, none⟩ = some (.slice q n cap) ∧ w1.cell? ⟨w.heap.size, 4, none⟩ = some (.int .i64 t) ∧ w1.cell? ⟨w.heap.size, 5, none⟩ = some (.bool ok)) := fun w1 hb => by
    have k : ∀ j, w1.cell? ⟨w.heap.size, j, none⟩ = WF.cell? ⟨w.heap.size, j, none⟩ := fun j => World.cell?_of_block (w := WF) (hb.block w.heap.size (by omega))
    simp only [k]; exact C0
  have k3 : (t == 3) = true := by simpa using h3
  have em : makeC 2 a b c ps t = [⟨2, a, b, c, ps⟩] := by simp [makeC, h3]
  rw [em]
  have hd0 : Below WF.heap.size WF WF := Below.refl _ _
  subst hWFd
  clear em hnum ht KEEP h3 C0
  go_enter Tryz.func208, Tryz.ntmps208
  go_wp2_with fail
  go_ret
  exact ⟨_, rfl, one_own ⟨2, a, b, c, ps⟩ (by simp) (Nat.le_trans hlo hWF.size) (owns_of_below hu hWF), hWF.alloc hWF.size _⟩

set_option maxHeartbeats 8000000 in
set_option maxRecDepth 100000 in
theorem mk_le (lo : Nat) (a b c : Int) (u : Value) (ps : List ByteArray) (t : Int) (ok : Bool) (w : World) (hlo : lo ≤ w.heap.size) (hnum : numsOk a b c) (ht : t = 1 ∨ t = 2 ∨ t = 3) (h3 : ¬ t = 3) (hu : w.ownsRow lo 9 1 u ps.length (strsV ps)) :
    Calls Tryz.prog 208 #[.string ⟨#[60, 61]⟩, .agg #[.int .i64 a, .int .i64 b, .int .i64 c, u, .int .i64 t, .bool ok]] w fun e w' => ∃ v, e = .returned v ∧ CmpsOwn lo w' v (makeC 2 a b c ps t) ∧ Below w.heap.size w w' := by
  obtain ⟨q, n, cap, hq⟩ : ∃ q n cap, u = .slice q n cap := by rcases hu.2 with ⟨rfl, _⟩ | ⟨g, cap, cur, rfl, _⟩ <;> exact ⟨_, _, _, rfl⟩
  subst hq
  have hWF : Below w.heap.size w (w.alloc (.cells #[.int .i64 a, .int .i64 b, .int .i64 c, .slice q n cap, .int .i64 t, .bool ok] 232)) := (Below.refl _ _).alloc (Nat.le_refl _) _
  have C0 : (w.alloc (.cells #[.int .i64 a, .int .i64 b, .int .i64 c, .slice q n cap, .int .i64 t, .bool ok] 232)).cell? ⟨w.heap.size, 0, none⟩ = some (.int .i64 a) ∧ (w.alloc (.cells #[.int .i64 a, .int .i64 b, .int .i64 c, .slice q n cap, .int .i64 t, .bool ok] 232)).cell? ⟨w.heap.size, 1, none⟩ = some (.int .i64 b) ∧ (w.alloc (.cells #[.int .i64 a, .int .i64 b, .int .i64 c, .slice q n cap, .int .i64 t, .bool ok] 232)).cell? ⟨w.heap.size, 2, none⟩ = some (.int .i64 c) ∧ (w.alloc (.cells #[.int .i64 a, .int .i64 b, .int .i64 c, .slice q n cap, .int .i64 t, .bool ok] 232)).cell? ⟨w.heap.size, 3, none⟩ = some (.slice q n cap) ∧ (w.alloc (.cells #[.int .i64 a, .int .i64 b, .int .i64 c, .slice q n cap, .int .i64 t, .bool ok] 232)).cell? ⟨w.heap.size, 4, none⟩ = some (.int .i64 t) ∧ (w.alloc (.cells #[.int .i64 a, .int .i64 b, .int .i64 c, .slice q n cap, .int .i64 t, .bool ok] 232)).cell? ⟨w.heap.size, 5, none⟩ = some (.bool ok) := by
    have h := vheap_new w (.cells #[.int .i64 a, .int .i64 b, .int .i64 c, .slice q n cap, .int .i64 t, .bool ok] 232)
    exact ⟨vblk_cell h 0, vblk_cell h 1, vblk_cell h 2, vblk_cell h 3, vblk_cell h 4, vblk_cell h 5⟩
  have hs1 : (w.alloc (.cells #[.int .i64 a, .int .i64 b, .int .i64 c, .slice q n cap, .int .i64 t, .bool ok] 232)).heap.size = w.heap.size + 1 := by simp
  have hap : ∀ g (w1 : World) base, w.heap.size ≤ base → w1.ownsRow base 9 1 (.slice (some ⟨g, 0, none⟩) 1 1) 1 (strsV [zeroT]) → Value.ownBlock (.slice q n cap) = Value.ownBlock (.slice (some ⟨g, 0, none⟩) 1 1) → Value.ownBlock (.slice q n cap) = none := fun g w1 base hb og he => by
    cases hk : Value.ownBlock (.slice q n cap) with
    | none => rfl
    | some k =>
      have h1 := (hu.lt k hk).2
      rw [he] at hk
      have h2 := (og.lt k hk).1
      omega
  obtain ⟨WF, hWFd⟩ : ∃ x, x = w.alloc (.cells #[.int .i64 a, .int .i64 b, .int .i64 c, .slice q n cap, .int .i64 t, .bool ok] 232) := ⟨_, rfl⟩
  rw [← hWFd] at hWF C0 hs1
  have KEEP : Hid (∀ w1, Below WF.heap.size WF w1 → w1.cell? ⟨w.heap.size, 0, none⟩ = some (.int .i64 a) ∧ w1.cell? ⟨w.heap.size, 1, none⟩ = some (.int .i64 b) ∧ w1.cell? ⟨w.heap.size, 2, none⟩ = some (.int .i64 c) ∧ w1.cell? ⟨w.heap.size, 3, none⟩ = some (.slice q n cap) ∧ w1.cell? ⟨w.heap.size, 4, none⟩ = some (.int .i64 t) ∧ w1.cell? ⟨w.heap.size, 5, none⟩ = some (.bool ok)) := fun w1 hb => by
    have k : ∀ j, w1.cell? ⟨w.heap.size, j, none⟩ = WF.cell? ⟨w.heap.size, j, none⟩ := fun j => World.cell?_of_block (w := WF) (hb.block w.heap.size (by omega))
    simp only [k]; exact C0
  have k3 : (t == 3) = false := by simpa using h3
  have hm : min t 2 = t := by omega
  have em : makeC 2 a b c ps t = [⟨1, nextA (min t 2) a, nextB (min t 2) b, nextC (min t 2) c, [zeroT]⟩] := by simp [makeC, h3, hm]
  obtain ⟨x, hx⟩ : ∃ x, x = nextA (min t 2) a := ⟨_, rfl⟩
  obtain ⟨y, hy⟩ : ∃ x, x = nextB (min t 2) b := ⟨_, rfl⟩
  obtain ⟨z, hz⟩ : ∃ x, x = nextC (min t 2) c := ⟨_, rfl⟩
  rw [em, ← hx, ← hy, ← hz]
  have HF : Hid (∀ w1, Below WF.heap.size WF w1 → Calls Tryz.prog 237 #[.agg #[.int .i64 a, .int .i64 b, .int .i64 c, .slice q n cap, .int .i64 t, .bool ok]] w1 fun e w' => e = .returned (.agg #[.int .i64 4, .int .i64 a, .int .i64 b, .int .i64 c, .slice q n cap]) ∧ Below w1.heap.size w1 w' ∧ Below WF.heap.size WF w' ∧ w'.cell? ⟨w.heap.size, 0, none⟩ = some (.int .i64 a) ∧ w'.cell? ⟨w.heap.size, 1, none⟩ = some (.int .i64 b) ∧ w'.cell? ⟨w.heap.size, 2, none⟩ = some (.int .i64 c) ∧ w'.cell? ⟨w.heap.size, 3, none⟩ = some (.slice q n cap) ∧ w'.cell? ⟨w.heap.size, 4, none⟩ = some (.int .i64 t) ∧ w'.cell? ⟨w.heap.size, 5, none⟩ = some (.bool ok)) := fun w1 hb => (l4From_c a b c _ t ok w1 ⟨_, _, _, rfl⟩).mono (fun e w' ⟨h1, h2⟩ => ⟨h1, h2, hb.trans (h2.mono hb.size), KEEP.out w' (hb.trans (h2.mono hb.size))⟩)
  have HN : Hid (∀ w1, Below WF.heap.size WF w1 → Calls Tryz.prog 241 #[.agg #[.int .i64 a, .int .i64 b, .int .i64 c, .slice q n cap, .int .i64 t, .bool ok]] w1 fun e w' => e = .returned (.agg #[.int .i64 x, .int .i64 y, .int .i64 z, .slice none 0 0]) ∧ Below w1.heap.size w1 w' ∧ Below WF.heap.size WF w' ∧ w'.cell? ⟨w.heap.size, 0, none⟩ = some (.int .i64 a) ∧ w'.cell? ⟨w.heap.size, 1, none⟩ = some (.int .i64 b) ∧ w'.cell? ⟨w.heap.size, 2, none⟩ = some (.int .i64 c) ∧ w'.cell? ⟨w.heap.size, 3, none⟩ = some (.slice q n cap) ∧ w'.cell? ⟨w.heap.size, 4, none⟩ = some (.int .i64 t) ∧ w'.cell? ⟨w.heap.size, 5, none⟩ = some (.bool ok)) := fun w1 hb => (l4Next_c a b c _ t ok hnum ht w1 ⟨_, _, _, rfl⟩).mono (fun e w' ⟨h1, h2⟩ => ⟨by rw [h1, ← hx, ← hy, ← hz], h2, hb.trans (h2.mono hb.size), KEEP.out w' (hb.trans (h2.mono hb.size))⟩)
  have HB : Hid (∀ w1, Below WF.heap.size WF w1 → Calls Tryz.prog 238 #[.agg #[.int .i64 x, .int .i64 y, .int .i64 z, .slice none 0 0]] w1 fun e w' => ∃ g, e = .returned (.agg #[.int .i64 1, .int .i64 x, .int .i64 y, .int .i64 z, .slice (some ⟨g, 0, none⟩) 1 1]) ∧ w'.ownsRow WF.heap.size 9 1 (.slice (some ⟨g, 0, none⟩) 1 1) 1 (strsV [zeroT]) ∧ Below WF.heap.size WF w' ∧ w'.cell? ⟨w.heap.size, 0, none⟩ = some (.int .i64 a) ∧ w'.cell? ⟨w.heap.size, 1, none⟩ = some (.int .i64 b) ∧ w'.cell? ⟨w.heap.size, 2, none⟩ = some (.int .i64 c) ∧ w'.cell? ⟨w.heap.size, 3, none⟩ = some (.slice q n cap) ∧ w'.cell? ⟨w.heap.size, 4, none⟩ = some (.int .i64 t) ∧ w'.cell? ⟨w.heap.size, 5, none⟩ = some (.bool ok)) := fun w1 hb => (l4Below_c x y z _ w1 ⟨_, _, _, rfl⟩).mono (fun e w' ⟨g, h1, h2, h3⟩ => ⟨g, h1, owns_base h2 hb.size, hb.trans (h3.mono hb.size), KEEP.out w' (hb.trans (h3.mono hb.size))⟩)
  have hd0 : Below WF.heap.size WF WF := Below.refl _ _
  obtain ⟨c0, c1, c2, c3, c4, c5⟩ := C0
  clear em hnum ht KEEP hx hy hz hm h3
  go_enter Tryz.func208, Tryz.ntmps208
  go_wp2_with (first
    | (go_at_call 241; rw [← hWFd]; refine (HN.out _ ?_).mono ?_; · assumption
       rintro e wN ⟨rfl, bN, BN, ⟨c0, c1, c2, c3, c4, c5⟩⟩)
    | (go_at_call 238; refine (HB.out _ ?_).mono ?_; · assumption
       rintro e wB ⟨g, rfl, og, BB, ⟨c0, c1, c2, c3, c4, c5⟩⟩))
  go_ret
  have hx := hWF.trans (BB.mono hWF.size)
  exact ⟨_, rfl, one_own ⟨1, x, y, z, [zeroT]⟩ (by simp) (Nat.le_trans hlo hx.size) (owns_base og (Nat.le_trans hlo hWF.size)), hx.alloc hx.size _⟩

set_option maxHeartbeats 8000000 in
set_option maxRecDepth 100000 in
theorem mk_eq3 (lo : Nat) (a b c : Int) (u : Value) (ps : List ByteArray) (t : Int) (ok : Bool) (w : World) (hlo : lo ≤ w.heap.size) (hnum : numsOk a b c) (ht : t = 1 ∨ t = 2 ∨ t = 3) (h3 : t = 3) (hu : w.ownsRow lo 9 1 u ps.length (strsV ps)) :
    Calls Tryz.prog 208 #[.string ⟨#[61]⟩, .agg #[.int .i64 a, .int .i64 b, .int .i64 c, u, .int .i64 t, .bool ok]] w fun e w' => ∃ v, e = .returned v ∧ CmpsOwn lo w' v (makeC 0 a b c ps t) ∧ Below w.heap.size w w' := by
  obtain ⟨q, n, cap, hq⟩ : ∃ q n cap, u = .slice q n cap := by rcases hu.2 with ⟨rfl, _⟩ | ⟨g, cap, cur, rfl, _⟩ <;> exact ⟨_, _, _, rfl⟩
  subst hq
  have hWF : Below w.heap.size w (w.alloc (.cells #[.int .i64 a, .int .i64 b, .int .i64 c, .slice q n cap, .int .i64 t, .bool ok] 232)) := (Below.refl _ _).alloc (Nat.le_refl _) _
  have C0 : (w.alloc (.cells #[.int .i64 a, .int .i64 b, .int .i64 c, .slice q n cap, .int .i64 t, .bool ok] 232)).cell? ⟨w.heap.size, 0, none⟩ = some (.int .i64 a) ∧ (w.alloc (.cells #[.int .i64 a, .int .i64 b, .int .i64 c, .slice q n cap, .int .i64 t, .bool ok] 232)).cell? ⟨w.heap.size, 1, none⟩ = some (.int .i64 b) ∧ (w.alloc (.cells #[.int .i64 a, .int .i64 b, .int .i64 c, .slice q n cap, .int .i64 t, .bool ok] 232)).cell? ⟨w.heap.size, 2, none⟩ = some (.int .i64 c) ∧ (w.alloc (.cells #[.int .i64 a, .int .i64 b, .int .i64 c, .slice q n cap, .int .i64 t, .bool ok] 232)).cell? ⟨w.heap.size, 3, none⟩ = some (.slice q n cap) ∧ (w.alloc (.cells #[.int .i64 a, .int .i64 b, .int .i64 c, .slice q n cap, .int .i64 t, .bool ok] 232)).cell? ⟨w.heap.size, 4, none⟩ = some (.int .i64 t) ∧ (w.alloc (.cells #[.int .i64 a, .int .i64 b, .int .i64 c, .slice q n cap, .int .i64 t, .bool ok] 232)).cell? ⟨w.heap.size, 5, none⟩ = some (.bool ok) := by
    have h := vheap_new w (.cells #[.int .i64 a, .int .i64 b, .int .i64 c, .slice q n cap, .int .i64 t, .bool ok] 232)
    exact ⟨vblk_cell h 0, vblk_cell h 1, vblk_cell h 2, vblk_cell h 3, vblk_cell h 4, vblk_cell h 5⟩
  have hs1 : (w.alloc (.cells #[.int .i64 a, .int .i64 b, .int .i64 c, .slice q n cap, .int .i64 t, .bool ok] 232)).heap.size = w.heap.size + 1 := by simp
  have hap : ∀ g (w1 : World) base, w.heap.size ≤ base → w1.ownsRow base 9 1 (.slice (some ⟨g, 0, none⟩) 1 1) 1 (strsV [zeroT]) → Value.ownBlock (.slice q n cap) = Value.ownBlock (.slice (some ⟨g, 0, none⟩) 1 1) → Value.ownBlock (.slice q n cap) = none := fun g w1 base hb og he => by
    cases hk : Value.ownBlock (.slice q n cap) with
    | none => rfl
    | some k =>
      have h1 := (hu.lt k hk).2
      rw [he] at hk
      have h2 := (og.lt k hk).1
      omega
  obtain ⟨WF, hWFd⟩ : ∃ x, x = w.alloc (.cells #[.int .i64 a, .int .i64 b, .int .i64 c, .slice q n cap, .int .i64 t, .bool ok] 232) := ⟨_, rfl⟩
  rw [← hWFd] at hWF C0 hs1
  have KEEP : Hid (∀ w1, Below WF.heap.size WF w1 → w1.cell? ⟨w.heap.size, 0, none⟩ = some (.int .i64 a) ∧ w1.cell? ⟨w.heap.size, 1, none⟩ = some (.int .i64 b) ∧ w1.cell? ⟨w.heap.size, 2, none⟩ = some (.int .i64 c) ∧ w1.cell? ⟨w.heap.size, 3, none⟩ = some (.slice q n cap) ∧ w1.cell? ⟨w.heap.size, 4, none⟩ = some (.int .i64 t) ∧ w1.cell? ⟨w.heap.size, 5, none⟩ = some (.bool ok)) := fun w1 hb => by
    have k : ∀ j, w1.cell? ⟨w.heap.size, j, none⟩ = WF.cell? ⟨w.heap.size, j, none⟩ := fun j => World.cell?_of_block (w := WF) (hb.block w.heap.size (by omega))
    simp only [k]; exact C0
  have k3 : (t == 3) = true := by simpa using h3
  have em : makeC 0 a b c ps t = [⟨0, a, b, c, ps⟩] := by simp [makeC, h3]
  rw [em]
  have hd0 : Below WF.heap.size WF WF := Below.refl _ _
  subst hWFd
  clear em hnum ht KEEP h3 C0
  go_enter Tryz.func208, Tryz.ntmps208
  go_wp2_with fail
  go_ret
  exact ⟨_, rfl, one_own ⟨0, a, b, c, ps⟩ (by simp) (Nat.le_trans hlo hWF.size) (owns_of_below hu hWF), hWF.alloc hWF.size _⟩

set_option maxHeartbeats 8000000 in
set_option maxRecDepth 100000 in
theorem mk_no3 (lo : Nat) (a b c : Int) (u : Value) (ps : List ByteArray) (t : Int) (ok : Bool) (w : World) (hlo : lo ≤ w.heap.size) (hnum : numsOk a b c) (ht : t = 1 ∨ t = 2 ∨ t = 3) (h3 : t = 3) (hu : w.ownsRow lo 9 1 u ps.length (strsV ps)) :
    Calls Tryz.prog 208 #[.string ⟨#[]⟩, .agg #[.int .i64 a, .int .i64 b, .int .i64 c, u, .int .i64 t, .bool ok]] w fun e w' => ∃ v, e = .returned v ∧ CmpsOwn lo w' v (makeC 0 a b c ps t) ∧ Below w.heap.size w w' := by
  obtain ⟨q, n, cap, hq⟩ : ∃ q n cap, u = .slice q n cap := by rcases hu.2 with ⟨rfl, _⟩ | ⟨g, cap, cur, rfl, _⟩ <;> exact ⟨_, _, _, rfl⟩
  subst hq
  have hWF : Below w.heap.size w (w.alloc (.cells #[.int .i64 a, .int .i64 b, .int .i64 c, .slice q n cap, .int .i64 t, .bool ok] 232)) := (Below.refl _ _).alloc (Nat.le_refl _) _
  have C0 : (w.alloc (.cells #[.int .i64 a, .int .i64 b, .int .i64 c, .slice q n cap, .int .i64 t, .bool ok] 232)).cell? ⟨w.heap.size, 0, none⟩ = some (.int .i64 a) ∧ (w.alloc (.cells #[.int .i64 a, .int .i64 b, .int .i64 c, .slice q n cap, .int .i64 t, .bool ok] 232)).cell? ⟨w.heap.size, 1, none⟩ = some (.int .i64 b) ∧ (w.alloc (.cells #[.int .i64 a, .int .i64 b, .int .i64 c, .slice q n cap, .int .i64 t, .bool ok] 232)).cell? ⟨w.heap.size, 2, none⟩ = some (.int .i64 c) ∧ (w.alloc (.cells #[.int .i64 a, .int .i64 b, .int .i64 c, .slice q n cap, .int .i64 t, .bool ok] 232)).cell? ⟨w.heap.size, 3, none⟩ = some (.slice q n cap) ∧ (w.alloc (.cells #[.int .i64 a, .int .i64 b, .int .i64 c, .slice q n cap, .int .i64 t, .bool ok] 232)).cell? ⟨w.heap.size, 4, none⟩ = some (.int .i64 t) ∧ (w.alloc (.cells #[.int .i64 a, .int .i64 b, .int .i64 c, .slice q n cap, .int .i64 t, .bool ok] 232)).cell? ⟨w.heap.size, 5, none⟩ = some (.bool ok) := by
    have h := vheap_new w (.cells #[.int .i64 a, .int .i64 b, .int .i64 c, .slice q n cap, .int .i64 t, .bool ok] 232)
    exact ⟨vblk_cell h 0, vblk_cell h 1, vblk_cell h 2, vblk_cell h 3, vblk_cell h 4, vblk_cell h 5⟩
  have hs1 : (w.alloc (.cells #[.int .i64 a, .int .i64 b, .int .i64 c, .slice q n cap, .int .i64 t, .bool ok] 232)).heap.size = w.heap.size + 1 := by simp
  have hap : ∀ g (w1 : World) base, w.heap.size ≤ base → w1.ownsRow base 9 1 (.slice (some ⟨g, 0, none⟩) 1 1) 1 (strsV [zeroT]) → Value.ownBlock (.slice q n cap) = Value.ownBlock (.slice (some ⟨g, 0, none⟩) 1 1) → Value.ownBlock (.slice q n cap) = none := fun g w1 base hb og he => by
    cases hk : Value.ownBlock (.slice q n cap) with
    | none => rfl
    | some k =>
      have h1 := (hu.lt k hk).2
      rw [he] at hk
      have h2 := (og.lt k hk).1
      omega
  obtain ⟨WF, hWFd⟩ : ∃ x, x = w.alloc (.cells #[.int .i64 a, .int .i64 b, .int .i64 c, .slice q n cap, .int .i64 t, .bool ok] 232) := ⟨_, rfl⟩
  rw [← hWFd] at hWF C0 hs1
  have KEEP : Hid (∀ w1, Below WF.heap.size WF w1 → w1.cell? ⟨w.heap.size, 0, none⟩ = some (.int .i64 a) ∧ w1.cell? ⟨w.heap.size, 1, none⟩ = some (.int .i64 b) ∧ w1.cell? ⟨w.heap.size, 2, none⟩ = some (.int .i64 c) ∧ w1.cell? ⟨w.heap.size, 3, none⟩ = some (.slice q n cap) ∧ w1.cell? ⟨w.heap.size, 4, none⟩ = some (.int .i64 t) ∧ w1.cell? ⟨w.heap.size, 5, none⟩ = some (.bool ok)) := fun w1 hb => by
    have k : ∀ j, w1.cell? ⟨w.heap.size, j, none⟩ = WF.cell? ⟨w.heap.size, j, none⟩ := fun j => World.cell?_of_block (w := WF) (hb.block w.heap.size (by omega))
    simp only [k]; exact C0
  have k3 : (t == 3) = true := by simpa using h3
  have em : makeC 0 a b c ps t = [⟨0, a, b, c, ps⟩] := by simp [makeC, h3]
  rw [em]
  have hd0 : Below WF.heap.size WF WF := Below.refl _ _
  subst hWFd
  clear em hnum ht KEEP h3 C0
  go_enter Tryz.func208, Tryz.ntmps208
  go_wp2_with fail
  go_ret
  exact ⟨_, rfl, one_own ⟨0, a, b, c, ps⟩ (by simp) (Nat.le_trans hlo hWF.size) (owns_of_below hu hWF), hWF.alloc hWF.size _⟩

end Go.Proofs.YtkijckpkojcdcaaGreatDoor
