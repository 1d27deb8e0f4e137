/-
  Facts on digits, on what is split and joined, and on what is sorted: the digits of a number tell that number, what is split comes back joined, and what is sorted stays when it is sorted anew; no condition but that a byte is a byte.
-/
import Derived.Test.YthapeknfhlpadaaDoorNumTextA
import Derived.Test.YthapeknfhlpadaaDoorNum
import Derived.Test.YthapeknfhlpadaaDoorSplitB
import Derived.Test.YthapeknfhlpadaaDoorJoinA
import Derived.Test.YthapeknfhlpadaaDoorSortB
namespace Go.Proofs.YthapeknfhlpadaaDoor
open Go.RowKit
set_option linter.unusedSimpArgs false
set_option linter.unusedVariables false

theorem numUpto_congr (s t : ByteArray) : ∀ k, (∀ j, j < k → s.data[j]! = t.data[j]!) → numUpto s k = numUpto t k
  | 0, _ => rfl
  | k + 1, h => by rw [numUpto, numUpto, numUpto_congr s t k (fun j hj => h j (by omega)), h k (by omega)]
theorem allUpto_congr (p : Nat → Int → Bool) (s t : ByteArray) : ∀ k, (∀ j, j < k → s.data[j]! = t.data[j]!) → allUpto p s k = allUpto p t k
  | 0, _ => rfl
  | k + 1, h => by rw [allUpto, allUpto, allUpto_congr p s t k (fun j hj => h j (by omega)), h k (by omega)]

theorem numStr_size (n : Nat) : (numStr n).size = (Lib.decDigits n).length := by
  show (Lib.decDigits n).toArray.size = _
  simp
theorem numStr_at (n j : Nat) (h : j < (Lib.decDigits n).length) : (numStr n).data[j]! = (Lib.decDigits n)[j] := by
  show (Lib.decDigits n).toArray[j]! = _
  rw [getElem!_pos _ j (by simpa using h)]
  simp
theorem dec_step {n : Nat} (h : ¬ n < 10) : Lib.decDigits n = Lib.decDigits (n / 10) ++ [UInt8.ofNat (48 + n % 10)] := by
  conv => lhs; rw [Lib.decDigits, dif_neg h]
theorem dec_one {n : Nat} (h : n < 10) : Lib.decDigits n = [UInt8.ofNat (48 + n)] := by
  rw [Lib.decDigits, dif_pos h]
theorem dec_len : ∀ (k n : Nat), n < 10 ^ k → 0 < k → (Lib.decDigits n).length ≤ k
  | 0, _, _, h => by omega
  | k + 1, n, hn, _ => by
    by_cases h : n < 10
    · rw [dec_one h]; simp
    · rw [dec_step h, List.length_append]
      have hk : 0 < k := by
        rcases Nat.eq_zero_or_pos k with e | e
        · subst e; simp at hn; omega
        · exact e
      have hd : n / 10 < 10 ^ k := by
        rw [Nat.pow_succ] at hn
        exact Nat.div_lt_of_lt_mul (by rw [Nat.mul_comm]; exact hn)
      have := dec_len k (n / 10) hd hk
      simp; omega
theorem dec_pos (n : Nat) : 0 < (Lib.decDigits n).length := by
  by_cases h : n < 10
  · rw [dec_one h]; simp
  · rw [dec_step h]; simp
theorem u8_digit (d : Nat) (h : d < 10) : (UInt8.ofNat (48 + d)).toNat = 48 + d := by
  rw [UInt8.toNat_ofNat']
  omega

theorem num_digits : ∀ (f n : Nat), n ≤ f → numUpto (numStr n) (numStr n).size = (n : Int) ∧ allUpto okDigit (numStr n) (numStr n).size = true ∧ (0 < n → ((numStr n).data[0]!).toNat ≠ 48)
  | f, n, hf => by
    by_cases h : n < 10
    · have hs : (numStr n).size = 1 := by rw [numStr_size, dec_one h]; rfl
      have h0 : ((numStr n).data[0]!).toNat = 48 + n := by
        rw [numStr_at n 0 (dec_pos n)]
        simp only [dec_one h, List.getElem_cons_zero]
        exact u8_digit n h
      rw [hs]
      refine ⟨?_, ?_, fun _ => by omega⟩
      · rw [numUpto, numUpto, h0]; omega
      · rw [allUpto, allUpto, h0]; simp [okDigit, digitB]; omega
    · have hdl : (Lib.decDigits n).length = (Lib.decDigits (n / 10)).length + 1 := by rw [dec_step h]; simp
      have hp := dec_pos (n / 10)
      have hlow : ∀ j, j < (Lib.decDigits (n / 10)).length → (numStr n).data[j]! = (numStr (n / 10)).data[j]! := fun j hj => by
        rw [numStr_at n j (by omega), numStr_at (n / 10) j hj]
        simp only [dec_step h]
        rw [List.getElem_append_left hj]
      have hlast : ((numStr n).data[(Lib.decDigits (n / 10)).length]!).toNat = 48 + n % 10 := by
        rw [numStr_at n _ (by omega)]
        simp only [dec_step h]
        rw [List.getElem_append_right (Nat.le_refl _)]
        simp only [Nat.sub_self, List.getElem_cons_zero]
        exact u8_digit _ (by omega)
      match f, hf with
      | 0, hf => omega
      | f + 1, hf =>
        obtain ⟨i1, i2, i3⟩ := num_digits f (n / 10) (by omega)
        rw [numStr_size] at i1 i2 ⊢
        rw [hdl]
        refine ⟨?_, ?_, fun _ => ?_⟩
        · rw [numUpto, numUpto_congr _ _ _ hlow, i1, hlast]; omega
        · rw [allUpto, allUpto_congr _ _ _ _ hlow, i2, hlast]; simp [okDigit, digitB]; omega
        · rw [hlow 0 hp]; exact i3 (by omega)

theorem num_back (n : Nat) (h : n ≤ 65535) : numGood (numStr n) 65535 = true ∧ numOut (numStr n) 65535 = (n : Int) := by
  obtain ⟨h1, h2, h3⟩ := num_digits n n (Nat.le_refl _)
  have hl : (numStr n).size ≤ 5 := by rw [numStr_size]; exact dec_len 5 n (by omega) (by omega)
  have hp : 0 < (numStr n).size := by rw [numStr_size]; exact dec_pos n
  have hg : numGood (numStr n) 65535 = true := by
    refine good_all (in_true hp (by omega)) h2 (fun h => ?_) (by rw [h1]; omega)
    rw [← byteBang _ 0 hp]
    have : 0 < n := by
      rcases Nat.eq_zero_or_pos n with e | e
      · subst e
        rw [numStr_size, dec_one (by omega)] at h
        simp at h
      · exact e
    have := h3 this
    rw [beq_eq_false_iff_ne]
    omega
  exact ⟨hg, by rw [numOut_good hg, h1]⟩
theorem numStr_small (n : Nat) (h : n ≤ 9223372036854775807) : (numStr n).size ≤ 19 := by
  rw [numStr_size]; exact dec_len 19 n (by omega) (by omega)

theorem empty_add (x : ByteArray) : (⟨#[]⟩ : ByteArray) ++ x = x := by
  apply ext_list; simp [ByteArray.data_append]

theorem joinUpto_cons (x : ByteArray) (xs : List ByteArray) (t : ByteArray) : ∀ k, joinUpto (x :: xs) t (k + 2) = x ++ t ++ joinUpto xs t (k + 1)
  | 0 => by simp [joinUpto, empty_add]
  | k + 1 => by
    rw [joinUpto, if_neg (by omega), joinUpto_cons x xs t k]
    conv => rhs; rw [joinUpto, if_neg (by omega)]
    simp [ByteArray.append_assoc]
theorem joinS_cons (x : ByteArray) (xs : List ByteArray) (t : ByteArray) (h : xs ≠ []) : joinS (x :: xs) t = x ++ t ++ joinS xs t := by
  unfold joinS
  cases xs with
  | nil => exact absurd rfl h
  | cons y ys => exact joinUpto_cons x (y :: ys) t ys.length
theorem joinS_one (x t : ByteArray) : joinS [x] t = x := by simp [joinS, joinUpto, empty_add]

theorem splitGo_ne (s : ByteArray) (c : Int) : ∀ n i b, splitGo s c n i b ≠ []
  | 0, i, b => by simp [splitGo]
  | n + 1, i, b => by
    rw [splitGo]
    split
    · simp
    · exact splitGo_ne s c n (i + 1) b

theorem cut_back (s : ByteArray) (b i : Nat) (c : Int) (hb : b ≤ i) (hi : i < s.size) (hc : ((s.data[i]!).toNat : Int) = c) : s.extract b i ++ strOfNums [c] ++ s.extract (i + 1) s.size = s.extract b s.size := by
  apply ext_list
  have e : (strOfNums [c]).data.toList = [s.data[i]!] := by
    rw [strOfNums_data, ← hc]
    simp
  have hlen := len_list s
  simp only [ByteArray.data_append, Array.toList_append, e, extract_list]
  have h1 : s.data.toList.drop i = s.data[i]! :: s.data.toList.drop (i + 1) := by
    have h2 : i < s.data.toList.length := by omega
    rw [List.drop_eq_getElem_cons h2]
    congr 1
    have := bang_list s i hi
    rw [List.getElem?_eq_getElem h2] at this
    exact Option.some.inj this
  have h3 : (s.data.toList.drop b).take (s.size - b) = s.data.toList.drop b := List.take_of_length_le (by simp)
  have h4 : (s.data.toList.drop (i + 1)).take (s.size - (i + 1)) = s.data.toList.drop (i + 1) := List.take_of_length_le (by simp)
  rw [h3, h4, List.append_assoc, List.singleton_append, ← h1]
  have h5 : s.data.toList.drop i = (s.data.toList.drop b).drop (i - b) := by rw [List.drop_drop]; congr 1; omega
  rw [h5, List.take_append_drop]

theorem split_back (s : ByteArray) (c : Int) : ∀ (n i b : Nat), n = s.size - i → b ≤ i → i ≤ s.size → joinS (splitGo s c (s.size - i) i b) (strOfNums [c]) = s.extract b s.size
  | 0, i, b, hn, hb, hi => by
    obtain rfl : i = s.size := by omega
    rw [splitGo_end, joinS_one]
  | n + 1, i, b, hn, hb, hi => by
    have hlt : i < s.size := by omega
    by_cases h : ((s.data[i]!).toNat : Int) = c
    · rw [splitGo_hit s c i b hlt h, joinS_cons _ _ _ (splitGo_ne _ _ _ _ _), split_back s c n (i + 1) (i + 1) (by omega) (Nat.le_refl _) (by omega)]
      exact cut_back s b i c hb hlt h
    · rw [splitGo_miss s c i b hlt h]
      exact split_back s c n (i + 1) b (by omega) (by omega) (by omega)
theorem split_join (s : ByteArray) (c : Int) : joinS (splitS s c) (strOfNums [c]) = s := by
  have := split_back s c s.size 0 0 rfl (Nat.le_refl _) (Nat.zero_le _)
  have e : splitS s c = splitGo s c (s.size - 0) 0 0 := rfl
  rw [e, this]
  apply ext_list
  rw [extract_list, List.drop_zero]
  exact List.take_of_length_le (by rw [len_list]; omega)

theorem extract_size (s : ByteArray) (b i : Nat) (hb : b ≤ i) (hi : i ≤ s.size) : (s.extract b i).size = i - b := by
  rw [← len_list, extract_list]
  have := len_list s
  simp; omega
theorem split_bulk (s : ByteArray) (c : Int) : ∀ (n i b : Nat), n = s.size - i → b ≤ i → i ≤ s.size → bulkS (splitGo s c (s.size - i) i b) = s.size - b + 1
  | 0, i, b, hn, hb, hi => by
    obtain rfl : i = s.size := by omega
    rw [splitGo_end, bulkS]
    simp [extract_size s b s.size hb (Nat.le_refl _)]; omega
  | n + 1, i, b, hn, hb, hi => by
    have hlt : i < s.size := by omega
    by_cases h : ((s.data[i]!).toNat : Int) = c
    · have ih := split_bulk s c n (i + 1) (i + 1) (by omega) (Nat.le_refl _) (by omega)
      rw [splitGo_hit s c i b hlt h]
      unfold bulkS at ih ⊢
      simp only [List.length_cons, List.map_cons, List.sum_cons]
      rw [extract_size s b i hb (by omega)]
      omega
    · rw [splitGo_miss s c i b hlt h]
      exact split_bulk s c n (i + 1) b (by omega) (by omega) (by omega)
theorem splitS_bulk (s : ByteArray) (c : Int) : bulkS (splitS s c) = s.size + 1 := split_bulk s c s.size 0 0 rfl (Nat.le_refl _) (Nat.zero_le _)

theorem sorted_again (ss : List ByteArray) : sortedS (sortedS ss) = sortedS ss :=
  risesS_eq (sortedS_rises _) (sortedS_rises _) (fun x => sortedS_mem _ x)
theorem sum_le_mul (m : Nat) : ∀ (ss : List ByteArray), (∀ s ∈ ss, s.size ≤ m) → (ss.map ByteArray.size).sum ≤ ss.length * m
  | [], _ => by simp
  | s :: ss, h => by
    have h1 := sum_le_mul m ss (fun x hx => h x (List.mem_cons_of_mem _ hx))
    have h2 := h s (List.mem_cons_self ..)
    simp only [List.map_cons, List.sum_cons, List.length_cons, Nat.succ_mul]
    omega
end Go.Proofs.YthapeknfhlpadaaDoor
