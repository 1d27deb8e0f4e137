/-
  A text that the reader takes as a version is the text of that version; no condition.
-/
import Derived.Test.YtdnpfkknnaepoaaDoorVerBk
import Derived.Test.YtdnpfkknnaepoaaDoorVerQ
namespace Go.Proofs.YtdnpfkknnaepoaaDoor
open Go.RowKit
set_option linter.unusedSimpArgs false
set_option linter.unusedVariables false

theorem vempty_add (x : ByteArray) : (⟨#[]⟩ : ByteArray) ++ x = x := by
  apply vext
  simp
theorem vjoinUpto_cons (x : ByteArray) (xs : List ByteArray) (t : ByteArray) : ∀ k, joinUpto (x :: xs) t (k + 2) = x ++ t ++ joinUpto xs t (k + 1)
  | 0 => by
    simp [joinUpto, vempty_add]
  | k + 1 => by
    rw [joinUpto, if_neg (by omega), vjoinUpto_cons x xs t k]
    conv => rhs; rw [joinUpto, if_neg (by omega)]
    simp [List.getD_cons_succ, ByteArray.append_assoc]
theorem vjoinS_cons (x : ByteArray) (xs : List ByteArray) (t : ByteArray) (h : xs ≠ []) : joinS (x :: xs) t = x ++ t ++ joinS xs t := by
  obtain ⟨n, hn⟩ : ∃ n, xs.length = n + 1 := ⟨xs.length - 1, by have := List.length_pos_iff.2 h; omega⟩
  rw [joinS, joinS, List.length_cons, hn]
  exact vjoinUpto_cons x xs t n
theorem vjoinS_one (x t : ByteArray) : joinS [x] t = x := by simp [joinS, joinUpto, vempty_add]
theorem vsplitGo_ne (s : ByteArray) (c : Int) : ∀ n i b, splitGo s c n i b ≠ []
  | 0, i, b => by simp [splitGo]
  | n + 1, i, b => by
    rw [splitGo]
    split
    · simp
    · exact vsplitGo_ne s c n (i + 1) b
theorem vcut_back (s : ByteArray) (b i : Nat) (u : UInt8) (hb : b ≤ i) (hi : i < s.size) (hc : s.data[i]! = u) : s.extract b i ++ ⟨#[u]⟩ ++ s.extract (i + 1) s.size = s.extract b s.size := by
  apply vext
  have hlen := vlen s
  simp only [ByteArray.data_append, Array.toList_append, vextract]
  have h1 : s.data.toList.drop i = s.data[i]! :: s.data.toList.drop (i + 1) := by
    have h2 : i < s.data.toList.length := by omega
    rw [List.drop_eq_getElem_cons h2]
    congr 1
    rw [getElem!_pos s.data i hi]
    rfl
  have h3 : (s.data.toList.drop b).take (s.size - b) = s.data.toList.drop b := List.take_of_length_le (by simp)
  have h4 : (s.data.toList.drop (i + 1)).take (s.size - (i + 1)) = s.data.toList.drop (i + 1) := List.take_of_length_le (by simp)
  rw [h3, h4, List.append_assoc, List.singleton_append, ← hc, ← h1]
  have h5 : s.data.toList.drop i = (s.data.toList.drop b).drop (i - b) := by rw [List.drop_drop]; congr 1; omega
  rw [h5, List.take_append_drop]
theorem byte_of {x : UInt8} {n : Nat} (h : (x.toNat : Int) = (n : Int)) : x = UInt8.ofNat n := by
  have : x.toNat = n := by omega
  rw [← this]; simp
theorem vsplit_back (s : ByteArray) : ∀ (n i b : Nat), n = s.size - i → b ≤ i → i ≤ s.size → joinS (splitGo s 46 (s.size - i) i b) ⟨#[46]⟩ = s.extract b s.size
  | 0, i, b, hn, hb, hi => by
    obtain rfl : i = s.size := by omega
    rw [splitGo_end, vjoinS_one]
  | n + 1, i, b, hn, hb, hi => by
    have hlt : i < s.size := by omega
    by_cases h : ((s.data[i]!).toNat : Int) = 46
    · rw [splitGo_hit s 46 i b hlt h, vjoinS_cons _ _ _ (vsplitGo_ne _ _ _ _ _), vsplit_back s n (i + 1) (i + 1) (by omega) (Nat.le_refl _) (by omega)]
      exact vcut_back s b i 46 hb hlt (byte_of (n := 46) h)
    · rw [splitGo_miss s 46 i b hlt h]
      exact vsplit_back s n (i + 1) b (by omega) (by omega) (by omega)
theorem vwhole (s : ByteArray) : s.extract 0 s.size = s := by
  apply vext
  rw [vextract, List.drop_zero]
  exact List.take_of_length_le (by rw [vlen]; omega)
theorem vsplit_join (s : ByteArray) : joinS (splitS s 46) ⟨#[46]⟩ = s := by
  have := vsplit_back s s.size 0 0 rfl (Nat.le_refl _) (Nat.zero_le _)
  have e : splitS s 46 = splitGo s 46 (s.size - 0) 0 0 := rfl
  rw [e, this, vwhole]

/-- What is read, told anew, is the text. -/
theorem text_back (s : ByteArray) (k : Nat) (hk : k ≤ s.size) (hd : k < s.size → ((s.data[k]!).toNat : Int) = 45) (t0 t1 t2 : ByteArray) (P : List ByteArray) (hL : [t0, t1, t2] = splitS (s.extract 0 k) 46) (hP : P = if k < s.size then splitS (s.extract (k + 1) s.size) 46 else [])
    (g0 : numGood t0 9999 = true) (g1 : numGood t1 9999 = true) (g2 : numGood t2 9999 = true) (gp : P.all partB = true) (gl : P.length ≤ 3) : verT (numOut t0 9999) (numOut t1 9999) (numOut t2 9999) P = s := by
  have hv : verB (numOut t0 9999) (numOut t1 9999) (numOut t2 9999) P = true := by
    rw [verB, parts_all, gp, num_in g0, num_in g1, num_in g2, decide_eq_true gl]; rfl
  have hc : coreT (numOut t0 9999) (numOut t1 9999) (numOut t2 9999) = s.extract 0 k := by
    rw [coreT, (num_str g0).1, (num_str g1).1, (num_str g2).1, ← join_three, hL, vsplit_join]
  rw [verT, hv, if_pos rfl, hc]
  by_cases h : k < s.size
  · rw [if_pos h] at hP
    have hp : 0 < P.length := by rw [hP]; exact List.length_pos_iff.2 (vsplitGo_ne _ _ _ _ _)
    rw [if_pos hp, hP, vsplit_join, vcut_back s 0 k 45 (Nat.zero_le _) h (byte_of (n := 45) (hd h)), vwhole]
  · rw [if_neg h] at hP
    subst hP
    rw [if_neg (by simp), show k = s.size by omega, vwhole]

theorem res_back (s : ByteArray) (ns : List Int) (ps : List ByteArray) (h : resAll s = some (ns, ps)) : ∃ a b c, ns = [a, b, c] ∧ verT a b c ps = s := by
  obtain ⟨k, hk, hd, hn⟩ : ∃ k, k ≤ s.size ∧ (k < s.size → ((s.data[k]!).toNat : Int) = 45) ∧ ∀ j, j < k → ¬ ((s.data[j]!).toNat : Int) = 45 := by
    have : ∀ n, n ≤ s.size → (∃ k, k ≤ n ∧ (k < n → ((s.data[k]!).toNat : Int) = 45) ∧ ∀ j, j < k → ¬ ((s.data[j]!).toNat : Int) = 45) := by
      intro n
      induction n with
      | zero => exact fun _ => ⟨0, Nat.le_refl _, fun h => by omega, fun j h => by omega⟩
      | succ n ih =>
        intro hle
        obtain ⟨k, h1, h2, h3⟩ := ih (by omega)
        by_cases hkn : k < n
        · exact ⟨k, by omega, fun _ => h2 hkn, h3⟩
        · have : k = n := by omega
          subst this
          by_cases hc : ((s.data[k]!).toNat : Int) = 45
          · exact ⟨k, by omega, fun _ => hc, h3⟩
          · refine ⟨k + 1, Nat.le_refl _, fun h => by omega, fun j hj => ?_⟩
            by_cases e : j = k
            · subst e; exact hc
            · exact h3 j (by omega)
    exact this s.size (Nat.le_refl _)
  obtain ⟨L, hL⟩ : ∃ L, L = splitS (s.extract 0 k) 46 := ⟨_, rfl⟩
  obtain ⟨P, hP⟩ : ∃ P, P = if k < s.size then splitS (s.extract (k + 1) s.size) 46 else [] := ⟨_, rfl⟩
  rw [res_spec s k hk hd hn L P hL hP] at h
  split at h
  · rename_i hg
    simp only [Bool.and_eq_true, decide_eq_true_eq] at hg
    obtain ⟨⟨⟨g1, g2⟩, g3⟩, g4⟩ := hg
    obtain ⟨t0, t1, t2, h3⟩ := three_of g2
    subst h3
    simp only [List.all_cons, List.all_nil, Bool.and_true, Bool.and_eq_true] at g1
    injection h with h
    injection h with h1 h2
    subst h1 h2
    exact ⟨_, _, _, rfl, text_back s k hk hd t0 t1 t2 _ hL hP g1.1 g1.2.1 g1.2.2 g3 g4⟩
  · cases h
#print axioms res_back
end Go.Proofs.YtdnpfkknnaepoaaDoor
