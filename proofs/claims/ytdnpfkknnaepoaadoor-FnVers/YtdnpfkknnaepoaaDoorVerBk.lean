/-
  Digits that tell a number are the number's digits; what a text's pieces make with dots between is the text; no condition.
-/
import Derived.Test.YtdnpfkknnaepoaaDoorVerK
import Derived.Test.YtdnpfkknnaepoaaDoorVerT
namespace Go.Proofs.YtdnpfkknnaepoaaDoor
open Go.RowKit
set_option linter.unusedSimpArgs false
set_option linter.unusedVariables false

theorem vdec_step {n : Nat} (h : ¬ n < 10) : Lib.decDigits n = Lib.decDigits (n / 10) ++ [UInt8.ofNat (48 + n % 10)] := by
  conv => lhs; rw [Lib.decDigits, dif_neg h]
theorem vdec_one {n : Nat} (h : n < 10) : Lib.decDigits n = [UInt8.ofNat (48 + n)] := by
  rw [Lib.decDigits, dif_pos h]
theorem allUpto_at {p : Nat → Int → Bool} {s : ByteArray} : ∀ {n : Nat}, allUpto p s n = true → ∀ k, k < n → p k ((s.data[k]!).toNat : Int) = true
  | 0, _, k, hk => by omega
  | n + 1, h, k, hk => by
    rw [allUpto, Bool.and_eq_true] at h
    by_cases e : k = n
    · subst e; exact h.2
    · exact allUpto_at h.1 k (by omega)
theorem vtake_snoc (s : ByteArray) (k : Nat) (h : k < s.size) : s.data.toList.take (k + 1) = s.data.toList.take k ++ [s.data[k]!] := by
  rw [List.take_succ_eq_append_getElem (by rw [vlen]; exact h)]
  congr 2
  rw [getElem!_pos s.data k h]
  rfl
theorem u8_back (u : UInt8) (h : 48 ≤ u.toNat) : UInt8.ofNat (48 + (u.toNat - 48)) = u := by
  rw [show 48 + (u.toNat - 48) = u.toNat by omega]
  simp

/-- The digits of what the first k bytes tell are these bytes. -/
theorem dec_back (s : ByteArray) (hd : allUpto okDigit s s.size = true) (hz : 1 < s.size → ¬ ((s.data[0]!).toNat : Int) = 48) : ∀ k, k < s.size → 0 ≤ numUpto s (k + 1) ∧ (1 < s.size → 1 ≤ numUpto s (k + 1)) ∧ Lib.decDigits (numUpto s (k + 1)).toNat = s.data.toList.take (k + 1)
  | 0, hk => by
    have h0 := digit_bounds (allUpto_at hd 0 hk)
    have e : numUpto s (0 + 1) = ((s.data[0]!).toNat : Int) - 48 := by simp [numUpto]
    rw [e]
    refine ⟨by omega, fun h1 => by have := hz h1; omega, ?_⟩
    rw [vdec_one (by omega), vtake_snoc s 0 hk]
    have : (((s.data[0]!).toNat : Int) - 48).toNat = (s.data[0]!).toNat - 48 := by omega
    rw [this, u8_back _ (by omega)]
    rfl
  | k + 1, hk => by
    obtain ⟨h1, h2, h3⟩ := dec_back s hd hz k (by omega)
    have h2 := h2 (by omega)
    have hb := digit_bounds (allUpto_at hd (k + 1) hk)
    have e : numUpto s (k + 1 + 1) = numUpto s (k + 1) * 10 + (((s.data[k + 1]!).toNat : Int) - 48) := rfl
    rw [e]
    generalize numUpto s (k + 1) = m at *
    refine ⟨by omega, fun _ => by omega, ?_⟩
    rw [vdec_step (by omega), vtake_snoc s (k + 1) hk, ← h3]
    have e1 : (m * 10 + (((s.data[k + 1]!).toNat : Int) - 48)).toNat / 10 = m.toNat := by omega
    have e2 : (m * 10 + (((s.data[k + 1]!).toNat : Int) - 48)).toNat % 10 = (s.data[k + 1]!).toNat - 48 := by omega
    rw [e1, e2, u8_back _ (by omega)]

theorem num_str {t : ByteArray} {most : Int} (h : numGood t most = true) : numStr (numOut t most).toNat = t ∧ 0 ≤ numOut t most := by
  have h0 := h
  simp only [numGood, Bool.and_eq_true, Bool.not_eq_true'] at h
  obtain ⟨⟨⟨h1, h2⟩, h3⟩, h4⟩ := h
  have hs := in17 h1
  have hz : 1 < t.size → ¬ ((t.data[0]!).toNat : Int) = 48 := fun hl he => by
    rw [decide_eq_true hl, he] at h3
    simp at h3
  obtain ⟨p1, p2, p3⟩ := dec_back t h2 hz (t.size - 1) (by omega)
  rw [show t.size - 1 + 1 = t.size by omega] at p1 p3
  rw [numOut_good h0]
  refine ⟨?_, p1⟩
  apply vext
  show (Lib.decDigits (numUpto t t.size).toNat).toArray.toList = _
  rw [p3]
  simp
  exact List.take_of_length_le (by rw [vlen]; omega)
#print axioms num_str
end Go.Proofs.YtdnpfkknnaepoaaDoor
