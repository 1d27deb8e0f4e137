/-
  What is read of what is told, what is told of what is read, and how three versions are ordered: plain facts for FnVers.
-/
import Derived.Test.YtdnpfkknnaepoaaDoorVerBk3
import Derived.Test.YtdnpfkknnaepoaaDoorVerOrd
import Derived.Test.YtdnpfkknnaepoaaDoorVsB
import Derived.Test.YtdnpfkknnaepoaaDoorVerBig
import Derived.Test.YtdnpfkknnaepoaaDoorVerP
import Derived.Test.YtdnpfkknnaepoaaDoorVerQ
namespace Go.Proofs.YtdnpfkknnaepoaaDoor
open Go.RowKit
set_option linter.unusedSimpArgs false
set_option linter.unusedVariables false

theorem vs_back (t : ByteArray) (h : resOk t = true) : verT (resN t 0) (resN t 1) (resN t 2) (resP t) = t := by
  unfold resOk at h
  obtain ⟨⟨ns, ps⟩, hx⟩ := Option.isSome_iff_exists.1 h
  obtain ⟨a, b, c, rfl, hv⟩ := res_back t ns ps hx
  simp only [resN, resP, hx]
  exact hv
theorem vs_told (a b c : Int) (ps : List ByteArray) (h : verB a b c ps = true) : resOk (verT a b c ps) = true ∧ resN (verT a b c ps) 0 = a ∧ resN (verT a b c ps) 1 = b ∧ resN (verT a b c ps) 2 = c ∧ resP (verT a b c ps) = ps := by
  have hx := res_told a b c ps h
  simp [resOk, resN, resP, hx]
theorem vs_none (a b c : Int) (ps : List ByteArray) (h : verB a b c ps = false) : verT a b c ps = ⟨#[]⟩ := by
  simp [verT, h]
theorem vs_way (a b c : Int) (ps : List ByteArray) (a' b' c' : Int) (ps' : List ByteArray) : (lessB a b c ps a' b' c' ps' = true ∧ lessB a' b' c' ps' a b c ps = false ∧ sameB a b c ps a' b' c' ps' = false) ∨ (lessB a b c ps a' b' c' ps' = false ∧ lessB a' b' c' ps' a b c ps = true ∧ sameB a b c ps a' b' c' ps' = false) ∨ (lessB a b c ps a' b' c' ps' = false ∧ lessB a' b' c' ps' a b c ps = false ∧ sameB a b c ps a' b' c' ps' = true) := by
  have h := one_way ⟨a, b, c, ps⟩ ⟨a', b', c', ps'⟩
  simp only [lessV, sameV] at h
  cases h1 : lessB a b c ps a' b' c' ps' <;> cases h2 : lessB a' b' c' ps' a b c ps <;> cases h3 : sameB a b c ps a' b' c' ps' <;> simp [h1, h2, h3] at h ⊢
theorem vs_trans {a b c : Int} {ps : List ByteArray} {a' b' c' : Int} {ps' : List ByteArray} {a'' b'' c'' : Int} {ps'' : List ByteArray} (h : lessB a b c ps a' b' c' ps' = true) (k : lessB a' b' c' ps' a'' b'' c'' ps'' = true) : lessB a b c ps a'' b'' c'' ps'' = true :=
  lessV_trans (x := ⟨a, b, c, ps⟩) (y := ⟨a', b', c', ps'⟩) (z := ⟨a'', b'', c'', ps''⟩) h k
theorem part_bulk : ∀ ps : List ByteArray, (∀ x ∈ ps, x.size ≤ 8) → (ps.map ByteArray.size).sum ≤ 8 * ps.length
  | [], _ => by simp
  | x :: ps, h => by
    have := part_bulk ps (fun t ht => h t (List.mem_cons_of_mem _ ht))
    have := h x (List.mem_cons_self ..)
    simp only [List.map_cons, List.sum_cons, List.length_cons]
    omega
theorem ver_bulk {a b c : Int} {ps : List ByteArray} (h : verB a b c ps = true) : bulkS ps ≤ 27 := by
  have hp : partsUpto ps ps.length = true := by
    cases hh : partsUpto ps ps.length with
    | true => rfl
    | false => rw [verB_parts hh] at h; exact absurd h (by decide)
  have hl : ps.length ≤ 3 := by
    rw [verB_all hp] at h
    simp at h
    omega
  have hx : ∀ x ∈ ps, x.size ≤ 8 := fun x hm => by
    obtain ⟨k, hk, rfl⟩ := List.getElem_of_mem hm
    cases hb : partB ps[k] with
    | false => rw [parts_end hk hb] at hp; exact absurd hp (by decide)
    | true =>
      simp only [partB, Bool.and_eq_true] at hb
      have h2 := hb.1.2
      simp [inB] at h2
      omega
  have := part_bulk ps hx
  unfold bulkS
  omega
theorem res_empty : resOk ⟨#[]⟩ = false := by decide +kernel
theorem resP_bulk (t : ByteArray) : bulkS (resP t) ≤ 27 := by
  cases ho : resOk t with
  | false =>
    have hn : resAll t = none := by simpa [resOk] using ho
    simp [resP, hn, bulkS]
  | true =>
    have hb := vs_back t ho
    cases hv : verB (resN t 0) (resN t 1) (resN t 2) (resP t) with
    | true => exact ver_bulk hv
    | false =>
      rw [vs_none _ _ _ _ hv] at hb
      rw [← hb, res_empty] at ho
      exact absurd ho (by decide)
theorem joinS_le (t : ByteArray) (ht : t.size = 1) : ∀ ps : List ByteArray, (∀ x ∈ ps, x.size ≤ 8) → (joinS ps t).size ≤ 9 * ps.length
  | [], _ => by simp [joinS, joinUpto]; decide
  | [x], h => by rw [vjoinS_one]; have := h x (by simp); simp; omega
  | x :: y :: ps, h => by
    have h1 := joinS_le t ht (y :: ps) (fun z hz => h z (List.mem_cons_of_mem _ hz))
    have h2 := h x (by simp)
    rw [vjoinS_cons _ _ _ (by simp), size_app, size_app]
    simp only [List.length_cons] at h1 ⊢
    omega
theorem ver_small {a b c : Int} {ps : List ByteArray} (h : verB a b c ps = true) : ps.length ≤ 3 ∧ ∀ x ∈ ps, x.size ≤ 8 := by
  have hp : partsUpto ps ps.length = true := by
    cases hh : partsUpto ps ps.length with
    | true => rfl
    | false => rw [verB_parts hh] at h; exact absurd h (by decide)
  refine ⟨by rw [verB_all hp] at h; simp at h; omega, fun x hm => ?_⟩
  obtain ⟨k, hk, rfl⟩ := List.getElem_of_mem hm
  cases hb : partB ps[k] with
  | false => rw [parts_end hk hb] at hp; exact absurd hp (by decide)
  | true =>
    simp only [partB, Bool.and_eq_true] at hb
    have h2 := hb.1.2
    simp [inB] at h2
    omega
theorem verT_sz (a b c : Int) (ps : List ByteArray) (h : verB a b c ps = true) : (verT a b c ps).size ≤ 60 := by
  obtain ⟨h1, h2, h3⟩ := verB_nums h
  obtain ⟨hl, hx⟩ := ver_small h
  have r1 := in_range h1
  have r2 := in_range h2
  have r3 := in_range h3
  have n1 := numStr_four a.toNat (by omega)
  have n2 := numStr_four b.toNat (by omega)
  have n3 := numStr_four c.toNat (by omega)
  have e1 : (⟨#[46]⟩ : ByteArray).size = 1 := rfl
  have e2 : (⟨#[45]⟩ : ByteArray).size = 1 := rfl
  have hc : (coreT a b c).size ≤ 14 := by
    unfold coreT
    rw [size_app, size_app, size_app, size_app]
    omega
  unfold verT
  rw [if_pos h]
  split
  · rw [size_app, size_app]
    have := joinS_le ⟨#[46]⟩ rfl ps hx
    omega
  · omega
end Go.Proofs.YtdnpfkknnaepoaaDoor
