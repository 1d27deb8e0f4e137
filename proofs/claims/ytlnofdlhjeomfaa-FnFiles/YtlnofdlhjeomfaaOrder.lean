/-
  Lists of texts that rise: two of them with the same members are one list; the plain facts on the order of texts, byte by byte; no condition.
-/
import Derived.Test.YtlnofdlhjeomfaaStrs
import Derived.Sort.OwnSorted
import Derived.Lib.SlicesCompact
namespace Go.Proofs.Ytlnofdlhjeomfaa
open Go.RowKit
set_option linter.unusedSimpArgs false
set_option linter.unusedVariables false

theorem ltL_irrefl (x : List UInt8) : ¬ x < x := List.lt_irrefl x
theorem ltL_trans {x y z : List UInt8} (h : x < y) (k : y < z) : x < z := List.lt_trans h k
theorem ltL_total {x y : List UInt8} (h : ¬ x < y) (k : ¬ y < x) : x = y := List.le_antisymm (by simpa using k) (by simpa using h)

def Rises (l : List (List UInt8)) : Prop := l.Pairwise (· < ·)

theorem rises_eq : ∀ (a b : List (List UInt8)), Rises a → Rises b → (∀ x, x ∈ a ↔ x ∈ b) → a = b
  | [], [], _, _, _ => rfl
  | [], y :: b, _, _, h => by have := (h y).2 (by simp); simp at this
  | x :: a, [], _, _, h => by have := (h x).1 (by simp); simp at this
  | x :: a, y :: b, ha, hb, h => by
    have ha' := List.pairwise_cons.1 ha
    have hb' := List.pairwise_cons.1 hb
    have hxy : x = y := by
      rcases List.mem_cons.1 ((h x).1 (by simp)) with e | e
      · exact e
      · rcases List.mem_cons.1 ((h y).2 (by simp)) with e' | e'
        · exact e'.symm
        · exact absurd (ltL_trans (hb'.1 x e) (ha'.1 y e')) (ltL_irrefl _)
    subst hxy
    have hab : a = b := rises_eq a b ha'.2 hb'.2 (fun z => by
      constructor
      · intro hz
        rcases List.mem_cons.1 ((h z).1 (List.mem_cons_of_mem _ hz)) with e | e
        · subst e; exact absurd (ha'.1 z hz) (ltL_irrefl _)
        · exact e
      · intro hz
        rcases List.mem_cons.1 ((h z).2 (List.mem_cons_of_mem _ hz)) with e | e
        · subst e; exact absurd (hb'.1 z hz) (ltL_irrefl _)
        · exact e)
    rw [hab]

def bytesL (s : ByteArray) : List UInt8 := s.data.toList
theorem bytesL_inj {a b : ByteArray} (h : bytesL a = bytesL b) : a = b := ByteArray.ext (Array.toList_inj.1 h)
def risesS (ss : List ByteArray) : Prop := Rises (ss.map bytesL)

theorem risesS_eq {a b : List ByteArray} (ha : risesS a) (hb : risesS b) (h : ∀ x, x ∈ a ↔ x ∈ b) : a = b := by
  have e := rises_eq _ _ ha hb (fun x => by
    constructor
    · intro hx
      obtain ⟨s, hs, rfl⟩ := List.mem_map.1 hx
      exact List.mem_map.2 ⟨s, (h s).1 hs, rfl⟩
    · intro hx
      obtain ⟨s, hs, rfl⟩ := List.mem_map.1 hx
      exact List.mem_map.2 ⟨s, (h s).2 hs, rfl⟩)
  exact List.map_inj_right (fun _ _ => bytesL_inj) |>.1 e

/-- What is put in where all behind is greater and all ahead is less. -/
theorem rises_insert {xs : List ByteArray} {x : ByteArray} {k : Nat} (hk : k ≤ xs.length) (h : risesS xs) (hl : ∀ j (hj : j < xs.length), j < k → bytesL xs[j] < bytesL x) (hg : ∀ j (hj : j < xs.length), k ≤ j → bytesL x < bytesL xs[j]) :
    risesS (xs.take k ++ x :: xs.drop k) := by
  unfold risesS Rises at *
  rw [List.map_append, List.map_cons, List.pairwise_append]
  refine ⟨?_, ?_, ?_⟩
  · rw [List.map_take]; exact h.sublist (List.take_sublist _ _)
  · rw [List.pairwise_cons]
    refine ⟨fun y hy => ?_, ?_⟩
    · obtain ⟨s, hs, rfl⟩ := List.mem_map.1 hy
      obtain ⟨j, hj, rfl⟩ := List.getElem_of_mem hs
      rw [List.getElem_drop]
      simp at hj
      exact hg _ (by omega) (by omega)
    · rw [List.map_drop]; exact h.sublist (List.drop_sublist _ _)
  · intro a ha b hb
    obtain ⟨s, hs, rfl⟩ := List.mem_map.1 ha
    obtain ⟨j, hj, rfl⟩ := List.getElem_of_mem hs
    rw [List.getElem_take]
    simp at hj
    have h1 := hl j (by omega) (by omega)
    rcases List.mem_cons.1 hb with rfl | hb
    · exact h1
    · obtain ⟨s', hs', rfl⟩ := List.mem_map.1 hb
      obtain ⟨j', hj', rfl⟩ := List.getElem_of_mem hs'
      rw [List.getElem_drop]
      simp at hj'
      exact ltL_trans h1 (hg _ (by omega) (by omega))

theorem mem_insert (xs : List ByteArray) (x y : ByteArray) (k : Nat) : y ∈ xs.take k ++ x :: xs.drop k ↔ y = x ∨ y ∈ xs := by
  rw [List.mem_append, List.mem_cons]
  constructor
  · rintro (h | h | h)
    · exact .inr (List.mem_of_mem_take h)
    · exact .inl h
    · exact .inr (List.mem_of_mem_drop h)
  · rintro (h | h)
    · exact .inr (.inl h)
    · rw [← List.take_append_drop k xs, List.mem_append] at h
      rcases h with h | h
      · exact .inl h
      · exact .inr (.inr h)
end Go.Proofs.Ytlnofdlhjeomfaa
