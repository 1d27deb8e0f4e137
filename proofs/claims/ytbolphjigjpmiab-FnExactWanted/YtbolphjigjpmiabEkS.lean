/-
  A copy of an entry, as the specification makes it: a contract for the walks; conditions: it lies in memory that may be written, and holds at most 2 to the 20.
-/
import Derived.Test.YtbolphjigjpmiabCpB
import Derived.Test.YtbolphjigjpmiabVerX
namespace Go.Proofs.Ytbolphjigjpmiab
open Go.RowKit
set_option linter.unusedSimpArgs false
set_option linter.unusedVariables false

theorem wp_append_nilE {P : Program} {w : World} {o : Oper} {a : Act} {K : Act → World → Prop} {Q : Exit → Act → World → Prop} (s x : Operand) (t : TypeId)
    (ho : o.op = .call { callee := .builtin .append, args := #[s, x], argTypes := #[t, t] })
    (base : Nat) (e : TypeId) (i : TypeInfo) (size : Nat) (ht : P.underlying t = some (.slice e)) (hi : P.info? e = some i)
    (v : Value) (n : Nat) (xs : List Value) (hs : a.eval s = v) (hown : w.ownsRow base e size v n xs) (hx : a.eval x = .slice none 0 0)
    (h : K (a.put o.dst v) w) : o.wp P a w K Q := by
  have hrun := run_append_owned_none (P := P) (w := w) base t o.type e i size ht hi v n xs hown
  unfold Oper.wp
  simp [execOp, ho, resolve, invoke, builtin, hs, hx, hrun, Result.andThen]
  exact h
theorem rows_apartE {w : World} {base base' e e' sz sz' : Nat} {v v' : Value} {n n' : Nat} {xs xs' : List Value} (h : w.ownsRow base e sz v n xs) (h' : w.ownsRow base' e' sz' v' n' xs') (hne : e ≠ e') : v'.ownBlock = none ∨ v'.ownBlock ≠ v.ownBlock := by
  rcases h.2 with ⟨rfl, _⟩ | ⟨g, cap, cur, rfl, _, hg, _⟩
  · rcases h'.2 with ⟨rfl, _⟩ | ⟨g', cap', cur', rfl, _, hg', _⟩
    · exact .inl rfl
    · exact .inr (by simp [Value.ownBlock])
  · rcases h'.2 with ⟨rfl, _⟩ | ⟨g', cap', cur', rfl, _, hg', _⟩
    · exact .inl rfl
    · refine .inr fun e1 => hne ?_
      simp only [Value.ownBlock, Option.some.injEq] at e1
      subst e1
      rw [hg] at hg'
      simp only [Option.some.injEq, Obj.cells.injEq] at hg'
      exact hg'.2.1
theorem owns_loE {w : World} {lo lo' : Nat} {e : TypeId} {sz n : Nat} {v : Value} {xs : List Value} (h : lo' ≤ lo) (hg : w.ownsRow lo e sz v n xs) : w.ownsRow lo' e sz v n xs := owns_lo h hg
theorem needsV_one (xs : List NeedD) : ∀ u ∈ needsV xs, u.oneCell' = true := fun u hu => by
  simp only [needsV, List.mem_flatMap] at hu
  obtain ⟨d, _, hd⟩ := hu
  simp at hd
  rcases hd with rfl | rfl <;> rfl
theorem laid_needs {S : Nat → Prop} {w : World} {ys : List Value} {xs : List NeedD} (h : Laid shNeed S w ys xs xs.length) (hl : ys.length = xs.length * 2) : ys = needsV xs := by
  apply List.ext_getElem?
  intro j
  by_cases hj : j < xs.length * 2
  · have hi : j / 2 < xs.length := by omega
    obtain ⟨cs, h1, ⟨rfl, _, _⟩, h3⟩ := h (j / 2) hi hi
    obtain ⟨n1, n2⟩ := needsV_at xs (j / 2) hi
    have e0 : ys[j / 2 * 2 + 0]? = some (Value.string xs[j / 2].n) := h3 0 (by simp)
    have e1 : ys[j / 2 * 2 + 1]? = some (Value.string xs[j / 2].r) := h3 1 (by simp)
    rcases (by omega : j % 2 = 0 ∨ j % 2 = 1) with hm | hm
    · have ej : j = j / 2 * 2 := by omega
      rw [ej, n1]; simpa using e0
    · have ej : j = j / 2 * 2 + 1 := by omega
      rw [ej, n2]; simpa using e1
  · rw [List.getElem?_eq_none (by omega), List.getElem?_eq_none (by rw [needsV_length]; omega)]

end Go.Proofs.Ytbolphjigjpmiab
