/-
  The map of files by their paths gone through in whatever order: laws for the walks; no condition.
-/
import Derived.Test.YtlnofdlhjeomfaaFiD
namespace Go.Proofs.Ytlnofdlhjeomfaa
open Go.RowKit Go.Maps
set_option linter.unusedSimpArgs false
set_option linter.unusedVariables false

theorem MapF.kept {w w' : World} {b n : Nat} {m : ByteArray → Option FileD} {row : Option Nat} (h : MapF w b n m) (hg : w.grownBy w' row) (hne : some b ≠ row) : MapF w' b n m := by
  obtain ⟨D, h, h2⟩ := h
  exact ⟨D, h.kept hg hne, h2⟩

/-- Block r goes through the map in block b, of at most n files, that holds m: what is left of it to come, and how many. -/
def RangF (w : World) (b r n : Nat) (m : ByteArray → Option FileD) (left : ByteArray → Bool) (cnt : Nat) : Prop :=
  ∃ (D : DataW Unit) (lf : Lit → Bool), w.ranges Try.prog 9 fileElem b r n D lf cnt ∧ (∀ p, Maps.has D (klF p) = (m p).isSome ∧ ∀ f, m p = some f → ∀ z, D.atKey (klF p) z = fD f) ∧ ∀ p, lf (klF p) = left p
theorem RangF.kept {w w' : World} {b r n : Nat} {m : ByteArray → Option FileD} {left : ByteArray → Bool} {cnt : Nat} {row : Option Nat} (h : RangF w b r n m left cnt) (hg : w.grownBy w' row) (hb : some b ≠ row) (hr : some r ≠ row) : RangF w' b r n m left cnt := by
  obtain ⟨D, lf, h1, h2⟩ := h
  exact ⟨D, lf, h1.kept hg hb hr, h2⟩
theorem RangF.alloc {w : World} {b r n : Nat} {m : ByteArray → Option FileD} {left : ByteArray → Bool} {cnt : Nat} (h : RangF w b r n m left cnt) (o : Obj) : RangF (w.alloc o) b r n m left cnt := h.kept (World.grownBy_alloc w o none) (by simp) (by simp)
theorem RangF.left_eq {w : World} {b r n : Nat} {m : ByteArray → Option FileD} {left : ByteArray → Bool} {cnt : Nat} (h : RangF w b r n m left cnt) : w.rangeLeft b r = cnt := by
  obtain ⟨D, lf, h1, _⟩ := h
  exact h1.left_eq
theorem RangF.lt {w : World} {b r n : Nat} {m : ByteArray → Option FileD} {left : ByteArray → Bool} {cnt : Nat} (h : RangF w b r n m left cnt) : r < w.heap.size ∧ b < w.heap.size := by
  obtain ⟨D, lf, h1, _⟩ := h
  exact ⟨h1.lt, h1.owns.lt⟩

theorem key_inv {key : Value} {kl : Lit} (h : keyOf Try.prog 9 key = some kl) : ∃ x : ByteArray, key = .string x ∧ kl = klF x ∧ x.size ≤ maxLen := by
  cases key <;> simp [keyOf, Try.underlying9, mapKey] at h
  rename_i x
  obtain ⟨h1, rfl⟩ := h
  exact ⟨x, rfl, rfl, h1⟩
theorem elem_inv {v : Value} {y : DataW Unit × List MemPlace} (h : fileElem v = some y) : ∃ f : FileD, v = .agg #[.string f.p, .string f.t] := by
  unfold fileElem at h
  split at h
  · rename_i cs
    split at h
    · rename_i p t e
      exact ⟨⟨p, t⟩, by have : cs = #[.string p, .string t] := by cases cs; simp_all
                        rw [this]⟩
    · cases h
  · cases h
theorem sameKey_klF (q p : ByteArray) : (klF q).sameKey (klF p) = decide (q = p) := by
  by_cases e : q = p
  · subst e; rw [WideAt.sameKey_self (klF_key q)]; simp
  · rw [decide_eq_false e, Bool.eq_false_iff]
    intro h
    exact e (klF_inj (WideAt.sameKey_eq h))

section
variable (w : World) {ops : Array Oper} {rest : List Oper} {o : Oper} {a : Act} {Q : Exit → Act → World → Prop}

theorem wpList_range_F (hg : o.guard = none) (mo : Operand) (hop : o.op = Op.range 77 mo) (b n : Nat) (m : ByteArray → Option FileD) (hm : a.eval mo = .map (some b)) (hown : MapF w b n m)
    (hK : ∀ w' cnt, cnt ≤ n → RangF w' b w.heap.size n m (fun p => (m p).isSome) cnt → w.grownBy w' none → w'.heap.size = w.heap.size + 1 → wpList Try.prog ops Q rest (a.put o.dst (.pointer (some ⟨w.heap.size, 0, none⟩))) w') :
    wpList Try.prog ops Q (o :: rest) a w := by
  obtain ⟨D, h, h2⟩ := hown
  refine wpList_range_own w hg mo 77 hop 9 26 keyed5 Try.underlying77 fileElem b n D hm h (fun w' h1 h3 h4 => hK w' _ ?_ ⟨D, _, h1, h2, fun p => (h2 p).1⟩ h3 h4)
  exact h.size_le

theorem wpList_next_F (hg : o.guard = none) (it : Operand) (hop : o.op = Op.next it false) (b r n : Nat) (m : ByteArray → Option FileD) (left : ByteArray → Bool) (cnt : Nat) (hit : a.eval it = .pointer (some ⟨r, 0, none⟩)) (h : RangF w b r n m left cnt)
    (hDone : (∀ p, left p = false) → wpList Try.prog ops Q rest (a.put o.dst (.tuple #[.bool false])) w)
    (hMore : ∀ (p : ByteArray) (f : FileD) (w' : World) (cnt' : Nat), p.size ≤ maxLen → left p = true → m p = some f → RangF w' b r n m (fun q => left q && !decide (q = p)) cnt' → cnt' < cnt → w.grownBy w' (some r) → w'.heap.size = w.heap.size →
      (Instr.entry (.pointer (some ⟨r, 0, none⟩))).run Try.prog w' = .ok (.tuple #[.string p, .agg #[.string f.p, .string f.t]]) w' → wpList Try.prog ops Q rest (a.put o.dst (.tuple #[.bool true, .string p, .agg #[.string f.p, .string f.t]])) w') :
    wpList Try.prog ops Q (o :: rest) a w := by
  obtain ⟨D, lf, h1, h2, h3⟩ := h
  refine wpList_next_ranges w hg it hop 9 keyed5 fileElem Value.string (fun f : FileD => .agg #[.string f.p, .string f.t]) (fun key kl hk => ?_) (fun v y hv => elem_inv hv) b r n D lf cnt hit h1 (fun _ hl => hDone (fun p => by rw [← h3]; exact hl _)) ?_
  · obtain ⟨x, hx, _⟩ := key_inv hk
    exact ⟨x, hx⟩
  · intro x c kl y w' cnt' hkey hlk hv hat hrg hlt hgr hsz hen
    obtain ⟨x', hx', rfl, hxs⟩ := key_inv hkey
    cases hx'
    have hy : y = (fD c, []) := by rw [fileElem_mk] at hv; exact (Option.some.inj hv).symm
    subst hy
    have hhas : Maps.has D (klF x) = true := by
      cases hh : Maps.has D (klF x) with
      | true => rfl
      | false =>
        have h4 := hat (fD ⟨c.p, c.t ++ ⟨#[0]⟩⟩)
        rw [Maps.atKey_of_not_has hh] at h4
        have h5 := fD_inj h4
        have h6 := congrArg (fun f : FileD => f.t.size) h5
        simp only [ByteArray.size_append] at h6
        have : (⟨#[0]⟩ : ByteArray).size = 1 := rfl
        omega
    rw [(h2 x).1] at hhas
    obtain ⟨f', hf'⟩ := Option.isSome_iff_exists.1 hhas
    have hfc : f' = c := fD_inj ((((h2 x).2 f' hf') (fD c)).symm.trans (hat (fD c)))
    subst hfc
    refine hMore x f' w' cnt' hxs (by rw [← h3]; exact hlk) hf' ⟨D, _, hrg, h2, fun q => ?_⟩ hlt hgr hsz hen
    show (lf (klF q) && !(klF q).sameKey (klF x)) = _
    rw [h3, sameKey_klF]
end
end Go.Proofs.Ytlnofdlhjeomfaa
