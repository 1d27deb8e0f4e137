/-
  What the specification's DiffFiles answers: ascending, and each path that is in one list alone or of another text; a contract for the walks; conditions: the lists lie in memory, hold at most 2 to the 19 files, no path twice.
-/
import Derived.Test.YtlnofdlhjeomfaaFiN
namespace Go.Proofs.Ytlnofdlhjeomfaa
open Go.RowKit Go.Maps
set_option linter.unusedSimpArgs false
set_option linter.unusedVariables false

def badD (o : Option FileD) (f : FileD) : Bool := match o with | none => true | some g => !(g.t.toList == f.t.toList)
def diffA (fa : List FileD) (mb : ByteArray → Option FileD) : List ByteArray := (fa.filter fun f => badD (mb f.p) f).map FileD.p
def diffB (fb : List FileD) (ma : ByteArray → Option FileD) : List ByteArray := (fb.filter fun f => (ma f.p).isNone).map FileD.p
theorem diffA_yes {fa : List FileD} {mb : ByteArray → Option FileD} {k : Nat} (h : k < fa.length) (hb : badD (mb fa[k].p) fa[k] = true) : diffA (fa.take (k + 1)) mb = diffA (fa.take k) mb ++ [fa[k].p] := by
  unfold diffA; rw [List.take_succ_eq_append_getElem h, List.filter_append]; simp [hb]
theorem diffA_no {fa : List FileD} {mb : ByteArray → Option FileD} {k : Nat} (h : k < fa.length) (hb : badD (mb fa[k].p) fa[k] = false) : diffA (fa.take (k + 1)) mb = diffA (fa.take k) mb := by
  unfold diffA; rw [List.take_succ_eq_append_getElem h, List.filter_append]; simp [hb]
theorem diffB_yes {fb : List FileD} {ma : ByteArray → Option FileD} {k : Nat} (h : k < fb.length) (hb : ma fb[k].p = none) : diffB (fb.take (k + 1)) ma = diffB (fb.take k) ma ++ [fb[k].p] := by
  unfold diffB; rw [List.take_succ_eq_append_getElem h, List.filter_append]; simp [hb]
theorem diffB_no {fb : List FileD} {ma : ByteArray → Option FileD} {k : Nat} {g : FileD} (h : k < fb.length) (hb : ma fb[k].p = some g) : diffB (fb.take (k + 1)) ma = diffB (fb.take k) ma := by
  unfold diffB; rw [List.take_succ_eq_append_getElem h, List.filter_append]; simp [hb]
theorem diffA_len (fa : List FileD) (mb : ByteArray → Option FileD) : (diffA fa mb).length ≤ fa.length := by unfold diffA; rw [List.length_map]; exact List.length_filter_le _ _
theorem diffB_len (fb : List FileD) (ma : ByteArray → Option FileD) : (diffB fb ma).length ≤ fb.length := by unfold diffB; rw [List.length_map]; exact List.length_filter_le _ _

/-- No path stands twice. -/
def onceF (fs : List FileD) : Prop := ∀ f ∈ fs, getF fs f.p = some f
theorem diff_mem {fa fb : List FileD} (ha : onceF fa) (hb : onceF fb) (p : ByteArray) : p ∈ diffA fa (getF fb) ++ diffB fb (getF fa) ↔ (diffM (getF fa) (getF fb) p).isSome = true := by
  rw [List.mem_append]
  unfold diffA diffB diffM
  simp only [List.mem_map, List.mem_filter]
  constructor
  · rintro (⟨f, ⟨hf, hbad⟩, rfl⟩ | ⟨f, ⟨hf, hn⟩, rfl⟩)
    · rw [ha f hf]
      cases hg : getF fb f.p with
      | none => rfl
      | some g =>
        rw [hg] at hbad
        simp only [badD, toList_beq] at hbad
        have : ¬ f.t = g.t := fun e => by rw [e] at hbad; simp at hbad
        simp [diffO, this]
    · rw [hb f hf]
      cases hg : getF fa f.p with
      | none => rfl
      | some g => rw [hg] at hn; cases hn
  · intro h
    cases hga : getF fa p with
    | none =>
      cases hgb : getF fb p with
      | none => rw [hga, hgb] at h; cases h
      | some f =>
        obtain ⟨h1, h2⟩ := getF_mem hgb
        exact .inr ⟨f, ⟨h1, by rw [h2, hga]; rfl⟩, h2⟩
    | some g =>
      obtain ⟨h1, h2⟩ := getF_mem hga
      refine .inl ⟨g, ⟨h1, ?_⟩, h2⟩
      cases hgb : getF fb p with
      | none => rw [h2, hgb]; rfl
      | some f =>
        rw [hga, hgb] at h
        rw [h2, hgb]
        simp only [badD, toList_beq]
        by_cases e : g.t = f.t
        · simp [diffO, e] at h
        · have : ¬ f.t = g.t := fun e' => e e'.symm
          simp [this]

end Go.Proofs.Ytlnofdlhjeomfaa
