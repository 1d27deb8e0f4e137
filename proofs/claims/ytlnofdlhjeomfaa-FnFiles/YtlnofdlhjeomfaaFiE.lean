/-
  What the two functions GetFile (the program's and the specification's) answer: the text of the first file of the path, and whether there is one; conditions: the list lies in memory, and holds at most 2 to the 20.
-/
import Derived.Test.YtlnofdlhjeomfaaFiD
import Derived.Test.YtlnofdlhjeomfaaSplitB
namespace Go.Proofs.Ytlnofdlhjeomfaa
open Go.RowKit Go.Maps
set_option linter.unusedSimpArgs false
set_option linter.unusedVariables false

def textF : Option FileD → ByteArray
  | some f => f.t
  | none => ⟨#[]⟩

theorem toList_beq {a b : ByteArray} : (a.toList == b.toList) = decide (a = b) := by
  by_cases h : a = b
  · subst h; simp
  · rw [decide_eq_false h, beq_eq_false_iff_ne]
    intro e; exact h (bytes_eq_of_toList e)

/-- The place of the first file of this path, or -1. -/
def posF (fs : List FileD) (p : ByteArray) : Int := match fs.findIdx? (fun f => decide (f.p = p)) with | some k => (k : Int) | none => -1
theorem posF_at {fs : List FileD} {p : ByteArray} {k : Nat} (h : k < fs.length) (hp : fs[k].p = p) (hn : ∀ j (hj : j < fs.length), j < k → ¬ fs[j].p = p) : posF fs p = (k : Int) := by
  have : fs.findIdx? (fun f => decide (f.p = p)) = some k := by
    rw [List.findIdx?_eq_some_iff_getElem]
    exact ⟨h, by simpa using hp, fun j hj => by simpa using hn j (by omega) hj⟩
  rw [posF, this]
theorem posF_none {fs : List FileD} {p : ByteArray} (hn : ∀ j (hj : j < fs.length), ¬ fs[j].p = p) : posF fs p = -1 := by
  have : fs.findIdx? (fun f => decide (f.p = p)) = none := by
    rw [List.findIdx?_eq_none_iff]
    intro x hx
    obtain ⟨j, hj, rfl⟩ := List.mem_iff_getElem.1 hx
    simpa using hn j hj
  rw [posF, this]
theorem posF_cases (fs : List FileD) (p : ByteArray) : (∃ k, ∃ h : k < fs.length, posF fs p = (k : Int) ∧ fs[k].p = p ∧ getF fs p = some fs[k] ∧ ∀ j (hj : j < fs.length), j < k → ¬ fs[j].p = p) ∨ (posF fs p = -1 ∧ getF fs p = none ∧ ∀ j (hj : j < fs.length), ¬ fs[j].p = p) := by
  cases hf : fs.findIdx? (fun f => decide (f.p = p)) with
  | none =>
    have hn := List.findIdx?_eq_none_iff.1 hf
    refine .inr ⟨by rw [posF, hf], ?_, fun j hj => by simpa using hn _ (List.getElem_mem hj)⟩
    rw [getF, List.find?_eq_none]
    intro x hx
    simpa using hn x hx
  | some k =>
    obtain ⟨h, h1, h2⟩ := List.findIdx?_eq_some_iff_getElem.1 hf
    refine .inl ⟨k, h, by rw [posF, hf], by simpa using h1, ?_, fun j hj hjk => by simpa using h2 j hjk⟩
    rw [getF, List.find?_eq_some_iff_getElem]
    exact ⟨h1, k, h, rfl, fun j hj => by simpa using h2 j hj⟩

set_option maxHeartbeats 2000000 in
set_option maxRecDepth 100000 in
theorem implGet_c (S : Nat → Prop) (v : Value) (fs : List FileD) (p : ByteArray) (w : World) (hv : FilesIn S w v fs) (hB : ∀ b, S b → b < w.heap.size) (hl : fs.length ≤ 1099511627776) (hp : p.size ≤ maxLen) (ht : ∀ f ∈ fs, f.t.size ≤ 1048576) :
    Calls Try.prog 12 #[v, .string p] w fun e w' => e = .returned (.tuple #[.string (textF (getF fs p)), .bool (getF fs p).isSome]) ∧ Below w.heap.size w w' := by
  have HM := filesByPath_c S v fs w hv hB hl
  cases hg : getF fs p with
  | none =>
    have HG : Hid (getF fs p = none) := hg
    clear hg
    go_enter Try.func12, Try.ntmps12
    go_wp2_with (first
      | (go_at_call 39; refine HM.mono ?_; rintro e w1 ⟨rfl, hm, b1⟩; clear HM)
      | (at_lookup; refine wpList_lookup_none _ rfl _ _ rfl w.heap.size fs.length _ rfl hm p rfl hp HG.out ?_)
      | (go_at_call 45; refine (clone_c _ _ (by decide)).mono ?_; rintro e w2 ⟨rfl, b2⟩))
    go_ret2
    exact ⟨rfl, (b1.alloc b1.size _).trans (b2.mono (by have := b1.size; simp; omega))⟩
  | some f =>
    have HG : Hid (getF fs p = some f) := hg
    have hft : f.t.size ≤ 1048576 := ht f (List.mem_of_find?_eq_some hg)
    clear hg ht
    go_enter Try.func12, Try.ntmps12
    go_wp2_with (first
      | (go_at_call 39; refine HM.mono ?_; rintro e w1 ⟨rfl, hm, b1⟩; clear HM)
      | (at_lookup; refine wpList_lookup_some _ rfl _ _ rfl w.heap.size fs.length _ rfl hm p rfl hp f HG.out ?_)
      | (go_at_call 45; refine (clone_c _ _ hft).mono ?_; rintro e w2 ⟨rfl, b2⟩))
    go_ret2
    exact ⟨rfl, (b1.alloc b1.size _).trans (b2.mono (by have := b1.size; simp; omega))⟩
end Go.Proofs.Ytlnofdlhjeomfaa
