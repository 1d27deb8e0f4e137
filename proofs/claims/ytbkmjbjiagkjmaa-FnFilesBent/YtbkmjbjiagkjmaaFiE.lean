/-
  What the two functions GetFile (the program's and the specification's) answer: the text of the first file of the path, and whether there is one; conditions: the list lies in memory, and holds at most 2 to the 20.
-/
import Derived.Test.YtbkmjbjiagkjmaaFiD
import Derived.Test.YtbkmjbjiagkjmaaSplitB
namespace Go.Proofs.Ytbkmjbjiagkjmaa
open Go.RowKit Go.Maps
set_option linter.unusedSimpArgs false
set_option linter.unusedVariables false

def textF : Option FileD → ByteArray
  | some f => f.t
  | none => ⟨#[]⟩

theorem toList_beq {a b : ByteArray} : (a.toList == b.toList) = decide (a = b) := by
  by_cases h : a = b
  · subst h; simp
  · rw [decide_eq_false h, beq_eq_false_iff_ne]
    intro e; exact h (bytes_eq_of_toList e)

/-- The place of the first file of this path, or -1. -/
def posF (fs : List FileD) (p : ByteArray) : Int := match fs.findIdx? (fun f => decide (f.p = p)) with | some k => (k : Int) | none => -1
theorem posF_at {fs : List FileD} {p : ByteArray} {k : Nat} (h : k < fs.length) (hp : fs[k].p = p) (hn : ∀ j (hj : j < fs.length), j < k → ¬ fs[j].p = p) : posF fs p = (k : Int) := by
  have : fs.findIdx? (fun f => decide (f.p = p)) = some k := by
    rw [List.findIdx?_eq_some_iff_getElem]
    exact ⟨h, by simpa using hp, fun j hj => by simpa using hn j (by omega) hj⟩
  rw [posF, this]
theorem posF_none {fs : List FileD} {p : ByteArray} (hn : ∀ j (hj : j < fs.length), ¬ fs[j].p = p) : posF fs p = -1 := by
  have : fs.findIdx? (fun f => decide (f.p = p)) = none := by
    rw [List.findIdx?_eq_none_iff]
    intro x hx
    obtain ⟨j, hj, rfl⟩ := List.mem_iff_getElem.1 hx
    simpa using hn j hj
  rw [posF, this]
theorem posF_cases (fs : List FileD) (p : ByteArray) : (∃ k, ∃ h : k < fs.length, posF fs p = (k : Int) ∧ fs[k].p = p ∧ getF fs p = some fs[k] ∧ ∀ j (hj : j < fs.length), j < k → ¬ fs[j].p = p) ∨ (posF fs p = -1 ∧ getF fs p = none ∧ ∀ j (hj : j < fs.length), ¬ fs[j].p = p) := by
  cases hf : fs.findIdx? (fun f => decide (f.p = p)) with
  | none =>
    have hn := List.findIdx?_eq_none_iff.1 hf
    refine .inr ⟨by rw [posF, hf], ?_, fun j hj => by simpa using hn _ (List.getElem_mem hj)⟩
    rw [getF, List.find?_eq_none]
    intro x hx
    simpa using hn x hx
  | some k =>
    obtain ⟨h, h1, h2⟩ := List.findIdx?_eq_some_iff_getElem.1 hf
    refine .inl ⟨k, h, by rw [posF, hf], by simpa using h1, ?_, fun j hj hjk => by simpa using h2 j hjk⟩
    rw [getF, List.find?_eq_some_iff_getElem]
    exact ⟨h1, k, h, rfl, fun j hj => by simpa using h2 j hj⟩

set_option maxHeartbeats 2000000 in
set_option maxRecDepth 100000 in
theorem at5_c (S : Nat → Prop) (v : Value) (fs : List FileD) (p : ByteArray) (w : World) (hv : FilesIn S w v fs) (hB : ∀ b, S b → b < w.heap.size) :
    Calls Try.prog 69 #[v, .string p] w fun e w' => e = .returned (.int .i64 (posF fs p)) ∧ w = w' := by
  obtain ⟨a, cap, rfl, hl, hc, hsn, ha⟩ := hv
  unfold maxLen at hl
  go_enter Try.func69, Try.ntmps69
  go_wp2_with fail
  go_loop [5] (fun vi => ∃ k : Nat, k ≤ fs.length ∧ vi = .int .i64 (k : Int) ∧ Hid (∀ j (hj : j < fs.length), j < k → ¬ fs[j].p = p)) (fun vi => fs.length - (intOf vi).toNat)
  case atStart => exact ⟨0, Nat.zero_le _, rfl, fun j hj h => by omega⟩
  case round =>
    obtain ⟨k, hk, rfl, hh⟩ := hrel
    by_cases hlt' : k < fs.length
    · rcases ha with rfl | ⟨b, off, rfl, hlt, ha⟩
      · simp at hlt'
      obtain ⟨e0, e1⟩ := ha k hlt'
      obtain ⟨d, hd⟩ : ∃ d, d = fs[k] := ⟨_, rfl⟩
      rw [← hd] at e0 e1
      have HD : Hid (d = fs[k]) := hd
      have hki : (k : Int) < (fs.length : Int) := by omega
      clear ha hd hsn
      by_cases hp : d.p = p
      · have hb : (d.p.toList == p.toList) = true := by rw [toList_beq]; simp [hp]
        have HP : Hid (posF fs p = (k : Int)) := posF_at hlt' (by rw [← HD.out]; exact hp) hh.out
        clear hp
        go_wp2_with fail
        go_ret
        exact ⟨by rw [HP.out]; rfl, rfl⟩
      · have hb : (d.p.toList == p.toList) = false := by rw [toList_beq]; simp [hp]
        have HP : Hid (¬ d.p = p) := hp
        clear hp
        go_wp2_with fail
        go_round
        case rel => exact ⟨k + 1, by omega, by go_num, fun j hj hjk => (by
          by_cases e : j = k
          · subst e; rw [← HD.out]; exact HP.out
          · exact hh.out j hj (by omega))⟩
        case measure => simp [intOf]; omega
    · have he : k = fs.length := by omega
      subst he
      have h1 : Hid (posF fs p = -1) := posF_none (fun j hj => hh.out j hj hj)
      clear ha hsn
      go_wp2_with fail
      go_ret
      exact ⟨by rw [h1.out]; rfl, rfl⟩

set_option maxHeartbeats 2000000 in
set_option maxRecDepth 100000 in
theorem specGet_c (S : Nat → Prop) (v : Value) (fs : List FileD) (p : ByteArray) (w : World) (hv : FilesIn S w v fs) (hB : ∀ b, S b → b < w.heap.size) :
    Calls Try.prog 23 #[v, .string p] w fun e w' => e = .returned (.tuple #[.string (textF (getF fs p)), .bool (getF fs p).isSome]) ∧ w = w' := by
  have HA := at5_c S v fs p w hv hB
  obtain ⟨a, cap, rfl, hl, hc, hsn, ha⟩ := hv
  unfold maxLen at hl
  rcases posF_cases fs p with ⟨k, hk, h1, _, hg, _⟩ | ⟨h1, hg, _⟩
  · rw [h1] at HA
    rw [hg]
    rcases ha with rfl | ⟨b, off, rfl, hlt, ha⟩
    · simp at hk
    obtain ⟨e0, e1⟩ := ha k hk
    obtain ⟨d, hd⟩ : ∃ d, d = fs[k] := ⟨_, rfl⟩
    rw [← hd] at e0 e1 ⊢
    have hki : (k : Int) < (fs.length : Int) := by omega
    have hk0 : ¬ (k : Int) < 0 := by omega
    clear ha hd hsn hg h1
    go_enter Try.func23, Try.ntmps23
    go_wp2_with (go_at_call 69; refine HA.mono ?_; rintro e w1 ⟨rfl, rfl⟩)
    go_ret2
    exact ⟨rfl, rfl⟩
  · rw [h1] at HA
    rw [hg]
    clear ha hsn hg h1
    go_enter Try.func23, Try.ntmps23
    go_wp2_with (go_at_call 69; refine HA.mono ?_; rintro e w1 ⟨rfl, rfl⟩)
    go_ret2
    exact ⟨rfl, rfl⟩

set_option maxHeartbeats 2000000 in
set_option maxRecDepth 100000 in
theorem implGet_c (S : Nat → Prop) (v : Value) (fs : List FileD) (p : ByteArray) (w : World) (hv : FilesIn S w v fs) (hB : ∀ b, S b → b < w.heap.size) (hl : fs.length ≤ 1099511627776) (hp : p.size ≤ maxLen) (ht : ∀ f ∈ fs, f.t.size ≤ 1048576) :
    Calls Try.prog 15 #[v, .string p] w fun e w' => e = .returned (.tuple #[.string (textF (getF fs p)), .bool (getF fs p).isSome]) ∧ Below w.heap.size w w' := by
  have HM := filesByPath_c S v fs w hv hB hl
  cases hg : getF fs p with
  | none =>
    have HG : Hid (getF fs p = none) := hg
    clear hg
    go_enter Try.func15, Try.ntmps15
    go_wp2_with (first
      | (go_at_call 59; refine HM.mono ?_; rintro e w1 ⟨rfl, hm, b1⟩; clear HM)
      | (at_lookup; refine wpList_lookup_none _ rfl _ _ rfl w.heap.size fs.length _ rfl hm p rfl hp HG.out ?_)
      | (go_at_call 64; refine (clone_c _ _ (by decide)).mono ?_; rintro e w2 ⟨rfl, b2⟩))
    go_ret2
    exact ⟨rfl, (b1.alloc b1.size _).trans (b2.mono (by have := b1.size; simp; omega))⟩
  | some f =>
    have HG : Hid (getF fs p = some f) := hg
    have hft : f.t.size ≤ 1048576 := ht f (List.mem_of_find?_eq_some hg)
    clear hg ht
    go_enter Try.func15, Try.ntmps15
    go_wp2_with (first
      | (go_at_call 59; refine HM.mono ?_; rintro e w1 ⟨rfl, hm, b1⟩; clear HM)
      | (at_lookup; refine wpList_lookup_some _ rfl _ _ rfl w.heap.size fs.length _ rfl hm p rfl hp f HG.out ?_)
      | (go_at_call 64; refine (clone_c _ _ hft).mono ?_; rintro e w2 ⟨rfl, b2⟩))
    go_ret2
    exact ⟨rfl, (b1.alloc b1.size _).trans (b2.mono (by have := b1.size; simp; omega))⟩
end Go.Proofs.Ytbkmjbjiagkjmaa
