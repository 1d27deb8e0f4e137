/-
  When a value is right, as the specification's own walk over it has it: for every value that lies in memory.
-/
import Derived.Test.YtbolphjigjpmiaaDoorValA
import Derived.Deep.Light
namespace Go.Proofs.YtbolphjigjpmiaaDoor
open Go.RowKit
set_option linter.unusedSimpArgs false
set_option linter.unusedVariables false

/-- The first i keys are texts, and rise. -/
def keysUpto (ks : List ByteArray) : Nat → Bool
  | 0 => true
  | i + 1 => keysUpto ks i && (textB (ks.getD i ⟨#[]⟩) && (i == 0 || Op.bytesLess (ks.getD (i - 1) ⟨#[]⟩).toList (ks.getD i ⟨#[]⟩).toList))

def hereB (k n : Int) (s : ByteArray) (nl : Nat) (ks : List ByteArray) : Bool :=
  (k == 3 || s.toList.isEmpty) && (k == 5 || ks.length == 0) && (k == 5 || k == 4 || nl == 0) &&
  (if k == 0 || k == 3 || k == 4 then n == 0 && textB s else if k == 1 then inB n 0 1 else if k == 2 then inB n (-999999) 999999 else if k == 5 then keysUpto ks ks.length && (n == 0 && ks.length == nl) else false)

set_option maxHeartbeats 4000000 in
set_option maxRecDepth 100000 in
theorem here_flat (k n : Int) (s : ByteArray) (a a' : Option Addr) (m cap cap' : Nat) (ks : List ByteArray) (w : World) (hs : s.size ≤ maxLen) (hk : k ≠ 5) :
    Calls Tryd.prog 28 #[.agg #[.int .i64 k, .int .i64 n, .string s, .slice a m cap, .slice a' ks.length cap']] w fun e w' => e = .returned (.bool (hereB k n s m ks)) ∧ Below w.heap.size w w' := by
  have hbx : ∀ o, Below w.heap.size w (w.alloc o) := fun o => (Below.refl _ _).alloc (Nat.le_refl _) _
  obtain ⟨m', hm'⟩ : ∃ m', m' = ks.length := ⟨_, rfl⟩
  rw [← hm']
  have HM : Hid (m' = ks.length) := hm'
  clear hm'
  by_cases h0 : k = 0
  · subst h0
    go_enter Tryd.func28, Tryd.ntmps28
    go_wp2_with (go_at_call 38; refine (specText_c _ hs _).mono ?_; rintro e w' ⟨rfl, rfl⟩)
    all_goals go_ret
    all_goals (refine ⟨?_, hbx _⟩; have := HM.out; go_light; simp_all [hereB] <;> (intro h; omega))
  by_cases h3 : k = 3
  · subst h3
    go_enter Tryd.func28, Tryd.ntmps28
    go_wp2_with (go_at_call 38; refine (specText_c _ hs _).mono ?_; rintro e w' ⟨rfl, rfl⟩)
    all_goals go_ret
    all_goals (refine ⟨?_, hbx _⟩; have := HM.out; go_light; simp_all [hereB] <;> (intro h; omega))
  by_cases h4 : k = 4
  · subst h4
    go_enter Tryd.func28, Tryd.ntmps28
    go_wp2_with (go_at_call 38; refine (specText_c _ hs _).mono ?_; rintro e w' ⟨rfl, rfl⟩)
    all_goals go_ret
    all_goals (refine ⟨?_, hbx _⟩; have := HM.out; go_light; simp_all [hereB] <;> (intro h; omega))
  by_cases h1 : k = 1
  · subst h1
    go_enter Tryd.func28, Tryd.ntmps28
    go_wp2_with (go_at_call 39; refine (in_c _ _ _ _).mono ?_; rintro e w' ⟨rfl, rfl⟩)
    all_goals go_ret
    all_goals (refine ⟨?_, hbx _⟩; have := HM.out; go_light; simp_all [hereB] <;> (intro h; omega))
  by_cases h2 : k = 2
  · subst h2
    go_enter Tryd.func28, Tryd.ntmps28
    go_wp2_with (go_at_call 39; refine (in_c _ _ _ _).mono ?_; rintro e w' ⟨rfl, rfl⟩)
    all_goals go_ret
    all_goals (refine ⟨?_, hbx _⟩; have := HM.out; go_light; simp_all [hereB] <;> (intro h; omega))
  · have e0 : (k == 0) = false := by simpa using h0
    have e1 : (k == 1) = false := by simpa using h1
    have e2 : (k == 2) = false := by simpa using h2
    have e3 : (k == 3) = false := by simpa using h3
    have e4 : (k == 4) = false := by simpa using h4
    have e5 : (k == 5) = false := by simpa using hk
    have HZ : Hid (hereB k n s m ks = false) := by
      show _ = _
      simp only [hereB, e0, e1, e2, e3, e4, e5]
      simp
    clear e0 e1 e2 e3 e4 e5
    have hk' : ¬ k = 5 := hk
    go_enter Tryd.func28, Tryd.ntmps28
    go_wp2_with fail
    all_goals go_ret
    all_goals (refine ⟨?_, hbx _⟩; have := HZ.out; go_light; simp_all)
end Go.Proofs.YtbolphjigjpmiaaDoor
