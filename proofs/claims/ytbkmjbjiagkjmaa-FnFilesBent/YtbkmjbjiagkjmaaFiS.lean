/-
  The draws of the law on files: a path, a list, a list and a path, two lists; contracts for the walks; condition: the code is of at most 2 to the 20 bytes.
-/
import Derived.Test.YtbkmjbjiagkjmaaFiQ
namespace Go.Proofs.Ytbkmjbjiagkjmaa
open Go.RowKit Go.Maps
set_option linter.unusedSimpArgs false
set_option linter.unusedVariables false

set_option maxHeartbeats 1000000 in
set_option maxRecDepth 100000 in
theorem drawFilesOk_c (v : Value) (zs : List Int) (w : World) (hr : Reads w v (bytesV zs)) (hn : zs.length ≤ 1048576) (hz : ∀ z ∈ zs, 0 ≤ z ∧ z ≤ 255) :
    Calls Try.prog 21 #[v] w fun e w' => ∃ (x : Value) (L : List FileD), e = .returned x ∧ w'.ownsRow w.heap.size 26 2 x L.length (cellsF L) ∧ anyF L ∧ Below w.heap.size w w' := by
  go_enter Try.func21, Try.ntmps21
  go_wp2_with fail
  go_at_call 55
  refine (new_c _ zs _ hr hn hz).mono ?_
  rintro e w1 ⟨g, rfl, hc1, hb1⟩
  go_wp2_with fail
  go_at_call 56
  refine (any5_c _ g zs _ hc1 hb1.size).mono ?_
  rintro e w2 ⟨x2, L, rfl, o2, hL, hc2, hg2⟩
  go_wp2_with fail
  go_ret
  exact ⟨_, L, rfl, owns_lower2 o2 hb1.size, hL, below_curR hb1 hc1 hb1.size hg2⟩

set_option maxHeartbeats 1000000 in
set_option maxRecDepth 100000 in
theorem drawGetFile_c (v : Value) (zs : List Int) (w : World) (hr : Reads w v (bytesV zs)) (hn : zs.length ≤ 1048576) (hz : ∀ z ∈ zs, 0 ≤ z ∧ z ≤ 255) :
    Calls Try.prog 22 #[v] w fun e w' => ∃ (x : Value) (L : List FileD) (p : ByteArray), e = .returned (.tuple #[x, .string p]) ∧ w'.ownsRow w.heap.size 26 2 x L.length (cellsF L) ∧ anyF L ∧ p.size ≤ 20 ∧ Below w.heap.size w w' := by
  go_enter Try.func22, Try.ntmps22
  go_wp2_with fail
  go_at_call 55
  refine (new_c _ zs _ hr hn hz).mono ?_
  rintro e w1 ⟨g, rfl, hc1, hb1⟩
  have hgl := cur_lt hc1
  go_wp2_with fail
  go_at_call 56
  refine (any5_c _ g zs _ hc1 hb1.size).mono ?_
  rintro e w2 ⟨x2, L, rfl, o2, hL, hc2, hg2⟩
  go_wp2_with fail
  go_at_call 58
  refine (path5_c _ g zs _ hc2).mono ?_
  rintro e w3 ⟨p, hp, rfl, hc3, hg3⟩
  have o3 := o2.kept hg3 (.inr (fun e => by have := (o2.lt g e).1; omega))
  go_wp2_with fail
  go_ret2
  exact ⟨_, L, p, rfl, owns_lower2 o3 hb1.size, hL, pathsL_small p hp, below_curR hb1 hc1 hb1.size (grown_trans hg2 hg3)⟩

set_option maxHeartbeats 1000000 in
set_option maxRecDepth 100000 in
theorem drawDropFile_c (v : Value) (zs : List Int) (w : World) (hr : Reads w v (bytesV zs)) (hn : zs.length ≤ 1048576) (hz : ∀ z ∈ zs, 0 ≤ z ∧ z ≤ 255) :
    Calls Try.prog 24 #[v] w fun e w' => ∃ (x : Value) (L : List FileD) (p : ByteArray), e = .returned (.tuple #[x, .string p]) ∧ w'.ownsRow w.heap.size 26 2 x L.length (cellsF L) ∧ anyF L ∧ p.size ≤ 20 ∧ Below w.heap.size w w' := by
  go_enter Try.func24, Try.ntmps24
  go_wp2_with fail
  go_at_call 22
  refine (drawGetFile_c _ zs _ hr hn hz).mono ?_
  rintro e w1 ⟨x, L, p, rfl, o1, hL, hp, b1⟩
  go_wp2_with fail
  go_ret2
  exact ⟨_, L, p, rfl, o1, hL, hp, b1⟩

def pathOkL0 : List ByteArray := [⟨#[]⟩, ⟨#[97]⟩, ⟨#[47, 97]⟩, ⟨#[97, 47]⟩, ⟨#[97, 47, 47, 98]⟩, ⟨#[97, 47, 46, 47, 98]⟩, ⟨#[46, 46]⟩, ⟨#[97, 47, 46, 46]⟩, ⟨#[97, 46, 98, 47, 95, 45]⟩, ⟨#[65]⟩, ⟨#[49, 47, 50, 47, 51, 47, 52]⟩, ⟨#[49, 47, 50, 47, 51, 47, 52, 47, 53]⟩, ⟨#[116, 119, 101, 108, 118, 101, 45, 98, 121, 116, 101, 115]⟩, ⟨#[116, 104, 105, 114, 116, 101, 101, 110, 45, 98, 121, 116, 101]⟩, ⟨#[97, 32, 98]⟩]
theorem pathOkL0_small : pathOkL0.all (fun t => decide (t.size ≤ 20)) = true := by decide +kernel
def pathOkL (a : ByteArray) : List ByteArray := [⟨#[]⟩, ⟨#[97]⟩, ⟨#[47, 97]⟩, ⟨#[97, 47]⟩, ⟨#[97, 47, 47, 98]⟩, ⟨#[97, 47, 46, 47, 98]⟩, ⟨#[46, 46]⟩, ⟨#[97, 47, 46, 46]⟩, ⟨#[97, 46, 98, 47, 95, 45]⟩, ⟨#[65]⟩, ⟨#[49, 47, 50, 47, 51, 47, 52]⟩, ⟨#[49, 47, 50, 47, 51, 47, 52, 47, 53]⟩, ⟨#[116, 119, 101, 108, 118, 101, 45, 98, 121, 116, 101, 115]⟩, ⟨#[116, 104, 105, 114, 116, 101, 101, 110, 45, 98, 121, 116, 101]⟩, ⟨#[97, 32, 98]⟩, a]
theorem pathOkL_small {a t : ByteArray} (ha : a.size ≤ 20) (h : t ∈ pathOkL a) : t.size ≤ 20 := by
  have hc : pathOkL a = pathOkL0 ++ [a] := rfl
  rw [hc] at h
  rcases List.mem_append.1 h with h | h
  · exact of_decide_eq_true (List.all_eq_true.1 pathOkL0_small t h)
  · simp only [List.mem_cons, List.not_mem_nil, or_false] at h; subst h; exact ha

set_option maxHeartbeats 1000000 in
set_option maxRecDepth 100000 in
theorem drawPathOk_c (v : Value) (zs : List Int) (w : World) (hr : Reads w v (bytesV zs)) (hn : zs.length ≤ 1048576) (hz : ∀ z ∈ zs, 0 ≤ z ∧ z ≤ 255) :
    Calls Try.prog 20 #[v] w fun e w' => ∃ t : ByteArray, t.size ≤ 20 ∧ e = .returned (.string t) ∧ Below w.heap.size w w' := by
  go_enter Try.func20, Try.ntmps20
  go_wp2_with fail
  go_at_call 55
  refine (new_c _ zs _ hr hn hz).mono ?_
  rintro e w1 ⟨g, rfl, hc1, hb1⟩
  go_wp2_with fail
  go_at_call 58
  refine (path5_c _ g zs _ hc1).mono ?_
  rintro e w2 ⟨a, ha, rfl, hc2, hg2⟩
  have H := strAt_c _ g zs (pathOkL a) w2 hc2 (by simp [pathOkL]) (by simp [pathOkL])
  go_wp2_with (go_at_call 57; refine H.mono ?_; rintro e w4 ⟨t, ht, rfl, hc4, hg4⟩)
  go_ret
  exact ⟨t, pathOkL_small (pathsL_small a ha) ht, rfl, below_curR hb1 hc1 hb1.size (grown_trans hg2 (grown_trans (World.grownBy_alloc _ _ _) hg4))⟩
end Go.Proofs.Ytbkmjbjiagkjmaa
