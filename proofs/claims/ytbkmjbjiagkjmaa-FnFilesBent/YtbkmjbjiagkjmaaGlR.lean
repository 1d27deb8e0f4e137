/-
  Patterns, paths and lists of files that are drawn: contracts for the walks; conditions: the cursor lies in memory as told, the code has at most 2 to the 20 bytes.
-/
import Derived.Test.YtbkmjbjiagkjmaaFiJ
import Derived.Test.YtbkmjbjiagkjmaaNumTextS
namespace Go.Proofs.Ytbkmjbjiagkjmaa
open Go.RowKit Go.Maps
set_option linter.unusedSimpArgs false
set_option linter.unusedVariables false

def globsL : List ByteArray := [⟨#[42, 42]⟩, ⟨#[97, 47, 42]⟩, ⟨#[97, 47, 42, 42]⟩, ⟨#[42, 47, 120]⟩, ⟨#[42, 42, 47, 120]⟩, ⟨#[63, 47, 115, 114, 99, 47, 42]⟩, ⟨#[91, 97, 98, 93, 47, 120]⟩, ⟨#[91, 33, 97, 98, 93, 47, 42, 42]⟩, ⟨#[97, 47, 115, 114, 99, 47, 109]⟩, ⟨#[116, 111, 112]⟩, ⟨#[98, 47, 42, 46, 109, 100]⟩, ⟨#[42, 42, 47, 115, 114, 99, 47, 42, 42]⟩, ⟨#[99, 47, 115, 114, 99, 47, 110, 42]⟩, ⟨#[42, 46, 42]⟩, ⟨#[42, 97, 42]⟩]
theorem globsL_small : ∀ t ∈ globsL, t.size ≤ 20 := by decide +kernel
def globOkL (a b : ByteArray) : List ByteArray := [⟨#[]⟩, ⟨#[91]⟩, ⟨#[91, 93]⟩, ⟨#[91, 97]⟩, ⟨#[91, 33, 93]⟩, ⟨#[91, 97, 98, 99, 100, 101, 102, 93]⟩, ⟨#[91, 65, 93]⟩, ⟨#[97, 47, 47, 98]⟩, ⟨#[65]⟩, ⟨#[42, 42, 97]⟩, ⟨#[42, 42, 42]⟩, ⟨#[49, 47, 50, 47, 51, 47, 52, 47, 53]⟩, ⟨#[91, 97, 93, 91, 98, 93]⟩, ⟨#[42, 42, 42, 42, 42, 42, 42, 42, 42, 42, 42, 42]⟩, ⟨#[42, 42, 42, 42, 42, 42, 42, 42, 42, 42, 42, 42, 42]⟩, a, b]
theorem globOkL_small {a b : ByteArray} (ha : a.size ≤ 20) (hb : b.size ≤ 20) : ∀ t ∈ globOkL a b, t.size ≤ 20 := by
  have h : ∀ t ∈ ([⟨#[]⟩, ⟨#[91]⟩, ⟨#[91, 93]⟩, ⟨#[91, 97]⟩, ⟨#[91, 33, 93]⟩, ⟨#[91, 97, 98, 99, 100, 101, 102, 93]⟩, ⟨#[91, 65, 93]⟩, ⟨#[97, 47, 47, 98]⟩, ⟨#[65]⟩, ⟨#[42, 42, 97]⟩, ⟨#[42, 42, 42]⟩, ⟨#[49, 47, 50, 47, 51, 47, 52, 47, 53]⟩, ⟨#[91, 97, 93, 91, 98, 93]⟩, ⟨#[42, 42, 42, 42, 42, 42, 42, 42, 42, 42, 42, 42]⟩, ⟨#[42, 42, 42, 42, 42, 42, 42, 42, 42, 42, 42, 42, 42]⟩] : List ByteArray), t.size ≤ 20 := by decide +kernel
  intro t ht
  have e : globOkL a b = [⟨#[]⟩, ⟨#[91]⟩, ⟨#[91, 93]⟩, ⟨#[91, 97]⟩, ⟨#[91, 33, 93]⟩, ⟨#[91, 97, 98, 99, 100, 101, 102, 93]⟩, ⟨#[91, 65, 93]⟩, ⟨#[97, 47, 47, 98]⟩, ⟨#[65]⟩, ⟨#[42, 42, 97]⟩, ⟨#[42, 42, 42]⟩, ⟨#[49, 47, 50, 47, 51, 47, 52, 47, 53]⟩, ⟨#[91, 97, 93, 91, 98, 93]⟩, ⟨#[42, 42, 42, 42, 42, 42, 42, 42, 42, 42, 42, 42]⟩, ⟨#[42, 42, 42, 42, 42, 42, 42, 42, 42, 42, 42, 42, 42]⟩] ++ [a, b] := rfl
  rw [e, List.mem_append] at ht
  rcases ht with ht | ht
  · exact h t ht
  · simp only [List.mem_cons, List.not_mem_nil, or_false] at ht
    rcases ht with rfl | rfl <;> assumption
def drawL (a b c : ByteArray) : List ByteArray := [a, b, c, ⟨#[]⟩, ⟨#[97]⟩, ⟨#[120]⟩]
def PL : List ByteArray := pathsL ++ [⟨#[]⟩, ⟨#[97]⟩, ⟨#[120]⟩]
theorem drawL_mem {a b c t : ByteArray} (ha : a ∈ pathsL) (hb : b ∈ pathsL) (hc : c ∈ pathsL) (h : t ∈ drawL a b c) : t ∈ PL := by
  unfold drawL at h
  unfold PL
  rw [List.mem_append]
  simp only [List.mem_cons, List.not_mem_nil, or_false] at h ⊢
  rcases h with rfl | rfl | rfl | h
  · exact .inl ha
  · exact .inl hb
  · exact .inl hc
  · exact .inr h
def oddL : List ByteArray := [⟨#[]⟩, ⟨#[97]⟩, ⟨#[122, 47]⟩, ⟨#[122, 47, 46, 47, 97]⟩, ⟨#[65]⟩, ⟨#[49, 47, 50, 47, 51, 47, 52, 47, 53]⟩, ⟨#[122, 47, 116, 104, 105, 114, 116, 101, 101, 110, 45, 98, 121, 116, 101]⟩, ⟨#[122, 122]⟩]
theorem oddL_small : ∀ t ∈ oddL, t.size ≤ 20 := by decide +kernel

theorem grown_ownR {w W w4 : World} {g : Nat} {r : Option Nat} (h : w.grownBy W (some g)) (k : W.grownBy w4 r) (hr : ∀ j, r = some j → w.heap.size ≤ j) : w.grownBy w4 (some g) := by
  refine ⟨k.os.trans h.os, k.tape.trans h.tape, k.output.trans h.output, Nat.le_trans h.size k.size, fun i hi hne => ?_⟩
  rw [k.block i (Nat.lt_of_lt_of_le hi h.size) (fun e => by have := hr i e.symm; omega)]
  exact h.block i hi hne

set_option maxHeartbeats 1000000 in
theorem glob6_c (base g : Nat) (zs : List Int) (w : World) (hc : Cur w base g zs) :
    Calls Try.prog 77 #[.pointer (some ⟨g, 0, none⟩)] w fun e w' => ∃ t, t.size ≤ 20 ∧ e = .returned (.string t) ∧ Cur w' base g zs ∧ w.grownBy w' (some g) := by
  have H := strAt_c base g zs globsL w hc (by decide) (by decide)
  go_enter Try.func77, Try.ntmps77
  go_wp2_with (go_at_call 57; refine H.mono ?_; rintro e w1 ⟨t, ht, rfl, c1, g1⟩)
  go_ret
  exact ⟨t, globsL_small t ht, rfl, c1, grown_trans (World.grownBy_alloc _ _ _) g1⟩

theorem below_curR {w w1 w2 : World} {base g : Nat} {zs : List Int} (hb : Below base w w1) (hc : Cur w1 base g zs) (hbw : base ≤ w1.heap.size) (hg : w1.grownBy w2 (some g)) : Below base w w2 :=
  Below.grown hb hg hbw (fun k hk => by have := hc.1; simp at hk; omega)

set_option maxHeartbeats 1000000 in
set_option maxRecDepth 100000 in
theorem drawGlobOk_c (v : Value) (zs : List Int) (w : World) (hr : Reads w v (bytesV zs)) (hn : zs.length ≤ 1048576) (hz : ∀ z ∈ zs, 0 ≤ z ∧ z ≤ 255) :
    Calls Try.prog 34 #[v] w fun e w' => ∃ t : ByteArray, t.size ≤ 20 ∧ e = .returned (.string t) ∧ Below w.heap.size w w' := by
  go_enter Try.func34, Try.ntmps34
  go_wp2_with fail
  go_at_call 55
  refine (new_c _ zs _ hr hn hz).mono ?_
  rintro e w1 ⟨g, rfl, hc1, hb1⟩
  go_wp2_with fail
  go_at_call 77
  refine (glob6_c _ g zs _ hc1).mono ?_
  rintro e w2 ⟨a, ha, rfl, hc2, hg2⟩
  go_wp2_with fail
  go_at_call 77
  refine (glob6_c _ g zs _ hc2).mono ?_
  rintro e w3 ⟨b, hb, rfl, hc3, hg3⟩
  have H := strAt_c _ g zs (globOkL a b) w3 hc3 (by simp [globOkL]) (by simp [globOkL])
  go_wp2_with (go_at_call 57; refine H.mono ?_; rintro e w4 ⟨t, ht, rfl, hc4, hg4⟩)
  go_ret
  exact ⟨t, globOkL_small ha hb t ht, rfl, below_curR hb1 hc1 hb1.size (grown_trans (grown_trans hg2 hg3) (grown_trans (World.grownBy_alloc _ _ _) hg4))⟩

set_option maxHeartbeats 1000000 in
set_option maxRecDepth 100000 in
theorem drawMatches_c (v : Value) (zs : List Int) (w : World) (hr : Reads w v (bytesV zs)) (hn : zs.length ≤ 1048576) (hz : ∀ z ∈ zs, 0 ≤ z ∧ z ≤ 255) :
    Calls Try.prog 32 #[v] w fun e w' => ∃ g p : ByteArray, g.size ≤ 20 ∧ p ∈ PL ∧ e = .returned (.tuple #[.string g, .string p]) ∧ Below w.heap.size w w' := by
  go_enter Try.func32, Try.ntmps32
  go_wp2_with fail
  go_at_call 55
  refine (new_c _ zs _ hr hn hz).mono ?_
  rintro e w1 ⟨g, rfl, hc1, hb1⟩
  go_wp2_with fail
  go_at_call 77
  refine (glob6_c _ g zs _ hc1).mono ?_
  rintro e w2 ⟨gt, hgt, rfl, hc2, hg2⟩
  go_wp2_with fail
  go_at_call 71
  refine (once_c _ g zs _ _ hc2).mono ?_
  rintro e w3 ⟨o, rfl, hc3, hg3⟩
  have G3 := grown_trans hg2 hg3
  have B3 := below_curR hb1 hc1 hb1.size G3
  clear hc1 hg2 hc2 hg3
  cases o with
  | true =>
    go_wp2_with fail
    go_at_call 34
    refine (drawGlobOk_c _ zs _ (hr.below B3) hn hz).mono ?_
    rintro e w4 ⟨gt2, hgt2, rfl, b4⟩
    have hc4 := cur_grown hc3 (grown_of_below b4 none) (fun k hk => by cases hk) (by simp)
    have B4 := B3.trans (b4.mono B3.size)
    go_wp2_with fail
    go_at_call 58
    refine (path5_c _ g zs _ hc4).mono ?_
    rintro e w5 ⟨p1, hp1, rfl, hc5, hg5⟩
    go_wp2_with fail
    go_at_call 58
    refine (path5_c _ g zs _ hc5).mono ?_
    rintro e w6 ⟨p2, hp2, rfl, hc6, hg6⟩
    go_wp2_with fail
    go_at_call 58
    refine (path5_c _ g zs _ hc6).mono ?_
    rintro e w7 ⟨p3, hp3, rfl, hc7, hg7⟩
    have H := strAt_c _ g zs (drawL p1 p2 p3) w7 hc7 (by simp [drawL]) (by simp [drawL])
    go_wp2_with (go_at_call 57; refine H.mono ?_; rintro e w8 ⟨t, ht, rfl, hc8, hg8⟩)
    go_ret2
    exact ⟨gt2, t, hgt2, drawL_mem hp1 hp2 hp3 ht, rfl, below_curR B4 hc4 B4.size (grown_trans (grown_trans (grown_trans hg5 hg6) hg7) (grown_trans (World.grownBy_alloc _ _ _) hg8))⟩
  | false =>
    go_wp2_with fail
    go_at_call 58
    refine (path5_c _ g zs _ hc3).mono ?_
    rintro e w5 ⟨p1, hp1, rfl, hc5, hg5⟩
    go_wp2_with fail
    go_at_call 58
    refine (path5_c _ g zs _ hc5).mono ?_
    rintro e w6 ⟨p2, hp2, rfl, hc6, hg6⟩
    go_wp2_with fail
    go_at_call 58
    refine (path5_c _ g zs _ hc6).mono ?_
    rintro e w7 ⟨p3, hp3, rfl, hc7, hg7⟩
    have H := strAt_c _ g zs (drawL p1 p2 p3) w7 hc7 (by simp [drawL]) (by simp [drawL])
    go_wp2_with (go_at_call 57; refine H.mono ?_; rintro e w8 ⟨t, ht, rfl, hc8, hg8⟩)
    go_ret2
    exact ⟨gt, t, hgt, drawL_mem hp1 hp2 hp3 ht, rfl, below_curR B3 hc3 B3.size (grown_trans (grown_trans (grown_trans hg5 hg6) hg7) (grown_trans (World.grownBy_alloc _ _ _) hg8))⟩
end Go.Proofs.Ytbkmjbjiagkjmaa
