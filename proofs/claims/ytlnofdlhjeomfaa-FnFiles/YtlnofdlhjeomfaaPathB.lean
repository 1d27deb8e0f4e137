/-
  What the two functions PathOk (the program's and the specification's) answer: the same; condition: the text has at most 2 to the 20 bytes.
-/
import Derived.Test.YtlnofdlhjeomfaaPathA
import Derived.Test.YtlnofdlhjeomfaaSplitL
namespace Go.Proofs.Ytlnofdlhjeomfaa
open Go.RowKit
set_option linter.unusedSimpArgs false
set_option linter.unusedVariables false

def pathB (s : ByteArray) : Bool := decide ((splitS s 47).length ≤ 4) && (splitS s 47).all pnameB

theorem all_take_step {l : List ByteArray} {p : ByteArray → Bool} {k : Nat} (hk : k < l.length) (h : (l.take k).all p = true) (hp : p l[k] = true) : (l.take (k + 1)).all p = true := by
  rw [List.take_succ_eq_append_getElem hk, List.all_append, h]; simp [hp]
theorem all_false_at {l : List ByteArray} {p : ByteArray → Bool} {k : Nat} (hk : k < l.length) (hp : p l[k] = false) : l.all p = false := by
  rw [Bool.eq_false_iff]; intro h
  have := List.all_eq_true.1 h _ (List.getElem_mem hk)
  rw [hp] at this; cases this

set_option maxHeartbeats 1000000 in
set_option maxRecDepth 100000 in
theorem specPath_c (s : ByteArray) (w : World) (hs : s.size ≤ 1048576) :
    Calls Try.prog 86 #[.string s] w fun e w' => e = .returned (.bool (pathB s)) ∧ Below w.heap.size w w' := by
  obtain ⟨l, hl⟩ : ∃ l, l = splitS s 47 := ⟨_, rfl⟩
  have hsz : ∀ x ∈ l, x.size ≤ 1048576 := fun x hx => by rw [hl] at hx; have := splitS_piece s 47 x hx; omega
  have hln : l.length ≤ 1048577 := by rw [hl]; have := splitS_len s 47; omega
  have hpb : pathB s = (decide (l.length ≤ 4) && l.all pnameB) := by rw [pathB, ← hl]
  have hcs := specSplit_c s 47 w hs
  rw [← hl] at hcs
  rw [hpb]
  clear hl hpb
  go_enter Try.func86, Try.ntmps86
  go_wp2_with (go_at_call 105; refine hcs.mono ?_; rintro e w1 ⟨v, rfl, ho, hb⟩; obtain ⟨a, cap, rfl, _, hc⟩ := reads_strs (reads_of_owns ho); clear ho hcs)
  go_loopw [4] (fun vi wr => ∃ k : Nat, k ≤ l.length ∧ vi = .int .i64 (k : Int) ∧ Hid ((l.take k).all pnameB = true) ∧ wr = w1) (fun vi _ => l.length - (intOf vi).toNat)
  case atStart => exact ⟨0, Nat.zero_le _, rfl, (by show _ = _; simp), rfl⟩
  case round =>
    obtain ⟨k, hk, rfl, hh, rfl⟩ := hrel
    by_cases hlt : k < l.length
    · rcases hc with rfl | ⟨b, off, rfl, hbl, hc⟩
      · simp at hlt
      have hki : (k : Int) < (l.length : Int) := by omega
      have hcx := hc k hlt
      have hx := hsz l[k] (List.getElem_mem hlt)
      obtain ⟨x, hxe⟩ : ∃ x, x = l[k] := ⟨_, rfl⟩
      rw [← hxe] at hcx hx
      have HX : Hid (x = l[k]) := hxe
      have hxm : x.size ≤ maxLen := by unfold maxLen; omega
      clear hc hxe hsz
      cases hp : pnameB x with
      | true =>
        go_wp2_with (go_at_call 106; refine (specPname_c x hxm _).mono ?_; rintro e w' ⟨rfl, rfl⟩; rw [hp])
        go_roundw
        case rel => exact ⟨k + 1, by omega, by go_num, all_take_step hlt hh.out (by rw [← HX.out]; exact hp), (by first | rfl | trivial)⟩
        case measure => simp [intOf]; omega
      | false =>
        go_wp2_with (go_at_call 106; refine (specPname_c x hxm _).mono ?_; rintro e w' ⟨rfl, rfl⟩; rw [hp])
        go_ret
        exact ⟨by rw [all_false_at hlt (by rw [← HX.out]; exact hp)]; simp, hb⟩
    · have he : k = l.length := by omega
      subst he
      have ha : l.all pnameB = true := by have := hh.out; rwa [List.take_length] at this
      clear hc hsz
      go_wp2
      go_ret
      exact ⟨by rw [ha]; simp; omega, hb⟩

set_option maxHeartbeats 1000000 in
set_option maxRecDepth 100000 in
theorem implPath_c (s : ByteArray) (w : World) (hs : s.size ≤ 1048576) :
    Calls Try.prog 50 #[.string s] w fun e w' => e = .returned (.bool (pathB s)) ∧ Below w.heap.size w w' := by
  obtain ⟨l, hl⟩ : ∃ l, l = splitS s 47 := ⟨_, rfl⟩
  have hsz : ∀ x ∈ l, x.size ≤ 1048576 := fun x hx => by rw [hl] at hx; have := splitS_piece s 47 x hx; omega
  have hln : l.length ≤ 1048577 := by rw [hl]; have := splitS_len s 47; omega
  have hpb : pathB s = (decide (l.length ≤ 4) && l.all pnameB) := by rw [pathB, ← hl]
  have hcs := implSplit_c s 47 w hs (by omega) (by omega)
  rw [← hl] at hcs
  rw [hpb]
  clear hl hpb
  by_cases h4 : 4 < l.length
  · have h4' : (4 : Int) < (l.length : Int) := by omega
    have hb4 : decide (l.length ≤ 4) = false := by simp; omega
    rw [hb4]
    go_enter Try.func50, Try.ntmps50
    go_wp2_with (go_at_call 92; refine hcs.mono ?_; rintro e w1 ⟨v, rfl, ho, hb⟩; obtain ⟨a, cap, rfl, _, hc⟩ := reads_strs (reads_of_owns ho); clear ho hcs)
    go_ret
    exact ⟨rfl, hb⟩
  have h4' : ¬ (4 : Int) < (l.length : Int) := by omega
  have hb4 : decide (l.length ≤ 4) = true := by simp; omega
  rw [hb4]
  clear h4 hb4
  go_enter Try.func50, Try.ntmps50
  go_wp2_with (go_at_call 92; refine hcs.mono ?_; rintro e w1 ⟨v, rfl, ho, hb⟩; obtain ⟨a, cap, rfl, _, hc⟩ := reads_strs (reads_of_owns ho); clear ho hcs)
  go_loopw [13] (fun vi wr => ∃ k : Nat, k ≤ l.length ∧ vi = .int .i64 (k : Int) ∧ Hid ((l.take k).all pnameB = true) ∧ wr = w1) (fun vi _ => l.length - (intOf vi).toNat)
  case atStart => exact ⟨0, Nat.zero_le _, rfl, (by show _ = _; simp), rfl⟩
  case round =>
    obtain ⟨k, hk, rfl, hh, rfl⟩ := hrel
    by_cases hlt : k < l.length
    · rcases hc with rfl | ⟨b, off, rfl, hbl, hc⟩
      · simp at hlt
      have hki : (k : Int) < (l.length : Int) := by omega
      have hcx := hc k hlt
      have hx := hsz l[k] (List.getElem_mem hlt)
      obtain ⟨x, hxe⟩ : ∃ x, x = l[k] := ⟨_, rfl⟩
      rw [← hxe] at hcx hx
      have HX : Hid (x = l[k]) := hxe
      have hxm : x.size ≤ maxLen := by unfold maxLen; omega
      clear hc hxe hsz
      cases hp : pnameB x with
      | true =>
        go_wp2_with (go_at_call 93; refine (implPname_c x hxm _).mono ?_; rintro e w' ⟨rfl, rfl⟩; rw [hp])
        go_roundw
        case rel => exact ⟨k + 1, by omega, by go_num, all_take_step hlt hh.out (by rw [← HX.out]; exact hp), (by first | rfl | trivial)⟩
        case measure => simp [intOf]; omega
      | false =>
        go_wp2_with (go_at_call 93; refine (implPname_c x hxm _).mono ?_; rintro e w' ⟨rfl, rfl⟩; rw [hp])
        go_ret
        exact ⟨by rw [all_false_at hlt (by rw [← HX.out]; exact hp)]; rfl, hb⟩
    · have he : k = l.length := by omega
      subst he
      have ha : l.all pnameB = true := by have := hh.out; rwa [List.take_length] at this
      clear hc hsz
      go_wp2
      go_ret
      exact ⟨by rw [ha]; rfl, hb⟩
end Go.Proofs.Ytlnofdlhjeomfaa
