/-
  What the program's look at one text of a Pre answers (it goes over the text's runes): a contract for the walks; condition: the string is no longer than an int can count.
-/
import Derived.Test.YtdnpfkknnaepoaaDoorVerA
namespace Go.Proofs.YtdnpfkknnaepoaaDoor
open Go.RowKit
set_option linter.unusedSimpArgs false
set_option linter.unusedVariables false

theorem iterPos_of {w : World} {k : Nat} {s : ByteArray} {p : Nat} (h : w.heap[k]? = some (.stringIter s p)) : w.iterPos k = p := by simp [World.iterPos, h]
theorem rune_high (s : ByteArray) (pos : Nat) (h : pos < s.size) (ha : 128 ≤ (s[pos]).toNat) : preB ((Utf8.decode s pos).1 : Int) = false := pre_high (by have := (decode_high s pos h ha).1; omega)
theorem byte_high (s : ByteArray) (pos : Nat) (h : pos < s.size) (ha : 128 ≤ (s[pos]).toNat) : preB ((s[pos]).toNat : Int) = false := pre_high (by omega)

set_option maxHeartbeats 2000000 in
set_option maxRecDepth 100000 in
theorem implPart_c (s : ByteArray) (hs : s.size ≤ maxLen) (w : World) :
    Calls Tryd.prog 43 #[.string s] w fun e w' => e = .returned (.bool (partB s)) ∧ Below w.heap.size w w' := by
  have hs0 := hs
  unfold maxLen at hs
  by_cases h0 : s.size = 0
  · have h0' : ((s.size : Int) == 0) = true := by simp [h0]
    go_enter Tryd.func43, Tryd.ntmps43
    go_wp2
    go_ret
    exact ⟨ret_bool (partB_out (.inl h0)).symm, Below.refl _ _⟩
  have h0' : ((s.size : Int) == 0) = false := size_ne h0
  by_cases h8 : 8 < s.size
  · have h8' : (8 : Int) < (s.size : Int) := by omega
    go_enter Tryd.func43, Tryd.ntmps43
    go_wp2
    go_ret
    exact ⟨ret_bool (partB_out (.inr h8)).symm, Below.refl _ _⟩
  have h8' : ¬ (8 : Int) < (s.size : Int) := by omega
  have hp0 : 0 < s.size := by omega
  have hpi : (0 : Int) < (s.size : Int) := by omega
  have HF : Hid (firstB s = (((s[0]).toNat : Int) == 48)) := firstB_eq hp0
  go_enter Tryd.func43, Tryd.ntmps43
  go_wp2
  go_loopw [4] (fun _ wr => ∃ pos : Nat, pos ≤ s.size ∧ wr.heap[w.heap.size]? = some (.stringIter s pos) ∧ Hid (allUpto okPre s pos = true) ∧ Below w.heap.size w wr) (fun _ wr => s.size - wr.iterPos w.heap.size)
  case atStart => exact ⟨0, Nat.zero_le _, World.iter_heap w s 0, rfl, (Below.refl _ _).alloc (Nat.le_refl _) _⟩
  case round =>
    obtain ⟨pos, hk, hit, hh, hbw⟩ := hrel
    have hpos0 := iterPos_of hit
    by_cases hp : pos < s.size
    · by_cases ha : (s[pos]).toNat < 128
      · have hnx : ∀ ty, (Instr.next (.pointer (some ⟨w.heap.size, 0, none⟩)) true ty).run Tryd.prog wr = _ := fun ty => Lib.run_next_ascii_at wr w.heap.size s pos ty hit hp ha
        have hit2 := Lib.iterAt_heap wr w.heap.size s pos (pos + 1) hit
        have hbw2 := Lib.below_iterAt hbw (k := w.heap.size) (Nat.le_refl _) s (pos + 1)
        obtain ⟨W1, hW1⟩ : ∃ W1, W1 = wr.iterAt w.heap.size s (pos + 1) := ⟨_, rfl⟩
        rw [← hW1] at hnx hit2 hbw2
        clear hW1 hit hbw
        go_wp2_with (go_at_call 75; refine (isPreSign_c _ _).mono ?_; rintro e w' ⟨rfl, rfl⟩)
        · have h1 : (!preB ((s[pos]).toNat : Int)) = true := by assumption
          go_ret
          exact ⟨ret_bool (partB_bad (end_false hp (by simpa [okPre] using h1))).symm, hbw2⟩
        · have h1 : (!preB ((s[pos]).toNat : Int)) = false := by assumption
          go_roundw
          case rel => exact ⟨pos + 1, by omega, hit2, step_true hp hh (by simpa [okPre] using h1), hbw2⟩
          case measure => rw [iterPos_of hit2, hpos0]; omega
      · have hnx : ∀ ty, (Instr.next (.pointer (some ⟨w.heap.size, 0, none⟩)) true ty).run Tryd.prog wr = _ := fun ty => Lib.run_next_any_at wr w.heap.size s pos ty hit hp
        have hbw2 := Lib.below_iterAt hbw (k := w.heap.size) (Nat.le_refl _) s (pos + (Utf8.decode s pos).2)
        have hr := rune_high s pos hp (by omega)
        have HB := byte_high s pos hp (by omega)
        obtain ⟨r, hr'⟩ : ∃ r : Int, r = ((Utf8.decode s pos).1 : Int) := ⟨_, rfl⟩
        obtain ⟨W1, hW1⟩ : ∃ W1, W1 = wr.iterAt w.heap.size s (pos + (Utf8.decode s pos).2) := ⟨_, rfl⟩
        rw [← hW1, ← hr'] at hnx
        rw [← hW1] at hbw2
        rw [← hr'] at hr
        have HB' : Hid (preB ((s[pos]).toNat : Int) = false) := HB
        clear hW1 hit hbw hr' HB
        go_wp2_with (go_at_call 75; refine (isPreSign_c _ _).mono ?_; rintro e w' ⟨rfl, rfl⟩)
        go_ret
        exact ⟨ret_bool (partB_bad (end_false hp HB'.out)).symm, hbw2⟩
    · have hnx : ∀ ty, (Instr.next (.pointer (some ⟨w.heap.size, 0, none⟩)) true ty).run Tryd.prog wr = _ := fun ty => Lib.run_next_end_at wr w.heap.size s pos ty hit hp
      have he : pos = s.size := by omega
      subst he
      have HA : Hid (allUpto okPre s s.size = true) := hh
      clear hh hpos0
      by_cases h1 : s.size = 1
      · have h1' : ((s.size : Int) == 1) = true := by simp [h1]
        go_wp2
        go_ret
        exact ⟨ret_bool (by rw [partB_in hp0 (by omega) HA.out]; simp [h1]), hbw⟩
      · have h1' : ((s.size : Int) == 1) = false := by rw [beq_eq_false_iff_ne]; omega
        cases hf : (((s[0]).toNat : Int) == 48) with
        | true =>
          have hf' : (((s[0]).toNat : Int) != 48) = false := by rw [bne, hf]; rfl
          go_wp2_with (go_at_call 82; refine (implDigits_c s hs0 _).mono ?_; rintro e w' ⟨rfl, rfl⟩)
          go_ret
          exact ⟨ret_bool (by rw [partB_in hp0 (by omega) HA.out, HF.out, hf]; simp [h1]), hbw⟩
        | false =>
          have hf' : (((s[0]).toNat : Int) != 48) = true := by rw [bne, hf]; rfl
          go_wp2
          go_ret
          exact ⟨ret_bool (by rw [partB_in hp0 (by omega) HA.out, HF.out, hf]; simp [h1]), hbw⟩
end Go.Proofs.YtdnpfkknnaepoaaDoor
