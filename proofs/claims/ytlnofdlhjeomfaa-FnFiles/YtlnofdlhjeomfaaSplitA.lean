/-
  What a text falls into between the bytes c, and what the specification's Split answers: just that list; conditions: the text has at most 2 to the 20 bytes and a few more.
-/
import Derived.Test.YtlnofdlhjeomfaaStrs
import Derived.Lib.Strings
import Derived.Lib.IndexLaws
import Derived.WalkSpells
namespace Go.Proofs.Ytlnofdlhjeomfaa
open Go.RowKit
set_option linter.unusedSimpArgs false
set_option linter.unusedVariables false

/-- The pieces behind place i, the piece at hand having begun at place b. -/
def splitGo (s : ByteArray) (c : Int) : Nat → Nat → Nat → List ByteArray
  | 0, _, b => [s.extract b s.size]
  | f + 1, i, b => if ((s.data[i]!).toNat : Int) = c then s.extract b i :: splitGo s c f (i + 1) (i + 1) else splitGo s c f (i + 1) b
def splitS (s : ByteArray) (c : Int) : List ByteArray := splitGo s c s.size 0 0

theorem splitGo_hit (s : ByteArray) (c : Int) (i b : Nat) (hi : i < s.size) (h : ((s.data[i]!).toNat : Int) = c) : splitGo s c (s.size - i) i b = s.extract b i :: splitGo s c (s.size - (i + 1)) (i + 1) (i + 1) := by
  obtain ⟨f, hf⟩ : ∃ f, s.size - i = f + 1 := ⟨s.size - i - 1, by omega⟩
  rw [hf, splitGo, if_pos h, show s.size - (i + 1) = f by omega]
theorem splitGo_miss (s : ByteArray) (c : Int) (i b : Nat) (hi : i < s.size) (h : ¬ ((s.data[i]!).toNat : Int) = c) : splitGo s c (s.size - i) i b = splitGo s c (s.size - (i + 1)) (i + 1) b := by
  obtain ⟨f, hf⟩ : ∃ f, s.size - i = f + 1 := ⟨s.size - i - 1, by omega⟩
  rw [hf, splitGo, if_neg h, show s.size - (i + 1) = f by omega]
theorem splitGo_end (s : ByteArray) (c : Int) (b : Nat) : splitGo s c (s.size - s.size) s.size b = [s.extract b s.size] := by
  rw [Nat.sub_self, splitGo]

theorem strs_append (xs ys : List ByteArray) : strsV xs ++ strsV ys = strsV (xs ++ ys) := by simp [strsV]

set_option maxHeartbeats 2000000 in
set_option maxRecDepth 100000 in
theorem specSplit_c (s : ByteArray) (c : Int) (w : World) (hs : s.size ≤ 1048576) :
    Calls Try.prog 105 #[.string s, .int .u8 c] w fun e w' => ∃ v, e = .returned v ∧ w'.ownsRow w.heap.size 9 1 v (splitS s c).length (strsV (splitS s c)) ∧ Below w.heap.size w w' := by
  obtain ⟨i0, hi, hz0, hz1, hz2⟩ := info_parts infoS
  have ho : (w.alloc (.cells #[] 9)).ownsRow w.heap.size 9 1 (.slice (some ⟨w.heap.size, 0, none⟩) 0 0) 0 [] := World.ownsRow_lit w #[] 0 (Nat.le_refl _) (by unfold maxLen; omega) rfl
  go_enter Try.func105, Try.ntmps105
  go_wp2
  go_loopw [5, 6, 7] (fun vo vb vi wr => ∃ (i b : Nat) (xs : List ByteArray), vi = .int .i64 (i : Int) ∧ vb = .int .i64 (b : Int) ∧ i ≤ s.size + 1 ∧ b ≤ i ∧ xs.length ≤ i ∧ wr.ownsRow w.heap.size 9 1 vo xs.length (strsV xs) ∧ Hid ((i ≤ s.size ∧ xs ++ splitGo s c (s.size - i) i b = splitS s c) ∨ (i = s.size + 1 ∧ xs = splitS s c)) ∧ Below w.heap.size w wr) (fun _ _ vi _ => s.size + 1 - (intOf vi).toNat)
  case atStart => exact ⟨0, 0, [], rfl, rfl, by omega, by omega, by simp, ho, .inl ⟨by omega, rfl⟩, (Below.refl _ _).alloc (Nat.le_refl _) _⟩
  case round =>
    obtain ⟨i, b, xs, rfl, rfl, hi1, hbi, hxl, hown, hh, hbr⟩ := hrel
    clear ho
    by_cases hle : i ≤ s.size
    · have hh1 : xs ++ splitGo s c (s.size - i) i b = splitS s c := by
        rcases hh.out with h | h
        · exact h.2
        · omega
      have HH : Hid (xs ++ splitGo s c (s.size - i) i b = splitS s c) := hh1
      have hlei : (i : Int) ≤ (s.size : Int) := by omega
      clear hh hh1
      by_cases heq : i = s.size
      · subst heq
        have heq' : ((s.size : Int) == (s.size : Int)) = true := by simp
        go_wp2_with (at_builtin; refine wpList_append_own _ rfl _ _ 34 rfl w.heap.size 9 i0 (.string ⟨#[]⟩) 1 16 Try.underlying34 hi hz0 hz1 hz2 rfl (by decide) _ xs.length (strsV xs) rfl (hown.alloc _) ⟨wr.heap.size, 0, none⟩ 1 1 (strsV [s.extract b s.size]) rfl rfl (cell_one_new _ _ _) (fun u hu => by simp [strsV] at hu; subst hu; rfl) (by unfold maxLen; omega) (by omega) (by have := hbr.size; simp; omega) ?_)
        intro v2 w2 o2 gr2 _
        rw [strs_append] at o2
        have hb2 : Below w.heap.size w w2 := Below.grown (hbr.alloc hbr.size _) gr2 (by have := hbr.size; simp; omega) (fun j hj => (hown.lt _ hj).1)
        have HT : Hid (xs ++ [s.extract b s.size] = splitS s c) := by have := HH.out; rw [splitGo_end] at this; exact this
        have hl2 : (xs ++ [s.extract b s.size]).length = xs.length + 1 := by simp
        rw [← hl2] at o2
        clear gr2 hown hbr hl2
        go_wp2
        go_roundw
        case rel => exact ⟨s.size + 1, s.size + 1, _, by go_num, by go_num, by omega, by omega, (by simp; omega), o2, .inr ⟨rfl, HT.out⟩, hb2⟩
        case measure => simp [intOf]
      · have hlt : i < s.size := by omega
        have heq' : ((i : Int) == (s.size : Int)) = false := by rw [beq_eq_false_iff_ne]; omega
        have hbang := byteBang s i hlt
        cases hc : (((s[i]).toNat : Int) == c) with
        | true =>
          have HT : Hid ((xs ++ [s.extract b i]) ++ splitGo s c (s.size - (i + 1)) (i + 1) (i + 1) = splitS s c) := by
            have := HH.out
            rw [splitGo_hit s c i b hlt (by rw [hbang]; simpa using hc)] at this
            show _ = _
            rw [List.append_assoc]; exact this
          clear hbang
          go_wp2_with (at_builtin; refine wpList_append_own _ rfl _ _ 34 rfl w.heap.size 9 i0 (.string ⟨#[]⟩) 1 16 Try.underlying34 hi hz0 hz1 hz2 rfl (by decide) _ xs.length (strsV xs) rfl (hown.alloc _) ⟨wr.heap.size, 0, none⟩ 1 1 (strsV [s.extract b i]) rfl rfl (cell_one_new _ _ _) (fun u hu => by simp [strsV] at hu; subst hu; rfl) (by unfold maxLen; omega) (by omega) (by have := hbr.size; simp; omega) ?_)
          intro v2 w2 o2 gr2 _
          rw [strs_append] at o2
          have hb2 : Below w.heap.size w w2 := Below.grown (hbr.alloc hbr.size _) gr2 (by have := hbr.size; simp; omega) (fun j hj => (hown.lt _ hj).1)
          have hl2 : (xs ++ [s.extract b i]).length = xs.length + 1 := by simp
          rw [← hl2] at o2
          clear gr2 hown hbr hl2
          go_wp2
          go_roundw
          case rel => exact ⟨i + 1, i + 1, _, by go_num, by go_num, by omega, by omega, (by simp; omega), o2, .inl ⟨by omega, HT.out⟩, hb2⟩
          case measure => simp [intOf]; omega
        | false =>
          have HT : Hid (xs ++ splitGo s c (s.size - (i + 1)) (i + 1) b = splitS s c) := by
            have := HH.out
            rw [splitGo_miss s c i b hlt (by rw [hbang]; simpa using hc)] at this
            exact this
          clear hbang
          go_wp2
          go_roundw
          case rel => exact ⟨i + 1, b, xs, by go_num, rfl, by omega, by omega, by omega, hown, .inl ⟨by omega, HT.out⟩, hbr⟩
          case measure => simp [intOf]; omega
    · have hlei : ¬ (i : Int) ≤ (s.size : Int) := by omega
      have e : xs = splitS s c := by
        rcases hh.out with h | h
        · omega
        · exact h.2
      go_wp2
      go_ret
      rw [← e]
      exact ⟨_, rfl, hown, hbr⟩
end Go.Proofs.Ytlnofdlhjeomfaa
